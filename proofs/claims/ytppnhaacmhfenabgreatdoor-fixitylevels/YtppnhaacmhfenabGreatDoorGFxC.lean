/-
  A row is brought in order (order), by a contract.
  A leaf is in order; a row of leaves is made, by contracts.
  A row of leaves and operators, by resolver.node's contract.
  Resolve of a row of leaves and operators, by a contract.
  The laws' own nodes, and the built-in table, by contracts.
-/
import Derived.Test.YtppnhaacmhfenabGreatDoorGFx10
namespace Go.Proofs.YtppnhaacmhfenabGreatDoor
open Go.RowKit Go.Shelf Go.Maps
set_option linter.unusedVariables false

theorem rd_all (R : Rw) (m : Nat) : ∀ d, RdOK R (rdM R.kind (holdM R.fs) m d)
  | 0 => fun f p W h hne => absurd rfl hne
  | d + 1 => rd_c R (rdM R.kind (holdM R.fs) m d) m (rd_all R m d)
def topF : Fx := ⟨[], 3, -1⟩
/-- What order answers. -/
def OrdRes (w w' : World) (e : Ending) : RR → Prop
  | .ok n rest => ∃ o cap, e = .returned (.tuple #[n.val o cap, .pointer none]) ∧ Fr w.heap.size w' n o cap ∧ Below w.heap.size w w'
  | .bad pos => ∃ g, e = .returned (.tuple #[ndZero, .pointer (some ⟨g, 0, none⟩)]) ∧ Blk w' g #[.int .i64 7, .int .i64 pos] 33 ∧ Below w.heap.size w w'
  | .stuck => True

set_option maxRecDepth 100000 in
set_option maxHeartbeats 4000000 in
theorem order_c (kind : Int) (fs : List Fx) (mb b c : Nat) (its : List It) (g off cap m d : Nat) (w : World) (hm : Blk w mb #[.map (some b)] 70) (hst : FxSt w b c fs) (hit : ItAt w w.heap.size its g off) (hg : g < w.heap.size) (hlen : its.length ≤ 1000000000) (hnm : ∀ k (h : k < its.length), its[k].minus = false ∧ its[k].node.kids = []) (hne : rdM kind (holdM fs) m d topF its ≠ .stuck) :
    Calls Tryz.prog 35 #[.agg #[.func (.func 32) #[] #[.pointer (some ⟨mb, 0, none⟩)]], .int .i64 kind, .slice (some ⟨g, off, none⟩) its.length cap] w fun e w' => OrdRes w w' e (rdM kind (holdM fs) m d topF its) := by
  obtain ⟨s, hs⟩ : ∃ s, w.heap.size = s := ⟨_, rfl⟩
  obtain ⟨R, hR⟩ : ∃ R : Rw, R = ⟨kind, fs, mb, b, c, its, g, off, cap, s, s, s + 1, s + 1 + 1, s + 1 + 1 + 1 + 1, s + 1 + 1 + 1 + 1 + 1, s + 1 + 1 + 1 + 1 + 1 + 1, s + 1 + 1 + 1 + 1 + 1 + 1 + 1⟩ := ⟨_, rfl⟩
  obtain ⟨V, hV⟩ : ∃ V, (((((((w.alloc (.cells #[.func (.func 32) #[] #[.pointer (some ⟨mb, 0, none⟩)]] 54)).alloc (.cells #[.int .i64 kind] 3)).alloc (.cells #[.slice (some ⟨g, off, none⟩) its.length cap] 75)).alloc (.cells #[.int .i64 0, .string ⟨#[]⟩, .int .i64 0, .slice none 0 0, .int .i64 0] 28)).alloc (.cells #[.int .i64 0] 3)).alloc (.cells #[.func (.func 57) #[] #[.pointer (some ⟨s + 1 + 1 + 1 + 1 + 1 + 1, 0, none⟩), .pointer (some ⟨s + 1 + 1 + 1 + 1, 0, none⟩), .pointer (some ⟨s + 1 + 1, 0, none⟩), .pointer (some ⟨s, 0, none⟩), .pointer (some ⟨s + 1, 0, none⟩), .pointer (some ⟨s + 1 + 1 + 1 + 1 + 1, 0, none⟩)]] 96)).alloc (.cells #[.func (.func 54) #[] #[.pointer (some ⟨s + 1 + 1, 0, none⟩), .pointer (some ⟨s + 1 + 1 + 1 + 1, 0, none⟩), .pointer (some ⟨s + 1 + 1 + 1 + 1 + 1, 0, none⟩)]] 96)) = V := ⟨_, rfl⟩
  have HV : Hid ((((((((w.alloc (.cells #[.func (.func 32) #[] #[.pointer (some ⟨mb, 0, none⟩)]] 54)).alloc (.cells #[.int .i64 kind] 3)).alloc (.cells #[.slice (some ⟨g, off, none⟩) its.length cap] 75)).alloc (.cells #[.int .i64 0, .string ⟨#[]⟩, .int .i64 0, .slice none 0 0, .int .i64 0] 28)).alloc (.cells #[.int .i64 0] 3)).alloc (.cells #[.func (.func 57) #[] #[.pointer (some ⟨s + 1 + 1 + 1 + 1 + 1 + 1, 0, none⟩), .pointer (some ⟨s + 1 + 1 + 1 + 1, 0, none⟩), .pointer (some ⟨s + 1 + 1, 0, none⟩), .pointer (some ⟨s, 0, none⟩), .pointer (some ⟨s + 1, 0, none⟩), .pointer (some ⟨s + 1 + 1 + 1 + 1 + 1, 0, none⟩)]] 96)).alloc (.cells #[.func (.func 54) #[] #[.pointer (some ⟨s + 1 + 1, 0, none⟩), .pointer (some ⟨s + 1 + 1 + 1 + 1, 0, none⟩), .pointer (some ⟨s + 1 + 1 + 1 + 1 + 1, 0, none⟩)]] 96)) = V) := hV
  have B0 : Blk V (s) #[.func (.func 32) #[] #[.pointer (some ⟨mb, 0, none⟩)]] 54 := by
    have h := Blk.new w #[.func (.func 32) #[] #[.pointer (some ⟨mb, 0, none⟩)]] (54)
    simp only [hs] at h
    rw [← hV]
    exact ((((((h).alloc _).alloc _).alloc _).alloc _).alloc _).alloc _
  have B1 : Blk V (s + 1) #[.int .i64 kind] 3 := by
    have h := Blk.new (w.alloc (.cells #[.func (.func 32) #[] #[.pointer (some ⟨mb, 0, none⟩)]] 54)) #[.int .i64 kind] (3)
    simp only [World.size_alloc, hs] at h
    rw [← hV]
    exact (((((h).alloc _).alloc _).alloc _).alloc _).alloc _
  have B2 : Blk V (s + 1 + 1) #[.slice (some ⟨g, off, none⟩) its.length cap] 75 := by
    have h := Blk.new ((w.alloc (.cells #[.func (.func 32) #[] #[.pointer (some ⟨mb, 0, none⟩)]] 54)).alloc (.cells #[.int .i64 kind] 3)) #[.slice (some ⟨g, off, none⟩) its.length cap] (75)
    simp only [World.size_alloc, hs] at h
    rw [← hV]
    exact ((((h).alloc _).alloc _).alloc _).alloc _
  have B3 : Blk V (s + 1 + 1 + 1) #[.int .i64 0, .string ⟨#[]⟩, .int .i64 0, .slice none 0 0, .int .i64 0] 28 := by
    have h := Blk.new (((w.alloc (.cells #[.func (.func 32) #[] #[.pointer (some ⟨mb, 0, none⟩)]] 54)).alloc (.cells #[.int .i64 kind] 3)).alloc (.cells #[.slice (some ⟨g, off, none⟩) its.length cap] 75)) #[.int .i64 0, .string ⟨#[]⟩, .int .i64 0, .slice none 0 0, .int .i64 0] (28)
    simp only [World.size_alloc, hs] at h
    rw [← hV]
    exact (((h).alloc _).alloc _).alloc _
  have B4 : Blk V (s + 1 + 1 + 1 + 1) #[.int .i64 0] 3 := by
    have h := Blk.new ((((w.alloc (.cells #[.func (.func 32) #[] #[.pointer (some ⟨mb, 0, none⟩)]] 54)).alloc (.cells #[.int .i64 kind] 3)).alloc (.cells #[.slice (some ⟨g, off, none⟩) its.length cap] 75)).alloc (.cells #[.int .i64 0, .string ⟨#[]⟩, .int .i64 0, .slice none 0 0, .int .i64 0] 28)) #[.int .i64 0] (3)
    simp only [World.size_alloc, hs] at h
    rw [← hV]
    exact ((h).alloc _).alloc _
  have B5 : Blk V (s + 1 + 1 + 1 + 1 + 1) #[.func (.func 57) #[] #[.pointer (some ⟨s + 1 + 1 + 1 + 1 + 1 + 1, 0, none⟩), .pointer (some ⟨s + 1 + 1 + 1 + 1, 0, none⟩), .pointer (some ⟨s + 1 + 1, 0, none⟩), .pointer (some ⟨s, 0, none⟩), .pointer (some ⟨s + 1, 0, none⟩), .pointer (some ⟨s + 1 + 1 + 1 + 1 + 1, 0, none⟩)]] 96 := by
    have h := Blk.new (((((w.alloc (.cells #[.func (.func 32) #[] #[.pointer (some ⟨mb, 0, none⟩)]] 54)).alloc (.cells #[.int .i64 kind] 3)).alloc (.cells #[.slice (some ⟨g, off, none⟩) its.length cap] 75)).alloc (.cells #[.int .i64 0, .string ⟨#[]⟩, .int .i64 0, .slice none 0 0, .int .i64 0] 28)).alloc (.cells #[.int .i64 0] 3)) #[.func (.func 57) #[] #[.pointer (some ⟨s + 1 + 1 + 1 + 1 + 1 + 1, 0, none⟩), .pointer (some ⟨s + 1 + 1 + 1 + 1, 0, none⟩), .pointer (some ⟨s + 1 + 1, 0, none⟩), .pointer (some ⟨s, 0, none⟩), .pointer (some ⟨s + 1, 0, none⟩), .pointer (some ⟨s + 1 + 1 + 1 + 1 + 1, 0, none⟩)]] (96)
    simp only [World.size_alloc, hs] at h
    rw [← hV]
    exact (h).alloc _
  have B6 : Blk V (s + 1 + 1 + 1 + 1 + 1 + 1) #[.func (.func 54) #[] #[.pointer (some ⟨s + 1 + 1, 0, none⟩), .pointer (some ⟨s + 1 + 1 + 1 + 1, 0, none⟩), .pointer (some ⟨s + 1 + 1 + 1 + 1 + 1, 0, none⟩)]] 96 := by
    have h := Blk.new ((((((w.alloc (.cells #[.func (.func 32) #[] #[.pointer (some ⟨mb, 0, none⟩)]] 54)).alloc (.cells #[.int .i64 kind] 3)).alloc (.cells #[.slice (some ⟨g, off, none⟩) its.length cap] 75)).alloc (.cells #[.int .i64 0, .string ⟨#[]⟩, .int .i64 0, .slice none 0 0, .int .i64 0] 28)).alloc (.cells #[.int .i64 0] 3)).alloc (.cells #[.func (.func 57) #[] #[.pointer (some ⟨s + 1 + 1 + 1 + 1 + 1 + 1, 0, none⟩), .pointer (some ⟨s + 1 + 1 + 1 + 1, 0, none⟩), .pointer (some ⟨s + 1 + 1, 0, none⟩), .pointer (some ⟨s, 0, none⟩), .pointer (some ⟨s + 1, 0, none⟩), .pointer (some ⟨s + 1 + 1 + 1 + 1 + 1, 0, none⟩)]] 96)) #[.func (.func 54) #[] #[.pointer (some ⟨s + 1 + 1, 0, none⟩), .pointer (some ⟨s + 1 + 1 + 1 + 1, 0, none⟩), .pointer (some ⟨s + 1 + 1 + 1 + 1 + 1, 0, none⟩)]] (96)
    simp only [World.size_alloc, hs] at h
    rw [← hV]
    exact h
  have HB : Hid (Below s w V) := by
    show Below _ _ _
    rw [← hV, ← hs]
    exact ((((((((Below.refl _ w)).alloc (by simp <;> omega) _).alloc (by simp <;> omega) _).alloc (by simp <;> omega) _).alloc (by simp <;> omega) _).alloc (by simp <;> omega) _).alloc (by simp <;> omega) _).alloc (by simp <;> omega) _
  have HS : Hid (V.heap.size = s + 1 + 1 + 1 + 1 + 1 + 1 + 1) := by show _ = _; rw [← hV]; simp only [World.size_alloc, hs]
  have HOK : Hid (RwOK R V 0) := by
    subst hR
    have hb := HB.out
    have hml := hm.lt
    have hbl := hst.lt
    rw [hs] at hml hbl hg
    refine ⟨B0, (hb.block mb hml).trans hm, hst.same (hb.block b hbl), B1, B2, B4, B5, B6, fun k hk => ⟨?_, ?_⟩, hg, ?_, Nat.zero_le _, hlen, hnm, ?_, ?_, ?_⟩
    · have := (hit k hk).1
      rw [hs] at this
      exact this.below hb _ _ _ hg
    · exact (hb.cell (p := ⟨g, _, none⟩) hg).trans (hit k hk).2
    · show s ≤ _; rw [HS.out]; omega
    · refine ⟨?_, ?_, ?_, ?_, ?_, ?_, ?_⟩ <;> (simp only; omega)
    · refine ⟨?_, ?_, ?_, ?_, ?_, ?_, ?_, ?_, ?_⟩ <;> (simp only; omega)
    · show s + 1 + 1 + 1 + 1 + 1 + 1 + 1 ≤ _; rw [HS.out]; exact Nat.le_refl _
  have HC : Hid (Calls Tryz.prog 57 #[.agg #[.string ⟨#[]⟩, .int .i64 3, .int .i64 (-1)], .pointer (some ⟨s + 1 + 1 + 1 + 1 + 1 + 1, 0, none⟩), .pointer (some ⟨s + 1 + 1 + 1 + 1, 0, none⟩), .pointer (some ⟨s + 1 + 1, 0, none⟩), .pointer (some ⟨s, 0, none⟩), .pointer (some ⟨s + 1, 0, none⟩), .pointer (some ⟨s + 1 + 1 + 1 + 1 + 1, 0, none⟩)] V fun e w' => RdRes R 0 V w' e (rdM kind (holdM fs) m d topF its)) := by
    have h := rd_all R m d topF 0 V HOK.out
    subst hR
    exact h hne
  have HP : Hid (R.bP = s + 1 + 1 + 1 + 1) := by subst hR; rfl
  have HB3 : Hid (Blk V (s + 1 + 1 + 1) #[.int .i64 0, .string ⟨#[]⟩, .int .i64 0, .slice none 0 0, .int .i64 0] 28) := B3
  clear hV B0 B1 B2 B3 B4 B5 B6 HOK hm hst hit hg hlen hnm
  have hne' := hne
  have HNE : Hid (rdM kind (holdM fs) m d topF its ≠ .stuck) := hne
  clear hne hne'
  have HSs : Hid (w.heap.size = s) := hs
  go_enter Tryz.func35, Tryz.ntmps35
  go_wp2_with (go_at_call 57; fail)
  rw [HV.out]
  refine HC.out.mono ?_
  rintro e w1 hres
  obtain ⟨n, o, ncap, ft, rfl, HZ, HE⟩ : ∃ (n : Nd) (o : Option Addr) (ncap : Nat) (ft : Option Addr), e = .returned (.tuple #[.agg #[.int .i64 n.kind, .string (bs n.name), .int .i64 n.num, .slice o n.kids.length ncap, .int .i64 n.pos], .pointer ft]) ∧ Hid (Blk w1 (s + 1 + 1 + 1) #[.int .i64 0, .string ⟨#[]⟩, .int .i64 0, .slice none 0 0, .int .i64 0] 28) ∧ Hid (OrdRes w (((((w1.setCell ⟨s + 1 + 1 + 1, 0, none⟩ (.int .i64 n.kind)).setCell ⟨s + 1 + 1 + 1, 1, none⟩ (.string (bs n.name))).setCell ⟨s + 1 + 1 + 1, 2, none⟩ (.int .i64 n.num)).setCell ⟨s + 1 + 1 + 1, 3, none⟩ (.slice o n.kids.length ncap)).setCell ⟨s + 1 + 1 + 1, 4, none⟩ (.int .i64 n.pos)) (.returned (.tuple #[.agg #[.int .i64 n.kind, .string (bs n.name), .int .i64 n.num, .slice o n.kids.length ncap, .int .i64 n.pos], .pointer ft])) (rdM kind (holdM fs) m d topF its)) := by
    have hP := HP.out
    have hS := HS.out
    have hB := HB.out
    cases hod : rdM kind (holdM fs) m d topF its with
    | ok n rest =>
      rw [hod] at hres
      obtain ⟨o, ncap, p', rfl, hFr, hK, hre, hlt, hBt⟩ := hres
      have hZ := HB3.out.but (by omega) hBt
      refine ⟨n, o, ncap, none, rfl, hZ, o, ncap, rfl, ?_, ?_⟩
      · have hb := but_sets5 w1 (s + 1 + 1 + 1) (.int .i64 n.kind) (.string (bs n.name)) (.int .i64 n.num) (.slice o n.kids.length ncap) (.int .i64 n.pos)
        exact hFr.keep (by omega) (fun k hk hlo => hb.block k hk (by omega)) hb.size
      · have hb := but_sets5 w1 (s + 1 + 1 + 1) (.int .i64 n.kind) (.string (bs n.name)) (.int .i64 n.num) (.slice o n.kids.length ncap) (.int .i64 n.pos)
        rw [hs]
        have := hB.size
        exact hB.trans ((hBt.below (by omega) (by omega)).trans (hb.below (by omega) (by have := hBt.size; omega)))
    | bad pos =>
      rw [hod] at hres
      obtain ⟨g', p', rfl, hg', hK, hBt⟩ := hres
      have hZ := HB3.out.but (by omega) hBt
      refine ⟨.mk 0 [] 0 [] 0, none, 0, some ⟨g', 0, none⟩, rfl, hZ, g', rfl, ?_, ?_⟩
      · exact hg'.but (blk_ne25 hg' hZ) (but_sets5 w1 (s + 1 + 1 + 1) (.int .i64 (Nd.mk 0 [] 0 [] 0).kind) (.string (bs (Nd.mk 0 [] 0 [] 0).name)) (.int .i64 (Nd.mk 0 [] 0 [] 0).num) (.slice none (Nd.mk 0 [] 0 [] 0).kids.length 0) (.int .i64 (Nd.mk 0 [] 0 [] 0).pos))
      · have hb := but_sets5 w1 (s + 1 + 1 + 1) (.int .i64 (Nd.mk 0 [] 0 [] 0).kind) (.string (bs (Nd.mk 0 [] 0 [] 0).name)) (.int .i64 (Nd.mk 0 [] 0 [] 0).num) (.slice none (Nd.mk 0 [] 0 [] 0).kids.length 0) (.int .i64 (Nd.mk 0 [] 0 [] 0).pos)
        rw [hs]
        have := hB.size
        exact hB.trans ((hBt.below (by omega) (by omega)).trans (hb.below (by omega) (by have := hBt.size; omega)))
    | stuck => exact absurd hod HNE.out
  obtain ⟨z0, z1, z2, z3, z4, y0, y1, y2, y3, y4⟩ := HZ.out.cells5F
  have lz := HZ.out.lt
  clear hres
  go_wp2
  have hK := HZ.out.sets5F (.int .i64 n.kind) (.string (bs n.name)) (.int .i64 n.num) (.slice o n.kids.length ncap) (.int .i64 n.pos)
  have hE := HE.out
  generalize (((((w1.setCell ⟨s + 1 + 1 + 1, 0, none⟩ (.int .i64 n.kind)).setCell ⟨s + 1 + 1 + 1, 1, none⟩ (.string (bs n.name))).setCell ⟨s + 1 + 1 + 1, 2, none⟩ (.int .i64 n.num)).setCell ⟨s + 1 + 1 + 1, 3, none⟩ (.slice o n.kids.length ncap)).setCell ⟨s + 1 + 1 + 1, 4, none⟩ (.int .i64 n.pos)) = WF at hK hE ⊢
  obtain ⟨g0, g1, g2, g3, g4, _, _, _, _, _⟩ := hK.cells5F
  exact bodyPost_ret (v := .tuple #[.agg #[.int .i64 n.kind, .string (bs n.name), .int .i64 n.num, .slice o n.kids.length ncap, .int .i64 n.pos], .pointer ft]) (by simp [results, Tryz.results35, go_sem, g0, g1, g2, g3, g4]) rfl hE
end Go.Proofs.YtppnhaacmhfenabGreatDoor

namespace Go.Proofs.YtppnhaacmhfenabGreatDoor
open Go.RowKit Go.Shelf Go.Maps
set_option linter.unusedVariables false

set_option maxRecDepth 100000 in
theorem grow0_c (w : World) : Calls Tryz.prog 36 #[.slice none 0 0, .int .i64 0] w fun e w' => e = .returned (.slice none 0 0) ∧ w' = w := by
  go_enter Tryz.func36, Tryz.ntmps36
  go_wp2
  go_ret
  exact ⟨rfl, rfl⟩

set_option maxRecDepth 100000 in
set_option maxHeartbeats 4000000 in
theorem nodeLeaf_c (mb : Nat) (k u ps : Int) (nm : ByteArray) (o : Option Addr) (cap : Nat) (h1 : k ≠ 17) (h2 : k ≠ 44) (w : World) :
    Calls Tryz.prog 22 #[.agg #[.func (.func 32) #[] #[.pointer (some ⟨mb, 0, none⟩)]], .agg #[.int .i64 k, .string nm, .int .i64 u, .slice o 0 cap, .int .i64 ps]] w fun e w' => e = .returned (.tuple #[.agg #[.int .i64 k, .string nm, .int .i64 u, .slice none 0 0, .int .i64 ps], .pointer none]) ∧ Below w.heap.size w w' := by
  have t1 : (k == 17) = false := beq_eq_false_iff_ne.2 h1
  have t2 : (k == 44) = false := beq_eq_false_iff_ne.2 h2
  have HG : Hid (∀ W : World, Calls Tryz.prog 36 #[.slice none 0 0, .int .i64 0] W fun e w' => e = .returned (.slice none 0 0) ∧ w' = W) := grow0_c
  have HB : Hid (∀ a b c : Obj, Below w.heap.size w (((w.alloc a).alloc b).alloc c)) := fun a b c => (((Below.refl _ w).alloc (Nat.le_refl _) _).alloc (by simp) _).alloc (by simp; omega) _
  clear h1 h2
  go_enter Tryz.func22, Tryz.ntmps22
  go_wp2_with (go_at_call 36; refine (HG.out _).mono ?_; rintro e w1 ⟨rfl, rfl⟩)
  go_loopw [8, 46] (fun ks i wr => ks = .slice none 0 0 ∧ i = .int .i64 0 ∧ Hid (wr = ((w.alloc (.cells #[.func (.func 32) #[] #[.pointer (some ⟨mb, 0, none⟩)]] 54)).alloc (.cells #[.int .i64 k, .string nm, .int .i64 u, .slice o 0 cap, .int .i64 ps] 28)).alloc (.cells #[.int .i64 0, .string ⟨#[]⟩, .int .i64 0, .slice none 0 0, .int .i64 0] 28))) (fun _ _ _ => 0)
  case atStart => exact ⟨rfl, rfl, rfl⟩
  case round =>
    obtain ⟨rfl, rfl, hw⟩ := hrel
    have hw' := hw.out
    subst hw'
    go_wp2
    exact bodyPost_ret (v := .tuple #[.agg #[.int .i64 k, .string nm, .int .i64 u, .slice none 0 0, .int .i64 ps], .pointer none]) (by simp [results, Tryz.results22, go_sem]) rfl ⟨rfl, HB.out _ _ _⟩
/-- A leaf as an item. -/
def itC (n : Nd) : List Value := [.int .i64 n.kind, .string (bs n.name), .int .i64 n.num, .slice none 0 0, .int .i64 n.pos, .bool false]
theorem it_get : ∀ (ts : List Nd) (k : Nat) (h : k < ts.length) (q : Nat), q < 6 → (ts.flatMap itC)[k * 6 + q]? = (itC ts[k])[q]?
  | t :: ts, 0, h, q, hq => by
    rw [List.flatMap_cons, Nat.zero_mul, Nat.zero_add, List.getElem?_append_left (by show q < 6; exact hq)]; rfl
  | t :: ts, k + 1, h, q, hq => by
    have hf : (itC t).length = 6 := rfl
    rw [List.flatMap_cons, List.getElem?_append_right (by rw [hf]; omega), hf, show (k + 1) * 6 + q - 6 = k * 6 + q by omega]
    exact it_get ts k (by simpa using h) q hq
theorem itC_one (n : Nd) : ∀ u ∈ itC n, u.oneCell' = true := by
  intro u hu
  unfold itC at hu
  simp only [List.mem_cons, List.not_mem_nil, or_false] at hu
  rcases hu with rfl | rfl | rfl | rfl | rfl | rfl <;> rfl
def itZero : Value := .agg #[.int .i64 0, .string ⟨#[]⟩, .int .i64 0, .slice none 0 0, .int .i64 0, .bool false]
theorem infoIt : (Tryz.prog.info? 95).map (fun i => (i.zero, i.size, i.bytes)) = some (some itZero, 6, 72) := by kernel_rfl

set_option maxRecDepth 100000 in
set_option maxHeartbeats 4000000 in
theorem row_c (mb : Nat) (kids : List Nd) (hl : kids.length ≤ 1000000) (hk : ∀ n ∈ kids, n.kids = [] ∧ n.kind ≠ 17 ∧ n.kind ≠ 44 ∧ n.kind ≠ 18) (hwf : ∀ n ∈ kids, (-9223372036854775808 ≤ n.kind ∧ n.kind ≤ 9223372036854775807) ∧ n.name.length ≤ 9223372036854775807 ∧ (-9223372036854775808 ≤ n.num ∧ n.num ≤ 9223372036854775807)) (o : Option Addr) (cap : Nat) (w : World) (h : KIn w w.heap.size o kids) :
    Calls Tryz.prog 34 #[.agg #[.func (.func 32) #[] #[.pointer (some ⟨mb, 0, none⟩)]], .slice o kids.length cap] w fun e w' => ∃ g cap', e = .returned (.tuple #[.slice (some ⟨g, 0, none⟩) kids.length cap', .pointer none]) ∧ ItAt w' w'.heap.size (kids.map (fun n => ⟨n, false⟩)) g 0 ∧ g < w'.heap.size ∧ Below w.heap.size w w' := by
  obtain ⟨i0, hi0, hzz⟩ := Option.map_eq_some_iff.1 infoIt
  simp only [Prod.mk.injEq] at hzz
  have HI : Hid (Tryz.prog.info? 95 = some i0 ∧ i0.zero = some itZero ∧ i0.size = 6 ∧ i0.bytes = 72) := ⟨hi0, hzz.1, hzz.2.1, hzz.2.2⟩
  obtain ⟨L, hL⟩ : ∃ L, kids.length = L := ⟨_, rfl⟩
  have HLk : Hid (kids.length = L) := hL
  have HK : Hid (KIn w w.heap.size o kids) := h
  have HA : Hid (∀ n ∈ kids, n.kids = [] ∧ n.kind ≠ 17 ∧ n.kind ≠ 44 ∧ n.kind ≠ 18) := hk
  have HWf : Hid (∀ n ∈ kids, (-9223372036854775808 ≤ n.kind ∧ n.kind ≤ 9223372036854775807) ∧ n.name.length ≤ 9223372036854775807 ∧ (-9223372036854775808 ≤ n.num ∧ n.num ≤ 9223372036854775807)) := hwf
  have HLl : Hid (L ≤ 1000000) := by rw [← hL]; exact hl
  have hLi : (L : Int) ≤ 1000000 := by omega
  have HB1 : Hid (Below w.heap.size w (w.alloc (.cells #[.func (.func 32) #[] #[.pointer (some ⟨mb, 0, none⟩)]] 54))) := (Below.refl _ w).alloc (Nat.le_refl _) _
  have HBk : Hid (Blk (w.alloc (.cells #[.func (.func 32) #[] #[.pointer (some ⟨mb, 0, none⟩)]] 54)) w.heap.size #[.func (.func 32) #[] #[.pointer (some ⟨mb, 0, none⟩)]] 54) := Blk.new _ _ _
  rw [hL]
  clear hi0 hzz hl hk hwf h hL
  go_enter Tryz.func34, Tryz.ntmps34
  go_wp2_with (at_make; refine wpList_make_own _ rfl _ _ 75 rfl (w.heap.size + 1) 95 i0 itZero 6 Tryz.underlying75 HI.out.1 HI.out.2.1 HI.out.2.2.1 .i64 .i64 (L : Int) L rfl rfl rfl (by rw [HI.out.2.2.2]; have := HLl.out; omega) (by have := HLl.out; unfold maxLen; omega) (by simp) ?_; intro w1 hown1 hgrow1)
  have HO1 : Hid (w1.ownsRow (w.heap.size + 1) 95 6 (.slice (some ⟨w.heap.size + 1, 0, none⟩) 0 L) 0 []) := by
    have h : w1.ownsRow (w.heap.size + 1) 95 6 (.slice (some ⟨w.heap.size + 1, 0, none⟩) 0 L) 0 [] := by simpa using hown1
    exact h
  have HG1 : Hid (Below w.heap.size w w1 ∧ Blk w1 w.heap.size #[.func (.func 32) #[] #[.pointer (some ⟨mb, 0, none⟩)]] 54) := ⟨HB1.out.trans ⟨hgrow1.os, hgrow1.tape, hgrow1.output, hgrow1.size, fun k hk => hgrow1.block k (by have := HB1.out.size; omega) (fun e => by cases e)⟩, HBk.out.gr hgrow1 (fun r e => by cases e)⟩
  clear hown1 hgrow1
  go_loopw [6, 16] (fun rw' i wr => ∃ k : Nat, k ≤ L ∧ i = .int .i64 k ∧ rw' = .slice (some ⟨w.heap.size + 1, 0, none⟩) k L ∧ Hid (wr.ownsRow (w.heap.size + 1) 95 6 (.slice (some ⟨w.heap.size + 1, 0, none⟩) k L) k ((kids.take k).flatMap itC)) ∧ Hid (Below w.heap.size w wr ∧ Blk wr w.heap.size #[.func (.func 32) #[] #[.pointer (some ⟨mb, 0, none⟩)]] 54)) (fun _ i _ => L - (intOf i).toNat)
  case atStart => exact ⟨0, Nat.zero_le _, rfl, rfl, HO1, HG1⟩
  case round =>
    obtain ⟨k, hk, rfl, rfl, hO, hG⟩ := hrel
    by_cases hlt : k < L
    · have hkL : k < kids.length := by rw [HLk.out]; exact hlt
      have hki : (k : Int) < (L : Int) := by omega
      obtain ⟨g, off, rfl, hg, hKA⟩ := HK.out.at k hkL
      have hNd := ((hKA.get kids g off k hkL).below hG.out.1 _ _ _ hg)
      obtain ⟨n, hn⟩ : ∃ n, kids[k] = n := ⟨_, rfl⟩
      obtain ⟨q1, q2, q3, q4⟩ := HA.out kids[k] (List.getElem_mem _)
      rw [hn] at hNd q1 q2 q3 q4
      obtain ⟨o3, c3, k0, k1, k2, k3, k4, hc, hc2, hkk⟩ := hNd.cells
      rw [q1] at k3
      have k3' : wr.cell? ⟨g, off + k * 5 + 3, none⟩ = some (.slice o3 0 c3) := k3
      have hgr : g < wr.heap.size := Nat.lt_of_lt_of_le hg hG.out.1.size
      have t18 : (n.kind == 18) = false := beq_eq_false_iff_ne.2 q4
      have Htk : Hid ((kids.take (k + 1)).flatMap itC = (kids.take k).flatMap itC ++ itC n) := by
        show _ = _
        rw [List.take_succ_eq_append_getElem hkL, List.flatMap_append, hn]
        simp
      have HCn : Hid (∀ X : World, Calls Tryz.prog 22 #[.agg #[.func (.func 32) #[] #[.pointer (some ⟨mb, 0, none⟩)]], .agg #[.int .i64 n.kind, .string (bs n.name), .int .i64 n.num, .slice o3 0 c3, .int .i64 n.pos]] X fun e w' => e = .returned (.tuple #[.agg #[.int .i64 n.kind, .string (bs n.name), .int .i64 n.num, .slice none 0 0, .int .i64 n.pos], .pointer none]) ∧ Below X.heap.size X w') := fun X => nodeLeaf_c mb n.kind n.num n.pos (bs n.name) o3 c3 q2 q3 X
      have c0 : wr.cell? ⟨w.heap.size, 0, none⟩ = some (.func (.func 32) #[] #[.pointer (some ⟨mb, 0, none⟩)]) := hG.out.2.cell 0 _ rfl
      have l0 := hG.out.2.lt
      have HS1 : Hid (wr.heap.size > w.heap.size + 1) := (hO.out.lt (w.heap.size + 1) rfl).2
      clear hKA hg hNd hn hc hc2 hkk k3 hkL q1 q2 q3 q4 HO1 HG1
      go_wp2
      go_loopw [6] (fun s6 wx => s6 = .slice (some ⟨w.heap.size + 1, 0, none⟩) k L ∧ Hid (wx = wr.alloc (.cells #[.int .i64 n.kind, .string (bs n.name), .int .i64 n.num, .slice o3 0 c3, .int .i64 n.pos] 28))) (fun _ _ => 0)
      case atStart => exact ⟨rfl, rfl⟩
      case round =>
        obtain ⟨rfl, hwx⟩ := hrel
        have hwx' := hwx.out
        subst hwx'
        clear hwx
        go_wp2_with (go_at_call 22; fail)
        refine (HCn.out _).mono ?_
        rintro e w2 ⟨rfl, hb2⟩
        have hbw : Below wr.heap.size wr (wr.alloc (.cells #[.int .i64 n.kind, .string (bs n.name), .int .i64 n.num, .slice o3 0 c3, .int .i64 n.pos] 28)) := (Below.refl _ _).alloc (Nat.le_refl _) _
        have HB2 : Hid (Below wr.heap.size wr w2) := hbw.trans (hb2.mono hbw.size)
        have HO3 : Hid (((w2.alloc (.cells #[.int .i64 n.kind, .string (bs n.name), .int .i64 n.num, .slice none 0 0, .int .i64 n.pos] 28)).alloc (.cells #[.int .i64 n.kind, .string (bs n.name), .int .i64 n.num, .slice none 0 0, .int .i64 n.pos, .bool false] 95)).ownsRow (w.heap.size + 1) 95 6 (.slice (some ⟨w.heap.size + 1, 0, none⟩) k L) k ((kids.take k).flatMap itC)) := ((ownsB hO.out (fun j hj => HB2.out.block j (hO.out.lt j hj).2)).alloc _).alloc _
        have HNw : Hid (∀ j u, (itC n)[j]? = some u → ((w2.alloc (.cells #[.int .i64 n.kind, .string (bs n.name), .int .i64 n.num, .slice none 0 0, .int .i64 n.pos] 28)).alloc (.cells #[.int .i64 n.kind, .string (bs n.name), .int .i64 n.num, .slice none 0 0, .int .i64 n.pos, .bool false] 95)).cell? ((⟨w2.heap.size + 1, 0, none⟩ : Addr).add j) = some u) := fun j u hu => by
          rw [Addr.add_lit, Nat.zero_add]
          exact (Blk.new2 w2 (.cells #[.int .i64 n.kind, .string (bs n.name), .int .i64 n.num, .slice none 0 0, .int .i64 n.pos] 28) #[.int .i64 n.kind, .string (bs n.name), .int .i64 n.num, .slice none 0 0, .int .i64 n.pos, .bool false] 95).cell j u (by unfold itC at hu; simpa using hu)
        clear hb2 hbw k0 k1 k2 k3' k4
        go_wp2_with (at_builtin; refine wpList_append_fits _ rfl _ _ 75 rfl (w.heap.size + 1) 95 i0 6 Tryz.underlying75 HI.out.1 HI.out.2.2.1 (w.heap.size + 1) k L ((kids.take k).flatMap itC) rfl HO3.out ⟨w2.heap.size + 1, 0, none⟩ 1 1 (itC n) rfl rfl HNw.out (itC_one n) (by omega) ?_; intro w3 hown3 hgrow3; have HO4 : Hid (w3.ownsRow (w.heap.size + 1) 95 6 (.slice (some ⟨w.heap.size + 1, 0, none⟩) (k + 1) L) (k + 1) ((kids.take k).flatMap itC ++ itC n)) := hown3; have HG4 : Hid (Below w.heap.size w w3 ∧ Blk w3 w.heap.size #[.func (.func 32) #[] #[.pointer (some ⟨mb, 0, none⟩)]] 54) := (by have ha : Below w2.heap.size w2 ((w2.alloc (.cells #[.int .i64 n.kind, .string (bs n.name), .int .i64 n.num, .slice none 0 0, .int .i64 n.pos] 28)).alloc (.cells #[.int .i64 n.kind, .string (bs n.name), .int .i64 n.num, .slice none 0 0, .int .i64 n.pos, .bool false] 95)) := ((Below.refl _ _).alloc (Nat.le_refl _) _).alloc (by simp) _; have hb : Below w.heap.size w ((w2.alloc (.cells #[.int .i64 n.kind, .string (bs n.name), .int .i64 n.num, .slice none 0 0, .int .i64 n.pos] 28)).alloc (.cells #[.int .i64 n.kind, .string (bs n.name), .int .i64 n.num, .slice none 0 0, .int .i64 n.pos, .bool false] 95)) := (hG.out.1.trans (HB2.out.mono hG.out.1.size)).trans (ha.mono (by have := hG.out.1.size; have := HB2.out.size; omega)); exact ⟨hb.trans ⟨hgrow3.os, hgrow3.tape, hgrow3.output, hgrow3.size, fun j hj => hgrow3.block j (by have := hb.size; omega) (fun e => by cases e; omega)⟩, ((hG.out.2.below HB2.out).below ha).gr hgrow3 (fun r e => by cases e; omega)⟩); clear hown3 hgrow3)
        go_roundw
        case rel => exact ⟨k + 1, by omega, by go_num, rfl, by rw [Htk.out]; exact HO4, HG4⟩
        case measure => simp [intOf]; omega
    · obtain rfl : k = L := by omega
      have HE : Hid (ItAt wr wr.heap.size (kids.map (fun n => (⟨n, false⟩ : It))) (w.heap.size + 1) 0 ∧ w.heap.size + 1 < wr.heap.size) := by
        have hO' := hO.out
        have hlt' := (hO'.lt (w.heap.size + 1) rfl).2
        rw [← HLk.out, List.take_length] at hO'
        refine ⟨fun j hj => ?_, hlt'⟩
        have hj' : j < kids.length := by simpa using hj
        have f : ∀ q u, q < 6 → (itC kids[j])[q]? = some u → wr.cell? ⟨w.heap.size + 1, 0 + j * 6 + q, none⟩ = some u := fun q u hq hu => by
          have := hO'.cells (g := w.heap.size + 1) rfl (j * 6 + q) u (by rw [it_get kids j hj' q hq]; exact hu)
          rw [Addr.add_lit, ← Nat.add_assoc] at this
          exact this
        obtain ⟨q1, q2, q3, q4⟩ := HA.out kids[j] (List.getElem_mem _)
        have hw := HWf.out kids[j] (List.getElem_mem _)
        have e : (kids.map (fun n => (⟨n, false⟩ : It)))[j] = ⟨kids[j], false⟩ := by simp
        rw [e]
        refine ⟨ndF_at (o := none) (cap := 0) ⟨.inl q1, by rw [q1]; exact Nat.le_refl _, by decide, hw⟩ (f 0 _ (by decide) rfl) (f 1 _ (by decide) rfl) (f 2 _ (by decide) rfl) ?_ (f 4 _ (by decide) rfl), f 5 _ (by decide) rfl⟩
        rw [q1]
        exact f 3 _ (by decide) rfl
      have HEq : Hid (kids.length = k) := HLk
      go_wp2
      exact bodyPost_ret (v := .tuple #[.slice (some ⟨w.heap.size + 1, 0, none⟩) k k, .pointer none]) (by simp [results, Tryz.results34, go_sem]) rfl ⟨w.heap.size + 1, k, rfl, HE.out.1, HE.out.2, hG.out.1⟩
end Go.Proofs.YtppnhaacmhfenabGreatDoor

namespace Go.Proofs.YtppnhaacmhfenabGreatDoor
open Go.RowKit Go.Shelf Go.Maps
set_option linter.unusedVariables false

def leafIts (l : List Nd) : List It := l.map (fun n => ⟨n, false⟩)
set_option maxRecDepth 100000 in
set_option maxHeartbeats 4000000 in
theorem nodeOps_c (kd : Int) (hkd : kd = 17 ∨ kd = 44) (fs : List Fx) (mb b c : Nat) (n : Nd) (hnk : n.kind = kd) (o : Option Addr) (cap m d : Nat) (w : World) (hm : Blk w mb #[.map (some b)] 70) (hst : FxSt w b c fs) (hn : NdIn w w.heap.size n o cap) (hl : n.kids.length ≤ 1000000) (hk : ∀ x ∈ n.kids, x.kids = [] ∧ x.kind ≠ 17 ∧ x.kind ≠ 44 ∧ x.kind ≠ 18) (hwf : ∀ x ∈ n.kids, (-9223372036854775808 ≤ x.kind ∧ x.kind ≤ 9223372036854775807) ∧ x.name.length ≤ 9223372036854775807 ∧ (-9223372036854775808 ≤ x.num ∧ x.num ≤ 9223372036854775807)) (hne : rdM kd (holdM fs) m d topF (leafIts n.kids) ≠ .stuck) :
    Calls Tryz.prog 22 #[.agg #[.func (.func 32) #[] #[.pointer (some ⟨mb, 0, none⟩)]], .agg #[.int .i64 kd, .string (bs n.name), .int .i64 n.num, .slice o n.kids.length cap, .int .i64 n.pos]] w fun e w' => OrdRes w w' e (rdM kd (holdM fs) m d topF (leafIts n.kids)) := by
  obtain ⟨V, hV⟩ : ∃ V, (((w.alloc (.cells #[.func (.func 32) #[] #[.pointer (some ⟨mb, 0, none⟩)]] 54)).alloc (.cells #[.int .i64 kd, .string (bs n.name), .int .i64 n.num, .slice o n.kids.length cap, .int .i64 n.pos] 28)).alloc (.cells #[.int .i64 0, .string ⟨#[]⟩, .int .i64 0, .slice none 0 0, .int .i64 0] 28)) = V := ⟨_, rfl⟩
  have HV : Hid ((((w.alloc (.cells #[.func (.func 32) #[] #[.pointer (some ⟨mb, 0, none⟩)]] 54)).alloc (.cells #[.int .i64 kd, .string (bs n.name), .int .i64 n.num, .slice o n.kids.length cap, .int .i64 n.pos] 28)).alloc (.cells #[.int .i64 0, .string ⟨#[]⟩, .int .i64 0, .slice none 0 0, .int .i64 0] 28)) = V) := hV
  have hB : Below w.heap.size w V := by rw [← hV]; exact (((Below.refl _ w).alloc (Nat.le_refl _) _).alloc (by simp) _).alloc (by simp; omega) _
  have HS : Hid (V.heap.size = w.heap.size + 1 + 1 + 1) := by show _ = _; rw [← hV]; simp
  have B0 : Blk V w.heap.size #[.func (.func 32) #[] #[.pointer (some ⟨mb, 0, none⟩)]] 54 := by rw [← hV]; exact ((Blk.new w _ _).alloc _).alloc _
  have B1 : Blk V (w.heap.size + 1) #[.int .i64 kd, .string (bs n.name), .int .i64 n.num, .slice o n.kids.length cap, .int .i64 n.pos] 28 := by rw [← hV]; exact (Blk.new2 w _ _ _).alloc _
  have B2 : Blk V (w.heap.size + 1 + 1) #[.int .i64 0, .string ⟨#[]⟩, .int .i64 0, .slice none 0 0, .int .i64 0] 28 := by
    have h := Blk.new ((w.alloc (.cells #[.func (.func 32) #[] #[.pointer (some ⟨mb, 0, none⟩)]] 54)).alloc (.cells #[.int .i64 kd, .string (bs n.name), .int .i64 n.num, .slice o n.kids.length cap, .int .i64 n.pos] 28)) #[.int .i64 0, .string ⟨#[]⟩, .int .i64 0, .slice none 0 0, .int .i64 0] 28
    simp only [World.size_alloc] at h
    rw [← hV]
    exact h
  have HB : Hid (Below w.heap.size w V) := hB
  have HCr : Hid (Calls Tryz.prog 34 #[.agg #[.func (.func 32) #[] #[.pointer (some ⟨mb, 0, none⟩)]], .slice o n.kids.length cap] V fun e w' => ∃ g cap', e = .returned (.tuple #[.slice (some ⟨g, 0, none⟩) n.kids.length cap', .pointer none]) ∧ ItAt w' w'.heap.size (leafIts n.kids) g 0 ∧ g < w'.heap.size ∧ Below V.heap.size V w') := row_c mb n.kids hl hk hwf o cap V (nin_mono (hn.below hB) hB.size).1
  have HCo : Hid (∀ (w1 : World) (g cap' : Nat), Below V.heap.size V w1 → ItAt w1 w1.heap.size (leafIts n.kids) g 0 → g < w1.heap.size → Calls Tryz.prog 35 #[.agg #[.func (.func 32) #[] #[.pointer (some ⟨mb, 0, none⟩)]], .int .i64 kd, .slice (some ⟨g, 0, none⟩) n.kids.length cap'] w1 fun e w' => OrdRes w1 w' e (rdM kd (holdM fs) m d topF (leafIts n.kids))) := by
    intro w1 g cap' hb1 hit hg
    have hml := hm.lt
    have hbl := hst.lt
    have hb2 : Below w.heap.size w w1 := hB.trans (hb1.mono hB.size)
    have hlen : (leafIts n.kids).length = n.kids.length := List.length_map _
    have h := order_c kd fs mb b c (leafIts n.kids) g 0 cap' m d w1 (hm.below hb2) (hst.below hb2) hit hg (by rw [hlen]; omega) (fun k hk' => by
      have hk'' : k < n.kids.length := by rw [hlen] at hk'; exact hk'
      have e : (leafIts n.kids)[k] = ⟨n.kids[k], false⟩ := List.getElem_map _
      rw [e]
      exact ⟨rfl, (hk n.kids[k] (List.getElem_mem _)).1⟩) hne
    rw [hlen] at h
    exact h
  have HB0 : Hid (Blk V w.heap.size #[.func (.func 32) #[] #[.pointer (some ⟨mb, 0, none⟩)]] 54) := B0
  have HB1 : Hid (Blk V (w.heap.size + 1) #[.int .i64 kd, .string (bs n.name), .int .i64 n.num, .slice o n.kids.length cap, .int .i64 n.pos] 28) := B1
  have HB2 : Hid (Blk V (w.heap.size + 1 + 1) #[.int .i64 0, .string ⟨#[]⟩, .int .i64 0, .slice none 0 0, .int .i64 0] 28) := B2
  have HNE : Hid (rdM kd (holdM fs) m d topF (leafIts n.kids) ≠ .stuck) := hne
  have t17 : ((kd == 17) || (kd == 44)) = true := by rcases hkd with rfl | rfl <;> rfl
  clear hV hB B0 B1 B2 hm hst hn hl hk hwf hne hnk
  rcases hkd with rfl | rfl
  · go_enter Tryz.func22, Tryz.ntmps22
    go_wp2_with (go_at_call 34; fail)
    rw [HV.out]
    refine HCr.out.mono ?_
    rintro e w1 ⟨g, cap', rfl, hit, hg, hb1⟩
    have HC2 : Hid (Calls Tryz.prog 35 #[.agg #[.func (.func 32) #[] #[.pointer (some ⟨mb, 0, none⟩)]], .int .i64 17, .slice (some ⟨g, 0, none⟩) n.kids.length cap'] w1 fun e w' => OrdRes w1 w' e (rdM 17 (holdM fs) m d topF (leafIts n.kids))) := HCo.out w1 g cap' hb1 hit hg
    have c0 : w1.cell? ⟨w.heap.size, 0, none⟩ = some (.func (.func 32) #[] #[.pointer (some ⟨mb, 0, none⟩)]) := (HB0.out.below hb1).cell 0 _ rfl
    have l0 := (HB0.out.below hb1).lt
    have c1 : w1.cell? ⟨w.heap.size + 1, 0, none⟩ = some (.int .i64 17) := (HB1.out.below hb1).cell 0 _ rfl
    have l1 := (HB1.out.below hb1).lt
    have HB1' : Hid (Below V.heap.size V w1) := hb1
    have HZ1 : Hid (Blk w1 (w.heap.size + 1 + 1) #[.int .i64 0, .string ⟨#[]⟩, .int .i64 0, .slice none 0 0, .int .i64 0] 28) := HB2.out.below hb1
    clear hit hg hb1
    go_wp2_with (go_at_call 35; fail)
    refine HC2.out.mono ?_
    rintro e w2 hres
    obtain ⟨x, ox, cx, ft, rfl, HZ, HE⟩ : ∃ (x : Nd) (ox : Option Addr) (cx : Nat) (ft : Option Addr), e = .returned (.tuple #[.agg #[.int .i64 x.kind, .string (bs x.name), .int .i64 x.num, .slice ox x.kids.length cx, .int .i64 x.pos], .pointer ft]) ∧ Hid (Blk w2 (w.heap.size + 1 + 1) #[.int .i64 0, .string ⟨#[]⟩, .int .i64 0, .slice none 0 0, .int .i64 0] 28) ∧ Hid (OrdRes w (((((w2.setCell ⟨w.heap.size + 1 + 1, 0, none⟩ (.int .i64 x.kind)).setCell ⟨w.heap.size + 1 + 1, 1, none⟩ (.string (bs x.name))).setCell ⟨w.heap.size + 1 + 1, 2, none⟩ (.int .i64 x.num)).setCell ⟨w.heap.size + 1 + 1, 3, none⟩ (.slice ox x.kids.length cx)).setCell ⟨w.heap.size + 1 + 1, 4, none⟩ (.int .i64 x.pos)) (.returned (.tuple #[.agg #[.int .i64 x.kind, .string (bs x.name), .int .i64 x.num, .slice ox x.kids.length cx, .int .i64 x.pos], .pointer ft])) (rdM 17 (holdM fs) m d topF (leafIts n.kids))) := by
      have hS := HS.out
      have hB := HB.out
      have hB1 := HB1'.out
      have hs1 := hB1.size
      cases hod : rdM 17 (holdM fs) m d topF (leafIts n.kids) with
      | ok x rest =>
        rw [hod] at hres
        obtain ⟨ox, cx, rfl, hFr, hBt⟩ := hres
        have hZ := HZ1.out.below hBt
        have hb := but_sets5 w2 (w.heap.size + 1 + 1) (.int .i64 x.kind) (.string (bs x.name)) (.int .i64 x.num) (.slice ox x.kids.length cx) (.int .i64 x.pos)
        refine ⟨x, ox, cx, none, rfl, hZ, ox, cx, rfl, ?_, ?_⟩
        · exact hFr.keep (by omega) (fun k hk hlo => hb.block k hk (by omega)) hb.size
        · exact hB.trans ((hB1.mono (by omega)).trans ((hBt.mono (by omega)).trans (hb.below (by omega) (by have := hBt.size; omega))))
      | bad pos =>
        rw [hod] at hres
        obtain ⟨g', rfl, hg', hBt⟩ := hres
        have hZ := HZ1.out.below hBt
        have hb := but_sets5 w2 (w.heap.size + 1 + 1) (.int .i64 (Nd.mk 0 [] 0 [] 0).kind) (.string (bs (Nd.mk 0 [] 0 [] 0).name)) (.int .i64 (Nd.mk 0 [] 0 [] 0).num) (.slice none (Nd.mk 0 [] 0 [] 0).kids.length 0) (.int .i64 (Nd.mk 0 [] 0 [] 0).pos)
        refine ⟨.mk 0 [] 0 [] 0, none, 0, some ⟨g', 0, none⟩, rfl, hZ, g', rfl, ?_, ?_⟩
        · exact hg'.but (blk_ne25 hg' hZ) hb
        · exact hB.trans ((hB1.mono (by omega)).trans ((hBt.mono (by omega)).trans (hb.below (by omega) (by have := hBt.size; omega))))
      | stuck => exact absurd hod HNE.out
    obtain ⟨z0, z1, z2, z3, z4, y0, y1, y2, y3, y4⟩ := HZ.out.cells5F
    have lz := HZ.out.lt
    clear hres c0 l0 c1 l1
    go_wp2
    have hK := HZ.out.sets5F (.int .i64 x.kind) (.string (bs x.name)) (.int .i64 x.num) (.slice ox x.kids.length cx) (.int .i64 x.pos)
    have hE := HE.out
    generalize (((((w2.setCell ⟨w.heap.size + 1 + 1, 0, none⟩ (.int .i64 x.kind)).setCell ⟨w.heap.size + 1 + 1, 1, none⟩ (.string (bs x.name))).setCell ⟨w.heap.size + 1 + 1, 2, none⟩ (.int .i64 x.num)).setCell ⟨w.heap.size + 1 + 1, 3, none⟩ (.slice ox x.kids.length cx)).setCell ⟨w.heap.size + 1 + 1, 4, none⟩ (.int .i64 x.pos)) = WF at hK hE ⊢
    obtain ⟨g0, g1, g2, g3, g4, _, _, _, _, _⟩ := hK.cells5F
    exact bodyPost_ret (v := .tuple #[.agg #[.int .i64 x.kind, .string (bs x.name), .int .i64 x.num, .slice ox x.kids.length cx, .int .i64 x.pos], .pointer ft]) (by simp [results, Tryz.results22, go_sem, g0, g1, g2, g3, g4]) rfl hE
  · go_enter Tryz.func22, Tryz.ntmps22
    go_wp2_with (go_at_call 34; fail)
    rw [HV.out]
    refine HCr.out.mono ?_
    rintro e w1 ⟨g, cap', rfl, hit, hg, hb1⟩
    have HC2 : Hid (Calls Tryz.prog 35 #[.agg #[.func (.func 32) #[] #[.pointer (some ⟨mb, 0, none⟩)]], .int .i64 44, .slice (some ⟨g, 0, none⟩) n.kids.length cap'] w1 fun e w' => OrdRes w1 w' e (rdM 44 (holdM fs) m d topF (leafIts n.kids))) := HCo.out w1 g cap' hb1 hit hg
    have c0 : w1.cell? ⟨w.heap.size, 0, none⟩ = some (.func (.func 32) #[] #[.pointer (some ⟨mb, 0, none⟩)]) := (HB0.out.below hb1).cell 0 _ rfl
    have l0 := (HB0.out.below hb1).lt
    have c1 : w1.cell? ⟨w.heap.size + 1, 0, none⟩ = some (.int .i64 44) := (HB1.out.below hb1).cell 0 _ rfl
    have l1 := (HB1.out.below hb1).lt
    have HB1' : Hid (Below V.heap.size V w1) := hb1
    have HZ1 : Hid (Blk w1 (w.heap.size + 1 + 1) #[.int .i64 0, .string ⟨#[]⟩, .int .i64 0, .slice none 0 0, .int .i64 0] 28) := HB2.out.below hb1
    clear hit hg hb1
    go_wp2_with (go_at_call 35; fail)
    refine HC2.out.mono ?_
    rintro e w2 hres
    obtain ⟨x, ox, cx, ft, rfl, HZ, HE⟩ : ∃ (x : Nd) (ox : Option Addr) (cx : Nat) (ft : Option Addr), e = .returned (.tuple #[.agg #[.int .i64 x.kind, .string (bs x.name), .int .i64 x.num, .slice ox x.kids.length cx, .int .i64 x.pos], .pointer ft]) ∧ Hid (Blk w2 (w.heap.size + 1 + 1) #[.int .i64 0, .string ⟨#[]⟩, .int .i64 0, .slice none 0 0, .int .i64 0] 28) ∧ Hid (OrdRes w (((((w2.setCell ⟨w.heap.size + 1 + 1, 0, none⟩ (.int .i64 x.kind)).setCell ⟨w.heap.size + 1 + 1, 1, none⟩ (.string (bs x.name))).setCell ⟨w.heap.size + 1 + 1, 2, none⟩ (.int .i64 x.num)).setCell ⟨w.heap.size + 1 + 1, 3, none⟩ (.slice ox x.kids.length cx)).setCell ⟨w.heap.size + 1 + 1, 4, none⟩ (.int .i64 x.pos)) (.returned (.tuple #[.agg #[.int .i64 x.kind, .string (bs x.name), .int .i64 x.num, .slice ox x.kids.length cx, .int .i64 x.pos], .pointer ft])) (rdM 44 (holdM fs) m d topF (leafIts n.kids))) := by
      have hS := HS.out
      have hB := HB.out
      have hB1 := HB1'.out
      have hs1 := hB1.size
      cases hod : rdM 44 (holdM fs) m d topF (leafIts n.kids) with
      | ok x rest =>
        rw [hod] at hres
        obtain ⟨ox, cx, rfl, hFr, hBt⟩ := hres
        have hZ := HZ1.out.below hBt
        have hb := but_sets5 w2 (w.heap.size + 1 + 1) (.int .i64 x.kind) (.string (bs x.name)) (.int .i64 x.num) (.slice ox x.kids.length cx) (.int .i64 x.pos)
        refine ⟨x, ox, cx, none, rfl, hZ, ox, cx, rfl, ?_, ?_⟩
        · exact hFr.keep (by omega) (fun k hk hlo => hb.block k hk (by omega)) hb.size
        · exact hB.trans ((hB1.mono (by omega)).trans ((hBt.mono (by omega)).trans (hb.below (by omega) (by have := hBt.size; omega))))
      | bad pos =>
        rw [hod] at hres
        obtain ⟨g', rfl, hg', hBt⟩ := hres
        have hZ := HZ1.out.below hBt
        have hb := but_sets5 w2 (w.heap.size + 1 + 1) (.int .i64 (Nd.mk 0 [] 0 [] 0).kind) (.string (bs (Nd.mk 0 [] 0 [] 0).name)) (.int .i64 (Nd.mk 0 [] 0 [] 0).num) (.slice none (Nd.mk 0 [] 0 [] 0).kids.length 0) (.int .i64 (Nd.mk 0 [] 0 [] 0).pos)
        refine ⟨.mk 0 [] 0 [] 0, none, 0, some ⟨g', 0, none⟩, rfl, hZ, g', rfl, ?_, ?_⟩
        · exact hg'.but (blk_ne25 hg' hZ) hb
        · exact hB.trans ((hB1.mono (by omega)).trans ((hBt.mono (by omega)).trans (hb.below (by omega) (by have := hBt.size; omega))))
      | stuck => exact absurd hod HNE.out
    obtain ⟨z0, z1, z2, z3, z4, y0, y1, y2, y3, y4⟩ := HZ.out.cells5F
    have lz := HZ.out.lt
    clear hres c0 l0 c1 l1
    go_wp2
    have hK := HZ.out.sets5F (.int .i64 x.kind) (.string (bs x.name)) (.int .i64 x.num) (.slice ox x.kids.length cx) (.int .i64 x.pos)
    have hE := HE.out
    generalize (((((w2.setCell ⟨w.heap.size + 1 + 1, 0, none⟩ (.int .i64 x.kind)).setCell ⟨w.heap.size + 1 + 1, 1, none⟩ (.string (bs x.name))).setCell ⟨w.heap.size + 1 + 1, 2, none⟩ (.int .i64 x.num)).setCell ⟨w.heap.size + 1 + 1, 3, none⟩ (.slice ox x.kids.length cx)).setCell ⟨w.heap.size + 1 + 1, 4, none⟩ (.int .i64 x.pos)) = WF at hK hE ⊢
    obtain ⟨g0, g1, g2, g3, g4, _, _, _, _, _⟩ := hK.cells5F
    exact bodyPost_ret (v := .tuple #[.agg #[.int .i64 x.kind, .string (bs x.name), .int .i64 x.num, .slice ox x.kids.length cx, .int .i64 x.pos], .pointer ft]) (by simp [results, Tryz.results22, go_sem, g0, g1, g2, g3, g4]) rfl hE
end Go.Proofs.YtppnhaacmhfenabGreatDoor

namespace Go.Proofs.YtppnhaacmhfenabGreatDoor
open Go.RowKit Go.Shelf Go.Maps
set_option linter.unusedVariables false

/-- What Resolve answers. -/
def ResRes (w w' : World) (e : Ending) : RR → Prop
  | .ok x rest => ∃ o cap, e = .returned (.tuple #[x.val o cap, .agg #[.int .i64 0, .int .i64 0]]) ∧ Fr w.heap.size w' x o cap ∧ Below w.heap.size w w'
  | .bad pos => e = .returned (.tuple #[ndZero, .agg #[.int .i64 7, .int .i64 pos]]) ∧ Below w.heap.size w w'
  | .stuck => True
theorem Blk.sets2F {W : World} {E : Nat} {v0 v1 : Value} {T : TypeId} (h : Blk W E #[v0, v1] T) (a0 a1 : Value) : Blk ((W.setCell ⟨E, 0, none⟩ a0).setCell ⟨E, 1, none⟩ a1) E #[a0, a1] T := by
  have h0 : Blk (W.setCell ⟨E, 0, none⟩ a0) E #[a0, v1] T := h.set 0 a0
  exact h0.set 1 a1
theorem but_sets2 (W : World) (E : Nat) (a0 a1 : Value) : But E W ((W.setCell ⟨E, 0, none⟩ a0).setCell ⟨E, 1, none⟩ a1) := (but_set W E 0 a0).trans (but_set _ E 1 a1)
set_option maxRecDepth 100000 in
set_option maxHeartbeats 4000000 in
theorem resolve_c (fs : List Fx) (n : Nd) (hnk : n.kind = 17) (o : Option Addr) (cap m d : Nat) (g off fcap : Nat) (w : World) (hG : GOK w) (hn : NdIn w w.heap.size n o cap) (hck : chkM n = 0) (hfl : fs.length ≤ 1000000) (hfn : ∀ f ∈ fs, f.name.length ≤ 9223372036854775807) (hg : g < w.heap.size) (hA : FxsAt w fs g off) (hnone : anyNone fs = false)
    (hl : n.kids.length ≤ 1000000) (hk : ∀ x ∈ n.kids, x.kids = [] ∧ x.kind ≠ 17 ∧ x.kind ≠ 44 ∧ x.kind ≠ 18) (hwf : ∀ x ∈ n.kids, (-9223372036854775808 ≤ x.kind ∧ x.kind ≤ 9223372036854775807) ∧ x.name.length ≤ 9223372036854775807 ∧ (-9223372036854775808 ≤ x.num ∧ x.num ≤ 9223372036854775807)) (hne : (rdM 17 (holdM fs) m d topF (leafIts n.kids)) ≠ .stuck) (hst : ∀ x r, (rdM 17 (holdM fs) m d topF (leafIts n.kids)) = .ok x r → nst 256 x = true) :
    Calls Tryz.prog 9 #[.agg #[.int .i64 17, .string (bs n.name), .int .i64 n.num, .slice o n.kids.length cap, .int .i64 n.pos], .slice (some ⟨g, off, none⟩) fs.length fcap] w fun e w' => ResRes w w' e (rdM 17 (holdM fs) m d topF (leafIts n.kids)) := by
  obtain ⟨V, hV⟩ : ∃ V, (((w.alloc (.cells #[.int .i64 17, .string (bs n.name), .int .i64 n.num, .slice o n.kids.length cap, .int .i64 n.pos] 28)).alloc (.cells #[.int .i64 0, .string ⟨#[]⟩, .int .i64 0, .slice none 0 0, .int .i64 0] 28)).alloc (.cells #[.int .i64 0, .int .i64 0] 33)) = V := ⟨_, rfl⟩
  have HV : Hid ((((w.alloc (.cells #[.int .i64 17, .string (bs n.name), .int .i64 n.num, .slice o n.kids.length cap, .int .i64 n.pos] 28)).alloc (.cells #[.int .i64 0, .string ⟨#[]⟩, .int .i64 0, .slice none 0 0, .int .i64 0] 28)).alloc (.cells #[.int .i64 0, .int .i64 0] 33)) = V) := hV
  have hB : Below w.heap.size w V := by rw [← hV]; exact (((Below.refl _ w).alloc (Nat.le_refl _) _).alloc (by simp) _).alloc (by simp; omega) _
  have HS : Hid (V.heap.size = w.heap.size + 1 + 1 + 1) := by show _ = _; rw [← hV]; simp
  have B0 : Blk V w.heap.size #[.int .i64 17, .string (bs n.name), .int .i64 n.num, .slice o n.kids.length cap, .int .i64 n.pos] 28 := by rw [← hV]; exact ((Blk.new w _ _).alloc _).alloc _
  have B1 : Blk V (w.heap.size + 1) #[.int .i64 0, .string ⟨#[]⟩, .int .i64 0, .slice none 0 0, .int .i64 0] 28 := by rw [← hV]; exact (Blk.new2 w _ _ _).alloc _
  have B2 : Blk V (w.heap.size + 1 + 1) #[.int .i64 0, .int .i64 0] 33 := by
    have h := Blk.new ((w.alloc (.cells #[.int .i64 17, .string (bs n.name), .int .i64 n.num, .slice o n.kids.length cap, .int .i64 n.pos] 28)).alloc (.cells #[.int .i64 0, .string ⟨#[]⟩, .int .i64 0, .slice none 0 0, .int .i64 0] 28)) #[.int .i64 0, .int .i64 0] 33
    simp only [World.size_alloc] at h
    rw [← hV]
    exact h
  have HB : Hid (Below w.heap.size w V) := hB
  have hnV : NdIn V V.heap.size n o cap := nin_mono (hn.below hB) hB.size
  have HCc : Hid (Calls Tryz.prog 8 #[.agg #[.int .i64 17, .string (bs n.name), .int .i64 n.num, .slice o n.kids.length cap, .int .i64 n.pos]] V fun e W' => e = .returned (.int .i64 0) ∧ Below V.heap.size V W') := by
    have h := checkS_c n o cap V hnV (hG.below hB)
    rw [hck, hnk] at h
    exact h
  have HAt : Hid (∀ X : World, Below w.heap.size w X → FxsAt X fs g off) := fun X hX => hA.below hg hX
  have HCn : Hid (∀ X : World, Below w.heap.size w X → Calls Tryz.prog 19 #[.slice (some ⟨g, off, none⟩) fs.length fcap, .func (.func 20) #[] #[]] X fun e w' => e = .returned (.bool false) ∧ Below X.heap.size X w') := by
    intro X hX
    have h := containsFunc_c fs (some ⟨g, off, none⟩) fcap (by omega) X (.inr ⟨g, off, rfl, Nat.lt_of_lt_of_le hg hX.size, hA.below hg hX⟩)
    rw [hnone] at h
    exact h
  have HCf : Hid (∀ X : World, Below w.heap.size w X → Calls Tryz.prog 21 #[.slice (some ⟨g, off, none⟩) fs.length fcap] X fun e W' => e = .returned (.func (.func 32) #[] #[.pointer (some ⟨X.heap.size + 1, 0, none⟩)]) ∧ Below X.heap.size X W' ∧ Blk W' (X.heap.size + 1) #[.map (some X.heap.size)] 70 ∧ FxSt W' X.heap.size fs.length fs) := fun X hX => finder_c fs (by omega) hfn g off fcap X (Nat.lt_of_lt_of_le hg hX.size) (hA.below hg hX)
  have HCo : Hid (∀ (X : World) (mb b c : Nat), Below w.heap.size w X → Blk X mb #[.map (some b)] 70 → FxSt X b c fs → Calls Tryz.prog 22 #[.agg #[.func (.func 32) #[] #[.pointer (some ⟨mb, 0, none⟩)]], .agg #[.int .i64 17, .string (bs n.name), .int .i64 n.num, .slice o n.kids.length cap, .int .i64 n.pos]] X fun e w' => OrdRes X w' e (rdM 17 (holdM fs) m d topF (leafIts n.kids))) := fun X mb b c hX h1 h2 => nodeOps_c 17 (.inl rfl) fs mb b c n hnk o cap m d X h1 h2 (nin_mono (hn.below hX) hX.size) hl hk hwf hne
  have HB0 : Hid (Blk V w.heap.size #[.int .i64 17, .string (bs n.name), .int .i64 n.num, .slice o n.kids.length cap, .int .i64 n.pos] 28) := B0
  have HB1 : Hid (Blk V (w.heap.size + 1) #[.int .i64 0, .string ⟨#[]⟩, .int .i64 0, .slice none 0 0, .int .i64 0] 28) := B1
  have HB2 : Hid (Blk V (w.heap.size + 1 + 1) #[.int .i64 0, .int .i64 0] 33) := B2
  have HNE : Hid ((rdM 17 (holdM fs) m d topF (leafIts n.kids)) ≠ .stuck) := hne
  have HNst : Hid (∀ x r, (rdM 17 (holdM fs) m d topF (leafIts n.kids)) = .ok x r → nst 256 x = true) := hst
  clear hV hB B0 B1 B2 hG hn hck hfn hg hA hnone hl hk hwf hne hst hnV hnk hfl
  go_enter Tryz.func9, Tryz.ntmps9
  go_wp2_with (go_at_call 8; fail)
  rw [HV.out]
  refine HCc.out.mono ?_
  rintro e w1 ⟨rfl, hb1⟩
  have HW1 : Hid (Below V.heap.size V w1) := hb1
  have HX1 : Hid (Below w.heap.size w w1) := HB.out.trans (hb1.mono HB.out.size)
  clear hb1
  go_wp2_with (go_at_call 19; fail)
  refine (HCn.out w1 HX1.out).mono ?_
  rintro e w2 ⟨rfl, hb2⟩
  have HW2 : Hid (Below V.heap.size V w2) := HW1.out.trans (hb2.mono HW1.out.size)
  have HX2 : Hid (Below w.heap.size w w2) := HX1.out.trans (hb2.mono HX1.out.size)
  clear hb2
  go_wp2_with (go_at_call 21; fail)
  refine (HCf.out w2 HX2.out).mono ?_
  rintro e w3 ⟨rfl, hb3, hm3, hs3⟩
  have HW3 : Hid (Below V.heap.size V w3) := HW2.out.trans (hb3.mono HW2.out.size)
  have HX3 : Hid (Below w.heap.size w w3) := HX2.out.trans (hb3.mono HX2.out.size)
  obtain ⟨V4, hV4⟩ : ∃ V4, w3.alloc (.cells #[.func (.func 32) #[] #[.pointer (some ⟨w2.heap.size + 1, 0, none⟩)]] 54) = V4 := ⟨_, rfl⟩
  have HV4 : Hid (w3.alloc (.cells #[.func (.func 32) #[] #[.pointer (some ⟨w2.heap.size + 1, 0, none⟩)]] 54) = V4) := hV4
  have hb4 : Below w3.heap.size w3 V4 := by rw [← hV4]; exact (Below.refl _ _).alloc (Nat.le_refl _) _
  have HW4 : Hid (Below V.heap.size V V4) := HW3.out.trans (hb4.mono HW3.out.size)
  have HX4 : Hid (Below w.heap.size w V4) := HX3.out.trans (hb4.mono HX3.out.size)
  have HC4 : Hid (Calls Tryz.prog 22 #[.agg #[.func (.func 32) #[] #[.pointer (some ⟨w2.heap.size + 1, 0, none⟩)]], .agg #[.int .i64 17, .string (bs n.name), .int .i64 n.num, .slice o n.kids.length cap, .int .i64 n.pos]] V4 fun e w' => OrdRes V4 w' e (rdM 17 (holdM fs) m d topF (leafIts n.kids))) := HCo.out V4 (w2.heap.size + 1) w2.heap.size fs.length HX4.out (hm3.below hb4) (hs3.below hb4)
  obtain ⟨a0, a1, a2, a3, a4, _, _, _, _, _⟩ := (HB0.out.below HW3.out).cells5F
  have la := (HB0.out.below HW3.out).lt
  have HS3 : Hid (V.heap.size ≤ w3.heap.size) := HW3.out.size
  clear hb3 hm3 hs3 hV4 hb4
  go_wp2_with (go_at_call 22; fail)
  rw [HV4.out]
  refine HC4.out.mono ?_
  rintro e w5 hres
  have HS0 := HS.out
  cases hod : (rdM 17 (holdM fs) m d topF (leafIts n.kids)) with
  | ok x rest =>
    rw [hod] at hres
    obtain ⟨ox, cx, he, hFr, hb5⟩ := hres
    have he' : e = .returned (.tuple #[.agg #[.int .i64 x.kind, .string (bs x.name), .int .i64 x.num, .slice ox x.kids.length cx, .int .i64 x.pos], .pointer none]) := he
    clear he
    subst he'
    have HW5 : Hid (Below V.heap.size V w5) := HW4.out.trans (hb5.mono HW4.out.size)
    have HX5 : Hid (Below w.heap.size w w5) := HX4.out.trans (hb5.mono HX4.out.size)
    have hns := HNst.out x rest hod
    obtain ⟨V6, hV6⟩ : ∃ V6, w5.alloc (.cells #[.int .i64 x.kind, .string (bs x.name), .int .i64 x.num, .slice ox x.kids.length cx, .int .i64 x.pos] 28) = V6 := ⟨_, rfl⟩
    have HV6 : Hid (w5.alloc (.cells #[.int .i64 x.kind, .string (bs x.name), .int .i64 x.num, .slice ox x.kids.length cx, .int .i64 x.pos] 28) = V6) := hV6
    have hb6 : Below w5.heap.size w5 V6 := by rw [← hV6]; exact (Below.refl _ _).alloc (Nat.le_refl _) _
    have HS6 : Hid (V6.heap.size = w5.heap.size + 1) := by show _ = _; rw [← hV6]; simp
    have hBx : Blk V6 w5.heap.size #[.int .i64 x.kind, .string (bs x.name), .int .i64 x.num, .slice ox x.kids.length cx, .int .i64 x.pos] 28 := by rw [← hV6]; exact Blk.new _ _ _
    have hnx : NdIn V6 w5.heap.size x ox cx := hFr.nin.below hb6
    have HCs : Hid (Calls Tryz.prog 23 #[.pointer (some ⟨w5.heap.size, 0, none⟩), .int .i64 256] V6 fun e w' => e = .returned (.bool true) ∧ w' = V6) := by
      have h := nests_c 256 x w5.heap.size 0 (w5.heap.size + 1) V6 (ndAt_blk (nin_mono hnx (Nat.le_succ _)) hBx) (Nat.lt_succ_self _) (by rw [HS6.out]; exact Nat.le_refl _) (by decide)
      rw [hns] at h
      exact h
    have HZ : Hid (Blk w5 (w.heap.size + 1) #[.int .i64 0, .string ⟨#[]⟩, .int .i64 0, .slice none 0 0, .int .i64 0] 28 ∧ Blk w5 (w.heap.size + 1 + 1) #[.int .i64 0, .int .i64 0] 33) := ⟨HB1.out.below HW5.out, HB2.out.below HW5.out⟩
    have HE : Hid (∀ WF : World, (∀ k, k < w5.heap.size → k ≠ w.heap.size + 1 → k ≠ w.heap.size + 1 + 1 → WF.heap[k]? = w5.heap[k]?) → w5.heap.size ≤ WF.heap.size → WF.os = w5.os → WF.tape = w5.tape → WF.output = w5.output → ResRes w WF (.returned (.tuple #[.agg #[.int .i64 x.kind, .string (bs x.name), .int .i64 x.num, .slice ox x.kids.length cx, .int .i64 x.pos], .agg #[.int .i64 0, .int .i64 0]])) (rdM 17 (holdM fs) m d topF (leafIts n.kids))) := by
      intro WF h1 h2 h3 h4 h5
      rw [hod]
      have hs5 := HX5.out.size
      have hs4 := HX4.out.size
      have hw34 := HW4.out.size
      refine ⟨ox, cx, rfl, hFr.keep (lo' := w.heap.size) (by omega) (fun k hk hlo => h1 k hk (by omega) (by omega)) h2, ?_⟩
      exact HX5.out.trans ⟨h3, h4, h5, h2, fun k hk => h1 k (by omega) (by omega) (by omega)⟩
    clear hFr hb5 hb6 hnx hBx hV6 hns hod a0 a1 a2 a3 a4 la
    go_wp2_with (go_at_call 23; fail)
    rw [HV6.out]
    refine HCs.out.mono ?_
    rintro e w7 ⟨rfl, rfl⟩
    have hb6 : Below w5.heap.size w5 w7 := by rw [← HV6.out]; exact (Below.refl _ _).alloc (Nat.le_refl _) _
    have HBx : Hid (Blk w7 w5.heap.size #[.int .i64 x.kind, .string (bs x.name), .int .i64 x.num, .slice ox x.kids.length cx, .int .i64 x.pos] 28) := by show Blk _ _ _ _; rw [← HV6.out]; exact Blk.new _ _ _
    have HZ7 : Hid (Blk w7 (w.heap.size + 1) #[.int .i64 0, .string ⟨#[]⟩, .int .i64 0, .slice none 0 0, .int .i64 0] 28) := HZ.out.1.below hb6
    have HF7 : Hid (Blk w7 (w.heap.size + 1 + 1) #[.int .i64 0, .int .i64 0] 33) := HZ.out.2.below hb6
    have HB6 : Hid (Below w5.heap.size w5 w7) := hb6
    obtain ⟨x0, x1, x2, x3, x4, _, _, _, _, _⟩ := HBx.out.cells5F
    have lx := HBx.out.lt
    obtain ⟨z0, z1, z2, z3, z4, y0, y1, y2, y3, y4⟩ := HZ7.out.cells5F
    have lz := HZ7.out.lt
    obtain ⟨p0, p1, f0, f1⟩ := HF7.out.all2
    have lf := HF7.out.lt
    have hs5 : w.heap.size + 1 + 1 + 1 ≤ w5.heap.size := by have := HW5.out.size; omega
    have HS5 : Hid (w.heap.size + 1 + 1 + 1 ≤ w5.heap.size) := hs5
    have n1 : w.heap.size + 1 + 1 ≠ w.heap.size + 1 := by omega
    clear hb6 hs5
    go_wp2
    have hK := HZ7.out.sets5F (.int .i64 x.kind) (.string (bs x.name)) (.int .i64 x.num) (.slice ox x.kids.length cx) (.int .i64 x.pos)
    have hb := but_sets5 w7 (w.heap.size + 1) (.int .i64 x.kind) (.string (bs x.name)) (.int .i64 x.num) (.slice ox x.kids.length cx) (.int .i64 x.pos)
    have hF := HF7.out.but n1 hb
    generalize (((((w7.setCell ⟨w.heap.size + 1, 0, none⟩ (.int .i64 x.kind)).setCell ⟨w.heap.size + 1, 1, none⟩ (.string (bs x.name))).setCell ⟨w.heap.size + 1, 2, none⟩ (.int .i64 x.num)).setCell ⟨w.heap.size + 1, 3, none⟩ (.slice ox x.kids.length cx)).setCell ⟨w.heap.size + 1, 4, none⟩ (.int .i64 x.pos)) = W8 at hK hb hF ⊢
    have hF2 := hF.sets2F (.int .i64 0) (.int .i64 0)
    have hK2 := hK.but (b := w.heap.size + 1 + 1) (by omega) (but_sets2 W8 (w.heap.size + 1 + 1) (.int .i64 0) (.int .i64 0))
    have hb2 := but_sets2 W8 (w.heap.size + 1 + 1) (.int .i64 0) (.int .i64 0)
    generalize ((W8.setCell ⟨w.heap.size + 1 + 1, 0, none⟩ (.int .i64 0)).setCell ⟨w.heap.size + 1 + 1, 1, none⟩ (.int .i64 0)) = WF at hF2 hK2 hb2 ⊢
    obtain ⟨g0, g1, g2, g3, g4, _, _, _, _, _⟩ := hK2.cells5F
    obtain ⟨r0, r1, _, _⟩ := hF2.all2
    refine bodyPost_ret (v := .tuple #[.agg #[.int .i64 x.kind, .string (bs x.name), .int .i64 x.num, .slice ox x.kids.length cx, .int .i64 x.pos], .agg #[.int .i64 0, .int .i64 0]]) (by simp [results, Tryz.results9, go_sem, g0, g1, g2, g3, g4, r0, r1]) rfl (HE.out WF (fun k hk h1 h2 => ?_) ?_ ?_ ?_ ?_)
    · have hs6 := HB6.out.size
      have hs8 := hb.size
      exact (hb2.block k (by omega) h2).trans ((hb.block k (by omega) h1).trans (HB6.out.block k hk))
    · exact Nat.le_trans HB6.out.size (Nat.le_trans hb.size hb2.size)
    · exact hb2.os.trans (hb.os.trans HB6.out.os)
    · exact hb2.tape.trans (hb.tape.trans HB6.out.tape)
    · exact hb2.output.trans (hb.output.trans HB6.out.output)
  | bad pos =>
    rw [hod] at hres
    obtain ⟨g', he, hg', hb5⟩ := hres
    have he' : e = .returned (.tuple #[.agg #[.int .i64 0, .string ⟨#[]⟩, .int .i64 0, .slice none 0 0, .int .i64 0], .pointer (some ⟨g', 0, none⟩)]) := he
    clear he
    subst he'
    have HW5 : Hid (Below V.heap.size V w5) := HW4.out.trans (hb5.mono HW4.out.size)
    have HX5 : Hid (Below w.heap.size w w5) := HX4.out.trans (hb5.mono HX4.out.size)
    have HZ : Hid (Blk w5 (w.heap.size + 1) #[.int .i64 0, .string ⟨#[]⟩, .int .i64 0, .slice none 0 0, .int .i64 0] 28 ∧ Blk w5 (w.heap.size + 1 + 1) #[.int .i64 0, .int .i64 0] 33) := ⟨HB1.out.below HW5.out, HB2.out.below HW5.out⟩
    have hdep : Tryz.prog.follows Departure.mixedOrders = true := by kernel_rfl
    obtain ⟨w0, w1', _, _⟩ := hg'.all2
    have lg := hg'.lt
    obtain ⟨z0, z1, z2, z3, z4, y0, y1, y2, y3, y4⟩ := HZ.out.1.cells5F
    have lz := HZ.out.1.lt
    obtain ⟨p0, p1, f0, f1⟩ := HZ.out.2.all2
    have lf := HZ.out.2.lt
    have ng1 : g' ≠ w.heap.size + 1 := blk_ne25 hg' HZ.out.1
    have HOd : Hid ((rdM 17 (holdM fs) m d topF (leafIts n.kids)) = .bad pos) := hod
    clear hb5 hod a0 a1 a2 a3 a4 la
    go_wp2_with fail
    go_region
    go_wp2
    have hs5 : w.heap.size + 1 + 1 + 1 ≤ w5.heap.size := by have := HW5.out.size; omega
    have hK := HZ.out.1.sets5F (.int .i64 0) (.string ⟨#[]⟩) (.int .i64 0) (.slice none 0 0) (.int .i64 0)
    have hb := but_sets5 w5 (w.heap.size + 1) (.int .i64 0) (.string ⟨#[]⟩) (.int .i64 0) (.slice none 0 0) (.int .i64 0)
    have hF := HZ.out.2.but (b := w.heap.size + 1) (by omega) hb
    generalize (((((w5.setCell ⟨w.heap.size + 1, 0, none⟩ (.int .i64 0)).setCell ⟨w.heap.size + 1, 1, none⟩ (.string ⟨#[]⟩)).setCell ⟨w.heap.size + 1, 2, none⟩ (.int .i64 0)).setCell ⟨w.heap.size + 1, 3, none⟩ (.slice none 0 0)).setCell ⟨w.heap.size + 1, 4, none⟩ (.int .i64 0)) = W8 at hK hb hF ⊢
    have hb2 := but_sets2 W8 (w.heap.size + 1 + 1) (.int .i64 7) (.int .i64 pos)
    have hF2 := hF.sets2F (.int .i64 7) (.int .i64 pos)
    have hK2 := hK.but (b := w.heap.size + 1 + 1) (by omega) hb2
    generalize ((W8.setCell ⟨w.heap.size + 1 + 1, 0, none⟩ (.int .i64 7)).setCell ⟨w.heap.size + 1 + 1, 1, none⟩ (.int .i64 pos)) = W9 at hF2 hK2 hb2 ⊢
    have hba : Below W9.heap.size W9 (W9.alloc (.cells #[.int .i64 0, .string ⟨#[]⟩, .int .i64 0, .slice none 0 0, .int .i64 0] 28)).drew := ((Below.refl _ W9).alloc (Nat.le_refl _) _).drew
    have hF3 := hF2.below hba
    have hK3 := hK2.below hba
    have hBW : Below w.heap.size w (W9.alloc (.cells #[.int .i64 0, .string ⟨#[]⟩, .int .i64 0, .slice none 0 0, .int .i64 0] 28)).drew := by
      have e1 := hb.size
      have e2 := hb2.size
      exact HX5.out.trans ((hb.below (by omega) (by omega)).trans ((hb2.below (by omega) (by omega)).trans (hba.mono (by omega))))
    generalize (W9.alloc (.cells #[.int .i64 0, .string ⟨#[]⟩, .int .i64 0, .slice none 0 0, .int .i64 0] 28)).drew = WF at hF3 hK3 hBW ⊢
    obtain ⟨g0, g1, g2, g3, g4, _, _, _, _, _⟩ := hK3.cells5F
    obtain ⟨r0, r1, _, _⟩ := hF3.all2
    exact bodyPost_ret (v := .tuple #[.agg #[.int .i64 0, .string ⟨#[]⟩, .int .i64 0, .slice none 0 0, .int .i64 0], .agg #[.int .i64 7, .int .i64 pos]]) (by simp [results, Tryz.results9, go_sem, g0, g1, g2, g3, g4, r0, r1]) rfl (by rw [HOd.out]; exact ⟨rfl, hBW⟩)
  | stuck => exact absurd hod HNE.out
end Go.Proofs.YtppnhaacmhfenabGreatDoor

namespace Go.Proofs.YtppnhaacmhfenabGreatDoor
open Go.RowKit Go.Shelf Go.Maps
set_option linter.unusedVariables false

def fxC (f : Fx) : List Value := [.string (bs f.name), .int .i64 f.side, .int .i64 f.level]
theorem fx_get : ∀ (ts : List Fx) (k : Nat) (h : k < ts.length) (q : Nat), q < 3 → (ts.flatMap fxC)[k * 3 + q]? = (fxC ts[k])[q]?
  | t :: ts, 0, h, q, hq => by
    rw [List.flatMap_cons, Nat.zero_mul, Nat.zero_add, List.getElem?_append_left (by show q < 3; exact hq)]; rfl
  | t :: ts, k + 1, h, q, hq => by
    have hf : (fxC t).length = 3 := rfl
    rw [List.flatMap_cons, List.getElem?_append_right (by rw [hf]; omega), hf, show (k + 1) * 3 + q - 3 = k * 3 + q by omega]
    exact fx_get ts k (by simpa using h) q hq
theorem fxs_blk {W : World} {g : Nat} {fs : List Fx} {T : TypeId} (h : Blk W g (fs.flatMap fxC).toArray T) : FxsAt W fs g 0 := fun k hk => by
  have f : ∀ q u, q < 3 → (fxC fs[k])[q]? = some u → W.cell? ⟨g, 0 + k * 3 + q, none⟩ = some u := fun q u hq hu => by
    rw [Nat.zero_add]
    exact h.cell (k * 3 + q) u (by rw [List.getElem?_toArray, fx_get fs k hk q hq]; exact hu)
  exact ⟨f 0 _ (by decide) rfl, f 1 _ (by decide) rfl, f 2 _ (by decide) rfl⟩
/-- The built-in table. -/
def builtinL : List Fx := [⟨[36], 2, 0⟩, ⟨[38, 38], 2, 3⟩, ⟨[42], 1, 7⟩, ⟨[43], 1, 6⟩, ⟨[43, 43], 2, 5⟩, ⟨[45], 1, 6⟩, ⟨[46], 2, 9⟩, ⟨[47, 61], 3, 4⟩, ⟨[58], 2, 5⟩, ⟨[60], 3, 4⟩, ⟨[60, 61], 3, 4⟩, ⟨[61, 61], 3, 4⟩, ⟨[62], 3, 4⟩, ⟨[62, 61], 3, 4⟩, ⟨[62, 62], 1, 1⟩, ⟨[62, 62, 61], 1, 1⟩, ⟨[100, 105, 118], 1, 7⟩, ⟨[109, 111, 100], 1, 7⟩, ⟨[113, 117, 111, 116], 1, 7⟩, ⟨[114, 101, 109], 1, 7⟩, ⟨[124, 124], 2, 2⟩]

def builtinA : Array Value := #[.string ⟨#[36]⟩, .int .i64 2, .int .i64 0, .string ⟨#[38, 38]⟩, .int .i64 2, .int .i64 3, .string ⟨#[42]⟩, .int .i64 1, .int .i64 7, .string ⟨#[43]⟩, .int .i64 1, .int .i64 6, .string ⟨#[43, 43]⟩, .int .i64 2, .int .i64 5, .string ⟨#[45]⟩, .int .i64 1, .int .i64 6, .string ⟨#[46]⟩, .int .i64 2, .int .i64 9, .string ⟨#[47, 61]⟩, .int .i64 3, .int .i64 4, .string ⟨#[58]⟩, .int .i64 2, .int .i64 5, .string ⟨#[60]⟩, .int .i64 3, .int .i64 4, .string ⟨#[60, 61]⟩, .int .i64 3, .int .i64 4, .string ⟨#[61, 61]⟩, .int .i64 3, .int .i64 4, .string ⟨#[62]⟩, .int .i64 3, .int .i64 4, .string ⟨#[62, 61]⟩, .int .i64 3, .int .i64 4, .string ⟨#[62, 62]⟩, .int .i64 1, .int .i64 1, .string ⟨#[62, 62, 61]⟩, .int .i64 1, .int .i64 1, .string ⟨#[100, 105, 118]⟩, .int .i64 1, .int .i64 7, .string ⟨#[109, 111, 100]⟩, .int .i64 1, .int .i64 7, .string ⟨#[113, 117, 111, 116]⟩, .int .i64 1, .int .i64 7, .string ⟨#[114, 101, 109]⟩, .int .i64 1, .int .i64 7, .string ⟨#[124, 124]⟩, .int .i64 2, .int .i64 2]
theorem builtinA_eq : (builtinL.flatMap fxC).toArray = builtinA := rfl
set_option maxRecDepth 100000 in
set_option maxHeartbeats 4000000 in
theorem builtin_c (w : World) : Calls Tryz.prog 25 #[] w fun e w' => e = .returned (.slice (some ⟨w.heap.size, 0, none⟩) 21 21) ∧ w' = w.alloc (.cells #[.string ⟨#[36]⟩, .int .i64 2, .int .i64 0, .string ⟨#[38, 38]⟩, .int .i64 2, .int .i64 3, .string ⟨#[42]⟩, .int .i64 1, .int .i64 7, .string ⟨#[43]⟩, .int .i64 1, .int .i64 6, .string ⟨#[43, 43]⟩, .int .i64 2, .int .i64 5, .string ⟨#[45]⟩, .int .i64 1, .int .i64 6, .string ⟨#[46]⟩, .int .i64 2, .int .i64 9, .string ⟨#[47, 61]⟩, .int .i64 3, .int .i64 4, .string ⟨#[58]⟩, .int .i64 2, .int .i64 5, .string ⟨#[60]⟩, .int .i64 3, .int .i64 4, .string ⟨#[60, 61]⟩, .int .i64 3, .int .i64 4, .string ⟨#[61, 61]⟩, .int .i64 3, .int .i64 4, .string ⟨#[62]⟩, .int .i64 3, .int .i64 4, .string ⟨#[62, 61]⟩, .int .i64 3, .int .i64 4, .string ⟨#[62, 62]⟩, .int .i64 1, .int .i64 1, .string ⟨#[62, 62, 61]⟩, .int .i64 1, .int .i64 1, .string ⟨#[100, 105, 118]⟩, .int .i64 1, .int .i64 7, .string ⟨#[109, 111, 100]⟩, .int .i64 1, .int .i64 7, .string ⟨#[113, 117, 111, 116]⟩, .int .i64 1, .int .i64 7, .string ⟨#[114, 101, 109]⟩, .int .i64 1, .int .i64 7, .string ⟨#[124, 124]⟩, .int .i64 2, .int .i64 2] 42) := by
  go_enter Tryz.func25, Tryz.ntmps25
  go_wp2
  go_ret
  exact ⟨rfl, rfl⟩
theorem builtin_at (w : World) : FxsAt (w.alloc (.cells #[.string ⟨#[36]⟩, .int .i64 2, .int .i64 0, .string ⟨#[38, 38]⟩, .int .i64 2, .int .i64 3, .string ⟨#[42]⟩, .int .i64 1, .int .i64 7, .string ⟨#[43]⟩, .int .i64 1, .int .i64 6, .string ⟨#[43, 43]⟩, .int .i64 2, .int .i64 5, .string ⟨#[45]⟩, .int .i64 1, .int .i64 6, .string ⟨#[46]⟩, .int .i64 2, .int .i64 9, .string ⟨#[47, 61]⟩, .int .i64 3, .int .i64 4, .string ⟨#[58]⟩, .int .i64 2, .int .i64 5, .string ⟨#[60]⟩, .int .i64 3, .int .i64 4, .string ⟨#[60, 61]⟩, .int .i64 3, .int .i64 4, .string ⟨#[61, 61]⟩, .int .i64 3, .int .i64 4, .string ⟨#[62]⟩, .int .i64 3, .int .i64 4, .string ⟨#[62, 61]⟩, .int .i64 3, .int .i64 4, .string ⟨#[62, 62]⟩, .int .i64 1, .int .i64 1, .string ⟨#[62, 62, 61]⟩, .int .i64 1, .int .i64 1, .string ⟨#[100, 105, 118]⟩, .int .i64 1, .int .i64 7, .string ⟨#[109, 111, 100]⟩, .int .i64 1, .int .i64 7, .string ⟨#[113, 117, 111, 116]⟩, .int .i64 1, .int .i64 7, .string ⟨#[114, 101, 109]⟩, .int .i64 1, .int .i64 7, .string ⟨#[124, 124]⟩, .int .i64 2, .int .i64 2] 42)) builtinL w.heap.size 0 := fxs_blk (T := 42) (by rw [builtinA_eq]; exact Blk.new w builtinA 42)
set_option maxRecDepth 100000 in
set_option maxHeartbeats 4000000 in
theorem v5_c (s : ByteArray) (w : World) : Calls Tryz.prog 26 #[.string s] w fun e w' => e = .returned (.agg #[.int .i64 11, .string s, .int .i64 0, .slice none 0 0, .int .i64 0]) ∧ Below w.heap.size w w' := by
  have HB : Hid (∀ o : Obj, Below w.heap.size w (w.alloc o)) := fun o => (Below.refl _ w).alloc (Nat.le_refl _) _
  go_enter Tryz.func26, Tryz.ntmps26
  go_wp2
  exact bodyPost_ret (v := .agg #[.int .i64 11, .string s, .int .i64 0, .slice none 0 0, .int .i64 0]) (by simp [results, Tryz.results26, go_sem]) rfl ⟨rfl, by repeat (first | (refine Below.setCell ?_ (by simp) _) | exact HB.out _)⟩
set_option maxRecDepth 100000 in
set_option maxHeartbeats 4000000 in
theorem num5_c (n : Int) (w : World) : Calls Tryz.prog 16 #[.int .i64 n] w fun e w' => e = .returned (.agg #[.int .i64 13, .string ⟨#[]⟩, .int .i64 n, .slice none 0 0, .int .i64 0]) ∧ Below w.heap.size w w' := by
  have HB : Hid (∀ o : Obj, Below w.heap.size w (w.alloc o)) := fun o => (Below.refl _ w).alloc (Nat.le_refl _) _
  go_enter Tryz.func16, Tryz.ntmps16
  go_wp2
  exact bodyPost_ret (v := .agg #[.int .i64 13, .string ⟨#[]⟩, .int .i64 n, .slice none 0 0, .int .i64 0]) (by simp [results, Tryz.results16, go_sem]) rfl ⟨rfl, by repeat (first | (refine Below.setCell ?_ (by simp) _) | exact HB.out _)⟩
set_option maxRecDepth 100000 in
set_option maxHeartbeats 4000000 in
theorem op5_c (s : ByteArray) (w : World) : Calls Tryz.prog 14 #[.string s] w fun e w' => e = .returned (.agg #[.int .i64 5, .string s, .int .i64 0, .slice none 0 0, .int .i64 0]) ∧ Below w.heap.size w w' := by
  have HB : Hid (∀ o : Obj, Below w.heap.size w (w.alloc o)) := fun o => (Below.refl _ w).alloc (Nat.le_refl _) _
  go_enter Tryz.func14, Tryz.ntmps14
  go_wp2
  exact bodyPost_ret (v := .agg #[.int .i64 5, .string s, .int .i64 0, .slice none 0 0, .int .i64 0]) (by simp [results, Tryz.results14, go_sem]) rfl ⟨rfl, by repeat (first | (refine Below.setCell ?_ (by simp) _) | exact HB.out _)⟩
set_option maxRecDepth 100000 in
set_option maxHeartbeats 4000000 in
theorem of5_c (k : Int) (o : Option Addr) (l cap : Nat) (w : World) : Calls Tryz.prog 11 #[.int .i64 k, .slice o l cap] w fun e w' => e = .returned (.agg #[.int .i64 k, .string ⟨#[]⟩, .int .i64 0, .slice o l cap, .int .i64 0]) ∧ Below w.heap.size w w' := by
  have HB : Hid (∀ o : Obj, Below w.heap.size w (w.alloc o)) := fun o => (Below.refl _ w).alloc (Nat.le_refl _) _
  go_enter Tryz.func11, Tryz.ntmps11
  go_wp2
  exact bodyPost_ret (v := .agg #[.int .i64 k, .string ⟨#[]⟩, .int .i64 0, .slice o l cap, .int .i64 0]) (by simp [results, Tryz.results11, go_sem]) rfl ⟨rfl, by repeat (first | (refine Below.setCell ?_ (by simp) _) | exact HB.out _)⟩
end Go.Proofs.YtppnhaacmhfenabGreatDoor
