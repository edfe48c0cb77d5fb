/-
  Substitution in a row of alternatives, by a contract.
  Substitution in an expression: what is done call by call.
  Substitution in an expression: all its calls, one behind another.
  Substitution in an expression: its parts.
  Substitution in an expression of any depth, by a contract.
-/
import Derived.Test.YtegdloenakachaaGreatDoorCN23
namespace Go.Proofs.YtegdloenakachaaGreatDoor
open Go.RowKit Go.Shelf Go.Maps
set_option linter.unusedVariables false

set_option maxRecDepth 100000 in
set_option maxHeartbeats 4000000 in
theorem sub_alts_c (P : SbP) (db : Nat) (b : Tr db) (F : List UInt8 → Bool) (L : List (List UInt8)) (d : Nat) (ih : SubOK P db b F L d) (l : List (AltH × Tr d)) (o : Option Addr) (cap lo hi : Nat) (c : Nat) (sc : Sc) (room : Int) (φ : List UInt8 → Nat) (cf last k0 : Nat) (w : World) (hr : OwRow w lo hi 11 (OwAl w d) o l) (hZ : hi ≤ P.Z) (hg0 : 0 < lo) (h : SbSt w P db b F L c sc room φ cf last) (hN : NumOK F L φ last) (hB : Bnd L cf last (k0 + (l.map (rcA d)).sum)) (hr1 : -1048576 ≤ room) (hr2 : room ≤ 1048576) (hNm : ∀ x ∈ l, NmOK d x.2 ∧ (∀ y ∈ x.1.vars, y.size ≤ maxLen) ∧ x.1.vars.length ≤ 2000000) (hFt : ∀ x ∈ l, Fit d x.2) (hc : c + 2 * (l.map (csA d)).sum ≤ 2000000) (hsc : sc.length + (l.map (csA d)).sum ≤ 2000000) (hln : l.length ≤ 2000000) :
    Calls Tryz.prog 67 #[.pointer (some ⟨P.S, 0, none⟩), .slice o l.length cap] w fun r w' => SrPost P db b F L c (c + 2 * (l.map (csA d)).sum) sc φ k0 (fun φ' => AlR P.name F db b φ' d (nms sc)) 11 (fun W F' => AlF W F' (db + d)) l o lo hi w r w' := by
  obtain ⟨S, hS⟩ : ∃ S, P.S = S := ⟨_, rfl⟩
  have HS : Hid (P.S = S) := hS
  have lS := h.lt
  rw [hS] at lS ⊢
  by_cases hl0 : l = []
  · subst hl0
    have HE : Hid (SrPost P db b F L c (c + 2 * (([] : List (AltH × Tr d)).map (csA d)).sum) sc φ k0 (fun φ' => AlR P.name F db b φ' d (nms sc)) 11 (fun W F' => AlF W F' (db + d)) ([] : List (AltH × Tr d)) o lo hi w (.returned (.tuple #[])) w) := ⟨φ, [], rfl, ⟨rfl, fun k h _ => absurd h (Nat.not_lt_zero _)⟩, ⟨Ext.refl _, c, cf, last, room, Nat.le_add_right _ _, hN, hB.less (Nat.le_add_right _ _), hr1, hr2, h⟩, .inl rfl, RoCh.refl _ _ _ _⟩
    clear hr hZ hg0 h hN hB hr1 hr2 hNm hFt hc hsc hln ih hS
    show Calls Tryz.prog 67 #[.pointer (some ⟨S, 0, none⟩), .slice o 0 cap] w _
    go_enter Tryz.func67, Tryz.ntmps67
    go_wp2
    go_loopw [8] (fun v wr => v = .int .i64 0 ∧ wr = w) (fun v _ => 0)
    case atStart => exact ⟨rfl, rfl⟩
    case round =>
      obtain ⟨rfl, rfl⟩ := hrel
      go_wp2
      go_end0
      exact HE.out
  · obtain ⟨G, rfl, hG1, hGu, hf, hG2, hm, hhi, hE⟩ : ∃ g, o = some ⟨g, 0, none⟩ ∧ lo ≤ g ∧ Uf w g ∧ ∃ h : Nat → Nat, g < h 0 ∧ (∀ k, k < l.length → h k ≤ h (k + 1)) ∧ h l.length ≤ hi ∧ ∀ k (hk : k < l.length), OwAl w d l[k] g (k * 11) (h k) (h (k + 1)) := by
      rcases hr with h | h
      · exact absurd h hl0
      · exact h
    have hGh : G < hi := by have := step_le hm 0 l.length (Nat.zero_le _) (Nat.le_refl _); omega
    obtain ⟨n, hn⟩ : ∃ n, l.length = n := ⟨_, rfl⟩
    have ho := h.ok
    have H0 : Hid (l.length = n ∧ P.Ok ∧ G < P.Z ∧ lo ≤ G ∧ G < hi ∧ G < hf 0 ∧ (∀ k, k < l.length → hf k ≤ hf (k + 1)) ∧ hf l.length ≤ hi ∧ hi ≤ P.Z ∧ 0 < G ∧ P.S < w.heap.size) := ⟨hn, ho, by omega, hG1, hGh, hG2, hm, hhi, hZ, by omega, by rw [hS]; exact lS⟩
    have H1 : Hid ((∀ x ∈ l, NmOK d x.2 ∧ (∀ y ∈ x.1.vars, y.size ≤ maxLen) ∧ x.1.vars.length ≤ 2000000) ∧ (∀ x ∈ l, Fit d x.2) ∧ c + 2 * (l.map (csA d)).sum ≤ 2000000 ∧ sc.length + (l.map (csA d)).sum ≤ 2000000) := ⟨hNm, hFt, hc, hsc⟩
    have HIh : Hid (SubOK P db b F L d) := ih
    have HGu : Hid (Uf w G) := hGu
    have HI0 : Hid (SuI P 11 (fun W => OwAl W d) (fun W F' => AlF W F' (db + d)) l G hf w 0 [] w) := ⟨rfl, fun j hj => absurd hj (Nat.not_lt_zero _), fun j hj _ => hE j hj, ⟨rfl, rfl, rfl, Nat.le_refl _, fun _ _ _ _ _ _ _ => rfl, fun _ _ => rfl, fun _ _ h => h⟩⟩
    have HR0 : Hid (SuR P db b F L c (c + 2 * ((l.take 0).map (csA d)).sum) sc φ (k0 + ((l.drop 0).map (rcA d)).sum) w φ) := ⟨Ext.refl _, c, cf, last, room, Nat.le_add_right _ _, hN, hB, hr1, hr2, h⟩
    have hni : (n : Int) ≤ 2000000 := by omega
    rw [hn]
    clear hr hZ hg0 h hN hB hr1 hr2 hNm hFt hc hsc hln ih hS hn ho hG1 hGu hG2 hm hhi hE hGh hl0
    go_enter Tryz.func67, Tryz.ntmps67
    go_wp2
    go_loopw [8] (fun v wr => ∃ k : Nat, v = .int .i64 (k : Int) ∧ Hid (k ≤ n ∧ ∃ (φ' : List UInt8 → Nat) (ts : List (AltH × Tr (db + d))), All2 (AlR P.name F db b φ' d (nms sc)) (l.take k) ts ∧ SuI P 11 (fun W => OwAl W d) (fun W F' => AlF W F' (db + d)) l G hf w k ts wr ∧ SuR P db b F L c (c + 2 * ((l.take k).map (csA d)).sum) sc φ (k0 + ((l.drop k).map (rcA d)).sum) wr φ')) (fun v _ => n - (intOf v).toNat)
    case atStart => exact ⟨0, rfl, ⟨Nat.zero_le _, φ, [], ⟨rfl, fun k h _ => absurd h (Nat.not_lt_zero _)⟩, HI0.out, HR0.out⟩⟩
    case round =>
      clear HI0 HR0
      obtain ⟨k, rfl, HI⟩ := hrel
      by_cases hk : k < n
      · obtain ⟨i1, φ1, ts, i2, i3, ⟨i4, c1, cf1, last1, room1, j1, j2, j3, j4, j5, j6⟩⟩ := HI.out
        obtain ⟨a1, a2, a3, a4, a5, a6, a7, a8, a9, a10, a11⟩ := H0.out
        obtain ⟨b1, b2, b3, b4⟩ := H1.out
        have hkl : k < l.length := by rw [a1]; exact hk
        have hEk := i3.rest k hkl (Nat.le_refl _)
        have hle := step_le a7
        have q1 := take_sum (csA d) l k hkl
        have q2 := take_le (csA d) l (k + 1)
        have q3 := take_sum2 (rcA d) l k hkl
        have q4 := hle 0 k (Nat.zero_le _) (by omega)
        have q5 := hle (k + 1) l.length hkl (Nat.le_refl _)
        have uG : Uf wr G := by
          have := i3.ch.uf G a3
          exact this (HGu.out)
        have lSr : S < wr.heap.size := by have := j6.lt; rw [HS.out] at this; exact this
        have lGr : G < wr.heap.size := uG.lt
        have hmk := b1 _ (List.getElem_mem hkl)
        obtain ⟨tk, htk⟩ : ∃ tk, l[k] = tk := ⟨_, rfl⟩
        have hbk := b2 _ (List.getElem_mem hkl)
        rw [htk] at hEk q1 q3 hmk hbk
        have HT : Hid (∃ h : k < l.length, l[k] = tk) := ⟨hkl, htk⟩
        have j3' : Bnd L cf1 last1 ((k0 + ((l.drop (k + 1)).map (rcA d)).sum) + (tk.1.vars.length + rcM d tk.2)) := by
          rw [q3] at j3
          rw [show k0 + ((l.drop (k + 1)).map (rcA d)).sum + (tk.1.vars.length + rcM d tk.2) = k0 + (rcA d tk + ((l.drop (k + 1)).map (rcA d)).sum) by unfold rcA; omega]
          exact j3
        have qc : c1 + 2 * csA d tk ≤ 2000000 ∧ sc.length + csA d tk ≤ 2000000 := by omega
        have HAs : Hid (AlStep P db b F L d S G (k * 11) (hf k) (hf (k + 1)) tk c1 sc φ1 (k0 + ((l.drop (k + 1)).map (rcA d)).sum) wr) := by
          have h9 := alt_step P db b F L d HIh.out tk G (k * 11) (hf k) (hf (k + 1)) c1 sc room1 φ1 cf1 last1 (k0 + ((l.drop (k + 1)).map (rcA d)).sum) wr hEk (by omega) (by omega) a3 uG (by omega) j6 j2 j3' j4 j5 hmk hbk qc.1 qc.2
          rw [HS.out] at h9
          exact h9
        have HK2 : Hid (k < n ∧ c1 ≤ c + 2 * ((l.take k).map (csA d)).sum) := ⟨hk, j1⟩
        have HJ : Hid (All2 (AlR P.name F db b φ1 d (nms sc)) (l.take k) ts ∧ SuI P 11 (fun W => OwAl W d) (fun W F' => AlF W F' (db + d)) l G hf w k ts wr ∧ Ext φ φ1) := ⟨i2, i3, i4⟩
        have hki : (k : Int) < (n : Int) := by omega
        obtain ⟨tp, htp⟩ := top_ptr sc
        have x9 : wr.cell? ⟨S, 9, none⟩ = some (.pointer tp) := by have := j6.sc.inner; rw [HS.out, htp] at this; exact this
        obtain ⟨-, -, -, m', -, -, ⟨ov, cv, x3, -⟩, -⟩ := hEk
        have HTp : Hid (top sc = .pointer tp) := htp
        obtain ⟨hA1, hA2⟩ := HAs.out ov cv x3
        have HA1 : Hid (Calls Tryz.prog 86 #[.pointer (some ⟨S, 9, none⟩), .slice ov tk.1.vars.length cv] wr.drew fun e w1 => e = .returned (.tuple #[]) ∧ AlStep1 P db b F L d S G (k * 11) (hf k) (hf (k + 1)) tk c1 sc φ1 (k0 + ((l.drop (k + 1)).map (rcA d)).sum) ov cv wr w1) := hA2
        obtain ⟨nv, hnv⟩ : ∃ nv, tk.1.vars.length = nv := ⟨_, rfl⟩
        rw [hnv] at x3 HA1
        have HNv : Hid (tk.1.vars.length = nv) := hnv
        have x3d : wr.drew.cell? ⟨G, k * 11 + 3, none⟩ = some (.slice ov nv cv) := x3
        clear i1 i2 i3 i4 j1 j2 j3 j4 j5 j6 a1 a2 a3 a4 a5 a6 a7 a8 a9 a10 a11 b1 b2 b3 b4 hle q1 q2 q3 q4 q5 uG hk htk hkl HI j3' hmk hbk qc hA1 hA2 HAs htp hnv
        go_wp2
        go_region_with ((go_at_call 86; (with_reducible refine HA1.out.mono ?_); rintro e9 w1 ⟨rfl, hk1⟩; have HK1 : Hid (AlStep1 P db b F L d S G (k * 11) (hf k) (hf (k + 1)) tk c1 sc φ1 (k0 + ((l.drop (k + 1)).map (rcA d)).sum) ov cv wr w1) := hk1; clear hk1))
        obtain ⟨g1, g2, g3, g4⟩ := HK1.out
        rw [HNv.out] at g3 g4
        have HC2 : Hid (Calls Tryz.prog 64 #[.pointer (some ⟨S, 0, none⟩), .slice ov nv cv] w1 fun e w2 => e = .returned (.tuple #[]) ∧ AlStep2 P db b F L d S G (k * 11) (hf k) (hf (k + 1)) tk c1 sc φ1 (k0 + ((l.drop (k + 1)).map (rcA d)).sum) wr w2) := g4
        clear g4 HK1 HA1 x9 x3 x3d lSr lGr
        go_wp2_with (go_at_call 64; fail)
        refine HC2.out.mono ?_
        rintro e9 w2 ⟨rfl, g5, g6, g7⟩
        have HC3 : Hid (Calls Tryz.prog 34 #[.pointer (some ⟨S, 0, none⟩), .pointer (some ⟨G, k * 11 + 4, none⟩)] w2 fun e w3 => e = .returned (.tuple #[]) ∧ AlStep3 P db b F L d S G (k * 11) (hf k) (hf (k + 1)) tk c1 sc φ1 (k0 + ((l.drop (k + 1)).map (rcA d)).sum) wr w3) := g7
        clear g7 HC2 g1 g2 g3
        go_wp2_with (go_at_call 34; fail)
        refine HC3.out.mono ?_
        rintro e9 w3 ⟨rfl, g8, g9⟩
        rw [HTp.out] at g9
        have HC4 : Hid (Calls Tryz.prog 69 #[.pointer (some ⟨S, 9, none⟩), .pointer tp] w3 fun e w4 => e = .returned (.tuple #[]) ∧ AlEnd P db b F L d G (k * 11) (hf k) (hf (k + 1)) tk c1 sc φ1 (k0 + ((l.drop (k + 1)).map (rcA d)).sum) wr w4) := g9
        clear g9 HC3 g5 g6
        go_wp2_with (go_at_call 69; fail)
        refine HC4.out.mono ?_
        rintro e9 w4 ⟨rfl, φ4, t', s1, ⟨s2, c2, cf4, last4, room4, s3, s4, s5, s6, s7, s8⟩, s9, s10⟩
        have HW : Hid (AlR P.name F db b φ4 d (nms sc) tk t' ∧ Ext φ1 φ4 ∧ c2 ≤ c1 + 2 * csA d tk ∧ NumOK F L φ4 last4 ∧ Bnd L cf4 last4 (k0 + ((l.drop (k + 1)).map (rcA d)).sum) ∧ -1048576 ≤ room4 ∧ room4 ≤ 1048576 ∧ SbSt w4 P db b F L c2 sc room4 φ4 cf4 last4 ∧ AlF w4 (FpE P G (k * 11) 11 (hf k) (hf (k + 1)) wr.heap.size w4.heap.size) (db + d) t' G (k * 11) ∧ ElCh P G (k * 11) 11 (hf k) (hf (k + 1)) wr w4) := ⟨s1, s2, s3, s4, s5, s6, s7, s8, s9, s10⟩
        clear s1 s2 s3 s4 s5 s6 s7 s8 s9 s10 HC4
        go_wp2
        refine ⟨⟨k + 1, by congr 1, ?_⟩, ?_⟩
        · obtain ⟨hkl, htk⟩ := HT.out
          obtain ⟨s1, s2, s3, s4, s5, s6, s7, s8, s9, s10⟩ := HW.out
          obtain ⟨i2, i3, i4⟩ := HJ.out
          obtain ⟨a1, a2, a3, a4, a5, a6, a7, a8, a9, a10, a11⟩ := H0.out
          have q1 := take_sum (csA d) l k hkl
          rw [htk] at q1
          refine ⟨HK2.out.1, φ4, ts ++ [t'], ?_, i3.next a2 a3 a6 a7 (by omega) a11 hkl t' s10 s9 (fun W W' F1 F2 x g off hF h => h.mono hF) (fun x off lo' hi' h1 h2 hx => OwAl.same hx h1 h2), ⟨i4.trans s2, c2, cf4, last4, room4, by have := HK2.out.2; omega, s4, s5, s6, s7, s8⟩⟩
          have hl1 : ts.length = (l.take k).length := i2.1
          refine ⟨?_, fun j h1 h2 => ?_⟩
          · rw [List.take_succ_eq_append_getElem hkl, List.length_append, List.length_append, hl1]; rfl
          · by_cases e : j < k
            · have h3 : j < ts.length := by rw [hl1, List.length_take]; omega
              rw [List.getElem_append_left h3, List.getElem_take]
              have h9 := i2.2 j (by rw [List.length_take]; omega) h3
              rw [List.getElem_take] at h9
              exact AlR.ext s2 h9
            · have e1 : j = k := by rw [List.length_take] at h1; omega
              subst e1
              have h3 : ts.length = j := by rw [hl1, List.length_take]; omega
              rw [List.getElem_append_right (by omega), List.getElem_take, htk]
              simp only [h3, Nat.sub_self, List.getElem_cons_zero]
              exact s1
        · show n - ((k : Int) + 1).toNat < n - ((k : Int)).toNat
          have := HK2.out.1; omega
      · have hki : ¬ (k : Int) < (n : Int) := by omega
        have hkn : k = n := by have := HI.out.1; omega
        subst hkn
        clear hk
        go_wp2
        go_end0
        obtain ⟨i1, φ1, ts, i2, i3, i4⟩ := HI.out
        obtain ⟨a1, a2, a3, a4, a5, a6, a7, a8, a9, a10, a11⟩ := H0.out
        have et : l.take k = l := List.take_of_length_le (by omega)
        have ed : l.drop k = [] := List.drop_of_length_le (by omega)
        rw [et] at i2 i4
        rw [ed] at i4
        refine ⟨φ1, ts, rfl, i2, i4, .inr ⟨G, 0, rfl, fun j hj => ?_⟩, i3.ch.row a4 a5 (by omega) (by rw [← a1]; exact a8)⟩
        rw [Nat.zero_add]
        refine AlF.mono (fun g off hF => ⟨?_, rfl⟩) (i3.done j hj)
        rcases hF with ⟨rfl, b1, b2⟩ | ⟨b1, b2⟩ | b1 | b1
        · exact .inl ⟨a4, a5⟩
        · exact .inl ⟨by omega, by rw [← a1] at b2; omega⟩
        · exact .inr (.inl b1)
        · exact .inr (.inr b1)
end Go.Proofs.YtegdloenakachaaGreatDoor

namespace Go.Proofs.YtegdloenakachaaGreatDoor
open Go.RowKit Go.Shelf Go.Maps
set_option linter.unusedVariables false

theorem FpR.widen {P : SbP} {a b N N' a' b' M M' k o : Nat} (h : FpR P a b N N' k o) (h1 : a' ≤ a) (h2 : b ≤ b') (h3 : M ≤ N) (h4 : N' ≤ M') : FpR P a' b' M M' k o := by
  rcases h with h | h | h
  · exact .inl ⟨by omega, by omega⟩
  · exact .inr (.inl h)
  · exact .inr (.inr ⟨by omega, by omega⟩)
theorem FpR.keep {P : SbP} {a b N N' a2 b2 k o : Nat} {W W' : World} (hc : RoCh P a2 b2 W W') (h : FpR P a b N N' k o) (ho : P.Ok) (hS : P.S < N) (hN : N' ≤ W.heap.size) (hSW : P.S < W.heap.size) (h1 : b ≤ a2) (h2 : b2 ≤ P.Z) (h3 : b ≤ P.Z) : W'.heap[k]? = W.heap[k]? := by
  have e1 := ho.zm
  have e2 := ho.mS
  have e3 := ho.hS
  have e4 := ho.bm
  have e5 := ho.bf
  have e6 := ho.zf
  have e7 := ho.fS
  have e8 := ho.zb
  refine hc.block k ?_ ?_ ?_ ?_ ?_ <;> rcases h with ⟨a, b⟩ | ⟨a, b⟩ | ⟨a, b⟩ <;> omega
/-- Blocks but four stay. -/
def TlCh (P : SbP) (g : Nat) (W W' : World) : Prop := ∀ k, k < W.heap.size → k ≠ P.S → k ≠ P.m → k ≠ P.fh → k ≠ g → W'.heap[k]? = W.heap[k]?
theorem FpR.tail {P : SbP} {a b N N' g k o : Nat} {W W' : World} (hc : TlCh P g W W') (h : FpR P a b N N' k o) (ho : P.Ok) (hS : P.S < N) (hN : N' ≤ W.heap.size) (hSW : P.S < W.heap.size) (hg : g < a) (hgZ : g < P.Z) (h3 : b ≤ P.Z) : W'.heap[k]? = W.heap[k]? := by
  have e1 := ho.zm
  have e2 := ho.mS
  have e3 := ho.hS
  have e4 := ho.bm
  have e5 := ho.bf
  have e6 := ho.zf
  have e7 := ho.fS
  have e8 := ho.zb
  refine hc k ?_ ?_ ?_ ?_ ?_ <;> rcases h with ⟨a, b⟩ | ⟨a, b⟩ | ⟨a, b⟩ <;> omega
theorem rsum3 {d : Nat} : ∀ l : List (ByteArray × Tr d), (l.map (fun p => 1 + rcM d p.2)).sum = l.length + (l.map fun b => costM d b.2).sum + (l.map fun b => sizeM d b.2).sum
  | [] => rfl
  | x :: l => by
    have := rsum3 l
    simp only [List.map_cons, List.sum_cons, List.length_cons]
    rw [this]
    simp only [rcM]
    omega
theorem rsum4 {d : Nat} : ∀ l : List (Tr d), (l.map (rcM d)).sum = (l.map (costM d)).sum + (l.map (sizeM d)).sum
  | [] => rfl
  | x :: l => by
    have := rsum4 l
    simp only [List.map_cons, List.sum_cons]
    rw [this]
    simp only [rcM]
    omega
theorem rsum5 {d : Nat} : ∀ l : List (AltH × Tr d), (l.map (rcA d)).sum = (l.map (csA d)).sum + (l.map fun a => sizeM d a.2).sum
  | [] => rfl
  | x :: l => by
    have := rsum5 l
    simp only [List.map_cons, List.sum_cons]
    rw [this]
    simp only [rcM, rcA, csA]
    omega
theorem rcM_succ {d : Nat} (t : Tr (d + 1)) : rcM (d + 1) t = (TrN.params t).length + (((TrN.binds t).map (fun p => 1 + rcM d p.2)).sum + (((TrN.args t).map (rcM d)).sum + (((TrN.alts t).map (rcA d)).sum + 1))) := by
  have e1 : rcM (d + 1) t = (bndM t).length + ((TrN.binds t).map fun b => costM d b.2).sum + ((TrN.args t).map (costM d)).sum + ((TrN.alts t).map (csA d)).sum + (1 + ((TrN.binds t).map fun b => sizeM d b.2).sum + ((TrN.args t).map (sizeM d)).sum + ((TrN.alts t).map fun a => sizeM d a.2).sum) := rfl
  have e2 : (bndM t).length = (TrN.params t).length + (TrN.binds t).length := by simp [bndM]
  rw [e1, rsum3, rsum4, rsum5]
  omega
/-- What is left to do. -/
def X6 (S : Nat) (tp : Value) (Q : World → Prop) (w6 : World) : Prop := S < w6.heap.size ∧ Calls Tryz.prog 69 #[.pointer (some ⟨S, 9, none⟩), tp] w6 fun e w7 => e = .returned (.tuple #[]) ∧ Q w7
def X5 (S g off : Nat) (kd : Int) (tp : Value) (Q : World → Prop) (w5 : World) : Prop := S < w5.heap.size ∧ g < w5.heap.size ∧ w5.cell? ⟨g, off, none⟩ = some (.int .i64 kd) ∧ (kd = 1 → Calls Tryz.prog 68 #[.pointer (some ⟨S, 0, none⟩), .pointer (some ⟨g, off, none⟩)] w5 fun e w6 => e = .returned (.tuple #[]) ∧ X6 S tp Q w6) ∧ (kd ≠ 1 → X6 S tp Q w5)
def X4 (S g off n : Nat) (N : World → Prop) (w : World) : Prop := S < w.heap.size ∧ g < w.heap.size ∧ ∃ o c, w.cell? ⟨g, off + 6, none⟩ = some (.slice o n c) ∧ Calls Tryz.prog 67 #[.pointer (some ⟨S, 0, none⟩), .slice o n c] w fun e w' => e = .returned (.tuple #[]) ∧ N w'
def X3 (S g off n : Nat) (N : World → Prop) (w : World) : Prop := S < w.heap.size ∧ g < w.heap.size ∧ ∃ o c, w.cell? ⟨g, off + 5, none⟩ = some (.slice o n c) ∧ Calls Tryz.prog 66 #[.pointer (some ⟨S, 0, none⟩), .slice o n c] w fun e w' => e = .returned (.tuple #[]) ∧ N w'
def X2 (S g off n : Nat) (N : World → Prop) (w : World) : Prop := S < w.heap.size ∧ g < w.heap.size ∧ ∃ o c, w.cell? ⟨g, off + 4, none⟩ = some (.slice o n c) ∧ Calls Tryz.prog 65 #[.pointer (some ⟨S, 0, none⟩), .slice o n c] w fun e w' => e = .returned (.tuple #[]) ∧ N w'
def X1 (S g off n : Nat) (N : World → Prop) (w : World) : Prop := S < w.heap.size ∧ g < w.heap.size ∧ ∃ o c, w.cell? ⟨g, off + 3, none⟩ = some (.slice o n c) ∧ Calls Tryz.prog 64 #[.pointer (some ⟨S, 0, none⟩), .slice o n c] w fun e w' => e = .returned (.tuple #[]) ∧ N w'
def X0 (S g off : Nat) (n1 n2 n3 n4 : Nat) (kd : Int) (tp : Value) (Q : World → Prop) (w : World) : Prop := Calls Tryz.prog 63 #[.pointer (some ⟨S, 9, none⟩), .pointer (some ⟨g, off, none⟩)] w fun e w1 => e = .returned (.tuple #[]) ∧ X1 S g off n1 (X2 S g off n2 (X3 S g off n3 (X4 S g off n4 (X5 S g off kd tp Q)))) w1
/-- All parts are done. -/
structure Ex5 (P : SbP) (db : Nat) (b : Tr db) (F : List UInt8 → Bool) (L : List (List UInt8)) (C : Nat) (sc1 : Sc) (ns : List (List UInt8)) (φ : List UInt8 → Nat) (k0 d : Nat) (t : Tr (d + 1)) (g off lo hi : Nat) (w W : World) (φ5 : List UInt8 → Nat) (o3 o4 o5 o6 : Option Addr) (c3 c4 c5 c6 : Nat) (bs : List (ByteArray × Tr (db + d))) (es : List (Tr (db + d))) (al : List (AltH × Tr (db + d))) : Prop where
  r : SuR P db b F L C C sc1 φ (k0 + 1) W φ5
  ch : ElCh P g off 7 lo hi w W
  x0 : W.cell? ⟨g, off, none⟩ = some (.int .i64 (TrN.kind t))
  x1 : W.cell? ⟨g, off + 1, none⟩ = some (.string (TrN.name t))
  x2 : W.cell? ⟨g, off + 2, none⟩ = some (.int .i64 (TrN.num t))
  x3 : W.cell? ⟨g, off + 3, none⟩ = some (.slice o3 (TrN.params t).length c3)
  x4 : W.cell? ⟨g, off + 4, none⟩ = some (.slice o4 bs.length c4)
  x5 : W.cell? ⟨g, off + 5, none⟩ = some (.slice o5 es.length c5)
  x6 : W.cell? ⟨g, off + 6, none⟩ = some (.slice o6 al.length c6)
  n3 : NwOK F φ5 (TrN.params t)
  y3 : TxF W (FpR P lo hi w.heap.size W.heap.size) o3 ((TrN.params t).map (rnB F φ5))
  y4 : RowF 8 (BdF W (FpR P lo hi w.heap.size W.heap.size) (db + d)) o4 bs
  y5 : RowF 7 (ExF W (FpR P lo hi w.heap.size W.heap.size) (db + d)) o5 es
  y6 : RowF 11 (AlF W (FpR P lo hi w.heap.size W.heap.size) (db + d)) o6 al
  r4 : All2 (BdR P.name F db b φ5 d ns) (TrN.binds t) bs
  r5 : All2 (SubR P.name F db b φ5 d ns) (TrN.args t) es
  r6 : All2 (AlR P.name F db b φ5 d ns) (TrN.alts t) al
/-- The parts as they stand, under a name that may be another one. -/
theorem Ex5.fin {P : SbP} {db : Nat} {b : Tr db} {F : List UInt8 → Bool} {L : List (List UInt8)} {C : Nat} {sc1 : Sc} {ns : List (List UInt8)} {φ : List UInt8 → Nat} {k0 d : Nat} {t : Tr (d + 1)} {g off lo hi : Nat} {w W : World} {φ5 : List UInt8 → Nat} {o3 o4 o5 o6 : Option Addr} {c3 c4 c5 c6 : Nat} {bs : List (ByteArray × Tr (db + d))} {es : List (Tr (db + d))} {al : List (AltH × Tr (db + d))} (h : Ex5 P db b F L C sc1 ns φ k0 d t g off lo hi w W φ5 o3 o4 o5 o6 c3 c4 c5 c6 bs es al)
    (ho : P.Ok) (hS : P.S < w.heap.size) (hg : g < lo) (hgZ : g < P.Z) (hZ : hi ≤ P.Z) {W' : World} {φ' : List UInt8 → Nat} {nm' : ByteArray} (hs : W.heap.size ≤ W'.heap.size) (he : Ext φ5 φ') (hc : TlCh P g W W') (hx : ∀ q, q < 7 → q ≠ 1 → W'.cell? ⟨g, off + q, none⟩ = W.cell? ⟨g, off + q, none⟩) (hx1 : W'.cell? ⟨g, off + 1, none⟩ = some (.string nm')) : ExF W' (FpE P g off 7 lo hi w.heap.size W'.heap.size) (db + (d + 1)) (show TrN (Tr (db + d)) from ⟨TrN.kind t, nm', TrN.num t, (TrN.params t).map (rnB F φ'), bs, es, al⟩) g off := by
  have hl : w.heap.size ≤ W.heap.size := h.ch.size
  have hF : ∀ k o, FpR P lo hi w.heap.size W.heap.size k o → FpE P g off 7 lo hi w.heap.size W'.heap.size k o ∧ W'.cell? ⟨k, o, none⟩ = W.cell? ⟨k, o, none⟩ := fun k o hk => by
    refine ⟨?_, cell_of_block (hk.tail hc ho hS (Nat.le_refl _) (by omega) hg hgZ hZ) o⟩
    rcases hk with hk | hk | hk
    · exact .inr (.inl hk)
    · exact .inr (.inr (.inl hk))
    · exact .inr (.inr (.inr ⟨hk.1, by omega⟩))
  have hcf : ∀ q, q < 7 → FpE P g off 7 lo hi w.heap.size W'.heap.size g (off + q) := fun q hq => .inl ⟨rfl, by omega, by omega⟩
  refine ⟨⟨hcf 0 (by omega), (hx 0 (by omega) (by omega)).trans h.x0⟩, ⟨hcf 1 (by omega), hx1⟩, ⟨hcf 2 (by omega), (hx 2 (by omega) (by omega)).trans h.x2⟩, ⟨o3, c3, ⟨hcf 3 (by omega), ?_⟩, ?_⟩, ⟨o4, c4, ⟨hcf 4 (by omega), (hx 4 (by omega) (by omega)).trans h.x4⟩, h.y4.mono (fun x g off k => BdF.mono hF k)⟩, ⟨o5, c5, ⟨hcf 5 (by omega), (hx 5 (by omega) (by omega)).trans h.x5⟩, h.y5.mono (fun x g off k => ExF.mono hF _ _ _ _ k)⟩, ⟨o6, c6, ⟨hcf 6 (by omega), (hx 6 (by omega) (by omega)).trans h.x6⟩, h.y6.mono (fun x g off k => AlF.mono hF k)⟩⟩
  · show W'.cell? ⟨g, off + 3, none⟩ = some (.slice o3 ((TrN.params t).map (rnB F φ')).length c3)
    rw [List.length_map]
    exact (hx 3 (by omega) (by omega)).trans h.x3
  · show TxF W' _ o3 ((TrN.params t).map (rnB F φ'))
    rw [h.n3.map he]
    exact h.y3.mono hF
/-- The relation, where nothing is put in the place. -/
theorem Ex5.rel {P : SbP} {db : Nat} {b : Tr db} {F : List UInt8 → Bool} {L : List (List UInt8)} {C : Nat} {sc1 : Sc} {ns ns0 : List (List UInt8)} {φ : List UInt8 → Nat} {k0 d : Nat} {t : Tr (d + 1)} {g off lo hi : Nat} {w W : World} {φ5 : List UInt8 → Nat} {o3 o4 o5 o6 : Option Addr} {c3 c4 c5 c6 : Nat} {bs : List (ByteArray × Tr (db + d))} {es : List (Tr (db + d))} {al : List (AltH × Tr (db + d))} (h : Ex5 P db b F L C sc1 ns φ k0 d t g off lo hi w W φ5 o3 o4 o5 o6 c3 c4 c5 c6 bs es al)
    (hns : ns = dl (bndM t).reverse ++ ns0) {φ' : List UInt8 → Nat} {nm' : ByteArray} (he : Ext φ5 φ') (h0 : ¬ (TrN.kind t = 1 ∧ ns.contains (TrN.name t).data.toList = false ∧ (TrN.name t).toList = P.name.toList)) (h1 : nm' = if TrN.kind t = 1 ∧ ns.contains (TrN.name t).data.toList = true then rnB F φ' (TrN.name t) else TrN.name t) (h2 : TrN.kind t = 1 → ns.contains (TrN.name t).data.toList = true → NwOK F φ' [TrN.name t]) : SubR P.name F db b φ' (d + 1) ns0 t (show TrN (Tr (db + d)) from ⟨TrN.kind t, nm', TrN.num t, (TrN.params t).map (rnB F φ'), bs, es, al⟩) := by
  subst hns
  refine .inr ⟨h0, rfl, rfl, h1, h2, ?_, rfl, h.r4.mono (fun p _ q k => ?_), h.r5.mono (fun p _ q k => SubR.ext he _ _ _ _ k), h.r6.mono (fun p _ q k => AlR.ext he k)⟩
  · intro x hx hF
    rcases List.mem_append.1 hx with hx | hx
    · exact (h.n3.ext he) x hx hF
    · obtain ⟨p, hp, rfl⟩ := List.mem_map.1 hx
      obtain ⟨j, hj, rfl⟩ := List.getElem_of_mem hp
      have hj2 : j < bs.length := by rw [h.r4.1]; exact hj
      exact ((h.r4.2 j hj hj2).2.1.ext he) _ (by simp) hF
  · have := BdR.ext he k
    exact ⟨this.1, this.2.2⟩
end Go.Proofs.YtegdloenakachaaGreatDoor

namespace Go.Proofs.YtegdloenakachaaGreatDoor
open Go.RowKit Go.Shelf Go.Maps
set_option linter.unusedVariables false

/-- Behind all parts: the name itself, and out of the scope. -/
theorem expr_tail (P : SbP) (e : Nat) (b : Tr (e + 1)) (hFb : Fit (e + 1) b) (hsb : sizeM (e + 1) b ≤ 1048576) (hdb : e + 1 ≤ 4096) (F : List UInt8 → Bool) (L : List (List UInt8)) (d : Nat) (t : Tr (d + 1)) (g off lo hi : Nat) (c : Nat) (sc ext : Sc) (φ : List UInt8 → Nat) (k0 C : Nat) (w W : World) (φ5 : List UInt8 → Nat) (o3 o4 o5 o6 : Option Addr) (c3 c4 c5 c6 : Nat) (bs : List (ByteArray × Tr (e + 1 + d))) (es : List (Tr (e + 1 + d))) (al : List (AltH × Tr (e + 1 + d)))
    (h : Ex5 P (e + 1) b F L C (ext ++ sc) (nms (ext ++ sc)) φ k0 d t g off lo hi w W φ5 o3 o4 o5 o6 c3 c4 c5 c6 bs es al) (hext : ext.map Prod.fst = (bndM t).reverse) (hls : ∀ x ∈ bndM t, x.size ≤ maxLen) (hnx : (TrN.name t).size ≤ maxLen) (hS : P.S < w.heap.size) (hg : g < lo) (hgZ : g < P.Z) (hZ : hi ≤ P.Z) (hu : Uf w g) (hg0 : 0 < g) (hC : C + (bndM t).length ≤ c + 2 * costM (d + 1) t) (hC2 : c + 2 * costM (d + 1) t ≤ 2000000) :
    X5 P.S g off (TrN.kind t) (top sc) (fun w7 => SuPost P (e + 1) b F L c sc φ k0 (d + 1) t g off lo hi w (.returned (.tuple #[])) w7) W := by
  obtain ⟨f1, c5', cf5, last5, room5, f2, f3, f4, f5, f6, f7⟩ := h.r
  have ho := f7.ok
  have hSW := f7.lt
  have hss : w.heap.size ≤ W.heap.size := h.ch.size
  have uG : Uf W g := h.ch.uf g hgZ hu
  have hel : ext.length = (bndM t).length := by
    have := congrArg List.length hext
    rw [List.length_map, List.length_reverse] at this
    exact this
  have hlx : ∀ p ∈ ext, p.1.size ≤ maxLen := fun p hp => hls _ (by
    have : p.1 ∈ ext.map Prod.fst := List.mem_map.2 ⟨p, hp, rfl⟩
    rw [hext, List.mem_reverse] at this
    exact this)
  have hns := nms_grown (sc := sc) hext
  have z1 := ho.zm
  have z2 := ho.mS
  have z3 := ho.zf
  have z4 := ho.fS
  refine ⟨hSW, uG.lt, h.x0, fun hk => ?_, fun hk => ?_⟩
  · refine (variable_c P e b hFb hsb hdb F L c5' (ext ++ sc) room5 φ5 cf5 last5 k0 (TrN.name t) hnx g off W f7 f3 f4 f5 f6 hgZ (by omega) uG h.x1 (fun q hq => ?_)).mono ?_
    · rcases (show q = 0 ∨ q = 1 ∨ q = 2 ∨ q = 3 ∨ q = 4 ∨ q = 5 ∨ q = 6 by omega) with rfl | rfl | rfl | rfl | rfl | rfl | rfl
      · exact ⟨_, h.x0⟩
      · exact ⟨_, h.x1⟩
      · exact ⟨_, h.x2⟩
      · exact ⟨_, h.x3⟩
      · exact ⟨_, h.x4⟩
      · exact ⟨_, h.x5⟩
      · exact ⟨_, h.x6⟩
    rintro r6 w6 ⟨φ6, cf6, last6, room6, rfl, v1, v2, v3, v4, v5, v6, v7, v8, v9, v10⟩
    have hS6 := v6.lt
    have s6 := v8.size
    refine ⟨rfl, hS6, ?_⟩
    refine (leave_c ext sc hlx P.S 9 P.m c5' w6 v6.sc (by omega)).mono ?_
    rintro r7 w7 ⟨rfl, y1, y2⟩
    have c7 : SbCh P w6 w7 := SbCh.ofSc y2
    have s7 := c7.size
    have bg7 : w7.heap[g]? = w6.heap[g]? := c7.low ho hS6 hgZ
    have e67 : ElCh P g off 7 lo hi w6 w7 := ElCh.ofSb c7 ho hgZ v7.lt (by omega)
    have e56 : ElCh P g off 7 lo hi W w6 := ⟨v8.os, v8.tape, v8.output, v8.size, fun k a1 a2 a3 a4 a5 _ => v8.block k a1 a2 a3 a4 a5, v9, fun k hk hu2 => by
      by_cases e9 : k = g
      · rw [e9]; exact v7
      · exact hu2.same (v8.block k (by omega) (by omega) (by omega) (by omega) e9)⟩
    have ech := (h.ch.trans e56).trans e67
    have tl : TlCh P g W w7 := fun k a1 a2 a3 a4 a5 => (c7.block k (by omega) a2 a3 a4).trans (v8.block k a1 a2 a3 a4 a5)
    have hst : SuR P (e + 1) b F L c (c + 2 * costM (d + 1) t) sc φ k0 w7 φ6 := ⟨f1.trans v1, c5' + ext.length, cf6, last6, room6, by omega, v2, v3, v4, v5, v6.scope y1 y2⟩
    rcases v10 with ⟨u1, u2, u3, u4⟩ | ⟨u1, u2, k0', k1', k2', k3', k4', k5', k6', u3, a0, a1, a2, a3, a4, a5, a6⟩ | ⟨u1, u2, u3⟩
    · refine ⟨rfl, φ6, _, rfl, h.rel (nm' := rnB F φ6 (TrN.name t)) hns v1 ?_ ?_ ?_, hst, h.fin ho hS hg hgZ hZ (by omega) v1 tl (fun q hq hq1 => ?_) ((cell_of_block bg7 _).trans u3), ech⟩
      · rintro ⟨-, b2, -⟩
        rw [u1] at b2
        cases b2
      · rw [if_pos ⟨hk, u1⟩]
      · intro _ _ x hx
        have : x = TrN.name t := by simpa using hx
        subst this
        exact u2
      · exact (cell_of_block bg7 _).trans (u4 _ (by omega))
    · refine ⟨rfl, φ6, liftN b (d + 1), rfl, .inl ⟨hk, by rw [← hns]; exact u1, u2, rfl⟩, hst, ?_, ech⟩
      have u3' : VlF w7 (FpE P g off 7 lo hi w.heap.size w7.heap.size) (e + 1) b (.agg #[k0', k1', k2', k3', k4', k5', k6']) := by
        refine VlF.mono (fun k o hF => ?_) u3
        have e3 := ho.hS
        have e4 := ho.bm
        have e5 := ho.bf
        have hb : w7.heap[k]? = w6.heap[k]? := by
          refine c7.block k ?_ ?_ ?_ ?_ <;> rcases hF with ⟨q1, q2⟩ | ⟨q1, q2⟩ <;> omega
        refine ⟨?_, cell_of_block hb o⟩
        rcases hF with q1 | ⟨q1, q2⟩
        · exact .inr (.inr (.inl q1))
        · exact .inr (.inr (.inr ⟨by omega, by omega⟩))
      have cl : ∀ o, w7.cell? ⟨g, o, none⟩ = w6.cell? ⟨g, o, none⟩ := fun o => cell_of_block bg7 o
      exact ExF.liftN (VlF.at u3' (fun o q1 q2 => .inl ⟨rfl, q1, q2⟩) ((cl _).trans a0) ((cl _).trans a1) ((cl _).trans a2) ((cl _).trans a3) ((cl _).trans a4) ((cl _).trans a5) ((cl _).trans a6)) (d + 1)
    · refine ⟨rfl, φ6, _, rfl, h.rel (nm' := TrN.name t) hns v1 ?_ ?_ ?_, hst, h.fin ho hS hg hgZ hZ (by omega) v1 tl (fun q hq hq1 => (cell_of_block bg7 _).trans (u3 _)) (((cell_of_block bg7 _).trans (u3 _)).trans h.x1), ech⟩
      · rintro ⟨-, -, b3⟩
        exact u2 b3
      · rw [if_neg]
        rintro ⟨-, b2⟩
        rw [u1] at b2
        cases b2
      · intro _ b2
        rw [u1] at b2
        cases b2
  · refine ⟨hSW, ?_⟩
    refine (leave_c ext sc hlx P.S 9 P.m c5' W f7.sc (by omega)).mono ?_
    rintro r7 w7 ⟨rfl, y1, y2⟩
    have c7 : SbCh P W w7 := SbCh.ofSc y2
    have s7 := c7.size
    have bg7 : w7.heap[g]? = W.heap[g]? := c7.low ho hSW hgZ
    have e67 : ElCh P g off 7 lo hi W w7 := ElCh.ofSb c7 ho hgZ uG.lt (by omega)
    have tl : TlCh P g W w7 := fun k a1 a2 a3 a4 a5 => c7.block k a1 a2 a3 a4
    refine ⟨rfl, φ5, _, rfl, h.rel (nm' := TrN.name t) hns (Ext.refl _) (fun hz => hk hz.1) ?_ (fun hz => absurd hz hk), ⟨f1, c5' + ext.length, cf5, last5, room5, by omega, f3, f4.less (by omega), f5, f6, f7.scope y1 y2⟩, h.fin ho hS hg hgZ hZ s7 (Ext.refl _) tl (fun q hq hq1 => cell_of_block bg7 _) ((cell_of_block bg7 _).trans h.x1), h.ch.trans e67⟩
    rw [if_neg (fun hz => hk hz.1)]
end Go.Proofs.YtegdloenakachaaGreatDoor

namespace Go.Proofs.YtegdloenakachaaGreatDoor
open Go.RowKit Go.Shelf Go.Maps
set_option linter.unusedVariables false

theorem OwRow.bdS {W W' : World} {d lo hi : Nat} {o : Option Addr} {l : List (ByteArray × Tr d)} (h : OwRow W lo hi 8 (OwBd W d) o l) (hb : ∀ k, lo ≤ k → k < hi → W'.heap[k]? = W.heap[k]?) : OwRow W' lo hi 8 (OwBd W' d) o l :=
  h.same hb (fun x g off a b h1 h2 h3 h4 hx => ⟨(cell_of_block (hb g h1 h2) _).trans hx.1, OwEx.same d _ _ _ _ _ hx.2 (fun q _ => cell_of_block (hb g h1 h2) _) (fun k k1 k2 => hb k (by omega) (by omega))⟩)
theorem OwRow.exS {W W' : World} {d lo hi : Nat} {o : Option Addr} {l : List (Tr d)} (h : OwRow W lo hi 7 (OwEx W d) o l) (hb : ∀ k, lo ≤ k → k < hi → W'.heap[k]? = W.heap[k]?) : OwRow W' lo hi 7 (OwEx W' d) o l :=
  h.same hb (fun x g off a b h1 h2 h3 h4 hx => OwEx.same d _ _ _ _ _ hx (fun q _ => cell_of_block (hb g h1 h2) _) (fun k k1 k2 => hb k (by omega) (by omega)))
theorem OwRow.alS {W W' : World} {d lo hi : Nat} {o : Option Addr} {l : List (AltH × Tr d)} (h : OwRow W lo hi 11 (OwAl W d) o l) (hb : ∀ k, lo ≤ k → k < hi → W'.heap[k]? = W.heap[k]?) : OwRow W' lo hi 11 (OwAl W' d) o l :=
  h.same hb (fun x g off a b h1 h2 h3 h4 hx => OwAl.same hx (fun q _ => cell_of_block (hb g h1 h2) _) (fun k k1 k2 => hb k (by omega) (by omega)))
set_option maxHeartbeats 2000000 in
theorem expr_chain (P : SbP) (e : Nat) (b : Tr (e + 1)) (hFb : Fit (e + 1) b) (hsb : sizeM (e + 1) b ≤ 1048576) (hdb : e + 1 ≤ 4096) (F : List UInt8 → Bool) (L : List (List UInt8)) (d : Nat) (ih : SubOK P (e + 1) b F L d) (t : Tr (d + 1)) (g off lo hi : Nat) (c : Nat) (sc : Sc) (room : Int) (φ : List UInt8 → Nat) (cf last k0 : Nat) (w : World) (hE : OwEx w (d + 1) t g off lo hi) (hg : g < lo) (hZ : hi ≤ P.Z) (hgZ : g < P.Z) (hu : Uf w g) (hg0 : 0 < g) (h : SbSt w P (e + 1) b F L c sc room φ cf last) (hN : NumOK F L φ last) (hB : Bnd L cf last (k0 + rcM (d + 1) t)) (hr1 : -1048576 ≤ room) (hr2 : room ≤ 1048576) (hNm : NmOK (d + 1) t) (hFt : Fit (d + 1) t) (hc : c + 2 * costM (d + 1) t ≤ 2000000) (hsc : sc.length + costM (d + 1) t ≤ 2000000) :
    X0 P.S g off (TrN.params t).length (TrN.binds t).length (TrN.args t).length (TrN.alts t).length (TrN.kind t) (top sc) (fun w7 => SuPost P (e + 1) b F L c sc φ k0 (d + 1) t g off lo hi w (.returned (.tuple #[])) w7) w := by
  have hEx : ExAt w P.Z (d + 1) t g off := OwEx.ex (d + 1) t g off lo hi hE hgZ hZ
  obtain ⟨x0, x1, x2, m1, m2, m3, q1, q2, q3, q4, ⟨o3, c3, x3, y3⟩, ⟨o4, c4, x4, y4⟩, ⟨o5, c5, x5, y5⟩, ⟨o6, c6, x6, y6⟩⟩ := hE
  replace y4 : OwRow w m1 m2 8 (OwBd w d) o4 (TrN.binds t) := y4
  replace y5 : OwRow w m2 m3 7 (OwEx w d) o5 (TrN.args t) := y5
  replace y6 : OwRow w m3 hi 11 (OwAl w d) o6 (TrN.alts t) := y6
  obtain ⟨n0, n1, n4, n5, n6⟩ := hNm
  obtain ⟨⟨-, ⟨g3, -⟩, ⟨g4, -⟩, g5, g6, g7⟩, t4, t5, t6⟩ := hFt
  have ho := h.ok
  have hS := h.lt
  have z1 := ho.zm
  have z2 := ho.mS
  have hlen : (bndM t).length = (TrN.params t).length + (TrN.binds t).length := by simp [bndM]
  have hco : costM (d + 1) t = (bndM t).length + ((TrN.binds t).map fun b => costM d b.2).sum + ((TrN.args t).map (costM d)).sum + ((TrN.alts t).map (csA d)).sum := rfl
  have hrc := rcM_succ t
  generalize hA : ((TrN.binds t).map fun b => costM d b.2).sum = A at *
  generalize hAr : ((TrN.binds t).map (fun p => 1 + rcM d p.2)).sum = Ar at *
  generalize hBs : ((TrN.args t).map (costM d)).sum = Bs at *
  generalize hBr : ((TrN.args t).map (rcM d)).sum = Br at *
  generalize hCs : ((TrN.alts t).map (csA d)).sum = Cs at *
  generalize hCr : ((TrN.alts t).map (rcA d)).sum = Cr at *
  refine (enter_c d t n1 P.Z g off P.S 9 P.m c sc w hEx (by omega) z1 (by omega) h.sc (by omega) (by omega)).mono ?_
  rintro r1 w1 ⟨rfl, ext, p1, p2, p3⟩
  have hel : ext.length = (bndM t).length := by
    have := congrArg List.length p1
    rw [List.length_map, List.length_reverse] at this
    exact this
  have hln1 : (ext ++ sc).length = (bndM t).length + sc.length := by rw [List.length_append, hel]
  have h1 := h.scope p2 p3
  have c1 : SbCh P w w1 := SbCh.ofSc p3
  have hS1 := h1.lt
  have s1 := c1.size
  have b1 : ∀ k, k < P.Z → w1.heap[k]? = w.heap[k]? := fun k hk => c1.low ho hS hk
  have u1 : Uf w1 g := hu.same (b1 g hgZ)
  refine ⟨rfl, hS1, u1.lt, o3, c3, (cell_of_block (b1 g hgZ) _).trans x3, ?_⟩
  refine (renameE_c P (e + 1) b F L (c + (bndM t).length) (ext ++ sc) room φ cf last (k0 + (Ar + (Br + (Cr + 1)))) (TrN.params t) (fun x hx => n1 x (List.mem_append_left _ hx)) o3 c3 lo m1 w1 h1 hN (by rw [show k0 + (Ar + (Br + (Cr + 1))) + (TrN.params t).length = k0 + rcM (d + 1) t by omega]; exact hB) (by omega) (by omega) (y3.same (fun k a1 a2 => b1 k (by omega))) g3).mono ?_
  rintro r2 w2 ⟨φ2, cf2, last2, rfl, e1, e2, e3, e4, e5, e6, e7⟩
  have hS2 := e5.lt
  have s2 := e7.size
  have b2 : ∀ k, k < P.Z → ¬ (lo ≤ k ∧ k < m1) → w2.heap[k]? = w.heap[k]? := fun k hk hn => (e7.low ho hS1 hk hn).trans (b1 k hk)
  have u2 : Uf w2 g := hu.same (b2 g hgZ (by omega))
  refine ⟨rfl, hS2, u2.lt, o4, c4, (cell_of_block (b2 g hgZ (by omega)) _).trans x4, ?_⟩
  refine (sub_binds_c P (e + 1) b F L d ih (TrN.binds t) o4 c4 m1 m2 (c + (bndM t).length) (ext ++ sc) room φ2 cf2 last2 (k0 + (Br + (Cr + 1))) w2 (y4.bdS (fun k a1 a2 => b2 k (by omega) (by omega))) (by omega) (by omega) e5 e3 (by rw [hAr, show k0 + (Br + (Cr + 1)) + Ar = k0 + (Ar + (Br + (Cr + 1))) by omega]; exact e4) hr1 hr2 (fun x hx => ⟨n4 x hx, n1 _ (List.mem_append_right _ (List.mem_map.2 ⟨x, hx, rfl⟩))⟩) t4 (by rw [hA]; omega) (by rw [hA]; omega) g4).mono ?_
  rintro r3 w3 ⟨φ3, bs, rfl, f1, ⟨f2, k3, cf3, last3, room3, f3, f4, f5, f6, f7, f8⟩, f9, f10⟩
  rw [hA] at f3
  have hS3 := f8.lt
  have s3 := f10.size
  have b3 : ∀ k, k < P.Z → ¬ (lo ≤ k ∧ k < m2) → w3.heap[k]? = w.heap[k]? := fun k hk hn => (f10.low ho hS2 hk (by omega)).trans (b2 k hk (by omega))
  have u3 : Uf w3 g := hu.same (b3 g hgZ (by omega))
  refine ⟨rfl, hS3, u3.lt, o5, c5, (cell_of_block (b3 g hgZ (by omega)) _).trans x5, ?_⟩
  refine (sub_exprs_c P (e + 1) b F L d ih (TrN.args t) o5 c5 m2 m3 k3 (ext ++ sc) room3 φ3 cf3 last3 (k0 + (Cr + 1)) w3 (y5.exS (fun k a1 a2 => b3 k (by omega) (by omega))) (by omega) (by omega) f8 f4 (by rw [hBr, show k0 + (Cr + 1) + Br = k0 + (Br + (Cr + 1)) by omega]; exact f5) f6 f7 n5 t5 (by rw [hBs]; omega) (by rw [hBs]; omega) g5).mono ?_
  rintro r4 w4 ⟨φ4, es, rfl, j1, ⟨j2, k4, cf4, last4, room4, j3, j4, j5, j6, j7, j8⟩, j9, j10⟩
  rw [hBs] at j3
  have hS4 := j8.lt
  have s4 := j10.size
  have b4 : ∀ k, k < P.Z → ¬ (lo ≤ k ∧ k < m3) → w4.heap[k]? = w.heap[k]? := fun k hk hn => (j10.low ho hS3 hk (by omega)).trans (b3 k hk (by omega))
  have u4 : Uf w4 g := hu.same (b4 g hgZ (by omega))
  refine ⟨rfl, hS4, u4.lt, o6, c6, (cell_of_block (b4 g hgZ (by omega)) _).trans x6, ?_⟩
  refine (sub_alts_c P (e + 1) b F L d ih (TrN.alts t) o6 c6 m3 hi k4 (ext ++ sc) room4 φ4 cf4 last4 (k0 + 1) w4 (y6.alS (fun k a1 a2 => b4 k (by omega) (by omega))) hZ (by omega) j8 j4 (by rw [hCr, show k0 + 1 + Cr = k0 + (Cr + 1) by omega]; exact j5) j6 j7 (fun x hx => ⟨(n6 x hx).2, (n6 x hx).1, (g7 x hx).2.1⟩) t6 (by rw [hCs]; omega) (by rw [hCs]; omega) g6).mono ?_
  rintro r5 w5 ⟨φ5, al, rfl, i1, ⟨i2, k5, cf5, last5, room5, i3, i4, i5, i6, i7, i8⟩, i9, i10⟩
  rw [hCs] at i3
  have hS5 := i8.lt
  have s5 := i10.size
  have b5 : ∀ k, k < P.Z → ¬ (lo ≤ k ∧ k < hi) → w5.heap[k]? = w.heap[k]? := fun k hk hn => (i10.low ho hS4 hk (by omega)).trans (b4 k hk (by omega))
  have cg : ∀ q, w5.cell? ⟨g, off + q, none⟩ = w.cell? ⟨g, off + q, none⟩ := fun q => cell_of_block (b5 g hgZ (by omega)) _
  refine ⟨rfl, ?_⟩
  have gl := hu.lt
  have ech : ElCh P g off 7 lo hi w w5 := ((((ElCh.ofSb c1 ho hgZ gl (by omega)).trans (e7.el ho hgZ u1.lt (by omega) (Nat.le_refl _) (by omega))).trans (f10.el ho hgZ u2.lt (by omega) (by omega) (by omega))).trans (j10.el ho hgZ u3.lt (by omega) (by omega) (by omega))).trans (i10.el ho hgZ u4.lt (by omega) (by omega) (Nat.le_refl _))
  have e25 : Ext φ2 φ5 := (f2.trans j2).trans i2
  refine expr_tail P e b hFb hsb hdb F L d t g off lo hi c sc ext φ k0 (c + (bndM t).length + 2 * A + 2 * Bs + 2 * Cs) w w5 φ5 o3 o4 o5 o6 c3 c4 c5 c6 bs es al ⟨⟨(e2.trans e25), k5, cf5, last5, room5, by omega, i4, i5, i6, i7, i8⟩, ech, (cg 0).trans x0, (cg 1).trans x1, (cg 2).trans x2, (cg 3).trans x3, by rw [f1.1]; exact (cg 4).trans x4, by rw [j1.1]; exact (cg 5).trans x5, by rw [i1.1]; exact (cg 6).trans x6, e1.ext e25, ?_, ?_, ?_, ?_, f1.mono (fun p _ q k => BdR.ext (j2.trans i2) k), j1.mono (fun p _ q k => SubR.ext i2 _ _ _ _ k), i1⟩ p1 n1 n0 hS hg hgZ hZ hu hg0 (by omega) hc
  · rw [e1.map e25]
    refine TxF.mono (fun k o hk => ?_) e6
    have fp : FpR P lo m1 w1.heap.size w2.heap.size k o := .inl hk
    refine ⟨fp.widen (Nat.le_refl _) (by omega) s1 (by omega), ?_⟩
    exact cell_of_block ((fp.keep i10 ho hS1 (by omega) hS4 (by omega) hZ (by omega)).trans ((fp.keep j10 ho hS1 (by omega) hS3 (by omega) (by omega) (by omega)).trans (fp.keep f10 ho hS1 (by omega) hS2 (by omega) (by omega) (by omega)))) _
  · refine f9.mono (fun x g off hx => BdF.mono (fun k o fp => ?_) hx)
    refine ⟨fp.widen (by omega) (by omega) (by omega) (by omega), ?_⟩
    exact cell_of_block ((fp.keep i10 ho hS2 (by omega) hS4 (by omega) hZ (by omega)).trans (fp.keep j10 ho hS2 (by omega) hS3 (by omega) (by omega) (by omega))) _
  · refine j9.mono (fun x g off hx => ExF.mono (fun k o fp => ?_) _ _ _ _ hx)
    refine ⟨fp.widen (by omega) (by omega) (by omega) (by omega), ?_⟩
    exact cell_of_block (fp.keep i10 ho hS3 (by omega) hS4 (by omega) hZ (by omega)) _
  · refine i9.mono (fun x g off hx => AlF.mono (fun k o fp => ?_) hx)
    exact ⟨fp.widen (by omega) (Nat.le_refl _) (by omega) (Nat.le_refl _), rfl⟩
end Go.Proofs.YtegdloenakachaaGreatDoor

namespace Go.Proofs.YtegdloenakachaaGreatDoor
open Go.RowKit Go.Shelf Go.Maps
set_option linter.unusedVariables false

set_option maxRecDepth 100000 in
set_option maxHeartbeats 4000000 in
theorem expr_walk (S g off n1 n2 n3 n4 : Nat) (kd : Int) (tp : Option Addr) (Q : World → Prop) (w : World) (hS : S < w.heap.size) (hi : w.cell? ⟨S, 9, none⟩ = some (.pointer tp)) (h : X0 S g off n1 n2 n3 n4 kd (.pointer tp) Q w) :
    Calls Tryz.prog 34 #[.pointer (some ⟨S, 0, none⟩), .pointer (some ⟨g, off, none⟩)] w fun r w' => r = .returned (.tuple #[]) ∧ Hid (Q w') := by
  have H0 : Hid (Calls Tryz.prog 63 #[.pointer (some ⟨S, 9, none⟩), .pointer (some ⟨g, off, none⟩)] w fun e w1 => e = .returned (.tuple #[]) ∧ X1 S g off n1 (X2 S g off n2 (X3 S g off n3 (X4 S g off n4 (X5 S g off kd (.pointer tp) Q)))) w1) := h
  clear h
  go_enter Tryz.func34, Tryz.ntmps34
  go_wp2_with (go_at_call 63; fail)
  refine H0.out.mono ?_
  rintro e9 w1 ⟨rfl, a1, a2, o3, c3, a3, a4⟩
  have H1 : Hid (Calls Tryz.prog 64 #[.pointer (some ⟨S, 0, none⟩), .slice o3 n1 c3] w1 fun e w' => e = .returned (.tuple #[]) ∧ X2 S g off n2 (X3 S g off n3 (X4 S g off n4 (X5 S g off kd (.pointer tp) Q))) w') := a4
  clear a4 H0 hS hi
  go_wp2_with (go_at_call 64; fail)
  refine H1.out.mono ?_
  rintro e9 w2 ⟨rfl, b1, b2, o4, c4, b3, b4⟩
  have H2 : Hid (Calls Tryz.prog 65 #[.pointer (some ⟨S, 0, none⟩), .slice o4 n2 c4] w2 fun e w' => e = .returned (.tuple #[]) ∧ X3 S g off n3 (X4 S g off n4 (X5 S g off kd (.pointer tp) Q)) w') := b4
  clear b4 H1 a1 a2 a3
  go_wp2_with (go_at_call 65; fail)
  refine H2.out.mono ?_
  rintro e9 w3 ⟨rfl, d1, d2, o5, c5, d3, d4⟩
  have H3 : Hid (Calls Tryz.prog 66 #[.pointer (some ⟨S, 0, none⟩), .slice o5 n3 c5] w3 fun e w' => e = .returned (.tuple #[]) ∧ X4 S g off n4 (X5 S g off kd (.pointer tp) Q) w') := d4
  clear d4 H2 b1 b2 b3
  go_wp2_with (go_at_call 66; fail)
  refine H3.out.mono ?_
  rintro e9 w4 ⟨rfl, f1, f2, o6, c6, f3, f4⟩
  have H4 : Hid (Calls Tryz.prog 67 #[.pointer (some ⟨S, 0, none⟩), .slice o6 n4 c6] w4 fun e w' => e = .returned (.tuple #[]) ∧ X5 S g off kd (.pointer tp) Q w') := f4
  clear f4 H3 d1 d2 d3
  go_wp2_with (go_at_call 67; fail)
  refine H4.out.mono ?_
  rintro e9 w5 ⟨rfl, j1, j2, j3, j4, j5⟩
  by_cases hk : kd = 1
  · subst hk
    have H5 : Hid (Calls Tryz.prog 68 #[.pointer (some ⟨S, 0, none⟩), .pointer (some ⟨g, off, none⟩)] w5 fun e w6 => e = .returned (.tuple #[]) ∧ X6 S (.pointer tp) Q w6) := j4 rfl
    clear j4 j5 H4 f1 f2 f3
    go_wp2_with (go_at_call 68; fail)
    refine H5.out.mono ?_
    rintro e9 w6 ⟨rfl, k1, k2⟩
    have H6 : Hid (Calls Tryz.prog 69 #[.pointer (some ⟨S, 9, none⟩), .pointer tp] w6 fun e w7 => e = .returned (.tuple #[]) ∧ Q w7) := k2
    clear k2 H5 j1 j2 j3
    go_wp2_with (go_at_call 69; fail)
    refine H6.out.mono ?_
    rintro e9 w7 ⟨rfl, hq⟩
    have HQ : Hid (Q w7) := hq
    clear hq H6
    go_wp2
    go_end0
    exact ⟨rfl, HQ⟩
  · have H6 : Hid (Calls Tryz.prog 69 #[.pointer (some ⟨S, 9, none⟩), .pointer tp] w5 fun e w7 => e = .returned (.tuple #[]) ∧ Q w7) := (j5 hk).2
    clear j4 j5 H4 f1 f2 f3
    go_wp2_with (go_at_call 69; fail)
    refine H6.out.mono ?_
    rintro e9 w7 ⟨rfl, hq⟩
    have HQ : Hid (Q w7) := hq
    clear hq H6
    go_wp2
    go_end0
    exact ⟨rfl, HQ⟩
/-- Substitution, for every depth. -/
theorem subOK (P : SbP) (e : Nat) (b : Tr (e + 1)) (hFb : Fit (e + 1) b) (hsb : sizeM (e + 1) b ≤ 1048576) (hdb : e + 1 ≤ 4096) (F : List UInt8 → Bool) (L : List (List UInt8)) : ∀ d, SubOK P (e + 1) b F L d
  | 0 => fun t => nomatch t
  | d + 1 => by
    have ih := subOK P e b hFb hsb hdb F L d
    intro t g off lo hi c sc room φ cf last k0 w hE hg hZ hu hg0 h hN hB hr1 hr2 hNm hFt hc hsc
    obtain ⟨tp, htp⟩ := top_ptr sc
    have hgZ : g < P.Z := by
      obtain ⟨-, -, -, m1, m2, m3, q1, q2, q3, q4, -⟩ := hE
      omega
    have hx := expr_chain P e b hFb hsb hdb F L d ih t g off lo hi c sc room φ cf last k0 w hE hg hZ hgZ hu hg0 h hN hB hr1 hr2 hNm hFt hc hsc
    rw [htp] at hx
    refine (expr_walk P.S g off _ _ _ _ _ tp _ w h.lt (by have := h.sc.inner; rw [htp] at this; exact this) hx).mono ?_
    rintro r w' ⟨rfl, hq⟩
    exact hq.out
end Go.Proofs.YtegdloenakachaaGreatDoor
