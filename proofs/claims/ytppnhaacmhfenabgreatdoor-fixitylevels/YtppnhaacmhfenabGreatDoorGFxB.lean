/-
  A table gone through from behind, by a contract.
  Package fixity: the table's map is made, by a contract.
  A row of operands and operators brought in order: as mathematics, and a row in memory.
  An operator with both its operands, in new memory, by a contract.
  An operand (order's first function), by a contract.
  What waits is gone through from behind, by a contract.
-/
import Derived.RangeFuncNested
import Derived.RangeFuncBound
import Derived.RangeFuncCalls
import Derived.RangeFuncLeaves
import Derived.Shelf.Abstract
import Derived.Shelf.RegionOpen
import Derived.WalkKit
import Derived.OwnWalkIn
import Derived.TacticsInMore
import Derived.LoopNIn
import Derived.LoopIn
import Derived.Maps.OwnIn
import Derived.Test.YtppnhaacmhfenabGreatDoorGFxA
namespace Go.Proofs.YtppnhaacmhfenabGreatDoor
open Go.RowKit Go.Shelf Go.Maps
set_option linter.unusedVariables false

attribute [local go_sem] Oper.semAt_some

/-- What a round that goes on keeps: the cells of some blocks. -/
def KpS (S : Nat → Prop) (W W' : World) : Prop := ∀ (b off : Nat) (v : Value), S b → W.cell? ⟨b, off, none⟩ = some v → W'.cell? ⟨b, off, none⟩ = some v
theorem KpS.refl (S : Nat → Prop) (W : World) : KpS S W W := fun _ _ _ _ h => h
theorem KpS.trans {S : Nat → Prop} {X Y Z : World} (h : KpS S X Y) (k : KpS S Y Z) : KpS S X Z := fun b off v hb e => k b off v hb (h b off v hb e)
theorem KpS.put {S : Nat → Prop} {w : World} (W : World) (l : Nat) (o o' : Obj) (_ : w.heap.size ≤ l) (h : W.heap[l]? = some o) (hc : o.isCells = false) (_ : o.isWalk = false) : KpS S W (W.putObj l o') :=
  fun _ _ _ _ e => cell_kept e (grownBy_putObj' W l o') (fun r e => by cases e; exact ⟨o, h, hc⟩)
theorem KpS.below {S : Nat → Prop} {n : Nat} {W W' : World} (h : Below n W W') (hS : ∀ b, S b → b < n) : KpS S W W' := fun b off v hb e => (h.cell (p := ⟨b, off, none⟩) (hS b hb)).trans e
theorem FxsAt.kp {S : Nat → Prop} {W W' : World} {fs : List Fx} {g off : Nat} (h : FxsAt W fs g off) (hg : S g) (hb : KpS S W W') : FxsAt W' fs g off := fun k hk => ⟨hb _ _ _ hg (h k hk).1, hb _ _ _ hg (h k hk).2.1, hb _ _ _ hg (h k hk).2.2⟩

/-- The numbers from k on, the greatest first. -/
def dn (n k : Nat) : List (Fin n) := ((List.finRange n).drop k).reverse
theorem dn_top (n : Nat) : dn n n = [] := by unfold dn; rw [List.drop_eq_nil_of_le (by simp)]; rfl
theorem dn_step (n k : Nat) (h : k < n) : dn n k = dn n (k + 1) ++ [⟨k, h⟩] := by
  unfold dn
  rw [List.drop_eq_getElem_cons (by simpa using h), List.reverse_cons]
  simp
theorem dn_len (n k : Nat) : (dn n k).length = n - k := by unfold dn; simp

set_option maxRecDepth 100000 in
set_option maxHeartbeats 2000000 in
theorem backw1_in (F : Fence) (n : Nat) (hF : ∀ k, F.fn k) (hro : F.round = none) (h1 : 1 ≤ n) (hn : 3 ≤ n) (l Bs : Nat) (fs : List Fx) (hl : fs.length ≤ 4611686018427387904) (g off cap : Nat) (S : Nat → Prop) (hSB : S Bs) (hSg : S g) (J Jx : List (Fin fs.length) → World → Prop)
    (hY : ∀ pre (x : Fin fs.length) W, J pre W → pre.length < fs.length → YieldAt F (n - 1) Tryz.prog l #[.int .i64 (x.1 : Int), .agg #[.string (bs fs[x].name), .int .i64 fs[x].side, .int .i64 fs[x].level]] W fun e W' =>
      (e = .returned (.bool true) ∧ J (pre ++ [x]) W' ∧ KpS S W W') ∨ (e = .returned (.bool false) ∧ Jx (pre ++ [x]) W'))
    (W : World) (hBs : W.cell? ⟨Bs, 0, none⟩ = some (.slice (some ⟨g, off, none⟩) fs.length cap)) (hA : FxsAt W fs g off) (h0 : J [] W) :
    CallsIn F n Tryz.prog 53 #[.func (.yield l) #[] #[], .pointer (some ⟨Bs, 0, none⟩)] W fun e W' => (∃ v, e = .returned v) ∧
      ((∃ ys, ys = dn fs.length 0 ∧ J ys W') ∨ (∃ pre, True ∧ Jx pre W')) := by
  refine callsIn_of_wp Tryz.func53 rfl (hF _) ?_ hro
  simp only [Tryz.ntmps53, List.size_toArray, List.length_cons, List.length_nil, Nat.reduceAdd, Nat.reduceSub, Array.replicate_succ, Array.replicate_zero, List.push_toArray, List.append_toArray, List.nil_append, List.cons_append]
  have hLi : (fs.length : Int) ≤ 4611686018427387904 := by omega
  gi_wp2
  gi_loopw [3] (fun i wr => ∃ k : Nat, k ≤ fs.length ∧ i = .int .i64 ((k : Int) - 1) ∧ J (dn fs.length k) wr ∧ wr.cell? ⟨Bs, 0, none⟩ = some (.slice (some ⟨g, off, none⟩) fs.length cap) ∧ Hid (FxsAt wr fs g off)) (fun i _ => ((intOf i) + 1).toNat)
  case atStart => exact ⟨fs.length, Nat.le_refl _, rfl, by rw [dn_top]; exact h0, hBs, hA⟩
  case round =>
    obtain ⟨k, hk, rfl, hJs, hbx, hFA⟩ := hrel
    cases k with
    | zero =>
      gi_wp2
      go_end0
      exact ⟨⟨_, rfl⟩, .inl ⟨_, rfl, hJs⟩⟩
    | succ k =>
      have hkl : k < fs.length := by omega
      have hki : (k : Int) < (fs.length : Int) := by omega
      have hq : ((k + 1 : Nat) : Int) - 1 = (k : Int) := by omega
      rw [hq]
      obtain ⟨c0, c1, c2⟩ := hFA.out k hkl
      have hdn := dn_step fs.length k hkl
      have HS : Hid (∀ W' : World, J (dn fs.length (k + 1) ++ [⟨k, hkl⟩]) W' → J (dn fs.length k) W') := fun W' h => by rw [hdn]; exact h
      obtain ⟨fn, tmps, assign, body, hy, hR⟩ := hY _ ⟨k, hkl⟩ wr hJs (by rw [dn_len]; omega)
      dsimp only [Fin.getElem_fin] at hy
      generalize fs[k] = f at *
      clear hdn hq
      gi_wp2
      refine hR.mono ?_
      rintro e W3 (⟨rfl, hJ3, hk3⟩ | ⟨rfl, hJx3⟩)
      · gi_wp2
        go_roundw
        case rel => exact ⟨k, by omega, by go_num, HS.out _ hJ3, hk3 _ _ _ hSB hbx, (hFA.out.kp hSg hk3 : FxsAt _ _ _ _)⟩
        case measure => simp [intOf]
      · gi_wp2
        refine bodyPost_ret (results_none rfl _ _ _) rfl ?_
        exact ⟨⟨_, rfl⟩, .inr ⟨_, True.intro, hJx3⟩⟩
theorem backw_stops (F : Fence) (n : Nat) (hF : ∀ k, F.fn k) (hro : F.round = none) (hn : 3 ≤ n) (Bs : Nat) (fs : List Fx) (hl : fs.length ≤ 4611686018427387904) (g off cap : Nat) (S : Nat → Prop) (hSB : S Bs) (hSg : S g) (w : World) (hBs : Bs < w.heap.size) (hg : g < w.heap.size)
    (hc : w.cell? ⟨Bs, 0, none⟩ = some (.slice (some ⟨g, off, none⟩) fs.length cap)) (hA : FxsAt w fs g off) :
    SeqStopsK F n Tryz.prog 53 #[.pointer (some ⟨Bs, 0, none⟩)] (fun x : Fin fs.length => #[Value.int .i64 (x.1 : Int), Value.agg #[.string (bs fs[x].name), .int .i64 fs[x].side, .int .i64 fs[x].level]]) (KpS S) (fun ys => ys = dn fs.length 0) (fun _ => True) fs.length w :=
  fun l J Jx W hW _ _ hY h0 => backw1_in F n hF hro (by omega) hn l Bs fs hl g off cap S hSB hSg J Jx hY W ((hW.cell (p := ⟨Bs, 0, none⟩) hBs).trans hc) (hA.below hg hW) h0

set_option maxHeartbeats 1000000 in
theorem backw_in (F : Fence) (n : Nat) (hF : ∀ k, F.fn k) (hro : F.round = none) (o : Option Addr) (len cap : Nat) (w : World) :
    CallsIn F n Tryz.prog 31 #[.slice o len cap] w fun e w' => e = .returned (.func (.func 53) #[] #[.pointer (some ⟨w.heap.size, 0, none⟩)]) ∧ w' = w.alloc (.cells #[.slice o len cap] 23) := by
  refine callsIn_of_wp Tryz.func31 rfl (hF _) ?_ hro
  simp only [Tryz.ntmps31, List.size_toArray, List.length_cons, List.length_nil, Nat.reduceAdd, Nat.reduceSub, Array.replicate_succ, Array.replicate_zero, List.push_toArray, List.append_toArray, List.nil_append, List.cons_append]
  gi_wp2
  go_ret
  exact ⟨rfl, rfl⟩
end Go.Proofs.YtppnhaacmhfenabGreatDoor

namespace Go.Proofs.YtppnhaacmhfenabGreatDoor
open Go.RowKit Go.Shelf Go.Maps
set_option linter.unusedVariables false

attribute [local go_sem] Oper.semAt_some

theorem blk_kept {W W' : World} {row : Option Nat} {B : Nat} {vs : Array Value} {T : TypeId} (h : Blk W B vs T) (hg : W.grownBy W' row) (hr : ∀ r, row = some r → ∃ o : Obj, W.heap[r]? = some o ∧ o.isCells = false) : Blk W' B vs T := by
  unfold Blk at h ⊢
  rw [hg.block B (Array.getElem?_eq_some_iff.1 h).1 (fun e => by
    obtain ⟨o, h1, h2⟩ := hr B e.symm
    rw [h] at h1
    cases h1
    cases h2), h]
theorem FxSt.kept {W W' : World} {row : Option Nat} {b c B : Nat} {fs : List Fx} (h : FxSt W b c fs) (hb : b < B) (hg : W.grownBy W' row) (hr : ∀ r, row = some r → B ≤ r) : FxSt W' b c fs :=
  h.same (hg.block b h.lt (fun e => by have := hr b e.symm; omega))

theorem KpS.alloc (S : Nat → Prop) (W : World) (o : Obj) : KpS S W (W.alloc o) := fun b off v hb e => cell_kept e (World.grownBy_alloc W o none) (fun r e => by cases e)
theorem dn_all (fs : List Fx) : ((dn fs.length 0).map (fun x : Fin fs.length => fs[x])).reverse = fs := by
  unfold dn
  rw [List.drop_zero, List.map_reverse, List.reverse_reverse]
  apply List.ext_getElem
  · simp
  · intro i h1 h2
    simp
theorem FxSt.put {W W' : World} {b c : Nat} {fs : List Fx} {D : DataW Value} (f : Fx) (hD : Maps.IsMap D) (hall : ∀ x : List UInt8, Maps.has D (.string x) = (fs.find? (fun f => f.name == x)).isSome ∧ ∀ f, fs.find? (fun f => f.name == x) = some f → D.atKey (.string x) (.held fxZero) = .held f.val)
    (hown : W'.ownsMap Tryz.prog 9 heldElem b c (D.put (.string f.name) (.held f.val))) : FxSt W' b c (f :: fs) := by
  refine ⟨_, hown, ?_, fun x => ?_⟩
  · obtain ⟨es, rfl⟩ := hD
    exact ⟨_, rfl⟩
  · by_cases hx : f.name = x
    · subst hx
      have e : (f :: fs).find? (fun g => g.name == f.name) = some f := List.find?_cons_of_pos (by simp)
      rw [e]
      refine ⟨by rw [Maps.has_put_same hD (by constructor)]; rfl, fun g hg => ?_⟩
      cases hg
      exact Maps.atKey_put_same hD (by constructor) _ _
    · have e : (f :: fs).find? (fun g => g.name == x) = fs.find? (fun g => g.name == x) := List.find?_cons_of_neg (by simpa using hx)
      have hx2 : ¬ (x = f.name) := fun h => hx h.symm
      rw [e, Maps.has_put_other (by simpa using hx2)]
      refine ⟨(hall x).1, fun g hg => ?_⟩
      rw [Maps.atKey_put_other (by simpa using hx2)]
      exact (hall x).2 g hg

set_option maxRecDepth 100000 in
set_option maxHeartbeats 2000000 in
theorem finder_in (F : Fence) (n : Nat) (hF : ∀ k, F.fn k) (hro : F.round = none) (h1 : 1 ≤ n) (hn : 6 ≤ n) (fs : List Fx) (hl : fs.length ≤ 4611686018427387904) (hs : ∀ f ∈ fs, f.name.length ≤ 9223372036854775807) (g off cap : Nat) (w : World) (hg : g < w.heap.size) (hA : FxsAt w fs g off) :
    CallsIn F n Tryz.prog 21 #[.slice (some ⟨g, off, none⟩) fs.length cap] w fun e W' => e = .returned (.func (.func 32) #[] #[.pointer (some ⟨w.heap.size + 1, 0, none⟩)]) ∧ Below w.heap.size w W' ∧ Blk W' (w.heap.size + 1) #[.map (some w.heap.size)] 70 ∧ FxSt W' w.heap.size fs.length fs := by
  refine callsIn_of_wp_marks Tryz.func21 rfl (hF _) ?_ hro
  simp only [Tryz.ntmps21, List.size_toArray, List.length_cons, List.length_nil, Nat.reduceAdd, Nat.reduceSub, Array.replicate_succ, Array.replicate_zero, List.push_toArray, List.append_toArray, List.nil_append, List.cons_append]
  have hmm := @run_makeMap Tryz.prog
  gi_wp2_with (gi_at_call 31; refine (backw_in F (n - 1) hF hro _ _ _ _).mono ?_; rintro e w' ⟨rfl, rfl⟩)
  have hw0 : Hid ((((w.alloc (.map #[] 0)).alloc (.cells #[.map (some w.heap.size)] 70)).alloc (.cells #[.slice (some ⟨g, off, none⟩) fs.length cap] 23)).heap.size = w.heap.size + 3) := by show _ = _; simp
  have hB0 : Below w.heap.size w (((w.alloc (.map #[] 0)).alloc (.cells #[.map (some w.heap.size)] 70)).alloc (.cells #[.slice (some ⟨g, off, none⟩) fs.length cap] 23)) := (((Below.refl _ w).alloc (Nat.le_refl _) _).alloc (by simp) _).alloc (by simp; omega) _
  have bM : FxSt (((w.alloc (.map #[] 0)).alloc (.cells #[.map (some w.heap.size)] 70)).alloc (.cells #[.slice (some ⟨g, off, none⟩) fs.length cap] 23)) w.heap.size 0 [] := ((fxSt_new w).below ((Below.refl _ _).alloc (Nat.le_refl _) _)).below ((Below.refl _ _).alloc (Nat.le_refl _) _)
  have bB : Blk (((w.alloc (.map #[] 0)).alloc (.cells #[.map (some w.heap.size)] 70)).alloc (.cells #[.slice (some ⟨g, off, none⟩) fs.length cap] 23)) (w.heap.size + 1) #[.map (some w.heap.size)] 70 := (Blk.new2 w _ _ _).below ((Below.refl _ _).alloc (Nat.le_refl _) _)
  have bS : Blk (((w.alloc (.map #[] 0)).alloc (.cells #[.map (some w.heap.size)] 70)).alloc (.cells #[.slice (some ⟨g, off, none⟩) fs.length cap] 23)) (w.heap.size + 1 + 1) #[.slice (some ⟨g, off, none⟩) fs.length cap] 23 := by
    have := Blk.new ((w.alloc (.map #[] 0)).alloc (.cells #[.map (some w.heap.size)] 70)) #[.slice (some ⟨g, off, none⟩) fs.length cap] 23
    simpa using this
  have hA0 := hA.below hg hB0
  generalize (((w.alloc (.map #[] 0)).alloc (.cells #[.map (some w.heap.size)] 70)).alloc (.cells #[.slice (some ⟨g, off, none⟩) fs.length cap] 23)) = W0 at *
  refine wpIn_rangeFunc_ownH hro h1 (gf := 53) (lb := #[.pointer (some ⟨w.heap.size + 1 + 1, 0, none⟩)]) rfl (hF _) (enters_of Tryz.func53 (by kernel_rfl) rfl)
    (backw_stops F (n - 1) hF hro (by omega) (w.heap.size + 1 + 1) fs hl g off cap (fun b => b = w.heap.size + 1 + 1 ∨ b = g) (.inl rfl) (.inr rfl) W0 (by have := hw0.out; omega) (by have := hw0.out; omega) (bS.cell 0 _ rfl) hA0) KpS.trans (fun W l o o' hl => KpS.put (w := W0) W l o o' hl) (Below.refl _ _) (fun _ => rfl)
    (fun pre W => (FxSt W w.heap.size pre.length ((pre.map (fun x : Fin fs.length => fs[x])).reverse) ∧ Blk W (w.heap.size + 1) #[.map (some w.heap.size)] 70) ∧ Below w.heap.size w W)
    (fun _ _ _ => False)
    (OwnFrom.and (fun pre A B row hs hgr hr => ⟨hs.1.kept (B := W0.heap.size) (by have := hw0.out; omega) hgr (fun r e => (hr r e).1), blk_kept hs.2 hgr (fun r e => (hr r e).2)⟩) (ownFrom_below (Nat.le_refl _) (by have := hw0.out; omega)))
    (fun c s A B row hs _ _ => hs)
    ⟨⟨bM, bB⟩, hB0⟩
    (fun x a' W => ∃ Bx, Blk W Bx #[.string (bs fs[x].name), .int .i64 fs[x].side, .int .i64 fs[x].level] 42 ∧ a' = { tmps := #[.slice (some ⟨g, off, none⟩) fs.length cap, undef, .nilFunc, .pointer (some ⟨w.heap.size + 1, 0, none⟩), undef, .pointer (some ⟨Bx, 0, none⟩), .map (some w.heap.size), .slice (some ⟨g, off, none⟩) fs.length cap, .func (.func 53) #[] #[.pointer (some ⟨w.heap.size + 1 + 1, 0, none⟩)], .int .i64 (x.1 : Int), .agg #[.string (bs fs[x].name), .int .i64 fs[x].side, .int .i64 fs[x].level], undef, undef, undef, undef, undef], defers := [] })
    (fun x a' u A B row hs hgr hr => by obtain ⟨Bx, e2, e3⟩ := hs; exact ⟨Bx, blk_kept e2 hgr (fun r e => (hr r e).2), e3⟩)
    ?assign ?body ?done ?stop
  case assign =>
    rintro l pre x W K ⟨⟨i1, i2⟩, i3⟩ hK
    have hb : Below W.heap.size W (W.alloc (.cells #[.string (bs fs[x].name), .int .i64 fs[x].side, .int .i64 fs[x].level] 42)) := (Below.refl _ _).alloc (Nat.le_refl _) _
    gi_wp2
    exact hK _ _ ((KeepsOthers.alloc _ _).from _) (KpS.alloc _ _ _) ⟨⟨i1.below hb, i2.below hb⟩, i3.trans (hb.mono i3.size)⟩ ⟨W.heap.size, Blk.new _ _ _, rfl⟩
  case body =>
    rintro l pre x a' W hl' ⟨r, hr⟩ ⟨⟨hst, hbx⟩, hB⟩ ⟨Bx, hBk, rfl⟩ hlt
    obtain ⟨D, hown, hD, hall⟩ := hst
    have hm := hbx.cell 0 _ rfl
    obtain ⟨f0, f1, f2, _, _, _⟩ := hBk.all3
    have hBl := hBk.lt
    have hml := hbx.lt
    have hkey := key_strN (bs fs[x].name) (hs fs[x] (List.getElem_mem _))
    have HP : Hid (∀ w1 : World, w1.ownsMap Tryz.prog 9 heldElem w.heap.size (pre.length + 1) (D.put (.string fs[x].name) (.held (.agg #[.string (bs fs[x].name), .int .i64 fs[x].side, .int .i64 fs[x].level]))) → W.grownBy w1 (some w.heap.size) → KeepsFrom W0.heap.size W w1 ∧ KpS (fun b => b = w.heap.size + 1 + 1 ∨ b = g) W w1 ∧ (FxSt w1 w.heap.size (pre ++ [x]).length (((pre ++ [x]).map (fun x : Fin fs.length => fs[x])).reverse) ∧ Blk w1 (w.heap.size + 1) #[.map (some w.heap.size)] 70) ∧ Below w.heap.size w w1) := by
      intro w1 ho1 hg1
      obtain ⟨es, clock, k1, k2⟩ := hown
      refine ⟨KeepsFrom.of_grownBy hg1 (fun j e => by cases e; have := hw0.out; omega), fun b off v hb e => cell_kept e hg1 (fun r er => by cases er; exact ⟨_, k1, rfl⟩), ⟨?_, blk_kept hbx hg1 (fun r er => by cases er; exact ⟨_, k1, rfl⟩)⟩, hB.grown hg1 hB.size (fun k e => by cases e; exact Nat.le_refl _)⟩
      have e1 : ((pre ++ [x]).map (fun x : Fin fs.length => fs[x])).reverse = fs[x] :: (pre.map (fun x : Fin fs.length => fs[x])).reverse := by simp
      rw [e1, List.length_append]
      exact FxSt.put (W := W) fs[x] hD hall ho1
    have hpl : pre.length < maxLen := by unfold maxLen; omega
    clear hall hD hlt
    generalize fs[x] = f at *
    gi_wp2_with (gi_at_mapUpdate; refine wpListIn_mapUpdate_own _ rfl _ _ _ 70 rfl 9 42 (string_keyed Tryz.underlying9) Tryz.underlying70 heldElem w.heap.size pre.length D rfl hown hpl _ _ _ rfl rfl hkey (.held (.agg #[.string (bs f.name), .int .i64 f.side, .int .i64 f.level])) [] rfl ?_; intro w1 hown1 hgrow1)
    exact HP.out w1 hown1 hgrow1
  case done =>
    rintro D ys W hD rfl ⟨⟨hst, hbx⟩, hB⟩ hK
    rw [dn_all, dn_len] at hst
    gi_wp2
    refine ⟨by simp, .inl ⟨_, _, rfl, run_takeDeferred hK, ?_⟩⟩
    have hgp := grownBy_putObj' W D (.deferred none)
    refine ⟨_, results_tmp rfl _ _ _, rfl, hB.trans (belowK_b (w := w) (Nat.le_refl _) _ D _ _ (by have := hw0.out; omega) hK rfl rfl), blk_kept hbx hgp (fun r e => by cases e; exact ⟨_, hK, rfl⟩), ?_⟩
    have := hst.kept (B := W0.heap.size) (by have := hw0.out; omega) hgp (fun r e => by cases e; exact hD)
    simpa using this
  case stop =>
    rintro D c pre W _ _ h _
    exact h.elim

/-- finder of a table that is nil, or of one in memory. -/
theorem finder_c (fs : List Fx) (hl : fs.length ≤ 4611686018427387904) (hs : ∀ f ∈ fs, f.name.length ≤ 9223372036854775807) (g off cap : Nat) (w : World) (hg : g < w.heap.size) (hA : FxsAt w fs g off) :
    Calls Tryz.prog 21 #[.slice (some ⟨g, off, none⟩) fs.length cap] w fun e W' => e = .returned (.func (.func 32) #[] #[.pointer (some ⟨w.heap.size + 1, 0, none⟩)]) ∧ Below w.heap.size w W' ∧ Blk W' (w.heap.size + 1) #[.map (some w.heap.size)] 70 ∧ FxSt W' w.heap.size fs.length fs :=
  (callsIn_wide (n := 9)).1 (finder_in Fence.wide 9 (fun _ => trivial) rfl (by omega) (by omega) fs hl hs g off cap w hg hA)
end Go.Proofs.YtppnhaacmhfenabGreatDoor

namespace Go.Proofs.YtppnhaacmhfenabGreatDoor
open Go.RowKit Go.Shelf Go.Maps
set_option linter.unusedVariables false

/-- A part of a row: a node, and whether it is the - of a negation. -/
structure It where
  node : Nd
  minus : Bool
/-- What reading on comes to. -/
inductive RR where
  | ok (n : Nd) (rest : List It)
  | bad (pos : Int)
  | stuck
/-- And on, where there is no fault. -/
def RR.on (x : RR) (k : Nd → List It → RR) : RR := match x with | .ok n r => k n r | .bad p => .bad p | .stuck => .stuck
def negF : Fx := ⟨[], 1, 6⟩
/-- An operand. -/
def opdM (rd : Fx → List It → RR) (behind : Fx) : List It → RR
  | [] => .stuck
  | it :: rest => if it.minus = false then .ok it.node rest else if 6 ≤ behind.level then .bad it.node.pos else
      (rd negF rest).on fun n r => .ok (.mk it.node.kind it.node.name it.node.num [n] it.node.pos) r
/-- Those that wait get their right operands. -/
def unw (kind : Int) (wait : List (Nd × Nd)) (left : Nd) : Nd := wait.foldl (fun acc p => appM kind p.2 p.1 acc) left
def loopM (rd : Fx → List It → RR) (kind : Int) (hold : List UInt8 → Fx) (behind : Fx) : Nat → Nd → List (Nd × Nd) → List It → RR
  | 0, _, _, _ => .stuck
  | m + 1, left, wait, [] => .ok (unw kind wait left) []
  | m + 1, left, wait, it :: rest =>
    if it.node.name = [] then .stuck else
    if (!mayM kind it.node.name || clashM behind (hold it.node.name)) = true then .bad it.node.pos else
    if keepsM behind (hold it.node.name) = true then .ok (unw kind wait left) (it :: rest) else
    if behind.level = (hold it.node.name).level then
      if left.kids ≠ [] then .stuck else
      (opdM rd (hold it.node.name) rest).on fun l2 r2 => loopM rd kind hold behind m l2 ((left, it.node) :: wait) r2
    else
      (rd (hold it.node.name) rest).on fun r r2 => loopM rd kind hold behind m (appM kind it.node left r) wait r2
def rdM (kind : Int) (hold : List UInt8 → Fx) (m : Nat) : Nat → Fx → List It → RR
  | 0, _, _ => .stuck
  | d + 1, behind, rest =>
    (opdM (rdM kind hold m d) behind rest).on fun left r => loopM (rdM kind hold m d) kind hold behind m left [] r

/-- Each cell of the one is the other's. -/
def CSub (W W' : World) : Prop := ∀ (g off : Nat) (v : Value), W.cell? ⟨g, off, none⟩ = some v → W'.cell? ⟨g, off, none⟩ = some v
mutual
theorem NdAt.sub {W W' : World} {B : Nat} (hs : CSub W W') : ∀ (n : Nd) (g off : Nat), NdAt W B n g off → NdAt W' B n g off
  | .mk k nm nu kids ps, g, off, h => by
    simp only [NdAt] at h ⊢
    obtain ⟨o, cap, h0, h1, h2, h3, h4, hc, hc2, hwf, hk⟩ := h
    refine ⟨o, cap, hs _ _ _ h0, hs _ _ _ h1, hs _ _ _ h2, hs _ _ _ h3, hs _ _ _ h4, hc, hc2, hwf, ?_⟩
    rcases hk with hk | ⟨g', off', e, hg', hk⟩
    · exact .inl hk
    · exact .inr ⟨g', off', e, hg', KidsAt.sub hs kids g' off' hk⟩
theorem KidsAt.sub {W W' : World} {B : Nat} (hs : CSub W W') : ∀ (ns : List Nd) (g off : Nat), KidsAt W B ns g off → KidsAt W' B ns g off
  | [], _, _, _ => by simp only [KidsAt]
  | n :: ns, g, off, h => by
    simp only [KidsAt] at h ⊢
    exact ⟨NdAt.sub hs n g off h.1, KidsAt.sub hs ns g (off + 5) h.2⟩
end
theorem NdIn.sub {W W' : World} {B : Nat} {n : Nd} {o : Option Addr} {cap : Nat} (h : NdIn W B n o cap) (hs : CSub W W') : NdIn W' B n o cap := by
  refine ⟨?_, h.2⟩
  rcases h.1 with e | ⟨g, off, e, hg, hK⟩
  · exact .inl e
  · exact .inr ⟨g, off, e, hg, KidsAt.sub hs _ g off hK⟩
/-- A world without what lies below lo. -/
def msk (lo : Nat) (W : World) : World := { W with heap := W.heap.mapIdx (fun i o => if i < lo then .cells #[] 3 (0, 0) else o) }
theorem msk_heap (lo : Nat) (W : World) (k : Nat) (h : lo ≤ k) : (msk lo W).heap[k]? = W.heap[k]? := by
  simp only [msk, Array.getElem?_mapIdx]
  cases W.heap[k]? with
  | none => rfl
  | some o => simp only [Option.map_some]; rw [if_neg (by omega)]
theorem msk_cell (lo : Nat) (W : World) (g off : Nat) (h : lo ≤ g) : (msk lo W).cell? ⟨g, off, none⟩ = W.cell? ⟨g, off, none⟩ := by
  simp only [World.cell?]; rw [msk_heap lo W g h]
theorem msk_low (lo : Nat) (W : World) (g off : Nat) (h : g < lo) (v : Value) : (msk lo W).cell? ⟨g, off, none⟩ ≠ some v := by
  simp only [World.cell?, msk, Array.getElem?_mapIdx]
  cases W.heap[g]? with
  | none => simp
  | some o => simp [h]
theorem msk_blk {lo : Nat} {W : World} {g : Nat} {vs : Array Value} {T : TypeId} (h : Blk W g vs T) (hl : lo ≤ g) : Blk (msk lo W) g vs T := by
  unfold Blk; rw [msk_heap lo W g hl]; exact h
/-- A tree that lies from lo on. -/
def Fr (lo : Nat) (W : World) (n : Nd) (o : Option Addr) (cap : Nat) : Prop := NdIn (msk lo W) W.heap.size n o cap
theorem Fr.nin {lo : Nat} {W : World} {n : Nd} {o : Option Addr} {cap : Nat} (h : Fr lo W n o cap) : NdIn W W.heap.size n o cap := NdIn.sub h (fun g off v e => by
  by_cases hg : lo ≤ g
  · rw [msk_cell lo W g off hg] at e; exact e
  · exact absurd e (msk_low lo W g off (by omega) v))
theorem Fr.keep {lo lo' : Nat} {W W' : World} {n : Nd} {o : Option Addr} {cap : Nat} (h : Fr lo W n o cap) (hl : lo' ≤ lo) (hb : ∀ k, k < W.heap.size → lo ≤ k → W'.heap[k]? = W.heap[k]?) (hs : W.heap.size ≤ W'.heap.size) : Fr lo' W' n o cap := nin_mono (NdIn.sub h (fun g off v e => by
  by_cases hg : lo ≤ g
  · rw [msk_cell lo' W' g off (by omega)]
    rw [msk_cell lo W g off hg] at e
    by_cases hk : g < W.heap.size
    · simp only [World.cell?] at e ⊢; rw [hb g hk hg]; exact e
    · simp only [World.cell?] at e; rw [Array.getElem?_eq_none (by omega)] at e; cases e
  · exact absurd e (msk_low lo W g off (by omega) v))) hs
theorem Fr.leaf {lo : Nat} {W : World} {n : Nd} {o : Option Addr} {cap : Nat} (hk : n.kids = []) (h : NdIn W W.heap.size n o cap) : Fr lo W n o cap := ⟨.inl hk, h.2⟩
/-- A row in memory. -/
def ItAt (W : World) (B : Nat) (its : List It) (g off : Nat) : Prop := ∀ k (h : k < its.length), NdAt W B its[k].node g (off + k * 6) ∧ W.cell? ⟨g, off + k * 6 + 5, none⟩ = some (.bool its[k].minus)

theorem Blk.short {W : World} {B : Nat} {vs : Array Value} {T : TypeId} (h : Blk W B vs T) (j : Nat) (hj : vs.size ≤ j) : W.cell? ⟨B, j, none⟩ = none := by
  simp [World.cell?, show W.heap[B]? = _ from h, hj]
/-- Where one cell alone lies no tree lies. -/
theorem NdAt.ne1 {W : World} {B b g off : Nat} {n : Nd} {v : Value} {T : TypeId} (h : NdAt W B n g off) (hb : Blk W b #[v] T) : g ≠ b := by
  rintro rfl
  obtain ⟨o, cap, k0, k1, k2, k3, k4, _⟩ := h.cells
  have := hb.short (off + 1) (by simp)
  rw [this] at k1
  cases k1
mutual
theorem NdAt.but1 {b : Nat} {W W' : World} {B : Nat} {v : Value} {T : TypeId} (hb : But b W W') (h1 : Blk W b #[v] T) (hB : B ≤ W.heap.size) : ∀ (n : Nd) (g off : Nat), g < B → NdAt W B n g off → NdAt W' B n g off
  | .mk k nm nu kids ps, g, off, hg, h => by
    have hne := h.ne1 h1
    simp only [NdAt] at h ⊢
    obtain ⟨o, cap, h0, h1', h2, h3, h4, hc, hc2, hwf, hk⟩ := h
    have hgw : g < W.heap.size := by omega
    refine ⟨o, cap, (hb.cell g off hgw hne).trans h0, (hb.cell g (off + 1) hgw hne).trans h1', (hb.cell g (off + 2) hgw hne).trans h2, (hb.cell g (off + 3) hgw hne).trans h3, (hb.cell g (off + 4) hgw hne).trans h4, hc, hc2, hwf, ?_⟩
    rcases hk with hk | ⟨g', off', e, hg', hk⟩
    · exact .inl hk
    · exact .inr ⟨g', off', e, hg', KidsAt.but1 hb h1 hB kids g' off' hg' hk⟩
theorem KidsAt.but1 {b : Nat} {W W' : World} {B : Nat} {v : Value} {T : TypeId} (hb : But b W W') (h1 : Blk W b #[v] T) (hB : B ≤ W.heap.size) : ∀ (ns : List Nd) (g off : Nat), g < B → KidsAt W B ns g off → KidsAt W' B ns g off
  | [], _, _, _, _ => by simp only [KidsAt]
  | n :: ns, g, off, hg, h => by
    simp only [KidsAt] at h ⊢
    exact ⟨NdAt.but1 hb h1 hB n g off hg h.1, KidsAt.but1 hb h1 hB ns g (off + 5) hg h.2⟩
end
theorem NdIn.but1 {b : Nat} {W W' : World} {n : Nd} {o : Option Addr} {cap : Nat} {v : Value} {T : TypeId} (h : NdIn W W.heap.size n o cap) (hb : But b W W') (h1 : Blk W b #[v] T) : NdIn W' W'.heap.size n o cap := by
  refine nin_mono (B := W.heap.size) ⟨?_, h.2⟩ hb.size
  rcases h.1 with e | ⟨g, off, e, hg, hK⟩
  · exact .inl e
  · exact .inr ⟨g, off, e, hg, KidsAt.but1 hb h1 (Nat.le_refl _) _ g off hg hK⟩

theorem but_set (W : World) (b off : Nat) (v : Value) : But b W (W.setCell ⟨b, off, none⟩ v) := ⟨by first | rfl | simp, by first | rfl | simp, by first | rfl | simp, by first | exact Nat.le_refl _ | simp, fun k hk hne => heap_setCell_other _ _ _ _ (by exact hne)⟩
/-- A row that is brought in order, the variables that the two functions share, and the map of the table. -/
structure Rw where
  kind : Int
  fs : List Fx
  mb : Nat
  b : Nat
  c : Nat
  its : List It
  g : Nat
  off : Nat
  cap : Nat
  B : Nat
  bR : Nat
  bK : Nat
  bRow : Nat
  bP : Nat
  bRd : Nat
  bOp : Nat
  n : Nat
def Rw.rdL (R : Rw) : Array Value := #[.pointer (some ⟨R.bOp, 0, none⟩), .pointer (some ⟨R.bP, 0, none⟩), .pointer (some ⟨R.bRow, 0, none⟩), .pointer (some ⟨R.bR, 0, none⟩), .pointer (some ⟨R.bK, 0, none⟩), .pointer (some ⟨R.bRd, 0, none⟩)]
def Rw.opL (R : Rw) : Array Value := #[.pointer (some ⟨R.bRow, 0, none⟩), .pointer (some ⟨R.bP, 0, none⟩), .pointer (some ⟨R.bRd, 0, none⟩)]
structure RwOK (R : Rw) (W : World) (p : Nat) : Prop where
  r : Blk W R.bR #[.func (.func 32) #[] #[.pointer (some ⟨R.mb, 0, none⟩)]] 54
  m : Blk W R.mb #[.map (some R.b)] 70
  st : FxSt W R.b R.c R.fs
  k : Blk W R.bK #[.int .i64 R.kind] 3
  row : Blk W R.bRow #[.slice (some ⟨R.g, R.off, none⟩) R.its.length R.cap] 75
  pl : Blk W R.bP #[.int .i64 (p : Int)] 3
  rd : Blk W R.bRd #[.func (.func 57) #[] R.rdL] 96
  op : Blk W R.bOp #[.func (.func 54) #[] R.opL] 96
  it : ItAt W R.B R.its R.g R.off
  hg : R.g < R.B
  hB : R.B ≤ W.heap.size
  hle : p ≤ R.its.length
  len : R.its.length ≤ 1000000000
  nm : ∀ k (h : k < R.its.length), R.its[k].minus = false ∧ R.its[k].node.kids = []
  ne : R.bR ≠ R.bP ∧ R.mb ≠ R.bP ∧ R.b ≠ R.bP ∧ R.bK ≠ R.bP ∧ R.bRow ≠ R.bP ∧ R.bRd ≠ R.bP ∧ R.bOp ≠ R.bP
  lt : R.bR < R.n ∧ R.mb < R.n ∧ R.b < R.n ∧ R.bK < R.n ∧ R.bRow < R.n ∧ R.bP < R.n ∧ R.bRd < R.n ∧ R.bOp < R.n ∧ R.B ≤ R.n
  hn : R.n ≤ W.heap.size
theorem RwOK.but {R : Rw} {W W' : World} {p q : Nat} (h : RwOK R W p) (hb : But R.bP W W') (hp : Blk W' R.bP #[.int .i64 (q : Int)] 3) (hq : q ≤ R.its.length) : RwOK R W' q := by
  obtain ⟨n1, n2, n3, n4, n5, n6, n7⟩ := h.ne
  refine ⟨h.r.but n1 hb, h.m.but n2 hb, h.st.same (hb.block _ h.st.lt n3), h.k.but n4 hb, h.row.but n5 hb, hp, h.rd.but n6 hb, h.op.but n7 hb, fun k hk => ⟨NdAt.but1 hb h.pl h.hB _ _ _ h.hg (h.it k hk).1, ?_⟩, h.hg, Nat.le_trans h.hB hb.size, hq, h.len, h.nm, h.ne, h.lt, Nat.le_trans h.hn hb.size⟩
  exact (hb.cell _ _ (Nat.lt_of_lt_of_le h.hg h.hB) ((h.it k hk).1.ne1 h.pl)).trans (h.it k hk).2
theorem RwOK.below {R : Rw} {W W' : World} {p : Nat} (h : RwOK R W p) (hb : Below W.heap.size W W') : RwOK R W' p := h.but (but_below hb _) (h.pl.below hb) h.hle

theorem RwOK.belowN {R : Rw} {W W' : World} {p : Nat} (h : RwOK R W p) (hb : Below R.n W W') : RwOK R W' p := by
  obtain ⟨l1, l2, l3, l4, l5, l6, l7, l8, l9⟩ := h.lt
  have f : ∀ {g : Nat} {vs : Array Value} {T : TypeId}, Blk W g vs T → g < R.n → Blk W' g vs T := fun hk hl => (hb.block _ hl).trans hk
  refine ⟨f h.r l1, f h.m l2, h.st.same (hb.block _ l3), f h.k l4, f h.row l5, f h.pl l6, f h.rd l7, f h.op l8, fun k hk => ⟨((h.it k hk).1).below (hb.mono l9) _ _ _ h.hg, ?_⟩, h.hg, Nat.le_trans h.hB hb.size, h.hle, h.len, h.nm, h.ne, h.lt, Nat.le_trans h.hn hb.size⟩
  exact (hb.cell (p := ⟨R.g, _, none⟩) (Nat.lt_of_lt_of_le h.hg l9)).trans (h.it k hk).2
def ndZero : Value := .agg #[.int .i64 0, .string ⟨#[]⟩, .int .i64 0, .slice none 0 0, .int .i64 0]
/-- What a call of the two functions comes to. -/
def RdRes (R : Rw) (p : Nat) (w w' : World) (e : Ending) : RR → Prop
  | .ok n rest => ∃ o cap p', e = .returned (.tuple #[n.val o cap, .pointer none]) ∧ Fr w.heap.size w' n o cap ∧ RwOK R w' p' ∧ rest = R.its.drop p' ∧ p < p' ∧ But R.bP w w'
  | .bad pos => ∃ g p', e = .returned (.tuple #[ndZero, .pointer (some ⟨g, 0, none⟩)]) ∧ Blk w' g #[.int .i64 7, .int .i64 pos] 33 ∧ RwOK R w' p' ∧ But R.bP w w'
  | .stuck => True
def RdOK (R : Rw) (rd : Fx → List It → RR) : Prop := ∀ (f : Fx) (p : Nat) (W : World), RwOK R W p → rd f (R.its.drop p) ≠ .stuck → Calls Tryz.prog 57 (#[.agg #[.string (bs f.name), .int .i64 f.side, .int .i64 f.level]] ++ R.rdL) W fun e w' => RdRes R p W w' e (rd f (R.its.drop p))
def OpOK (R : Rw) (rd : Fx → List It → RR) : Prop := ∀ (f : Fx) (p : Nat) (W : World), RwOK R W p → opdM rd f (R.its.drop p) ≠ .stuck → Calls Tryz.prog 54 (#[.agg #[.string (bs f.name), .int .i64 f.side, .int .i64 f.level]] ++ R.opL) W fun e w' => RdRes R p W w' e (opdM rd f (R.its.drop p))
end Go.Proofs.YtppnhaacmhfenabGreatDoor

namespace Go.Proofs.YtppnhaacmhfenabGreatDoor
open Go.RowKit Go.Shelf Go.Maps
set_option linter.unusedVariables false

set_option maxRecDepth 100000 in
set_option maxHeartbeats 4000000 in
theorem appliedF_c (lo : Nat) (kind : Int) (op l r : Nd) (oo ol or' : Option Addr) (co cl cr : Nat) (hne : op.name ≠ []) (w : World) (hlo : lo ≤ w.heap.size) (ho : Fr lo w op oo co) (hl : Fr lo w l ol cl) (hr : Fr lo w r or' cr) :
    Calls Tryz.prog 61 #[.int .i64 kind, op.val oo co, l.val ol cl, r.val or' cr] w fun e w' => ∃ o cap, e = .returned ((appM kind op l r).val o cap) ∧ Fr lo w' (appM kind op l r) o cap ∧ Below w.heap.size w w' := by
  by_cases hk : kind = 44
  · have HF : Hid (∀ (a b c d : Obj), ∃ o cap, o = some ⟨w.heap.size + 4, 0, none⟩ ∧ cap = 2 ∧ Fr lo (((((w.alloc a).alloc b).alloc c).alloc d).alloc (.cells #[.int .i64 l.kind, .string (bs l.name), .int .i64 l.num, .slice ol l.kids.length cl, .int .i64 l.pos, .int .i64 r.kind, .string (bs r.name), .int .i64 r.num, .slice or' r.kids.length cr, .int .i64 r.pos] 28)) (appM 44 op l r) o cap ∧ Below w.heap.size w (((((w.alloc a).alloc b).alloc c).alloc d).alloc (.cells #[.int .i64 l.kind, .string (bs l.name), .int .i64 l.num, .slice ol l.kids.length cl, .int .i64 l.pos, .int .i64 r.kind, .string (bs r.name), .int .i64 r.num, .slice or' r.kids.length cr, .int .i64 r.pos] 28))) := by
      intro a b c d
      obtain ⟨h1, h2, h3⟩ := fifth w a b c d #[.int .i64 l.kind, .string (bs l.name), .int .i64 l.num, .slice ol l.kids.length cl, .int .i64 l.pos, .int .i64 r.kind, .string (bs r.name), .int .i64 r.num, .slice or' r.kids.length cr, .int .i64 r.pos] 28
      refine ⟨_, _, rfl, rfl, nin_2 _ rfl ⟨(by decide : (-9223372036854775808 : Int) ≤ 39 ∧ (39 : Int) ≤ 9223372036854775807), ho.2.2.2.2.1, (by decide : (-9223372036854775808 : Int) ≤ 0 ∧ (0 : Int) ≤ 9223372036854775807)⟩ (hl.keep (Nat.le_refl _) (fun k hk _ => h2.block k hk) h2.size) (hr.keep (Nat.le_refl _) (fun k hk _ => h2.block k hk) h2.size) (by omega) (msk_blk h1 (by omega)), h2⟩
    subst hk
    clear ho hl hr
    unfold Nd.val
    go_enter Tryz.func61, Tryz.ntmps61
    go_wp2
    obtain ⟨o, cap, rfl, rfl, h1, h2⟩ := HF.out (.cells #[.int .i64 op.kind, .string (bs op.name), .int .i64 op.num, .slice oo op.kids.length co, .int .i64 op.pos] 28) (.cells #[.int .i64 l.kind, .string (bs l.name), .int .i64 l.num, .slice ol l.kids.length cl, .int .i64 l.pos] 28) (.cells #[.int .i64 r.kind, .string (bs r.name), .int .i64 r.num, .slice or' r.kids.length cr, .int .i64 r.pos] 28) (.cells #[.int .i64 39, .string (bs op.name), .int .i64 0, .slice (some ⟨w.heap.size + 4, 0, none⟩) 2 2, .int .i64 l.pos] 28)
    exact bodyPost_ret (v := (appM 44 op l r).val (some ⟨w.heap.size + 4, 0, none⟩) 2) (by simp [results, Tryz.results61, go_sem]; rfl) rfl ⟨_, _, rfl, h1, h2⟩
  · have hA : appM kind op l r = .mk 16 [] 0 [opHead op, l, r] l.pos := if_neg hk
    have t1 : (kind == 44) = false := beq_eq_false_iff_ne.2 hk
    obtain ⟨b, ls, hbl⟩ : ∃ b ls, op.name = b :: ls := by cases h : op.name with | nil => exact absurd h hne | cons b ls => exact ⟨b, ls, rfl⟩
    have HC : Hid (∀ W, Calls Tryz.prog 76 #[.string (bs op.name)] W fun e w' => e = .returned (.bool (isCon op.name)) ∧ w' = W) := by intro W; rw [hbl]; exact isConF_c b ls W
    clear hbl hk hne
    cases hb : isCon op.name with
    | true =>
      have hH : opHead op = .mk 12 op.name op.num op.kids op.pos := by unfold opHead; rw [hb]; rfl
      have HF : Hid (∀ (a b c d : Obj), Fr lo (((((w.alloc a).alloc b).alloc c).alloc d).alloc (.cells #[.int .i64 12, .string (bs op.name), .int .i64 op.num, .slice oo op.kids.length co, .int .i64 op.pos, .int .i64 l.kind, .string (bs l.name), .int .i64 l.num, .slice ol l.kids.length cl, .int .i64 l.pos, .int .i64 r.kind, .string (bs r.name), .int .i64 r.num, .slice or' r.kids.length cr, .int .i64 r.pos] 28)) (appM kind op l r) (some ⟨w.heap.size + 4, 0, none⟩) 3 ∧ Below w.heap.size w (((((w.alloc a).alloc b).alloc c).alloc d).alloc (.cells #[.int .i64 12, .string (bs op.name), .int .i64 op.num, .slice oo op.kids.length co, .int .i64 op.pos, .int .i64 l.kind, .string (bs l.name), .int .i64 l.num, .slice ol l.kids.length cl, .int .i64 l.pos, .int .i64 r.kind, .string (bs r.name), .int .i64 r.num, .slice or' r.kids.length cr, .int .i64 r.pos] 28))) := by
        intro a b c d
        obtain ⟨h1, h2, h3⟩ := fifth w a b c d #[.int .i64 12, .string (bs op.name), .int .i64 op.num, .slice oo op.kids.length co, .int .i64 op.pos, .int .i64 l.kind, .string (bs l.name), .int .i64 l.num, .slice ol l.kids.length cl, .int .i64 l.pos, .int .i64 r.kind, .string (bs r.name), .int .i64 r.num, .slice or' r.kids.length cr, .int .i64 r.pos] 28
        rw [hA]
        refine ⟨nin_3 (a := .mk 12 op.name op.num op.kids op.pos) (b := l) (d := r) _ (by show [opHead op, l, r] = _; rw [hH]) ⟨(by decide : (-9223372036854775808 : Int) ≤ 16 ∧ (16 : Int) ≤ 9223372036854775807), (by decide : (0 : Nat) ≤ 9223372036854775807), (by decide : (-9223372036854775808 : Int) ≤ 0 ∧ (0 : Int) ≤ 9223372036854775807)⟩ (Fr.keep (lo := lo) (W := w) (n := .mk 12 op.name op.num op.kids op.pos) ⟨ho.1, ho.2.1, ho.2.2.1, (by decide : (-9223372036854775808 : Int) ≤ 12 ∧ (12 : Int) ≤ 9223372036854775807), ho.2.2.2.2⟩ (Nat.le_refl _) (fun k hk _ => h2.block k hk) h2.size) (hl.keep (Nat.le_refl _) (fun k hk _ => h2.block k hk) h2.size) (hr.keep (Nat.le_refl _) (fun k hk _ => h2.block k hk) h2.size) (by omega) (msk_blk h1 (by omega)), h2⟩
      have HV : Hid ((appM kind op l r).val (some ⟨w.heap.size + 4, 0, none⟩) 3 = .agg #[.int .i64 16, .string ⟨#[]⟩, .int .i64 0, .slice (some ⟨w.heap.size + 4, 0, none⟩) 3 3, .int .i64 l.pos]) := by show _ = _; rw [hA]; rfl
      rw [hb] at HC
      clear ho hl hr hH hb hA
      unfold Nd.val
      go_enter Tryz.func61, Tryz.ntmps61
      go_wp2_with (go_at_call 76; refine (HC.out _).mono ?_; rintro e w1 ⟨rfl, rfl⟩)
      refine bodyPost_ret (v := (appM kind op l r).val (some ⟨w.heap.size + 4, 0, none⟩) 3) (by rw [HV.out]; simp [results, Tryz.results61, go_sem]) rfl ⟨_, _, rfl, ?_, (HF.out _ _ _ _).2⟩
      have h5 := (HF.out (.cells #[.int .i64 12, .string (bs op.name), .int .i64 op.num, .slice oo op.kids.length co, .int .i64 op.pos] 28) (.cells #[.int .i64 l.kind, .string (bs l.name), .int .i64 l.num, .slice ol l.kids.length cl, .int .i64 l.pos] 28) (.cells #[.int .i64 r.kind, .string (bs r.name), .int .i64 r.num, .slice or' r.kids.length cr, .int .i64 r.pos] 28) (.cells #[.int .i64 16, .string ⟨#[]⟩, .int .i64 0, .slice (some ⟨w.heap.size + 4, 0, none⟩) 3 3, .int .i64 l.pos] 28)).1
      exact h5
    | false =>
      have hH : opHead op = .mk 11 op.name op.num op.kids op.pos := by unfold opHead; rw [hb]; rfl
      have HF : Hid (∀ (a b c d : Obj), Fr lo (((((w.alloc a).alloc b).alloc c).alloc d).alloc (.cells #[.int .i64 11, .string (bs op.name), .int .i64 op.num, .slice oo op.kids.length co, .int .i64 op.pos, .int .i64 l.kind, .string (bs l.name), .int .i64 l.num, .slice ol l.kids.length cl, .int .i64 l.pos, .int .i64 r.kind, .string (bs r.name), .int .i64 r.num, .slice or' r.kids.length cr, .int .i64 r.pos] 28)) (appM kind op l r) (some ⟨w.heap.size + 4, 0, none⟩) 3 ∧ Below w.heap.size w (((((w.alloc a).alloc b).alloc c).alloc d).alloc (.cells #[.int .i64 11, .string (bs op.name), .int .i64 op.num, .slice oo op.kids.length co, .int .i64 op.pos, .int .i64 l.kind, .string (bs l.name), .int .i64 l.num, .slice ol l.kids.length cl, .int .i64 l.pos, .int .i64 r.kind, .string (bs r.name), .int .i64 r.num, .slice or' r.kids.length cr, .int .i64 r.pos] 28))) := by
        intro a b c d
        obtain ⟨h1, h2, h3⟩ := fifth w a b c d #[.int .i64 11, .string (bs op.name), .int .i64 op.num, .slice oo op.kids.length co, .int .i64 op.pos, .int .i64 l.kind, .string (bs l.name), .int .i64 l.num, .slice ol l.kids.length cl, .int .i64 l.pos, .int .i64 r.kind, .string (bs r.name), .int .i64 r.num, .slice or' r.kids.length cr, .int .i64 r.pos] 28
        rw [hA]
        refine ⟨nin_3 (a := .mk 11 op.name op.num op.kids op.pos) (b := l) (d := r) _ (by show [opHead op, l, r] = _; rw [hH]) ⟨(by decide : (-9223372036854775808 : Int) ≤ 16 ∧ (16 : Int) ≤ 9223372036854775807), (by decide : (0 : Nat) ≤ 9223372036854775807), (by decide : (-9223372036854775808 : Int) ≤ 0 ∧ (0 : Int) ≤ 9223372036854775807)⟩ (Fr.keep (lo := lo) (W := w) (n := .mk 11 op.name op.num op.kids op.pos) ⟨ho.1, ho.2.1, ho.2.2.1, (by decide : (-9223372036854775808 : Int) ≤ 11 ∧ (11 : Int) ≤ 9223372036854775807), ho.2.2.2.2⟩ (Nat.le_refl _) (fun k hk _ => h2.block k hk) h2.size) (hl.keep (Nat.le_refl _) (fun k hk _ => h2.block k hk) h2.size) (hr.keep (Nat.le_refl _) (fun k hk _ => h2.block k hk) h2.size) (by omega) (msk_blk h1 (by omega)), h2⟩
      have HV : Hid ((appM kind op l r).val (some ⟨w.heap.size + 4, 0, none⟩) 3 = .agg #[.int .i64 16, .string ⟨#[]⟩, .int .i64 0, .slice (some ⟨w.heap.size + 4, 0, none⟩) 3 3, .int .i64 l.pos]) := by show _ = _; rw [hA]; rfl
      rw [hb] at HC
      clear ho hl hr hH hb hA
      unfold Nd.val
      go_enter Tryz.func61, Tryz.ntmps61
      go_wp2_with (go_at_call 76; refine (HC.out _).mono ?_; rintro e w1 ⟨rfl, rfl⟩)
      refine bodyPost_ret (v := (appM kind op l r).val (some ⟨w.heap.size + 4, 0, none⟩) 3) (by rw [HV.out]; simp [results, Tryz.results61, go_sem]) rfl ⟨_, _, rfl, ?_, (HF.out _ _ _ _).2⟩
      have h5 := (HF.out (.cells #[.int .i64 11, .string (bs op.name), .int .i64 op.num, .slice oo op.kids.length co, .int .i64 op.pos] 28) (.cells #[.int .i64 l.kind, .string (bs l.name), .int .i64 l.num, .slice ol l.kids.length cl, .int .i64 l.pos] 28) (.cells #[.int .i64 r.kind, .string (bs r.name), .int .i64 r.num, .slice or' r.kids.length cr, .int .i64 r.pos] 28) (.cells #[.int .i64 16, .string ⟨#[]⟩, .int .i64 0, .slice (some ⟨w.heap.size + 4, 0, none⟩) 3 3, .int .i64 l.pos] 28)).1
      exact h5
end Go.Proofs.YtppnhaacmhfenabGreatDoor

namespace Go.Proofs.YtppnhaacmhfenabGreatDoor
open Go.RowKit Go.Shelf Go.Maps
set_option linter.unusedVariables false

set_option maxRecDepth 100000 in
set_option maxHeartbeats 4000000 in
theorem opd_c (R : Rw) (rd : Fx → List It → RR) : OpOK R rd := by
  intro f p W h hne
  by_cases hp : p < R.its.length
  · have hd : R.its.drop p = R.its[p] :: R.its.drop (p + 1) := List.drop_eq_getElem_cons hp
    obtain ⟨hm, hlf⟩ := h.nm p hp
    have HV : Hid (opdM rd f (R.its.drop p) = .ok R.its[p].node (R.its.drop (p + 1))) := by show _ = _; rw [hd]; simp only [opdM]; rw [if_pos hm]
    obtain ⟨hN, hM⟩ := h.it p hp
    rw [hm] at hM
    have HN : Hid (NdAt W R.B R.its[p].node R.g (R.off + p * 6)) := hN
    obtain ⟨o, cap, k0, k1, k2, k3, k4, hc, hc2, hk⟩ := hN.cells
    have HI : Hid (NdIn W W.heap.size R.its[p].node o cap) := nin_mono (B := R.B) ⟨hk, hc, hc2, hN.wf⟩ h.hB
    have cR : W.cell? ⟨R.bRow, 0, none⟩ = some (.slice (some ⟨R.g, R.off, none⟩) R.its.length R.cap) := h.row.cell 0 _ rfl
    have cP : W.cell? ⟨R.bP, 0, none⟩ = some (.int .i64 (p : Int)) := h.pl.cell 0 _ rfl
    have fP := h.pl.frozen 0
    have lR := h.row.lt
    have lP := h.pl.lt
    have lP1 : R.bP < W.heap.size + 1 := by omega
    have lP2 : R.bP < W.heap.size + 1 + 1 := by omega
    have lg : R.g < W.heap.size := Nat.lt_of_lt_of_le h.hg h.hB
    have hpi : (p : Int) < (R.its.length : Int) := by omega
    have hpl : (R.its.length : Int) ≤ 1000000000 := by have := h.len; omega
    have HE : Hid (∀ a b c : Obj, But R.bP W ((((W.setCell ⟨R.bP, 0, none⟩ (.int .i64 ((p : Int) + 1))).alloc a).alloc b).alloc c) ∧ RwOK R ((((W.setCell ⟨R.bP, 0, none⟩ (.int .i64 ((p : Int) + 1))).alloc a).alloc b).alloc c) (p + 1) ∧ NdIn ((((W.setCell ⟨R.bP, 0, none⟩ (.int .i64 ((p : Int) + 1))).alloc a).alloc b).alloc c) ((((W.setCell ⟨R.bP, 0, none⟩ (.int .i64 ((p : Int) + 1))).alloc a).alloc b).alloc c).heap.size R.its[p].node o cap) := by
      intro a b c
      have b1 : But R.bP W (W.setCell ⟨R.bP, 0, none⟩ (.int .i64 ((p : Int) + 1))) := but_set W _ _ _
      have q1 : Blk (W.setCell ⟨R.bP, 0, none⟩ (.int .i64 ((p : Int) + 1))) R.bP #[.int .i64 ((p : Int) + 1)] 3 := h.pl.set 0 _
      have e1 : ((p : Int) + 1) = ((p + 1 : Nat) : Int) := by omega
      have r1 : RwOK R (W.setCell ⟨R.bP, 0, none⟩ (.int .i64 ((p : Int) + 1))) (p + 1) := h.but b1 (by rw [← e1]; exact q1) hp
      have n1 : NdIn (W.setCell ⟨R.bP, 0, none⟩ (.int .i64 ((p : Int) + 1))) (W.setCell ⟨R.bP, 0, none⟩ (.int .i64 ((p : Int) + 1))).heap.size R.its[p].node o cap := HI.out.but1 b1 h.pl
      generalize W.setCell ⟨R.bP, 0, none⟩ (.int .i64 ((p : Int) + 1)) = W1 at *
      have b2 : Below W1.heap.size W1 (((W1.alloc a).alloc b).alloc c) := (((Below.refl _ W1).alloc (Nat.le_refl _) _).alloc (by simp) _).alloc (by simp; omega) _
      exact ⟨b1.trans (but_below b2 _), r1.below b2, nin_mono (n1.below b2) b2.size⟩
    have HLf : Hid (R.its[p].node.kids = []) := hlf
    clear hd hm hk hc hc2 h hN hne hlf
    generalize hnd : R.its[p].node = nd at *
    have HR : Hid (∀ V : World, But R.bP W V → RwOK R V (p + 1) → NdIn V V.heap.size nd o cap → RdRes R p W V (.returned (.tuple #[.agg #[.int .i64 nd.kind, .string (bs nd.name), .int .i64 nd.num, .slice o nd.kids.length cap, .int .i64 nd.pos], .pointer none])) (opdM rd f (R.its.drop p))) := by
      intro V h1 h2 h3
      rw [HV.out]
      exact ⟨o, cap, p + 1, rfl, Fr.leaf HLf.out h3, h2, rfl, Nat.lt_succ_self _, h1⟩
    clear HV HI HN hnd HLf
    unfold Rw.opL
    generalize bs f.name = fnm at *
    generalize f.side = fsd at *
    generalize f.level = flv at *
    generalize nd.kind = nk at *
    generalize bs nd.name = nn at *
    generalize nd.num = nu at *
    generalize nd.pos = np at *
    generalize nd.kids.length = nl at *
    go_enter Tryz.func54, Tryz.ntmps54
    go_wp2
    obtain ⟨e1, e2, e3⟩ := HE.out (.cells #[.string fnm, .int .i64 fsd, .int .i64 flv] 42) (.cells #[.int .i64 nk, .string nn, .int .i64 nu, .slice o nl cap, .int .i64 np] 28) (.cells #[.int .i64 nk, .string nn, .int .i64 nu, .slice o nl cap, .int .i64 np, .bool false] 95)
    exact bodyPost_ret (v := .tuple #[.agg #[.int .i64 nk, .string nn, .int .i64 nu, .slice o nl cap, .int .i64 np], .pointer none]) (by simp [results, Tryz.results54, go_sem]) rfl (HR.out _ e1 e2 e3)
  · exact absurd (by rw [List.drop_eq_nil_of_le (by omega)]; rfl) hne
end Go.Proofs.YtppnhaacmhfenabGreatDoor

namespace Go.Proofs.YtppnhaacmhfenabGreatDoor
open Go.RowKit Go.Shelf Go.Maps
set_option linter.unusedVariables false

attribute [local go_sem] Oper.semAt_some

/-- An operator that waits for its right operand. -/
structure Pd where
  l : Nd
  ol : Option Addr
  cl : Nat
  op : Nd
  oo : Option Addr
  co : Nat
def Pd.vals (x : Pd) : List Value := [.int .i64 x.l.kind, .string (bs x.l.name), .int .i64 x.l.num, .slice x.ol x.l.kids.length x.cl, .int .i64 x.l.pos, .int .i64 x.op.kind, .string (bs x.op.name), .int .i64 x.op.num, .slice x.oo x.op.kids.length x.co, .int .i64 x.op.pos]
def PdAt (W : World) (ps : List Pd) (g off : Nat) : Prop := ∀ k (h : k < ps.length), W.cell? ⟨g, off + k * 10, none⟩ = some (.int .i64 ps[k].l.kind) ∧ W.cell? ⟨g, off + k * 10 + 1, none⟩ = some (.string (bs ps[k].l.name)) ∧ W.cell? ⟨g, off + k * 10 + 2, none⟩ = some (.int .i64 ps[k].l.num) ∧ W.cell? ⟨g, off + k * 10 + 3, none⟩ = some (.slice ps[k].ol ps[k].l.kids.length ps[k].cl) ∧ W.cell? ⟨g, off + k * 10 + 4, none⟩ = some (.int .i64 ps[k].l.pos) ∧ W.cell? ⟨g, off + k * 10 + 5, none⟩ = some (.int .i64 ps[k].op.kind) ∧ W.cell? ⟨g, off + k * 10 + 6, none⟩ = some (.string (bs ps[k].op.name)) ∧ W.cell? ⟨g, off + k * 10 + 7, none⟩ = some (.int .i64 ps[k].op.num) ∧ W.cell? ⟨g, off + k * 10 + 8, none⟩ = some (.slice ps[k].oo ps[k].op.kids.length ps[k].co) ∧ W.cell? ⟨g, off + k * 10 + 9, none⟩ = some (.int .i64 ps[k].op.pos)
theorem PdAt.below {W W' : World} {B : Nat} {ps : List Pd} {g off : Nat} (h : PdAt W ps g off) (hg : g < B) (hb : Below B W W') : PdAt W' ps g off := fun k hk => by
  obtain ⟨h0, h1, h2, h3, h4, h5, h6, h7, h8, h9⟩ := h k hk
  exact ⟨(hb.cell (p := ⟨g, _, none⟩) hg).trans h0, (hb.cell (p := ⟨g, _, none⟩) hg).trans h1, (hb.cell (p := ⟨g, _, none⟩) hg).trans h2, (hb.cell (p := ⟨g, _, none⟩) hg).trans h3, (hb.cell (p := ⟨g, _, none⟩) hg).trans h4, (hb.cell (p := ⟨g, _, none⟩) hg).trans h5, (hb.cell (p := ⟨g, _, none⟩) hg).trans h6, (hb.cell (p := ⟨g, _, none⟩) hg).trans h7, (hb.cell (p := ⟨g, _, none⟩) hg).trans h8, (hb.cell (p := ⟨g, _, none⟩) hg).trans h9⟩
theorem PdAt.kp {S : Nat → Prop} {W W' : World} {ps : List Pd} {g off : Nat} (h : PdAt W ps g off) (hg : S g) (hb : KpS S W W') : PdAt W' ps g off := fun k hk => by
  obtain ⟨h0, h1, h2, h3, h4, h5, h6, h7, h8, h9⟩ := h k hk
  exact ⟨hb _ _ _ hg h0, hb _ _ _ hg h1, hb _ _ _ hg h2, hb _ _ _ hg h3, hb _ _ _ hg h4, hb _ _ _ hg h5, hb _ _ _ hg h6, hb _ _ _ hg h7, hb _ _ _ hg h8, hb _ _ _ hg h9⟩

set_option maxRecDepth 100000 in
set_option maxHeartbeats 4000000 in
theorem backp1_in (F : Fence) (n : Nat) (hF : ∀ k, F.fn k) (hro : F.round = none) (h1 : 1 ≤ n) (hn : 3 ≤ n) (l Bs : Nat) (ps : List Pd) (hl : ps.length ≤ 4611686018427387904) (o : Option Addr) (cap : Nat) (S : Nat → Prop) (hSB : S Bs) (J Jx : List (Fin ps.length) → World → Prop)
    (hY : ∀ pre (x : Fin ps.length) W, J pre W → pre.length < ps.length → YieldAt F (n - 1) Tryz.prog l #[.int .i64 (x.1 : Int), .agg #[.int .i64 ps[x].l.kind, .string (bs ps[x].l.name), .int .i64 ps[x].l.num, .slice ps[x].ol ps[x].l.kids.length ps[x].cl, .int .i64 ps[x].l.pos, .int .i64 ps[x].op.kind, .string (bs ps[x].op.name), .int .i64 ps[x].op.num, .slice ps[x].oo ps[x].op.kids.length ps[x].co, .int .i64 ps[x].op.pos]] W fun e W' =>
      (e = .returned (.bool true) ∧ J (pre ++ [x]) W' ∧ KpS S W W') ∨ (e = .returned (.bool false) ∧ Jx (pre ++ [x]) W'))
    (W : World) (hBs : W.cell? ⟨Bs, 0, none⟩ = some (.slice o ps.length cap)) (hA : ps = [] ∨ ∃ g off, o = some ⟨g, off, none⟩ ∧ S g ∧ PdAt W ps g off) (h0 : J [] W) :
    CallsIn F n Tryz.prog 77 #[.func (.yield l) #[] #[], .pointer (some ⟨Bs, 0, none⟩)] W fun e W' => (∃ v, e = .returned v) ∧
      ((∃ ys, ys = dn ps.length 0 ∧ J ys W') ∨ (∃ pre, True ∧ Jx pre W')) := by
  refine callsIn_of_wp Tryz.func77 rfl (hF _) ?_ hro
  simp only [Tryz.ntmps77, List.size_toArray, List.length_cons, List.length_nil, Nat.reduceAdd, Nat.reduceSub, Array.replicate_succ, Array.replicate_zero, List.push_toArray, List.append_toArray, List.nil_append, List.cons_append]
  have hLi : (ps.length : Int) ≤ 4611686018427387904 := by omega
  gi_wp2
  gi_loopw [3] (fun i wr => ∃ k : Nat, k ≤ ps.length ∧ i = .int .i64 ((k : Int) - 1) ∧ J (dn ps.length k) wr ∧ wr.cell? ⟨Bs, 0, none⟩ = some (.slice o ps.length cap) ∧ Hid (ps = [] ∨ ∃ g off, o = some ⟨g, off, none⟩ ∧ S g ∧ PdAt wr ps g off)) (fun i _ => ((intOf i) + 1).toNat)
  case atStart => exact ⟨ps.length, Nat.le_refl _, rfl, by rw [dn_top]; exact h0, hBs, hA⟩
  case round =>
    obtain ⟨k, hk, rfl, hJs, hbx, hFA⟩ := hrel
    cases k with
    | zero =>
      gi_wp2
      go_end0
      exact ⟨⟨_, rfl⟩, .inl ⟨_, rfl, hJs⟩⟩
    | succ k =>
      have hkl : k < ps.length := by omega
      have hki : (k : Int) < (ps.length : Int) := by omega
      have hq : ((k + 1 : Nat) : Int) - 1 = (k : Int) := by omega
      rw [hq]
      obtain ⟨g, off, hog, hSg, hPA⟩ : ∃ g off, o = some ⟨g, off, none⟩ ∧ S g ∧ PdAt wr ps g off := by
        rcases hFA.out with e | e
        · rw [e] at hkl; cases hkl
        · exact e
      subst hog
      have HPA : Hid (PdAt wr ps g off) := hPA
      obtain ⟨c0, c1, c2, c3, c4, c5, c6, c7, c8, c9⟩ := hPA k hkl
      have hdn := dn_step ps.length k hkl
      have HS : Hid (∀ W' : World, J (dn ps.length (k + 1) ++ [⟨k, hkl⟩]) W' → J (dn ps.length k) W') := fun W' h => by rw [hdn]; exact h
      obtain ⟨fn, tmps, assign, body, hy, hR⟩ := hY _ ⟨k, hkl⟩ wr hJs (by rw [dn_len]; omega)
      dsimp only [Fin.getElem_fin] at hy
      generalize ps[k] = x at *
      clear hdn hq hFA hPA hA
      gi_wp2
      refine hR.mono ?_
      rintro e W3 (⟨rfl, hJ3, hk3⟩ | ⟨rfl, hJx3⟩)
      · gi_wp2
        go_roundw
        case rel => exact ⟨k, by omega, by go_num, HS.out _ hJ3, hk3 _ _ _ hSB hbx, (.inr ⟨g, off, rfl, hSg, HPA.out.kp hSg hk3⟩ : ps = [] ∨ ∃ g' off', some (⟨g, off, none⟩ : Addr) = some ⟨g', off', none⟩ ∧ S g' ∧ PdAt W3 ps g' off')⟩
        case measure => simp [intOf]
      · gi_wp2
        refine bodyPost_ret (results_none rfl _ _ _) rfl ?_
        exact ⟨⟨_, rfl⟩, .inr ⟨_, True.intro, hJx3⟩⟩
theorem backp_stops (F : Fence) (n : Nat) (hF : ∀ k, F.fn k) (hro : F.round = none) (hn : 3 ≤ n) (Bs : Nat) (ps : List Pd) (hl : ps.length ≤ 4611686018427387904) (o : Option Addr) (cap : Nat) (S : Nat → Prop) (hSB : S Bs) (w : World) (hBs : Bs < w.heap.size)
    (hc : w.cell? ⟨Bs, 0, none⟩ = some (.slice o ps.length cap)) (hA : ps = [] ∨ ∃ g off, o = some ⟨g, off, none⟩ ∧ S g ∧ g < w.heap.size ∧ PdAt w ps g off) :
    SeqStopsK F n Tryz.prog 77 #[.pointer (some ⟨Bs, 0, none⟩)] (fun x : Fin ps.length => #[Value.int .i64 (x.1 : Int), Value.agg #[.int .i64 ps[x].l.kind, .string (bs ps[x].l.name), .int .i64 ps[x].l.num, .slice ps[x].ol ps[x].l.kids.length ps[x].cl, .int .i64 ps[x].l.pos, .int .i64 ps[x].op.kind, .string (bs ps[x].op.name), .int .i64 ps[x].op.num, .slice ps[x].oo ps[x].op.kids.length ps[x].co, .int .i64 ps[x].op.pos]]) (KpS S) (fun ys => ys = dn ps.length 0) (fun _ => True) ps.length w :=
  fun l J Jx W hW _ _ hY h0 => backp1_in F n hF hro (by omega) hn l Bs ps hl o cap S hSB J Jx hY W ((hW.cell (p := ⟨Bs, 0, none⟩) hBs).trans hc) (hA.imp id (fun ⟨g, off, e, h1, h2, h3⟩ => ⟨g, off, e, h1, h3.below h2 hW⟩)) h0

set_option maxHeartbeats 1000000 in
theorem backp_c (o : Option Addr) (len cap : Nat) (w : World) :
    Calls Tryz.prog 62 #[.slice o len cap] w fun e w' => e = .returned (.func (.func 77) #[] #[.pointer (some ⟨w.heap.size, 0, none⟩)]) ∧ w' = w.alloc (.cells #[.slice o len cap] 99) := by
  go_enter Tryz.func62, Tryz.ntmps62
  go_wp2
  go_ret
  exact ⟨rfl, rfl⟩
end Go.Proofs.YtppnhaacmhfenabGreatDoor
