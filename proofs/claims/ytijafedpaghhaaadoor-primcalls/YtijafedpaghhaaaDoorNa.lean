/-
  slices.AppendSeq and slices.Collect over texts, by contracts.
-/
import Derived.Maps.AppendAt
import Derived.RangeFuncNested
import Derived.RangeFuncBound
import Derived.RangeFuncCalls
import Derived.RangeFuncLeaves
import Derived.Shelf.Abstract
import Derived.Shelf.RegionOpen
import Derived.Shelf.SlIter.Stops
import Derived.WalkKit
import Derived.OwnWalkIn
import Derived.TacticsInMore
import Derived.LoopNIn
import Derived.LoopIn
import Derived.Test.YtijafedpaghhaaaDoorPe
namespace Go.Proofs.YtijafedpaghhaaaDoor
open Go.RowKit Go.Shelf Go.Maps Go.Sort
set_option linter.unusedVariables false

attribute [local go_sem] Oper.semAt_some

theorem info9 : (Tryd.prog.info? 9).map (fun i => (i.zero, i.size, i.bytes)) = some (some (.string ⟨#[]⟩), 1, 16) := by kernel_rfl
theorem owns_mono {W : World} {b b' : Nat} {e : TypeId} {z : Nat} {v : Value} {k : Nat} {xs : List Value} (h : W.ownsRow b e z v k xs) (hb : b' ≤ b) : W.ownsRow b' e z v k xs := by
  rcases h with ⟨hl, h | ⟨g, cap, cur, h1, h2, h3⟩⟩
  · exact ⟨hl, .inl h⟩
  · exact ⟨hl, .inr ⟨g, cap, cur, h1, Nat.le_trans hb h2, h3⟩⟩

set_option maxRecDepth 100000 in
set_option maxHeartbeats 2000000 in
theorem appendSeq_in (F : Fence) (n : Nat) (hF : ∀ k, F.fn k) (hro : F.round = none) (h1 : 1 ≤ n) (hn : 3 ≤ n) (B : Nat) (sv : Value) (k0 : Nat) (xs0 : List Value) (g : Nat) (lb : Array Value) (eg : ∀ args w, (callFunc g args).run Tryd.prog w = .ok (.enter g args) w)
    (S Sp : List (List UInt8) → Prop) (N : Nat) (hN : k0 + N ≤ 1000000) (w : World) (hB : B ≤ w.heap.size) (hrow0 : w.ownsRow B 9 1 sv k0 xs0) (hseq : SeqStops F (n - 1) Tryd.prog g lb encStr S Sp N w) :
    CallsIn F n Tryd.prog 22 #[sv, .func (.func g) #[] lb] w fun e W' => ∃ (v : Value) (ss : List (List UInt8)), e = .returned v ∧ S ss ∧ W'.ownsRow B 9 1 v (k0 + ss.length) (xs0 ++ ss.map encStr) ∧ Below B w W' := by
  obtain ⟨i0, hi, hz0, hz1, hz2⟩ := info_parts info9
  obtain ⟨so, sl, sc, rfl⟩ : ∃ so sl sc, sv = .slice so sl sc := by
    rcases hrow0.2 with ⟨rfl, _⟩ | ⟨gb, cap, cur, rfl, _⟩
    · exact ⟨_, _, _, rfl⟩
    · exact ⟨_, _, _, rfl⟩
  refine callsIn_of_wp_marks Tryd.func22 rfl (hF _) ?_ hro
  simp only [Tryd.ntmps22, List.size_toArray, List.length_cons, List.length_nil, Nat.reduceAdd, Nat.reduceSub, Array.replicate_succ, Array.replicate_zero, List.push_toArray, List.append_toArray, List.nil_append, List.cons_append]
  gi_wp2
  obtain ⟨W0, hW0⟩ : ∃ W0, w.alloc (.cells #[.slice so sl sc] 23) = W0 := ⟨_, rfl⟩
  have b0 : Boxed W0 w.heap.size 23 (.slice so sl sc) := by rw [← hW0]; exact Boxed.new w _ _
  have hB0 : Below B w W0 := by rw [← hW0]; exact (Below.refl _ _).alloc hB _
  have hB1 : Below w.heap.size w W0 := by rw [← hW0]; exact (Below.refl _ _).alloc (Nat.le_refl _) _
  have hr0 : W0.ownsRow B 9 1 (.slice so sl sc) k0 xs0 := by rw [← hW0]; exact hrow0.alloc _
  rw [hW0]
  have Hsz : Hid (W0.heap.size = w.heap.size + 1) := by show _ = _; rw [← hW0]; simp
  clear hW0
  refine wpIn_rangeFunc_ownG hro h1 (gf := g) (lb := lb) rfl (hF _) eg (w0 := w) (encs := fun x => #[encStr x]) (Kp := KeepsWalks) (S := S) (Sp := Sp) (N := N) hseq walksK_t (fun W l o o' hl => walksK_b (w := W0) W l o o' hl) hB1 (fun _ => rfl)
    (fun pre W => (∃ v, Boxed W w.heap.size 23 v ∧ W.ownsRow B 9 1 v (k0 + pre.length) (xs0 ++ pre.map encStr) ∧ True) ∧ Below B w W)
    (fun _ _ _ => False)
    (OwnFrom.and (Own.from (holdsRow_own B w.heap.size 23 9 1 (fun pre : List (List UInt8) => k0 + pre.length) (fun pre => xs0 ++ pre.map encStr) (fun pre v => True)) _) (ownFrom_below hB (by have := Hsz.out; omega)))
    (fun _ _ _ _ _ hs _ _ => hs)
    ⟨⟨_, b0, by simpa using hr0, trivial⟩, hB0⟩
    ?a1 ?assign ?body ?done ?stop
  case assign =>
    intro l x W K hK
    gi_wp2
    exact hK
  case body =>
    rintro l pre x W ⟨⟨v, hv, hrow, _⟩, hBW⟩ hlt
    have hc := hv.cell
    gi_wp2_with (gi_at_builtin; refine wpListIn_append_own _ rfl _ _ 23 rfl B 9 i0 (.string ⟨#[]⟩) 1 16 Tryd.underlying23 hi hz0 hz1 hz2 rfl (by decide) _ _ _ rfl (hrow.alloc _) ⟨W.heap.size, 0, none⟩ 1 1 [encStr x] rfl rfl (cell_one_new _ _ _) (by simp [Value.oneCell', encStr]) (by unfold maxLen; omega) (by omega) (by have := hBW.size; simp; omega) ?_; intro v' w1 hown' hgrow _; obtain ⟨g', cap', rfl⟩ := ownsRow_succ hown'; obtain ⟨hv1, hv2, hr2, hk2, hb2⟩ := hv.appended (n₀ := B) (by decide) hrow (Nat.le_trans hB hBW.size) hB hown' hgrow; have hc1 := hv1.cell; have hf1 := hv1.frozen)
    refine ⟨hk2.from _, hk2.walks, ⟨_, hv2, ?_, trivial⟩, hBW.trans hb2⟩
    have e1 : k0 + (pre ++ [x]).length = k0 + pre.length + 1 := by simp; omega
    have e2 : xs0 ++ (pre ++ [x]).map encStr = xs0 ++ pre.map encStr ++ [encStr x] := by simp
    rw [e1, e2]
    exact hr2
  case done =>
    rintro D ys W hD hS ⟨⟨v, hv, hrow, _⟩, hBW⟩ hK
    have hc := hv.cell
    gi_wp2
    refine ⟨by simp, .inl ⟨_, _, rfl, run_takeDeferred hK, ?_⟩⟩
    exact ⟨_, results_tmp rfl _ _ _, v, ys, rfl, hS, ownsRow_putObj hrow _ hK rfl, hBW.trans (belowK_b (w := w) hB W D _ _ (by have := Hsz.out; omega) hK rfl rfl)⟩
  case stop =>
    rintro D c pre W _ _ h _
    exact h.elim
end Go.Proofs.YtijafedpaghhaaaDoor
