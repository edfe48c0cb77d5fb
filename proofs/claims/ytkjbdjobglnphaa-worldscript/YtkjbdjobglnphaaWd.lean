/-
  Package world: Get, by contracts.
-/
import Derived.Test.YtkjbdjobglnphaaWc
namespace Go.Proofs.Ytkjbdjobglnphaa
open Go.RowKit Go.Shelf Go.Maps Go.Conc
set_option linter.unusedVariables false
section
variable {P C cap : Nat} {u : List Int} {fed : Nat} {en : Bool} {o : Option Addr} {n c : Nat}
theorem Blk.setChan {W : World} {B : Nat} {vs : Array Value} {T : TypeId} (h : Blk W B vs T) {c : Nat} (hc : c ≠ B) (cp : Nat) (buf : Array Value) (cl : Bool) (s r : Nat) (tm : Bool) : Blk (W.setChan c cp buf cl s r tm) B vs T := h.at (by
  simp only [World.setChan]
  rw [Array.getElem?_setIfInBounds_ne hc])
theorem WdAt.took {W : World} {x : Int} (h : WdAt W P C cap (x :: u) fed en o n c) {s r : Nat} (hc : W.heap[C]? = some (.chan cap (bvs (x :: u)) false s r false)) : WdAt (W.setChan C cap (bvs u) false s (r + 1) false) P C cap u fed en o n c := by
  have h1 := h.room
  have h2 := h.le
  simp at h1 h2
  exact ⟨h.blk.setChan (h.ch.ne h.blk) _ _ _ _ _ _, ⟨s, r + 1, heap_setChan _ _ _ _ _ _ _ _ h.ch.lt⟩, by omega, by omega, h.most, h.capb⟩
set_option maxRecDepth 100000 in
set_option maxHeartbeats 1000000 in
theorem get_some (x : Int) (w : World) (h : WdAt w P C cap (x :: u) fed en o n c) : Calls Try.prog 10 #[.pointer (some ⟨P, 0, none⟩)] w fun r W' => r = .returned (.tuple #[.int .u8 x, .int .i64 1, .int .i64 0]) ∧ WdAt W' P C cap u fed en o n c ∧ Oth (· = C) w W' := by
  have HM : Hid (Calls Try.prog 22 #[.pointer (some ⟨P, 0, none⟩)] w fun r W' => r = .returned (.bool true) ∧ W' = w) := made_c w h
  obtain ⟨c0, c1, c2, c3, c4, f0, f1, f2, f3, f4⟩ := h.blk.all5
  have HW : Hid (WdAt w P C cap (x :: u) fed en o n c) := h
  obtain ⟨s, r, hch⟩ := h.ch
  have HC : Hid (w.heap[C]? = some (.chan cap (bvs (x :: u)) false s r false)) := hch
  clear h hch
  go_enter Try.func10, Try.ntmps10
  go_wp2_with (go_at_call 22; fail)
  refine HM.out.mono ?_
  rintro r w1 ⟨rfl, rfl⟩
  go_upto_region 4 with fail
  refine wp_region_to ?_
  refine OpsTo.select (c := C) (z := .int .u8 0) rfl (by kernel_rfl) (by kernel_rfl) HC.out (by rw [bvs_size]; simp) ?_
  rw [bvs_head, bvs_tail]
  refine OpsTo.value rfl (by kernel_rfl) (v := .int .i64 0) (by kernel_rfl) ?_
  refine OpsTo.value rfl (by kernel_rfl) (v := .bool true) (by kernel_rfl) ?_
  refine OpsTo.nil ?_
  go_wp2
  refine bodyPost_ret (v := .tuple #[.int .u8 x, .int .i64 1, .int .i64 0]) (by simp [results, Try.results10, go_sem]) rfl ⟨rfl, HW.out.took HC.out, ?_⟩
  exact Oth.setChan (S := (· = C)) (Oth.refl _ w1) (fun _ => rfl) _ _ _ _ _ _
set_option maxRecDepth 100000 in
set_option maxHeartbeats 1000000 in
theorem get_none (w : World) (h : WdAt w P C cap [] fed en o n c) : Calls Try.prog 10 #[.pointer (some ⟨P, 0, none⟩)] w fun r W' => r = .returned (.tuple #[.int .u8 0, .int .i64 (whatN 0 en), .int .i64 0]) ∧ Below w.heap.size w W' := by
  have HM : Hid (Calls Try.prog 22 #[.pointer (some ⟨P, 0, none⟩)] w fun r W' => r = .returned (.bool true) ∧ W' = w) := made_c w h
  have HH : Hid (Calls Try.prog 24 #[.pointer (some ⟨P, 0, none⟩)] w fun r W' => r = .returned (stockV fed 0 en) ∧ Below w.heap.size w W') := has_c w h
  have HW : Hid (∀ W, Calls Try.prog 25 #[stockV fed 0 en] W fun r W' => r = .returned (.int .i64 (whatN 0 en)) ∧ Below W.heap.size W W') := what_c fed 0 en
  obtain ⟨c0, c1, c2, c3, c4, f0, f1, f2, f3, f4⟩ := h.blk.all5
  obtain ⟨s, r, hch⟩ := h.ch
  have HC : Hid (w.heap[C]? = some (.chan cap #[] false s r false)) := hch
  clear h hch
  generalize whatN 0 en = x at *
  go_enter Try.func10, Try.ntmps10
  go_wp2_with (go_at_call 22; fail)
  refine HM.out.mono ?_
  rintro r w1 ⟨rfl, rfl⟩
  go_upto_region 4 with fail
  refine wp_region_to ?_
  refine OpsTo.selectNone (c := C) (z := .int .u8 0) rfl (by kernel_rfl) (by kernel_rfl) HC.out ?_
  refine OpsTo.value rfl (by kernel_rfl) (v := .int .i64 (-1)) (by kernel_rfl) ?_
  refine OpsTo.value rfl (by kernel_rfl) (v := .bool false) (by kernel_rfl) ?_
  refine OpsTo.nil ?_
  go_wp2_with (go_at_call 24; fail)
  refine HH.out.mono ?_
  rintro r w2 ⟨rfl, hb2⟩
  have HB2 : Hid (Below w1.heap.size w1 w2) := hb2
  clear hb2
  go_wp2_with (go_at_call 25; fail)
  refine (HW.out _).mono ?_
  rintro r w3 ⟨rfl, hb3⟩
  have HB3 : Hid (Below w1.heap.size w1 w3) := HB2.out.trans (hb3.mono HB2.out.size)
  clear hb3
  go_wp2
  exact bodyPost_ret (v := .tuple #[.int .u8 0, .int .i64 x, .int .i64 0]) (by simp [results, Try.results10, go_sem]) rfl ⟨rfl, HB3.out⟩
end
end Go.Proofs.Ytkjbdjobglnphaa
