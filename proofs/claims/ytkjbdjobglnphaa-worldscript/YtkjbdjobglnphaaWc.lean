/-
  Package world: what, Eof, Used, Left, Ended, End, by contracts.
-/
import Derived.Test.YtkjbdjobglnphaaWb
namespace Go.Proofs.Ytkjbdjobglnphaa
open Go.RowKit Go.Shelf Go.Maps Go.Conc
set_option linter.unusedVariables false

def whatN (left : Nat) (en : Bool) : Int := if left = 0 then (if en then 2 else 3) else 1
theorem below1 (w : World) (a : Obj) : Below w.heap.size w (w.alloc a) := (Below.refl _ w).alloc (Nat.le_refl _) _
set_option maxRecDepth 100000 in
set_option maxHeartbeats 1000000 in
theorem what_c (fed left : Nat) (en : Bool) (w : World) : Calls Try.prog 25 #[stockV fed left en] w fun r W' => r = .returned (.int .i64 (whatN left en)) ∧ Below w.heap.size w W' := by
  unfold stockV
  rcases Nat.eq_zero_or_pos left with h | h
  · subst h
    cases en
    · go_enter Try.func25, Try.ntmps25
      go_wp2
      go_ret
      exact ⟨rfl, below1 _ _⟩
    · go_enter Try.func25, Try.ntmps25
      go_wp2
      go_ret
      exact ⟨rfl, below1 _ _⟩
  · have hz : Hid (whatN left en = 1) := by unfold whatN; rw [if_neg (by omega)]; exact rfl
    have hd : decide (0 < left) = true := by simpa using h
    go_enter Try.func25, Try.ntmps25
    go_wp2
    go_ret
    exact ⟨by rw [hz.out]; rfl, below1 _ _⟩
theorem field1 (a b : Int) (e : Bool) (w : World) : (Instr.field 54 (.agg #[.int .i64 a, .int .i64 b, .bool e]) 1).run Try.prog w = .ok (.int .i64 b) w := by kernel_rfl
theorem field2 (a b : Int) (e : Bool) (w : World) : (Instr.field 54 (.agg #[.int .i64 a, .int .i64 b, .bool e]) 2).run Try.prog w = .ok (.bool e) w := by kernel_rfl
section
variable {P C cap : Nat} {u : List Int} {fed : Nat} {en : Bool} {o : Option Addr} {n c : Nat}
set_option maxRecDepth 100000 in
set_option maxHeartbeats 1000000 in
theorem eof_c (w : World) (h : WdAt w P C cap u fed en o n c) : Calls Try.prog 19 #[.pointer (some ⟨P, 0, none⟩)] w fun r W' => r = .returned (.tuple #[.int .i64 (whatN u.length en), .int .i64 0]) ∧ Below w.heap.size w W' := by
  have HM : Hid (Calls Try.prog 22 #[.pointer (some ⟨P, 0, none⟩)] w fun r W' => r = .returned (.bool true) ∧ W' = w) := made_c w h
  have HH : Hid (Calls Try.prog 24 #[.pointer (some ⟨P, 0, none⟩)] w fun r W' => r = .returned (stockV fed u.length en) ∧ Below w.heap.size w W') := has_c w h
  have HW : Hid (∀ W, Calls Try.prog 25 #[stockV fed u.length en] W fun r W' => r = .returned (.int .i64 (whatN u.length en)) ∧ Below W.heap.size W W') := what_c fed u.length en
  generalize whatN u.length en = x at *
  generalize u.length = m at *
  clear h
  go_enter Try.func19, Try.ntmps19
  go_wp2_with (go_at_call 22; fail)
  refine HM.out.mono ?_
  rintro r w1 ⟨rfl, rfl⟩
  go_wp2_with (go_at_call 24; fail)
  refine HH.out.mono ?_
  rintro r w2 ⟨rfl, hb2⟩
  have HB2 : Hid (Below w1.heap.size w1 w2) := hb2
  clear hb2
  go_wp2_with (go_at_call 25; fail)
  refine (HW.out _).mono ?_
  rintro r w3 ⟨rfl, hb3⟩
  have HB3 : Hid (Below w1.heap.size w1 w3) := HB2.out.trans (hb3.mono HB2.out.size)
  clear hb3
  go_wp2
  exact bodyPost_ret (v := .tuple #[.int .i64 x, .int .i64 0]) (by simp [results, Try.results19, go_sem]) rfl ⟨rfl, HB3.out⟩
set_option maxRecDepth 100000 in
set_option maxHeartbeats 1000000 in
theorem used_c (w : World) (h : WdAt w P C cap u fed en o n c) : Calls Try.prog 12 #[.pointer (some ⟨P, 0, none⟩)] w fun r W' => r = .returned (.int .i64 ((fed - u.length : Nat) : Int)) ∧ Below w.heap.size w W' := by
  have HH : Hid (Calls Try.prog 24 #[.pointer (some ⟨P, 0, none⟩)] w fun r W' => r = .returned (stockV fed u.length en) ∧ Below w.heap.size w W') := has_c w h
  have HE : Hid (((fed - u.length : Nat) : Int) = (fed : Int) - u.length) := by have := h.le; show _ = _; omega
  have h1 : (fed : Int) ≤ 1048576 := by have := h.most; omega
  have h2 : (u.length : Int) ≤ 1048576 := by have := h.le; omega
  have hwr : IntKind.i64.wrap ((fed : Int) - u.length) = (fed : Int) - u.length := by
    have := h.le
    simp [IntKind.wrap, IntKind.signed, IntKind.bits]
    omega
  rw [HE.out]
  generalize u.length = m at *
  clear h
  go_enter Try.func12, Try.ntmps12
  go_wp2_with (go_at_call 24; fail)
  refine HH.out.mono ?_
  rintro r w2 ⟨rfl, hb2⟩
  have HB2 : Hid (Below w.heap.size w w2) := hb2
  clear hb2
  unfold stockV
  go_wp2
  go_ret
  exact ⟨rfl, HB2.out.alloc HB2.out.size _⟩
set_option maxRecDepth 100000 in
set_option maxHeartbeats 1000000 in
theorem left_c (w : World) (h : WdAt w P C cap u fed en o n c) : Calls Try.prog 13 #[.pointer (some ⟨P, 0, none⟩)] w fun r W' => r = .returned (.int .i64 (u.length : Int)) ∧ Below w.heap.size w W' := by
  have HH : Hid (Calls Try.prog 24 #[.pointer (some ⟨P, 0, none⟩)] w fun r W' => r = .returned (stockV fed u.length en) ∧ Below w.heap.size w W') := has_c w h
  generalize u.length = m at *
  clear h
  have hf := field1
  go_enter Try.func13, Try.ntmps13
  go_wp2_with (go_at_call 24; fail)
  refine HH.out.mono ?_
  rintro r w2 ⟨rfl, hb2⟩
  have HB2 : Hid (Below w.heap.size w w2) := hb2
  clear hb2
  unfold stockV
  go_wp2
  go_ret
  exact ⟨rfl, HB2.out⟩
set_option maxRecDepth 100000 in
set_option maxHeartbeats 1000000 in
theorem ended_c (w : World) (h : WdAt w P C cap u fed en o n c) : Calls Try.prog 14 #[.pointer (some ⟨P, 0, none⟩)] w fun r W' => r = .returned (.bool en) ∧ Below w.heap.size w W' := by
  have HH : Hid (Calls Try.prog 24 #[.pointer (some ⟨P, 0, none⟩)] w fun r W' => r = .returned (stockV fed u.length en) ∧ Below w.heap.size w W') := has_c w h
  generalize u.length = m at *
  clear h
  have hf := field2
  go_enter Try.func14, Try.ntmps14
  go_wp2_with (go_at_call 24; fail)
  refine HH.out.mono ?_
  rintro r w2 ⟨rfl, hb2⟩
  have HB2 : Hid (Below w.heap.size w w2) := hb2
  clear hb2
  unfold stockV
  go_wp2
  go_ret
  exact ⟨rfl, HB2.out⟩
set_option maxRecDepth 100000 in
set_option maxHeartbeats 1000000 in
theorem end_over (w : World) (h : WdAt w P C cap u fed true o n c) : Calls Try.prog 11 #[.pointer (some ⟨P, 0, none⟩)] w fun r W' => r = .returned (.int .i64 11) ∧ W' = w := by
  have HM : Hid (Calls Try.prog 22 #[.pointer (some ⟨P, 0, none⟩)] w fun r W' => r = .returned (.bool true) ∧ W' = w) := made_c w h
  obtain ⟨c0, c1, c2, c3, c4, f0, f1, f2, f3, f4⟩ := h.blk.all5
  clear h
  go_enter Try.func11, Try.ntmps11
  go_wp2_with (go_at_call 22; fail)
  refine HM.out.mono ?_
  rintro r w1 ⟨rfl, rfl⟩
  go_wp2
  go_ret
  exact ⟨rfl, rfl⟩
set_option maxRecDepth 100000 in
set_option maxHeartbeats 1000000 in
theorem end_ok (w : World) (h : WdAt w P C cap u fed false o n c) : Calls Try.prog 11 #[.pointer (some ⟨P, 0, none⟩)] w fun r W' => r = .returned (.int .i64 0) ∧ WdAt W' P C cap u fed true o n c ∧ Oth (· = P) w W' := by
  have HM : Hid (Calls Try.prog 22 #[.pointer (some ⟨P, 0, none⟩)] w fun r W' => r = .returned (.bool true) ∧ W' = w) := made_c w h
  obtain ⟨c0, c1, c2, c3, c4, f0, f1, f2, f3, f4⟩ := h.blk.all5
  have HW : Hid (WdAt w P C cap u fed false o n c) := h
  clear h
  go_enter Try.func11, Try.ntmps11
  go_wp2_with (go_at_call 22; fail)
  refine HM.out.mono ?_
  rintro r w1 ⟨rfl, rfl⟩
  go_wp2
  go_ret
  refine ⟨rfl, ⟨HW.out.blk.set 3 _, HW.out.ch.at (Below.heap_setCell _ _ _ _ (HW.out.ch.ne HW.out.blk)), HW.out.room, HW.out.le, HW.out.most, HW.out.capb⟩, Oth.setCell (S := (· = P)) (p := ⟨P, 3, none⟩) (Oth.refl _ w1) (fun _ => rfl) _⟩
end
end Go.Proofs.Ytkjbdjobglnphaa
