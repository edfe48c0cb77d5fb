/-
  The law WorldNil, walked.
-/
import Derived.Test.YtkjbdjobglnphaaWg
namespace Go.Proofs.Ytkjbdjobglnphaa
open Go.RowKit Go.Shelf Go.Maps Go.Conc
set_option linter.unusedVariables false
set_option maxRecDepth 100000 in
set_option maxHeartbeats 4000000 in
theorem madeNil_c (w : World) : Calls Try.prog 22 #[.pointer none] w fun r W' => r = .returned (.bool false) ∧ W' = w := by
  go_enter Try.func22, Try.ntmps22
  go_wp2
  go_ret
  exact ⟨rfl, rfl⟩
theorem ptrNil (P : Nat) (w : World) : (binOp .eql 23 (.pointer none) (.pointer (some ⟨P, 0, none⟩))).run Try.prog w = .ok (.bool false) w := by kernel_rfl
set_option maxRecDepth 100000 in
set_option maxHeartbeats 4000000 in
theorem madeZero_c (P : Nat) (v1 v2 v3 v4 : Value) (w : World) (h : Blk w P #[.pointer none, v1, v2, v3, v4] 43) : Calls Try.prog 22 #[.pointer (some ⟨P, 0, none⟩)] w fun r W' => r = .returned (.bool false) ∧ W' = w := by
  obtain ⟨c0, c1, c2, c3, c4, f0, f1, f2, f3, f4⟩ := h.all5
  have he := ptrNil P
  clear h
  go_enter Try.func22, Try.ntmps22
  go_wp2
  go_ret
  exact ⟨rfl, rfl⟩
/-- A world that nobody made. -/
def Unmade (p : Option Addr) (w : World) : Prop := ∀ W : World, Below w.heap.size w W → Calls Try.prog 22 #[.pointer p] W fun r W' => r = .returned (.bool false) ∧ W' = W
theorem Unmade.on {p : Option Addr} {w W : World} (h : Unmade p w) (hb : Below w.heap.size w W) : Unmade p W := fun V hV => h V (hb.trans (hV.mono hb.size))
section
variable {p : Option Addr} {w : World}
set_option maxRecDepth 100000 in
set_option maxHeartbeats 4000000 in
theorem getNil_c (w : World) (h : Unmade p w) : Calls Try.prog 10 #[.pointer p] w fun r W' => r = .returned (.tuple #[.int .u8 0, .int .i64 0, .int .i64 1]) ∧ W' = w := by
  have HM : Hid (Unmade p w) := h
  clear h
  go_enter Try.func10, Try.ntmps10
  go_wp2_with (go_at_call 22; fail)
  refine (HM.out _ (Below.refl _ _)).mono ?_
  rintro r w1 ⟨rfl, rfl⟩
  go_wp2
  exact bodyPost_ret (v := .tuple #[.int .u8 0, .int .i64 0, .int .i64 1]) (by simp [results, Try.results10, go_sem]) rfl ⟨rfl, rfl⟩
set_option maxRecDepth 100000 in
set_option maxHeartbeats 4000000 in
theorem eofNil_c (w : World) (h : Unmade p w) : Calls Try.prog 19 #[.pointer p] w fun r W' => r = .returned (.tuple #[.int .i64 0, .int .i64 1]) ∧ W' = w := by
  have HM : Hid (Unmade p w) := h
  clear h
  go_enter Try.func19, Try.ntmps19
  go_wp2_with (go_at_call 22; fail)
  refine (HM.out _ (Below.refl _ _)).mono ?_
  rintro r w1 ⟨rfl, rfl⟩
  go_wp2
  exact bodyPost_ret (v := .tuple #[.int .i64 0, .int .i64 1]) (by simp [results, Try.results19, go_sem]) rfl ⟨rfl, rfl⟩
set_option maxRecDepth 100000 in
set_option maxHeartbeats 4000000 in
theorem feedNil_c (ob : Option Addr) (m cb : Nat) (w : World) (h : Unmade p w) : Calls Try.prog 9 #[.pointer p, .slice ob m cb] w fun r W' => r = .returned (.int .i64 1) ∧ W' = w := by
  have HM : Hid (Unmade p w) := h
  clear h
  go_enter Try.func9, Try.ntmps9
  go_wp2_with (go_at_call 22; fail)
  refine (HM.out _ (Below.refl _ _)).mono ?_
  rintro r w1 ⟨rfl, rfl⟩
  go_wp2
  go_ret
  exact ⟨rfl, rfl⟩
set_option maxRecDepth 100000 in
set_option maxHeartbeats 4000000 in
theorem endNil_c (w : World) (h : Unmade p w) : Calls Try.prog 11 #[.pointer p] w fun r W' => r = .returned (.int .i64 1) ∧ W' = w := by
  have HM : Hid (Unmade p w) := h
  clear h
  go_enter Try.func11, Try.ntmps11
  go_wp2_with (go_at_call 22; fail)
  refine (HM.out _ (Below.refl _ _)).mono ?_
  rintro r w1 ⟨rfl, rfl⟩
  go_wp2
  go_ret
  exact ⟨rfl, rfl⟩
set_option maxRecDepth 100000 in
set_option maxHeartbeats 4000000 in
theorem putNil_c (x : Int) (w : World) (h : Unmade p w) : Calls Try.prog 20 #[.pointer p, .int .u8 x] w fun r W' => r = .returned (.int .i64 1) ∧ W' = w := by
  have HM : Hid (Unmade p w) := h
  clear h
  go_enter Try.func20, Try.ntmps20
  go_wp2_with (go_at_call 22; fail)
  refine (HM.out _ (Below.refl _ _)).mono ?_
  rintro r w1 ⟨rfl, rfl⟩
  go_wp2
  go_ret
  exact ⟨rfl, rfl⟩
set_option maxRecDepth 100000 in
set_option maxHeartbeats 4000000 in
theorem outNil_c (w : World) (h : Unmade p w) : Calls Try.prog 21 #[.pointer p] w fun r W' => r = .returned (.slice none 0 0) ∧ W' = w := by
  have HM : Hid (Unmade p w) := h
  clear h
  go_enter Try.func21, Try.ntmps21
  go_wp2_with (go_at_call 22; fail)
  refine (HM.out _ (Below.refl _ _)).mono ?_
  rintro r w1 ⟨rfl, rfl⟩
  go_wp2
  go_ret
  exact ⟨rfl, rfl⟩
set_option maxRecDepth 100000 in
set_option maxHeartbeats 4000000 in
theorem hasNil_c (w : World) (h : Unmade p w) : Calls Try.prog 24 #[.pointer p] w fun r W' => r = .returned (stockV 0 0 false) ∧ Below w.heap.size w W' := by
  have HM : Hid (Unmade p w) := h
  clear h
  go_enter Try.func24, Try.ntmps24
  go_wp2_with (go_at_call 22; fail)
  refine (HM.out _ (below1 _ _)).mono ?_
  rintro r w1 ⟨rfl, rfl⟩
  go_wp2
  refine bodyPost_ret (results_cell_row rfl _ _ w.heap.size 54 #[.int .i64 0, .int .i64 0, .bool false] _ _ rfl (Blk.new w _ _) Try.underlying54 rfl rfl) rfl ⟨rfl, below1 _ _⟩
set_option maxRecDepth 100000 in
set_option maxHeartbeats 1000000 in
theorem usedNil_c (w : World) (h : Unmade p w) : Calls Try.prog 12 #[.pointer p] w fun r W' => r = .returned (.int .i64 0) ∧ Below w.heap.size w W' := by
  have HH : Hid (Calls Try.prog 24 #[.pointer p] w fun r W' => r = .returned (stockV 0 0 false) ∧ Below w.heap.size w W') := hasNil_c w h
  clear h
  go_enter Try.func12, Try.ntmps12
  go_wp2_with (go_at_call 24; fail)
  refine HH.out.mono ?_
  rintro r w2 ⟨rfl, hb2⟩
  have HB2 : Hid (Below w.heap.size w w2) := hb2
  clear hb2
  unfold stockV
  simp only [Int.cast_ofNat_Int]
  go_wp2
  go_ret
  exact ⟨rfl, HB2.out.alloc HB2.out.size _⟩
set_option maxRecDepth 100000 in
set_option maxHeartbeats 1000000 in
theorem leftNil_c (w : World) (h : Unmade p w) : Calls Try.prog 13 #[.pointer p] w fun r W' => r = .returned (.int .i64 0) ∧ Below w.heap.size w W' := by
  have HH : Hid (Calls Try.prog 24 #[.pointer p] w fun r W' => r = .returned (stockV 0 0 false) ∧ Below w.heap.size w W') := hasNil_c w h
  have hf := field1
  clear h
  go_enter Try.func13, Try.ntmps13
  go_wp2_with (go_at_call 24; fail)
  refine HH.out.mono ?_
  rintro r w2 ⟨rfl, hb2⟩
  have HB2 : Hid (Below w.heap.size w w2) := hb2
  clear hb2
  unfold stockV
  go_wp2
  go_ret
  exact ⟨rfl, HB2.out⟩
set_option maxRecDepth 100000 in
set_option maxHeartbeats 1000000 in
theorem endedNil_c (w : World) (h : Unmade p w) : Calls Try.prog 14 #[.pointer p] w fun r W' => r = .returned (.bool false) ∧ Below w.heap.size w W' := by
  have HH : Hid (Calls Try.prog 24 #[.pointer p] w fun r W' => r = .returned (stockV 0 0 false) ∧ Below w.heap.size w W') := hasNil_c w h
  have hf := field2
  clear h
  go_enter Try.func14, Try.ntmps14
  go_wp2_with (go_at_call 24; fail)
  refine HH.out.mono ?_
  rintro r w2 ⟨rfl, hb2⟩
  have HB2 : Hid (Below w.heap.size w w2) := hb2
  clear hb2
  unfold stockV
  go_wp2
  go_ret
  exact ⟨rfl, HB2.out⟩
end
end Go.Proofs.Ytkjbdjobglnphaa
