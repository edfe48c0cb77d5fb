/-
  source.Check, its helper, and the document's Check, by one contract.
-/
import Derived.WalkKit
import Derived.Test.YtndpebkiiemfpaaGreatDoorLong
namespace Go.Proofs.YtndpebkiiemfpaaGreatDoor
open Go.RowKit Go.Shelf
set_option linter.unusedVariables false

/-- A byte that may be. -/
def okB (b : UInt8) : Bool := decide ((32 ≤ (b.toNat : Int) ∧ (b.toNat : Int) ≤ 126) ∨ (b.toNat : Int) = 9 ∨ (b.toNat : Int) = 10)
/-- The first byte that may not be. -/
def fb : List UInt8 → Nat → Int × Int
  | [], _ => (0, 0)
  | b :: l, i => if okB b = true then fb l (i + 1) else (4, i)
def chk (s : ByteArray) : Int × Int := if 65536 < s.size then (3, -1) else fb s.data.toList 0

theorem fb_ok (s : ByteArray) (k : Nat) (h : k < s.size) (ho : okB s[k] = true) : fb (s.data.toList.drop k) k = fb (s.data.toList.drop (k + 1)) (k + 1) := by
  rw [List.drop_eq_getElem_cons (by rw [← Lib.size_eq]; exact h), fb, if_pos (show okB (s.data.toList[k]'(by rw [← Lib.size_eq]; exact h)) = true from ho)]
theorem fb_no (s : ByteArray) (k : Nat) (h : k < s.size) (ho : okB s[k] = false) : fb (s.data.toList.drop k) k = (4, (k : Int)) := by
  rw [List.drop_eq_getElem_cons (by rw [← Lib.size_eq]; exact h), fb, if_neg (by rw [show (s.data.toList[k]'(by rw [← Lib.size_eq]; exact h)) = s[k] from rfl, ho]; simp)]
theorem fb_end (s : ByteArray) (k : Nat) (h : s.size ≤ k) : fb (s.data.toList.drop k) k = (0, 0) := by
  rw [List.drop_eq_nil_of_le (by rw [← Lib.size_eq]; exact h), fb]


set_option maxHeartbeats 400000 in
theorem mayBe_c (b : UInt8) (w : World) : Calls Tryz.prog 49 #[.int .u8 (b.toNat : Int)] w fun e w' => e = .returned (.bool (okB b)) ∧ w' = w := by
  go_enter Tryz.func49, Tryz.ntmps49
  go_wp2
  all_goals go_ret
  all_goals refine ⟨ret_bool ?_, rfl⟩
  all_goals (unfold okB; rw [Bool.eq_iff_iff]; simp; try omega)

theorem mayBe_yes (b : UInt8) (h : okB b = true) (w : World) : Calls Tryz.prog 49 #[.int .u8 (b.toNat : Int)] w fun e w' => e = .returned (.bool true) ∧ w' = w := by
  have := mayBe_c b w; rw [h] at this; exact this
theorem mayBe_no (b : UInt8) (h : okB b = false) (w : World) : Calls Tryz.prog 49 #[.int .u8 (b.toNat : Int)] w fun e w' => e = .returned (.bool false) ∧ w' = w := by
  have := mayBe_c b w; rw [h] at this; exact this

set_option maxRecDepth 100000 in
set_option maxHeartbeats 2000000 in
theorem check_c (s : ByteArray) (w : World) :
    Calls Tryz.prog 26 #[.string s] w fun e W' => e = .returned (.agg #[.int .i64 (chk s).1, .int .i64 (chk s).2]) ∧ Below w.heap.size w W' := by
  have hB : ∀ a b : Int, Below w.heap.size w (w.alloc (.cells #[.int .i64 a, .int .i64 b] 35)) := fun a b => (Below.refl _ w).alloc (Nat.le_refl _) _
  by_cases hg : 65536 < s.size
  · have hgi : (65536 : Int) < s.size := by omega
    have hc : Hid (chk s = (3, -1)) := by show _ = _; unfold chk; rw [if_pos hg]
    clear hg
    go_enter Tryz.func26, Tryz.ntmps26
    go_wp2
    exact bodyPost_ret (v := .agg #[.int .i64 3, .int .i64 (-1)]) (by simp [results, Tryz.results26, go_sem]) rfl ⟨by rw [hc.out], hB _ _⟩
  · have hgi : ¬ (65536 : Int) < s.size := by omega
    have hc : Hid (chk s = fb s.data.toList 0) := by show _ = _; unfold chk; rw [if_neg hg]
    have hsz : (s.size : Int) ≤ 65536 := by omega
    clear hg
    go_enter Tryz.func26, Tryz.ntmps26
    go_wp2
    go_loop [10] (fun i => ∃ k : Nat, k ≤ s.size ∧ i = .int .i64 k ∧ Hid (fb s.data.toList 0 = fb (s.data.toList.drop k) k)) (fun i => s.size - (intOf i).toNat)
    case atStart => exact ⟨0, Nat.zero_le _, rfl, (by rw [List.drop_zero] : fb s.data.toList 0 = fb (s.data.toList.drop 0) 0)⟩
    case round =>
      obtain ⟨k, hk, rfl, hf⟩ := hrel
      by_cases hlt : k < s.size
      · have hb0 : 0 ≤ ((s[k].toNat : Nat) : Int) := by omega
        by_cases ho : okB s[k] = true
        · have hok : Hid (okB s[k] = true) := ho
          clear ho
          go_wp2_with (go_at_call 49; refine (mayBe_yes s[k] hok.out _).mono ?_; rintro e w' ⟨rfl, rfl⟩)
          go_round
          case rel => exact ⟨k + 1, by omega, by go_num, (by rw [hf.out]; exact fb_ok s k hlt hok.out : fb s.data.toList 0 = fb (s.data.toList.drop (k + 1)) (k + 1))⟩
          case measure => simp [intOf]; omega
        · have hok : Hid (okB s[k] = false) := by show _ = _; simpa using ho
          clear ho
          have hend : Hid (chk s = (4, (k : Int))) := by
            show _ = _
            rw [hc.out, hf.out]; exact fb_no s k hlt hok.out
          go_wp2_with (go_at_call 49; refine (mayBe_no s[k] hok.out _).mono ?_; rintro e w' ⟨rfl, rfl⟩)
          exact bodyPost_ret (v := .agg #[.int .i64 4, .int .i64 (k : Int)]) (by simp [results, Tryz.results26, go_sem]) rfl ⟨by rw [hend.out], hB _ _⟩
      · have hend : Hid (chk s = (0, 0)) := by
          show _ = _
          rw [hc.out, hf.out]; exact fb_end s k (by omega)
        go_wp2
        exact bodyPost_ret (v := .agg #[.int .i64 0, .int .i64 0]) (by simp [results, Tryz.results26, go_sem]) rfl ⟨by rw [hend.out], hB _ _⟩

end Go.Proofs.YtndpebkiiemfpaaGreatDoor
