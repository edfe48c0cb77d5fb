/-
  The predicates on bytes of package lex, and the counting over them, by contracts.
-/
import Derived.WalkKit
import Derived.Shelf.Abstract
import Derived.Test.YtndpebkiiemfpaaGreatDoorChecked
import Derived.Test.YtndpebkiiemfpaaGreatDoorM3
namespace Go.Proofs.YtndpebkiiemfpaaGreatDoor
open Go.RowKit Go.Shelf
set_option linter.unusedVariables false

/-- A function of one byte that answers p and leaves the world as it is. -/
def ByteFn (g : Nat) (p : UInt8 → Bool) : Prop :=
  (∀ (b : UInt8) (w : World), Calls Tryz.prog g #[.int .u8 (b.toNat : Int)] w fun e w' => e = .returned (.bool (p b)) ∧ w' = w) ∧ Enters Tryz.prog g

theorem ret_bool {a b : Bool} (h : a = b) : Ending.returned (.bool a) = .returned (.bool b) := by rw [h]

theorem isBlank_c (b : UInt8) (w : World) : Calls Tryz.prog 104 #[.int .u8 (b.toNat : Int)] w fun e w' => e = .returned (.bool (M.blankB b)) ∧ w' = w := by
  go_enter Tryz.func104, Tryz.ntmps104
  go_wp2
  all_goals go_ret
  all_goals refine ⟨ret_bool ?_, rfl⟩
  all_goals (unfold M.blankB; rw [Bool.eq_iff_iff]; simp; try omega)
theorem isBlank_f : ByteFn 104 M.blankB := ⟨isBlank_c, enters_of Tryz.func104 (by kernel_rfl) rfl⟩
theorem isSmall_c (b : UInt8) (w : World) : Calls Tryz.prog 152 #[.int .u8 (b.toNat : Int)] w fun e w' => e = .returned (.bool (M.smallB b)) ∧ w' = w := by
  go_enter Tryz.func152, Tryz.ntmps152
  go_wp2
  all_goals go_ret
  all_goals refine ⟨ret_bool ?_, rfl⟩
  all_goals (unfold M.smallB; rw [Bool.eq_iff_iff]; simp; try omega)
theorem isSmall_f : ByteFn 152 M.smallB := ⟨isSmall_c, enters_of Tryz.func152 (by kernel_rfl) rfl⟩
theorem isCapital_c (b : UInt8) (w : World) : Calls Tryz.prog 112 #[.int .u8 (b.toNat : Int)] w fun e w' => e = .returned (.bool (M.capB b)) ∧ w' = w := by
  go_enter Tryz.func112, Tryz.ntmps112
  go_wp2
  all_goals go_ret
  all_goals refine ⟨ret_bool ?_, rfl⟩
  all_goals (unfold M.capB; rw [Bool.eq_iff_iff]; simp; try omega)
theorem isCapital_f : ByteFn 112 M.capB := ⟨isCapital_c, enters_of Tryz.func112 (by kernel_rfl) rfl⟩
theorem isDigit_c (b : UInt8) (w : World) : Calls Tryz.prog 153 #[.int .u8 (b.toNat : Int)] w fun e w' => e = .returned (.bool (M.digB b)) ∧ w' = w := by
  go_enter Tryz.func153, Tryz.ntmps153
  go_wp2
  all_goals go_ret
  all_goals refine ⟨ret_bool ?_, rfl⟩
  all_goals (unfold M.digB; rw [Bool.eq_iff_iff]; simp; try omega)
theorem isDigit_f : ByteFn 153 M.digB := ⟨isDigit_c, enters_of Tryz.func153 (by kernel_rfl) rfl⟩
theorem isColon_c (b : UInt8) (w : World) : Calls Tryz.prog 114 #[.int .u8 (b.toNat : Int)] w fun e w' => e = .returned (.bool (M.colonB b)) ∧ w' = w := by
  go_enter Tryz.func114, Tryz.ntmps114
  go_wp2
  all_goals go_ret
  all_goals refine ⟨ret_bool ?_, rfl⟩
  all_goals (unfold M.colonB; rw [Bool.eq_iff_iff]; simp; try omega)
theorem isColon_f : ByteFn 114 M.colonB := ⟨isColon_c, enters_of Tryz.func114 (by kernel_rfl) rfl⟩
theorem isPlain_c (b : UInt8) (w : World) : Calls Tryz.prog 118 #[.int .u8 (b.toNat : Int)] w fun e w' => e = .returned (.bool (M.plainB b)) ∧ w' = w := by
  go_enter Tryz.func118, Tryz.ntmps118
  go_wp2
  all_goals go_ret
  all_goals refine ⟨ret_bool ?_, rfl⟩
  all_goals (unfold M.plainB; rw [Bool.eq_iff_iff]; simp; try omega)
theorem isPlain_f : ByteFn 118 M.plainB := ⟨isPlain_c, enters_of Tryz.func118 (by kernel_rfl) rfl⟩
set_option maxHeartbeats 1000000 in
theorem isHex_c (b : UInt8) (w : World) : Calls Tryz.prog 116 #[.int .u8 (b.toNat : Int)] w fun e w' => e = .returned (.bool (M.hexB b)) ∧ w' = w := by
  go_enter Tryz.func116, Tryz.ntmps116
  go_wp2_with (first | (go_at_call 153; refine (isDigit_c b _).mono ?_; rintro e w0 ⟨rfl, rfl⟩))
  all_goals go_ret
  all_goals refine ⟨ret_bool ?_, rfl⟩
  all_goals (simp only [M.hexB, M.digB] at *; rw [Bool.eq_iff_iff]; simp at *; try omega)
theorem isHex_f : ByteFn 116 M.hexB := ⟨isHex_c, enters_of Tryz.func116 (by kernel_rfl) rfl⟩
set_option maxHeartbeats 1000000 in
theorem beginsName_c (b : UInt8) (w : World) : Calls Tryz.prog 110 #[.int .u8 (b.toNat : Int)] w fun e w' => e = .returned (.bool (M.begName b)) ∧ w' = w := by
  go_enter Tryz.func110, Tryz.ntmps110
  go_wp2_with (first | (go_at_call 152; refine (isSmall_c b _).mono ?_; rintro e w0 ⟨rfl, rfl⟩))
  all_goals go_ret
  all_goals refine ⟨ret_bool ?_, rfl⟩
  all_goals (simp only [M.begName, M.smallB] at *; rw [Bool.eq_iff_iff]; simp at *; try omega)
theorem beginsName_f : ByteFn 110 M.begName := ⟨beginsName_c, enters_of Tryz.func110 (by kernel_rfl) rfl⟩
set_option maxHeartbeats 1000000 in
theorem withinName_c (b : UInt8) (w : World) : Calls Tryz.prog 111 #[.int .u8 (b.toNat : Int)] w fun e w' => e = .returned (.bool (M.inName b)) ∧ w' = w := by
  go_enter Tryz.func111, Tryz.ntmps111
  go_wp2_with (first | (go_at_call 110; refine (beginsName_c b _).mono ?_; rintro e w0 ⟨rfl, rfl⟩) | (go_at_call 112; refine (isCapital_c b _).mono ?_; rintro e w1 ⟨rfl, rfl⟩) | (go_at_call 153; refine (isDigit_c b _).mono ?_; rintro e w2 ⟨rfl, rfl⟩))
  all_goals go_ret
  all_goals refine ⟨ret_bool ?_, rfl⟩
  all_goals (simp only [M.inName, M.begName, M.capB, M.digB] at *; rw [Bool.eq_iff_iff]; simp at *; try omega)
theorem withinName_f : ByteFn 111 M.inName := ⟨withinName_c, enters_of Tryz.func111 (by kernel_rfl) rfl⟩

set_option maxRecDepth 100000 in
set_option maxHeartbeats 1000000 in
theorem count_c (g : Nat) (p : UInt8 → Bool) (hp' : ByteFn g p) (s : ByteArray) (hs : s.size ≤ 9223372036854775806) (w : World) :
    Calls Tryz.prog 103 #[.string s, .func (.func g) #[] #[]] w fun e w' => e = .returned (.int .i64 (M.cnt p s.data.toList)) ∧ w' = w := by
  have hp : Hid (∀ (b : UInt8) (w : World), Calls Tryz.prog g #[.int .u8 (b.toNat : Int)] w fun e w' => e = .returned (.bool (p b)) ∧ w' = w) := hp'.1
  have eg : ∀ (args : Array Value) (w : World), (callFunc g args).run Tryz.prog w = .ok (.enter g args) w := hp'.2
  clear hp'
  go_enter Tryz.func103, Tryz.ntmps103
  go_wp2
  go_loop [5] (fun i => ∃ k : Nat, k ≤ s.size ∧ i = .int .i64 k ∧ Hid (M.cnt p s.data.toList = k + M.cnt p (s.data.toList.drop k))) (fun i => s.size - (intOf i).toNat)
  case atStart => exact ⟨0, Nat.zero_le _, rfl, (by simp : M.cnt p s.data.toList = 0 + M.cnt p (s.data.toList.drop 0))⟩
  case round =>
    obtain ⟨k, hk, rfl, hf⟩ := hrel
    by_cases hlt : k < s.size
    · have hd : Hid (s.data.toList.drop k = s[k] :: s.data.toList.drop (k + 1)) := by
        show _ = _
        rw [List.drop_eq_getElem_cons (by rw [← Lib.size_eq]; exact hlt)]; rfl
      cases hpb : p s[k] with
      | true =>
        have hP : Hid (p s[k] = true) := hpb
        clear hpb
        go_wp2_with (go_at_fn g; refine (hp.out s[k] _).mono ?_; rintro e w' ⟨rfl, rfl⟩; rw [hP.out])
        go_round
        case rel => exact ⟨k + 1, by omega, by go_num, (by rw [hf.out, hd.out]; simp [M.cnt, hP.out]; omega : M.cnt p s.data.toList = (k + 1) + M.cnt p (s.data.toList.drop (k + 1)))⟩
        case measure => simp [intOf]; omega
      | false =>
        have hP : Hid (p s[k] = false) := hpb
        clear hpb
        go_wp2_with (go_at_fn g; refine (hp.out s[k] _).mono ?_; rintro e w' ⟨rfl, rfl⟩; rw [hP.out])
        go_ret
        refine ⟨?_, rfl⟩
        rw [hf.out, hd.out]; simp [M.cnt, hP.out]
    · obtain rfl : k = s.size := by omega
      go_wp2
      go_ret
      refine ⟨?_, rfl⟩
      rw [hf.out, List.drop_eq_nil_of_le (by rw [Lib.size_eq]; exact Nat.le_refl _)]; simp [M.cnt]

end Go.Proofs.YtndpebkiiemfpaaGreatDoor
