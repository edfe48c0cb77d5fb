/-
  What stands between lexemes, symbols and marks, by contracts.
-/
import Derived.Test.YtndpebkiiemfpaaGreatDoorTake
import Derived.Test.YtndpebkiiemfpaaGreatDoorShelf
import Derived.Test.YtndpebkiiemfpaaGreatDoorGlob
namespace Go.Proofs.YtndpebkiiemfpaaGreatDoor
open Go.RowKit Go.Shelf
set_option linter.unusedVariables false

theorem idx_cons (a b : UInt8) (l : List UInt8) : Lib.indexByte (a :: l) b = if a == b then 0 else if Lib.indexByte l b == -1 then -1 else Lib.indexByte l b + 1 := rfl
theorem idx_mem (b : UInt8) : ∀ l : List UInt8, decide (0 ≤ Lib.indexByte l b) = l.contains b
  | [] => by rfl
  | a :: l => by
    have ih := idx_mem b l
    have hge := Lib.indexByte_ge l b
    rw [idx_cons, List.contains_cons]
    by_cases h : a = b
    · subst h; simp
    · have h1 : (a == b) = false := by simpa using h
      have h2 : (b == a) = false := by simpa using Ne.symm h
      rw [h1, h2, Bool.false_or, ← ih, if_neg (by simp)]
      by_cases h3 : Lib.indexByte l b = -1
      · rw [h3]; rfl
      · rw [if_neg (by simpa using h3)]
        rw [decide_eq_decide]; omega
theorem idx_ten : ∀ l : List UInt8, (Lib.indexByte l 10 = -1 ∧ M.cnt M.notNL l = l.length) ∨ Lib.indexByte l 10 = M.cnt M.notNL l
  | [] => .inl ⟨rfl, rfl⟩
  | a :: l => by
    have hge := Lib.indexByte_ge l 10
    by_cases h : a = 10
    · subst h
      right
      rw [idx_cons]
      simp [M.cnt, M.notNL]
    · have h1 : (a == 10) = false := by simpa using h
      have h2 : M.notNL a = true := by
        unfold M.notNL
        rw [decide_eq_true_eq]
        intro h3; exact h (UInt8.toNat_inj.1 h3)
      have hc : M.cnt M.notNL (a :: l) = M.cnt M.notNL l + 1 := by simp [M.cnt, h2]
      have he : Lib.indexByte (a :: l) 10 = if Lib.indexByte l 10 == -1 then -1 else Lib.indexByte l 10 + 1 := by rw [idx_cons, h1]; rfl
      rw [hc, he]
      rcases idx_ten l with ⟨h3, h4⟩ | h3
      · left; rw [h3, h4]; exact ⟨rfl, rfl⟩
      · right
        rw [h3, if_neg]
        · simp
        · rw [beq_iff_eq]; omega
theorem dashB_iff (b : UInt8) : M.dashB b = (b == 45) := by
  unfold M.dashB
  rw [Bool.eq_iff_iff, decide_eq_true_eq, beq_iff_eq]
  exact ⟨fun h => UInt8.toNat_inj.1 h, fun h => by rw [h]; rfl⟩
theorem dropWhile_nil (p : UInt8 → Bool) : ∀ l : List UInt8, (l.dropWhile p = []) ↔ l.all p = true
  | [] => by simp
  | a :: l => by
    have ih := dropWhile_nil p l
    by_cases h : p a = true
    · simp [h] at ih ⊢; exact ih
    · simp [h]
theorem trim_nil (l : List UInt8) : (Lib.trimB l 45 = []) ↔ l.all M.dashB = true := by
  have hf : M.dashB = (· == (45 : UInt8)) := funext dashB_iff
  rw [hf]
  unfold Lib.trimB Lib.trimLeftB Lib.trimRightB
  constructor
  · intro h
    rw [dropWhile_nil, List.all_reverse] at h
    by_cases h2 : (l.reverse.dropWhile (· == (45 : UInt8))) = []
    · rw [dropWhile_nil, List.all_reverse] at h2; exact h2
    · have := List.head_dropWhile_not (· == (45 : UInt8)) h2
      have h3 := List.all_eq_true.1 h _ (List.head_mem h2)
      rw [h3] at this; simp at this
  · intro h
    have h2 : (l.reverse.dropWhile (· == (45 : UInt8))) = [] := by rw [dropWhile_nil, List.all_reverse]; exact h
    rw [h2]; rfl

theorem toU8 (b : UInt8) : ((b.toNat : Int)).toNat.toUInt8 = b := by simp

set_option maxRecDepth 100000 in
set_option maxHeartbeats 1000000 in
theorem symbol_c (b : UInt8) (w : World) : Calls Tryz.prog 105 #[.int .u8 (b.toNat : Int)] w fun e w' => e = .returned (.bool (M.sym b)) ∧ w' = w := by
  have hi := idx_mem b M.symL
  obtain ⟨v, hv'⟩ : ∃ v, Lib.indexByte M.symL b = v := ⟨_, rfl⟩
  rw [hv'] at hi
  have hv : Hid (Lib.indexByte M.symL b = v) := hv'
  have hs : Hid (M.sym b = decide (0 ≤ v)) := hi.symm
  clear hv' hi
  go_enter Tryz.func105, Tryz.ntmps105
  go_wp2_with (go_at_call 107; refine (Tryz.strings_IndexByte _ _ _).mono ?_; rintro e w' ⟨rfl, rfl⟩; rw [toU8, show (ByteArray.mk #[33, 35, 36, 37, 38, 42, 43, 46, 47, 60, 61, 62, 63, 64, 92, 94, 124, 45, 126, 58]).data.toList = M.symL from rfl, hv.out])
  go_ret
  exact ⟨by rw [hs.out]; rfl, rfl⟩
theorem symbol_f : ByteFn 105 M.sym := ⟨symbol_c, enters_of Tryz.func105 (by kernel_rfl) rfl⟩

set_option maxHeartbeats 1000000 in
theorem beginsOp_c (b : UInt8) (w : World) : Calls Tryz.prog 113 #[.int .u8 (b.toNat : Int)] w fun e w' => e = .returned (.bool (M.begOp b)) ∧ w' = w := by
  go_enter Tryz.func113, Tryz.ntmps113
  go_wp2_with (first | (go_at_call 105; refine (symbol_c b _).mono ?_; rintro e w1 ⟨rfl, rfl⟩) | (go_at_call 114; refine (isColon_c b _).mono ?_; rintro e w2 ⟨rfl, rfl⟩))
  all_goals go_ret
  all_goals refine ⟨ret_bool ?_, rfl⟩
  all_goals simp_all [M.begOp]
theorem beginsOp_f : ByteFn 113 M.begOp := ⟨beginsOp_c, enters_of Tryz.func113 (by kernel_rfl) rfl⟩

/-- A function of a rest of a text that answers how many bytes it takes. -/
def TakeFn (g : Nat) (t : List UInt8 → Nat) : Prop :=
  (∀ (s : ByteArray), s.size ≤ 70000 → ∀ (w : World), GOK w → Calls Tryz.prog g #[.string s] w fun e w' => e = .returned (.int .i64 (t s.data.toList)) ∧ Below w.heap.size w w') ∧ Enters Tryz.prog g

theorem takeName_f : TakeFn 53 (M.headed M.begName M.inName) := by
  refine ⟨fun s hs w _ => ?_, enters_of Tryz.func53 (by kernel_rfl) rfl⟩
  go_enter Tryz.func53, Tryz.ntmps53
  go_wp2_with (go_at_call 109; refine (headed_c _ _ _ _ beginsName_f withinName_f s (by omega) _).mono ?_; rintro e w' ⟨rfl, rfl⟩)
  go_ret
  exact ⟨rfl, Below.refl _ _⟩
theorem takeCon_f : TakeFn 54 (M.headed M.capB M.inName) := by
  refine ⟨fun s hs w _ => ?_, enters_of Tryz.func54 (by kernel_rfl) rfl⟩
  go_enter Tryz.func54, Tryz.ntmps54
  go_wp2_with (go_at_call 109; refine (headed_c _ _ _ _ isCapital_f withinName_f s (by omega) _).mono ?_; rintro e w' ⟨rfl, rfl⟩)
  go_ret
  exact ⟨rfl, Below.refl _ _⟩
theorem takeOp_f : TakeFn 55 (M.headed M.begOp M.sym) := by
  refine ⟨fun s hs w _ => ?_, enters_of Tryz.func55 (by kernel_rfl) rfl⟩
  go_enter Tryz.func55, Tryz.ntmps55
  go_wp2_with (go_at_call 109; refine (headed_c _ _ _ _ beginsOp_f symbol_f s (by omega) _).mono ?_; rintro e w' ⟨rfl, rfl⟩)
  go_ret
  exact ⟨rfl, Below.refl _ _⟩
theorem takeConOp_f : TakeFn 56 (M.headed M.colonB M.sym) := by
  refine ⟨fun s hs w _ => ?_, enters_of Tryz.func56 (by kernel_rfl) rfl⟩
  go_enter Tryz.func56, Tryz.ntmps56
  go_wp2_with (go_at_call 109; refine (headed_c _ _ _ _ isColon_f symbol_f s (by omega) _).mono ?_; rintro e w' ⟨rfl, rfl⟩)
  go_ret
  exact ⟨rfl, Below.refl _ _⟩
theorem passBlanks_f : TakeFn 50 (M.cnt M.blankB) := by
  refine ⟨fun s hs w _ => ?_, enters_of Tryz.func50 (by kernel_rfl) rfl⟩
  go_enter Tryz.func50, Tryz.ntmps50
  go_wp2_with (go_at_call 103; refine (count_c _ _ isBlank_f s (by omega) _).mono ?_; rintro e w' ⟨rfl, rfl⟩)
  go_ret
  exact ⟨rfl, Below.refl _ _⟩

end Go.Proofs.YtndpebkiiemfpaaGreatDoor
