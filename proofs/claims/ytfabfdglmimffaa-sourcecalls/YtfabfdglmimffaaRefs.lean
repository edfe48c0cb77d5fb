/-
  The document's own Where and At, by contracts.
-/
import Derived.WalkKit
import Derived.Test.YtfabfdglmimffaaLawBack
namespace Go.Proofs.Ytfabfdglmimffaa
open Go.RowKit Go.Shelf
set_option linter.unusedVariables false

set_option maxRecDepth 100000 in
set_option maxHeartbeats 1000000 in
theorem next_c (b : UInt8) (c : Int) (h1 : 1 ≤ c) (h2 : c ≤ 4000000000000000) (w : World) :
    Calls Try.prog 23 #[.int .i64 c, .int .u8 (b.toNat : Int)] w fun e w' => e = .returned (.int .i64 (M.bh b c)) ∧ w' = w := by
  by_cases hb : b = 9
  · subst hb
    have hbh : Hid (M.bh 9 c = c + 8 - (c - 1) % 8) := by show _ = _; simp [M.bh]
    go_enter Try.func23, Try.ntmps23
    go_wp2
    go_loop [0] (fun i => ∃ d : Int, c + 1 ≤ d ∧ d ≤ c + 8 - (c - 1) % 8 ∧ i = .int .i64 d) (fun i => (c + 8 - (c - 1) % 8 - intOf i).toNat)
    case atStart => exact ⟨c + 1, by omega, by omega, rfl⟩
    case round =>
      obtain ⟨d, hd1, hd2, rfl⟩ := hrel
      by_cases hm : (d - 1) % 8 = 0
      · have hq : (((d - 1) % 8) != 0) = false := by simp [hm]
        have hd : d = c + 8 - (c - 1) % 8 := by omega
        have HD : Hid (d = M.bh 9 c) := by show _ = _; rw [hbh.out]; exact hd
        clear hd hm
        go_wp2
        go_ret
        exact ⟨by rw [← HD.out]; rfl, rfl⟩
      · have hq : (((d - 1) % 8) != 0) = true := by simp [hm]
        have hd3 : d + 1 ≤ c + 8 - (c - 1) % 8 := by omega
        clear hm
        go_wp2
        go_round
        case rel => exact ⟨d + 1, by omega, hd3, rfl⟩
        case measure => simp [intOf]; omega
  · have hb' : (((b.toNat : Int)) != 9) = true := by
      rw [bne_iff_ne]
      intro e
      exact hb (UInt8.toNat_inj.1 (by simpa using (show b.toNat = 9 by omega)))
    have hbh : Hid (M.bh b c = c + 1) := by show _ = _; simp [M.bh, hb]
    clear hb
    go_enter Try.func23, Try.ntmps23
    go_wp2
    go_ret
    exact ⟨by rw [hbh.out]; rfl, rfl⟩

theorem colK_bd (s : ByteArray) (k : Nat) : 1 ≤ colK s k ∧ colK s k ≤ 8 * k + 1 := by
  have h := M.colAt_bd (M.at' s k).2.length (M.at' s k).2 rfl
  have hl : ∀ (l : List UInt8) (n : Nat) (cur : List UInt8), (M.sta n cur l).2.length ≤ cur.length + l.length := by
    intro l
    induction l with
    | nil => intro n cur; simp [M.sta]
    | cons b l ih =>
      intro n cur
      rw [M.sta_cons]
      split
      · have := ih (n + 1) []; simp at this ⊢; omega
      · have := ih n (cur ++ [b]); simp at this ⊢; omega
  have h2 := hl (s.data.toList.take k) 1 []
  have h3 : (s.data.toList.take k).length ≤ k := List.length_take_le _ _
  have h4 : (M.at' s k).2.length ≤ k := by unfold M.at'; simp only [List.length_nil, Nat.zero_add] at h2; omega
  unfold colK
  omega

theorem lineK_bd (s : ByteArray) (k : Nat) : 1 ≤ lineK s k ∧ lineK s k ≤ k + 1 := by
  refine ⟨M.at_ge s k, ?_⟩
  have hl : ∀ (l : List UInt8) (n : Nat) (cur : List UInt8), (M.sta n cur l).1 ≤ n + l.length := by
    intro l
    induction l with
    | nil => intro n cur; simp [M.sta]
    | cons b l ih =>
      intro n cur
      rw [M.sta_cons]
      split
      · have := ih (n + 1) []; simp at this ⊢; omega
      · have := ih n (cur ++ [b]); simp at this ⊢; omega
  have h2 := hl (s.data.toList.take k) 1 []
  have h3 : (s.data.toList.take k).length ≤ k := List.length_take_le _ _
  unfold lineK M.at'
  omega

theorem step_ten (s : ByteArray) (k : Nat) (h : k < s.size) (hb : s[k] = 10) : ((lineK s (k + 1) : Nat) : Int) = ((lineK s k : Nat) : Int) + 1 ∧ colK s (k + 1) = 1 := by
  unfold lineK colK
  rw [M.at_succ s k h, M.stp, if_pos hb]
  simp [M.colAt]
theorem step_other (s : ByteArray) (k : Nat) (h : k < s.size) (hb : s[k] ≠ 10) : lineK s (k + 1) = lineK s k ∧ colK s (k + 1) = M.bh s[k] (colK s k) := by
  unfold lineK colK
  rw [M.at_succ s k h, M.stp, if_neg hb]
  exact ⟨rfl, M.colAt_snoc _ _⟩

theorem byte10 {b : UInt8} (h : b = 10) : (((b.toNat : Nat) : Int) == 10) = true := by subst h; rfl
theorem byteN10 {b : UInt8} (h : b ≠ 10) : (((b.toNat : Nat) : Int) == 10) = false := by
  rw [beq_eq_false_iff_ne]
  intro e
  exact h (UInt8.toNat_inj.1 (by simp; omega))

set_option maxRecDepth 100000 in
set_option maxHeartbeats 2000000 in
theorem refWhere_c (s : ByteArray) (n : Nat) (hn : n ≤ s.size) (hs : s.size ≤ 4000) (w : World) :
    Calls Try.prog 13 #[.string s, .int .i64 (n : Int)] w fun e w' => e = .returned (.tuple #[.int .i64 ((lineK s n : Nat) : Int), .int .i64 (colK s n), .int .i64 0]) ∧ w' = w := by
  have ha0 : decide ((n : Int) < 0) = false := by simp
  have ha1 : decide (s.size < n) = false := by simp; omega
  go_enter Try.func13, Try.ntmps13
  go_wp2
  go_loop [7, 8, 9] (fun l c i => ∃ k : Nat, k ≤ n ∧ i = .int .i64 k ∧ l = .int .i64 ((lineK s k : Nat) : Int) ∧ c = .int .i64 (colK s k)) (fun _ _ i => n - (intOf i).toNat)
  case atStart => exact ⟨0, Nat.zero_le _, rfl, by simp [lineK, M.at_zero], by simp [colK, M.at_zero, M.colAt]⟩
  case round =>
    obtain ⟨k, hk, rfl, rfl, rfl⟩ := hrel
    have hcb := colK_bd s k
    have hlb := lineK_bd s k
    have hlb' : ((lineK s k : Nat) : Int) ≤ 4002 := by omega
    by_cases hlt : k < n
    · have hks : k < s.size := by omega
      by_cases hb : s[k] = 10
      · have hst : Hid _ := step_ten s k hks hb
        have hq := byte10 hb
        clear hb
        go_wp2_with (go_at_call 23; refine (next_c s[k] (colK s k) (by omega) (by omega) _).mono ?_; rintro e w' ⟨rfl, rfl⟩)
        go_round
        case rel => exact ⟨k + 1, by omega, by go_num, by rw [hst.out.1], by rw [hst.out.2]⟩
        case measure => simp [intOf]; omega
      · have hst : Hid _ := step_other s k hks hb
        have hq := byteN10 hb
        clear hb
        go_wp2_with (go_at_call 23; refine (next_c s[k] (colK s k) (by omega) (by omega) _).mono ?_; rintro e w' ⟨rfl, rfl⟩)
        go_round
        case rel => exact ⟨k + 1, by omega, by go_num, by rw [hst.out.1], by rw [hst.out.2]⟩
        case measure => simp [intOf]; omega
    · obtain rfl : k = n := by omega
      go_wp2
      go_ret3
      exact ⟨rfl, rfl⟩

set_option maxHeartbeats 1000000 in
theorem refWhere_no (s : ByteArray) (a : Int) (h : a < 0 ∨ (s.size : Int) < a) (w : World) :
    Calls Try.prog 13 #[.string s, .int .i64 a] w fun e w' => e = .returned (.tuple #[.int .i64 0, .int .i64 0, .int .i64 2]) ∧ w' = w := by
  by_cases h0 : a < 0
  · go_enter Try.func13, Try.ntmps13
    go_wp2
    go_ret3
    exact ⟨rfl, rfl⟩
  · have h1 : (s.size : Int) < a := by omega
    go_enter Try.func13, Try.ntmps13
    go_wp2
    go_ret3
    exact ⟨rfl, rfl⟩

/-- What the document's At answers. -/
def RefAt (s : ByteArray) (line col : Int) (v : Value) : Prop :=
  (∃ k : Nat, k ≤ s.size ∧ ((lineK s k : Nat) : Int) = line ∧ colK s k = col ∧ v = .tuple #[.int .i64 (k : Int), .int .i64 0]) ∨
  ((∀ k : Nat, k ≤ s.size → ¬ (((lineK s k : Nat) : Int) = line ∧ colK s k = col)) ∧ v = .tuple #[.int .i64 0, .int .i64 2])

set_option maxRecDepth 100000 in
set_option maxHeartbeats 4000000 in
theorem refAt_c (s : ByteArray) (line col : Int) (hs : s.size ≤ 4000) (w : World) :
    Calls Try.prog 14 #[.string s, .int .i64 line, .int .i64 col] w fun e w' => ∃ v, e = .returned v ∧ RefAt s line col v ∧ w' = w := by
  go_enter Try.func14, Try.ntmps14
  go_wp2
  go_loop [8, 9, 10] (fun l c i => ∃ k : Nat, k ≤ s.size ∧ i = .int .i64 k ∧ l = .int .i64 ((lineK s k : Nat) : Int) ∧ c = .int .i64 (colK s k) ∧ Hid (∀ j : Nat, j < k → ¬ (((lineK s j : Nat) : Int) = line ∧ colK s j = col))) (fun _ _ i => s.size - (intOf i).toNat)
  case atStart => exact ⟨0, Nat.zero_le _, rfl, by simp [lineK, M.at_zero], by simp [colK, M.at_zero, M.colAt], (fun j hj => by omega : ∀ j : Nat, j < 0 → ¬ (((lineK s j : Nat) : Int) = line ∧ colK s j = col))⟩
  case round =>
    obtain ⟨k, hk, rfl, rfl, rfl, hno⟩ := hrel
    have hcb := colK_bd s k
    have hlb := lineK_bd s k
    have hlb' : ((lineK s k : Nat) : Int) ≤ 4002 := by omega
    by_cases hfound : ((lineK s k : Nat) : Int) = line ∧ colK s k = col
    · have hq1 : (((lineK s k : Nat) : Int) == line) = true := beq_iff_eq.2 hfound.1
      have hq2 : (colK s k == col) = true := beq_iff_eq.2 hfound.2
      have HF : Hid (((lineK s k : Nat) : Int) = line ∧ colK s k = col) := hfound
      clear hfound
      go_wp2
      go_ret2
      exact ⟨_, rfl, .inl ⟨k, hk, HF.out.1, HF.out.2, rfl⟩, rfl⟩
    · have HF : Hid (¬ (((lineK s k : Nat) : Int) = line ∧ colK s k = col)) := hfound
      have hno' : Hid (∀ j : Nat, j < k + 1 → ¬ (((lineK s j : Nat) : Int) = line ∧ colK s j = col)) := fun j hj => by
        by_cases hjk : j < k
        · exact hno.out j hjk
        · obtain rfl : j = k := by omega
          exact HF.out
      by_cases hq1' : ((lineK s k : Nat) : Int) = line
      · have hq1 : (((lineK s k : Nat) : Int) == line) = true := beq_iff_eq.2 hq1'
        have hq2 : (colK s k == col) = false := beq_eq_false_iff_ne.2 (fun e => hfound ⟨hq1', e⟩)
        clear hfound hq1'
        by_cases hlt : k < s.size
        · by_cases hb : s[k] = 10
          · have hst : Hid _ := step_ten s k hlt hb
            have hq := byte10 hb
            clear hb
            go_wp2_with (go_at_call 23; refine (next_c s[k] (colK s k) (by omega) (by omega) _).mono ?_; rintro e w' ⟨rfl, rfl⟩)
            go_round
            case rel => exact ⟨k + 1, by omega, by go_num, by rw [hst.out.1], by rw [hst.out.2], hno'⟩
            case measure => simp [intOf]; omega
          · have hst : Hid _ := step_other s k hlt hb
            have hq := byteN10 hb
            clear hb
            go_wp2_with (go_at_call 23; refine (next_c s[k] (colK s k) (by omega) (by omega) _).mono ?_; rintro e w' ⟨rfl, rfl⟩)
            go_round
            case rel => exact ⟨k + 1, by omega, by go_num, by rw [hst.out.1], by rw [hst.out.2], hno'⟩
            case measure => simp [intOf]; omega
        · obtain rfl : k = s.size := by omega
          go_wp2
          go_ret2
          exact ⟨_, rfl, .inr ⟨fun j hj => hno'.out j (by omega), rfl⟩, rfl⟩
      · have hq1 : (((lineK s k : Nat) : Int) == line) = false := beq_eq_false_iff_ne.2 hq1'
        clear hfound hq1'
        by_cases hlt : k < s.size
        · by_cases hb : s[k] = 10
          · have hst : Hid _ := step_ten s k hlt hb
            have hq := byte10 hb
            clear hb
            go_wp2_with (go_at_call 23; refine (next_c s[k] (colK s k) (by omega) (by omega) _).mono ?_; rintro e w' ⟨rfl, rfl⟩)
            go_round
            case rel => exact ⟨k + 1, by omega, by go_num, by rw [hst.out.1], by rw [hst.out.2], hno'⟩
            case measure => simp [intOf]; omega
          · have hst : Hid _ := step_other s k hlt hb
            have hq := byteN10 hb
            clear hb
            go_wp2_with (go_at_call 23; refine (next_c s[k] (colK s k) (by omega) (by omega) _).mono ?_; rintro e w' ⟨rfl, rfl⟩)
            go_round
            case rel => exact ⟨k + 1, by omega, by go_num, by rw [hst.out.1], by rw [hst.out.2], hno'⟩
            case measure => simp [intOf]; omega
        · obtain rfl : k = s.size := by omega
          go_wp2
          go_ret2
          exact ⟨_, rfl, .inr ⟨fun j hj => hno'.out j (by omega), rfl⟩, rfl⟩

end Go.Proofs.Ytfabfdglmimffaa
