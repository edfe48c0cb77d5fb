/-
  The law SourceBack, walked.
-/
import Derived.Test.YtfabfdglmimffaaBackM
import Derived.Test.YtfabfdglmimffaaPlain
namespace Go.Proofs.Ytfabfdglmimffaa
open Go.RowKit Go.Shelf
set_option linter.unusedVariables false

def lineK (s : ByteArray) (k : Nat) : Nat := (M.at' s k).1
def colK (s : ByteArray) (k : Nat) : Int := M.colAt (M.at' s k).2

theorem where_k (s : ByteArray) (k : Nat) (h : k ≤ s.size) (hs : s.size ≤ 140737488351232) (w : World) :
    Calls Try.prog 7 #[.string s, .int .i64 (k : Int)] w fun e W' => e = .returned (.tuple #[.int .i64 ((lineK s k : Nat) : Int), .int .i64 (colK s k), .int .i64 0]) ∧ Below w.heap.size w W' := by
  have hc := where_c s (k : Int) (by omega) (by omega) hs w
  rw [Int.toNat_natCast, (M.LN_at s k h).1, (M.LN_at s k h).2] at hc
  exact hc

theorem at_says (s : ByteArray) (k : Nat) (h : k ≤ s.size) (v : Value) (hv : AtSays s ((lineK s k : Nat) : Int) (colK s k) v) : v = .tuple #[.int .i64 (k : Int), .int .i64 0] := by
  obtain ⟨x, hx, hk, hp⟩ := M.LN_place s k h
  have hge := M.at_ge s k
  have hlen := hp.length_le
  have htake : (M.at' s k).2 = x.2.data.toList.take (M.at' s k).2.length := List.prefix_iff_eq_take.1 hp
  rcases hv with ⟨k', x', j, hl, hx', hj, hc, rfl⟩ | ⟨hno, rfl⟩
  · have : k' = (M.at' s k).1 - 1 := by unfold lineK at hl; omega
    subst this
    rw [hx] at hx'
    cases hx'
    unfold colK at hc
    rw [htake] at hc
    have := M.colAt_inj x.2.data.toList j (M.at' s k).2.length (by rw [← Lib.size_eq]; exact hj) hlen hc
    subst this
    rw [hk]
  · exfalso
    refine hno ((M.at' s k).1 - 1) x (M.at' s k).2.length hx (by rw [Lib.size_eq]; exact hlen) (by unfold lineK; omega) ?_
    rw [← htake]
    rfl

theorem at_k (s : ByteArray) (k : Nat) (h : k ≤ s.size) (hs : s.size ≤ 140737488351232) (w : World) :
    Calls Try.prog 8 #[.string s, .int .i64 ((lineK s k : Nat) : Int), .int .i64 (colK s k)] w fun e W' => e = .returned (.tuple #[.int .i64 (k : Int), .int .i64 0]) ∧ Below w.heap.size w W' := by
  refine (at_c s _ _ hs w).mono ?_
  rintro e W' ⟨v, rfl, hv, hb⟩
  exact ⟨by rw [at_says s k h v hv], hb⟩

/-- What the loop holds of the place before. -/
def prevL (s : ByteArray) : Nat → Int
  | 0 => 1
  | k + 1 => ((lineK s k : Nat) : Int)
def prevC (s : ByteArray) : Nat → Int
  | 0 => 0
  | k + 1 => colK s k

theorem rises (s : ByteArray) (k : Nat) (h : k ≤ s.size) : prevL s k ≤ ((lineK s k : Nat) : Int) ∧ (((lineK s k : Nat) : Int) = prevL s k → prevC s k < colK s k) := by
  cases k with
  | zero =>
    refine ⟨by simp [prevL, lineK, M.at_zero], fun _ => by simp [prevC, colK, M.at_zero, M.colAt]⟩
  | succ k =>
    have hs := M.at_succ s k (by omega)
    show (((M.at' s k).1 : Nat) : Int) ≤ (((M.at' s (k + 1)).1 : Nat) : Int) ∧ ((((M.at' s (k + 1)).1 : Nat) : Int) = (((M.at' s k).1 : Nat) : Int) → M.colAt (M.at' s k).2 < M.colAt (M.at' s (k + 1)).2)
    rw [hs]
    unfold M.stp
    split
    · refine ⟨by simp; omega, fun e => by simp at e; omega⟩
    · refine ⟨by simp, fun _ => ?_⟩
      simp only [M.colAt_snoc]
      exact (M.bh_lt _ _).1

set_option maxRecDepth 100000 in
set_option maxHeartbeats 4000000 in
theorem lawBack_small (s : ByteArray) (hs : s.size ≤ 300) (w : World) :
    Calls Try.prog 5 #[.string s] w fun e W' => e = .returned (.bool true) ∧ Below w.heap.size w W' := by
  have hsi : (s.size : Int) ≤ 300 := by omega
  go_enter Try.func5, Try.ntmps5
  go_wp2_with (go_at_call 10; refine (lives_c _).mono ?_; rintro e w0 ⟨rfl, hb0⟩)
  go_loopw [3, 4, 5] (fun l c i wr => ∃ k : Nat, k ≤ s.size + 1 ∧ i = .int .i64 k ∧ l = .int .i64 (prevL s k) ∧ c = .int .i64 (prevC s k) ∧ Below w.heap.size w wr)
    (fun _ _ i _ => s.size + 1 - (intOf i).toNat)
  case atStart => exact ⟨0, Nat.zero_le _, rfl, rfl, rfl, hb0⟩
  case round =>
    obtain ⟨k, hk, rfl, rfl, rfl, hB⟩ := hrel
    by_cases hlt : k ≤ s.size
    · have hr := rises s k hlt
      have hL : Hid (((lineK s k : Nat) : Int) = prevL s (k + 1)) := rfl
      have hC : Hid (colK s k = prevC s (k + 1)) := rfl
      have hrl : ¬ ((lineK s k : Nat) : Int) < prevL s k := by omega
      by_cases he : ((lineK s k : Nat) : Int) = prevL s k
      · have hq : (((lineK s k : Nat) : Int) == prevL s k) = true := beq_iff_eq.2 he
        have hrc : ¬ colK s k ≤ prevC s k := by have := hr.2 he; omega
        clear hr he
        go_wp2_with (first | (go_at_call 7; refine (where_k s k hlt (by omega) _).mono ?_; rintro e w1 ⟨rfl, hb1⟩) | (go_at_call 8; refine (at_k s k hlt (by omega) _).mono ?_; rintro e w2 ⟨rfl, hb2⟩))
        go_roundw
        case rel => exact ⟨k + 1, by omega, by go_num, rfl, rfl, hB.trans ((hb1.mono hB.size).trans (hb2.mono (Nat.le_trans hB.size hb1.size)))⟩
        case measure => simp [intOf]; omega
      · have hq : (((lineK s k : Nat) : Int) == prevL s k) = false := beq_eq_false_iff_ne.2 he
        clear hr he
        go_wp2_with (first | (go_at_call 7; refine (where_k s k hlt (by omega) _).mono ?_; rintro e w1 ⟨rfl, hb1⟩) | (go_at_call 8; refine (at_k s k hlt (by omega) _).mono ?_; rintro e w2 ⟨rfl, hb2⟩))
        go_roundw
        case rel => exact ⟨k + 1, by omega, by go_num, rfl, rfl, hB.trans ((hb1.mono hB.size).trans (hb2.mono (Nat.le_trans hB.size hb1.size)))⟩
        case measure => simp [intOf]; omega
    · go_wp2
      go_ret
      exact ⟨rfl, hB⟩

set_option maxHeartbeats 400000 in
theorem lawBack_great (s : ByteArray) (hs : 300 < s.size) (w : World) :
    Calls Try.prog 5 #[.string s] w fun e W' => e = .returned (.bool true) ∧ Below w.heap.size w W' := by
  have hsi : (300 : Int) < s.size := by omega
  go_enter Try.func5, Try.ntmps5
  go_wp2_with (go_at_call 10; refine (lives_c _).mono ?_; rintro e w0 ⟨rfl, hb0⟩)
  go_ret
  exact ⟨rfl, hb0⟩

theorem lawBack_c (s : ByteArray) (w : World) : Calls Try.prog 5 #[.string s] w fun e W' => e = .returned (.bool true) ∧ Below w.heap.size w W' := by
  by_cases h : s.size ≤ 300
  · exact lawBack_small s h w
  · exact lawBack_great s (by omega) w

end Go.Proofs.Ytfabfdglmimffaa
