/-
  The law SourceCalls, walked.
-/
import Derived.WalkKit
import Derived.Test.YtfabfdglmimffaaAgree
import Derived.Test.YtfabfdglmimffaaCheck
namespace Go.Proofs.Ytfabfdglmimffaa
open Go.RowKit Go.Shelf
set_option linter.unusedVariables false

theorem where_any (s : ByteArray) (a : Int) (hs : s.size ≤ 4000) : ∃ l c e : Int,
    (∀ w : World, Calls Try.prog 7 #[.string s, .int .i64 a] w fun r W' => r = .returned (.tuple #[.int .i64 l, .int .i64 c, .int .i64 e]) ∧ Below w.heap.size w W') ∧
    (∀ w : World, Calls Try.prog 13 #[.string s, .int .i64 a] w fun r W' => r = .returned (.tuple #[.int .i64 l, .int .i64 c, .int .i64 e]) ∧ W' = w) := by
  by_cases h : 0 ≤ a ∧ a ≤ s.size
  · obtain ⟨k, rfl⟩ := Int.eq_ofNat_of_zero_le h.1
    exact ⟨_, _, _, fun w => where_k s k (by omega) (by omega) w, fun w => refWhere_c s k (by omega) hs w⟩
  · exact ⟨_, _, _, fun w => where_no_c s a (by omega) (by omega) w, fun w => refWhere_no s a (by omega) w⟩

theorem at_some (s : ByteArray) (line col : Int) : ∃ p g : Int, AtSays s line col (.tuple #[.int .i64 p, .int .i64 g]) := by
  by_cases h : ∃ (k : Nat) (x : Nat × ByteArray) (j : Nat), (M.LN s 0)[k]? = some x ∧ j ≤ x.2.size ∧ line = (k : Int) + 1 ∧ M.colAt (x.2.data.toList.take j) = col
  · obtain ⟨k, x, j, h1, h2, h3, h4⟩ := h
    exact ⟨_, _, .inl ⟨k, x, j, h3, h1, h2, h4, rfl⟩⟩
  · exact ⟨_, _, .inr ⟨fun k x j h1 h2 h3 h4 => h ⟨k, x, j, h1, h2, h3, h4⟩, rfl⟩⟩
theorem refAt_some (s : ByteArray) (line col : Int) : ∃ p g : Int, RefAt s line col (.tuple #[.int .i64 p, .int .i64 g]) := by
  by_cases h : ∃ k : Nat, k ≤ s.size ∧ ((lineK s k : Nat) : Int) = line ∧ colK s k = col
  · obtain ⟨k, h1, h2, h3⟩ := h
    exact ⟨_, _, .inl ⟨k, h1, h2, h3, rfl⟩⟩
  · exact ⟨_, _, .inr ⟨fun k h1 h2 => h ⟨k, h1, h2⟩, rfl⟩⟩

theorem at_any (s : ByteArray) (line col : Int) (hs : s.size ≤ 4000) : ∃ p g : Int,
    (∀ w : World, Calls Try.prog 8 #[.string s, .int .i64 line, .int .i64 col] w fun r W' => r = .returned (.tuple #[.int .i64 p, .int .i64 g]) ∧ Below w.heap.size w W') ∧
    (∀ w : World, Calls Try.prog 14 #[.string s, .int .i64 line, .int .i64 col] w fun r W' => r = .returned (.tuple #[.int .i64 p, .int .i64 g]) ∧ W' = w) := by
  obtain ⟨p, g, hA⟩ := at_some s line col
  obtain ⟨p', g', hR⟩ := refAt_some s line col
  have he := at_agree s line col _ _ hA hR
  refine ⟨p, g, fun w => (at_c s line col (by omega) w).mono ?_, fun w => (refAt_c s line col hs w).mono ?_⟩
  · rintro e W' ⟨v, rfl, hv, hb⟩
    exact ⟨by rw [at_agree s line col v _ hv hR, he], hb⟩
  · rintro e W' ⟨v, rfl, hv, rfl⟩
    exact ⟨by rw [← at_agree s line col _ v hA hv], rfl⟩

theorem indent_some (s : ByteArray) (line : Int) : ∃ p g : Int, IndentSays s line (.tuple #[.int .i64 p, .int .i64 g]) := by
  by_cases h : ∃ (k : Nat) (x : Nat × ByteArray), line = (k : Int) + 1 ∧ (M.LN s 0)[k]? = some x
  · obtain ⟨k, x, hl, hx⟩ := h
    by_cases hc : ∃ j, Counts x.2 j
    · have key : ∀ n, (∃ j, j ≤ n ∧ Counts x.2 j) → ∃ j, Counts x.2 j ∧ ∀ i, i < j → ¬ Counts x.2 i := by
        intro n
        induction n with
        | zero =>
          rintro ⟨j, hj, hcj⟩
          obtain rfl : j = 0 := by omega
          exact ⟨0, hcj, fun i hi => by omega⟩
        | succ n ih =>
          rintro ⟨j, hj, hcj⟩
          by_cases hh : ∃ j, j ≤ n ∧ Counts x.2 j
          · exact ih hh
          · exact ⟨j, hcj, fun i hi hci => hh ⟨i, by omega, hci⟩⟩
      obtain ⟨j0, hj0⟩ := hc
      obtain ⟨j, h1, h2⟩ := key j0 ⟨j0, Nat.le_refl _, hj0⟩
      exact ⟨_, _, .inl ⟨k, x, j, hl, hx, h1, h2, rfl⟩⟩
    · exact ⟨_, _, .inr (.inl ⟨k, x, hl, hx, fun i hi => hc ⟨i, hi⟩, rfl⟩)⟩
  · refine ⟨_, _, .inr (.inr ⟨fun k hk e => h ⟨k, (M.LN s 0)[k], e, List.getElem?_eq_getElem hk⟩, rfl⟩)⟩

theorem indent_any (s : ByteArray) (line : Int) (hs : s.size ≤ 4000) : ∃ p g : Int,
    (∀ w : World, Calls Try.prog 9 #[.string s, .int .i64 line] w fun r W' => r = .returned (.tuple #[.int .i64 p, .int .i64 g]) ∧ Below w.heap.size w W') ∧
    (∀ w : World, Calls Try.prog 15 #[.string s, .int .i64 line] w fun r W' => r = .returned (.tuple #[.int .i64 p, .int .i64 g]) ∧ Below w.heap.size w W') := by
  obtain ⟨p, g, hI⟩ := indent_some s line
  refine ⟨p, g, fun w => (indent_c s line (by omega) w).mono ?_, fun w => (refIndent_c s line hs w).mono ?_⟩
  · rintro e W' ⟨v, rfl, hv, hb⟩
    exact ⟨by rw [indent_agree s line v _ hv hI], hb⟩
  · rintro e W' ⟨v, rfl, hv, hb⟩
    exact ⟨by rw [indent_agree s line v _ hv hI], hb⟩

theorem texts_below {A B : World} {g : Nat} {L : List (Nat × ByteArray)} (h : Below A.heap.size A B) (hg : g < A.heap.size) (ht : Hid (TextsAt A g L)) : Hid (TextsAt B g L) :=
  fun j hj => (h.cell (p := ⟨g, j, none⟩) hg).trans (ht.out j hj)

set_option maxRecDepth 100000 in
set_option maxHeartbeats 4000000 in
theorem lawCalls_small (s : ByteArray) (a line col : Int) (hs : s.size ≤ 4000) (w : World) :
    Calls Try.prog 4 #[.string s, .int .i64 a, .int .i64 line, .int .i64 col] w fun e W' => e = .returned (.bool true) ∧ Below w.heap.size w W' := by
  have hsi : (s.size : Int) ≤ 4000 := by omega
  obtain ⟨l, c, e0, hw1', hw2'⟩ := where_any s a hs
  obtain ⟨p, g, ha1', ha2'⟩ := at_any s line col hs
  obtain ⟨x, y, hi1', hi2'⟩ := indent_any s line hs
  have hw1 : Hid _ := hw1'
  have hw2 : Hid _ := hw2'
  have ha1 : Hid _ := ha1'
  have ha2 : Hid _ := ha2'
  have hi1 : Hid _ := hi1'
  have hi2 : Hid _ := hi2'
  clear hw1' hw2' ha1' ha2' hi1' hi2'
  go_enter Try.func4, Try.ntmps4
  go_wp2_with (first
    | (go_at_call 10; refine (lives_c _).mono ?_; rintro e w0 ⟨rfl, hb0⟩)
    | (go_at_call 11; refine (check_c s _).mono ?_; rintro e w1 ⟨rfl, hb1⟩)
    | (go_at_call 12; refine (refCheck_c s _).mono ?_; rintro e w2 ⟨rfl, hb2⟩)
    | (go_at_call 7; refine (hw1.out _).mono ?_; rintro e w3 ⟨rfl, hb3⟩)
    | (go_at_call 13; refine (hw2.out _).mono ?_; rintro e w4 ⟨rfl, rfl⟩)
    | (go_at_call 8; refine (ha1.out _).mono ?_; rintro e w5 ⟨rfl, hb5⟩)
    | (go_at_call 14; refine (ha2.out _).mono ?_; rintro e w6 ⟨rfl, rfl⟩)
    | (go_at_call 9; refine (hi1.out _).mono ?_; rintro e w7 ⟨rfl, hb7⟩)
    | (go_at_call 15; refine (hi2.out _).mono ?_; rintro e w8 ⟨rfl, hb8⟩)
    | (go_at_call 17; refine (lines_c2 s (by omega) _).mono ?_; rintro e w9 ⟨m, gg, cap, rfl, hm, hg, ht, hb9⟩)
    | (go_at_call 18; refine (refLines_c2 s hs _).mono ?_; rintro e w10 ⟨m', gg', cap', rfl, hm', hg', ht', hb10⟩; obtain rfl : m' = m := (by have := hm.out; have := hm'.out; omega))
    | (go_at_call 16; refine (same_c (M.LN s 0) _ gg cap gg' cap' hm.out (by have := (M.LN_length s 0).2; have := hm.out; omega) _ (texts_below hb10 hg ht) ht' (by have := hb10.size; omega) hg').mono ?_; rintro e w11 ⟨rfl, hb11⟩))
  go_ret
  refine ⟨rfl, ?_⟩
  have k1 := hb0.trans (hb1.mono hb0.size)
  have k2 := k1.trans (hb2.mono k1.size)
  have k3 := k2.trans (hb3.mono k2.size)
  have k5 := k3.trans (hb5.mono k3.size)
  have k7 := k5.trans (hb7.mono k5.size)
  have k8 := k7.trans (hb8.mono k7.size)
  have k9 := k8.trans (hb9.mono k8.size)
  have k10 := k9.trans (hb10.mono k9.size)
  exact k10.trans (hb11.mono k10.size)

set_option maxRecDepth 100000 in
set_option maxHeartbeats 1000000 in
theorem lawCalls_great (s : ByteArray) (a line col : Int) (hs : 4000 < s.size) (w : World) :
    Calls Try.prog 4 #[.string s, .int .i64 a, .int .i64 line, .int .i64 col] w fun e W' => e = .returned (.bool true) ∧ Below w.heap.size w W' := by
  have hsi : (4000 : Int) < s.size := by omega
  by_cases hg : (65546 : Int) < s.size
  · go_enter Try.func4, Try.ntmps4
    go_wp2_with (go_at_call 10; refine (lives_c _).mono ?_; rintro e w0 ⟨rfl, hb0⟩)
    go_ret
    exact ⟨rfl, hb0⟩
  · go_enter Try.func4, Try.ntmps4
    go_wp2_with (first
      | (go_at_call 10; refine (lives_c _).mono ?_; rintro e w0 ⟨rfl, hb0⟩)
      | (go_at_call 11; refine (check_c s _).mono ?_; rintro e w1 ⟨rfl, hb1⟩)
      | (go_at_call 12; refine (refCheck_c s _).mono ?_; rintro e w2 ⟨rfl, hb2⟩))
    go_ret
    have k1 := hb0.trans (hb1.mono hb0.size)
    exact ⟨rfl, k1.trans (hb2.mono k1.size)⟩

theorem lawCalls_c (s : ByteArray) (a line col : Int) (w : World) :
    Calls Try.prog 4 #[.string s, .int .i64 a, .int .i64 line, .int .i64 col] w fun e W' => e = .returned (.bool true) ∧ Below w.heap.size w W' := by
  by_cases h : s.size ≤ 4000
  · exact lawCalls_small s a line col h w
  · exact lawCalls_great s a line col (by omega) w

end Go.Proofs.Ytfabfdglmimffaa
