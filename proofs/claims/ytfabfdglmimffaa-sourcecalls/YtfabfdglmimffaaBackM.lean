/-
  Plain mathematics: the line and the column of a place, and the way back.
-/
import Derived.Test.YtfabfdglmimffaaWhere
namespace Go.Proofs.Ytfabfdglmimffaa.M
open Go.Lib
set_option linter.unusedVariables false

/-- How many lines have come, and what of the last one. -/
def stp (p : Nat × List UInt8) (b : UInt8) : Nat × List UInt8 := if b = 10 then (p.1 + 1, []) else (p.1, p.2 ++ [b])
def sta (n : Nat) (cur l : List UInt8) : Nat × List UInt8 := l.foldl stp (n, cur)

theorem sta_nil (n : Nat) (cur : List UInt8) : sta n cur [] = (n, cur) := rfl
theorem sta_cons (n : Nat) (cur : List UInt8) (b : UInt8) (l : List UInt8) : sta n cur (b :: l) = if b = 10 then sta (n + 1) [] l else sta n (cur ++ [b]) l := by
  unfold sta
  rw [List.foldl_cons, stp]
  split <;> rfl
theorem sta_snoc (n : Nat) (cur l : List UInt8) (b : UInt8) : sta n cur (l ++ [b]) = stp (sta n cur l) b := by
  simp [sta]
theorem sta_shift : ∀ (l : List UInt8) (n : Nat) (cur : List UInt8), sta (n + 1) cur l = ((sta n cur l).1 + 1, (sta n cur l).2)
  | [], n, cur => rfl
  | b :: l, n, cur => by
    rw [sta_cons, sta_cons]
    split
    · exact sta_shift l (n + 1) []
    · exact sta_shift l n _
theorem sta_ge : ∀ (l : List UInt8) (n : Nat) (cur : List UInt8), n ≤ (sta n cur l).1
  | [], n, cur => Nat.le_refl _
  | b :: l, n, cur => by
    rw [sta_cons]
    split
    · have := sta_ge l (n + 1) []; omega
    · exact sta_ge l n _

/-- The lines of a text are as many as have come, and the last one is what came last. -/
theorem lns_sta : ∀ (l : List UInt8) (st : Nat) (cur : List UInt8), (lns st cur l).length = (sta 1 cur l).1 ∧ ((lns st cur l).getLast?).map (·.2) = some (sta 1 cur l).2
  | [], st, cur => by simp [lns, sta]
  | b :: l, st, cur => by
    rw [lns, sta_cons]
    by_cases hb : b = 10
    · rw [if_pos hb, if_pos hb, sta_shift]
      have ih := lns_sta l (st + cur.length + 1) []
      refine ⟨by simp [ih.1], ?_⟩
      rw [← ih.2]
      cases h : lns (st + cur.length + 1) [] l with
      | nil => have := (lns_length l (st + cur.length + 1) []).1; rw [h] at this; simp at this
      | cons p r => simp [List.getLast?_cons]
    · rw [if_neg hb, if_neg hb]
      exact lns_sta l st _

theorem LN_sta (s : ByteArray) : (LN s 0).length = (sta 1 [] s.data.toList).1 ∧ (lastT (LN s 0)).data.toList = (sta 1 [] s.data.toList).2 := by
  have h := lns_sta s.data.toList 0 []
  rw [LN, List.drop_zero]
  refine ⟨by rw [List.length_map]; exact h.1, ?_⟩
  unfold lastT
  rw [List.getLast?_map]
  cases hg : (lns 0 [] s.data.toList).getLast? with
  | none => rw [hg] at h; simp at h
  | some p =>
    rw [hg] at h
    simp at h
    simp [← h.2, mk]

/-- The state ahead of a place. -/
def at' (s : ByteArray) (k : Nat) : Nat × List UInt8 := sta 1 [] (s.data.toList.take k)

theorem LN_at (s : ByteArray) (k : Nat) (h : k ≤ s.size) : (LN (s.extract 0 k) 0).length = (at' s k).1 ∧ (lastT (LN (s.extract 0 k) 0)).data.toList = (at' s k).2 := by
  have := LN_sta (s.extract 0 k)
  rw [extract_data, List.drop_zero, Nat.sub_zero] at this
  exact this

theorem at_zero (s : ByteArray) : at' s 0 = (1, []) := by simp [at', sta]
theorem at_succ (s : ByteArray) (k : Nat) (h : k < s.size) : at' s (k + 1) = stp (at' s k) s[k] := by
  unfold at'
  rw [take_snoc s k h, sta_snoc]

/-- Where a place's line stands, and where in it the place. -/
theorem lns_at : ∀ (l : List UInt8) (st : Nat) (cur : List UInt8) (k : Nat), k ≤ l.length →
    ∃ st' T, (lns st cur l)[(sta 1 cur (l.take k)).1 - 1]? = some (st', T) ∧ st' + (sta 1 cur (l.take k)).2.length = st + cur.length + k ∧ (sta 1 cur (l.take k)).2 <+: T
  | [], st, cur, k, h => by
    obtain rfl : k = 0 := by simpa using h
    exact ⟨st, cur, by simp [lns, sta], by simp [sta], by simp [sta]⟩
  | b :: l, st, cur, 0, h => by
    by_cases hb : b = 10
    · exact ⟨st, cur, by simp [lns, sta, hb], by simp [sta], by simp [sta]⟩
    · obtain ⟨st', T, h1, h2, h3⟩ := lns_at l st (cur ++ [b]) 0 (Nat.zero_le _)
      simp only [List.take_zero, sta_nil] at h1 h2 h3 ⊢
      refine ⟨st', T, by rw [lns, if_neg hb]; exact h1, by simp at h2 ⊢; omega, ?_⟩
      exact (List.prefix_append cur [b]).trans h3
  | b :: l, st, cur, k + 1, h => by
    rw [List.take_succ_cons, sta_cons, lns]
    by_cases hb : b = 10
    · rw [if_pos hb, if_pos hb, sta_shift]
      obtain ⟨st', T, h1, h2, h3⟩ := lns_at l (st + cur.length + 1) [] k (by simpa using h)
      have hge := sta_ge (l.take k) 1 []
      refine ⟨st', T, ?_, by simp at h2 ⊢; omega, h3⟩
      obtain ⟨m, hm⟩ : ∃ m, (sta 1 [] (l.take k)).1 = m + 1 := ⟨(sta 1 [] (l.take k)).1 - 1, by omega⟩
      rw [hm] at h1 ⊢
      simpa using h1
    · rw [if_neg hb, if_neg hb]
      obtain ⟨st', T, h1, h2, h3⟩ := lns_at l st (cur ++ [b]) k (by simpa using h)
      exact ⟨st', T, h1, by simp at h2 ⊢; omega, h3⟩

theorem LN_place (s : ByteArray) (k : Nat) (h : k ≤ s.size) :
    ∃ x, (LN s 0)[(at' s k).1 - 1]? = some x ∧ x.1 + (at' s k).2.length = k ∧ (at' s k).2 <+: x.2.data.toList := by
  obtain ⟨st', T, h1, h2, h3⟩ := lns_at s.data.toList 0 [] k (by rw [← size_eq]; exact h)
  refine ⟨(st', mk T), ?_, ?_, h3⟩
  · rw [LN, List.drop_zero, List.getElem?_map]
    show Option.map _ ((lns 0 [] s.data.toList)[(sta 1 [] (s.data.toList.take k)).1 - 1]?) = _
    rw [h1]
    rfl
  · simpa [at'] using h2

/-- Columns rise within a line. -/
theorem colAt_lt (l : List UInt8) : ∀ (d i : Nat), i + (d + 1) ≤ l.length → colAt (l.take i) < colAt (l.take (i + (d + 1)))
  | 0, i, h => by
    rw [List.take_succ_eq_append_getElem (by omega), colAt_snoc]
    exact (bh_lt _ _).1
  | d + 1, i, h => by
    have ih := colAt_lt l d i (by omega)
    have : i + (d + 1 + 1) = i + (d + 1) + 1 := by omega
    rw [this, List.take_succ_eq_append_getElem (by omega), colAt_snoc]
    have := (bh_lt (l[i + (d + 1)]'(by omega)) (colAt (l.take (i + (d + 1))))).1
    omega

theorem colAt_inj (l : List UInt8) (i j : Nat) (hi : i ≤ l.length) (hj : j ≤ l.length) (h : colAt (l.take i) = colAt (l.take j)) : i = j := by
  rcases Nat.lt_trichotomy i j with hlt | rfl | hlt
  · obtain ⟨d, rfl⟩ : ∃ d, j = i + (d + 1) := ⟨j - i - 1, by omega⟩
    have := colAt_lt l d i hj
    omega
  · rfl
  · obtain ⟨d, rfl⟩ : ∃ d, i = j + (d + 1) := ⟨i - j - 1, by omega⟩
    have := colAt_lt l d j hi
    omega

theorem at_ge (s : ByteArray) (k : Nat) : 1 ≤ (at' s k).1 := sta_ge _ 1 []

end Go.Proofs.Ytfabfdglmimffaa.M
