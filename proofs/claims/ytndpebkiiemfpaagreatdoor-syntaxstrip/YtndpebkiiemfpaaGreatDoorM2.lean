/-
  Plain mathematics of lexemes: what a first part of a text begins with.
-/
import Derived.Test.YtndpebkiiemfpaaGreatDoorM
namespace Go.Proofs.YtndpebkiiemfpaaGreatDoor.M

theorem cnt_le (p : UInt8 → Bool) : ∀ l : List UInt8, cnt p l ≤ l.length
  | [] => Nat.le_refl _
  | b :: l => by
    have := cnt_le p l
    unfold cnt; split <;> simp <;> omega
theorem cnt_take (p : UInt8 → Bool) : ∀ (l : List UInt8) (m : Nat), cnt p (l.take m) = min m (cnt p l)
  | [], m => by simp [cnt]
  | b :: l, 0 => by simp [cnt]
  | b :: l, m + 1 => by
    rw [List.take_succ_cons]
    unfold cnt
    split
    · rw [cnt_take p l m]; omega
    · simp
theorem cnt_append (p : UInt8 → Bool) : ∀ (u r : List UInt8), (∀ b ∈ u, p b = true) → cnt p (u ++ r) = u.length + cnt p r
  | [], r, _ => by simp
  | b :: u, r, h => by
    rw [List.cons_append]
    show (if p b = true then cnt p (u ++ r) + 1 else 0) = _
    rw [if_pos (h b (by simp)), cnt_append p u r (fun x hx => h x (by simp [hx]))]
    simp; omega
theorem cnt_all (p : UInt8 → Bool) : ∀ (l : List UInt8), ∀ b ∈ l.take (cnt p l), p b = true
  | [], b, h => by simp at h
  | c :: l, b, h => by
    unfold cnt at h
    split at h
    · rename_i hc
      rw [List.take_succ_cons] at h
      rcases List.mem_cons.1 h with rfl | h
      · exact hc
      · exact cnt_all p l b h
    · simp at h
theorem cnt_stop (p : UInt8 → Bool) : ∀ (l : List UInt8), cnt p (l.drop (cnt p l)) = 0
  | [] => rfl
  | c :: l => by
    by_cases hc : p c = true
    · have : cnt p (c :: l) = cnt p l + 1 := by simp [cnt, hc]
      rw [this, List.drop_succ_cons]; exact cnt_stop p l
    · have : cnt p (c :: l) = 0 := by simp [cnt, hc]
      rw [this, List.drop_zero, this]

theorem digs_fst (b k : Nat) (l : List UInt8) (h0 : (digs b k l).1 ≠ 0) : (digs b k l).1 = cnt (dig b) l ∧ cnt (dig b) l ≠ 0 ∧ val b 0 (l.take (cnt (dig b) l)) < 2 ^ k ∧ digs b k l = (cnt (dig b) l, val b 0 (l.take (cnt (dig b) l))) := by
  unfold digs at h0 ⊢
  split
  · rename_i h; rw [if_pos h] at h0; simp at h0
  · rename_i h
    exact ⟨rfl, by omega, by omega, rfl⟩
theorem digs_take (b k : Nat) (l : List UInt8) (m : Nat) (h0 : (digs b k l).1 ≠ 0) (hm : (digs b k l).1 ≤ m) : digs b k (l.take m) = digs b k l := by
  have h := digs_fst b k l h0
  rw [h.1] at hm
  rw [h.2.2.2]
  unfold digs
  have hc : cnt (dig b) (l.take m) = cnt (dig b) l := by rw [cnt_take]; omega
  rw [hc, List.take_take, Nat.min_eq_left hm, if_neg]
  rintro (h' | h')
  · exact h.2.1 h'
  · have := h.2.2.1; omega
theorem digs_le (b k : Nat) (l : List UInt8) : (digs b k l).1 ≤ l.length := by
  by_cases h : (digs b k l).1 = 0
  · omega
  · rw [(digs_fst b k l h).1]; exact cnt_le _ _
theorem digs_val (b k : Nat) (l : List UInt8) : (digs b k l).2 < 2 ^ k := by
  unfold digs
  split
  · exact Nat.two_pow_pos k
  · simp only; omega
theorem up_fst (k : Nat) (r : Nat × Nat) (h : (up k r).1 ≠ 0) : r.1 ≠ 0 ∧ up k r = (r.1 + k, r.2) := by
  unfold up at h ⊢
  split
  · rename_i h'; rw [if_pos h'] at h; simp at h
  · rename_i h'; exact ⟨h', rfl⟩

theorem escape_cons (b : UInt8) (l : List UInt8) : escape (b :: l) =
    if b.toNat = 110 then (1, 10) else if b.toNat = 116 then (1, 9)
    else if b.toNat = 92 ∨ b.toNat = 39 ∨ b.toNat = 34 then (1, b.toNat)
    else if b.toNat = 120 then up 1 (digs 16 8 l) else digs 10 8 (b :: l) := rfl
theorem character_cons (q b : UInt8) (l : List UInt8) : character q (b :: l) = if b = q ∨ plainB b = false then (0, 0) else if b.toNat = 92 then up 1 (escape l) else (1, b.toNat) := rfl
theorem noChar_cons (b : UInt8) (l : List UInt8) : noChar (b :: l) = if b.toNat = 92 then (if [38].isPrefixOf l then 2 else if cnt blankB l = 0 ∨ [92].isPrefixOf (l.drop (cnt blankB l)) = false then 0 else cnt blankB l + 2) else 0 := rfl
theorem drop_take' (l : List UInt8) (m k : Nat) : (l.take m).drop k = (l.drop k).take (m - k) := by
  rw [List.drop_take]
theorem isHexed_take (l : List UInt8) (m : Nat) (h : isHexed (l.take m) = true) : isHexed l = true := by
  match l, m with
  | [], m => simpa using h
  | [a], 0 => simp [isHexed] at h
  | [a], m + 1 => simp [isHexed] at h
  | a :: b :: l, 0 => simp [isHexed] at h
  | a :: b :: l, 1 => simp [isHexed, List.isPrefixOf] at h
  | a :: b :: l, m + 2 =>
    simp only [isHexed, List.take_succ_cons, List.drop_succ_cons, List.drop_zero, List.isPrefixOf, Bool.and_eq_true, decide_eq_true_eq] at h ⊢
    refine ⟨h.1, fun h0 => h.2 ?_⟩
    rw [cnt_take, h0]; omega
theorem number_take (l : List UInt8) (m : Nat) (h0 : (number l).1 ≠ 0) (hm : (number l).1 ≤ m) : number (l.take m) = number l := by
  by_cases h : isHexed l = true
  · have hn : number l = up 2 (digs 16 63 (l.drop 2)) := by unfold number; rw [if_pos h]
    rw [hn] at h0 hm ⊢
    have hu := up_fst 2 _ h0
    rw [hu.2] at hm
    simp only at hm
    have h2 : isHexed (l.take m) = true := by
      match l, m, h, hm with
      | [], m, h, _ => simp [isHexed] at h
      | [a], m, h, _ => simp [isHexed] at h
      | a :: b :: l, 0, h, hm => omega
      | a :: b :: l, 1, h, hm => omega
      | a :: b :: l, m + 2, h, hm =>
        simp only [isHexed, List.take_succ_cons, List.drop_succ_cons, List.drop_zero, List.isPrefixOf, Bool.and_eq_true, decide_eq_true_eq] at h ⊢
        refine ⟨h.1, ?_⟩
        have := hu.1
        simp only [List.drop_succ_cons, List.drop_zero] at this hm
        rw [cnt_take]; omega
    unfold number
    rw [if_pos h2, drop_take', digs_take 16 63 _ _ hu.1 (by omega)]
  · have hn : number l = digs 10 63 l := by unfold number; rw [if_neg h]
    rw [hn] at h0 hm ⊢
    have h2 : ¬ isHexed (l.take m) = true := fun h' => h (isHexed_take l m h')
    unfold number
    rw [if_neg h2, digs_take 10 63 _ _ h0 hm]
theorem number_le (l : List UInt8) : (number l).1 ≤ l.length := by
  unfold number
  split
  · rename_i h
    unfold up
    split
    · simp
    · have := digs_le 16 63 (l.drop 2)
      have hl : 2 ≤ l.length := by
        match l, h with
        | [], h => simp [isHexed] at h
        | [a], h => simp [isHexed] at h
        | a :: b :: l, _ => simp
      rw [List.length_drop] at this
      simp only; omega
  · exact digs_le _ _ _
theorem number_val (l : List UInt8) : (number l).2 < 2 ^ 63 := by
  unfold number
  split
  · unfold up
    split
    · exact Nat.two_pow_pos 63
    · exact digs_val _ _ _
  · exact digs_val _ _ _

theorem escape_take (l : List UInt8) (m : Nat) (h0 : (escape l).1 ≠ 0) (hm : (escape l).1 ≤ m) : escape (l.take m) = escape l := by
  match l, m with
  | [], m => simp
  | b :: l, 0 => omega
  | b :: l, m + 1 =>
    rw [List.take_succ_cons]
    rw [escape_cons] at h0 hm; rw [escape_cons, escape_cons]
    by_cases h1 : b.toNat = 110
    · rw [if_pos h1, if_pos h1]
    · rw [if_neg h1] at h0 hm; rw [if_neg h1, if_neg h1]
      by_cases h2 : b.toNat = 116
      · rw [if_pos h2, if_pos h2]
      · rw [if_neg h2] at h0 hm; rw [if_neg h2, if_neg h2]
        by_cases h3 : b.toNat = 92 ∨ b.toNat = 39 ∨ b.toNat = 34
        · rw [if_pos h3, if_pos h3]
        · rw [if_neg h3] at h0 hm; rw [if_neg h3, if_neg h3]
          by_cases h4 : b.toNat = 120
          · rw [if_pos h4] at h0 hm; rw [if_pos h4, if_pos h4]
            have hu := up_fst 1 _ h0
            rw [hu.2] at hm
            simp only at hm
            rw [digs_take 16 8 l m hu.1 (by omega)]
          · rw [if_neg h4] at h0 hm; rw [if_neg h4, if_neg h4]
            rw [← List.take_succ_cons, digs_take 10 8 _ _ h0 hm]
theorem escape_le (l : List UInt8) : (escape l).1 ≤ l.length := by
  match l with
  | [] => simp [escape]
  | b :: l =>
    rw [escape_cons]
    split
    · simp
    · split
      · simp
      · split
        · simp
        · split
          · have := digs_le 16 8 l
            unfold up; split <;> simp <;> omega
          · exact digs_le 10 8 _
theorem escape_val (l : List UInt8) : (escape l).2 < 256 := by
  match l with
  | [] => simp [escape]
  | b :: l =>
    have hb := b.toNat_lt
    rw [escape_cons]
    split
    · simp
    · split
      · simp
      · split
        · simp; omega
        · split
          · have := digs_val 16 8 l
            unfold up; split <;> simp at * <;> omega
          · have := digs_val 10 8 (b :: l); simpa using this
theorem character_take (q : UInt8) (l : List UInt8) (m : Nat) (h0 : (character q l).1 ≠ 0) (hm : (character q l).1 ≤ m) : character q (l.take m) = character q l := by
  match l, m with
  | [], m => simp
  | b :: l, 0 => omega
  | b :: l, m + 1 =>
    rw [List.take_succ_cons]
    rw [character_cons] at h0 hm; rw [character_cons, character_cons]
    by_cases h1 : b = q ∨ plainB b = false
    · rw [if_pos h1, if_pos h1]
    · rw [if_neg h1] at h0 hm; rw [if_neg h1, if_neg h1]
      by_cases h2 : b.toNat = 92
      · rw [if_pos h2] at h0 hm; rw [if_pos h2, if_pos h2]
        have hu := up_fst 1 _ h0
        rw [hu.2] at hm
        simp only at hm
        rw [escape_take l m hu.1 (by omega)]
      · rw [if_neg h2, if_neg h2]
theorem character_le (q : UInt8) (l : List UInt8) : (character q l).1 ≤ l.length := by
  match l with
  | [] => simp [character]
  | b :: l =>
    rw [character_cons]
    split
    · simp
    · split
      · have := escape_le l
        unfold up; split <;> simp <;> omega
      · simp
theorem character_val (q : UInt8) (l : List UInt8) : (character q l).2 < 256 := by
  match l with
  | [] => simp [character]
  | b :: l =>
    have hb := b.toNat_lt
    rw [character_cons]
    split
    · simp
    · split
      · have := escape_val l
        unfold up; split <;> simp <;> omega
      · simp; omega
theorem pref_take (u l : List UInt8) (m : Nat) (h : u.isPrefixOf (l.take m) = true) : u.isPrefixOf l = true := by
  rw [List.isPrefixOf_iff_prefix] at h ⊢
  exact h.trans (List.take_prefix m l)
theorem pref_take_iff (u l : List UInt8) (m : Nat) (hm : u.length ≤ m) : u.isPrefixOf (l.take m) = u.isPrefixOf l := by
  rw [Bool.eq_iff_iff, List.isPrefixOf_iff_prefix, List.isPrefixOf_iff_prefix]
  constructor
  · exact fun h => h.trans (List.take_prefix m l)
  · rintro ⟨t, rfl⟩
    rw [List.take_append, List.take_of_length_le hm]
    exact List.prefix_append _ _
theorem noChar_le (l : List UInt8) : noChar l ≤ l.length := by
  match l with
  | [] => simp [noChar]
  | b :: l =>
    rw [noChar_cons]
    split
    · split
      · rename_i h
        match l, h with
        | [], h => simp at h
        | c :: l, _ => simp
      · split
        · simp
        · rename_i h
          have : [92].isPrefixOf (l.drop (cnt blankB l)) = true := by
            cases hh : [92].isPrefixOf (l.drop (cnt blankB l))
            · exact absurd (Or.inr hh) h
            · rfl
          have h1 : (l.drop (cnt blankB l)) ≠ [] := by intro h2; rw [h2] at this; simp at this
          have h3 : cnt blankB l < l.length := by
            apply Nat.lt_of_not_le
            intro h4
            exact h1 (List.drop_eq_nil_of_le h4)
          simp; omega
    · simp
theorem noChar_take (l : List UInt8) (m : Nat) (hm : noChar l ≤ m) (h0 : noChar l ≠ 0) : noChar (l.take m) = noChar l := by
  match l, m with
  | [], m => simp
  | b :: l, 0 => omega
  | b :: l, m + 1 =>
    rw [List.take_succ_cons]
    rw [noChar_cons] at h0 hm; rw [noChar_cons, noChar_cons]
    by_cases hb : b.toNat = 92
    · rw [if_pos hb] at h0 hm; rw [if_pos hb, if_pos hb]
      by_cases h1 : [38].isPrefixOf l = true
      · rw [if_pos h1] at hm ⊢
        rw [if_pos (by rw [pref_take_iff _ _ _ (by simp; omega)]; exact h1)]
      · rw [if_neg h1] at h0 hm ⊢
        rw [if_neg (fun h => h1 (pref_take _ _ _ h))]
        by_cases h2 : cnt blankB l = 0 ∨ [92].isPrefixOf (l.drop (cnt blankB l)) = false
        · rw [if_pos h2] at h0; simp at h0
        · rw [if_neg h2] at hm ⊢
          have hc : cnt blankB (l.take m) = cnt blankB l := by rw [cnt_take]; omega
          rw [hc, drop_take', pref_take_iff _ _ _ (by simp; omega), if_neg h2]
    · rw [if_neg hb, if_neg hb]
theorem noChar_of_take (l : List UInt8) (m : Nat) (h0 : noChar (l.take m) ≠ 0) : noChar l = noChar (l.take m) := by
  match l, m with
  | [], m => simp
  | b :: l, 0 => simp [noChar] at h0
  | b :: l, m + 1 =>
    rw [List.take_succ_cons] at h0 ⊢
    rw [noChar_cons] at h0; rw [noChar_cons, noChar_cons]
    by_cases hb : b.toNat = 92
    · rw [if_pos hb] at h0; rw [if_pos hb, if_pos hb]
      by_cases h1 : [38].isPrefixOf (l.take m) = true
      · rw [if_pos h1, if_pos (pref_take _ _ _ h1)]
      · rw [if_neg h1] at h0 ⊢
        by_cases h2 : cnt blankB (l.take m) = 0 ∨ [92].isPrefixOf ((l.take m).drop (cnt blankB (l.take m))) = false
        · rw [if_pos h2] at h0; simp at h0
        · rw [if_neg h2]
          have h3 : cnt blankB (l.take m) ≠ 0 := fun h => h2 (Or.inl h)
          have h4 : [92].isPrefixOf ((l.take m).drop (cnt blankB (l.take m))) = true := by
            cases hh : [92].isPrefixOf ((l.take m).drop (cnt blankB (l.take m)))
            · exact absurd (Or.inr hh) h2
            · rfl
          have h5 : ¬ [38].isPrefixOf l = true := by
            match m, l with
            | 0, l => simp [cnt] at h3
            | m + 1, [] => simp [cnt] at h3
            | m + 1, c :: l =>
              simp only [List.take_succ_cons] at h1
              simpa [List.isPrefixOf] using h1
          have h6 : cnt blankB (l.take m) < m := by
            apply Nat.lt_of_not_le
            intro h
            rw [List.drop_eq_nil_of_le (by rw [List.length_take]; omega)] at h4
            simp at h4
          have hc : cnt blankB (l.take m) = cnt blankB l := by rw [cnt_take] at h6 ⊢; omega
          rw [hc] at h4 h3 ⊢
          rw [drop_take'] at h4
          rw [if_neg h5, if_neg]
          rintro (h | h)
          · exact h3 h
          · rw [pref_take _ _ _ h4] at h; simp at h
    · rw [if_neg hb, if_neg hb]

theorem chs_le : ∀ (f : Nat) (l : List UInt8) (r : Nat × List UInt8), chs f l = some r → r.1 ≤ l.length ∧ 0 < r.1
  | 0, l, r, h => by simp [chs] at h
  | f + 1, l, r, h => by
    unfold chs at h
    split at h
    · rename_i h1
      cases h
      match l, h1 with
      | [], h1 => simp at h1
      | c :: l, _ => simp
    · split at h
      · rename_i h2
        cases hc : chs f (l.drop (noChar l)) with
        | none => rw [hc] at h; simp at h
        | some r' =>
          rw [hc] at h
          simp only [Option.map_some, Option.some.injEq] at h
          subst h
          have := chs_le f _ _ hc
          have := noChar_le l
          rw [List.length_drop] at *
          simp only; omega
      · split at h
        · simp at h
        · rename_i h3
          cases hc : chs f (l.drop (character 34 l).1) with
          | none => rw [hc] at h; simp at h
          | some r' =>
            rw [hc] at h
            simp only [Option.map_some, Option.some.injEq] at h
            subst h
            have := chs_le f _ _ hc
            have := character_le 34 l
            rw [List.length_drop] at *
            simp only; omega
theorem chs_take : ∀ (f : Nat) (l : List UInt8) (r : Nat × List UInt8) (m : Nat), chs f l = some r → r.1 ≤ m → chs f (l.take m) = some r
  | 0, l, r, m, h, _ => by simp [chs] at h
  | f + 1, l, r, m, h, hm => by
    have hpos := (chs_le _ _ _ h).2
    unfold chs at h ⊢
    split at h
    · rename_i h1
      rw [if_pos (by rw [pref_take_iff _ _ _ (by simp; omega)]; exact h1)]; exact h
    · rename_i h1
      rw [if_neg (fun h' => h1 (pref_take _ _ _ h'))]
      split at h
      · rename_i h2
        cases hc : chs f (l.drop (noChar l)) with
        | none => rw [hc] at h; simp at h
        | some r' =>
          rw [hc] at h
          simp only [Option.map_some, Option.some.injEq] at h
          subst h
          simp only at hm
          have hn : noChar (l.take m) = noChar l := noChar_take l m (by omega) (by omega)
          rw [hn, if_pos h2, drop_take', chs_take f _ r' (m - noChar l) hc (by omega)]
          rfl
      · rename_i h2
        split at h
        · simp at h
        · rename_i h3
          cases hc : chs f (l.drop (character 34 l).1) with
          | none => rw [hc] at h; simp at h
          | some r' =>
            rw [hc] at h
            simp only [Option.map_some, Option.some.injEq] at h
            subst h
            simp only at hm
            have hn : ¬ 0 < noChar (l.take m) := fun h' => h2 (by rw [noChar_of_take l m (by omega)]; exact h')
            have hch := character_take 34 l m h3 (by omega)
            rw [if_neg hn, hch, if_neg h3, drop_take', chs_take f _ r' _ hc (by omega)]
            rfl
theorem chs_fuel : ∀ (f f' : Nat) (l : List UInt8), l.length < f → l.length < f' → chs f l = chs f' l
  | 0, _, l, h, _ => by omega
  | _, 0, l, _, h => by omega
  | f + 1, f' + 1, l, h, h' => by
    unfold chs
    split
    · rfl
    · rename_i h1
      split
      · rename_i h2
        have hd : (l.drop (noChar l)).length < f ∧ (l.drop (noChar l)).length < f' := by
          have := noChar_le l
          rw [List.length_drop]; omega
        rw [chs_fuel f f' _ hd.1 hd.2]
      · split
        · rfl
        · rename_i h3
          have hd : (l.drop (character 34 l).1).length < f ∧ (l.drop (character 34 l).1).length < f' := by
            have := character_le 34 l
            rw [List.length_drop]; omega
          rw [chs_fuel f f' _ hd.1 hd.2]

end Go.Proofs.YtndpebkiiemfpaaGreatDoor.M
