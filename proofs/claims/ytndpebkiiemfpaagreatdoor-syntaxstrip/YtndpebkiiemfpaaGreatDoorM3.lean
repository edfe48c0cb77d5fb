/-
  Plain mathematics of lexemes: by the first byte; and what a first part of a text has.
-/
import Derived.Test.YtndpebkiiemfpaaGreatDoorM2
namespace Go.Proofs.YtndpebkiiemfpaaGreatDoor.M

theorem all256 (p : UInt8 → Bool) (h : (List.range 256).all (fun n => p (UInt8.ofNat n)) = true) (b : UInt8) : p b = true := by
  rw [List.all_eq_true] at h
  have := h b.toNat (List.mem_range.2 b.toNat_lt)
  simpa using this

def cls (b : UInt8) : Nat :=
  if begName b then 0 else if capB b then 1 else if begOp b then 2 else if colonB b then 3 else if digB b then 4 else if b.toNat = 39 then 5 else if b.toNat = 34 then 6 else if markL.contains b then 7 else 8
theorem cls_facts (b : UInt8) : begName b = (cls b == 0) ∧ capB b = (cls b == 1) ∧ begOp b = (cls b == 2) ∧ colonB b = (cls b == 3) ∧ digB b = (cls b == 4) ∧ decide (b.toNat = 39) = (cls b == 5) ∧ decide (b.toNat = 34) = (cls b == 6) ∧ markL.contains b = (cls b == 7) ∧ cls b ≤ 8 := by
  have := all256 (fun b => decide (begName b = (cls b == 0) ∧ capB b = (cls b == 1) ∧ begOp b = (cls b == 2) ∧ colonB b = (cls b == 3) ∧ digB b = (cls b == 4) ∧ decide (b.toNat = 39) = (cls b == 5) ∧ decide (b.toNat = 34) = (cls b == 6) ∧ markL.contains b = (cls b == 7) ∧ cls b ≤ 8)) (by decide +kernel) b
  simpa using this
theorem pcls_facts (b : UInt8) : (blankB b = true → dashB b = false ∧ ¬ b.toNat = 123 ∧ cls b = 8) ∧ (dashB b = true → ¬ b.toNat = 123 ∧ cls b = 2) ∧ (b.toNat = 123 → cls b = 7) ∧ sym b = (cls b == 2 || cls b == 3) ∧ (inName b = true → sym b = false) ∧ (digB b = true → inName b = true) ∧ (hexB b = true → inName b = true) := by
  have := all256 (fun b => decide ((blankB b = true → dashB b = false ∧ ¬ b.toNat = 123 ∧ cls b = 8) ∧ (dashB b = true → ¬ b.toNat = 123 ∧ cls b = 2) ∧ (b.toNat = 123 → cls b = 7) ∧ sym b = (cls b == 2 || cls b == 3) ∧ (inName b = true → sym b = false) ∧ (digB b = true → inName b = true) ∧ (hexB b = true → inName b = true))) (by decide +kernel) b
  exact of_decide_eq_true this

theorem headed_cons (p q : UInt8 → Bool) (b : UInt8) (l : List UInt8) : headed p q (b :: l) = if p b = true then cnt q l + 1 else 0 := rfl
theorem pref1 (c b : UInt8) (l : List UInt8) : [c].isPrefixOf (b :: l) = (c == b) := by simp [List.isPrefixOf]
theorem pref2 (c d b e : UInt8) (l : List UInt8) : [c, d].isPrefixOf (b :: e :: l) = (c == b && d == e) := by simp [List.isPrefixOf]
theorem dig10 : dig 10 = digB := rfl
theorem dig16 : dig 16 = hexB := rfl
theorem number_zero (b : UInt8) (l : List UInt8) (h : digB b = false) : (number (b :: l)).1 = 0 := by
  have h1 : isHexed (b :: l) = false := by
    unfold isHexed
    have : [48, 120].isPrefixOf (b :: l) = false := by
      simp only [List.isPrefixOf]
      rw [Bool.and_eq_false_iff]; left
      rw [beq_eq_false_iff_ne]
      rintro rfl
      revert h; decide
    rw [this]; rfl
  unfold number
  rw [if_neg (by rw [h1]; simp)]
  unfold digs
  rw [if_pos (Or.inl (by rw [dig10]; simp [cnt, h]))]
theorem ne_byte {b : UInt8} {n : Nat} (h : ¬ b.toNat = n) (c : UInt8) (hc : c.toNat = n) : (c == b) = false := by
  rw [beq_eq_false_iff_ne]; rintro rfl; exact h hc
theorem takeChar_zero (b : UInt8) (l : List UInt8) (h : ¬ b.toNat = 39) : takeChar (b :: l) = 0 := by
  unfold takeChar; rw [if_neg (by rw [pref1, ne_byte h 39 rfl]; simp)]
theorem chars_zero (b : UInt8) (l : List UInt8) (h : ¬ b.toNat = 34) : chars (b :: l) = (0, []) := by
  unfold chars; rw [if_neg (by rw [pref1, ne_byte h 34 rfl]; simp)]
theorem takeMark_cons (b : UInt8) (l : List UInt8) : takeMark (b :: l) = if [123, 45].isPrefixOf (b :: l) then 0 else if markL.contains b then 1 else 0 := rfl
theorem takeMark_zero (b : UInt8) (l : List UInt8) (h : markL.contains b = false) : takeMark (b :: l) = 0 := by
  rw [takeMark_cons, h]; split <;> simp

def nz (k n : Nat) : Nat × Nat := if n = 0 then (0, 0) else (k, n)
theorem nz_snd (k n : Nat) : (nz k n).2 = n := by unfold nz; split <;> simp_all
def byCls (c : Nat) (l : List UInt8) : Nat × Nat :=
  if c = 0 then nz 0 (headed begName inName l) else if c = 1 then nz 1 (headed capB inName l) else if c = 2 then nz 2 (headed begOp sym l) else if c = 3 then nz 3 (headed colonB sym l)
  else if c = 4 then nz 4 (number l).1 else if c = 5 then nz 5 (takeChar l) else if c = 6 then nz 6 (chars l).1 else if c = 7 then nz 7 (takeMark l) else (0, 0)
theorem lg_none : ∀ (i w m : Nat) (l : List Nat), (∀ n ∈ l, n = 0) → lg i w m l = (w, m)
  | i, w, m, [], _ => rfl
  | i, w, m, n :: l, h => by
    have hn : n = 0 := h n (by simp)
    show (if m < n then _ else _) = _
    rw [if_neg (by omega), lg_none (i + 1) w m l (fun x hx => h x (by simp [hx]))]
theorem lg_zero (i w : Nat) (n : Nat) (l : List Nat) (h : n = 0) : lg i w 0 (n :: l) = lg (i + 1) w 0 l := by subst h; rfl
theorem lg_pos (i : Nat) (n : Nat) (l : List Nat) (h : ∀ x ∈ l, x = 0) : lg i 0 0 (n :: l) = nz i n := by
  by_cases hn : n = 0
  · subst hn
    rw [lg_zero _ _ _ _ rfl, lg_none _ _ _ _ h]; rfl
  · show (if 0 < n then _ else _) = _
    rw [if_pos (by omega), lg_none _ _ _ _ h]
    unfold nz; rw [if_neg hn]
theorem lex1_nil : lex1 [] = (0, 0) := by decide
theorem lex1_cons (b : UInt8) (l : List UInt8) : lex1 (b :: l) = byCls (cls b) (b :: l) := by
  obtain ⟨h0, h1, h2, h3, h4, h5, h6, h7, h8⟩ := cls_facts b
  have z0 : cls b ≠ 0 → headed begName inName (b :: l) = 0 := fun h => by rw [headed_cons, h0, if_neg (by simpa using h)]
  have z1 : cls b ≠ 1 → headed capB inName (b :: l) = 0 := fun h => by rw [headed_cons, h1, if_neg (by simpa using h)]
  have z2 : cls b ≠ 2 → headed begOp sym (b :: l) = 0 := fun h => by rw [headed_cons, h2, if_neg (by simpa using h)]
  have z3 : cls b ≠ 3 → headed colonB sym (b :: l) = 0 := fun h => by rw [headed_cons, h3, if_neg (by simpa using h)]
  have z4 : cls b ≠ 4 → (number (b :: l)).1 = 0 := fun h => number_zero b l (by rw [h4]; simpa using h)
  have z5 : cls b ≠ 5 → takeChar (b :: l) = 0 := fun h => takeChar_zero b l (fun e => by simp [e] at h5; exact h h5)
  have z6 : cls b ≠ 6 → (chars (b :: l)).1 = 0 := fun h => by rw [chars_zero b l (fun e => by simp [e] at h6; exact h h6)]
  have z7 : cls b ≠ 7 → takeMark (b :: l) = 0 := fun h => takeMark_zero b l (by rw [h7]; simpa using h)
  unfold lex1 takers byCls
  have hc : cls b = 0 ∨ cls b = 1 ∨ cls b = 2 ∨ cls b = 3 ∨ cls b = 4 ∨ cls b = 5 ∨ cls b = 6 ∨ cls b = 7 ∨ cls b = 8 := by omega
  rcases hc with h | h | h | h | h | h | h | h | h
  · rw [if_pos h, lg_pos]; intro x hx; simp [z1 (by omega), z2 (by omega), z3 (by omega), z4 (by omega), z5 (by omega), z6 (by omega), z7 (by omega)] at hx; exact hx
  · rw [if_neg (by omega), if_pos h, lg_zero _ _ _ _ (z0 (by omega)), lg_pos]; intro x hx; simp [z2 (by omega), z3 (by omega), z4 (by omega), z5 (by omega), z6 (by omega), z7 (by omega)] at hx; exact hx
  · rw [if_neg (by omega), if_neg (by omega), if_pos h, lg_zero _ _ _ _ (z0 (by omega)), lg_zero _ _ _ _ (z1 (by omega)), lg_pos]; intro x hx; simp [z3 (by omega), z4 (by omega), z5 (by omega), z6 (by omega), z7 (by omega)] at hx; exact hx
  · rw [if_neg (by omega), if_neg (by omega), if_neg (by omega), if_pos h, lg_zero _ _ _ _ (z0 (by omega)), lg_zero _ _ _ _ (z1 (by omega)), lg_zero _ _ _ _ (z2 (by omega)), lg_pos]; intro x hx; simp [z4 (by omega), z5 (by omega), z6 (by omega), z7 (by omega)] at hx; exact hx
  · rw [if_neg (by omega), if_neg (by omega), if_neg (by omega), if_neg (by omega), if_pos h, lg_zero _ _ _ _ (z0 (by omega)), lg_zero _ _ _ _ (z1 (by omega)), lg_zero _ _ _ _ (z2 (by omega)), lg_zero _ _ _ _ (z3 (by omega)), lg_pos]; intro x hx; simp [z5 (by omega), z6 (by omega), z7 (by omega)] at hx; exact hx
  · rw [if_neg (by omega), if_neg (by omega), if_neg (by omega), if_neg (by omega), if_neg (by omega), if_pos h, lg_zero _ _ _ _ (z0 (by omega)), lg_zero _ _ _ _ (z1 (by omega)), lg_zero _ _ _ _ (z2 (by omega)), lg_zero _ _ _ _ (z3 (by omega)), lg_zero _ _ _ _ (z4 (by omega)), lg_pos]; intro x hx; simp [z6 (by omega), z7 (by omega)] at hx; exact hx
  · rw [if_neg (by omega), if_neg (by omega), if_neg (by omega), if_neg (by omega), if_neg (by omega), if_neg (by omega), if_pos h, lg_zero _ _ _ _ (z0 (by omega)), lg_zero _ _ _ _ (z1 (by omega)), lg_zero _ _ _ _ (z2 (by omega)), lg_zero _ _ _ _ (z3 (by omega)), lg_zero _ _ _ _ (z4 (by omega)), lg_zero _ _ _ _ (z5 (by omega)), lg_pos]; intro x hx; simp [z7 (by omega)] at hx; exact hx
  · rw [if_neg (by omega), if_neg (by omega), if_neg (by omega), if_neg (by omega), if_neg (by omega), if_neg (by omega), if_neg (by omega), if_pos h, lg_zero _ _ _ _ (z0 (by omega)), lg_zero _ _ _ _ (z1 (by omega)), lg_zero _ _ _ _ (z2 (by omega)), lg_zero _ _ _ _ (z3 (by omega)), lg_zero _ _ _ _ (z4 (by omega)), lg_zero _ _ _ _ (z5 (by omega)), lg_zero _ _ _ _ (z6 (by omega)), lg_pos]; intro x hx; simp at hx
  · rw [if_neg (by omega), if_neg (by omega), if_neg (by omega), if_neg (by omega), if_neg (by omega), if_neg (by omega), if_neg (by omega), if_neg (by omega), lg_none]; intro x hx; simp [z0 (by omega), z1 (by omega), z2 (by omega), z3 (by omega), z4 (by omega), z5 (by omega), z6 (by omega), z7 (by omega)] at hx; exact hx

theorem headed_take (p q : UInt8 → Bool) (l : List UInt8) (m : Nat) (h0 : headed p q l ≠ 0) (hm : headed p q l ≤ m) : headed p q (l.take m) = headed p q l := by
  match l, m with
  | [], m => simp
  | b :: l, 0 => omega
  | b :: l, m + 1 =>
    rw [List.take_succ_cons]
    rw [headed_cons] at h0 hm; rw [headed_cons, headed_cons]
    by_cases hp : p b = true
    · rw [if_pos hp] at hm; rw [if_pos hp, if_pos hp, cnt_take]; omega
    · rw [if_neg hp, if_neg hp]
theorem headed_le (p q : UInt8 → Bool) (l : List UInt8) : headed p q l ≤ l.length := by
  match l with
  | [] => simp [headed]
  | b :: l =>
    rw [headed_cons]
    have := cnt_le q l
    split <;> simp <;> omega
theorem takeChar_take (l : List UInt8) (m : Nat) (h0 : takeChar l ≠ 0) (hm : takeChar l ≤ m) : takeChar (l.take m) = takeChar l := by
  unfold takeChar at h0 hm ⊢
  by_cases h1 : [39].isPrefixOf l = true
  · rw [if_pos h1] at h0 hm ⊢
    by_cases h2 : (character 39 (l.drop 1)).1 = 0 ∨ [39].isPrefixOf (l.drop (1 + (character 39 (l.drop 1)).1)) = false
    · rw [if_pos h2] at h0; simp at h0
    · rw [if_neg h2] at hm
      have h3 : (character 39 (l.drop 1)).1 ≠ 0 := fun h => h2 (Or.inl h)
      have hc : character 39 ((l.take m).drop 1) = character 39 (l.drop 1) := by rw [drop_take', character_take _ _ _ h3 (by omega)]
      rw [pref_take_iff _ _ _ (by show 1 ≤ _; omega), if_pos h1, hc, if_neg h2, drop_take', pref_take_iff _ _ _ (by show 1 ≤ _; omega), if_neg h2]
  · rw [if_neg h1] at h0; simp at h0
theorem takeChar_le (l : List UInt8) : takeChar l ≤ l.length := by
  unfold takeChar
  split
  · split
    · simp
    · rename_i h1 h
      have h4 : [39].isPrefixOf (l.drop (1 + (character 39 (l.drop 1)).1)) = true := by
        cases hh : [39].isPrefixOf (l.drop (1 + (character 39 (l.drop 1)).1))
        · exact absurd (Or.inr hh) h
        · rfl
      have h3 : 1 + (character 39 (l.drop 1)).1 < l.length := by
        apply Nat.lt_of_not_le
        intro h5
        rw [List.drop_eq_nil_of_le h5] at h4; simp at h4
      omega
  · simp
theorem chars_some (l : List UInt8) (h0 : (chars l).1 ≠ 0) : [34].isPrefixOf l = true ∧ ∃ r, chs (l.length + 1) (l.drop 1) = some r ∧ chars l = (r.1 + 1, r.2) := by
  unfold chars at h0 ⊢
  by_cases h1 : [34].isPrefixOf l = true
  · rw [if_pos h1] at h0 ⊢
    refine ⟨h1, ?_⟩
    cases h : chs (l.length + 1) (l.drop 1) with
    | none => rw [h] at h0; simp at h0
    | some r => exact ⟨r, rfl, rfl⟩
  · rw [if_neg h1] at h0; simp at h0
theorem chars_take (l : List UInt8) (m : Nat) (h0 : (chars l).1 ≠ 0) (hm : (chars l).1 ≤ m) : chars (l.take m) = chars l := by
  obtain ⟨h1, r, hr, he⟩ := chars_some l h0
  rw [he] at hm ⊢
  simp only at hm
  unfold chars
  rw [if_pos (by rw [pref_take_iff _ _ _ (by simp; omega)]; exact h1), drop_take']
  have h2 := chs_take _ _ _ (m - 1) hr (by omega)
  have hpos : 1 ≤ l.length := by
    match l, h1 with
    | [], h1 => simp at h1
    | b :: l, _ => simp
  have hmp := (chs_le _ _ _ hr).2
  rw [chs_fuel _ (l.length + 1) _ (by rw [List.length_take, List.length_take, List.length_drop]; omega) (by rw [List.length_take, List.length_drop]; omega), h2]
theorem chars_le (l : List UInt8) : (chars l).1 ≤ l.length := by
  by_cases h0 : (chars l).1 = 0
  · omega
  · obtain ⟨h1, r, hr, he⟩ := chars_some l h0
    have h2 := (chs_le _ _ _ hr).1
    have h3 := (chs_le _ _ _ hr).2
    rw [List.length_drop] at h2
    rw [he]; simp only; omega
theorem takeMark_take (l : List UInt8) (m : Nat) (h0 : takeMark l ≠ 0) (hm : takeMark l ≤ m) : takeMark (l.take m) = takeMark l := by
  match l, m with
  | [], m => simp
  | b :: l, 0 => omega
  | b :: l, m + 1 =>
    rw [takeMark_cons] at h0 ⊢
    by_cases h1 : [123, 45].isPrefixOf (b :: l) = true
    · rw [if_pos h1] at h0; simp at h0
    · rw [if_neg h1, List.take_succ_cons, takeMark_cons, if_neg (fun h => h1 (pref_take _ _ (m + 1) (by rw [List.take_succ_cons]; exact h)))]
theorem takeMark_le (l : List UInt8) : takeMark l ≤ l.length := by
  match l with
  | [] => simp [takeMark]
  | b :: l => rw [takeMark_cons]; split <;> (try split) <;> simp
theorem byCls_snd (c : Nat) (l : List UInt8) : (byCls c l).2 ≤ l.length := by
  have := headed_le begName inName l
  have := headed_le capB inName l
  have := headed_le begOp sym l
  have := headed_le colonB sym l
  have := number_le l
  have := takeChar_le l
  have := chars_le l
  have := takeMark_le l
  unfold byCls
  repeat' split
  all_goals first | (rw [nz_snd]; assumption) | simp
theorem lex1_le (l : List UInt8) : (lex1 l).2 ≤ l.length := by
  match l with
  | [] => rw [lex1_nil]; simp
  | b :: l => rw [lex1_cons]; exact byCls_snd _ _
theorem byCls_take (c : Nat) (l : List UInt8) (m : Nat) (h0 : (byCls c l).2 ≠ 0) (hm : (byCls c l).2 ≤ m) : byCls c (l.take m) = byCls c l := by
  unfold byCls at h0 hm ⊢
  by_cases c0 : c = 0
  · rw [if_pos c0, nz_snd] at h0 hm; rw [if_pos c0, if_pos c0, headed_take _ _ _ _ h0 hm]
  · rw [if_neg c0] at h0 hm; rw [if_neg c0, if_neg c0]
    by_cases c1 : c = 1
    · rw [if_pos c1, nz_snd] at h0 hm; rw [if_pos c1, if_pos c1, headed_take _ _ _ _ h0 hm]
    · rw [if_neg c1] at h0 hm; rw [if_neg c1, if_neg c1]
      by_cases c2 : c = 2
      · rw [if_pos c2, nz_snd] at h0 hm; rw [if_pos c2, if_pos c2, headed_take _ _ _ _ h0 hm]
      · rw [if_neg c2] at h0 hm; rw [if_neg c2, if_neg c2]
        by_cases c3 : c = 3
        · rw [if_pos c3, nz_snd] at h0 hm; rw [if_pos c3, if_pos c3, headed_take _ _ _ _ h0 hm]
        · rw [if_neg c3] at h0 hm; rw [if_neg c3, if_neg c3]
          by_cases c4 : c = 4
          · rw [if_pos c4, nz_snd] at h0 hm; rw [if_pos c4, if_pos c4, number_take _ _ h0 hm]
          · rw [if_neg c4] at h0 hm; rw [if_neg c4, if_neg c4]
            by_cases c5 : c = 5
            · rw [if_pos c5, nz_snd] at h0 hm; rw [if_pos c5, if_pos c5, takeChar_take _ _ h0 hm]
            · rw [if_neg c5] at h0 hm; rw [if_neg c5, if_neg c5]
              by_cases c6 : c = 6
              · rw [if_pos c6, nz_snd] at h0 hm; rw [if_pos c6, if_pos c6, chars_take _ _ h0 hm]
              · rw [if_neg c6] at h0 hm; rw [if_neg c6, if_neg c6]
                by_cases c7 : c = 7
                · rw [if_pos c7, nz_snd] at h0 hm; rw [if_pos c7, if_pos c7, takeMark_take _ _ h0 hm]
                · rw [if_neg c7, if_neg c7]
theorem lex1_take (l : List UInt8) (m : Nat) (h0 : (lex1 l).2 ≠ 0) (hm : (lex1 l).2 ≤ m) : lex1 (l.take m) = lex1 l := by
  match l, m with
  | [], m => simp
  | b :: l, 0 => omega
  | b :: l, m + 1 =>
    rw [lex1_cons] at h0 hm
    rw [List.take_succ_cons, lex1_cons, lex1_cons, ← List.take_succ_cons, byCls_take _ _ _ h0 hm]

/-! What is passed over. -/
theorem passDashes_zero (b : UInt8) (l : List UInt8) (h : dashB b = false) : passDashes (b :: l) = 0 := by
  unfold passDashes
  rw [if_pos]
  by_cases hc : cnt sym (b :: l) < 2
  · exact Or.inl hc
  · right
    obtain ⟨k, hk⟩ : ∃ k, cnt sym (b :: l) = k + 1 := ⟨cnt sym (b :: l) - 1, by omega⟩
    rw [hk, List.take_succ_cons, List.all_cons, h]; rfl
theorem passNested_zero (b : UInt8) (l : List UInt8) (h : ¬ b.toNat = 123) : passNested (b :: l) = 0 := by
  unfold passNested
  rw [if_neg]
  simp only [List.isPrefixOf, Bool.and_eq_true]
  rintro ⟨h1, _⟩
  rw [ne_byte h 123 rfl] at h1; simp at h1
theorem pass1_nil : pass1 [] = 0 := by decide
theorem pass1_cons (b : UInt8) (l : List UInt8) : pass1 (b :: l) = if blankB b = true then cnt blankB (b :: l) else if dashB b = true then passDashes (b :: l) else if b.toNat = 123 then passNested (b :: l) else 0 := by
  obtain ⟨h1, h2, h3, _⟩ := pcls_facts b
  unfold pass1 passers
  by_cases hb : blankB b = true
  · rw [if_pos hb, lg_pos, nz_snd]
    intro x hx
    simp [passDashes_zero b l (h1 hb).1, passNested_zero b l (h1 hb).2.1] at hx; exact hx
  · have hz : cnt blankB (b :: l) = 0 := by simp [cnt, hb]
    rw [if_neg hb, lg_zero _ _ _ _ hz]
    by_cases hd : dashB b = true
    · rw [if_pos hd, lg_pos, nz_snd]
      intro x hx
      simp [passNested_zero b l (h2 hd).1] at hx; exact hx
    · rw [if_neg hd, lg_zero _ _ _ _ (passDashes_zero b l (by simpa using hd)), lg_pos _ _ _ (by simp), nz_snd]
      by_cases hn : b.toNat = 123
      · rw [if_pos hn]
      · rw [if_neg hn, passNested_zero b l hn]
theorem nest_le : ∀ (d n : Nat) (l : List UInt8) (r : Nat), nest d n l = some r → n + 2 ≤ r ∧ r ≤ n + l.length
  | d, n, [], r, h => by simp [nest] at h
  | d, n, [b], r, h => by simp [nest] at h
  | d, n, b :: c :: l, r, h => by
    unfold nest at h
    split at h
    · have := nest_le (d + 1) (n + 2) l r h; simp; omega
    · split at h
      · split at h
        · cases h; simp
        · have := nest_le (d - 1) (n + 2) l r h; simp; omega
      · have := nest_le d (n + 1) (c :: l) r h; simp at this ⊢; omega
theorem nest_take : ∀ (d n : Nat) (l : List UInt8) (r m : Nat), nest d n l = some r → r ≤ n + m → nest d n (l.take m) = some r
  | d, n, [], r, m, h, _ => by simp [nest] at h
  | d, n, [b], r, m, h, _ => by simp [nest] at h
  | d, n, b :: c :: l, r, m, h, hm => by
    have h2 := nest_le _ _ _ _ h
    obtain ⟨k, rfl⟩ : ∃ k, m = k + 2 := ⟨m - 2, by omega⟩
    rw [List.take_succ_cons, List.take_succ_cons]
    unfold nest at h ⊢
    split
    · rename_i h1; rw [if_pos h1] at h; exact nest_take (d + 1) (n + 2) l r k h (by omega)
    · rename_i h1; rw [if_neg h1] at h
      split
      · rename_i h3; rw [if_pos h3] at h
        split
        · rename_i h4; rw [if_pos h4] at h; exact h
        · rename_i h4; rw [if_neg h4] at h; exact nest_take (d - 1) (n + 2) l r k h (by omega)
      · rename_i h3; rw [if_neg h3] at h
        have := nest_take d (n + 1) (c :: l) r (k + 1) h (by omega)
        rwa [List.take_succ_cons] at this
def notNL (b : UInt8) : Bool := decide (b.toNat ≠ 10)
theorem passDashes_def (l : List UInt8) : passDashes l = if cnt sym l < 2 ∨ (l.take (cnt sym l)).all dashB = false then 0 else cnt notNL l := rfl
theorem cnt_mono (p q : UInt8 → Bool) (h : ∀ b, p b = true → q b = true) : ∀ l : List UInt8, cnt p l ≤ cnt q l
  | [] => Nat.le_refl _
  | b :: l => by
    have := cnt_mono p q h l
    unfold cnt
    by_cases hp : p b = true
    · rw [if_pos hp, if_pos (h b hp)]; omega
    · rw [if_neg hp]; omega
theorem sym_notNL (b : UInt8) (h : sym b = true) : notNL b = true := by
  have := all256 (fun b => decide (sym b = true → notNL b = true)) (by decide +kernel) b
  exact of_decide_eq_true this h
theorem passDashes_take (l : List UInt8) (m : Nat) (hm : passDashes l ≤ m) (h0 : passDashes l ≠ 0) : passDashes (l.take m) = passDashes l := by
  rw [passDashes_def] at hm h0
  rw [passDashes_def, passDashes_def]
  by_cases hc : cnt sym l < 2 ∨ (l.take (cnt sym l)).all dashB = false
  · rw [if_pos hc] at h0; simp at h0
  · rw [if_neg hc] at hm; rw [if_neg hc]
    have hle := cnt_mono sym notNL sym_notNL l
    have hs : cnt sym (l.take m) = cnt sym l := by rw [cnt_take]; omega
    rw [hs, List.take_take, Nat.min_eq_left (by omega), if_neg hc, cnt_take]; omega
theorem passNested_take (l : List UInt8) (m : Nat) (hm : passNested l ≤ m) (h0 : passNested l ≠ 0) : passNested (l.take m) = passNested l := by
  unfold passNested at hm h0 ⊢
  by_cases h1 : [123, 45].isPrefixOf l = true
  · rw [if_pos h1] at hm h0 ⊢
    cases hn : nest 0 0 l with
    | none => rw [hn] at h0; simp at h0
    | some r =>
      rw [hn] at hm
      simp only [Option.getD_some] at hm
      have h2 := nest_le _ _ _ _ hn
      rw [pref_take_iff _ _ _ (by simp; omega), if_pos h1, nest_take _ _ _ _ m hn (by omega)]
  · rw [if_neg h1] at h0; simp at h0
theorem pass1_le (l : List UInt8) : pass1 l ≤ l.length := by
  match l with
  | [] => rw [pass1_nil]; simp
  | b :: l =>
    rw [pass1_cons]
    repeat' split
    · exact cnt_le _ _
    · rw [passDashes_def]
      split
      · simp
      · exact cnt_le _ _
    · unfold passNested
      split
      · cases hn : nest 0 0 (b :: l) with
        | none => simp
        | some r => have := nest_le _ _ _ _ hn; simp at this ⊢; omega
      · simp
    · simp
theorem pass1_take (l : List UInt8) (m : Nat) (hm : pass1 l ≤ m) (h0 : pass1 l ≠ 0) : pass1 (l.take m) = pass1 l := by
  match l, m with
  | [], m => simp
  | b :: l, 0 => omega
  | b :: l, m + 1 =>
    rw [pass1_cons] at hm h0
    rw [List.take_succ_cons, pass1_cons, pass1_cons, ← List.take_succ_cons]
    by_cases h1 : blankB b = true
    · rw [if_pos h1] at hm; rw [if_pos h1, if_pos h1, cnt_take]; omega
    · rw [if_neg h1] at hm h0; rw [if_neg h1, if_neg h1]
      by_cases h2 : dashB b = true
      · rw [if_pos h2] at hm h0; rw [if_pos h2, if_pos h2, passDashes_take _ _ hm h0]
      · rw [if_neg h2] at hm h0; rw [if_neg h2, if_neg h2]
        by_cases h3 : b.toNat = 123
        · rw [if_pos h3] at hm h0; rw [if_pos h3, if_pos h3, passNested_take _ _ hm h0]
        · rw [if_neg h3, if_neg h3]
/-- Where a lexeme begins, a first part that has all of it is not passed over. -/
theorem pass1_zero_take (l : List UInt8) (m : Nat) (hp : pass1 l = 0) (h0 : (lex1 l).2 ≠ 0) (hm : (lex1 l).2 ≤ m) : pass1 (l.take m) = 0 := by
  match l, m with
  | [], m => rw [List.take_nil]; exact pass1_nil
  | b :: l, 0 => omega
  | b :: l, m + 1 =>
    rw [lex1_cons] at h0 hm
    rw [pass1_cons] at hp
    rw [List.take_succ_cons, pass1_cons, ← List.take_succ_cons]
    obtain ⟨f1, f2, f3, f4, _⟩ := pcls_facts b
    by_cases h1 : blankB b = true
    · rw [if_pos h1] at hp; simp [cnt, h1] at hp
    · rw [if_neg h1] at hp; rw [if_neg h1]
      by_cases h2 : dashB b = true
      · rw [if_pos h2] at hp; rw [if_pos h2]
        have hc := (f2 h2).2
        have hs : sym b = true := by rw [f4, hc]; rfl
        have hb : begOp b = true := by rw [(cls_facts b).2.2.1, hc]; rfl
        have he : (byCls (cls b) (b :: l)).2 = cnt sym (b :: l) := by
          rw [hc]
          show (nz 2 (headed begOp sym (b :: l))).2 = _
          rw [nz_snd, headed_cons, if_pos hb]
          simp [cnt, hs]
        rw [he] at hm
        have hs2 : cnt sym ((b :: l).take (m + 1)) = cnt sym (b :: l) := by rw [cnt_take]; omega
        rw [passDashes_def] at hp
        rw [passDashes_def, hs2, List.take_take, Nat.min_eq_left hm]
        by_cases hx : cnt sym (b :: l) < 2 ∨ ((b :: l).take (cnt sym (b :: l))).all dashB = false
        · rw [if_pos hx]
        · rw [if_neg hx] at hp
          have hn : notNL b = true := sym_notNL b hs
          simp [cnt, hn] at hp
      · rw [if_neg h2] at hp; rw [if_neg h2]
        by_cases h3 : b.toNat = 123
        · rw [if_pos h3]
          have hc := f3 h3
          rw [hc] at h0
          have h4 : takeMark (b :: l) ≠ 0 := by
            have : (byCls 7 (b :: l)).2 = takeMark (b :: l) := nz_snd 7 _
            rw [this] at h0; exact h0
          rw [takeMark_cons] at h4
          unfold passNested
          rw [if_neg]
          intro h5
          rw [if_pos (pref_take _ _ _ h5)] at h4
          exact h4 rfl
        · rw [if_neg h3]
theorem idle_fuel : ∀ (f f' : Nat) (l : List UInt8), l.length < f → l.length < f' → idle f l = idle f' l
  | 0, _, l, h, _ => by omega
  | _, 0, l, _, h => by omega
  | f + 1, f' + 1, l, h, h' => by
    unfold idle
    by_cases h1 : pass1 l = 0
    · rw [if_pos h1, if_pos h1]
    · have := pass1_le l
      rw [if_neg h1, if_neg h1, idle_fuel f f' _ (by rw [List.length_drop]; omega) (by rw [List.length_drop]; omega)]
theorem idleAll_step (l : List UInt8) : idleAll l = if pass1 l = 0 then 0 else pass1 l + idleAll (l.drop (pass1 l)) := by
  unfold idleAll
  rw [idle]
  by_cases h1 : pass1 l = 0
  · rw [if_pos h1, if_pos h1]
  · have := pass1_le l
    rw [if_neg h1, if_neg h1, idle_fuel l.length ((l.drop (pass1 l)).length + 1) _ (by rw [List.length_drop]; omega) (by omega)]
theorem idleAll_zero (l : List UInt8) (h : pass1 l = 0) : idleAll l = 0 := by rw [idleAll_step, if_pos h]
theorem idleAll_le : ∀ (n : Nat) (l : List UInt8), l.length ≤ n → idleAll l ≤ l.length
  | n, l, hn => by
    rw [idleAll_step]
    split
    · simp
    · rename_i h1
      have h2 := pass1_le l
      match n with
      | 0 => omega
      | n + 1 =>
        have h3 := idleAll_le n (l.drop (pass1 l)) (by rw [List.length_drop]; omega)
        rw [List.length_drop] at h3; omega
theorem idleAll_le' (l : List UInt8) : idleAll l ≤ l.length := idleAll_le _ l (Nat.le_refl _)
theorem idleAll_stop : ∀ (n : Nat) (l : List UInt8), l.length ≤ n → pass1 (l.drop (idleAll l)) = 0
  | n, l, hn => by
    rw [idleAll_step]
    split
    · rename_i h1; simpa using h1
    · rename_i h1
      have h2 := pass1_le l
      match n with
      | 0 => omega
      | n + 1 =>
        have h3 := idleAll_stop n (l.drop (pass1 l)) (by rw [List.length_drop]; omega)
        rw [List.drop_drop] at h3; exact h3
theorem idleAll_take : ∀ (n : Nat) (l : List UInt8), l.length ≤ n → idleAll (l.take (idleAll l)) = idleAll l
  | n, l, hn => by
    by_cases h1 : pass1 l = 0
    · rw [idleAll_zero l h1, List.take_zero, idleAll_zero _ pass1_nil]
    · have h2 := pass1_le l
      match n with
      | 0 => omega
      | n + 1 =>
        have h3 := idleAll_take n (l.drop (pass1 l)) (by rw [List.length_drop]; omega)
        have h4 : idleAll l = pass1 l + idleAll (l.drop (pass1 l)) := by rw [idleAll_step, if_neg h1]
        have h5 : pass1 (l.take (idleAll l)) = pass1 l := pass1_take l _ (by omega) h1
        rw [idleAll_step (l.take (idleAll l)), h5, if_neg h1, drop_take', h4, Nat.add_sub_cancel_left, h3]

end Go.Proofs.YtndpebkiiemfpaaGreatDoor.M
