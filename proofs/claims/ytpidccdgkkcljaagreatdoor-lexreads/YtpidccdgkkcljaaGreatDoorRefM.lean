/-
  Plain mathematics: the document's own going through a text comes to what ours comes to.
-/
import Derived.Test.YtpidccdgkkcljaaGreatDoorM3
namespace Go.Proofs.YtpidccdgkkcljaaGreatDoor.M

/-- What the document passes over at a place; none: a remark that is not closed. -/
def passR (l : List UInt8) : Option Nat :=
  match l with
  | [] => some 0
  | b :: r => if blankB b = true then some 1 else if [123, 45].isPrefixOf (b :: r) = true then nest 0 0 (b :: r) else some (passDashes (b :: r))
theorem passR_cons (b : UInt8) (r : List UInt8) : passR (b :: r) = if blankB b = true then some 1 else if [123, 45].isPrefixOf (b :: r) = true then nest 0 0 (b :: r) else some (passDashes (b :: r)) := rfl
theorem pref_123 {b : UInt8} {r : List UInt8} (h : [123, 45].isPrefixOf (b :: r) = true) : b.toNat = 123 := by
  simp only [List.isPrefixOf, Bool.and_eq_true, beq_iff_eq] at h
  rw [← h.1]; rfl
theorem passR_none (l : List UInt8) (h : passR l = none) : pass1 l = 0 ∧ (lex1 l).2 = 0 := by
  match l with
  | [] => simp [passR] at h
  | b :: r =>
    rw [passR_cons] at h
    split at h
    · simp at h
    · rename_i h1
      split at h
      · rename_i h2
        have hb := pref_123 h2
        obtain ⟨f1, f2, f3, f4, _⟩ := pcls_facts b
        have hd : dashB b ≠ true := fun hh => (f2 hh).1 hb
        constructor
        · rw [pass1_cons, if_neg h1, if_neg hd, if_pos hb]
          unfold passNested
          rw [if_pos h2, h]; rfl
        · rw [lex1_cons, f3 hb]
          show (nz 7 (takeMark (b :: r))).2 = 0
          rw [nz_snd, takeMark_cons, if_pos h2]
      · simp at h
theorem passR_zero (l : List UInt8) (h : passR l = some 0) : pass1 l = 0 ∧ [123, 45].isPrefixOf l = false := by
  match l with
  | [] => exact ⟨pass1_nil, rfl⟩
  | b :: r =>
    rw [passR_cons] at h
    split at h
    · simp at h
    · rename_i h1
      split at h
      · rename_i h2
        have := nest_le _ _ _ _ h
        omega
      · rename_i h2
        simp only [Option.some.injEq] at h
        refine ⟨?_, Bool.eq_false_iff.2 h2⟩
        rw [pass1_cons, if_neg h1]
        split
        · exact h
        · split
          · unfold passNested; rw [if_neg h2]
          · rfl
theorem passR_some (l : List UInt8) (n : Nat) (h : passR l = some n) (hn : n ≠ 0) : n ≤ l.length ∧ idleAll l = n + idleAll (l.drop n) := by
  match l with
  | [] => simp [passR] at h; omega
  | b :: r =>
    have key : pass1 (b :: r) = n → n ≤ (b :: r).length ∧ idleAll (b :: r) = n + idleAll ((b :: r).drop n) := by
      intro hp
      refine ⟨hp ▸ pass1_le _, ?_⟩
      rw [idleAll_step, hp, if_neg hn]
    rw [passR_cons] at h
    split at h
    · rename_i h1
      simp only [Option.some.injEq] at h
      subst h
      refine ⟨by simp, ?_⟩
      have hc : pass1 (b :: r) = cnt blankB r + 1 := by rw [pass1_cons, if_pos h1]; simp [cnt, h1]
      rw [idleAll_step, hc, if_neg (by omega), List.drop_succ_cons, List.drop_succ_cons, List.drop_zero]
      by_cases h0 : cnt blankB r = 0
      · rw [h0]; simp
      · match r, h0 with
        | [], h0 => exact absurd rfl h0
        | c :: r, h0 =>
          have hb : blankB c = true := by
            cases hb : blankB c
            · exact absurd (by simp [cnt, hb]) h0
            · rfl
          have hc2 : pass1 (c :: r) = cnt blankB (c :: r) := by rw [pass1_cons, if_pos hb]
          rw [idleAll_step (c :: r), hc2, if_neg h0]
          omega
    · rename_i h1
      split at h
      · rename_i h2
        have hb := pref_123 h2
        obtain ⟨f1, f2, f3, f4, _⟩ := pcls_facts b
        have hd : dashB b ≠ true := fun hh => (f2 hh).1 hb
        refine key ?_
        rw [pass1_cons, if_neg h1, if_neg hd, if_pos hb]
        unfold passNested
        rw [if_pos h2, h]; rfl
      · rename_i h2
        simp only [Option.some.injEq] at h
        refine key ?_
        rw [pass1_cons, if_neg h1]
        cases hd : dashB b with
        | true => rw [if_pos rfl]; exact h
        | false => rw [passDashes_zero b r hd] at h; omega
theorem scan_pass (f a : Nat) (p : Nat × Nat) (last : Nat) (l : List UInt8) (n : Nat) (hn : idleAll l = n + idleAll (l.drop n)) : scan f a p last l = scan f (a + n) (mv p (l.take n)) last (l.drop n) ∨ f = 0 := by
  match f with
  | 0 => exact Or.inr rfl
  | f + 1 =>
    left
    have hm : ∀ i, mv (mv p (l.take n)) ((l.drop n).take i) = mv p (l.take (n + i)) := by
      intro i; unfold mv; rw [← List.foldl_append, List.take_add]
    simp only [scan, hn, List.drop_drop, hm, Nat.add_assoc]

theorem val_append (base : Nat) : ∀ (u v : List UInt8) (a : Nat), val base a (u ++ v) = val base (val base a u) v
  | [], v, a => rfl
  | b :: u, v, a => by rw [List.cons_append]; exact val_append base u v _
theorem val_ge (base : Nat) (hb : 1 ≤ base) : ∀ (u : List UInt8) (a : Nat), a ≤ val base a u
  | [], a => Nat.le_refl _
  | b :: u, a => by
    have := val_ge base hb u (a * base + hexv b)
    have h2 : a ≤ a * base := Nat.le_mul_of_pos_right a hb
    show a ≤ val base (a * base + hexv b) u
    omega
theorem take_snoc (l r : List UInt8) (n : Nat) (b : UInt8) (h : l.drop n = b :: r) : l.take (n + 1) = l.take n ++ [b] ∧ l.drop (n + 1) = r := by
  constructor
  · rw [List.take_add, h]; rfl
  · rw [← List.drop_drop, h]; rfl
theorem val_snoc (base : Nat) (l r : List UInt8) (n : Nat) (b : UInt8) (h : l.drop n = b :: r) : val base 0 (l.take (n + 1)) = val base 0 (l.take n) * base + hexv b := by
  rw [(take_snoc l r n b h).1, val_append]; rfl
theorem val_part (base : Nat) (hb : 1 ≤ base) (l : List UInt8) (n m : Nat) (h : n ≤ m) : val base 0 (l.take n) ≤ val base 0 (l.take m) := by
  have : l.take m = l.take n ++ (l.drop n).take (m - n) := by rw [← List.take_add]; congr 1; omega
  rw [this, val_append]
  exact val_ge base hb _ _
/-- What the document's number answers. -/
def numR (base : Nat) (l : List UInt8) : Int × Nat × Bool :=
  if 2 ^ 63 ≤ val base 0 (l.take (cnt (dig base) l)) then (0, 0, false) else ((val base 0 (l.take (cnt (dig base) l)) : Nat), cnt (dig base) l, true)

/-- What the document's character answers: -1: none, though something is passed over. -/
def charR (q : UInt8) (l : List UInt8) : Int × Nat :=
  if q.toNat = 34 ∧ 0 < noChar l then (-1, noChar l) else if (character q l).1 = 0 then (0, 0) else (((character q l).2 : Nat), (character q l).1)
theorem charR_nil (q : UInt8) : charR q [] = (0, 0) := by unfold charR; simp [noChar, character]
theorem charR_bad (q b : UInt8) (r : List UInt8) (hq : q.toNat ≠ 92) (h : b = q ∨ plainB b = false) : charR q (b :: r) = (0, 0) := by
  have hb : b.toNat ≠ 92 := by
    intro h92
    rcases h with h | h
    · rw [h] at h92; exact hq h92
    · unfold plainB at h; rw [h92] at h; simp at h
  unfold charR
  rw [noChar_cons, if_neg hb, character_cons, if_pos h]
  simp
theorem charR_plain (q b : UInt8) (r : List UInt8) (h1 : ¬ b = q) (h2 : plainB b = true) (hb : b.toNat ≠ 92) : charR q (b :: r) = ((b.toNat : Int), 1) := by
  unfold charR
  have h3 : character q (b :: r) = (1, b.toNat) := by
    rw [character_cons, if_neg, if_neg hb]
    rintro (h | h)
    · exact h1 h
    · rw [h2] at h; simp at h
  have h4 : noChar (b :: r) = 0 := by rw [noChar_cons, if_neg hb]
  rw [h3, h4, if_neg (by omega)]; rfl
theorem char_esc (q : UInt8) (hq : q.toNat ≠ 92) (b : UInt8) (hb : b.toNat = 92) (r : List UInt8) : character q (b :: r) = up 1 (escape r) := by
  rw [character_cons, if_neg, if_pos hb]
  intro h
  rcases h with h | h
  · rw [h] at hb; exact hq hb
  · unfold plainB at h; rw [hb] at h; simp at h
theorem no_esc (b c : UInt8) (r : List UInt8) (hb : b.toNat = 92) (h1 : c.toNat ≠ 38) (h2 : blankB c = false) : noChar (b :: c :: r) = 0 := by
  rw [noChar_cons, if_pos hb, if_neg, if_pos (Or.inl (by simp [cnt, h2]))]
  rw [pref1, ne_byte h1 38 rfl]; simp
theorem charR_one (q b : UInt8) (hq : q.toNat ≠ 92) (hb : b.toNat = 92) : charR q [b] = (0, 0) := by
  have h1 : noChar [b] = 0 := by rw [noChar_cons, if_pos hb]; rfl
  unfold charR
  rw [h1, char_esc q hq b hb, if_neg (by omega)]; rfl
theorem charR_esc (q b c : UInt8) (r : List UInt8) (hq : q.toNat ≠ 92) (hb : b.toNat = 92) (h1 : c.toNat ≠ 38) (h2 : blankB c = false) : charR q (b :: c :: r) = if (escape (c :: r)).1 = 0 then ((0 : Int), 0) else (((escape (c :: r)).2 : Nat), (escape (c :: r)).1 + 1) := by
  unfold charR
  rw [no_esc b c r hb h1 h2, if_neg (by omega), char_esc q hq b hb]
  unfold up
  split
  · simp
  · simp
theorem charR_n (q b c : UInt8) (r : List UInt8) (hq : q.toNat ≠ 92) (hb : b.toNat = 92) (hc : c.toNat = 110) : charR q (b :: c :: r) = (10, 2) := by
  have he : escape (c :: r) = (1, 10) := by rw [escape_cons, if_pos hc]
  rw [charR_esc q b c r hq hb (by omega) (by unfold blankB; rw [hc]; rfl), he]; rfl
theorem charR_t (q b c : UInt8) (r : List UInt8) (hq : q.toNat ≠ 92) (hb : b.toNat = 92) (hc : c.toNat = 116) : charR q (b :: c :: r) = (9, 2) := by
  have he : escape (c :: r) = (1, 9) := by rw [escape_cons, if_neg (by omega), if_pos hc]
  rw [charR_esc q b c r hq hb (by omega) (by unfold blankB; rw [hc]; rfl), he]; rfl
theorem charR_self (q b c : UInt8) (r : List UInt8) (hq : q.toNat ≠ 92) (hb : b.toNat = 92) (hc : c.toNat = 92 ∨ c.toNat = 39 ∨ c.toNat = 34) : charR q (b :: c :: r) = ((c.toNat : Int), 2) := by
  have he : escape (c :: r) = (1, c.toNat) := by rw [escape_cons, if_neg (by omega), if_neg (by omega), if_pos hc]
  rw [charR_esc q b c r hq hb (by omega) (by unfold blankB; simp; omega), he]; rfl
theorem digs_rest (base k : Nat) (l : List UInt8) (j : Nat) : (if (digs base k l).1 = 0 then ((0 : Int), 0) else (((digs base k l).2 : Nat), (digs base k l).1 + j)) = if cnt (dig base) l = 0 ∨ 2 ^ k ≤ val base 0 (l.take (cnt (dig base) l)) then ((0 : Int), 0) else ((val base 0 (l.take (cnt (dig base) l)) : Nat), cnt (dig base) l + j) := by
  unfold digs
  by_cases h : cnt (dig base) l = 0 ∨ 2 ^ k ≤ val base 0 (l.take (cnt (dig base) l))
  · rw [if_pos h, if_pos h]; simp
  · rw [if_neg h, if_neg h, if_neg]
    intro h0; exact h (Or.inl h0)
theorem charR_dig (q b c : UInt8) (r : List UInt8) (hq : q.toNat ≠ 92) (hb : b.toNat = 92) (hc : digB c = true) : charR q (b :: c :: r) = if cnt (dig 10) (c :: r) = 0 ∨ 2 ^ 8 ≤ val 10 0 ((c :: r).take (cnt (dig 10) (c :: r))) then ((0 : Int), 0) else ((val 10 0 ((c :: r).take (cnt (dig 10) (c :: r))) : Nat), cnt (dig 10) (c :: r) + 1) := by
  have hc' : 48 ≤ c.toNat ∧ c.toNat ≤ 57 := by simpa [digB] using hc
  have he : escape (c :: r) = digs 10 8 (c :: r) := by rw [escape_cons, if_neg (by omega), if_neg (by omega), if_neg (by omega), if_neg (by omega)]
  rw [charR_esc q b c r hq hb (by omega) (by unfold blankB; simp; omega), he]
  exact digs_rest 10 8 (c :: r) 1
theorem charR_x (q b c : UInt8) (r : List UInt8) (hq : q.toNat ≠ 92) (hb : b.toNat = 92) (hc : c.toNat = 120) : charR q (b :: c :: r) = if cnt (dig 16) r = 0 ∨ 2 ^ 8 ≤ val 16 0 (r.take (cnt (dig 16) r)) then ((0 : Int), 0) else ((val 16 0 (r.take (cnt (dig 16) r)) : Nat), cnt (dig 16) r + 2) := by
  have he : escape (c :: r) = up 1 (digs 16 8 r) := by rw [escape_cons, if_neg (by omega), if_neg (by omega), if_neg (by omega), if_pos hc]
  rw [charR_esc q b c r hq hb (by omega) (by unfold blankB; rw [hc]; rfl), he, ← digs_rest 16 8 r 2]
  unfold up
  by_cases h : (digs 16 8 r).1 = 0
  · rw [if_pos h, if_pos h]; rfl
  · rw [if_neg h, if_neg h, if_neg (by simp)]
theorem charR_amp (b c : UInt8) (r : List UInt8) (hb : b.toNat = 92) (hc : c.toNat = 38) : charR 34 (b :: c :: r) = (-1, 2) := by
  have h1 : noChar (b :: c :: r) = 2 := by
    rw [noChar_cons, if_pos hb, if_pos]
    rw [pref1]
    exact beq_iff_eq.2 (UInt8.toNat_inj.1 (by rw [hc]; rfl))
  unfold charR
  rw [h1]; rfl
theorem esc_no (c : UInt8) (r : List UInt8) (h1 : c.toNat ≠ 110) (h2 : c.toNat ≠ 116) (h3 : ¬ (c.toNat = 92 ∨ c.toNat = 39 ∨ c.toNat = 34)) (h4 : c.toNat ≠ 120) (h5 : digB c = false) : (escape (c :: r)).1 = 0 := by
  rw [escape_cons, if_neg h1, if_neg h2, if_neg h3, if_neg h4]
  unfold digs
  rw [if_pos (Or.inl (by rw [dig10]; simp [cnt, h5]))]
theorem charR_blank (b c : UInt8) (r : List UInt8) (hb : b.toNat = 92) (hc : blankB c = true) : charR 34 (b :: c :: r) = if [92].isPrefixOf ((c :: r).drop (cnt blankB (c :: r))) = true then (-1, cnt blankB (c :: r) + 2) else (0, 0) := by
  have hc' : c.toNat = 32 ∨ c.toNat = 9 ∨ c.toNat = 10 := by simpa [blankB] using hc
  have h1 : noChar (b :: c :: r) = if [92].isPrefixOf ((c :: r).drop (cnt blankB (c :: r))) = true then cnt blankB (c :: r) + 2 else 0 := by
    have hz : cnt blankB (c :: r) ≠ 0 := by simp [cnt, hc]
    rw [noChar_cons, if_pos hb, if_neg (by rw [pref1, ne_byte (n := 38) (by omega) 38 rfl]; simp)]
    by_cases h : [92].isPrefixOf ((c :: r).drop (cnt blankB (c :: r))) = true
    · rw [if_pos h, if_neg]
      rintro (h' | h')
      · exact hz h'
      · rw [h] at h'; simp at h'
    · rw [if_neg h, if_pos (Or.inr (Bool.eq_false_iff.2 h))]
  unfold charR
  rw [h1]
  by_cases h : [92].isPrefixOf ((c :: r).drop (cnt blankB (c :: r))) = true
  · rw [if_pos h, if_pos h, if_pos ⟨rfl, by omega⟩]
  · rw [if_neg h, if_neg h, if_neg (by omega), char_esc 34 (by decide) b hb, if_pos]
    unfold up
    rw [if_pos (esc_no c r (by omega) (by omega) (by omega) (by omega) (by unfold digB; simp; omega))]
theorem charR_none (q b c : UInt8) (r : List UInt8) (hq : q.toNat ≠ 92) (hb : b.toNat = 92) (h1 : c.toNat ≠ 110) (h2 : c.toNat ≠ 116) (h3 : ¬ (c.toNat = 92 ∨ c.toNat = 39 ∨ c.toNat = 34)) (h4 : c.toNat ≠ 120) (h5 : digB c = false) (h6 : q.toNat = 34 → c.toNat ≠ 38 ∧ blankB c = false) : charR q (b :: c :: r) = (0, 0) := by
  have he := esc_no c r h1 h2 h3 h4 h5
  unfold charR
  rw [if_neg, char_esc q hq b hb, if_pos]
  · unfold up; rw [if_pos he]
  · rintro ⟨hh, hn⟩
    rw [no_esc b c r hb (h6 hh).1 (h6 hh).2] at hn
    omega

/-- What the document's lexeme answers. -/
def lexR (l : List UInt8) : T0 × Nat := if (lex1 l).2 = 0 then (⟨0, [], 0⟩, 0) else (resv (mkTok ((lex1 l).1 + 1) (l.take (lex1 l).2)), (lex1 l).2)
theorem lexR_by (b : UInt8) (r : List UInt8) (k n : Nat) (h : byCls (cls b) (b :: r) = nz k n) : lexR (b :: r) = if n = 0 then (⟨0, [], 0⟩, 0) else (resv (mkTok (k + 1) ((b :: r).take n)), n) := by
  unfold lexR
  rw [lex1_cons, h, nz_snd]
  by_cases hn : n = 0
  · rw [if_pos hn, if_pos hn]
  · rw [if_neg hn, if_neg hn]; unfold nz; rw [if_neg hn]
theorem beg_in (b : UInt8) : (begName b = true → inName b = true) ∧ (capB b = true → inName b = true) := by
  have := all256 (fun b => decide ((begName b = true → inName b = true) ∧ (capB b = true → inName b = true))) (by decide +kernel) b
  exact of_decide_eq_true this
theorem lexR_name (b : UInt8) (r : List UInt8) (h : cls b = 0) : lexR (b :: r) = (⟨if wordL.contains ((b :: r).take (cnt inName (b :: r))) then 9 else 1, (b :: r).take (cnt inName (b :: r)), 0⟩, cnt inName (b :: r)) := by
  have hb : begName b = true := by rw [(cls_facts b).1, h]; rfl
  have hc : headed begName inName (b :: r) = cnt inName (b :: r) := by rw [headed_cons, if_pos hb]; simp [cnt, (beg_in b).1 hb]
  rw [lexR_by b r 0 (cnt inName (b :: r)) (by rw [h, ← hc]; rfl), if_neg (by simp [cnt, (beg_in b).1 hb])]
  have hm : mkTok (0 + 1) ((b :: r).take (cnt inName (b :: r))) = ⟨1, (b :: r).take (cnt inName (b :: r)), 0⟩ := rfl
  rw [hm]
  unfold resv
  simp only [true_and]
  split
  · rfl
  · rw [if_neg (by omega)]
theorem lexR_con (b : UInt8) (r : List UInt8) (h : cls b = 1) : lexR (b :: r) = (⟨2, (b :: r).take (cnt inName (b :: r)), 0⟩, cnt inName (b :: r)) := by
  have hb : capB b = true := by rw [(cls_facts b).2.1, h]; rfl
  have hc : headed capB inName (b :: r) = cnt inName (b :: r) := by rw [headed_cons, if_pos hb]; simp [cnt, (beg_in b).2 hb]
  rw [lexR_by b r 1 (cnt inName (b :: r)) (by rw [h, ← hc]; rfl), if_neg (by simp [cnt, (beg_in b).2 hb])]
  rfl
theorem lexR_op (b : UInt8) (r : List UInt8) (h : cls b = 2) : lexR (b :: r) = (⟨if signL.contains ((b :: r).take (cnt sym (b :: r))) then 10 else 3, (b :: r).take (cnt sym (b :: r)), 0⟩, cnt sym (b :: r)) := by
  have hb : begOp b = true := by rw [(cls_facts b).2.2.1, h]; rfl
  have hs : sym b = true := by rw [(pcls_facts b).2.2.2.1, h]; rfl
  have hc : headed begOp sym (b :: r) = cnt sym (b :: r) := by rw [headed_cons, if_pos hb]; simp [cnt, hs]
  rw [lexR_by b r 2 (cnt sym (b :: r)) (by rw [h, ← hc]; rfl), if_neg (by simp [cnt, hs])]
  have hm : mkTok (2 + 1) ((b :: r).take (cnt sym (b :: r))) = ⟨3, (b :: r).take (cnt sym (b :: r)), 0⟩ := rfl
  rw [hm]
  unfold resv
  rw [if_neg (by simp)]
  simp only [true_and]
  split
  · rfl
  · rfl
theorem colon_sign (b : UInt8) (u : List UInt8) (h : b.toNat = 58) : signL.contains (b :: u) = false := by
  have hb : b = 58 := UInt8.toNat_inj.1 (by rw [h]; rfl)
  subst hb
  simp [signL]
theorem lexR_conop (b : UInt8) (r : List UInt8) (h : cls b = 3) : signL.contains ((b :: r).take (cnt sym (b :: r))) = false ∧ lexR (b :: r) = (⟨4, (b :: r).take (cnt sym (b :: r)), 0⟩, cnt sym (b :: r)) := by
  have hb : colonB b = true := by rw [(cls_facts b).2.2.2.1, h]; rfl
  have hs : sym b = true := by rw [(pcls_facts b).2.2.2.1, h]; rfl
  have hc : headed colonB sym (b :: r) = cnt sym (b :: r) := by rw [headed_cons, if_pos hb]; simp [cnt, hs]
  constructor
  · have : cnt sym (b :: r) = cnt sym r + 1 := by simp [cnt, hs]
    rw [this, List.take_succ_cons]
    exact colon_sign b _ (by simpa [colonB] using hb)
  · rw [lexR_by b r 3 (cnt sym (b :: r)) (by rw [h, ← hc]; rfl), if_neg (by simp [cnt, hs])]
    rfl
theorem lexR_num (b : UInt8) (r : List UInt8) (h : cls b = 4) : lexR (b :: r) = if (number (b :: r)).1 = 0 then (⟨0, [], 0⟩, 0) else (⟨5, [], (number (b :: r)).2⟩, (number (b :: r)).1) := by
  rw [lexR_by b r 4 (number (b :: r)).1 (by rw [h]; rfl)]
  split
  · rfl
  · rename_i h0
    have hm : mkTok (4 + 1) ((b :: r).take (number (b :: r)).1) = ⟨5, [], (number ((b :: r).take (number (b :: r)).1)).2⟩ := rfl
    rw [hm, number_take _ _ h0 (Nat.le_refl _)]
    rfl
theorem lexR_char (b : UInt8) (r : List UInt8) (h : cls b = 5) : lexR (b :: r) = if (character 39 r).1 = 0 ∨ [39].isPrefixOf (r.drop (character 39 r).1) = false then (⟨0, [], 0⟩, 0) else (⟨6, [], (character 39 r).2⟩, (character 39 r).1 + 2) := by
  have hb : b.toNat = 39 := by have := (cls_facts b).2.2.2.2.2.1; rw [h] at this; simpa using this
  have hp : [39].isPrefixOf (b :: r) = true := by rw [pref1]; exact beq_iff_eq.2 (UInt8.toNat_inj.1 (by rw [hb]; rfl))
  have ht : takeChar (b :: r) = if (character 39 r).1 = 0 ∨ [39].isPrefixOf (r.drop (character 39 r).1) = false then 0 else (character 39 r).1 + 2 := by
    unfold takeChar
    rw [if_pos hp, List.drop_succ_cons, List.drop_zero, Nat.add_comm 1, List.drop_succ_cons]
  rw [lexR_by b r 5 (takeChar (b :: r)) (by rw [h]; rfl), ht]
  by_cases hh : (character 39 r).1 = 0 ∨ [39].isPrefixOf (r.drop (character 39 r).1) = false
  · rw [if_pos hh, if_pos hh]; rfl
  · rw [if_neg hh, if_neg hh, if_neg (by omega)]
    have hm : mkTok (5 + 1) ((b :: r).take ((character 39 r).1 + 2)) = ⟨6, [], (character 39 (((b :: r).take ((character 39 r).1 + 2)).drop 1)).2⟩ := rfl
    rw [hm, List.take_succ_cons, List.drop_succ_cons, List.drop_zero, character_take _ _ _ (fun h0 => hh (Or.inl h0)) (by omega)]
    rfl
theorem lexR_str (b : UInt8) (r : List UInt8) (h : cls b = 6) : lexR (b :: r) = if (chars (b :: r)).1 = 0 then (⟨0, [], 0⟩, 0) else (⟨7, (chars (b :: r)).2, 0⟩, (chars (b :: r)).1) := by
  rw [lexR_by b r 6 (chars (b :: r)).1 (by rw [h]; rfl)]
  split
  · rfl
  · rename_i h0
    have hm : mkTok (6 + 1) ((b :: r).take (chars (b :: r)).1) = ⟨7, (chars ((b :: r).take (chars (b :: r)).1)).2, 0⟩ := rfl
    rw [hm, chars_take _ _ h0 (Nat.le_refl _)]
    rfl
theorem lexR_mark (b : UInt8) (r : List UInt8) (h : cls b = 7) (hp : [123, 45].isPrefixOf (b :: r) = false) : lexR (b :: r) = (⟨8, [b], 0⟩, 1) := by
  have hb : markL.contains b = true := by rw [(cls_facts b).2.2.2.2.2.2.2.1, h]; rfl
  have ht : takeMark (b :: r) = 1 := by rw [takeMark_cons, hp, if_neg (by simp), if_pos hb]
  rw [lexR_by b r 7 1 (by rw [h, ← ht]; rfl), if_neg (by omega)]
  rfl
theorem lexR_none (b : UInt8) (r : List UInt8) (h : cls b = 8) : lexR (b :: r) = (⟨0, [], 0⟩, 0) := by
  rw [lexR_by b r 0 0 (by rw [h]; rfl)]
  rfl

end Go.Proofs.YtpidccdgkkcljaaGreatDoor.M
