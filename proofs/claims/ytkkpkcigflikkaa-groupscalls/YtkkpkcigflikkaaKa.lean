/-
  Mathematics of a heap in a list.
-/
namespace Go.Proofs.Ytkkpkcigflikkaa.G
set_option linter.unusedVariables false

/-- Two places exchanged. -/
def sw (l : List Nat) (i j : Nat) : List Nat := (l.set i (l.getD j 0)).set j (l.getD i 0)
theorem sw_len (l : List Nat) (i j : Nat) : (sw l i j).length = l.length := by simp [sw]
theorem getD_set (l : List Nat) (i k x : Nat) (hi : i < l.length) : (l.set i x).getD k 0 = if k = i then x else l.getD k 0 := by
  rw [List.getD_eq_getElem?_getD, List.getElem?_set]
  by_cases e : i = k
  · subst e; rw [if_pos rfl, if_pos hi, if_pos rfl]; rfl
  · rw [if_neg e, if_neg (fun h => e h.symm), List.getD_eq_getElem?_getD]
theorem sw_at (l : List Nat) (i j k : Nat) (hi : i < l.length) (hj : j < l.length) : (sw l i j).getD k 0 = if k = j then l.getD i 0 else if k = i then l.getD j 0 else l.getD k 0 := by
  unfold sw
  rw [getD_set _ _ _ _ (by simpa using hj), getD_set _ _ _ _ hi]
theorem set_perm : ∀ (l : List Nat) (i : Nat) (x : Nat), i < l.length → (l.getD i 0 :: l.set i x).Perm (x :: l)
  | [], i, x, h => absurd h (Nat.not_lt_zero _)
  | a :: l, 0, x, h => by
    show (a :: x :: l).Perm (x :: a :: l)
    exact List.Perm.swap x a l
  | a :: l, i + 1, x, h => by
    have h' : i < l.length := by simpa using h
    have ih := set_perm l i x h'
    show (l.getD i 0 :: a :: l.set i x).Perm (x :: a :: l)
    exact ((List.Perm.swap a _ _).trans (ih.cons a)).trans (List.Perm.swap x a l)
theorem sw_perm (l : List Nat) (i j : Nat) (hi : i < l.length) (hj : j < l.length) : (sw l i j).Perm l := by
  have h1 := set_perm l i (l.getD j 0) hi
  have h2 := set_perm (l.set i (l.getD j 0)) j (l.getD i 0) (by simpa using hj)
  have e : (l.set i (l.getD j 0)).getD j 0 = l.getD j 0 := by
    rw [getD_set _ _ _ _ hi]
    split
    · rfl
    · rfl
  rw [e] at h2
  exact (List.perm_cons (l.getD j 0)).1 (h2.trans h1)
def par (j : Nat) : Nat := (j - 1) / 2
theorem par_lt {j : Nat} (h : 0 < j) : par j < j := by unfold par; omega
/-- No child is less than its parent. -/
def Hp (l : List Nat) (n : Nat) : Prop := ∀ j, 0 < j → j < n → l.getD (par j) 0 ≤ l.getD j 0
theorem Hp.min {l : List Nat} {n : Nat} (h : Hp l n) : ∀ j, j < n → l.getD 0 0 ≤ l.getD j 0 := by
  intro j
  induction j using Nat.strongRecOn with
  | _ j ih =>
    intro hj
    by_cases e : j = 0
    · rw [e]; exact Nat.le_refl _
    · have hp := par_lt (j := j) (by omega)
      exact Nat.le_trans (ih (par j) hp (by omega)) (h j (by omega) hj)
def UpI (l : List Nat) (n j : Nat) : Prop := (∀ k, 0 < k → k < n → k ≠ j → l.getD (par k) 0 ≤ l.getD k 0) ∧ (∀ k, 0 < k → k < n → par k = j → 0 < j → l.getD (par j) 0 ≤ l.getD k 0)
theorem UpI.zero {l : List Nat} {n : Nat} (h : UpI l n 0) : Hp l n := fun k h1 h2 => h.1 k h1 h2 (by omega)
theorem UpI.done {l : List Nat} {n j : Nat} (h : UpI l n j) (hl : ¬ l.getD j 0 < l.getD (par j) 0) : Hp l n := fun k h1 h2 => by
  by_cases e : k = j
  · rw [e]; omega
  · exact h.1 k h1 h2 e
theorem UpI.step {l : List Nat} {n j : Nat} (h : UpI l n j) (hn : n ≤ l.length) (h0 : 0 < j) (hj : j < n) (hl : l.getD j 0 < l.getD (par j) 0) : UpI (sw l (par j) j) n (par j) := by
  have hp := par_lt h0
  have at' : ∀ k, (sw l (par j) j).getD k 0 = if k = j then l.getD (par j) 0 else if k = par j then l.getD j 0 else l.getD k 0 := fun k => sw_at l (par j) j k (by omega) (by omega)
  refine ⟨fun k h1 h2 h3 => ?_, fun k h1 h2 h3 h4 => ?_⟩
  · rw [at' k, at' (par k)]
    have hk := par_lt h1
    by_cases e1 : k = j
    · subst e1
      rw [if_neg (by omega), if_pos rfl, if_pos rfl]; omega
    · rw [if_neg e1, if_neg h3]
      by_cases e2 : par k = j
      · rw [if_pos e2]; exact h.2 k h1 h2 e2 h0
      · rw [if_neg e2]
        have hb := h.1 k h1 h2 e1
        by_cases e3 : par k = par j
        · rw [if_pos e3]; rw [e3] at hb; omega
        · rw [if_neg e3]; exact hb
  · have hpp := par_lt h4
    rw [at' (par (par j)), at' k, if_neg (by omega), if_neg (by omega)]
    have hb := h.1 (par j) h4 (by omega) (by omega)
    have hk := par_lt h1
    by_cases e1 : k = j
    · rw [if_pos e1]; exact hb
    · rw [if_neg e1, if_neg (by omega)]
      have := h.1 k h1 h2 e1
      rw [h3] at this
      omega
/-- A heap with one more at its end. -/
theorem Hp.push {l : List Nat} {x : Nat} (h : Hp l l.length) : UpI (l ++ [x]) (l.length + 1) l.length := by
  refine ⟨fun k h1 h2 h3 => ?_, fun k h1 h2 h3 h4 => ?_⟩
  · have hk : k < l.length := by omega
    have hp := par_lt h1
    rw [List.getD_eq_getElem?_getD, List.getD_eq_getElem?_getD, List.getElem?_append_left (by omega), List.getElem?_append_left hk, ← List.getD_eq_getElem?_getD, ← List.getD_eq_getElem?_getD]
    exact h k h1 hk
  · have := par_lt h1; omega
def DnI (l : List Nat) (n i : Nat) : Prop := (∀ k, 0 < k → k < n → par k ≠ i → l.getD (par k) 0 ≤ l.getD k 0) ∧ (∀ k, 0 < k → k < n → par k = i → 0 < i → l.getD (par i) 0 ≤ l.getD k 0)
theorem par_iff {k i : Nat} (h : 0 < k) : par k = i ↔ k = 2 * i + 1 ∨ k = 2 * i + 2 := by unfold par; omega
theorem DnI.leaf {l : List Nat} {n i : Nat} (h : DnI l n i) (hn : n ≤ 2 * i + 1) : Hp l n := fun k h1 h2 => h.1 k h1 h2 (fun e => by rw [par_iff h1] at e; omega)
theorem DnI.done {l : List Nat} {n i j : Nat} (h : DnI l n i) (hj : ∀ k, 0 < k → k < n → par k = i → l.getD j 0 ≤ l.getD k 0) (hl : ¬ l.getD j 0 < l.getD i 0) : Hp l n := fun k h1 h2 => by
  by_cases e : par k = i
  · rw [e]; have := hj k h1 h2 e; omega
  · exact h.1 k h1 h2 e
theorem DnI.step {l : List Nat} {n i j : Nat} (h : DnI l n i) (hn : n ≤ l.length) (h0 : 0 < j) (hj : j < n) (hp : par j = i) (hm : ∀ k, 0 < k → k < n → par k = i → l.getD j 0 ≤ l.getD k 0) (hl : l.getD j 0 < l.getD i 0) : DnI (sw l i j) n j := by
  have hij : i < j := by rw [← hp]; exact par_lt h0
  have at' : ∀ k, (sw l i j).getD k 0 = if k = j then l.getD i 0 else if k = i then l.getD j 0 else l.getD k 0 := fun k => sw_at l i j k (by omega) (by omega)
  refine ⟨fun k h1 h2 h3 => ?_, fun k h1 h2 h3 h4 => ?_⟩
  · have hk := par_lt h1
    rw [at' k, at' (par k), if_neg h3]
    by_cases e1 : par k = i
    · rw [if_pos e1]
      by_cases e2 : k = j
      · rw [if_pos e2]; omega
      · rw [if_neg e2, if_neg (by omega)]; exact hm k h1 h2 e1
    · rw [if_neg e1]
      have hkj : k ≠ j := fun e => e1 (by rw [e]; exact hp)
      rw [if_neg hkj]
      by_cases e2 : k = i
      · rw [if_pos e2]
        subst e2
        exact h.2 j h0 hj hp h1
      · rw [if_neg e2]; exact h.1 k h1 h2 e1
  · have hk := par_lt h1
    rw [at' (par j), at' k, hp, if_neg (by omega), if_pos rfl, if_neg (by omega), if_neg (by omega)]
    have := h.1 k h1 h2 (by omega)
    rw [h3] at this; exact this
/-- A heap whose first one was exchanged with its last one: but for the first place it is one still. -/
theorem Hp.swapped {l : List Nat} {n : Nat} (h : Hp l (n + 1)) (hn : l.length = n + 1) : DnI (sw l 0 n) n 0 := by
  have at' : ∀ k, (sw l 0 n).getD k 0 = if k = n then l.getD 0 0 else if k = 0 then l.getD n 0 else l.getD k 0 := fun k => sw_at l 0 n k (by omega) (by omega)
  refine ⟨fun k h1 h2 h3 => ?_, fun k h1 h2 h3 h4 => absurd h4 (Nat.lt_irrefl _)⟩
  have hk := par_lt h1
  rw [at' k, at' (par k), if_neg (by omega), if_neg h3, if_neg (by omega), if_neg (by omega)]
  exact h k h1 (by omega)
end Go.Proofs.Ytkkpkcigflikkaa.G
