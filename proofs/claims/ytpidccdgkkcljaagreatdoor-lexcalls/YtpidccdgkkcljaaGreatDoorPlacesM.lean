/-
  Plain mathematics: the places of a text's tokens rise, and the first token of each line is told.
-/
import Derived.Test.YtpidccdgkkcljaaGreatDoorAllH
namespace Go.Proofs.YtpidccdgkkcljaaGreatDoor

/-- What is so of each token of a text. -/
def Placed (a n : Nat) (last : Nat) (ts : List M.Tk) : Prop :=
  ∀ i (h : i < ts.length), a ≤ ts[i].pos ∧ ts[i].pos < a + n ∧ 1 ≤ ts[i].line ∧ 1 ≤ ts[i].col ∧
    (∀ h0 : i = 0, ts[i].first = decide (ts[i].line ≠ last)) ∧ (∀ h0 : 0 < i, ts[i].first = decide (ts[i].line ≠ ts[i - 1].line) ∧ ts[i - 1].pos < ts[i].pos)

theorem placed_cons (a n last : Nat) (t : M.Tk) (ts : List M.Tk) (a' : Nat) (h1 : a ≤ t.pos) (h2 : t.pos < a') (h2' : a' ≤ a + n) (h3 : 1 ≤ t.line) (h4 : 1 ≤ t.col) (h5 : t.first = decide (t.line ≠ last))
    (ht : Placed a' (a + n - a') t.line ts) : Placed a n last (t :: ts) := by
  intro i h
  match i, h with
  | 0, _ => exact ⟨h1, by show t.pos < a + n; omega, h3, h4, fun _ => h5, fun h0 => absurd h0 (by omega)⟩
  | i + 1, h =>
    have h' : i < ts.length := by simpa using h
    obtain ⟨k1, k2, k3, k4, k5, k6⟩ := ht i h'
    have hp : (t :: ts)[i + 1] = ts[i] := rfl
    refine ⟨by rw [hp]; omega, by rw [hp]; omega, k3, k4, fun h0 => absurd h0 (by omega), fun _ => ?_⟩
    match i, h' with
    | 0, h' =>
      have := k5 rfl
      refine ⟨this, ?_⟩
      show t.pos < ts[0].pos
      omega
    | j + 1, h' => exact k6 (by omega)

theorem scan_placed : ∀ (f a : Nat) (p : Nat × Nat) (last : Nat) (l : List UInt8) (ts : List M.Tk), 1 ≤ p.1 → 1 ≤ p.2 → M.scan f a p last l = .inr ts → Placed a l.length last ts
  | 0, a, p, last, l, ts, _, _, h => by simp [M.scan] at h
  | f + 1, a, p, last, l, ts, hp1, hp2, h => by
    unfold M.scan at h
    split at h
    · cases h
      intro i hi; simp at hi
    · split at h
      · simp at h
      · rename_i h1 h2
        have hil := M.idleAll_le' l
        have hle := M.lex1_le (l.drop (M.idleAll l))
        rw [List.length_drop] at hle
        have m1 := mv_line (l.take (M.idleAll l)) p
        have m2 := mv_line (l.take (M.idleAll l + (M.lex1 (l.drop (M.idleAll l))).2)) p
        cases hc : M.scan f (a + M.idleAll l + (M.lex1 (l.drop (M.idleAll l))).2) (M.mv p (l.take (M.idleAll l + (M.lex1 (l.drop (M.idleAll l))).2))) (M.mv p (l.take (M.idleAll l))).1 (l.drop (M.idleAll l + (M.lex1 (l.drop (M.idleAll l))).2)) with
        | inl e => rw [hc] at h; simp at h
        | inr ts' =>
          rw [hc] at h
          simp only [Sum.inr.injEq] at h
          subst h
          have ih := scan_placed f _ _ _ _ _ (by omega) (m2.2.2.1 hp2) hc
          rw [List.length_drop] at ih
          refine placed_cons a l.length last _ ts' (a + M.idleAll l + (M.lex1 (l.drop (M.idleAll l))).2) (by simp only; omega) (by simp only; omega) (by omega) (by simp only; omega) (m1.2.2.1 hp2) rfl ?_
          have he : a + l.length - (a + M.idleAll l + (M.lex1 (l.drop (M.idleAll l))).2) = l.length - (M.idleAll l + (M.lex1 (l.drop (M.idleAll l))).2) := by omega
          rw [he]
          exact ih
theorem all_placed (l : List UInt8) (ts : List M.Tk) (h : M.scanAll l = .inr ts) : Placed 0 l.length 0 ts := scan_placed _ _ _ _ _ _ (by decide) (by decide) h

theorem placed_len (n : Nat) (ts : List M.Tk) (h : Placed 0 n 0 ts) : ts.length ≤ n := by
  have key : ∀ i (hi : i < ts.length), i ≤ ts[i].pos := by
    intro i
    induction i with
    | zero => intro _; omega
    | succ i ih =>
      intro hi
      have h1 := ih (by omega)
      have h2 := ((h (i + 1) hi).2.2.2.2.2 (by omega)).2
      have h3 : ts[i + 1 - 1].pos = ts[i].pos := by simp
      omega
  rcases Nat.eq_zero_or_pos ts.length with h0 | h0
  · omega
  · have h1 := key (ts.length - 1) (by omega)
    have h2 := (h (ts.length - 1) (by omega)).2.1
    omega

/-! Between two tokens there are blanks and remarks alone. -/
theorem scan_one (f a : Nat) (p : Nat × Nat) (last : Nat) (l : List UInt8) (n i : Nat) (k : Nat) (hp : M.pass1 l = 0) (hk : M.lex1 l = (k, n)) (hn : n ≠ 0) (hi : M.idleAll (l.drop n) = i) (hf : 2 ≤ f) :
    M.scan f a p last (l.take (n + i)) = .inr [⟨M.resv (M.mkTok (k + 1) (l.take n)), a, p.1, p.2, decide (p.1 ≠ last)⟩] := by
  obtain ⟨f', rfl⟩ : ∃ f', f = f' + 1 + 1 := ⟨f - 2, by omega⟩
  have hle : n ≤ l.length := by have := M.lex1_le l; rw [hk] at this; exact this
  have hz : M.idleAll (l.take (n + i)) = 0 := M.idleAll_zero _ (M.pass1_zero_take l (n + i) hp (by rw [hk]; exact hn) (by rw [hk]; simp only; omega))
  have hlx : M.lex1 (l.take (n + i)) = (k, n) := by rw [M.lex1_take l (n + i) (by rw [hk]; exact hn) (by rw [hk]; simp only; omega), hk]
  have hne : ¬ ((l.take (n + i)).drop 0).isEmpty = true := by
    rw [List.drop_zero, List.isEmpty_iff]
    intro h
    have := congrArg List.length h
    rw [List.length_take, List.length_nil] at this
    omega
  have hd : (l.take (n + i)).drop (0 + n) = (l.drop n).take i := by rw [Nat.zero_add, M.drop_take']; congr 1; omega
  have hid : M.idleAll ((l.drop n).take i) = i := by rw [← hi]; exact M.idleAll_take _ _ (Nat.le_refl _)
  rw [M.scan, hz, if_neg hne, List.drop_zero, hlx, if_neg hn, hd]
  have h2 : ∀ (a : Nat) (p : Nat × Nat) (last : Nat), M.scan (f' + 1) a p last ((l.drop n).take i) = .inr [] := by
    intro a p last
    rw [M.scan, hid, if_pos]
    rw [List.isEmpty_iff]
    apply List.drop_eq_nil_of_le
    rw [List.length_take]; omega
  rw [h2]
  simp only [List.take_zero, Nat.add_zero]
  rw [List.take_take, Nat.min_eq_left (by omega)]
  rfl
theorem scan_idle (f a : Nat) (p : Nat × Nat) (last : Nat) (l : List UInt8) (hf : 1 ≤ f) : M.scan f a p last (l.take (M.idleAll l)) = .inr [] := by
  obtain ⟨f', rfl⟩ : ∃ f', f = f' + 1 := ⟨f - 1, by omega⟩
  rw [M.scan, M.idleAll_take _ _ (Nat.le_refl _), if_pos]
  rw [List.isEmpty_iff]
  apply List.drop_eq_nil_of_le
  rw [List.length_take]; omega

end Go.Proofs.YtpidccdgkkcljaaGreatDoor
