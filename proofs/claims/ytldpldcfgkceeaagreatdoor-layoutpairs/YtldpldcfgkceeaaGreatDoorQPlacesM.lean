/-
  Plain mathematics: the places of a text's tokens rise, and the first token of each line is told.
  Plain mathematics: what stands from each token's place on, up to the next one's, has just that token.
-/
import Derived.Test.YtldpldcfgkceeaaGreatDoorQAllH
namespace Go.Proofs.YtldpldcfgkceeaaGreatDoor

/-- What is so of each token of a text. -/
def Placed (a n : Nat) (last : Nat) (ts : List M.Tk) : Prop :=
  ∀ i (h : i < ts.length), a ≤ ts[i].pos ∧ ts[i].pos < a + n ∧ 1 ≤ ts[i].line ∧ 1 ≤ ts[i].col ∧
    (∀ h0 : i = 0, ts[i].first = decide (ts[i].line ≠ last)) ∧ (∀ h0 : 0 < i, ts[i].first = decide (ts[i].line ≠ ts[i - 1].line) ∧ ts[i - 1].pos < ts[i].pos)

theorem placed_cons (a n last : Nat) (t : M.Tk) (ts : List M.Tk) (a' : Nat) (h1 : a ≤ t.pos) (h2 : t.pos < a') (h2' : a' ≤ a + n) (h3 : 1 ≤ t.line) (h4 : 1 ≤ t.col) (h5 : t.first = decide (t.line ≠ last))
    (ht : Placed a' (a + n - a') t.line ts) : Placed a n last (t :: ts) := by
  intro i h
  match i, h with
  | 0, _ => exact ⟨h1, by show t.pos < a + n; omega, h3, h4, fun _ => h5, fun h0 => absurd h0 (by omega)⟩
  | i + 1, h =>
    have h' : i < ts.length := by simpa using h
    obtain ⟨k1, k2, k3, k4, k5, k6⟩ := ht i h'
    have hp : (t :: ts)[i + 1] = ts[i] := rfl
    refine ⟨by rw [hp]; omega, by rw [hp]; omega, k3, k4, fun h0 => absurd h0 (by omega), fun _ => ?_⟩
    match i, h' with
    | 0, h' =>
      have := k5 rfl
      refine ⟨this, ?_⟩
      show t.pos < ts[0].pos
      omega
    | j + 1, h' => exact k6 (by omega)

theorem scan_placed : ∀ (f a : Nat) (p : Nat × Nat) (last : Nat) (l : List UInt8) (ts : List M.Tk), 1 ≤ p.1 → 1 ≤ p.2 → M.scan f a p last l = .inr ts → Placed a l.length last ts
  | 0, a, p, last, l, ts, _, _, h => by simp [M.scan] at h
  | f + 1, a, p, last, l, ts, hp1, hp2, h => by
    unfold M.scan at h
    split at h
    · cases h
      intro i hi; simp at hi
    · split at h
      · simp at h
      · rename_i h1 h2
        have hil := M.idleAll_le' l
        have hle := M.lex1_le (l.drop (M.idleAll l))
        rw [List.length_drop] at hle
        have m1 := mv_line (l.take (M.idleAll l)) p
        have m2 := mv_line (l.take (M.idleAll l + (M.lex1 (l.drop (M.idleAll l))).2)) p
        cases hc : M.scan f (a + M.idleAll l + (M.lex1 (l.drop (M.idleAll l))).2) (M.mv p (l.take (M.idleAll l + (M.lex1 (l.drop (M.idleAll l))).2))) (M.mv p (l.take (M.idleAll l))).1 (l.drop (M.idleAll l + (M.lex1 (l.drop (M.idleAll l))).2)) with
        | inl e => rw [hc] at h; simp at h
        | inr ts' =>
          rw [hc] at h
          simp only [Sum.inr.injEq] at h
          subst h
          have ih := scan_placed f _ _ _ _ _ (by omega) (m2.2.2.1 hp2) hc
          rw [List.length_drop] at ih
          refine placed_cons a l.length last _ ts' (a + M.idleAll l + (M.lex1 (l.drop (M.idleAll l))).2) (by simp only; omega) (by simp only; omega) (by omega) (by simp only; omega) (m1.2.2.1 hp2) rfl ?_
          have he : a + l.length - (a + M.idleAll l + (M.lex1 (l.drop (M.idleAll l))).2) = l.length - (M.idleAll l + (M.lex1 (l.drop (M.idleAll l))).2) := by omega
          rw [he]
          exact ih
theorem all_placed (l : List UInt8) (ts : List M.Tk) (h : M.scanAll l = .inr ts) : Placed 0 l.length 0 ts := scan_placed _ _ _ _ _ _ (by decide) (by decide) h

theorem placed_len (n : Nat) (ts : List M.Tk) (h : Placed 0 n 0 ts) : ts.length ≤ n := by
  have key : ∀ i (hi : i < ts.length), i ≤ ts[i].pos := by
    intro i
    induction i with
    | zero => intro _; omega
    | succ i ih =>
      intro hi
      have h1 := ih (by omega)
      have h2 := ((h (i + 1) hi).2.2.2.2.2 (by omega)).2
      have h3 : ts[i + 1 - 1].pos = ts[i].pos := by simp
      omega
  rcases Nat.eq_zero_or_pos ts.length with h0 | h0
  · omega
  · have h1 := key (ts.length - 1) (by omega)
    have h2 := (h (ts.length - 1) (by omega)).2.1
    omega

/-! Between two tokens there are blanks and remarks alone. -/
theorem scan_one (f a : Nat) (p : Nat × Nat) (last : Nat) (l : List UInt8) (n i : Nat) (k : Nat) (hp : M.pass1 l = 0) (hk : M.lex1 l = (k, n)) (hn : n ≠ 0) (hi : M.idleAll (l.drop n) = i) (hf : 2 ≤ f) :
    M.scan f a p last (l.take (n + i)) = .inr [⟨M.resv (M.mkTok (k + 1) (l.take n)), a, p.1, p.2, decide (p.1 ≠ last)⟩] := by
  obtain ⟨f', rfl⟩ : ∃ f', f = f' + 1 + 1 := ⟨f - 2, by omega⟩
  have hle : n ≤ l.length := by have := M.lex1_le l; rw [hk] at this; exact this
  have hz : M.idleAll (l.take (n + i)) = 0 := M.idleAll_zero _ (M.pass1_zero_take l (n + i) hp (by rw [hk]; exact hn) (by rw [hk]; simp only; omega))
  have hlx : M.lex1 (l.take (n + i)) = (k, n) := by rw [M.lex1_take l (n + i) (by rw [hk]; exact hn) (by rw [hk]; simp only; omega), hk]
  have hne : ¬ ((l.take (n + i)).drop 0).isEmpty = true := by
    rw [List.drop_zero, List.isEmpty_iff]
    intro h
    have := congrArg List.length h
    rw [List.length_take, List.length_nil] at this
    omega
  have hd : (l.take (n + i)).drop (0 + n) = (l.drop n).take i := by rw [Nat.zero_add, M.drop_take']; congr 1; omega
  have hid : M.idleAll ((l.drop n).take i) = i := by rw [← hi]; exact M.idleAll_take _ _ (Nat.le_refl _)
  rw [M.scan, hz, if_neg hne, List.drop_zero, hlx, if_neg hn, hd]
  have h2 : ∀ (a : Nat) (p : Nat × Nat) (last : Nat), M.scan (f' + 1) a p last ((l.drop n).take i) = .inr [] := by
    intro a p last
    rw [M.scan, hid, if_pos]
    rw [List.isEmpty_iff]
    apply List.drop_eq_nil_of_le
    rw [List.length_take]; omega
  rw [h2]
  simp only [List.take_zero, Nat.add_zero]
  rw [List.take_take, Nat.min_eq_left (by omega)]
  rfl
theorem scan_idle (f a : Nat) (p : Nat × Nat) (last : Nat) (l : List UInt8) (hf : 1 ≤ f) : M.scan f a p last (l.take (M.idleAll l)) = .inr [] := by
  obtain ⟨f', rfl⟩ : ∃ f', f = f' + 1 := ⟨f - 1, by omega⟩
  rw [M.scan, M.idleAll_take _ _ (Nat.le_refl _), if_pos]
  rw [List.isEmpty_iff]
  apply List.drop_eq_nil_of_le
  rw [List.length_take]; omega

end Go.Proofs.YtldpldcfgkceeaaGreatDoor

namespace Go.Proofs.YtldpldcfgkceeaaGreatDoor

/-- Where token i begins; behind the last one: where the text ends. -/
def segAt (ts : List M.Tk) (n i : Nat) : Nat := if h : i < ts.length then ts[i].pos else n
theorem segAt_succ (t : M.Tk) (ts : List M.Tk) (n i : Nat) : segAt (t :: ts) n (i + 1) = segAt ts n i := by
  unfold segAt
  by_cases h : i < ts.length
  · rw [dif_pos h, dif_pos (by simpa using h)]; rfl
  · rw [dif_neg h, dif_neg (by simpa using h)]

theorem scan_segs (L : List UInt8) : ∀ (f a : Nat) (p : Nat × Nat) (last : Nat) (ts : List M.Tk), M.scan f a p last (L.drop a) = .inr ts → a ≤ L.length →
    segAt ts L.length 0 = a + M.idleAll (L.drop a) ∧
    ∀ i (h : i < ts.length), ts[i].pos ≤ segAt ts L.length (i + 1) ∧ M.scanAll ((L.drop ts[i].pos).take (segAt ts L.length (i + 1) - ts[i].pos)) = .inr [⟨ts[i].t, 0, 1, 1, true⟩]
  | 0, a, p, last, ts, h, _ => by simp [M.scan] at h
  | f + 1, a, p, last, ts, h, ha => by
    have hil := M.idleAll_le' (L.drop a)
    rw [List.length_drop] at hil
    unfold M.scan at h
    split at h
    · rename_i h1
      cases h
      refine ⟨?_, fun i hi => by simp at hi⟩
      rw [List.isEmpty_iff, List.drop_drop, List.drop_eq_nil_iff] at h1
      show L.length = _
      omega
    · split at h
      · simp at h
      · rename_i h1 h2
        rw [List.drop_drop] at h h2
        rw [List.drop_drop] at h
        obtain ⟨I, hI⟩ : ∃ I, M.idleAll (L.drop a) = I := ⟨_, rfl⟩
        have hst := M.idleAll_stop _ (L.drop a) (Nat.le_refl _)
        rw [hI, List.drop_drop] at hst
        rw [hI] at h h2 hil ⊢
        obtain ⟨⟨k, n⟩, hkn⟩ : ∃ r, M.lex1 (L.drop (a + I)) = r := ⟨_, rfl⟩
        rw [hkn] at h h2
        simp only at h h2
        have hle := M.lex1_le (L.drop (a + I))
        rw [hkn, List.length_drop] at hle
        simp only at hle
        cases hc : M.scan f (a + I + n) (M.mv p ((L.drop a).take (I + n))) (M.mv p ((L.drop a).take I)).1 (L.drop (a + (I + n))) with
        | inl e => rw [hc] at h; simp at h
        | inr ts' =>
          rw [hc] at h
          simp only [Sum.inr.injEq] at h
          subst h
          rw [← Nat.add_assoc] at hc
          have ih := scan_segs L f (a + I + n) _ _ ts' hc (by omega)
          refine ⟨rfl, fun i hi => ?_⟩
          match i, hi with
          | 0, _ =>
            rw [segAt_succ, ih.1]
            show a + I ≤ _ ∧ M.scanAll ((L.drop (a + I)).take (a + I + n + M.idleAll (L.drop (a + I + n)) - (a + I))) = _
            have he : a + I + n + M.idleAll (L.drop (a + I + n)) - (a + I) = n + M.idleAll (L.drop (a + I + n)) := by omega
            refine ⟨by omega, ?_⟩
            rw [he]
            unfold M.scanAll
            rw [scan_one _ 0 (1, 1) 0 (L.drop (a + I)) n (M.idleAll (L.drop (a + I + n))) k hst hkn h2 (by rw [List.drop_drop]) (by rw [List.length_take, List.length_drop]; omega)]
            rfl
          | i + 1, hi =>
            have hi' : i < ts'.length := by simpa using hi
            rw [segAt_succ]
            exact ih.2 i hi'

theorem all_segs (L : List UInt8) (ts : List M.Tk) (h : M.scanAll L = .inr ts) :
    M.scanAll (L.take (segAt ts L.length 0)) = .inr [] ∧
    ∀ i (h : i < ts.length), ts[i].pos ≤ segAt ts L.length (i + 1) ∧ M.scanAll ((L.drop ts[i].pos).take (segAt ts L.length (i + 1) - ts[i].pos)) = .inr [⟨ts[i].t, 0, 1, 1, true⟩] := by
  have := scan_segs L (L.length + 1) 0 (1, 1) 0 ts h (Nat.zero_le _)
  refine ⟨?_, this.2⟩
  rw [this.1, Nat.zero_add, List.drop_zero]
  exact scan_idle _ _ _ _ _ (by omega)

theorem segAt_le (n : Nat) (ts : List M.Tk) (h : Placed 0 n 0 ts) (i : Nat) : segAt ts n i ≤ n := by
  unfold segAt
  split
  · rename_i hi; have := (h i hi).2.1; omega
  · exact Nat.le_refl _

/-- A part of a text that may be may be. -/
theorem fb_all : ∀ (l : List UInt8) (i : Nat), fb l i = (0, 0) ↔ ∀ b ∈ l, okB b = true
  | [], i => by simp [fb]
  | b :: l, i => by
    unfold fb
    by_cases h : okB b = true
    · rw [if_pos h, fb_all l (i + 1)]; simp [h]
    · rw [if_neg h]; simp [h]
theorem chk_part (s X : ByteArray) (h : chk s = (0, 0)) (hl : X.size ≤ s.size) (hx : ∀ b ∈ X.data.toList, b ∈ s.data.toList) : chk X = (0, 0) := by
  unfold chk at h ⊢
  by_cases h1 : 65536 < s.size
  · rw [if_pos h1] at h; simp at h
  · rw [if_neg h1, fb_all] at h
    rw [if_neg (by omega), fb_all]
    exact fun b hb => h b (hx b hb)
theorem chk_extract (s : ByteArray) (a e : Nat) (h : chk s = (0, 0)) : chk (s.extract a e) = (0, 0) := by
  have he : (s.extract a e).data.toList = (s.data.toList.drop a).take (e - a) := by rw [Lib.extract_eq]
  refine chk_part s _ h ?_ ?_
  · rw [Lib.size_eq, he, List.length_take, List.length_drop, ← Lib.size_eq]; omega
  · intro b hb
    rw [he] at hb
    exact List.mem_of_mem_drop (List.mem_of_mem_take hb)

theorem chk_cases (s : ByteArray) : chk s = (0, 0) ∨ (chk s).1 ≠ 0 := by
  by_cases h : (chk s).1 = 0
  · left
    have key : ∀ (l : List UInt8) (i : Nat), (fb l i).1 = 0 → fb l i = (0, 0) := by
      intro l
      induction l with
      | nil => intro i _; rfl
      | cons b l ih =>
        intro i h
        unfold fb at h ⊢
        split
        · rename_i h1; rw [if_pos h1] at h; exact ih _ h
        · rename_i h1; rw [if_neg h1] at h; simp at h
    unfold chk at h ⊢
    split
    · rename_i h1; rw [if_pos h1] at h; simp at h
    · rename_i h1; rw [if_neg h1] at h; exact key _ _ h
  · exact .inr h

end Go.Proofs.YtldpldcfgkceeaaGreatDoor
