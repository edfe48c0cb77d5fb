/-
  Plain mathematics: what stands from each token's place on, up to the next one's, has just that token.
-/
import Derived.Test.YtpidccdgkkcljaaGreatDoorPlacesM
namespace Go.Proofs.YtpidccdgkkcljaaGreatDoor

/-- Where token i begins; behind the last one: where the text ends. -/
def segAt (ts : List M.Tk) (n i : Nat) : Nat := if h : i < ts.length then ts[i].pos else n
theorem segAt_succ (t : M.Tk) (ts : List M.Tk) (n i : Nat) : segAt (t :: ts) n (i + 1) = segAt ts n i := by
  unfold segAt
  by_cases h : i < ts.length
  · rw [dif_pos h, dif_pos (by simpa using h)]; rfl
  · rw [dif_neg h, dif_neg (by simpa using h)]

theorem scan_segs (L : List UInt8) : ∀ (f a : Nat) (p : Nat × Nat) (last : Nat) (ts : List M.Tk), M.scan f a p last (L.drop a) = .inr ts → a ≤ L.length →
    segAt ts L.length 0 = a + M.idleAll (L.drop a) ∧
    ∀ i (h : i < ts.length), ts[i].pos ≤ segAt ts L.length (i + 1) ∧ M.scanAll ((L.drop ts[i].pos).take (segAt ts L.length (i + 1) - ts[i].pos)) = .inr [⟨ts[i].t, 0, 1, 1, true⟩]
  | 0, a, p, last, ts, h, _ => by simp [M.scan] at h
  | f + 1, a, p, last, ts, h, ha => by
    have hil := M.idleAll_le' (L.drop a)
    rw [List.length_drop] at hil
    unfold M.scan at h
    split at h
    · rename_i h1
      cases h
      refine ⟨?_, fun i hi => by simp at hi⟩
      rw [List.isEmpty_iff, List.drop_drop, List.drop_eq_nil_iff] at h1
      show L.length = _
      omega
    · split at h
      · simp at h
      · rename_i h1 h2
        rw [List.drop_drop] at h h2
        rw [List.drop_drop] at h
        obtain ⟨I, hI⟩ : ∃ I, M.idleAll (L.drop a) = I := ⟨_, rfl⟩
        have hst := M.idleAll_stop _ (L.drop a) (Nat.le_refl _)
        rw [hI, List.drop_drop] at hst
        rw [hI] at h h2 hil ⊢
        obtain ⟨⟨k, n⟩, hkn⟩ : ∃ r, M.lex1 (L.drop (a + I)) = r := ⟨_, rfl⟩
        rw [hkn] at h h2
        simp only at h h2
        have hle := M.lex1_le (L.drop (a + I))
        rw [hkn, List.length_drop] at hle
        simp only at hle
        cases hc : M.scan f (a + I + n) (M.mv p ((L.drop a).take (I + n))) (M.mv p ((L.drop a).take I)).1 (L.drop (a + (I + n))) with
        | inl e => rw [hc] at h; simp at h
        | inr ts' =>
          rw [hc] at h
          simp only [Sum.inr.injEq] at h
          subst h
          rw [← Nat.add_assoc] at hc
          have ih := scan_segs L f (a + I + n) _ _ ts' hc (by omega)
          refine ⟨rfl, fun i hi => ?_⟩
          match i, hi with
          | 0, _ =>
            rw [segAt_succ, ih.1]
            show a + I ≤ _ ∧ M.scanAll ((L.drop (a + I)).take (a + I + n + M.idleAll (L.drop (a + I + n)) - (a + I))) = _
            have he : a + I + n + M.idleAll (L.drop (a + I + n)) - (a + I) = n + M.idleAll (L.drop (a + I + n)) := by omega
            refine ⟨by omega, ?_⟩
            rw [he]
            unfold M.scanAll
            rw [scan_one _ 0 (1, 1) 0 (L.drop (a + I)) n (M.idleAll (L.drop (a + I + n))) k hst hkn h2 (by rw [List.drop_drop]) (by rw [List.length_take, List.length_drop]; omega)]
            rfl
          | i + 1, hi =>
            have hi' : i < ts'.length := by simpa using hi
            rw [segAt_succ]
            exact ih.2 i hi'

theorem all_segs (L : List UInt8) (ts : List M.Tk) (h : M.scanAll L = .inr ts) :
    M.scanAll (L.take (segAt ts L.length 0)) = .inr [] ∧
    ∀ i (h : i < ts.length), ts[i].pos ≤ segAt ts L.length (i + 1) ∧ M.scanAll ((L.drop ts[i].pos).take (segAt ts L.length (i + 1) - ts[i].pos)) = .inr [⟨ts[i].t, 0, 1, 1, true⟩] := by
  have := scan_segs L (L.length + 1) 0 (1, 1) 0 ts h (Nat.zero_le _)
  refine ⟨?_, this.2⟩
  rw [this.1, Nat.zero_add, List.drop_zero]
  exact scan_idle _ _ _ _ _ (by omega)

theorem segAt_le (n : Nat) (ts : List M.Tk) (h : Placed 0 n 0 ts) (i : Nat) : segAt ts n i ≤ n := by
  unfold segAt
  split
  · rename_i hi; have := (h i hi).2.1; omega
  · exact Nat.le_refl _

/-- A part of a text that may be may be. -/
theorem fb_all : ∀ (l : List UInt8) (i : Nat), fb l i = (0, 0) ↔ ∀ b ∈ l, okB b = true
  | [], i => by simp [fb]
  | b :: l, i => by
    unfold fb
    by_cases h : okB b = true
    · rw [if_pos h, fb_all l (i + 1)]; simp [h]
    · rw [if_neg h]; simp [h]
theorem chk_part (s X : ByteArray) (h : chk s = (0, 0)) (hl : X.size ≤ s.size) (hx : ∀ b ∈ X.data.toList, b ∈ s.data.toList) : chk X = (0, 0) := by
  unfold chk at h ⊢
  by_cases h1 : 65536 < s.size
  · rw [if_pos h1] at h; simp at h
  · rw [if_neg h1, fb_all] at h
    rw [if_neg (by omega), fb_all]
    exact fun b hb => h b (hx b hb)
theorem chk_extract (s : ByteArray) (a e : Nat) (h : chk s = (0, 0)) : chk (s.extract a e) = (0, 0) := by
  have he : (s.extract a e).data.toList = (s.data.toList.drop a).take (e - a) := by rw [Lib.extract_eq]
  refine chk_part s _ h ?_ ?_
  · rw [Lib.size_eq, he, List.length_take, List.length_drop, ← Lib.size_eq]; omega
  · intro b hb
    rw [he] at hb
    exact List.mem_of_mem_drop (List.mem_of_mem_take hb)

theorem chk_cases (s : ByteArray) : chk s = (0, 0) ∨ (chk s).1 ≠ 0 := by
  by_cases h : (chk s).1 = 0
  · left
    have key : ∀ (l : List UInt8) (i : Nat), (fb l i).1 = 0 → fb l i = (0, 0) := by
      intro l
      induction l with
      | nil => intro i _; rfl
      | cons b l ih =>
        intro i h
        unfold fb at h ⊢
        split
        · rename_i h1; rw [if_pos h1] at h; exact ih _ h
        · rename_i h1; rw [if_neg h1] at h; simp at h
    unfold chk at h ⊢
    split
    · rename_i h1; rw [if_pos h1] at h; simp at h
    · rename_i h1; rw [if_neg h1] at h; exact key _ _ h
  · exact .inr h

end Go.Proofs.YtpidccdgkkcljaaGreatDoor
