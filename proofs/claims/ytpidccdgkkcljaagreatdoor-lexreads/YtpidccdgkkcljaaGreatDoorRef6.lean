/-
  The document's reading of characters, by contracts.
-/
import Derived.Test.YtpidccdgkkcljaaGreatDoorRef5
namespace Go.Proofs.YtpidccdgkkcljaaGreatDoor
open Go.RowKit Go.Shelf
set_option linter.unusedVariables false

theorem charR_digN (q b c : UInt8) (r : List UInt8) (hq : q.toNat ≠ 92) (hb : b.toNat = 92) (hc : M.digB c = true) : M.charR q (b :: c :: r) = if (M.numR 10 (c :: r)).2.2 = false ∨ 255 < (M.numR 10 (c :: r)).1 then (0, 0) else ((M.numR 10 (c :: r)).1, (M.numR 10 (c :: r)).2.1 + 1) := by
  have hcz : M.cnt (M.dig 10) (c :: r) ≠ 0 := by rw [M.dig10]; simp [M.cnt, hc]
  rw [M.charR_dig q b c r hq hb hc]
  unfold M.numR
  generalize M.val 10 0 ((c :: r).take (M.cnt (M.dig 10) (c :: r))) = v
  generalize M.cnt (M.dig 10) (c :: r) = n at *
  by_cases h : 2 ^ 63 ≤ v
  · rw [if_pos h, if_pos (Or.inr (by omega))]; simp
  · rw [if_neg h]
    by_cases h2 : 2 ^ 8 ≤ v
    · rw [if_pos (Or.inr h2), if_pos (Or.inr (by simp only; omega))]
    · rw [if_neg (by omega), if_neg]
      rintro (h | h)
      · simp at h
      · simp only at h; omega
theorem charR_xN (q b c : UInt8) (r : List UInt8) (hq : q.toNat ≠ 92) (hb : b.toNat = 92) (hc : c.toNat = 120) : M.charR q (b :: c :: r) = if (M.numR 16 r).2.2 = false ∨ (M.numR 16 r).2.1 = 0 ∨ 255 < (M.numR 16 r).1 then (0, 0) else ((M.numR 16 r).1, (M.numR 16 r).2.1 + 2) := by
  rw [M.charR_x q b c r hq hb hc]
  unfold M.numR
  generalize M.val 16 0 (r.take (M.cnt (M.dig 16) r)) = v
  generalize M.cnt (M.dig 16) r = n
  by_cases h : 2 ^ 63 ≤ v
  · rw [if_pos h, if_pos (Or.inr (by omega))]; simp
  · rw [if_neg h]
    by_cases h2 : n = 0 ∨ 2 ^ 8 ≤ v
    · rw [if_pos h2, if_pos]
      rcases h2 with h2 | h2
      · exact .inr (.inl h2)
      · exact .inr (.inr (by simp only; omega))
    · rw [if_neg h2, if_neg]
      rintro (h | h | h)
      · simp at h
      · exact h2 (.inl h)
      · simp only at h; omega
theorem numR_bounds (B : Nat) (l : List UInt8) : 0 ≤ (M.numR B l).1 ∧ (M.numR B l).1 ≤ 9223372036854775807 ∧ (M.numR B l).2.1 ≤ l.length := by
  unfold M.numR
  have := M.cnt_le (M.dig B) l
  split
  · simp
  · simp only; omega
/-- What the document's character answers, as a value. -/
def charV (r : Int × Nat) : Value := .tuple #[.int .i64 r.1, .int .i64 (r.2 : Int)]

/-- Where the reading of blanks stands. -/
def BlankAt (s : ByteArray) (a k : Nat) : Prop := 1 ≤ k ∧ a + k ≤ s.size ∧ M.cnt M.blankB (s.data.toList.drop (a + 1)) = (k - 1) + M.cnt M.blankB (s.data.toList.drop (a + k))
theorem blankAt_next {s : ByteArray} {a k : Nat} (h : BlankAt s a k) (hk : a + k < s.size) (hb : M.blankB s[a + k] = true) : BlankAt s a (k + 1) := by
  obtain ⟨h1, h2, h3⟩ := h
  refine ⟨by omega, by omega, ?_⟩
  rw [h3, drop_one s (a + k) hk]
  simp only [M.cnt, hb, if_true]
  rw [Nat.add_assoc a k 1]; omega
theorem blankAt_end {s : ByteArray} {a k : Nat} (h : BlankAt s a k) (h0 : M.cnt M.blankB (s.data.toList.drop (a + k)) = 0) : M.cnt M.blankB (s.data.toList.drop (a + 1)) + 1 = k := by
  obtain ⟨h1, h2, h3⟩ := h
  omega

set_option maxRecDepth 100000 in
set_option maxHeartbeats 8000000 in
theorem rChar34_a (s : ByteArray) (a : Nat) (hs : s.size ≤ 70000) (ha : a ≤ s.size) (w : World) (hbad : ∀ h : a < s.size, s[a] = 34 ∨ M.plainB s[a] = false ∨ s[a].toNat ≠ 92 ∨ s.size ≤ a + 1) :
    Calls Tryz.prog 98 #[.string s, .int .i64 (a : Int), .int .u8 34] w fun e w' => e = .returned (charV (M.charR 34 (s.data.toList.drop a))) ∧ Below w.heap.size w w' := by
  have hdep : Tryz.prog.follows Departure.mixedOrders = true := by kernel_rfl
  have hai : (a : Int) ≤ 70000 := by omega
  by_cases hlt : a < s.size
  · have hlti : (a : Int) < s.size := by omega
    have HD : Hid (s.data.toList.drop a = s[a] :: s.data.toList.drop (a + 1)) := drop_one s a hlt
    have hb := hbad hlt
    clear hbad hs ha
    by_cases h1 : s[a].toNat < 32
    · have HR : Hid (M.charR 34 (s.data.toList.drop a) = (0, 0)) := by
        show _ = _
        rw [HD.out]; exact M.charR_bad _ _ _ (by decide) (.inr (by simp [M.plainB]; omega))
      have h1i : (s[a].toNat : Int) < 32 := by omega
      clear hb h1 HD
      go_enter Tryz.func98, Tryz.ntmps98
      go_wp2
      go_ret2
      exact ⟨by rw [HR.out]; rfl, Below.refl _ _⟩
    have h1i : (32 : Int) ≤ s[a].toNat := by omega
    by_cases h2 : 126 < s[a].toNat
    · have HR : Hid (M.charR 34 (s.data.toList.drop a) = (0, 0)) := by
        show _ = _
        rw [HD.out]; exact M.charR_bad _ _ _ (by decide) (.inr (by simp [M.plainB]; omega))
      have h2i : (126 : Int) < s[a].toNat := by omega
      clear hb h1 h2 HD
      go_enter Tryz.func98, Tryz.ntmps98
      go_wp2
      go_ret2
      exact ⟨by rw [HR.out]; rfl, Below.refl _ _⟩
    have h2i : (s[a].toNat : Int) ≤ 126 := by omega
    have hpl : M.plainB s[a] = true := by simp [M.plainB]; omega
    clear h1 h2
    by_cases h3 : s[a] = 34
    · have HR : Hid (M.charR 34 (s.data.toList.drop a) = (0, 0)) := by
        show _ = _
        rw [HD.out]; exact M.charR_bad _ _ _ (by decide) (.inl h3)
      have q3 : ((s[a].toNat : Int) == 34) = true := by rw [h3]; rfl
      clear hb h3 HD hpl
      go_enter Tryz.func98, Tryz.ntmps98
      go_wp2
      go_ret2
      exact ⟨by rw [HR.out]; rfl, Below.refl _ _⟩
    have q3 : ((s[a].toNat : Int) == 34) = false := beq_eq_false_iff_ne.2 (fun h => h3 (UInt8.toNat_inj.1 (by show _ = 34; omega)))
    by_cases h4 : s[a].toNat = 92
    · have hone : s.size ≤ a + 1 := by
        rcases hb with h | h | h | h
        · exact absurd h h3
        · rw [hpl] at h; simp at h
        · exact absurd h4 h
        · exact h
      have HR : Hid (M.charR 34 (s.data.toList.drop a) = (0, 0)) := by
        show _ = _
        rw [HD.out, List.drop_eq_nil_of_le (by rw [← Lib.size_eq]; exact hone)]; exact M.charR_one _ _ (by decide) h4
      have q4 : ((s[a].toNat : Int) == 92) = true := beq_iff_eq.2 (by omega)
      have hge : (s.size : Int) ≤ (a : Int) + 1 := by omega
      clear hb h3 HD hpl h4 hone
      go_enter Tryz.func98, Tryz.ntmps98
      go_wp2
      go_ret2
      exact ⟨by rw [HR.out]; rfl, Below.refl _ _⟩
    · have HR : Hid (M.charR 34 (s.data.toList.drop a) = ((s[a].toNat : Int), 1)) := by
        show _ = _
        rw [HD.out]; exact M.charR_plain _ _ _ h3 hpl h4
      have q4 : ((s[a].toNat : Int) == 92) = false := beq_eq_false_iff_ne.2 (by omega)
      clear hb h3 HD hpl h4
      go_enter Tryz.func98, Tryz.ntmps98
      go_wp2
      go_ret2
      exact ⟨by rw [HR.out]; rfl, Below.refl _ _⟩
  · have HR : Hid (M.charR 34 (s.data.toList.drop a) = (0, 0)) := by
      show _ = _
      rw [List.drop_eq_nil_of_le (by rw [← Lib.size_eq]; omega)]; exact M.charR_nil _
    have hge : (s.size : Int) ≤ a := by omega
    clear hbad hlt hs ha
    go_enter Tryz.func98, Tryz.ntmps98
    go_wp2
    go_ret2
    exact ⟨by rw [HR.out]; rfl, Below.refl _ _⟩

set_option maxRecDepth 100000 in
set_option maxHeartbeats 8000000 in
theorem rChar39_a (s : ByteArray) (a : Nat) (hs : s.size ≤ 70000) (ha : a ≤ s.size) (w : World) (hbad : ∀ h : a < s.size, s[a] = 39 ∨ M.plainB s[a] = false ∨ s[a].toNat ≠ 92 ∨ s.size ≤ a + 1) :
    Calls Tryz.prog 98 #[.string s, .int .i64 (a : Int), .int .u8 39] w fun e w' => e = .returned (charV (M.charR 39 (s.data.toList.drop a))) ∧ Below w.heap.size w w' := by
  have hdep : Tryz.prog.follows Departure.mixedOrders = true := by kernel_rfl
  have hai : (a : Int) ≤ 70000 := by omega
  by_cases hlt : a < s.size
  · have hlti : (a : Int) < s.size := by omega
    have HD : Hid (s.data.toList.drop a = s[a] :: s.data.toList.drop (a + 1)) := drop_one s a hlt
    have hb := hbad hlt
    clear hbad hs ha
    by_cases h1 : s[a].toNat < 32
    · have HR : Hid (M.charR 39 (s.data.toList.drop a) = (0, 0)) := by
        show _ = _
        rw [HD.out]; exact M.charR_bad _ _ _ (by decide) (.inr (by simp [M.plainB]; omega))
      have h1i : (s[a].toNat : Int) < 32 := by omega
      clear hb h1 HD
      go_enter Tryz.func98, Tryz.ntmps98
      go_wp2
      go_ret2
      exact ⟨by rw [HR.out]; rfl, Below.refl _ _⟩
    have h1i : (32 : Int) ≤ s[a].toNat := by omega
    by_cases h2 : 126 < s[a].toNat
    · have HR : Hid (M.charR 39 (s.data.toList.drop a) = (0, 0)) := by
        show _ = _
        rw [HD.out]; exact M.charR_bad _ _ _ (by decide) (.inr (by simp [M.plainB]; omega))
      have h2i : (126 : Int) < s[a].toNat := by omega
      clear hb h1 h2 HD
      go_enter Tryz.func98, Tryz.ntmps98
      go_wp2
      go_ret2
      exact ⟨by rw [HR.out]; rfl, Below.refl _ _⟩
    have h2i : (s[a].toNat : Int) ≤ 126 := by omega
    have hpl : M.plainB s[a] = true := by simp [M.plainB]; omega
    clear h1 h2
    by_cases h3 : s[a] = 39
    · have HR : Hid (M.charR 39 (s.data.toList.drop a) = (0, 0)) := by
        show _ = _
        rw [HD.out]; exact M.charR_bad _ _ _ (by decide) (.inl h3)
      have q3 : ((s[a].toNat : Int) == 39) = true := by rw [h3]; rfl
      clear hb h3 HD hpl
      go_enter Tryz.func98, Tryz.ntmps98
      go_wp2
      go_ret2
      exact ⟨by rw [HR.out]; rfl, Below.refl _ _⟩
    have q3 : ((s[a].toNat : Int) == 39) = false := beq_eq_false_iff_ne.2 (fun h => h3 (UInt8.toNat_inj.1 (by show _ = 39; omega)))
    by_cases h4 : s[a].toNat = 92
    · have hone : s.size ≤ a + 1 := by
        rcases hb with h | h | h | h
        · exact absurd h h3
        · rw [hpl] at h; simp at h
        · exact absurd h4 h
        · exact h
      have HR : Hid (M.charR 39 (s.data.toList.drop a) = (0, 0)) := by
        show _ = _
        rw [HD.out, List.drop_eq_nil_of_le (by rw [← Lib.size_eq]; exact hone)]; exact M.charR_one _ _ (by decide) h4
      have q4 : ((s[a].toNat : Int) == 92) = true := beq_iff_eq.2 (by omega)
      have hge : (s.size : Int) ≤ (a : Int) + 1 := by omega
      clear hb h3 HD hpl h4 hone
      go_enter Tryz.func98, Tryz.ntmps98
      go_wp2
      go_ret2
      exact ⟨by rw [HR.out]; rfl, Below.refl _ _⟩
    · have HR : Hid (M.charR 39 (s.data.toList.drop a) = ((s[a].toNat : Int), 1)) := by
        show _ = _
        rw [HD.out]; exact M.charR_plain _ _ _ h3 hpl h4
      have q4 : ((s[a].toNat : Int) == 92) = false := beq_eq_false_iff_ne.2 (by omega)
      clear hb h3 HD hpl h4
      go_enter Tryz.func98, Tryz.ntmps98
      go_wp2
      go_ret2
      exact ⟨by rw [HR.out]; rfl, Below.refl _ _⟩
  · have HR : Hid (M.charR 39 (s.data.toList.drop a) = (0, 0)) := by
      show _ = _
      rw [List.drop_eq_nil_of_le (by rw [← Lib.size_eq]; omega)]; exact M.charR_nil _
    have hge : (s.size : Int) ≤ a := by omega
    clear hbad hlt hs ha
    go_enter Tryz.func98, Tryz.ntmps98
    go_wp2
    go_ret2
    exact ⟨by rw [HR.out]; rfl, Below.refl _ _⟩

end Go.Proofs.YtpidccdgkkcljaaGreatDoor
