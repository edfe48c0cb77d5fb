/-
  What the document passes over, by contracts.
-/
import Derived.Test.YtpidccdgkkcljaaGreatDoorRef2
import Derived.Test.YtpidccdgkkcljaaGreatDoorRefM
namespace Go.Proofs.YtpidccdgkkcljaaGreatDoor
open Go.RowKit Go.Shelf
set_option linter.unusedVariables false

theorem nest_two (d n : Nat) (b c : UInt8) (l : List UInt8) : M.nest d n (b :: c :: l) = if b.toNat = 123 ∧ c.toNat = 45 then M.nest (d + 1) (n + 2) l else if b.toNat = 45 ∧ c.toNat = 125 then (if d = 1 then some (n + 2) else M.nest (d - 1) (n + 2) l) else M.nest d (n + 1) (c :: l) := by
  rw [M.nest]
theorem nest_short (d n : Nat) (l : List UInt8) (h : l.length ≤ 1) : M.nest d n l = none := by
  match l with
  | [] => rw [M.nest]; intro b c l h; cases h
  | [b] => rw [M.nest]; intro b' c l h; cases h
  | b :: c :: l => simp at h
theorem drop_two (s : ByteArray) (m : Nat) (h : m + 1 < s.size) : s.data.toList.drop m = s[m] :: s[m + 1] :: s.data.toList.drop (m + 2) := by
  rw [List.drop_eq_getElem_cons (by rw [← Lib.size_eq]; omega), List.drop_eq_getElem_cons (i := m + 1) (by rw [← Lib.size_eq]; exact h)]
  rfl
theorem drop_one (s : ByteArray) (m : Nat) (h : m < s.size) : s.data.toList.drop m = s[m] :: s.data.toList.drop (m + 1) := by
  rw [List.drop_eq_getElem_cons (by rw [← Lib.size_eq]; omega)]
  rfl
/-- A number, or -1. -/
def optI (o : Option Nat) : Int := match o with | some n => (n : Int) | none => -1
/-- Where the reading of a remark stands. -/
def NestAt (s : ByteArray) (a d m : Nat) : Prop := a ≤ m ∧ m ≤ s.size ∧ (1 ≤ d ∨ (m = a ∧ d = 0)) ∧ d ≤ m - a ∧ M.nest 0 0 (s.data.toList.drop a) = M.nest d (m - a) (s.data.toList.drop m)
theorem nestAt_open {s : ByteArray} {a d m : Nat} (h : NestAt s a d m) (hm : m + 1 < s.size) (h1 : s[m].toNat = 123) (h2 : s[m + 1].toNat = 45) : NestAt s a (d + 1) (m + 2) := by
  obtain ⟨p, q, r, r', e⟩ := h
  refine ⟨by omega, by omega, by omega, by omega, ?_⟩
  rw [e, drop_two s m hm, nest_two, if_pos ⟨h1, h2⟩, show m - a + 2 = m + 2 - a by omega]
theorem nestAt_shut {s : ByteArray} {a d m : Nat} (h : NestAt s a d m) (hm : m + 1 < s.size) (h1 : s[m].toNat = 45) (h2 : s[m + 1].toNat = 125) : if d = 1 then M.nest 0 0 (s.data.toList.drop a) = some (m + 2 - a) else (1 ≤ d → NestAt s a (d - 1) (m + 2)) := by
  obtain ⟨p, q, r, r', e⟩ := h
  rw [drop_two s m hm, nest_two, if_neg (by omega), if_pos ⟨h1, h2⟩] at e
  split
  · rename_i hd
    rw [e, if_pos hd, show m - a + 2 = m + 2 - a by omega]
  · rename_i hd
    intro h1
    refine ⟨by omega, by omega, by omega, by omega, ?_⟩
    rw [e, if_neg hd, show m - a + 2 = m + 2 - a by omega]
theorem nestAt_on {s : ByteArray} {a d m : Nat} (h : NestAt s a d m) (hd : 1 ≤ d) (hm : m + 1 < s.size) (h1 : ¬ (s[m].toNat = 123 ∧ s[m + 1].toNat = 45)) (h2 : ¬ (s[m].toNat = 45 ∧ s[m + 1].toNat = 125)) : NestAt s a d (m + 1) := by
  obtain ⟨p, q, r, r', e⟩ := h
  refine ⟨by omega, by omega, by omega, by omega, ?_⟩
  rw [e, drop_two s m hm, nest_two, if_neg h1, if_neg h2, drop_one s (m + 1) hm, show m - a + 1 = m + 1 - a by omega]
theorem nestAt_end {s : ByteArray} {a d m : Nat} (h : NestAt s a d m) (hm : ¬ m + 1 < s.size) : M.nest 0 0 (s.data.toList.drop a) = none := by
  obtain ⟨p, q, r, r', e⟩ := h
  rw [e, nest_short]
  rw [List.length_drop, ← Lib.size_eq]; omega

set_option maxRecDepth 100000 in
set_option maxHeartbeats 4000000 in
theorem rNested_c (s : ByteArray) (a : Nat) (hs : s.size ≤ 70000) (ha : a + 1 < s.size) (hb : s[a].toNat = 123) (hc : s[a + 1].toNat = 45) (w : World) :
    Calls Tryz.prog 66 #[.string s, .int .i64 (a : Int)] w fun e w' => e = .returned (.int .i64 (optI (M.nest 0 0 (s.data.toList.drop a)))) ∧ w' = w := by
  have HS : Hid (s.size ≤ 70000) := hs
  have hai : (a : Int) ≤ 70000 := by omega
  have H0 : Hid (s[a].toNat = 123 ∧ s[a + 1].toNat = 45) := ⟨hb, hc⟩
  clear hs hb hc
  go_enter Tryz.func66, Tryz.ntmps66
  go_wp2
  go_loop [5, 6] (fun dv iv => ∃ d m : Nat, dv = .int .i64 d ∧ iv = .int .i64 m ∧ Hid (NestAt s a d m)) (fun _ iv => s.size - (intOf iv).toNat)
  case atStart => exact ⟨0, a, rfl, rfl, (⟨Nat.le_refl _, by omega, .inr ⟨rfl, rfl⟩, by omega, by rw [Nat.sub_self]⟩ : NestAt s a 0 a)⟩
  case round =>
    obtain ⟨d, m, rfl, rfl, HN⟩ := hrel
    have hmi : (m : Int) ≤ 70000 := by have := HN.out.2.1; have := HS.out; omega
    have hdi : (d : Int) ≤ 70000 := by have := HN.out.2.1; have := HN.out.2.2.2.1; have := HS.out; omega
    by_cases hlt : m + 1 < s.size
    · have hlti : (m : Int) + 1 < s.size := by omega
      have hlt0 : m < s.size := by omega
      by_cases h1 : s[m].toNat = 123 ∧ s[m + 1].toNat = 45
      · have q1 : ((s[m].toNat : Int) == 123) = true := beq_iff_eq.2 (by omega)
        have q2 : ((s[m + 1].toNat : Int) == 45) = true := beq_iff_eq.2 (by omega)
        have HN' : Hid (NestAt s a (d + 1) (m + 2)) := nestAt_open HN.out hlt h1.1 h1.2
        clear h1
        go_wp2
        go_round
        case rel => exact ⟨d + 1, m + 2, by go_num, by go_num, HN'⟩
        case measure => simp [intOf]; omega
      · by_cases h2 : s[m].toNat = 45 ∧ s[m + 1].toNat = 125
        · have q1 : ((s[m].toNat : Int) == 123) = false := beq_eq_false_iff_ne.2 (by omega)
          have q2 : ((s[m].toNat : Int) == 45) = true := beq_iff_eq.2 (by omega)
          have q3 : ((s[m + 1].toNat : Int) == 125) = true := beq_iff_eq.2 (by omega)
          have hsh := nestAt_shut HN.out hlt h2.1 h2.2
          have hd1 : 1 ≤ d := by
            rcases HN.out.2.2.1 with h | ⟨h, _⟩
            · exact h
            · subst h; have := H0.out.1; omega
          have HM : Hid (a ≤ m) := HN.out.1
          clear h1 h2
          by_cases hd : d = 1
          · rw [if_pos hd] at hsh
            have HR : Hid (M.nest 0 0 (s.data.toList.drop a) = some (m + 2 - a)) := hsh
            subst hd
            clear hsh HN hd1
            go_wp2
            go_ret
            refine ⟨?_, rfl⟩
            rw [HR.out]
            exact ret_int (by show _ = ((m + 2 - a : Nat) : Int); have := HM.out; omega)
          · rw [if_neg hd] at hsh
            have HN' : Hid (NestAt s a (d - 1) (m + 2)) := hsh hd1
            have qd : (((d : Int) - 1) == 0) = false := beq_eq_false_iff_ne.2 (by omega)
            have HD : Hid (1 ≤ d) := hd1
            clear hsh hd HN
            go_wp2
            go_round
            case rel => exact ⟨d - 1, m + 2, by have := HD.out; go_num, by go_num, HN'⟩
            case measure => simp [intOf]; omega
        · have hd1 : 1 ≤ d := by
            rcases HN.out.2.2.1 with h | ⟨h, _⟩
            · exact h
            · subst h; exact absurd H0.out h1
          have HN' : Hid (NestAt s a d (m + 1)) := nestAt_on HN.out hd1 hlt h1 h2
          clear HN hd1
          by_cases c1 : s[m].toNat = 123
          · have q1 : ((s[m].toNat : Int) == 123) = true := beq_iff_eq.2 (by omega)
            have q2 : ((s[m + 1].toNat : Int) == 45) = false := beq_eq_false_iff_ne.2 (by omega)
            have q3 : ((s[m].toNat : Int) == 45) = false := beq_eq_false_iff_ne.2 (by omega)
            clear h1 h2 c1
            go_wp2
            go_round
            case rel => exact ⟨d, m + 1, by go_num, by go_num, HN'⟩
            case measure => simp [intOf]; omega
          · have q1 : ((s[m].toNat : Int) == 123) = false := beq_eq_false_iff_ne.2 (by omega)
            by_cases c2 : s[m].toNat = 45
            · have q2 : ((s[m].toNat : Int) == 45) = true := beq_iff_eq.2 (by omega)
              have q3 : ((s[m + 1].toNat : Int) == 125) = false := beq_eq_false_iff_ne.2 (by omega)
              clear h1 h2 c1 c2
              go_wp2
              go_round
              case rel => exact ⟨d, m + 1, by go_num, by go_num, HN'⟩
              case measure => simp [intOf]; omega
            · have q2 : ((s[m].toNat : Int) == 45) = false := beq_eq_false_iff_ne.2 (by omega)
              clear h1 h2 c1 c2
              go_wp2
              go_round
              case rel => exact ⟨d, m + 1, by go_num, by go_num, HN'⟩
              case measure => simp [intOf]; omega
    · have hge : (s.size : Int) ≤ (m : Int) + 1 := by omega
      have HR : Hid (M.nest 0 0 (s.data.toList.drop a) = none) := nestAt_end HN.out hlt
      clear hlt HN
      go_wp2
      go_ret
      refine ⟨?_, rfl⟩
      rw [HR.out]
      rfl


end Go.Proofs.YtpidccdgkkcljaaGreatDoor
