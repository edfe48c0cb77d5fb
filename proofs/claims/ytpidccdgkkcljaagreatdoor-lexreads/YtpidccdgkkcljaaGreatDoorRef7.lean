/-
  The document's reading of escaped characters, by contracts.
-/
import Derived.Test.YtpidccdgkkcljaaGreatDoorRef6
namespace Go.Proofs.YtpidccdgkkcljaaGreatDoor
open Go.RowKit Go.Shelf
set_option linter.unusedVariables false

set_option maxRecDepth 100000 in
set_option maxHeartbeats 8000000 in
theorem rChar34_b (s : ByteArray) (a : Nat) (hs : s.size ≤ 70000) (hl : a + 1 < s.size) (h92 : s[a].toNat = 92) (w : World) :
    Calls Tryz.prog 98 #[.string s, .int .i64 (a : Int), .int .u8 34] w fun e w' => e = .returned (charV (M.charR 34 (s.data.toList.drop a))) ∧ Below w.heap.size w w' := by
  have hdep : Tryz.prog.follows Departure.mixedOrders = true := by kernel_rfl
  have hai : (a : Int) ≤ 69999 := by omega
  have hlt : a < s.size := by omega
  have hlti : (a : Int) < s.size := by omega
  have hl1 : (a : Int) + 1 < s.size := by omega
  have HD : Hid (s.data.toList.drop a = s[a] :: s[a + 1] :: s.data.toList.drop (a + 2)) := drop_two s a hl
  have HD1 : Hid (s.data.toList.drop (a + 1) = s[a + 1] :: s.data.toList.drop (a + 2)) := drop_one s (a + 1) hl
  have HS : Hid (s.size ≤ 70000) := hs
  have H92 : Hid (s[a].toNat = 92) := h92
  have q4 : ((s[a].toNat : Int) == 92) = true := beq_iff_eq.2 (by omega)
  have q3 : ((s[a].toNat : Int) == 34) = false := beq_eq_false_iff_ne.2 (by omega)
  have h1i : (32 : Int) ≤ s[a].toNat := by omega
  have h2i : (s[a].toNat : Int) ≤ 126 := by omega
  clear h92 hs
  by_cases c110 : s[a + 1].toNat = 110
  · have HR : Hid (M.charR 34 (s.data.toList.drop a) = (10, 2)) := by
      show _ = _
      rw [HD.out]; exact M.charR_n _ _ _ _ (by decide) H92.out c110
    have e110 : ((s[a + 1].toNat : Int) == 110) = true := beq_iff_eq.2 (by omega)
    clear c110 HD HD1
    go_enter Tryz.func98, Tryz.ntmps98
    go_wp2
    go_ret2
    exact ⟨by rw [HR.out]; rfl, Below.refl _ _⟩
  have e110 : ((s[a + 1].toNat : Int) == 110) = false := beq_eq_false_iff_ne.2 (by omega)
  have C110 : Hid (s[a + 1].toNat ≠ 110) := c110
  clear c110
  by_cases c116 : s[a + 1].toNat = 116
  · have HR : Hid (M.charR 34 (s.data.toList.drop a) = (9, 2)) := by
      show _ = _
      rw [HD.out]; exact M.charR_t _ _ _ _ (by decide) H92.out c116
    have e116 : ((s[a + 1].toNat : Int) == 116) = true := beq_iff_eq.2 (by omega)
    clear c116 HD HD1
    go_enter Tryz.func98, Tryz.ntmps98
    go_wp2
    go_ret2
    exact ⟨by rw [HR.out]; rfl, Below.refl _ _⟩
  have e116 : ((s[a + 1].toNat : Int) == 116) = false := beq_eq_false_iff_ne.2 (by omega)
  have C116 : Hid (s[a + 1].toNat ≠ 116) := c116
  clear c116
  by_cases c92 : s[a + 1].toNat = 92
  · have HR : Hid (M.charR 34 (s.data.toList.drop a) = ((s[a + 1].toNat : Int), 2)) := by
      show _ = _
      rw [HD.out]; exact M.charR_self _ _ _ _ (by decide) H92.out (by omega)
    have e92 : ((s[a + 1].toNat : Int) == 92) = true := beq_iff_eq.2 (by omega)
    have hc255 : (s[a + 1].toNat : Int) ≤ 255 := by have := s[a + 1].toNat_lt; omega
    clear c92 HD HD1
    go_enter Tryz.func98, Tryz.ntmps98
    go_wp2
    go_ret2
    exact ⟨by rw [HR.out]; rfl, Below.refl _ _⟩
  have e92 : ((s[a + 1].toNat : Int) == 92) = false := beq_eq_false_iff_ne.2 (by omega)
  have C92 : Hid (s[a + 1].toNat ≠ 92) := c92
  clear c92
  by_cases c39 : s[a + 1].toNat = 39
  · have HR : Hid (M.charR 34 (s.data.toList.drop a) = ((s[a + 1].toNat : Int), 2)) := by
      show _ = _
      rw [HD.out]; exact M.charR_self _ _ _ _ (by decide) H92.out (by omega)
    have e39 : ((s[a + 1].toNat : Int) == 39) = true := beq_iff_eq.2 (by omega)
    have hc255 : (s[a + 1].toNat : Int) ≤ 255 := by have := s[a + 1].toNat_lt; omega
    clear c39 HD HD1
    go_enter Tryz.func98, Tryz.ntmps98
    go_wp2
    go_ret2
    exact ⟨by rw [HR.out]; rfl, Below.refl _ _⟩
  have e39 : ((s[a + 1].toNat : Int) == 39) = false := beq_eq_false_iff_ne.2 (by omega)
  have C39 : Hid (s[a + 1].toNat ≠ 39) := c39
  clear c39
  by_cases c34 : s[a + 1].toNat = 34
  · have HR : Hid (M.charR 34 (s.data.toList.drop a) = ((s[a + 1].toNat : Int), 2)) := by
      show _ = _
      rw [HD.out]; exact M.charR_self _ _ _ _ (by decide) H92.out (by omega)
    have e34 : ((s[a + 1].toNat : Int) == 34) = true := beq_iff_eq.2 (by omega)
    have hc255 : (s[a + 1].toNat : Int) ≤ 255 := by have := s[a + 1].toNat_lt; omega
    clear c34 HD HD1
    go_enter Tryz.func98, Tryz.ntmps98
    go_wp2
    go_ret2
    exact ⟨by rw [HR.out]; rfl, Below.refl _ _⟩
  have e34 : ((s[a + 1].toNat : Int) == 34) = false := beq_eq_false_iff_ne.2 (by omega)
  have C34 : Hid (s[a + 1].toNat ≠ 34) := c34
  clear c34
  cases hdg : M.digB s[a + 1] with
  | true =>
    have HG : Hid (M.digB s[a + 1] = true) := hdg
    have HR := charR_digN 34 s[a] s[a + 1] (s.data.toList.drop (a + 2)) (by decide) H92.out hdg
    rw [← HD.out, ← HD1.out] at HR
    have hnb := numR_bounds 10 (s.data.toList.drop (a + 1))
    rw [List.length_drop, ← Lib.size_eq] at hnb
    have HN : Hid (∀ w : World, Calls Tryz.prog 73 #[.string s, .int .i64 ((a : Int) + 1), .int .i64 10] w fun e w' => e = .returned (.tuple #[.int .i64 (M.numR 10 (s.data.toList.drop (a + 1))).1, .int .i64 ((M.numR 10 (s.data.toList.drop (a + 1))).2.1 : Nat), .bool (M.numR 10 (s.data.toList.drop (a + 1))).2.2]) ∧ w' = w) := fun w => by
      have := rNumber10_c s (a + 1) HS.out (by omega) w
      rw [show ((a + 1 : Nat) : Int) = (a : Int) + 1 by omega] at this
      exact this
    obtain ⟨⟨x, n, ok⟩, hnr⟩ : ∃ r, M.numR 10 (s.data.toList.drop (a + 1)) = r := ⟨_, rfl⟩
    rw [hnr] at HR hnb HN
    simp only at HR hnb HN
    have hni : (n : Int) ≤ 70000 := by have := HS.out; omega
    have hx0 : 0 ≤ x := hnb.1
    have hx1 : x ≤ 9223372036854775807 := hnb.2.1
    clear hdg hnr hnb HD HD1
    by_cases hbad : ok = false ∨ 255 < x
    · rw [if_pos hbad] at HR
      have HR' : Hid (M.charR 34 (s.data.toList.drop a) = (0, 0)) := HR
      clear HR
      cases ok with
      | false =>
        clear hbad
        go_enter Tryz.func98, Tryz.ntmps98
        go_wp2_with (first
          | (go_at_call 71; refine (rDigit_c s[a + 1] _).mono ?_; rintro e w1 ⟨rfl, rfl⟩; rw [HG.out])
          | (go_at_call 73; refine (HN.out _).mono ?_; rintro e w2 ⟨rfl, rfl⟩))
        go_ret2
        exact ⟨by rw [HR'.out]; rfl, Below.refl _ _⟩
      | true =>
        have hx : 255 < x := by rcases hbad with h | h; simp at h; exact h
        clear hbad
        go_enter Tryz.func98, Tryz.ntmps98
        go_wp2_with (first
          | (go_at_call 71; refine (rDigit_c s[a + 1] _).mono ?_; rintro e w1 ⟨rfl, rfl⟩; rw [HG.out])
          | (go_at_call 73; refine (HN.out _).mono ?_; rintro e w2 ⟨rfl, rfl⟩))
        go_ret2
        exact ⟨by rw [HR'.out]; rfl, Below.refl _ _⟩
    · rw [if_neg hbad] at HR
      have HR' : Hid (M.charR 34 (s.data.toList.drop a) = (x, n + 1)) := HR
      obtain rfl : ok = true := by cases ok; exact absurd (.inl rfl) hbad; rfl
      have hx : x ≤ 255 := by omega
      clear hbad HR
      go_enter Tryz.func98, Tryz.ntmps98
      go_wp2_with (first
        | (go_at_call 71; refine (rDigit_c s[a + 1] _).mono ?_; rintro e w1 ⟨rfl, rfl⟩; rw [HG.out])
        | (go_at_call 73; refine (HN.out _).mono ?_; rintro e w2 ⟨rfl, rfl⟩))
      go_ret2
      exact ⟨by rw [HR'.out]; rfl, Below.refl _ _⟩
  | false =>
  have HG : Hid (M.digB s[a + 1] = false) := hdg
  clear hdg
  by_cases c120 : s[a + 1].toNat = 120
  · have e120 : ((s[a + 1].toNat : Int) == 120) = true := beq_iff_eq.2 (by omega)
    have HR := charR_xN 34 s[a] s[a + 1] (s.data.toList.drop (a + 2)) (by decide) H92.out c120
    rw [← HD.out] at HR
    have hnb := numR_bounds 16 (s.data.toList.drop (a + 2))
    rw [List.length_drop, ← Lib.size_eq] at hnb
    have HN : Hid (∀ w : World, Calls Tryz.prog 73 #[.string s, .int .i64 ((a : Int) + 2), .int .i64 16] w fun e w' => e = .returned (.tuple #[.int .i64 (M.numR 16 (s.data.toList.drop (a + 2))).1, .int .i64 ((M.numR 16 (s.data.toList.drop (a + 2))).2.1 : Nat), .bool (M.numR 16 (s.data.toList.drop (a + 2))).2.2]) ∧ w' = w) := fun w => by
      have := rNumber16_c s (a + 2) HS.out (by omega) w
      rw [show ((a + 2 : Nat) : Int) = (a : Int) + 2 by omega] at this
      exact this
    obtain ⟨⟨x, n, ok⟩, hnr⟩ : ∃ r, M.numR 16 (s.data.toList.drop (a + 2)) = r := ⟨_, rfl⟩
    rw [hnr] at HR hnb HN
    simp only at HR hnb HN
    have hni : (n : Int) ≤ 70000 := by have := HS.out; omega
    have hx0 : 0 ≤ x := hnb.1
    have hx1 : x ≤ 9223372036854775807 := hnb.2.1
    clear c120 hnr hnb HD HD1
    by_cases hbad : ok = false ∨ n = 0 ∨ 255 < x
    · rw [if_pos hbad] at HR
      have HR' : Hid (M.charR 34 (s.data.toList.drop a) = (0, 0)) := HR
      clear HR
      cases ok with
      | false =>
        clear hbad
        go_enter Tryz.func98, Tryz.ntmps98
        go_wp2_with (first
          | (go_at_call 71; refine (rDigit_c s[a + 1] _).mono ?_; rintro e w1 ⟨rfl, rfl⟩; rw [HG.out])
          | (go_at_call 73; refine (HN.out _).mono ?_; rintro e w2 ⟨rfl, rfl⟩))
        go_ret2
        exact ⟨by rw [HR'.out]; rfl, Below.refl _ _⟩
      | true =>
        by_cases hn0 : n = 0
        · subst hn0
          clear hbad
          go_enter Tryz.func98, Tryz.ntmps98
          go_wp2_with (first
            | (go_at_call 71; refine (rDigit_c s[a + 1] _).mono ?_; rintro e w1 ⟨rfl, rfl⟩; rw [HG.out])
            | (go_at_call 73; refine (HN.out _).mono ?_; rintro e w2 ⟨rfl, rfl⟩))
          go_ret2
          exact ⟨by rw [HR'.out]; rfl, Below.refl _ _⟩
        · have en0 : ((n : Int) == 0) = false := beq_eq_false_iff_ne.2 (by omega)
          have hx : 255 < x := by rcases hbad with h | h | h; simp at h; exact absurd h hn0; exact h
          clear hbad hn0
          go_enter Tryz.func98, Tryz.ntmps98
          go_wp2_with (first
            | (go_at_call 71; refine (rDigit_c s[a + 1] _).mono ?_; rintro e w1 ⟨rfl, rfl⟩; rw [HG.out])
            | (go_at_call 73; refine (HN.out _).mono ?_; rintro e w2 ⟨rfl, rfl⟩))
          go_ret2
          exact ⟨by rw [HR'.out]; rfl, Below.refl _ _⟩
    · rw [if_neg hbad] at HR
      have HR' : Hid (M.charR 34 (s.data.toList.drop a) = (x, n + 2)) := HR
      obtain rfl : ok = true := by cases ok; exact absurd (.inl rfl) hbad; rfl
      have hx : x ≤ 255 := by omega
      have en0 : ((n : Int) == 0) = false := beq_eq_false_iff_ne.2 (by omega)
      clear hbad HR
      go_enter Tryz.func98, Tryz.ntmps98
      go_wp2_with (first
        | (go_at_call 71; refine (rDigit_c s[a + 1] _).mono ?_; rintro e w1 ⟨rfl, rfl⟩; rw [HG.out])
        | (go_at_call 73; refine (HN.out _).mono ?_; rintro e w2 ⟨rfl, rfl⟩))
      go_ret2
      exact ⟨by rw [HR'.out]; rfl, Below.refl _ _⟩
  have e120 : ((s[a + 1].toNat : Int) == 120) = false := beq_eq_false_iff_ne.2 (by omega)
  have C120 : Hid (s[a + 1].toNat ≠ 120) := c120
  clear c120
  by_cases c38 : s[a + 1].toNat = 38
  · have HR : Hid (M.charR 34 (s.data.toList.drop a) = (-1, 2)) := by
      show _ = _
      rw [HD.out]; exact M.charR_amp _ _ _ H92.out c38
    have e38 : ((s[a + 1].toNat : Int) == 38) = true := beq_iff_eq.2 (by omega)
    clear c38 HD HD1
    go_enter Tryz.func98, Tryz.ntmps98
    go_wp2_with (go_at_call 71; refine (rDigit_c s[a + 1] _).mono ?_; rintro e w1 ⟨rfl, rfl⟩; rw [HG.out])
    go_ret2
    exact ⟨by rw [HR.out]; rfl, Below.refl _ _⟩
  have e38 : ((s[a + 1].toNat : Int) == 38) = false := beq_eq_false_iff_ne.2 (by omega)
  cases hbl : M.blankB s[a + 1] with
  | false =>
    have HB : Hid (M.blankB s[a + 1] = false) := hbl
    have HR : Hid (M.charR 34 (s.data.toList.drop a) = (0, 0)) := by
      show _ = _
      rw [HD.out]; exact M.charR_none _ _ _ _ (by decide) H92.out C110.out C116.out (by have := C92.out; have := C39.out; have := C34.out; omega) C120.out HG.out (fun _ => ⟨c38, hbl⟩)
    clear HD HD1 hbl c38
    go_enter Tryz.func98, Tryz.ntmps98
    go_wp2_with (first
      | (go_at_call 71; refine (rDigit_c s[a + 1] _).mono ?_; rintro e w1 ⟨rfl, rfl⟩; rw [HG.out])
      | (go_at_call 65; refine (rBlank_c s[a + 1] _).mono ?_; rintro e w3 ⟨rfl, rfl⟩; rw [HB.out]))
    go_ret2
    exact ⟨by rw [HR.out]; rfl, Below.refl _ _⟩
  | true =>
    have HB : Hid (M.blankB s[a + 1] = true) := hbl
    have HR := M.charR_blank s[a] s[a + 1] (s.data.toList.drop (a + 2)) H92.out hbl
    rw [← HD.out, ← HD1.out, List.drop_drop] at HR
    have HR' : Hid (M.charR 34 (s.data.toList.drop a) = if [92].isPrefixOf (s.data.toList.drop (a + 1 + M.cnt M.blankB (s.data.toList.drop (a + 1)))) = true then (-1, M.cnt M.blankB (s.data.toList.drop (a + 1)) + 2) else (0, 0)) := HR
    clear HD HD1 hbl c38 HR
    have hsi : (s.size : Int) ≤ 70000 := by have := HS.out; omega
    go_enter Tryz.func98, Tryz.ntmps98
    go_wp2_with (first
      | (go_at_call 71; refine (rDigit_c s[a + 1] _).mono ?_; rintro e w1 ⟨rfl, rfl⟩; rw [HG.out])
      | (go_at_call 65; refine (rBlank_c s[a + 1] _).mono ?_; rintro e w3 ⟨rfl, rfl⟩; rw [HB.out]))
    clear e110 e116 e92 e39 e34 e120 e38 q4 q3 h1i h2i
    go_loop [15] (fun nv => ∃ k : Nat, nv = .int .i64 k ∧ Hid (BlankAt s a k)) (fun nv => s.size - a - (intOf nv).toNat)
    case atStart => exact ⟨1, rfl, (⟨Nat.le_refl _, by omega, by simp⟩ : BlankAt s a 1)⟩
    case round =>
      obtain ⟨k, rfl, HK⟩ := hrel
      have hki : (a : Int) + k ≤ 70000 := by have := HK.out.2.1; omega
      have hk0 : (k : Int) ≤ 70000 := by omega
      by_cases hlk : a + k < s.size
      · have hlki : (a : Int) + k < s.size := by omega
        cases hb : M.blankB s[a + k] with
        | true =>
          have HB2 : Hid (M.blankB s[a + k] = true) := hb
          have HK' : Hid (BlankAt s a (k + 1)) := blankAt_next HK.out hlk hb
          clear hb HK
          go_wp2_with (go_at_call 65; refine (rBlank_c s[a + k] _).mono ?_; rintro e w4 ⟨rfl, rfl⟩; rw [HB2.out])
          go_round
          case rel => exact ⟨k + 1, by go_num, HK'⟩
          case measure => simp [intOf]; omega
        | false =>
          have HB2 : Hid (M.blankB s[a + k] = false) := hb
          have hd1 := drop_one s (a + k) hlk
          have hkk := blankAt_end HK.out (by rw [hd1]; simp [M.cnt, hb])
          have HR2 := HR'.out
          rw [show a + 1 + M.cnt M.blankB (s.data.toList.drop (a + 1)) = a + k by omega, show M.cnt M.blankB (s.data.toList.drop (a + 1)) + 2 = k + 1 by omega, hd1, M.pref1] at HR2
          clear hb HK hd1 hkk
          by_cases c92 : s[a + k].toNat = 92
          · have e92 : ((s[a + k].toNat : Int) == 92) = true := beq_iff_eq.2 (by omega)
            rw [if_pos (beq_iff_eq.2 (UInt8.toNat_inj.1 (by rw [c92]; rfl)))] at HR2
            have HR3 : Hid (M.charR 34 (s.data.toList.drop a) = (-1, k + 1)) := HR2
            clear HR2 c92
            go_wp2_with (go_at_call 65; refine (rBlank_c s[a + k] _).mono ?_; rintro e w4 ⟨rfl, rfl⟩; rw [HB2.out])
            go_ret2
            exact ⟨by rw [HR3.out]; rfl, Below.refl _ _⟩
          · have e92 : ((s[a + k].toNat : Int) == 92) = false := beq_eq_false_iff_ne.2 (by omega)
            rw [if_neg (by rw [M.ne_byte c92 92 rfl]; simp)] at HR2
            have HR3 : Hid (M.charR 34 (s.data.toList.drop a) = (0, 0)) := HR2
            clear HR2 c92
            go_wp2_with (go_at_call 65; refine (rBlank_c s[a + k] _).mono ?_; rintro e w4 ⟨rfl, rfl⟩; rw [HB2.out])
            go_ret2
            exact ⟨by rw [HR3.out]; rfl, Below.refl _ _⟩
      · have hge : (s.size : Int) ≤ (a : Int) + k := by omega
        have hnil : s.data.toList.drop (a + k) = [] := List.drop_eq_nil_of_le (by rw [← Lib.size_eq]; omega)
        have hkk := blankAt_end HK.out (by rw [hnil]; rfl)
        have HR2 := HR'.out
        rw [show a + 1 + M.cnt M.blankB (s.data.toList.drop (a + 1)) = a + k by omega, hnil, if_neg (by simp)] at HR2
        have HR3 : Hid (M.charR 34 (s.data.toList.drop a) = (0, 0)) := HR2
        clear HR2 hnil hkk HK hlk
        go_wp2
        go_ret2
        exact ⟨by rw [HR3.out]; rfl, Below.refl _ _⟩

end Go.Proofs.YtpidccdgkkcljaaGreatDoor
