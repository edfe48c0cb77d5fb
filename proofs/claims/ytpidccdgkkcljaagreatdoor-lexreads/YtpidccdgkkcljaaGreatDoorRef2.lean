/-
  The document's own counting of a name's bytes, by a contract.
-/
import Derived.Test.YtpidccdgkkcljaaGreatDoorRef1
namespace Go.Proofs.YtpidccdgkkcljaaGreatDoor
open Go.RowKit Go.Shelf
set_option linter.unusedVariables false

theorem inName_eq (b : UInt8) : M.inName b = (M.begName b || M.capB b || M.digB b || decide (b.toNat = 39)) := by
  unfold M.inName M.begName M.capB M.digB
  rw [Bool.eq_iff_iff]; simp; omega

set_option maxRecDepth 100000 in
set_option maxHeartbeats 4000000 in
theorem rRun_c (s : ByteArray) (a : Nat) (hs : s.size ≤ 70000) (ha : a ≤ s.size) (w : World) :
    Calls Tryz.prog 69 #[.string s, .int .i64 (a : Int)] w fun e w' => e = .returned (.int .i64 (M.cnt M.inName (s.data.toList.drop a) : Nat)) ∧ w' = w := by
  have HS : Hid (s.size ≤ 70000 ∧ a ≤ s.size) := ⟨hs, ha⟩
  clear hs ha
  go_enter Tryz.func69, Tryz.ntmps69
  go_wp2
  go_loop [5] (fun i => ∃ k : Nat, a + k ≤ s.size ∧ i = .int .i64 k ∧ Hid (M.cnt M.inName (s.data.toList.drop a) = k + M.cnt M.inName (s.data.toList.drop (a + k)))) (fun i => s.size - a - (intOf i).toNat)
  case atStart => exact ⟨0, by have := HS.out; omega, rfl, (by simp : M.cnt M.inName (s.data.toList.drop a) = 0 + M.cnt M.inName (s.data.toList.drop (a + 0)))⟩
  case round =>
    obtain ⟨k, hk, rfl, hf⟩ := hrel
    have HK : Hid (a + k ≤ s.size) := hk
    have hki : (a : Int) + k ≤ 70000 := by have := HS.out; omega
    clear hk
    by_cases hlt : a + k < s.size
    · have hd : Hid (s.data.toList.drop (a + k) = s[a + k] :: s.data.toList.drop (a + (k + 1))) := by
        show _ = _
        rw [List.drop_eq_getElem_cons (by rw [← Lib.size_eq]; exact hlt)]; rfl
      have hlti : (a : Int) + k < s.size := by omega
      have HI : Hid (M.inName s[a + k] = (M.begName s[a + k] || M.capB s[a + k] || M.digB s[a + k] || decide (s[a + k].toNat = 39))) := inName_eq _
      have hcs : M.begName s[a + k] = true ∨ (M.begName s[a + k] = false ∧ M.capB s[a + k] = true) ∨ (M.begName s[a + k] = false ∧ M.capB s[a + k] = false ∧ M.digB s[a + k] = true) ∨ (M.begName s[a + k] = false ∧ M.capB s[a + k] = false ∧ M.digB s[a + k] = false) := by
        cases M.begName s[a + k] <;> cases M.capB s[a + k] <;> cases M.digB s[a + k] <;> simp
      rcases hcs with h1 | ⟨h1, h2⟩ | ⟨h1, h2, h3⟩ | ⟨h1, h2, h3⟩
      · have H1 : Hid (M.begName s[a + k] = true) := h1
        have hP : Hid (M.inName s[a + k] = true) := by show _ = _; rw [HI.out, h1]; simp
        clear HI h1
        go_wp2_with (first
          | (go_at_call 68; refine (rSmall_c s[a + k] _).mono ?_; rintro e w1 ⟨rfl, rfl⟩; rw [H1.out]))
        go_round
        case rel => exact ⟨k + 1, by omega, by go_num, (by rw [hf.out, hd.out]; simp [M.cnt, hP.out]; omega : M.cnt M.inName (s.data.toList.drop a) = (k + 1) + M.cnt M.inName (s.data.toList.drop (a + (k + 1))))⟩
        case measure => have := HS.out; simp [intOf]; omega
      · have H1 : Hid (M.begName s[a + k] = false) := h1
        have H2 : Hid (M.capB s[a + k] = true) := h2
        have hP : Hid (M.inName s[a + k] = true) := by show _ = _; rw [HI.out, h1, h2]; simp
        clear HI h1 h2
        go_wp2_with (first
          | (go_at_call 68; refine (rSmall_c s[a + k] _).mono ?_; rintro e w1 ⟨rfl, rfl⟩; rw [H1.out])
          | (go_at_call 70; refine (rCapital_c s[a + k] _).mono ?_; rintro e w2 ⟨rfl, rfl⟩; rw [H2.out]))
        go_round
        case rel => exact ⟨k + 1, by omega, by go_num, (by rw [hf.out, hd.out]; simp [M.cnt, hP.out]; omega : M.cnt M.inName (s.data.toList.drop a) = (k + 1) + M.cnt M.inName (s.data.toList.drop (a + (k + 1))))⟩
        case measure => have := HS.out; simp [intOf]; omega
      · have H1 : Hid (M.begName s[a + k] = false) := h1
        have H2 : Hid (M.capB s[a + k] = false) := h2
        have H3 : Hid (M.digB s[a + k] = true) := h3
        have hP : Hid (M.inName s[a + k] = true) := by show _ = _; rw [HI.out, h1, h2, h3]; simp
        clear HI h1 h2 h3
        go_wp2_with (first
          | (go_at_call 68; refine (rSmall_c s[a + k] _).mono ?_; rintro e w1 ⟨rfl, rfl⟩; rw [H1.out])
          | (go_at_call 70; refine (rCapital_c s[a + k] _).mono ?_; rintro e w2 ⟨rfl, rfl⟩; rw [H2.out])
          | (go_at_call 71; refine (rDigit_c s[a + k] _).mono ?_; rintro e w3 ⟨rfl, rfl⟩; rw [H3.out]))
        go_round
        case rel => exact ⟨k + 1, by omega, by go_num, (by rw [hf.out, hd.out]; simp [M.cnt, hP.out]; omega : M.cnt M.inName (s.data.toList.drop a) = (k + 1) + M.cnt M.inName (s.data.toList.drop (a + (k + 1))))⟩
        case measure => have := HS.out; simp [intOf]; omega
      · have H1 : Hid (M.begName s[a + k] = false) := h1
        have H2 : Hid (M.capB s[a + k] = false) := h2
        have H3 : Hid (M.digB s[a + k] = false) := h3
        by_cases h4 : s[a + k].toNat = 39
        · have h4i : ((s[a + k].toNat : Int) == 39) = true := beq_iff_eq.2 (by omega)
          have hP : Hid (M.inName s[a + k] = true) := by show _ = _; rw [HI.out, decide_eq_true h4]; simp
          clear HI h1 h2 h3 h4
          go_wp2_with (first
            | (go_at_call 68; refine (rSmall_c s[a + k] _).mono ?_; rintro e w1 ⟨rfl, rfl⟩; rw [H1.out])
            | (go_at_call 70; refine (rCapital_c s[a + k] _).mono ?_; rintro e w2 ⟨rfl, rfl⟩; rw [H2.out])
            | (go_at_call 71; refine (rDigit_c s[a + k] _).mono ?_; rintro e w3 ⟨rfl, rfl⟩; rw [H3.out]))
          go_round
          case rel => exact ⟨k + 1, by omega, by go_num, (by rw [hf.out, hd.out]; simp [M.cnt, hP.out]; omega : M.cnt M.inName (s.data.toList.drop a) = (k + 1) + M.cnt M.inName (s.data.toList.drop (a + (k + 1))))⟩
          case measure => have := HS.out; simp [intOf]; omega
        · have h4i : ((s[a + k].toNat : Int) == 39) = false := beq_eq_false_iff_ne.2 (by omega)
          have hP : Hid (M.inName s[a + k] = false) := by show _ = _; rw [HI.out, decide_eq_false h4, h1, h2, h3]; simp
          clear HI h1 h2 h3 h4
          go_wp2_with (first
            | (go_at_call 68; refine (rSmall_c s[a + k] _).mono ?_; rintro e w1 ⟨rfl, rfl⟩; rw [H1.out])
            | (go_at_call 70; refine (rCapital_c s[a + k] _).mono ?_; rintro e w2 ⟨rfl, rfl⟩; rw [H2.out])
            | (go_at_call 71; refine (rDigit_c s[a + k] _).mono ?_; rintro e w3 ⟨rfl, rfl⟩; rw [H3.out]))
          go_ret
          refine ⟨?_, rfl⟩
          rw [hf.out, hd.out]; simp [M.cnt, hP.out]
    · have hge : (s.size : Int) ≤ (a : Int) + k := by omega
      have he : a + k = s.size := by have := HK.out; omega
      have HE : Hid (a + k = s.size) := he
      clear he
      go_wp2
      go_ret
      refine ⟨?_, rfl⟩
      rw [hf.out, List.drop_eq_nil_of_le (by rw [HE.out, Lib.size_eq]; exact Nat.le_refl _)]; simp [M.cnt]

end Go.Proofs.YtpidccdgkkcljaaGreatDoor
