/-
  The document's reading of numbers, by contracts.
-/
import Derived.Test.YtpidccdgkkcljaaGreatDoorRef4
import Derived.OwnWalk
namespace Go.Proofs.YtpidccdgkkcljaaGreatDoor
open Go.RowKit Go.Shelf
set_option linter.unusedVariables false

theorem hexI_dig10 (b : UInt8) : (M.dig 10 b = true → hexI b = (M.hexv b : Int) ∧ M.hexv b < 10) ∧ (M.dig 10 b = false → hexI b < 0 ∨ (10 : Int) ≤ hexI b) := by
  have := M.all256 (fun b => decide ((M.dig 10 b = true → hexI b = (M.hexv b : Int) ∧ M.hexv b < 10) ∧ (M.dig 10 b = false → hexI b < 0 ∨ (10 : Int) ≤ hexI b))) (by decide +kernel) b
  exact of_decide_eq_true this
/-- Where the reading of a number stands. -/
def NumAt10 (s : ByteArray) (a x k : Nat) : Prop := a + k ≤ s.size ∧ x < 2 ^ 63 ∧ x = M.val 10 0 ((s.data.toList.drop a).take k) ∧ M.cnt (M.dig 10) (s.data.toList.drop a) = k + M.cnt (M.dig 10) (s.data.toList.drop (a + k))
theorem numAt10_end {s : ByteArray} {a x k : Nat} (h : NumAt10 s a x k) (h0 : M.cnt (M.dig 10) (s.data.toList.drop (a + k)) = 0) : M.numR 10 (s.data.toList.drop a) = ((x : Int), k, true) := by
  obtain ⟨h1, h2, h3, h4⟩ := h
  rw [h0, Nat.add_zero] at h4
  unfold M.numR
  rw [h4, ← h3, if_neg (by omega)]
theorem numAt10_step {s : ByteArray} {a x k : Nat} (h : NumAt10 s a x k) (hk : a + k < s.size) (hd : M.dig 10 s[a + k] = true) : (x * 10 + M.hexv s[a + k] < 2 ^ 63 → NumAt10 s a (x * 10 + M.hexv s[a + k]) (k + 1)) ∧ (¬ x * 10 + M.hexv s[a + k] < 2 ^ 63 → M.numR 10 (s.data.toList.drop a) = (0, 0, false)) := by
  obtain ⟨h1, h2, h3, h4⟩ := h
  have hdr := drop_one s (a + k) hk
  have hdr' : (s.data.toList.drop a).drop k = s[a + k] :: s.data.toList.drop (a + k + 1) := by rw [List.drop_drop]; exact hdr
  have hv := M.val_snoc 10 _ _ k _ hdr'
  rw [← h3] at hv
  have hc : M.cnt (M.dig 10) (s.data.toList.drop a) = k + 1 + M.cnt (M.dig 10) (s.data.toList.drop (a + (k + 1))) := by
    rw [h4, hdr]
    simp only [M.cnt, hd, if_true]
    rw [Nat.add_assoc a k 1]; omega
  constructor
  · intro hx
    exact ⟨by omega, hx, hv.symm, hc⟩
  · intro hx
    unfold M.numR
    rw [if_pos]
    refine Nat.le_trans ?_ (M.val_part 10 (by decide) _ (k + 1) _ (by rw [hc]; omega))
    rw [hv]; omega
set_option maxRecDepth 100000 in
set_option maxHeartbeats 4000000 in
theorem rNumber10_c (s : ByteArray) (a : Nat) (hs : s.size ≤ 70000) (ha : a ≤ s.size) (w : World) :
    Calls Tryz.prog 73 #[.string s, .int .i64 (a : Int), .int .i64 10] w fun e w' => e = .returned (.tuple #[.int .i64 (M.numR 10 (s.data.toList.drop a)).1, .int .i64 ((M.numR 10 (s.data.toList.drop a)).2.1 : Nat), .bool (M.numR 10 (s.data.toList.drop a)).2.2]) ∧ w' = w := by
  have HS : Hid (s.size ≤ 70000 ∧ a ≤ s.size) := ⟨hs, ha⟩
  clear hs ha
  go_enter Tryz.func73, Tryz.ntmps73
  go_wp2
  go_loop [9, 10] (fun xv nv => ∃ x k : Nat, xv = .int .i64 x ∧ nv = .int .i64 k ∧ Hid (NumAt10 s a x k)) (fun _ nv => s.size - a - (intOf nv).toNat)
  case atStart => exact ⟨0, 0, rfl, rfl, (⟨by have := HS.out; omega, by decide, rfl, by rw [Nat.zero_add, Nat.add_zero]⟩ : NumAt10 s a 0 0)⟩
  case round =>
    obtain ⟨x, k, rfl, rfl, HN⟩ := hrel
    have hki : (a : Int) + k ≤ 70000 := by have := HS.out; have := HN.out.1; omega
    have hxi : (x : Int) ≤ 9223372036854775807 := by have := HN.out.2.1; omega
    by_cases hlt : a + k < s.size
    · have hlti : (a : Int) + k < s.size := by omega
      have hdd := hexI_dig10 s[a + k]
      cases hd : M.dig 10 s[a + k] with
      | true =>
        obtain ⟨hx1, hx2⟩ := hdd.1 hd
        have hst := numAt10_step HN.out hlt hd
        obtain ⟨v, hv⟩ : ∃ v, M.hexv s[a + k] = v := ⟨_, rfl⟩
        rw [hv] at hx1 hx2 hst
        have HX : Hid (hexI s[a + k] = (v : Int)) := hx1
        have hvi : (v : Int) < 10 := by omega
        clear hdd hx1 hv hd HN
        by_cases hov : x * 10 + v < 2 ^ 63
        · have HN' : Hid (NumAt10 s a (x * 10 + v) (k + 1)) := hst.1 hov
          have hov' : (x : Int) * 10 + v ≤ 9223372036854775807 := by omega
          have hq : decide (Int.tdiv (9223372036854775807 - (v : Int)) 10 < (x : Int)) = false := by
            rw [decide_eq_false_iff_not, Int.tdiv_eq_ediv_of_nonneg (by omega)]; omega
          clear hst hov
          go_wp2_with (go_at_call 72; refine (rHex_c s[a + k] _).mono ?_; rintro e w1 ⟨rfl, rfl⟩; rw [HX.out])
          go_round
          case rel => exact ⟨x * 10 + v, k + 1, by go_num, by go_num, HN'⟩
          case measure => simp [intOf]; omega
        · have HR : Hid (M.numR 10 (s.data.toList.drop a) = (0, 0, false)) := hst.2 hov
          have hq : decide (Int.tdiv (9223372036854775807 - (v : Int)) 10 < (x : Int)) = true := by
            rw [decide_eq_true_iff, Int.tdiv_eq_ediv_of_nonneg (by omega)]; omega
          have hq2 : (9223372036854775807 - (v : Int)) / 10 < (x : Int) := by omega
          clear hst hov
          go_wp2_with (go_at_call 72; refine (rHex_c s[a + k] _).mono ?_; rintro e w1 ⟨rfl, rfl⟩; rw [HX.out])
          go_ret3
          exact ⟨by rw [HR.out]; rfl, rfl⟩
      | false =>
        have HE : Hid (M.numR 10 (s.data.toList.drop a) = ((x : Int), k, true)) := numAt10_end HN.out (by rw [drop_one s (a + k) hlt]; simp [M.cnt, hd])
        have hdf := hdd.2 hd
        obtain ⟨v, hv⟩ : ∃ v, hexI s[a + k] = v := ⟨_, rfl⟩
        rw [hv] at hdf
        have HX : Hid (hexI s[a + k] = v) := hv
        clear hdd hv hd HN
        rcases hdf with hn | hn
        · have hn' : ¬ (0 : Int) ≤ v := by omega
          go_wp2_with (go_at_call 72; refine (rHex_c s[a + k] _).mono ?_; rintro e w1 ⟨rfl, rfl⟩; rw [HX.out])
          go_ret3
          exact ⟨by rw [HE.out]; rfl, rfl⟩
        · have hn' : (0 : Int) ≤ v := by omega
          go_wp2_with (go_at_call 72; refine (rHex_c s[a + k] _).mono ?_; rintro e w1 ⟨rfl, rfl⟩; rw [HX.out])
          go_ret3
          exact ⟨by rw [HE.out]; rfl, rfl⟩
    · have hge : (s.size : Int) ≤ (a : Int) + k := by omega
      have HE : Hid (M.numR 10 (s.data.toList.drop a) = ((x : Int), k, true)) := numAt10_end HN.out (by rw [List.drop_eq_nil_of_le (by rw [← Lib.size_eq]; omega)]; rfl)
      clear hlt HN
      go_wp2
      go_ret3
      exact ⟨by rw [HE.out]; rfl, rfl⟩

theorem hexI_dig16 (b : UInt8) : (M.dig 16 b = true → hexI b = (M.hexv b : Int) ∧ M.hexv b < 16) ∧ (M.dig 16 b = false → hexI b < 0 ∨ (16 : Int) ≤ hexI b) := by
  have := M.all256 (fun b => decide ((M.dig 16 b = true → hexI b = (M.hexv b : Int) ∧ M.hexv b < 16) ∧ (M.dig 16 b = false → hexI b < 0 ∨ (16 : Int) ≤ hexI b))) (by decide +kernel) b
  exact of_decide_eq_true this
/-- Where the reading of a number stands. -/
def NumAt16 (s : ByteArray) (a x k : Nat) : Prop := a + k ≤ s.size ∧ x < 2 ^ 63 ∧ x = M.val 16 0 ((s.data.toList.drop a).take k) ∧ M.cnt (M.dig 16) (s.data.toList.drop a) = k + M.cnt (M.dig 16) (s.data.toList.drop (a + k))
theorem numAt16_end {s : ByteArray} {a x k : Nat} (h : NumAt16 s a x k) (h0 : M.cnt (M.dig 16) (s.data.toList.drop (a + k)) = 0) : M.numR 16 (s.data.toList.drop a) = ((x : Int), k, true) := by
  obtain ⟨h1, h2, h3, h4⟩ := h
  rw [h0, Nat.add_zero] at h4
  unfold M.numR
  rw [h4, ← h3, if_neg (by omega)]
theorem numAt16_step {s : ByteArray} {a x k : Nat} (h : NumAt16 s a x k) (hk : a + k < s.size) (hd : M.dig 16 s[a + k] = true) : (x * 16 + M.hexv s[a + k] < 2 ^ 63 → NumAt16 s a (x * 16 + M.hexv s[a + k]) (k + 1)) ∧ (¬ x * 16 + M.hexv s[a + k] < 2 ^ 63 → M.numR 16 (s.data.toList.drop a) = (0, 0, false)) := by
  obtain ⟨h1, h2, h3, h4⟩ := h
  have hdr := drop_one s (a + k) hk
  have hdr' : (s.data.toList.drop a).drop k = s[a + k] :: s.data.toList.drop (a + k + 1) := by rw [List.drop_drop]; exact hdr
  have hv := M.val_snoc 16 _ _ k _ hdr'
  rw [← h3] at hv
  have hc : M.cnt (M.dig 16) (s.data.toList.drop a) = k + 1 + M.cnt (M.dig 16) (s.data.toList.drop (a + (k + 1))) := by
    rw [h4, hdr]
    simp only [M.cnt, hd, if_true]
    rw [Nat.add_assoc a k 1]; omega
  constructor
  · intro hx
    exact ⟨by omega, hx, hv.symm, hc⟩
  · intro hx
    unfold M.numR
    rw [if_pos]
    refine Nat.le_trans ?_ (M.val_part 16 (by decide) _ (k + 1) _ (by rw [hc]; omega))
    rw [hv]; omega
set_option maxRecDepth 100000 in
set_option maxHeartbeats 4000000 in
theorem rNumber16_c (s : ByteArray) (a : Nat) (hs : s.size ≤ 70000) (ha : a ≤ s.size) (w : World) :
    Calls Tryz.prog 73 #[.string s, .int .i64 (a : Int), .int .i64 16] w fun e w' => e = .returned (.tuple #[.int .i64 (M.numR 16 (s.data.toList.drop a)).1, .int .i64 ((M.numR 16 (s.data.toList.drop a)).2.1 : Nat), .bool (M.numR 16 (s.data.toList.drop a)).2.2]) ∧ w' = w := by
  have HS : Hid (s.size ≤ 70000 ∧ a ≤ s.size) := ⟨hs, ha⟩
  clear hs ha
  go_enter Tryz.func73, Tryz.ntmps73
  go_wp2
  go_loop [9, 10] (fun xv nv => ∃ x k : Nat, xv = .int .i64 x ∧ nv = .int .i64 k ∧ Hid (NumAt16 s a x k)) (fun _ nv => s.size - a - (intOf nv).toNat)
  case atStart => exact ⟨0, 0, rfl, rfl, (⟨by have := HS.out; omega, by decide, rfl, by rw [Nat.zero_add, Nat.add_zero]⟩ : NumAt16 s a 0 0)⟩
  case round =>
    obtain ⟨x, k, rfl, rfl, HN⟩ := hrel
    have hki : (a : Int) + k ≤ 70000 := by have := HS.out; have := HN.out.1; omega
    have hxi : (x : Int) ≤ 9223372036854775807 := by have := HN.out.2.1; omega
    by_cases hlt : a + k < s.size
    · have hlti : (a : Int) + k < s.size := by omega
      have hdd := hexI_dig16 s[a + k]
      cases hd : M.dig 16 s[a + k] with
      | true =>
        obtain ⟨hx1, hx2⟩ := hdd.1 hd
        have hst := numAt16_step HN.out hlt hd
        obtain ⟨v, hv⟩ : ∃ v, M.hexv s[a + k] = v := ⟨_, rfl⟩
        rw [hv] at hx1 hx2 hst
        have HX : Hid (hexI s[a + k] = (v : Int)) := hx1
        have hvi : (v : Int) < 16 := by omega
        clear hdd hx1 hv hd HN
        by_cases hov : x * 16 + v < 2 ^ 63
        · have HN' : Hid (NumAt16 s a (x * 16 + v) (k + 1)) := hst.1 hov
          have hov' : (x : Int) * 16 + v ≤ 9223372036854775807 := by omega
          have hq : decide (Int.tdiv (9223372036854775807 - (v : Int)) 16 < (x : Int)) = false := by
            rw [decide_eq_false_iff_not, Int.tdiv_eq_ediv_of_nonneg (by omega)]; omega
          clear hst hov
          go_wp2_with (go_at_call 72; refine (rHex_c s[a + k] _).mono ?_; rintro e w1 ⟨rfl, rfl⟩; rw [HX.out])
          go_round
          case rel => exact ⟨x * 16 + v, k + 1, by go_num, by go_num, HN'⟩
          case measure => simp [intOf]; omega
        · have HR : Hid (M.numR 16 (s.data.toList.drop a) = (0, 0, false)) := hst.2 hov
          have hq : decide (Int.tdiv (9223372036854775807 - (v : Int)) 16 < (x : Int)) = true := by
            rw [decide_eq_true_iff, Int.tdiv_eq_ediv_of_nonneg (by omega)]; omega
          have hq2 : (9223372036854775807 - (v : Int)) / 16 < (x : Int) := by omega
          clear hst hov
          go_wp2_with (go_at_call 72; refine (rHex_c s[a + k] _).mono ?_; rintro e w1 ⟨rfl, rfl⟩; rw [HX.out])
          go_ret3
          exact ⟨by rw [HR.out]; rfl, rfl⟩
      | false =>
        have HE : Hid (M.numR 16 (s.data.toList.drop a) = ((x : Int), k, true)) := numAt16_end HN.out (by rw [drop_one s (a + k) hlt]; simp [M.cnt, hd])
        have hdf := hdd.2 hd
        obtain ⟨v, hv⟩ : ∃ v, hexI s[a + k] = v := ⟨_, rfl⟩
        rw [hv] at hdf
        have HX : Hid (hexI s[a + k] = v) := hv
        clear hdd hv hd HN
        rcases hdf with hn | hn
        · have hn' : ¬ (0 : Int) ≤ v := by omega
          go_wp2_with (go_at_call 72; refine (rHex_c s[a + k] _).mono ?_; rintro e w1 ⟨rfl, rfl⟩; rw [HX.out])
          go_ret3
          exact ⟨by rw [HE.out]; rfl, rfl⟩
        · have hn' : (0 : Int) ≤ v := by omega
          go_wp2_with (go_at_call 72; refine (rHex_c s[a + k] _).mono ?_; rintro e w1 ⟨rfl, rfl⟩; rw [HX.out])
          go_ret3
          exact ⟨by rw [HE.out]; rfl, rfl⟩
    · have hge : (s.size : Int) ≤ (a : Int) + k := by omega
      have HE : Hid (M.numR 16 (s.data.toList.drop a) = ((x : Int), k, true)) := numAt16_end HN.out (by rw [List.drop_eq_nil_of_le (by rw [← Lib.size_eq]; omega)]; rfl)
      clear hlt HN
      go_wp2
      go_ret3
      exact ⟨by rw [HE.out]; rfl, rfl⟩

end Go.Proofs.YtpidccdgkkcljaaGreatDoor
