/-
  The document's own functions of bytes, and its counting, by contracts.
-/
import Derived.Test.YtpidccdgkkcljaaGreatDoorTake
import Derived.BigQuiet
namespace Go.Proofs.YtpidccdgkkcljaaGreatDoor
open Go.RowKit Go.Shelf
set_option linter.unusedVariables false

theorem rBlank_c (b : UInt8) (w : World) : Calls Tryz.prog 65 #[.int .u8 (b.toNat : Int)] w fun e w' => e = .returned (.bool (M.blankB b)) ∧ w' = w := by
  go_enter Tryz.func65, Tryz.ntmps65
  go_wp2
  all_goals go_ret
  all_goals refine ⟨ret_bool ?_, rfl⟩
  all_goals (unfold M.blankB; rw [Bool.eq_iff_iff]; simp; try omega)
set_option maxHeartbeats 1000000 in
theorem rSmall_c (b : UInt8) (w : World) : Calls Tryz.prog 68 #[.int .u8 (b.toNat : Int)] w fun e w' => e = .returned (.bool (M.begName b)) ∧ w' = w := by
  go_enter Tryz.func68, Tryz.ntmps68
  go_wp2
  all_goals go_ret
  all_goals refine ⟨ret_bool ?_, rfl⟩
  all_goals (unfold M.begName; rw [Bool.eq_iff_iff]; simp; try omega)
theorem rCapital_c (b : UInt8) (w : World) : Calls Tryz.prog 70 #[.int .u8 (b.toNat : Int)] w fun e w' => e = .returned (.bool (M.capB b)) ∧ w' = w := by
  go_enter Tryz.func70, Tryz.ntmps70
  go_wp2
  all_goals go_ret
  all_goals refine ⟨ret_bool ?_, rfl⟩
  all_goals (unfold M.capB; rw [Bool.eq_iff_iff]; simp; try omega)
theorem rDigit_c (b : UInt8) (w : World) : Calls Tryz.prog 71 #[.int .u8 (b.toNat : Int)] w fun e w' => e = .returned (.bool (M.digB b)) ∧ w' = w := by
  go_enter Tryz.func71, Tryz.ntmps71
  go_wp2
  all_goals go_ret
  all_goals refine ⟨ret_bool ?_, rfl⟩
  all_goals (unfold M.digB; rw [Bool.eq_iff_iff]; simp; try omega)

/-- What Hex says of a byte. -/
def hexI (b : UInt8) : Int := if M.hexB b = true then (M.hexv b : Int) else -1

theorem hexI_or (b : UInt8) (h : M.digB b = false) : (97 ≤ bits BinOp.or IntKind.u8 (b.toNat : Int) 32 ∧ bits BinOp.or IntKind.u8 (b.toNat : Int) 32 ≤ 102 → hexI b = bits BinOp.or IntKind.u8 (b.toNat : Int) 32 - 97 + 10) ∧ (¬ (97 ≤ bits BinOp.or IntKind.u8 (b.toNat : Int) 32 ∧ bits BinOp.or IntKind.u8 (b.toNat : Int) 32 ≤ 102) → hexI b = -1) := by
  have := M.all256 (fun b => decide (M.digB b = false → (97 ≤ bits BinOp.or IntKind.u8 (b.toNat : Int) 32 ∧ bits BinOp.or IntKind.u8 (b.toNat : Int) 32 ≤ 102 → hexI b = bits BinOp.or IntKind.u8 (b.toNat : Int) 32 - 97 + 10) ∧ (¬ (97 ≤ bits BinOp.or IntKind.u8 (b.toNat : Int) 32 ∧ bits BinOp.or IntKind.u8 (b.toNat : Int) 32 ≤ 102) → hexI b = -1))) (by decide +kernel) b
  exact of_decide_eq_true this h
set_option maxHeartbeats 1000000 in
theorem rHex_c (b : UInt8) (w : World) : Calls Tryz.prog 72 #[.int .u8 (b.toNat : Int)] w fun e w' => e = .returned (.int .i64 (hexI b)) ∧ w' = w := by
  cases hd : M.digB b with
  | true =>
    have hx : Hid (hexI b = (b.toNat : Int) - 48) := by
      show _ = _
      simp only [M.digB, decide_eq_true_eq] at hd
      unfold hexI M.hexv
      rw [if_pos (by simp only [M.hexB, decide_eq_true_eq]; omega), if_pos (by omega)]; omega
    have hb1 : (48 : Int) ≤ b.toNat := by simp only [M.digB, decide_eq_true_eq] at hd; omega
    have hb2 : (b.toNat : Int) ≤ 57 := by simp only [M.digB, decide_eq_true_eq] at hd; omega
    have hD : Hid (M.digB b = true) := hd
    clear hd
    go_enter Tryz.func72, Tryz.ntmps72
    go_wp2_with (first | (go_at_call 71; refine (rDigit_c b _).mono ?_; rintro e w0 ⟨rfl, rfl⟩; rw [hD.out]))
    go_ret
    refine ⟨?_, rfl⟩
    rw [hx.out]
    rfl
  | false =>
    have hD : Hid (M.digB b = false) := hd
    clear hd
    go_enter Tryz.func72, Tryz.ntmps72
    go_wp2_with (first | (go_at_call 71; refine (rDigit_c b _).mono ?_; rintro e w0 ⟨rfl, rfl⟩; rw [hD.out]))
    all_goals go_ret
    all_goals refine ⟨ret_int ?_, rfl⟩
    all_goals have hk := hexI_or b hD.out
    all_goals omega

set_option maxRecDepth 100000 in
set_option maxHeartbeats 1000000 in
theorem rSymbol_c (b : UInt8) (w : World) : Calls Tryz.prog 26 #[.int .u8 (b.toNat : Int)] w fun e w' => e = .returned (.bool (M.sym b)) ∧ w' = w := by
  have hm : ∀ k, k < 20 → ∃ c : UInt8, M.symL[k]? = some c := fun k hk => ⟨_, List.getElem?_eq_getElem hk⟩
  go_enter Tryz.func26, Tryz.ntmps26
  go_wp2
  go_loop [3] (fun i => ∃ k : Nat, k ≤ 20 ∧ i = .int .i64 k ∧ Hid (M.sym b = (M.symL.drop k).contains b)) (fun i => 20 - (intOf i).toNat)
  case atStart => exact ⟨0, Nat.zero_le _, rfl, rfl⟩
  case round =>
    obtain ⟨k, hk, rfl, hf⟩ := hrel
    by_cases hlt : k < 20
    · have hsz : (⟨#[33, 35, 36, 37, 38, 42, 43, 46, 47, 60, 61, 62, 63, 64, 92, 94, 124, 45, 126, 58]⟩ : ByteArray).size = 20 := rfl
      obtain ⟨S, hS⟩ : ∃ S : ByteArray, S = ⟨#[33, 35, 36, 37, 38, 42, 43, 46, 47, 60, 61, 62, 63, 64, 92, 94, 124, 45, 126, 58]⟩ := ⟨_, rfl⟩
      rw [← hS] at hsz ⊢
      have hd : Hid (M.symL.drop k = S[k] :: M.symL.drop (k + 1)) := by
        show _ = _
        subst hS
        rw [List.drop_eq_getElem_cons (show k < M.symL.length from hlt)]; rfl
      have hki : (k : Int) < 20 := by omega
      have hkS : k < S.size := by omega
      clear hS
      by_cases he : (S[k]'hkS) = b
      · have hei : ((S[k]'hkS).toNat : Int) = (b.toNat : Int) := by rw [he]
        have HE : Hid ((S[k]'hkS) = b) := he
        go_wp2
        go_ret
        refine ⟨ret_bool ?_, rfl⟩
        rw [hf.out, hd.out, HE.out]
        simp
      · have hei : (((S[k]'hkS).toNat : Int) == (b.toNat : Int)) = false := beq_eq_false_iff_ne.2 (fun h => he (UInt8.toNat_inj.1 (by omega)))
        have HE : Hid ((S[k]'hkS) ≠ b) := he
        go_wp2
        go_round
        case rel => exact ⟨k + 1, by omega, by go_num, (by rw [hf.out, hd.out, List.contains_cons, show (b == S[k]) = false from beq_eq_false_iff_ne.2 (Ne.symm HE.out)]; rfl : M.sym b = (M.symL.drop (k + 1)).contains b)⟩
        case measure => simp [intOf]; omega
    · obtain rfl : k = 20 := by omega
      go_wp2
      go_ret
      refine ⟨ret_bool ?_, rfl⟩
      rw [hf.out]
      rfl

set_option maxRecDepth 100000 in
set_option maxHeartbeats 2000000 in
theorem rSymbols_c (s : ByteArray) (a : Nat) (hs : s.size ≤ 70000) (ha : a ≤ s.size) (w : World) :
    Calls Tryz.prog 67 #[.string s, .int .i64 (a : Int)] w fun e w' => e = .returned (.int .i64 (M.cnt M.sym (s.data.toList.drop a) : Nat)) ∧ w' = w := by
  go_enter Tryz.func67, Tryz.ntmps67
  go_wp2
  go_loop [5] (fun i => ∃ k : Nat, a + k ≤ s.size ∧ i = .int .i64 k ∧ Hid (M.cnt M.sym (s.data.toList.drop a) = k + M.cnt M.sym (s.data.toList.drop (a + k)))) (fun i => s.size - a - (intOf i).toNat)
  case atStart => exact ⟨0, by omega, rfl, (by simp : M.cnt M.sym (s.data.toList.drop a) = 0 + M.cnt M.sym (s.data.toList.drop (a + 0)))⟩
  case round =>
    obtain ⟨k, hk, rfl, hf⟩ := hrel
    have hki : (a : Int) + k ≤ 70000 := by omega
    by_cases hlt : a + k < s.size
    · have hd : Hid (s.data.toList.drop (a + k) = s[a + k] :: s.data.toList.drop (a + (k + 1))) := by
        show _ = _
        rw [List.drop_eq_getElem_cons (by rw [← Lib.size_eq]; exact hlt)]; rfl
      have hlti : (a : Int) + k < s.size := by omega
      cases hpb : M.sym s[a + k] with
      | true =>
        have hP : Hid (M.sym s[a + k] = true) := hpb
        clear hpb
        go_wp2_with (go_at_call 26; refine (rSymbol_c s[a + k] _).mono ?_; rintro e w' ⟨rfl, rfl⟩; rw [hP.out])
        go_round
        case rel => exact ⟨k + 1, by omega, by go_num, (by rw [hf.out, hd.out]; simp [M.cnt, hP.out]; omega : M.cnt M.sym (s.data.toList.drop a) = (k + 1) + M.cnt M.sym (s.data.toList.drop (a + (k + 1))))⟩
        case measure => simp [intOf]; omega
      | false =>
        have hP : Hid (M.sym s[a + k] = false) := hpb
        clear hpb
        go_wp2_with (go_at_call 26; refine (rSymbol_c s[a + k] _).mono ?_; rintro e w' ⟨rfl, rfl⟩; rw [hP.out])
        go_ret
        refine ⟨?_, rfl⟩
        rw [hf.out, hd.out]; simp [M.cnt, hP.out]
    · have hge : (s.size : Int) ≤ (a : Int) + k := by omega
      have he : a + k = s.size := by omega
      go_wp2
      go_ret
      refine ⟨?_, rfl⟩
      rw [hf.out, List.drop_eq_nil_of_le (by rw [he, Lib.size_eq]; exact Nat.le_refl _)]; simp [M.cnt]

end Go.Proofs.YtpidccdgkkcljaaGreatDoor
