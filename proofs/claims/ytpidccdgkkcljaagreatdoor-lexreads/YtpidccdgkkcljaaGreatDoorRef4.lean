/-
  What the document passes over, by a contract.
-/
import Derived.Test.YtpidccdgkkcljaaGreatDoorRef3
namespace Go.Proofs.YtpidccdgkkcljaaGreatDoor
open Go.RowKit Go.Shelf
set_option linter.unusedVariables false

theorem dash_all (L : List UInt8) : ∀ (k : Nat), k < (L.take (M.cnt M.sym L)).length → M.dashB (L.getD k 0) = false → (L.take (M.cnt M.sym L)).all M.dashB = false := by
  intro k hk hd
  rw [List.all_eq_false]
  refine ⟨L.getD k 0, ?_, by rw [hd]; simp⟩
  rw [List.length_take] at hk
  rw [List.mem_take_iff_getElem]
  exact ⟨k, hk, by rw [List.getD_eq_getElem?_getD, List.getElem?_eq_getElem (by omega)]; rfl⟩
theorem notNL_sym (L : List UInt8) : M.cnt M.notNL L = M.cnt M.sym L + M.cnt M.notNL (L.drop (M.cnt M.sym L)) := by
  have h := M.cnt_append M.notNL (L.take (M.cnt M.sym L)) (L.drop (M.cnt M.sym L)) (fun b hb => M.sym_notNL b (M.cnt_all M.sym L b hb))
  rw [List.take_append_drop, List.length_take, Nat.min_eq_left (M.cnt_le _ _)] at h
  exact h

set_option maxRecDepth 100000 in
set_option maxHeartbeats 4000000 in
theorem rPassed_c (s : ByteArray) (a : Nat) (hs : s.size ≤ 70000) (ha : a < s.size) (w : World) :
    Calls Tryz.prog 38 #[.string s, .int .i64 (a : Int)] w fun e w' => e = .returned (.int .i64 (optI (M.passR (s.data.toList.drop a)))) ∧ w' = w := by
  have HS : Hid (s.size ≤ 70000) := hs
  have hai : (a : Int) ≤ 69999 := by omega
  have hlti : (a : Int) < s.size := by omega
  have HD : Hid (s.data.toList.drop a = s[a] :: s.data.toList.drop (a + 1)) := drop_one s a ha
  have HR := M.passR_cons s[a] (s.data.toList.drop (a + 1))
  rw [← HD.out] at HR
  clear hs
  cases hb : M.blankB s[a] with
  | true =>
    have HB : Hid (M.blankB s[a] = true) := hb
    rw [hb, if_pos rfl] at HR
    have HR' : Hid (M.passR (s.data.toList.drop a) = some 1) := HR
    clear hb HR
    go_enter Tryz.func38, Tryz.ntmps38
    go_wp2_with (go_at_call 65; refine (rBlank_c s[a] _).mono ?_; rintro e w1 ⟨rfl, rfl⟩; rw [HB.out])
    go_ret
    exact ⟨by rw [HR'.out]; rfl, rfl⟩
  | false =>
    have HB : Hid (M.blankB s[a] = false) := hb
    rw [hb, if_neg (by simp)] at HR
    clear hb
    by_cases hp : ∃ h : a + 1 < s.size, s[a].toNat = 123 ∧ s[a + 1].toNat = 45
    · obtain ⟨hl, h1, h2⟩ := hp
      have hpre : [123, 45].isPrefixOf (s.data.toList.drop a) = true := by
        rw [drop_two s a hl]
        simp only [List.isPrefixOf, Bool.and_true, Bool.and_eq_true, beq_iff_eq]
        exact ⟨UInt8.toNat_inj.1 (by rw [h1]; rfl), UInt8.toNat_inj.1 (by rw [h2]; rfl)⟩
      rw [if_pos hpre] at HR
      have HR' : Hid (M.passR (s.data.toList.drop a) = M.nest 0 0 (s.data.toList.drop a)) := HR
      have HN : Hid (∀ w : World, Calls Tryz.prog 66 #[.string s, .int .i64 (a : Int)] w fun e w' => e = .returned (.int .i64 (optI (M.nest 0 0 (s.data.toList.drop a)))) ∧ w' = w) := fun w => rNested_c s a HS.out hl h1 h2 w
      have q1 : ((s[a].toNat : Int) == 123) = true := beq_iff_eq.2 (by omega)
      have q2 : ((s[a + 1].toNat : Int) == 45) = true := beq_iff_eq.2 (by omega)
      have hl' : (a : Int) + 1 < s.size := by omega
      clear HR hpre h1 h2
      go_enter Tryz.func38, Tryz.ntmps38
      go_wp2_with (first
        | (go_at_call 65; refine (rBlank_c s[a] _).mono ?_; rintro e w1 ⟨rfl, rfl⟩; rw [HB.out])
        | (go_at_call 66; refine (HN.out _).mono ?_; rintro e w2 ⟨rfl, rfl⟩))
      go_ret
      exact ⟨by rw [HR'.out]; rfl, rfl⟩
    · have hpre : [123, 45].isPrefixOf (s.data.toList.drop a) ≠ true := by
        intro hh
        by_cases hl : a + 1 < s.size
        · rw [drop_two s a hl] at hh
          simp only [List.isPrefixOf, Bool.and_true, Bool.and_eq_true, beq_iff_eq] at hh
          exact hp ⟨hl, by rw [← hh.1]; rfl, by rw [← hh.2]; rfl⟩
        · rw [HD.out, List.drop_eq_nil_of_le (by rw [← Lib.size_eq]; omega)] at hh
          simp [List.isPrefixOf] at hh
      rw [if_neg hpre, M.passDashes_def] at HR
      clear hpre
      have HC : Hid (∀ w : World, Calls Tryz.prog 67 #[.string s, .int .i64 (a : Int)] w fun e w' => e = .returned (.int .i64 (M.cnt M.sym (s.data.toList.drop a) : Nat)) ∧ w' = w) := fun w => rSymbols_c s a HS.out (by omega) w
      have HNL : Hid (M.cnt M.notNL (s.data.toList.drop a) = M.cnt M.sym (s.data.toList.drop a) + M.cnt M.notNL ((s.data.toList.drop a).drop (M.cnt M.sym (s.data.toList.drop a)))) := notNL_sym _
      have hcl : M.cnt M.sym (s.data.toList.drop a) ≤ s.size - a := by
        have := M.cnt_le M.sym (s.data.toList.drop a)
        rw [List.length_drop, ← Lib.size_eq] at this; exact this
      have HDA : Hid (∀ k, k < M.cnt M.sym (s.data.toList.drop a) → ∀ h : a + k < s.size, s[a + k].toNat ≠ 45 → ((s.data.toList.drop a).take (M.cnt M.sym (s.data.toList.drop a))).all M.dashB = false) := by
        intro k hk h hne
        refine dash_all _ k (by rw [List.length_take, List.length_drop, ← Lib.size_eq]; omega) ?_
        rw [List.getD_eq_getElem?_getD, List.getElem?_drop, List.getElem?_eq_getElem (by rw [← Lib.size_eq]; exact h)]
        show M.dashB s[a + k] = false
        simpa [M.dashB] using hne
      have HDT : Hid ((∀ k, k < M.cnt M.sym (s.data.toList.drop a) → ∀ h : a + k < s.size, s[a + k].toNat = 45) → ((s.data.toList.drop a).take (M.cnt M.sym (s.data.toList.drop a))).all M.dashB = true) := by
        intro hall
        rw [List.all_eq_true]
        intro x hx
        rw [List.mem_take_iff_getElem] at hx
        obtain ⟨k, hk, rfl⟩ := hx
        rw [List.length_drop, ← Lib.size_eq] at hk
        have := hall k (by omega) (by omega)
        rw [List.getElem_drop]
        show M.dashB s[a + k] = true
        simpa [M.dashB] using this
      obtain ⟨c, hc⟩ : ∃ c, M.cnt M.sym (s.data.toList.drop a) = c := ⟨_, rfl⟩
      rw [hc] at HC HNL hcl HDA HDT HR
      have HR' : Hid (M.passR (s.data.toList.drop a) = some (if c < 2 ∨ ((s.data.toList.drop a).take c).all M.dashB = false then 0 else M.cnt M.notNL (s.data.toList.drop a))) := HR
      have HCL : Hid (c ≤ s.size - a) := hcl
      have hci : (a : Int) + c ≤ s.size := by omega
      have hsi : (s.size : Int) ≤ 70000 := by have := HS.out; omega
      clear HR hc hcl
      have hq : (¬ a + 1 < s.size) ∨ (∃ h : a + 1 < s.size, s[a].toNat ≠ 123) ∨ (∃ h : a + 1 < s.size, s[a].toNat = 123 ∧ s[a + 1].toNat ≠ 45) := by
        by_cases hl : a + 1 < s.size
        · by_cases h1 : s[a].toNat = 123
          · exact .inr (.inr ⟨hl, h1, fun h2 => hp ⟨hl, h1, h2⟩⟩)
          · exact .inr (.inl ⟨hl, h1⟩)
        · exact .inl hl
      clear hp
      rcases hq with hl | ⟨hl, h1⟩ | ⟨hl, h1, h2⟩
      · have hge : (s.size : Int) ≤ (a : Int) + 1 := by omega
        clear hl
        go_enter Tryz.func38, Tryz.ntmps38
        go_wp2_with (first
          | (go_at_call 65; refine (rBlank_c s[a] _).mono ?_; rintro e w1 ⟨rfl, rfl⟩; rw [HB.out])
          | (go_at_call 67; refine (HC.out _).mono ?_; rintro e w2 ⟨rfl, rfl⟩))
        go_loop [6] (fun iv => ∃ k : Nat, k ≤ c ∧ iv = .int .i64 k ∧ Hid (∀ j, j < k → ∀ h : a + j < s.size, s[a + j].toNat = 45)) (fun iv => c - (intOf iv).toNat)
        case atStart => exact ⟨0, Nat.zero_le _, rfl, fun j hj => absurd hj (Nat.not_lt_zero _)⟩
        case round =>
          obtain ⟨k, hk, rfl, HJ⟩ := hrel
          by_cases hkc : k < c
          · have hki : (k : Int) < c := by omega
            have hak : a + k < s.size := by omega
            have haki : (a : Int) + k < s.size := by omega
            have haki2 : (a : Int) + k ≤ 70000 := by omega
            by_cases h45 : s[a + k].toNat = 45
            · have q45 : ((s[a + k].toNat : Int) == 45) = true := beq_iff_eq.2 (by omega)
              have HJ' : Hid (∀ j, j < k + 1 → ∀ h : a + j < s.size, s[a + j].toNat = 45) := by
                intro j hj h
                rcases Nat.lt_or_eq_of_le (Nat.le_of_lt_succ hj) with h1 | h1
                · exact HJ.out j h1 h
                · subst h1; exact h45
              clear h45 HJ
              go_wp2
              go_round
              case rel => exact ⟨k + 1, hkc, by go_num, HJ'⟩
              case measure => simp [intOf]; omega
            · have q45 : ((s[a + k].toNat : Int) == 45) = false := beq_eq_false_iff_ne.2 (by omega)
              have HZ : Hid (M.passR (s.data.toList.drop a) = some 0) := by
                show _ = _
                rw [HR'.out, if_pos (Or.inr (HDA.out k hkc hak h45))]
              clear h45
              go_wp2
              go_ret
              exact ⟨by rw [HZ.out]; rfl, rfl⟩
          · have hkc' : k = c := by omega
            subst hkc'
            have hall := HDT.out HJ.out
            have HZ : M.passR (s.data.toList.drop a) = some (if k < 2 then 0 else M.cnt M.notNL (s.data.toList.drop a)) := by
              rw [HR'.out, hall]; simp
            clear HJ HDT HDA hall hk hkc
            by_cases hc2 : k < 2
            · rw [if_pos hc2] at HZ
              have HZ' : Hid (M.passR (s.data.toList.drop a) = some 0) := HZ
              have hc2i : (k : Int) < 2 := by omega
              clear HZ hc2
              go_wp2
              go_ret
              exact ⟨by rw [HZ'.out]; rfl, rfl⟩
            · exfalso; have := HCL.out; omega
      · have hl' : (a : Int) + 1 < s.size := by omega
        have q1 : ((s[a].toNat : Int) == 123) = false := beq_eq_false_iff_ne.2 (by omega)
        clear h1
        go_enter Tryz.func38, Tryz.ntmps38
        go_wp2_with (first
          | (go_at_call 65; refine (rBlank_c s[a] _).mono ?_; rintro e w1 ⟨rfl, rfl⟩; rw [HB.out])
          | (go_at_call 67; refine (HC.out _).mono ?_; rintro e w2 ⟨rfl, rfl⟩))
        go_loop [6] (fun iv => ∃ k : Nat, k ≤ c ∧ iv = .int .i64 k ∧ Hid (∀ j, j < k → ∀ h : a + j < s.size, s[a + j].toNat = 45)) (fun iv => c - (intOf iv).toNat)
        case atStart => exact ⟨0, Nat.zero_le _, rfl, fun j hj => absurd hj (Nat.not_lt_zero _)⟩
        case round =>
          obtain ⟨k, hk, rfl, HJ⟩ := hrel
          by_cases hkc : k < c
          · have hki : (k : Int) < c := by omega
            have hak : a + k < s.size := by omega
            have haki : (a : Int) + k < s.size := by omega
            have haki2 : (a : Int) + k ≤ 70000 := by omega
            by_cases h45 : s[a + k].toNat = 45
            · have q45 : ((s[a + k].toNat : Int) == 45) = true := beq_iff_eq.2 (by omega)
              have HJ' : Hid (∀ j, j < k + 1 → ∀ h : a + j < s.size, s[a + j].toNat = 45) := by
                intro j hj h
                rcases Nat.lt_or_eq_of_le (Nat.le_of_lt_succ hj) with h1 | h1
                · exact HJ.out j h1 h
                · subst h1; exact h45
              clear h45 HJ
              go_wp2
              go_round
              case rel => exact ⟨k + 1, hkc, by go_num, HJ'⟩
              case measure => simp [intOf]; omega
            · have q45 : ((s[a + k].toNat : Int) == 45) = false := beq_eq_false_iff_ne.2 (by omega)
              have HZ : Hid (M.passR (s.data.toList.drop a) = some 0) := by
                show _ = _
                rw [HR'.out, if_pos (Or.inr (HDA.out k hkc hak h45))]
              clear h45
              go_wp2
              go_ret
              exact ⟨by rw [HZ.out]; rfl, rfl⟩
          · have hkc' : k = c := by omega
            subst hkc'
            have hall := HDT.out HJ.out
            have HZ : M.passR (s.data.toList.drop a) = some (if k < 2 then 0 else M.cnt M.notNL (s.data.toList.drop a)) := by
              rw [HR'.out, hall]; simp
            clear HJ HDT HDA hall hk hkc
            by_cases hc2 : k < 2
            · rw [if_pos hc2] at HZ
              have HZ' : Hid (M.passR (s.data.toList.drop a) = some 0) := HZ
              have hc2i : (k : Int) < 2 := by omega
              clear HZ hc2
              go_wp2
              go_ret
              exact ⟨by rw [HZ'.out]; rfl, rfl⟩
            · rw [if_neg hc2] at HZ
              have HZ' : Hid (M.passR (s.data.toList.drop a) = some (M.cnt M.notNL (s.data.toList.drop a))) := HZ
              have hc2i : (2 : Int) ≤ k := by omega
              clear HZ hc2
              go_wp2
              go_loop [5] (fun nv => ∃ m : Nat, a + m ≤ s.size ∧ nv = .int .i64 m ∧ Hid (M.cnt M.notNL (s.data.toList.drop a) = m + M.cnt M.notNL (s.data.toList.drop (a + m)))) (fun nv => s.size - a - (intOf nv).toNat)
              case atStart => exact ⟨k, by omega, rfl, (by rw [HNL.out, List.drop_drop] : M.cnt M.notNL (s.data.toList.drop a) = k + M.cnt M.notNL (s.data.toList.drop (a + k)))⟩
              case round =>
                obtain ⟨m, hm, rfl, HM⟩ := hrel
                by_cases hlt : a + m < s.size
                · have hd : Hid (s.data.toList.drop (a + m) = s[a + m] :: s.data.toList.drop (a + (m + 1))) := drop_one s (a + m) hlt
                  have hmi : (a : Int) + m < s.size := by omega
                  have hmi2 : (a : Int) + m ≤ 70000 := by omega
                  by_cases h10 : s[a + m].toNat = 10
                  · have q10 : ((s[a + m].toNat : Int) == 10) = true := beq_iff_eq.2 (by omega)
                    have HF : Hid (M.notNL s[a + m] = false) := by show _ = _; simp [M.notNL, h10]
                    clear h10
                    go_wp2
                    go_ret
                    refine ⟨?_, rfl⟩
                    rw [HZ'.out, HM.out, hd.out]; simp [M.cnt, HF.out, optI]
                  · have q10 : ((s[a + m].toNat : Int) == 10) = false := beq_eq_false_iff_ne.2 (by omega)
                    have HF : Hid (M.notNL s[a + m] = true) := by show _ = _; simp [M.notNL, h10]
                    clear h10
                    go_wp2
                    go_round
                    case rel => exact ⟨m + 1, by omega, by go_num, (by rw [HM.out, hd.out]; simp [M.cnt, HF.out]; omega : M.cnt M.notNL (s.data.toList.drop a) = (m + 1) + M.cnt M.notNL (s.data.toList.drop (a + (m + 1))))⟩
                    case measure => simp [intOf]; omega
                · have hge : (s.size : Int) ≤ (a : Int) + m := by omega
                  have hmi2 : (a : Int) + m ≤ 70000 := by omega
                  have HE : Hid (a + m = s.size) := by show _ = _; omega
                  clear hlt
                  go_wp2
                  go_ret
                  refine ⟨?_, rfl⟩
                  rw [HZ'.out, HM.out, List.drop_eq_nil_of_le (by rw [HE.out, Lib.size_eq]; exact Nat.le_refl _)]; simp [M.cnt, optI]
      · have hl' : (a : Int) + 1 < s.size := by omega
        have q1 : ((s[a].toNat : Int) == 123) = true := beq_iff_eq.2 (by omega)
        have q2 : ((s[a + 1].toNat : Int) == 45) = false := beq_eq_false_iff_ne.2 (by omega)
        clear h1 h2
        go_enter Tryz.func38, Tryz.ntmps38
        go_wp2_with (first
          | (go_at_call 65; refine (rBlank_c s[a] _).mono ?_; rintro e w1 ⟨rfl, rfl⟩; rw [HB.out])
          | (go_at_call 67; refine (HC.out _).mono ?_; rintro e w2 ⟨rfl, rfl⟩))
        go_loop [6] (fun iv => ∃ k : Nat, k ≤ c ∧ iv = .int .i64 k ∧ Hid (∀ j, j < k → ∀ h : a + j < s.size, s[a + j].toNat = 45)) (fun iv => c - (intOf iv).toNat)
        case atStart => exact ⟨0, Nat.zero_le _, rfl, fun j hj => absurd hj (Nat.not_lt_zero _)⟩
        case round =>
          obtain ⟨k, hk, rfl, HJ⟩ := hrel
          by_cases hkc : k < c
          · have hki : (k : Int) < c := by omega
            have hak : a + k < s.size := by omega
            have haki : (a : Int) + k < s.size := by omega
            have haki2 : (a : Int) + k ≤ 70000 := by omega
            by_cases h45 : s[a + k].toNat = 45
            · have q45 : ((s[a + k].toNat : Int) == 45) = true := beq_iff_eq.2 (by omega)
              have HJ' : Hid (∀ j, j < k + 1 → ∀ h : a + j < s.size, s[a + j].toNat = 45) := by
                intro j hj h
                rcases Nat.lt_or_eq_of_le (Nat.le_of_lt_succ hj) with h1 | h1
                · exact HJ.out j h1 h
                · subst h1; exact h45
              clear h45 HJ
              go_wp2
              go_round
              case rel => exact ⟨k + 1, hkc, by go_num, HJ'⟩
              case measure => simp [intOf]; omega
            · have q45 : ((s[a + k].toNat : Int) == 45) = false := beq_eq_false_iff_ne.2 (by omega)
              have HZ : Hid (M.passR (s.data.toList.drop a) = some 0) := by
                show _ = _
                rw [HR'.out, if_pos (Or.inr (HDA.out k hkc hak h45))]
              clear h45
              go_wp2
              go_ret
              exact ⟨by rw [HZ.out]; rfl, rfl⟩
          · have hkc' : k = c := by omega
            subst hkc'
            have hall := HDT.out HJ.out
            have HZ : M.passR (s.data.toList.drop a) = some (if k < 2 then 0 else M.cnt M.notNL (s.data.toList.drop a)) := by
              rw [HR'.out, hall]; simp
            clear HJ HDT HDA hall hk hkc
            by_cases hc2 : k < 2
            · rw [if_pos hc2] at HZ
              have HZ' : Hid (M.passR (s.data.toList.drop a) = some 0) := HZ
              have hc2i : (k : Int) < 2 := by omega
              clear HZ hc2
              go_wp2
              go_ret
              exact ⟨by rw [HZ'.out]; rfl, rfl⟩
            · rw [if_neg hc2] at HZ
              have HZ' : Hid (M.passR (s.data.toList.drop a) = some (M.cnt M.notNL (s.data.toList.drop a))) := HZ
              have hc2i : (2 : Int) ≤ k := by omega
              clear HZ hc2
              go_wp2
              go_loop [5] (fun nv => ∃ m : Nat, a + m ≤ s.size ∧ nv = .int .i64 m ∧ Hid (M.cnt M.notNL (s.data.toList.drop a) = m + M.cnt M.notNL (s.data.toList.drop (a + m)))) (fun nv => s.size - a - (intOf nv).toNat)
              case atStart => exact ⟨k, by omega, rfl, (by rw [HNL.out, List.drop_drop] : M.cnt M.notNL (s.data.toList.drop a) = k + M.cnt M.notNL (s.data.toList.drop (a + k)))⟩
              case round =>
                obtain ⟨m, hm, rfl, HM⟩ := hrel
                by_cases hlt : a + m < s.size
                · have hd : Hid (s.data.toList.drop (a + m) = s[a + m] :: s.data.toList.drop (a + (m + 1))) := drop_one s (a + m) hlt
                  have hmi : (a : Int) + m < s.size := by omega
                  have hmi2 : (a : Int) + m ≤ 70000 := by omega
                  by_cases h10 : s[a + m].toNat = 10
                  · have q10 : ((s[a + m].toNat : Int) == 10) = true := beq_iff_eq.2 (by omega)
                    have HF : Hid (M.notNL s[a + m] = false) := by show _ = _; simp [M.notNL, h10]
                    clear h10
                    go_wp2
                    go_ret
                    refine ⟨?_, rfl⟩
                    rw [HZ'.out, HM.out, hd.out]; simp [M.cnt, HF.out, optI]
                  · have q10 : ((s[a + m].toNat : Int) == 10) = false := beq_eq_false_iff_ne.2 (by omega)
                    have HF : Hid (M.notNL s[a + m] = true) := by show _ = _; simp [M.notNL, h10]
                    clear h10
                    go_wp2
                    go_round
                    case rel => exact ⟨m + 1, by omega, by go_num, (by rw [HM.out, hd.out]; simp [M.cnt, HF.out]; omega : M.cnt M.notNL (s.data.toList.drop a) = (m + 1) + M.cnt M.notNL (s.data.toList.drop (a + (m + 1))))⟩
                    case measure => simp [intOf]; omega
                · have hge : (s.size : Int) ≤ (a : Int) + m := by omega
                  have hmi2 : (a : Int) + m ≤ 70000 := by omega
                  have HE : Hid (a + m = s.size) := by show _ = _; omega
                  clear hlt
                  go_wp2
                  go_ret
                  refine ⟨?_, rfl⟩
                  rw [HZ'.out, HM.out, List.drop_eq_nil_of_le (by rw [HE.out, Lib.size_eq]; exact Nat.le_refl _)]; simp [M.cnt, optI]

end Go.Proofs.YtpidccdgkkcljaaGreatDoor
