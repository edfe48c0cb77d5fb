/-
  Remarks and marks, by contracts.
-/
import Derived.Test.YtndpebkiiemfpaaGreatDoorPass
namespace Go.Proofs.YtndpebkiiemfpaaGreatDoor
open Go.RowKit Go.Shelf
set_option linter.unusedVariables false

theorem isEmpty_iff (s : ByteArray) : s.toList.isEmpty = true ↔ s.data.toList = [] := by rw [ByteArray.toList_eq, List.isEmpty_iff]

set_option maxRecDepth 100000 in
set_option maxHeartbeats 1000000 in
theorem passDashes_f : TakeFn 51 M.passDashes := by
  refine ⟨fun s hs w _ => ?_, enters_of Tryz.func51 (by kernel_rfl) rfl⟩
  have hdep : Tryz.prog.follows Departure.mixedOrders = true := by kernel_rfl
  have hdef := M.passDashes_def s.data.toList
  have hcle : M.cnt M.sym s.data.toList ≤ s.size := by rw [Lib.size_eq]; exact M.cnt_le _ _
  have hten := idx_ten s.data.toList
  have hlen : s.data.toList.length = s.size := (Lib.size_eq s).symm
  obtain ⟨c, hc'⟩ : ∃ c, M.cnt M.sym s.data.toList = c := ⟨_, rfl⟩
  rw [hc'] at hdef hcle
  have hc : Hid (M.cnt M.sym s.data.toList = c) := hc'
  clear hc'
  have hci : (c : Int) ≤ s.size := by omega
  have htr := trim_nil (s.data.toList.take c)
  obtain ⟨T, hT'⟩ : ∃ T : ByteArray, (⟨(Lib.trimB (s.extract 0 c).data.toList 45).toArray⟩ : ByteArray) = T := ⟨_, rfl⟩
  have hTe : T.data.toList = Lib.trimB (s.data.toList.take c) 45 := by rw [← hT', ext_to]
  have hT : Hid ((⟨(Lib.trimB (s.extract 0 c).data.toList 45).toArray⟩ : ByteArray) = T) := hT'
  clear hT'
  have hsc : (s.extract 0 c).size ≤ 9223372036854775807 := by rw [Lib.size_eq, ext_to, List.length_take, ← Lib.size_eq]; omega
  by_cases h2 : (c : Int) < 2
  · rw [if_pos (Or.inl (by omega))] at hdef
    have hD : Hid (M.passDashes s.data.toList = 0) := hdef
    clear hdef hten hTe htr hlen
    go_enter Tryz.func51, Tryz.ntmps51
    go_wp2_with (first
      | (go_at_call 103; refine (count_c _ _ symbol_f s (by omega) _).mono ?_; rintro e w' ⟨rfl, rfl⟩; rw [hc.out]))
    go_ret
    exact ⟨by rw [hD.out]; rfl, Below.refl _ _⟩
  · by_cases h3 : (s.data.toList.take c).all M.dashB = false
    · rw [if_pos (Or.inr h3)] at hdef
      have hD : Hid (M.passDashes s.data.toList = 0) := hdef
      have hTn : T.toList.isEmpty = false := by
        rw [Bool.eq_false_iff]
        intro h4
        rw [isEmpty_iff, hTe, htr, h3] at h4
        simp at h4
      clear hdef hten hTe htr hlen h3
      go_enter Tryz.func51, Tryz.ntmps51
      go_wp2_with (first
        | (go_at_call 103; refine (count_c _ _ symbol_f s (by omega) _).mono ?_; rintro e w' ⟨rfl, rfl⟩; rw [hc.out])
        | (go_at_call 106; refine (Tryz.strings_Trim_one _ 45 (by decide) _ hsc).mono ?_; rintro e w' ⟨rfl, hw⟩; rw [hT.out]; rcases hw with rfl | rfl))
      all_goals go_ret
      all_goals exact ⟨by rw [hD.out]; rfl, by repeat (first | exact Below.refl _ _ | apply Below.drew)⟩
    · rw [if_neg (by intro h4; rcases h4 with h4 | h4; exact absurd h4 (by omega); exact h3 h4)] at hdef
      have hTn : T.toList.isEmpty = true := by
        rw [isEmpty_iff, hTe, htr]; simpa using h3
      clear hTe htr h3
      obtain ⟨v, hv'⟩ : ∃ v, Lib.indexByte s.data.toList (((10 : Int)).toNat.toUInt8) = v := ⟨_, rfl⟩
      have hvt : Lib.indexByte s.data.toList 10 = v := hv'
      have hv : Hid (Lib.indexByte s.data.toList (((10 : Int)).toNat.toUInt8) = v) := hv'
      rw [hvt] at hten
      clear hv' hvt
      by_cases h5 : v < 0
      · have hD : Hid (M.passDashes s.data.toList = s.size) := by
          show _ = _
          rw [hdef]
          rcases hten with ⟨_, h6⟩ | h6
          · rw [h6, hlen]
          · omega
        have h5' : ¬ (0 : Int) ≤ v := by omega
        clear hdef hten hlen h5
        go_enter Tryz.func51, Tryz.ntmps51
        go_wp2_with (first
          | (go_at_call 103; refine (count_c _ _ symbol_f s (by omega) _).mono ?_; rintro e w' ⟨rfl, rfl⟩; rw [hc.out])
          | (go_at_call 107; refine (Tryz.strings_IndexByte _ _ _).mono ?_; rintro e w' ⟨rfl, rfl⟩; rw [hv.out])
          | (go_at_call 106; refine (Tryz.strings_Trim_one _ 45 (by decide) _ hsc).mono ?_; rintro e w' ⟨rfl, hw⟩; rw [hT.out]; rcases hw with rfl | rfl))
        all_goals go_ret
        all_goals exact ⟨by rw [hD.out]; rfl, by repeat (first | exact Below.refl _ _ | apply Below.drew)⟩
      · have hD : Hid ((M.passDashes s.data.toList : Int) = v) := by
          show _ = _
          rw [hdef]
          rcases hten with ⟨h6, _⟩ | h6
          · omega
          · rw [h6]
        have h5' : (0 : Int) ≤ v := by omega
        clear hdef hten hlen h5
        go_enter Tryz.func51, Tryz.ntmps51
        go_wp2_with (first
          | (go_at_call 103; refine (count_c _ _ symbol_f s (by omega) _).mono ?_; rintro e w' ⟨rfl, rfl⟩; rw [hc.out])
          | (go_at_call 107; refine (Tryz.strings_IndexByte _ _ _).mono ?_; rintro e w' ⟨rfl, rfl⟩; rw [hv.out])
          | (go_at_call 106; refine (Tryz.strings_Trim_one _ 45 (by decide) _ hsc).mono ?_; rintro e w' ⟨rfl, hw⟩; rw [hT.out]; rcases hw with rfl | rfl))
        all_goals go_ret
        all_goals exact ⟨by rw [hD.out]; rfl, by repeat (first | exact Below.refl _ _ | apply Below.drew)⟩

end Go.Proofs.YtndpebkiiemfpaaGreatDoor
