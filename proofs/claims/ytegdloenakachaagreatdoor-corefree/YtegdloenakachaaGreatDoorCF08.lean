/-
  For CoreFree: what is behind the substitution, for the law.
-/
import Derived.Test.YtegdloenakachaaGreatDoorCF07
namespace Go.Proofs.YtegdloenakachaaGreatDoor
open Go.RowKit Go.Shelf Go.Maps Go.Sort
set_option linter.unusedVariables false
theorem sub7 (d : Nat) (a b : Tr (d + 1)) (va vb : Value) (name : ByteArray) (X : World) (hd : d + 1 ≤ 120) (hva : ∀ Y, Below X.heap.size X Y → ExVal Y Y.heap.size d a va) (hvb : ExVal X X.heap.size d b vb) (hwa : WfT (d + 1) a) (hwb : WfT (d + 1) b) (hca : cntM (d + 1) a ≤ 300) (hcb : cntM (d + 1) b ≤ 300) (hV : VarOK (d + 1) a) (hns : name.size ≤ maxLen) (hgt : GT X) :
    Calls Tryz.prog 12 #[va, .string name, vb] X fun r w' => ∃ v, r = .returned v ∧ AfterS X w' (if decide (name.data.toList ∈ fsL (d + 1) a) = true then mergeM ((fsL (d + 1) a).filter (fun x => !(x == name.data.toList))) (fsL (d + 1) b) else fsL (d + 1) a) va v (decide (name.data.toList ∈ fsL (d + 1) a)) := by
  have c1 := cost_le_cnt (d + 1) a
  have c2 := cost_le_cnt (d + 1) b
  have l1 := frL_len (d + 1) a
  have l2 := frL_len (d + 1) b
  have l3 := fsL_len (d + 1) a
  have l4 := fsL_len (d + 1) b
  have l5 := allOwn_len (d + 1) a
  cases h : freeM (d + 1) a [] name.data.toList with
  | true =>
    have hm : decide (name.data.toList ∈ fsL (d + 1) a) = true := decide_eq_true (fsL_mem.2 h)
    rw [hm, if_pos rfl]
    obtain ⟨L, hLd⟩ : ∃ L, nub (allN ownN (d + 1) a ++ frL (d + 1) b) = L := ⟨_, rfl⟩
    have hLm : ∀ x, x ∈ L ↔ x ∈ allN ownN (d + 1) a ∨ freeM (d + 1) b [] x = true := fun x => by
      rw [← hLd, nub_mem, List.mem_append, frL_ok, decide_eq_true_iff]
    have hLl : L.length ≤ 600 := by
      rw [← hLd]
      have := nub_len (allN ownN (d + 1) a ++ frL (d + 1) b)
      rw [List.length_append] at this
      omega
    have hLb : ∀ x, decide (x ∈ L) = (decide (x ∈ allN ownN (d + 1) a) || freeM (d + 1) b [] x) := fun x => by
      rw [Bool.eq_iff_iff, decide_eq_true_iff, Bool.or_eq_true, decide_eq_true_iff]
      exact hLm x
    have hR : rcM (d + 1) a ≤ 300 := by unfold rcM; omega
    have hR2 : rcM (d + 1) b ≤ 300 := by unfold rcM; omega
    have hBd : Bnd L 0 0 (0 + rcM (d + 1) a) := by
      have := Nat.mul_le_mul hR (show L.length + 1 ≤ 601 by omega)
      refine ⟨by omega, by omega, ?_⟩
      rw [Nat.zero_add, Nat.zero_add]
      omega
    refine (Subst_c d a d b name va vb X.heap.size X (hva X (Below.refl _ _)) hvb (Nat.le_refl _) (by omega) (by omega) (by omega) (by omega) (fit_of _ _ hwa (by omega)) (nm_of _ _ hwa) (by omega) hns h L (fit_of _ _ hwb (by omega)) (nm_of _ _ hwb) (by omega) (by omega) hLb hgt hBd).mono ?_
    rintro r w' ⟨v, rfl, hsb⟩
    obtain ⟨φ, t', h1, ⟨last, h2, h3⟩, h4, h5⟩ := hsb.val
    have hs := rc_sub (d + 1) [] a t' h1
    have hs2 : rcM ((d + 1) + (d + 1)) t' ≤ 90300 := Nat.le_trans hs (Nat.le_trans (Nat.mul_le_mul (show rcM (d + 1) b + 1 ≤ 301 by omega) hR) (by decide))
    have hs3 : costM ((d + 1) + d + 1) t' + sizeM ((d + 1) + d + 1) t' ≤ 90300 := hs2
    have hN : NmOK ((d + 1) + d + 1) t' := nm_sub (fun y => Nat.le_trans (h2.le y) h3) (nm_of _ _ hwb) (d + 1) [] a t' h1 (nm_of _ _ hwa)
    have hrs : Rising (mergeM ((fsL (d + 1) a).filter (fun x => !(x == name.data.toList))) (fsL (d + 1) b)) := mergeM_rising _ _ ((rising_sort (frL_nodup _ _)).filter _) (rising_sort (frL_nodup _ _))
    have hmem : ∀ x, freeM ((d + 1) + d + 1) t' [] x = decide (x ∈ mergeM ((fsL (d + 1) a).filter (fun x => !(x == name.data.toList))) (fsL (d + 1) b)) := fun x => by
      have e : freeM ((d + 1) + (d + 1)) t' [] x = ((freeM (d + 1) a [] x && (x != name.data.toList)) || (freeM (d + 1) a [] name.data.toList && freeM (d + 1) b [] x)) := free_sub h2 (fun y hy => (hLm y).2 (.inr hy)) (d + 1) [] a t' x h1 hV (fun y hy => (hLm y).2 (.inl hy)) (fun z hz => by cases hz)
      refine e.trans ?_
      rw [h, Bool.true_and, Bool.eq_iff_iff, decide_eq_true_iff, mergeM_mem, List.mem_filter, fsL_mem, fsL_mem]
      simp
    have hlen : (mergeM ((fsL (d + 1) a).filter (fun x => !(x == name.data.toList))) (fsL (d + 1) b)).length ≤ 600 := by
      have e1 := List.length_filter_le (fun x => !(x == name.data.toList)) (fsL (d + 1) a)
      have e2 := mergeM_len ((fsL (d + 1) a).filter (fun x => !(x == name.data.toList))) (fsL (d + 1) b)
      omega
    have hst : (mergeM ((fsL (d + 1) a).filter (fun x => !(x == name.data.toList))) (fsL (d + 1) b)).mergeSort leB = mergeM ((fsL (d + 1) a).filter (fun x => !(x == name.data.toList))) (fsL (d + 1) b) := rising_eq (rising_sort (rising_nodup hrs)) hrs (fun x => (List.mergeSort_perm _ leB).mem_iff)
    obtain ⟨o3, c3, o4, c4, o5, c5, o6, c6, ev, -⟩ := id h4
    refine ⟨v, rfl, ⟨_, _, _, _, _, _, _, _, _, _, _, _, _, _, _, ev⟩, fun Y hY => ?_, fun e => (by cases e), h5⟩
    refine (Free_c ((d + 1) + d) t' v _ (rising_nodup hrs) (by omega) hmem Y.heap.size Y (h4.grow hY.out) (Nat.le_refl _) hN (by omega) (by omega) (by omega)).mono ?_
    rintro r Z ⟨u, rfl, h6, h7⟩
    rw [hst] at h6
    exact ⟨u, rfl, h6, h7⟩
  | false =>
    have hm : decide (name.data.toList ∈ fsL (d + 1) a) = false := decide_eq_false (fun h2 => by rw [fsL_mem, h] at h2; cases h2)
    rw [hm, if_neg (by decide)]
    refine (SubstNot_c d a d b name va vb X.heap.size X (hva X (Below.refl _ _)) hvb (Nat.le_refl _) (by omega) (by omega) (by omega) (by omega) (fit_of _ _ hwa (by omega)) (nm_of _ _ hwa) (by omega) hns h).mono ?_
    rintro r w' ⟨v, rfl, h4, h5⟩
    obtain ⟨o3, c3, o4, c4, o5, c5, o6, c6, ev, -⟩ := id h4
    refine ⟨v, rfl, ⟨_, _, _, _, _, _, _, _, _, _, _, _, _, _, _, ev⟩, fun Y hY => freeS_c d a v Y (h4.grow hY.out) hwa (by omega) (by omega), fun _ Y hY => ?_, h5⟩
    refine (Same_c d a a v va Y.heap.size Y (h4.grow hY.out) (hva Y (h5.trans (hY.out.mono h5.size))) (Nat.le_refl _) (nm_of _ _ hwa) (nm_of _ _ hwa) (by omega) (by omega) (by omega) (by omega) (by omega)).mono ?_
    rintro e Z ⟨rfl, h6⟩
    rw [same_self]
    exact ⟨rfl, h6⟩
theorem subHyp_ok (da db : Nat) (ta : Tr (da + 1)) (tb : Tr (db + 1)) (va vb : Value) (name : ByteArray) (w : World) (hva : ExVal2 w da ta va) (hvb : ExVal2 w db tb vb) (hwa : WfT (da + 1) ta) (hwb : WfT (db + 1) tb) (hns : name.size ≤ maxLen) (hgt : GT w) :
    ∀ w1, Below w.heap.size w w1 → depLe (da + 1) ta 120 ∧ (cntM (da + 1) ta : Int) ≤ 300 → depLe (db + 1) tb 120 ∧ (cntM (db + 1) tb : Int) ≤ 300 → VarOK 120 (down 119 (da + 1) ta) → VarOK 120 (down 119 (db + 1) tb) → SubHyp w1 (fsL 120 (down 119 (da + 1) ta)) (fsL 120 (down 119 (db + 1) tb)) va vb name := by
  intro w1 h1 hA hB hV hV2 X hX
  have b0 := h1.trans (hX.out.mono h1.size)
  have ea : cntM 120 (down 119 (da + 1) ta) = cntM (da + 1) ta := down_cnt 119 (da + 1) ta hA.1
  have eb : cntM 120 (down 119 (db + 1) tb) = cntM (db + 1) tb := down_cnt 119 (db + 1) tb hB.1
  have ka : cntM 120 (down 119 (da + 1) ta) ≤ 300 := by have := hA.2; omega
  have kb : cntM 120 (down 119 (db + 1) tb) ≤ 300 := by have := hB.2; omega
  exact sub7 119 (down 119 (da + 1) ta) (down 119 (db + 1) tb) va vb name X (Nat.le_refl _) (fun Y hY => ((down_val2 hA.1 hva).grow (b0.trans (hY.mono b0.size))).val) (((down_val2 hB.1 hvb).grow b0).val) (down_wf 119 (da + 1) ta hwa) (down_wf 119 (db + 1) tb hwb) ka kb hV hns (hgt.below b0)
theorem free7_c (da db : Nat) (ta : Tr (da + 1)) (tb : Tr (db + 1)) (va vb : Value) (name : ByteArray) (w : World) (hva : ExVal2 w da ta va) (hvb : ExVal2 w db tb vb) (hwa : WfT (da + 1) ta) (hwb : WfT (db + 1) tb) (hns : name.size ≤ maxLen) (hgt : GT w) :
    Calls Tryz.prog 5 #[va, vb, .string name] w fun r w' => r = .returned (.bool true) ∧ Below w.heap.size w w' :=
  coreFree_c da db ta tb va vb name w hva hvb hwa hwb hns hgt (subHyp_ok da db ta tb va vb name w hva hvb hwa hwb hns hgt)
end Go.Proofs.YtegdloenakachaaGreatDoor
