/-
  The document's own Lines and Indent, and the comparison of two lists of texts, by contracts.
-/
import Derived.WalkKit
import Derived.Test.YtfabfdglmimffaaRefs
import Derived.Test.YtfabfdglmimffaaLawLines
namespace Go.Proofs.Ytfabfdglmimffaa
open Go.RowKit Go.Shelf
set_option linter.unusedVariables false

/-- The lines from a line's beginning on, when the bytes up to k have come. -/
def LNc (s : ByteArray) (fr k : Nat) : List (Nat × ByteArray) := (M.lns fr ((s.data.toList.take k).drop fr) (s.data.toList.drop k)).map fun p => (p.1, M.mk p.2)

theorem cut_eq (s : ByteArray) (fr k : Nat) : M.mk ((s.data.toList.take k).drop fr) = s.extract fr k := by
  rw [Lib.extract_eq, ← List.drop_take]
  rfl

theorem LNc_start (s : ByteArray) : LNc s 0 0 = M.LN s 0 := by simp [LNc, M.LN]

theorem LNc_ten (s : ByteArray) (fr k : Nat) (hf : fr ≤ k) (h : k < s.size) (hb : s[k] = 10) : LNc s fr k = (fr, s.extract fr k) :: LNc s (k + 1) (k + 1) := by
  have hl : s.data.toList.length = s.size := (Lib.size_eq s).symm
  have hlen : ((s.data.toList.take k).drop fr).length = k - fr := by rw [List.length_drop, List.length_take]; omega
  have hb' : s.data.toList[k]'(by omega) = 10 := hb
  unfold LNc
  rw [List.drop_eq_getElem_cons (show k < s.data.toList.length by omega), M.lns, if_pos hb', hlen, List.map_cons, cut_eq, List.drop_take_self]
  congr 3
  omega

theorem LNc_other (s : ByteArray) (fr k : Nat) (hf : fr ≤ k) (h : k < s.size) (hb : s[k] ≠ 10) : LNc s fr k = LNc s fr (k + 1) := by
  have hl : s.data.toList.length = s.size := (Lib.size_eq s).symm
  have hb' : ¬ s.data.toList[k]'(by omega) = 10 := hb
  unfold LNc
  rw [List.drop_eq_getElem_cons (show k < s.data.toList.length by omega), M.lns, if_neg hb', M.take_snoc s k h, List.drop_append_of_le_length (by rw [List.length_take]; omega)]
  rfl

theorem LNc_end (s : ByteArray) (fr : Nat) : LNc s fr s.size = [(fr, s.extract fr s.size)] := by
  have h1 : s.data.toList.drop s.size = [] := List.drop_eq_nil_of_le (by rw [Lib.size_eq]; exact Nat.le_refl _)
  unfold LNc
  rw [h1, M.lns, List.map_cons, cut_eq]
  rfl

set_option maxRecDepth 100000 in
set_option maxHeartbeats 4000000 in
theorem refLines_c (s : ByteArray) (hs : s.size ≤ 4000) (w : World) :
    Calls Try.prog 18 #[.string s] w fun e W' => ∃ v, e = .returned v ∧ W'.ownsRow w.heap.size 9 1 v (M.LN s 0).length ((M.LN s 0).map strV) ∧ Below w.heap.size w W' := by
  obtain ⟨i0, hi, hz0, hz1, hz2⟩ := info_parts Try.info9
  have hLN := (M.LN_length s 0).2
  go_enter Try.func18, Try.ntmps18
  go_wp2
  go_loopw [3, 4, 5] (fun o f i wr => ∃ (k fr : Nat) (pre : List (Nat × ByteArray)), k ≤ s.size ∧ fr ≤ k ∧ i = .int .i64 k ∧ f = .int .i64 fr ∧ Hid (M.LN s 0 = pre ++ LNc s fr k) ∧ wr.ownsRow w.heap.size 9 1 o pre.length (pre.map strV) ∧ Below w.heap.size w wr)
    (fun _ _ i _ => s.size - (intOf i).toNat)
  case atStart => exact ⟨0, 0, [], Nat.zero_le _, Nat.le_refl _, rfl, rfl, (by rw [LNc_start]; rfl : M.LN s 0 = [] ++ LNc s 0 0), World.ownsRow_nil _ _ _ _, Below.refl _ _⟩
  case round =>
    obtain ⟨k, fr, pre, hk, hfr, rfl, rfl, hL, hown, hB⟩ := hrel
    have hfri : (fr : Int) ≤ (k : Int) := by omega
    by_cases hlt : k < s.size
    · by_cases hb : s[k] = 10
      · have hN := LNc_ten s fr k hfr hlt hb
        have hL' : Hid (M.LN s 0 = (pre ++ [(fr, s.extract fr k)]) ++ LNc s (k + 1) (k + 1)) := by show _ = _; rw [hL.out, hN]; simp
        have hpl : pre.length + 1 ≤ 4001 := by
          have := congrArg List.length hL'.out
          simp at this
          omega
        have hq := byte10 hb
        have hsl : ∀ w : World, (Instr.slice 9 (.string s) (some (.int .i64 (fr : Int))) (some (.int .i64 (k : Int))) none).run Try.prog w = .ok (.string (s.extract fr k)) w := fun w => by
          rw [run_slice_string w 9 s .i64 .i64 fr k Try.underlying9 (by omega) (by omega) (by omega)]
          simp only [Int.toNat_natCast]
        clear hb hN hL
        go_wp2_with (at_builtin; refine wpList_append_own _ rfl _ _ 33 rfl w.heap.size 9 i0 (.string ⟨#[]⟩) 1 16 Try.underlying33 hi hz0 hz1 hz2 rfl (by decide) _ _ _ rfl (hown.alloc _) ⟨wr.heap.size, 0, none⟩ 1 1 [.string (s.extract fr k)] rfl rfl (cell_one_new _ _ _) (by simp [Value.oneCell']) (by unfold maxLen; omega) (by omega) (by have := hB.size; simp; omega) ?_; intro o' w1 hown1 hgrow1 _)
        go_roundw
        case rel =>
          refine ⟨k + 1, k + 1, pre ++ [(fr, s.extract fr k)], by omega, Nat.le_refl _, by go_num, by go_num, hL', by simpa [strV] using hown1, ?_⟩
          exact (hB.alloc hB.size _).grown hgrow1 (by have := hB.size; simp; omega) (fun j e => (hown.lt j e).1)
        case measure => simp [intOf]; omega
      · have hN := LNc_other s fr k hfr hlt hb
        have hL' : Hid (M.LN s 0 = pre ++ LNc s fr (k + 1)) := by show _ = _; rw [hL.out, hN]
        have hq := byteN10 hb
        clear hb hN hL
        go_wp2
        go_roundw
        case rel => exact ⟨k + 1, fr, pre, by omega, by omega, by go_num, rfl, hL', hown, hB⟩
        case measure => simp [intOf]; omega
    · obtain rfl : k = s.size := by omega
      have hN := LNc_end s fr
      have hL' : Hid (M.LN s 0 = pre ++ [(fr, s.extract fr s.size)]) := by show _ = _; rw [hL.out, hN]
      have hpl : pre.length + 1 ≤ 4001 := by
        have := congrArg List.length hL'.out
        simp at this
        omega
      clear hN hL
      go_wp2_with (at_builtin; refine wpList_append_own _ rfl _ _ 33 rfl w.heap.size 9 i0 (.string ⟨#[]⟩) 1 16 Try.underlying33 hi hz0 hz1 hz2 rfl (by decide) _ _ _ rfl (hown.alloc _) ⟨wr.heap.size, 0, none⟩ 1 1 [.string (s.extract fr s.size)] rfl rfl (cell_one_new _ _ _) (by simp [Value.oneCell']) (by unfold maxLen; omega) (by omega) (by have := hB.size; simp; omega) ?_; intro o' w1 hown1 hgrow1 _)
      go_ret
      refine ⟨_, rfl, ?_, ?_⟩
      · rw [hL'.out]
        simpa [strV] using hown1
      · exact (hB.alloc hB.size _).grown hgrow1 (by have := hB.size; simp; omega) (fun j e => (hown.lt j e).1)

/-- A slice of texts in memory. -/
def TextsAt (W : World) (g : Nat) (L : List (Nat × ByteArray)) : Prop := ∀ j (h : j < L.length), W.cell? ⟨g, j, none⟩ = some (.string L[j].2)

theorem texts_of_row {W : World} {b m g cap : Nat} {L : List (Nat × ByteArray)} (hm : L.length = m + 1) (h : W.ownsRow b 9 1 (.slice (some ⟨g, 0, none⟩) (m + 1) cap) L.length (L.map strV)) : TextsAt W g L := by
  intro j hj
  rw [hm] at h
  have := h.cellAt j (by omega)
  rw [this]
  simp [strV, hj]

theorem refLines_c2 (s : ByteArray) (hs : s.size ≤ 4000) (w : World) :
    Calls Try.prog 18 #[.string s] w fun e W' => ∃ (m g cap : Nat), e = .returned (.slice (some ⟨g, 0, none⟩) (m + 1) cap) ∧ Hid ((M.LN s 0).length = m + 1) ∧ g < W'.heap.size ∧
      Hid (TextsAt W' g (M.LN s 0)) ∧ Below w.heap.size w W' := by
  refine (refLines_c s hs w).mono ?_
  rintro e W' ⟨v, rfl, hrow, hb⟩
  obtain ⟨m, hm⟩ : ∃ m, (M.LN s 0).length = m + 1 := ⟨(M.LN s 0).length - 1, by have := (M.LN_length s 0).1; omega⟩
  have hrow' := hrow
  rw [hm] at hrow'
  obtain ⟨g, cap, rfl⟩ := ownsRow_succ hrow'
  exact ⟨m, g, cap, rfl, hm, (hrow.lt g rfl).2, texts_of_row hm hrow, hb⟩

set_option maxRecDepth 100000 in
set_option maxHeartbeats 4000000 in
theorem same_c (L : List (Nat × ByteArray)) (m g cap g' cap' : Nat) (hm : L.length = m + 1) (hm2 : m ≤ 4000) (w : World) (ht : Hid (TextsAt w g L)) (ht' : Hid (TextsAt w g' L)) (hg : g < w.heap.size) (hg' : g' < w.heap.size) :
    Calls Try.prog 16 #[.slice (some ⟨g, 0, none⟩) (m + 1) cap, .slice (some ⟨g', 0, none⟩) (m + 1) cap'] w fun e W' => e = .returned (.bool true) ∧ Below w.heap.size w W' := by
  have hdep : Try.prog.follows Departure.mixedOrders = true := by kernel_rfl
  have HM : Hid (L.length = m + 1) := hm
  clear hm
  go_enter Try.func16, Try.ntmps16
  go_wp2
  go_loopw [5] (fun i wr => ∃ k : Nat, k ≤ m + 1 ∧ i = .int .i64 k ∧ Below w.heap.size w wr) (fun i _ => m + 1 - (intOf i).toNat)
  case atStart => exact ⟨0, Nat.zero_le _, rfl, Below.refl _ _⟩
  case round =>
    obtain ⟨k, hk, rfl, hB⟩ := hrel
    by_cases hlt : k < m + 1
    · have hkL : k < L.length := by rw [HM.out]; exact hlt
      have hc : wr.cell? ⟨g, k, none⟩ = some (.string L[k].2) := (hB.cell (p := ⟨g, k, none⟩) hg).trans (ht.out k hkL)
      have hc' : wr.cell? ⟨g', k, none⟩ = some (.string L[k].2) := (hB.cell (p := ⟨g', k, none⟩) hg').trans (ht'.out k hkL)
      generalize L[k].2 = T at hc hc'
      clear hkL ht ht' HM
      have hki : (k : Int) < (m : Int) + 1 := by omega
      go_wp2
      go_region
      all_goals go_wp2
      all_goals go_roundw
      all_goals first | (refine ⟨k + 1, by omega, by go_num, ?_⟩; repeat (first | exact hB | apply Below.drew)) | (simp [intOf]; omega)
    · go_wp2
      go_ret
      exact ⟨rfl, hB⟩

end Go.Proofs.Ytfabfdglmimffaa
