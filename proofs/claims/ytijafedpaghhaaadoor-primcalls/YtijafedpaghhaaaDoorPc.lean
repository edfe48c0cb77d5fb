/-
  Package prim: quotient, rest, characters, and what may be, by contracts.
-/
import Derived.Test.YtijafedpaghhaaaDoorPb
namespace Go.Proofs.YtijafedpaghhaaaDoor
open Go.RowKit Go.Shelf Go.Maps
set_option linter.unusedVariables false

set_option maxRecDepth 100000 in
set_option maxHeartbeats 1000000 in
theorem divZero_c (w : World) : Calls Tryd.prog 64 #[] w fun e w' => e = .returned (pv 4 0 divZero) ∧ Below w.heap.size w w' := by
  go_enter Tryd.func64, Tryd.ntmps64
  go_wp2_with (go_at_call 65; fail)
  refine (failure_c divZero _).mono ?_
  rintro e w1 ⟨rfl, hb⟩
  have HK := (Blk.new w _ _).below hb
  have HB : Hid (Below w.heap.size w w1) := (below1 w _).trans (hb.mono (by simp))
  obtain ⟨f0, f1, f2, z0, z1, z2⟩ := HK.all3
  have HKh : Hid (Blk w1 w.heap.size #[.int .i64 0, .int .i64 0, .string ⟨#[]⟩] 26) := HK
  have hl := HK.lt
  clear HK hb
  simp only [pv]
  go_wp2
  have hK := HKh.out.sets3 (.int .i64 4) (.int .i64 0) (.string divZero)
  have hBW := below_sets3 HB.out w.heap.size (Nat.le_refl _) (.int .i64 4) (.int .i64 0) (.string divZero)
  generalize World.setCell _ _ _ = WF at hK hBW ⊢
  obtain ⟨g0, g1, g2, _, _, _⟩ := hK.all3
  exact bodyPost_ret (v := pv 4 0 divZero) (by simp [results, Tryd.results64, go_sem, g0, g1, g2, pv]) rfl ⟨rfl, hBW⟩

set_option maxRecDepth 100000 in
set_option maxHeartbeats 1000000 in
theorem quotient_c (a b : Int) (w : World) (wa : Lit.wf (.int .i64 a) = true) (wb : Lit.wf (.int .i64 b) = true) : Calls Tryd.prog 42 #[.int .i64 a, .int .i64 b] w fun e w' => e = .returned (quotM a b) ∧ Below w.heap.size w w' := by
  clear wa wb
  by_cases h : b = 0
  · have HM : Hid (quotM a b = pv 4 0 divZero) := by show _ = _; unfold quotM; rw [if_pos h]
    subst h
    go_enter Tryd.func42, Tryd.ntmps42
    go_wp2_with (go_at_call 64; fail)
    refine (divZero_c _).mono ?_
    rintro e w1 ⟨rfl, hb⟩
    have HK := (Blk.new w _ _).below hb
    have HB : Hid (Below w.heap.size w w1) := (below1 w _).trans (hb.mono (by simp))
    obtain ⟨f0, f1, f2, z0, z1, z2⟩ := HK.all3
    have HKh : Hid (Blk w1 w.heap.size #[.int .i64 0, .int .i64 0, .string ⟨#[]⟩] 26) := HK
    have hl := HK.lt
    clear HK hb
    simp only [pv]
    go_wp2
    have hK := HKh.out.sets3 (.int .i64 4) (.int .i64 0) (.string divZero)
    have hBW := below_sets3 HB.out w.heap.size (Nat.le_refl _) (.int .i64 4) (.int .i64 0) (.string divZero)
    generalize World.setCell _ _ _ = WF at hK hBW ⊢
    obtain ⟨g0, g1, g2, _, _, _⟩ := hK.all3
    exact bodyPost_ret (v := quotM a 0) (by rw [HM.out]; simp [results, Tryd.results42, go_sem, g0, g1, g2, pv]) rfl ⟨rfl, hBW⟩
  · have HM : Hid (quotM a b = pv 1 (wrap64 (a.tdiv b)) noText) := by show _ = _; unfold quotM; rw [if_neg h]
    go_enter Tryd.func42, Tryd.ntmps42
    go_wp2_with (go_at_call 39; fail)
    refine (number_c _ _).mono ?_
    rintro e w1 ⟨rfl, hb⟩
    have HK := (Blk.new w _ _).below hb
    have HB : Hid (Below w.heap.size w w1) := (below1 w _).trans (hb.mono (by simp))
    obtain ⟨f0, f1, f2, z0, z1, z2⟩ := HK.all3
    have HKh : Hid (Blk w1 w.heap.size #[.int .i64 0, .int .i64 0, .string ⟨#[]⟩] 26) := HK
    have hl := HK.lt
    clear HK hb
    simp only [pv]
    go_wp2
    have hK := HKh.out.sets3 (.int .i64 1) (.int .i64 (wrap64 (a.tdiv b))) (.string noText)
    have hBW := below_sets3 HB.out w.heap.size (Nat.le_refl _) (.int .i64 1) (.int .i64 (wrap64 (a.tdiv b))) (.string noText)
    generalize World.setCell _ _ _ = WF at hK hBW ⊢
    obtain ⟨g0, g1, g2, _, _, _⟩ := hK.all3
    exact bodyPost_ret (v := quotM a b) (by rw [HM.out]; simp [results, Tryd.results42, go_sem, g0, g1, g2, pv]) rfl ⟨rfl, hBW⟩
theorem quotient_f : FnOK 42 quotM := ⟨enters_of Tryd.func42 (by kernel_rfl) rfl, fun a b w wa wb => quotient_c a b w wa wb⟩

set_option maxRecDepth 100000 in
set_option maxHeartbeats 1000000 in
theorem remainder_c (a b : Int) (w : World) (wa : Lit.wf (.int .i64 a) = true) (wb : Lit.wf (.int .i64 b) = true) : Calls Tryd.prog 43 #[.int .i64 a, .int .i64 b] w fun e w' => e = .returned (remM a b) ∧ Below w.heap.size w w' := by
  clear wa wb
  by_cases h : b = 0
  · have HM : Hid (remM a b = pv 4 0 divZero) := by show _ = _; unfold remM; rw [if_pos h]
    subst h
    go_enter Tryd.func43, Tryd.ntmps43
    go_wp2_with (go_at_call 64; fail)
    refine (divZero_c _).mono ?_
    rintro e w1 ⟨rfl, hb⟩
    have HK := (Blk.new w _ _).below hb
    have HB : Hid (Below w.heap.size w w1) := (below1 w _).trans (hb.mono (by simp))
    obtain ⟨f0, f1, f2, z0, z1, z2⟩ := HK.all3
    have HKh : Hid (Blk w1 w.heap.size #[.int .i64 0, .int .i64 0, .string ⟨#[]⟩] 26) := HK
    have hl := HK.lt
    clear HK hb
    simp only [pv]
    go_wp2
    have hK := HKh.out.sets3 (.int .i64 4) (.int .i64 0) (.string divZero)
    have hBW := below_sets3 HB.out w.heap.size (Nat.le_refl _) (.int .i64 4) (.int .i64 0) (.string divZero)
    generalize World.setCell _ _ _ = WF at hK hBW ⊢
    obtain ⟨g0, g1, g2, _, _, _⟩ := hK.all3
    exact bodyPost_ret (v := remM a 0) (by rw [HM.out]; simp [results, Tryd.results43, go_sem, g0, g1, g2, pv]) rfl ⟨rfl, hBW⟩
  · have HM : Hid (remM a b = pv 1 (a.tmod b) noText) := by show _ = _; unfold remM; rw [if_neg h]
    go_enter Tryd.func43, Tryd.ntmps43
    go_wp2_with (go_at_call 39; fail)
    refine (number_c _ _).mono ?_
    rintro e w1 ⟨rfl, hb⟩
    have HK := (Blk.new w _ _).below hb
    have HB : Hid (Below w.heap.size w w1) := (below1 w _).trans (hb.mono (by simp))
    obtain ⟨f0, f1, f2, z0, z1, z2⟩ := HK.all3
    have HKh : Hid (Blk w1 w.heap.size #[.int .i64 0, .int .i64 0, .string ⟨#[]⟩] 26) := HK
    have hl := HK.lt
    clear HK hb
    simp only [pv]
    go_wp2
    have hK := HKh.out.sets3 (.int .i64 1) (.int .i64 (a.tmod b)) (.string noText)
    have hBW := below_sets3 HB.out w.heap.size (Nat.le_refl _) (.int .i64 1) (.int .i64 (a.tmod b)) (.string noText)
    generalize World.setCell _ _ _ = WF at hK hBW ⊢
    obtain ⟨g0, g1, g2, _, _, _⟩ := hK.all3
    exact bodyPost_ret (v := remM a b) (by rw [HM.out]; simp [results, Tryd.results43, go_sem, g0, g1, g2, pv]) rfl ⟨rfl, hBW⟩
theorem remainder_f : FnOK 43 remM := ⟨enters_of Tryd.func43 (by kernel_rfl) rfl, fun a b w wa wb => remainder_c a b w wa wb⟩

set_option maxRecDepth 100000 in
set_option maxHeartbeats 1000000 in
theorem character_c (a b : Int) (w : World) : Calls Tryd.prog 55 #[.int .i64 a] w fun e w' => e = .returned (chrM a b) ∧ Below w.heap.size w w' := by
  cases h : inCode a
  · have HM : Hid (chrM a b = pv 4 0 chrRange) := by show _ = _; unfold chrM; rw [if_neg (by simp [h])]
    have HC : Hid (inCode a = false) := h
    clear h
    go_enter Tryd.func55, Tryd.ntmps55
    go_wp2_with (first | (go_at_call 59; refine (isCode_c _ _).mono ?_; rintro e w' ⟨rfl, rfl⟩; rw [HC.out]) | (go_at_call 65; fail))
    refine (failure_c chrRange _).mono ?_
    rintro e w1 ⟨rfl, hb⟩
    have HK := (Blk.new w _ _).below hb
    have HB : Hid (Below w.heap.size w w1) := (below1 w _).trans (hb.mono (by simp))
    obtain ⟨f0, f1, f2, z0, z1, z2⟩ := HK.all3
    have HKh : Hid (Blk w1 w.heap.size #[.int .i64 0, .int .i64 0, .string ⟨#[]⟩] 26) := HK
    have hl := HK.lt
    clear HK hb
    simp only [pv]
    go_wp2
    have hK := HKh.out.sets3 (.int .i64 4) (.int .i64 0) (.string chrRange)
    have hBW := below_sets3 HB.out w.heap.size (Nat.le_refl _) (.int .i64 4) (.int .i64 0) (.string chrRange)
    generalize World.setCell _ _ _ = WF at hK hBW ⊢
    obtain ⟨g0, g1, g2, _, _, _⟩ := hK.all3
    exact bodyPost_ret (v := chrM a b) (by rw [HM.out]; simp [results, Tryd.results55, go_sem, g0, g1, g2, pv]) rfl ⟨rfl, hBW⟩
  · have HM : Hid (chrM a b = pv 2 a noText) := by show _ = _; unfold chrM; rw [if_pos h]
    have HC : Hid (inCode a = true) := h
    clear h
    go_enter Tryd.func55, Tryd.ntmps55
    go_wp2_with (go_at_call 59; refine (isCode_c _ _).mono ?_; rintro e w' ⟨rfl, rfl⟩; rw [HC.out])
    exact bodyPost_ret (v := chrM a b) (by rw [HM.out]; simp [results, Tryd.results55, go_sem, pv, noText]) rfl ⟨rfl, below1 _ _⟩

set_option maxRecDepth 100000 in
set_option maxHeartbeats 1000000 in
theorem t13_c (a b : Int) (w : World) : Calls Tryd.prog 54 #[.int .i64 a, .int .i64 b] w fun e w' => e = .returned (chrM a b) ∧ Below w.heap.size w w' := by
  obtain ⟨k, n, t, hM⟩ : ∃ k n t, chrM a b = pv k n t := by unfold chrM; split <;> exact ⟨_, _, _, rfl⟩
  have HM : Hid (chrM a b = pv k n t) := hM
  clear hM
  go_enter Tryd.func54, Tryd.ntmps54
  go_wp2_with (go_at_call 55; fail)
  refine (character_c a b _).mono ?_
  rw [HM.out]
  rintro e w1 ⟨rfl, hb⟩
  have HK := (Blk.new w _ _).below hb
  have HB : Hid (Below w.heap.size w w1) := (below1 w _).trans (hb.mono (by simp))
  obtain ⟨f0, f1, f2, z0, z1, z2⟩ := HK.all3
  have HKh : Hid (Blk w1 w.heap.size #[.int .i64 0, .int .i64 0, .string ⟨#[]⟩] 26) := HK
  have hl := HK.lt
  clear HK hb
  simp only [pv]
  go_wp2
  have hK := HKh.out.sets3 (.int .i64 k) (.int .i64 n) (.string t)
  have hBW := below_sets3 HB.out w.heap.size (Nat.le_refl _) (.int .i64 k) (.int .i64 n) (.string t)
  generalize World.setCell _ _ _ = WF at hK hBW ⊢
  obtain ⟨g0, g1, g2, _, _, _⟩ := hK.all3
  exact bodyPost_ret (v := chrM a b) (by rw [HM.out]; simp [results, Tryd.results54, go_sem, g0, g1, g2, pv]) rfl ⟨HM.out ▸ rfl, hBW⟩
theorem t13_f : FnOK 54 chrM := ⟨enters_of Tryd.func54 (by kernel_rfl) rfl, fun a b w wa wb => t13_c a b w⟩

def mayM (k n : Int) (t : ByteArray) : Bool := (t.toList == ([] : List UInt8)) && (k != 2 || inCode n)
set_option maxRecDepth 100000 in
set_option maxHeartbeats 1000000 in
theorem mayBe_c (k n : Int) (t : ByteArray) (w : World) : Calls Tryd.prog 30 #[pv k n t] w fun e w' => e = .returned (.bool (mayM k n t)) ∧ Below w.heap.size w w' := by
  simp only [pv]
  obtain ⟨b1, h1⟩ : ∃ b, (t.toList == ([] : List UInt8)) = b := ⟨_, rfl⟩
  obtain ⟨b2, h2⟩ : ∃ b, (k != 2) = b := ⟨_, rfl⟩
  obtain ⟨b3, h3⟩ : ∃ b, inCode n = b := ⟨_, rfl⟩
  have HM : Hid (mayM k n t = (b1 && (b2 || b3))) := by show _ = _; unfold mayM; rw [h1, h2, h3]
  have HC : Hid (inCode n = b3) := h3
  clear h3
  cases b1
  · go_enter Tryd.func30, Tryd.ntmps30
    go_wp2
    go_ret
    exact ⟨by rw [HM.out]; rfl, below1 _ _⟩
  · cases b2
    · cases b3
      all_goals
        go_enter Tryd.func30, Tryd.ntmps30
        go_wp2_with (go_at_call 59; refine (isCode_c _ _).mono ?_; rintro e w' ⟨rfl, rfl⟩; rw [HC.out])
        go_ret
        exact ⟨by rw [HM.out]; rfl, below1 _ _⟩
    · go_enter Tryd.func30, Tryd.ntmps30
      go_wp2
      go_ret
      exact ⟨by rw [HM.out]; rfl, below1 _ _⟩
end Go.Proofs.YtijafedpaghhaaaDoor
