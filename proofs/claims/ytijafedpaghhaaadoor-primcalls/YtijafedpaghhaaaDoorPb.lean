/-
  Package prim: the functions of the table, by contracts.
-/
import Derived.Test.YtijafedpaghhaaaDoorPa
namespace Go.Proofs.YtijafedpaghhaaaDoor
open Go.RowKit Go.Shelf Go.Maps
set_option linter.unusedVariables false

def divZero : ByteArray := ⟨#[100, 105, 118, 105, 100, 101, 32, 98, 121, 32, 122, 101, 114, 111]⟩
def chrRange : ByteArray := ⟨#[99, 104, 114, 32, 111, 117, 116, 32, 111, 102, 32, 114, 97, 110, 103, 101]⟩
def addM (a b : Int) : Value := pv 1 (wrap64 (a + b)) noText
def subM (a b : Int) : Value := pv 1 (wrap64 (a - b)) noText
def mulM (a b : Int) : Value := pv 1 (wrap64 (a * b)) noText
def quotM (a b : Int) : Value := if b = 0 then pv 4 0 divZero else pv 1 (wrap64 (a.tdiv b)) noText
def remM (a b : Int) : Value := if b = 0 then pv 4 0 divZero else pv 1 (a.tmod b) noText
def eqM (a b : Int) : Value := pv 3 (b2i (a == b)) noText
def neM (a b : Int) : Value := pv 3 (b2i (a != b)) noText
def ltM (a b : Int) : Value := pv 3 (b2i (decide (a < b))) noText
def leM (a b : Int) : Value := pv 3 (b2i (decide (a ≤ b))) noText
def gtM (a b : Int) : Value := pv 3 (b2i (decide (b < a))) noText
def geM (a b : Int) : Value := pv 3 (b2i (decide (b ≤ a))) noText
def ordM (a _b : Int) : Value := pv 1 a noText
def chrM (a _b : Int) : Value := if inCode a then pv 2 a noText else pv 4 0 chrRange
/-- What a function of the table does. -/
def FnOK (f : Nat) (g : Int → Int → Value) : Prop := Enters Tryd.prog f ∧ ∀ (a b : Int) (w : World), Lit.wf (.int .i64 a) = true → Lit.wf (.int .i64 b) = true → Calls Tryd.prog f #[.int .i64 a, .int .i64 b] w fun e w' => e = .returned (g a b) ∧ Below w.heap.size w w'
theorem FnOK.to {f : Nat} {g : Int → Int → Value} (h : FnOK f g) {a b : Int} (ha : Lit.wf (.int .i64 a) = true) (hb : Lit.wf (.int .i64 b) = true) (w : World) : Calls Tryd.prog f #[.int .i64 a, .int .i64 b] w fun e w' => e = .returned (g a b) ∧ Below w.heap.size w w' := h.2 a b w ha hb
theorem Blk.set {W : World} {B : Nat} {vs : Array Value} {T : TypeId} (h : Blk W B vs T) (j : Nat) (u : Value) : Blk (W.setCell ⟨B, j, none⟩ u) B (vs.setIfInBounds j u) T := by
  obtain ⟨hlt, hk⟩ := Array.getElem?_eq_some_iff.1 h
  show (W.heap.modify B _)[B]? = _
  rw [Array.getElem?_eq_getElem (by rw [Array.size_modify]; exact hlt), Array.getElem_modify_self, hk]
  rfl
theorem Blk.sets3 {W : World} {E : Nat} {v0 v1 v2 : Value} {T : TypeId} (h : Blk W E #[v0, v1, v2] T) (a0 a1 a2 : Value) : Blk (((W.setCell ⟨E, 0, none⟩ a0).setCell ⟨E, 1, none⟩ a1).setCell ⟨E, 2, none⟩ a2) E #[a0, a1, a2] T := by
  have h0 : Blk (W.setCell ⟨E, 0, none⟩ a0) E #[a0, v1, v2] T := h.set 0 a0
  have h1 : Blk ((W.setCell ⟨E, 0, none⟩ a0).setCell ⟨E, 1, none⟩ a1) E #[a0, a1, v2] T := h0.set 1 a1
  exact h1.set 2 a2
theorem below_sets3 {w W : World} (h : Below w.heap.size w W) (E : Nat) (hE : w.heap.size ≤ E) (a0 a1 a2 : Value) : Below w.heap.size w (((W.setCell ⟨E, 0, none⟩ a0).setCell ⟨E, 1, none⟩ a1).setCell ⟨E, 2, none⟩ a2) :=
  ((h.setCell (p := ⟨E, 0, none⟩) hE _).setCell (p := ⟨E, 1, none⟩) hE _).setCell (p := ⟨E, 2, none⟩) hE _
theorem wf64 {a : Int} (h : Lit.wf (.int .i64 a) = true) : -9223372036854775808 ≤ a ∧ a ≤ 9223372036854775807 := by
  simp [Lit.wf, IntKind.min, IntKind.max, IntKind.signed, IntKind.bits] at h; omega
theorem pv_eq {k n m : Int} {t : ByteArray} (h : n = m) : pv k n t = pv k m t := by rw [h]

set_option maxRecDepth 100000 in
set_option maxHeartbeats 2000000 in
theorem t1_c (a b : Int) (w : World) (wa : Lit.wf (.int .i64 a) = true) (wb : Lit.wf (.int .i64 b) = true) : Calls Tryd.prog 38 #[.int .i64 a, .int .i64 b] w fun e w' => e = .returned (addM a b) ∧ Below w.heap.size w w' := by
  clear wa wb
  go_enter Tryd.func38, Tryd.ntmps38
  go_wp2_with (go_at_call 39; fail)
  refine (number_c _ _).mono ?_
  rintro e w1 ⟨rfl, hb⟩
  have HK := (Blk.new w _ _).below hb
  have HB : Hid (Below w.heap.size w w1) := (below1 w _).trans (hb.mono (by simp))
  obtain ⟨f0, f1, f2, z0, z1, z2⟩ := HK.all3
  have HKh : Hid (Blk w1 w.heap.size #[.int .i64 0, .int .i64 0, .string ⟨#[]⟩] 26) := HK
  have hl := HK.lt
  clear HK hb
  simp only [pv]
  go_wp2
  have hK := HKh.out.sets3 (.int .i64 1) (.int .i64 (wrap64 (a + b))) (.string noText)
  have hBW := below_sets3 HB.out w.heap.size (Nat.le_refl _) (.int .i64 1) (.int .i64 (wrap64 (a + b))) (.string noText)
  generalize World.setCell _ _ _ = WF at hK hBW ⊢
  obtain ⟨g0, g1, g2, _, _, _⟩ := hK.all3
  exact bodyPost_ret (v := addM a b) (by simp [results, Tryd.results38, go_sem, g0, g1, g2, addM, pv]) rfl ⟨rfl, hBW⟩

theorem t1_f : FnOK 38 addM := ⟨enters_of Tryd.func38 (by kernel_rfl) rfl, fun a b w wa wb => t1_c a b w wa wb⟩

set_option maxRecDepth 100000 in
set_option maxHeartbeats 2000000 in
theorem t2_c (a b : Int) (w : World) (wa : Lit.wf (.int .i64 a) = true) (wb : Lit.wf (.int .i64 b) = true) : Calls Tryd.prog 40 #[.int .i64 a, .int .i64 b] w fun e w' => e = .returned (subM a b) ∧ Below w.heap.size w w' := by
  clear wa wb
  go_enter Tryd.func40, Tryd.ntmps40
  go_wp2_with (go_at_call 39; fail)
  refine (number_c _ _).mono ?_
  rintro e w1 ⟨rfl, hb⟩
  have HK := (Blk.new w _ _).below hb
  have HB : Hid (Below w.heap.size w w1) := (below1 w _).trans (hb.mono (by simp))
  obtain ⟨f0, f1, f2, z0, z1, z2⟩ := HK.all3
  have HKh : Hid (Blk w1 w.heap.size #[.int .i64 0, .int .i64 0, .string ⟨#[]⟩] 26) := HK
  have hl := HK.lt
  clear HK hb
  simp only [pv]
  go_wp2
  have hK := HKh.out.sets3 (.int .i64 1) (.int .i64 (wrap64 (a - b))) (.string noText)
  have hBW := below_sets3 HB.out w.heap.size (Nat.le_refl _) (.int .i64 1) (.int .i64 (wrap64 (a - b))) (.string noText)
  generalize World.setCell _ _ _ = WF at hK hBW ⊢
  obtain ⟨g0, g1, g2, _, _, _⟩ := hK.all3
  exact bodyPost_ret (v := subM a b) (by simp [results, Tryd.results40, go_sem, g0, g1, g2, subM, pv]) rfl ⟨rfl, hBW⟩

theorem t2_f : FnOK 40 subM := ⟨enters_of Tryd.func40 (by kernel_rfl) rfl, fun a b w wa wb => t2_c a b w wa wb⟩

set_option maxRecDepth 100000 in
set_option maxHeartbeats 2000000 in
theorem t3_c (a b : Int) (w : World) (wa : Lit.wf (.int .i64 a) = true) (wb : Lit.wf (.int .i64 b) = true) : Calls Tryd.prog 41 #[.int .i64 a, .int .i64 b] w fun e w' => e = .returned (mulM a b) ∧ Below w.heap.size w w' := by
  clear wa wb
  go_enter Tryd.func41, Tryd.ntmps41
  go_wp2_with (go_at_call 39; fail)
  refine (number_c _ _).mono ?_
  rintro e w1 ⟨rfl, hb⟩
  have HK := (Blk.new w _ _).below hb
  have HB : Hid (Below w.heap.size w w1) := (below1 w _).trans (hb.mono (by simp))
  obtain ⟨f0, f1, f2, z0, z1, z2⟩ := HK.all3
  have HKh : Hid (Blk w1 w.heap.size #[.int .i64 0, .int .i64 0, .string ⟨#[]⟩] 26) := HK
  have hl := HK.lt
  clear HK hb
  simp only [pv]
  go_wp2
  have hK := HKh.out.sets3 (.int .i64 1) (.int .i64 (wrap64 (a * b))) (.string noText)
  have hBW := below_sets3 HB.out w.heap.size (Nat.le_refl _) (.int .i64 1) (.int .i64 (wrap64 (a * b))) (.string noText)
  generalize World.setCell _ _ _ = WF at hK hBW ⊢
  obtain ⟨g0, g1, g2, _, _, _⟩ := hK.all3
  exact bodyPost_ret (v := mulM a b) (by simp [results, Tryd.results41, go_sem, g0, g1, g2, mulM, pv]) rfl ⟨rfl, hBW⟩

theorem t3_f : FnOK 41 mulM := ⟨enters_of Tryd.func41 (by kernel_rfl) rfl, fun a b w wa wb => t3_c a b w wa wb⟩

set_option maxRecDepth 100000 in
set_option maxHeartbeats 2000000 in
theorem t4_c (a b : Int) (w : World) (wa : Lit.wf (.int .i64 a) = true) (wb : Lit.wf (.int .i64 b) = true) : Calls Tryd.prog 44 #[.int .i64 a, .int .i64 b] w fun e w' => e = .returned (eqM a b) ∧ Below w.heap.size w w' := by
  clear wa wb
  go_enter Tryd.func44, Tryd.ntmps44
  go_wp2_with (go_at_call 45; fail)
  refine (truth_c _ _).mono ?_
  rintro e w1 ⟨rfl, hb⟩
  have HK := (Blk.new w _ _).below hb
  have HB : Hid (Below w.heap.size w w1) := (below1 w _).trans (hb.mono (by simp))
  obtain ⟨f0, f1, f2, z0, z1, z2⟩ := HK.all3
  have HKh : Hid (Blk w1 w.heap.size #[.int .i64 0, .int .i64 0, .string ⟨#[]⟩] 26) := HK
  have hl := HK.lt
  clear HK hb
  simp only [pv]
  go_wp2
  have hK := HKh.out.sets3 (.int .i64 3) (.int .i64 (b2i (a == b))) (.string noText)
  have hBW := below_sets3 HB.out w.heap.size (Nat.le_refl _) (.int .i64 3) (.int .i64 (b2i (a == b))) (.string noText)
  generalize World.setCell _ _ _ = WF at hK hBW ⊢
  obtain ⟨g0, g1, g2, _, _, _⟩ := hK.all3
  exact bodyPost_ret (v := eqM a b) (by simp [results, Tryd.results44, go_sem, g0, g1, g2, eqM, pv]) rfl ⟨rfl, hBW⟩

theorem t4_f : FnOK 44 eqM := ⟨enters_of Tryd.func44 (by kernel_rfl) rfl, fun a b w wa wb => t4_c a b w wa wb⟩

set_option maxRecDepth 100000 in
set_option maxHeartbeats 2000000 in
theorem t5_c (a b : Int) (w : World) (wa : Lit.wf (.int .i64 a) = true) (wb : Lit.wf (.int .i64 b) = true) : Calls Tryd.prog 46 #[.int .i64 a, .int .i64 b] w fun e w' => e = .returned (neM a b) ∧ Below w.heap.size w w' := by
  clear wa wb
  go_enter Tryd.func46, Tryd.ntmps46
  go_wp2_with (go_at_call 45; fail)
  refine (truth_c _ _).mono ?_
  rintro e w1 ⟨rfl, hb⟩
  have HK := (Blk.new w _ _).below hb
  have HB : Hid (Below w.heap.size w w1) := (below1 w _).trans (hb.mono (by simp))
  obtain ⟨f0, f1, f2, z0, z1, z2⟩ := HK.all3
  have HKh : Hid (Blk w1 w.heap.size #[.int .i64 0, .int .i64 0, .string ⟨#[]⟩] 26) := HK
  have hl := HK.lt
  clear HK hb
  simp only [pv]
  go_wp2
  have hK := HKh.out.sets3 (.int .i64 3) (.int .i64 (b2i (a != b))) (.string noText)
  have hBW := below_sets3 HB.out w.heap.size (Nat.le_refl _) (.int .i64 3) (.int .i64 (b2i (a != b))) (.string noText)
  generalize World.setCell _ _ _ = WF at hK hBW ⊢
  obtain ⟨g0, g1, g2, _, _, _⟩ := hK.all3
  exact bodyPost_ret (v := neM a b) (by simp [results, Tryd.results46, go_sem, g0, g1, g2, neM, pv]) rfl ⟨rfl, hBW⟩

theorem t5_f : FnOK 46 neM := ⟨enters_of Tryd.func46 (by kernel_rfl) rfl, fun a b w wa wb => t5_c a b w wa wb⟩

set_option maxRecDepth 100000 in
set_option maxHeartbeats 2000000 in
theorem t6_c (a b : Int) (w : World) (wa : Lit.wf (.int .i64 a) = true) (wb : Lit.wf (.int .i64 b) = true) : Calls Tryd.prog 47 #[.int .i64 a, .int .i64 b] w fun e w' => e = .returned (ltM a b) ∧ Below w.heap.size w w' := by
  clear wa wb
  go_enter Tryd.func47, Tryd.ntmps47
  go_wp2_with (go_at_call 45; fail)
  refine (truth_c _ _).mono ?_
  rintro e w1 ⟨rfl, hb⟩
  have HK := (Blk.new w _ _).below hb
  have HB : Hid (Below w.heap.size w w1) := (below1 w _).trans (hb.mono (by simp))
  obtain ⟨f0, f1, f2, z0, z1, z2⟩ := HK.all3
  have HKh : Hid (Blk w1 w.heap.size #[.int .i64 0, .int .i64 0, .string ⟨#[]⟩] 26) := HK
  have hl := HK.lt
  clear HK hb
  simp only [pv]
  go_wp2
  have hK := HKh.out.sets3 (.int .i64 3) (.int .i64 (b2i (decide (a < b)))) (.string noText)
  have hBW := below_sets3 HB.out w.heap.size (Nat.le_refl _) (.int .i64 3) (.int .i64 (b2i (decide (a < b)))) (.string noText)
  generalize World.setCell _ _ _ = WF at hK hBW ⊢
  obtain ⟨g0, g1, g2, _, _, _⟩ := hK.all3
  exact bodyPost_ret (v := ltM a b) (by simp [results, Tryd.results47, go_sem, g0, g1, g2, ltM, pv]) rfl ⟨rfl, hBW⟩

theorem t6_f : FnOK 47 ltM := ⟨enters_of Tryd.func47 (by kernel_rfl) rfl, fun a b w wa wb => t6_c a b w wa wb⟩

set_option maxRecDepth 100000 in
set_option maxHeartbeats 2000000 in
theorem t7_c (a b : Int) (w : World) (wa : Lit.wf (.int .i64 a) = true) (wb : Lit.wf (.int .i64 b) = true) : Calls Tryd.prog 48 #[.int .i64 a, .int .i64 b] w fun e w' => e = .returned (leM a b) ∧ Below w.heap.size w w' := by
  clear wa wb
  go_enter Tryd.func48, Tryd.ntmps48
  go_wp2_with (go_at_call 45; fail)
  refine (truth_c _ _).mono ?_
  rintro e w1 ⟨rfl, hb⟩
  have HK := (Blk.new w _ _).below hb
  have HB : Hid (Below w.heap.size w w1) := (below1 w _).trans (hb.mono (by simp))
  obtain ⟨f0, f1, f2, z0, z1, z2⟩ := HK.all3
  have HKh : Hid (Blk w1 w.heap.size #[.int .i64 0, .int .i64 0, .string ⟨#[]⟩] 26) := HK
  have hl := HK.lt
  clear HK hb
  simp only [pv]
  go_wp2
  have hK := HKh.out.sets3 (.int .i64 3) (.int .i64 (b2i (decide (a ≤ b)))) (.string noText)
  have hBW := below_sets3 HB.out w.heap.size (Nat.le_refl _) (.int .i64 3) (.int .i64 (b2i (decide (a ≤ b)))) (.string noText)
  generalize World.setCell _ _ _ = WF at hK hBW ⊢
  obtain ⟨g0, g1, g2, _, _, _⟩ := hK.all3
  exact bodyPost_ret (v := leM a b) (by simp [results, Tryd.results48, go_sem, g0, g1, g2, leM, pv]) rfl ⟨rfl, hBW⟩

theorem t7_f : FnOK 48 leM := ⟨enters_of Tryd.func48 (by kernel_rfl) rfl, fun a b w wa wb => t7_c a b w wa wb⟩

set_option maxRecDepth 100000 in
set_option maxHeartbeats 2000000 in
theorem t8_c (a b : Int) (w : World) (wa : Lit.wf (.int .i64 a) = true) (wb : Lit.wf (.int .i64 b) = true) : Calls Tryd.prog 49 #[.int .i64 a, .int .i64 b] w fun e w' => e = .returned (gtM a b) ∧ Below w.heap.size w w' := by
  clear wa wb
  go_enter Tryd.func49, Tryd.ntmps49
  go_wp2_with (go_at_call 45; fail)
  refine (truth_c _ _).mono ?_
  rintro e w1 ⟨rfl, hb⟩
  have HK := (Blk.new w _ _).below hb
  have HB : Hid (Below w.heap.size w w1) := (below1 w _).trans (hb.mono (by simp))
  obtain ⟨f0, f1, f2, z0, z1, z2⟩ := HK.all3
  have HKh : Hid (Blk w1 w.heap.size #[.int .i64 0, .int .i64 0, .string ⟨#[]⟩] 26) := HK
  have hl := HK.lt
  clear HK hb
  simp only [pv]
  go_wp2
  have hK := HKh.out.sets3 (.int .i64 3) (.int .i64 (b2i (decide (b < a)))) (.string noText)
  have hBW := below_sets3 HB.out w.heap.size (Nat.le_refl _) (.int .i64 3) (.int .i64 (b2i (decide (b < a)))) (.string noText)
  generalize World.setCell _ _ _ = WF at hK hBW ⊢
  obtain ⟨g0, g1, g2, _, _, _⟩ := hK.all3
  exact bodyPost_ret (v := gtM a b) (by simp [results, Tryd.results49, go_sem, g0, g1, g2, gtM, pv]) rfl ⟨rfl, hBW⟩

theorem t8_f : FnOK 49 gtM := ⟨enters_of Tryd.func49 (by kernel_rfl) rfl, fun a b w wa wb => t8_c a b w wa wb⟩

set_option maxRecDepth 100000 in
set_option maxHeartbeats 2000000 in
theorem t9_c (a b : Int) (w : World) (wa : Lit.wf (.int .i64 a) = true) (wb : Lit.wf (.int .i64 b) = true) : Calls Tryd.prog 50 #[.int .i64 a, .int .i64 b] w fun e w' => e = .returned (geM a b) ∧ Below w.heap.size w w' := by
  clear wa wb
  go_enter Tryd.func50, Tryd.ntmps50
  go_wp2_with (go_at_call 45; fail)
  refine (truth_c _ _).mono ?_
  rintro e w1 ⟨rfl, hb⟩
  have HK := (Blk.new w _ _).below hb
  have HB : Hid (Below w.heap.size w w1) := (below1 w _).trans (hb.mono (by simp))
  obtain ⟨f0, f1, f2, z0, z1, z2⟩ := HK.all3
  have HKh : Hid (Blk w1 w.heap.size #[.int .i64 0, .int .i64 0, .string ⟨#[]⟩] 26) := HK
  have hl := HK.lt
  clear HK hb
  simp only [pv]
  go_wp2
  have hK := HKh.out.sets3 (.int .i64 3) (.int .i64 (b2i (decide (b ≤ a)))) (.string noText)
  have hBW := below_sets3 HB.out w.heap.size (Nat.le_refl _) (.int .i64 3) (.int .i64 (b2i (decide (b ≤ a)))) (.string noText)
  generalize World.setCell _ _ _ = WF at hK hBW ⊢
  obtain ⟨g0, g1, g2, _, _, _⟩ := hK.all3
  exact bodyPost_ret (v := geM a b) (by simp [results, Tryd.results50, go_sem, g0, g1, g2, geM, pv]) rfl ⟨rfl, hBW⟩

theorem t9_f : FnOK 50 geM := ⟨enters_of Tryd.func50 (by kernel_rfl) rfl, fun a b w wa wb => t9_c a b w wa wb⟩

set_option maxRecDepth 100000 in
set_option maxHeartbeats 2000000 in
theorem t10_c (a b : Int) (w : World) (wa : Lit.wf (.int .i64 a) = true) (wb : Lit.wf (.int .i64 b) = true) : Calls Tryd.prog 51 #[.int .i64 a, .int .i64 b] w fun e w' => e = .returned (eqM a b) ∧ Below w.heap.size w w' := by
  clear wa wb
  go_enter Tryd.func51, Tryd.ntmps51
  go_wp2_with (go_at_call 45; fail)
  refine (truth_c _ _).mono ?_
  rintro e w1 ⟨rfl, hb⟩
  have HK := (Blk.new w _ _).below hb
  have HB : Hid (Below w.heap.size w w1) := (below1 w _).trans (hb.mono (by simp))
  obtain ⟨f0, f1, f2, z0, z1, z2⟩ := HK.all3
  have HKh : Hid (Blk w1 w.heap.size #[.int .i64 0, .int .i64 0, .string ⟨#[]⟩] 26) := HK
  have hl := HK.lt
  clear HK hb
  simp only [pv]
  go_wp2
  have hK := HKh.out.sets3 (.int .i64 3) (.int .i64 (b2i (a == b))) (.string noText)
  have hBW := below_sets3 HB.out w.heap.size (Nat.le_refl _) (.int .i64 3) (.int .i64 (b2i (a == b))) (.string noText)
  generalize World.setCell _ _ _ = WF at hK hBW ⊢
  obtain ⟨g0, g1, g2, _, _, _⟩ := hK.all3
  exact bodyPost_ret (v := eqM a b) (by simp [results, Tryd.results51, go_sem, g0, g1, g2, eqM, pv]) rfl ⟨rfl, hBW⟩

theorem t10_f : FnOK 51 eqM := ⟨enters_of Tryd.func51 (by kernel_rfl) rfl, fun a b w wa wb => t10_c a b w wa wb⟩

set_option maxRecDepth 100000 in
set_option maxHeartbeats 2000000 in
theorem t11_c (a b : Int) (w : World) (wa : Lit.wf (.int .i64 a) = true) (wb : Lit.wf (.int .i64 b) = true) : Calls Tryd.prog 52 #[.int .i64 a, .int .i64 b] w fun e w' => e = .returned (ltM a b) ∧ Below w.heap.size w w' := by
  clear wa wb
  go_enter Tryd.func52, Tryd.ntmps52
  go_wp2_with (go_at_call 45; fail)
  refine (truth_c _ _).mono ?_
  rintro e w1 ⟨rfl, hb⟩
  have HK := (Blk.new w _ _).below hb
  have HB : Hid (Below w.heap.size w w1) := (below1 w _).trans (hb.mono (by simp))
  obtain ⟨f0, f1, f2, z0, z1, z2⟩ := HK.all3
  have HKh : Hid (Blk w1 w.heap.size #[.int .i64 0, .int .i64 0, .string ⟨#[]⟩] 26) := HK
  have hl := HK.lt
  clear HK hb
  simp only [pv]
  go_wp2
  have hK := HKh.out.sets3 (.int .i64 3) (.int .i64 (b2i (decide (a < b)))) (.string noText)
  have hBW := below_sets3 HB.out w.heap.size (Nat.le_refl _) (.int .i64 3) (.int .i64 (b2i (decide (a < b)))) (.string noText)
  generalize World.setCell _ _ _ = WF at hK hBW ⊢
  obtain ⟨g0, g1, g2, _, _, _⟩ := hK.all3
  exact bodyPost_ret (v := ltM a b) (by simp [results, Tryd.results52, go_sem, g0, g1, g2, ltM, pv]) rfl ⟨rfl, hBW⟩

theorem t11_f : FnOK 52 ltM := ⟨enters_of Tryd.func52 (by kernel_rfl) rfl, fun a b w wa wb => t11_c a b w wa wb⟩

set_option maxRecDepth 100000 in
set_option maxHeartbeats 2000000 in
theorem t12_c (a b : Int) (w : World) (wa : Lit.wf (.int .i64 a) = true) (wb : Lit.wf (.int .i64 b) = true) : Calls Tryd.prog 53 #[.int .i64 a, .int .i64 b] w fun e w' => e = .returned (ordM a b) ∧ Below w.heap.size w w' := by
  clear wa wb
  go_enter Tryd.func53, Tryd.ntmps53
  go_wp2_with (go_at_call 39; fail)
  refine (number_c _ _).mono ?_
  rintro e w1 ⟨rfl, hb⟩
  have HK := (Blk.new w _ _).below hb
  have HB : Hid (Below w.heap.size w w1) := (below1 w _).trans (hb.mono (by simp))
  obtain ⟨f0, f1, f2, z0, z1, z2⟩ := HK.all3
  have HKh : Hid (Blk w1 w.heap.size #[.int .i64 0, .int .i64 0, .string ⟨#[]⟩] 26) := HK
  have hl := HK.lt
  clear HK hb
  simp only [pv]
  go_wp2
  have hK := HKh.out.sets3 (.int .i64 1) (.int .i64 (a)) (.string noText)
  have hBW := below_sets3 HB.out w.heap.size (Nat.le_refl _) (.int .i64 1) (.int .i64 (a)) (.string noText)
  generalize World.setCell _ _ _ = WF at hK hBW ⊢
  obtain ⟨g0, g1, g2, _, _, _⟩ := hK.all3
  exact bodyPost_ret (v := ordM a b) (by simp [results, Tryd.results53, go_sem, g0, g1, g2, ordM, pv]) rfl ⟨rfl, hBW⟩

theorem t12_f : FnOK 53 ordM := ⟨enters_of Tryd.func53 (by kernel_rfl) rfl, fun a b w wa wb => t12_c a b w wa wb⟩

end Go.Proofs.YtijafedpaghhaaaDoor
