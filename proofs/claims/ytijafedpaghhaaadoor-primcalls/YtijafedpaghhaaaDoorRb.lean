/-
  The document's two, by contracts.
-/
import Derived.Test.YtijafedpaghhaaaDoorRa
import Derived.Test.YtijafedpaghhaaaDoorPjM
namespace Go.Proofs.YtijafedpaghhaaaDoor
open Go.RowKit Go.Shelf Go.Maps
set_option linter.unusedVariables false

set_option maxRecDepth 100000 in
set_option maxHeartbeats 1000000 in
theorem rNumber_c (x : Int) (w : World) : Calls Tryd.prog 33 #[.int .i64 x] w fun e w' => e = .returned (pv 1 x noText) ∧ Below w.heap.size w w' := by
  go_enter Tryd.func33, Tryd.ntmps33
  go_wp2
  exact bodyPost_ret (v := pv 1 x noText) (by simp [results, Tryd.results33, go_sem, pv, noText]) rfl ⟨rfl, below1 _ _⟩
set_option maxRecDepth 100000 in
set_option maxHeartbeats 1000000 in
theorem rFail_c (t : ByteArray) (w : World) : Calls Tryd.prog 34 #[.string t] w fun e w' => e = .returned (pv 4 0 t) ∧ Below w.heap.size w w' := by
  go_enter Tryd.func34, Tryd.ntmps34
  go_wp2
  exact bodyPost_ret (v := pv 4 0 t) (by simp [results, Tryd.results34, go_sem, pv]) rfl ⟨rfl, below1 _ _⟩
set_option maxRecDepth 100000 in
set_option maxHeartbeats 1000000 in
theorem rTruth_c (x : Bool) (w : World) : Calls Tryd.prog 61 #[.bool x] w fun e w' => e = .returned (pv 3 (b2i x) noText) ∧ Below w.heap.size w w' := by
  cases x
  · go_enter Tryd.func61, Tryd.ntmps61
    go_wp2
    exact bodyPost_ret (v := pv 3 0 noText) (by simp [results, Tryd.results61, go_sem, pv, noText]) rfl ⟨rfl, below1 _ _⟩
  · go_enter Tryd.func61, Tryd.ntmps61
    go_wp2
    exact bodyPost_ret (v := pv 3 1 noText) (by simp [results, Tryd.results61, go_sem, pv, noText]) rfl ⟨rfl, below1 _ _⟩
set_option maxRecDepth 100000 in
set_option maxHeartbeats 2000000 in
theorem rtwo_add (s : ByteArray) (h : s.toList = [97, 100, 100]) (a b : Int) (w : World) : Calls Tryd.prog 35 #[.string s, .int .i64 a, .int .i64 b] w fun e w' => e = .returned (addM a b) ∧ Below w.heap.size w w' := by
  have t0 : (s.toList == [97, 100, 100]) = true := by rw [h]; decide
  have HM : Hid (addM a b = pv 1 (wrap64 (a + b)) noText) := rfl
  clear h
  go_enter Tryd.func35, Tryd.ntmps35
  go_wp2_with (go_at_call 33; fail)
  refine (rNumber_c _ _).mono ?_
  rintro e w1 ⟨rfl, hb⟩
  have HK := (Blk.new w _ _).below hb
  have HB : Hid (Below w.heap.size w w1) := (below1 w _).trans (hb.mono (by simp))
  obtain ⟨f0, f1, f2, z0, z1, z2⟩ := HK.all3
  have HKh : Hid (Blk w1 w.heap.size #[.int .i64 0, .int .i64 0, .string ⟨#[]⟩] 26) := HK
  have hl := HK.lt
  clear HK hb
  simp only [pv]
  go_wp2
  have hK := HKh.out.sets3 (.int .i64 1) (.int .i64 (wrap64 (a + b))) (.string noText)
  have hBW := below_sets3 HB.out w.heap.size (Nat.le_refl _) (.int .i64 1) (.int .i64 (wrap64 (a + b))) (.string noText)
  generalize World.setCell _ _ _ = WF at hK hBW ⊢
  obtain ⟨g0, g1, g2, _, _, _⟩ := hK.all3
  exact bodyPost_ret (v := addM a b) (by rw [HM.out]; simp [results, Tryd.results35, go_sem, g0, g1, g2, pv]) rfl ⟨rfl, hBW⟩
set_option maxRecDepth 100000 in
set_option maxHeartbeats 2000000 in
theorem rtwo_sub (s : ByteArray) (h : s.toList = [115, 117, 98]) (a b : Int) (w : World) : Calls Tryd.prog 35 #[.string s, .int .i64 a, .int .i64 b] w fun e w' => e = .returned (subM a b) ∧ Below w.heap.size w w' := by
  have t0 : (s.toList == [97, 100, 100]) = false := by rw [h]; decide
  have t1 : (s.toList == [115, 117, 98]) = true := by rw [h]; decide
  have HM : Hid (subM a b = pv 1 (wrap64 (a - b)) noText) := rfl
  clear h
  go_enter Tryd.func35, Tryd.ntmps35
  go_wp2_with (go_at_call 33; fail)
  refine (rNumber_c _ _).mono ?_
  rintro e w1 ⟨rfl, hb⟩
  have HK := (Blk.new w _ _).below hb
  have HB : Hid (Below w.heap.size w w1) := (below1 w _).trans (hb.mono (by simp))
  obtain ⟨f0, f1, f2, z0, z1, z2⟩ := HK.all3
  have HKh : Hid (Blk w1 w.heap.size #[.int .i64 0, .int .i64 0, .string ⟨#[]⟩] 26) := HK
  have hl := HK.lt
  clear HK hb
  simp only [pv]
  go_wp2
  have hK := HKh.out.sets3 (.int .i64 1) (.int .i64 (wrap64 (a - b))) (.string noText)
  have hBW := below_sets3 HB.out w.heap.size (Nat.le_refl _) (.int .i64 1) (.int .i64 (wrap64 (a - b))) (.string noText)
  generalize World.setCell _ _ _ = WF at hK hBW ⊢
  obtain ⟨g0, g1, g2, _, _, _⟩ := hK.all3
  exact bodyPost_ret (v := subM a b) (by rw [HM.out]; simp [results, Tryd.results35, go_sem, g0, g1, g2, pv]) rfl ⟨rfl, hBW⟩
set_option maxRecDepth 100000 in
set_option maxHeartbeats 2000000 in
theorem rtwo_mul (s : ByteArray) (h : s.toList = [109, 117, 108]) (a b : Int) (w : World) : Calls Tryd.prog 35 #[.string s, .int .i64 a, .int .i64 b] w fun e w' => e = .returned (mulM a b) ∧ Below w.heap.size w w' := by
  have t0 : (s.toList == [97, 100, 100]) = false := by rw [h]; decide
  have t1 : (s.toList == [115, 117, 98]) = false := by rw [h]; decide
  have t2 : (s.toList == [109, 117, 108]) = true := by rw [h]; decide
  have HM : Hid (mulM a b = pv 1 (wrap64 (a * b)) noText) := rfl
  clear h
  go_enter Tryd.func35, Tryd.ntmps35
  go_wp2_with (go_at_call 33; fail)
  refine (rNumber_c _ _).mono ?_
  rintro e w1 ⟨rfl, hb⟩
  have HK := (Blk.new w _ _).below hb
  have HB : Hid (Below w.heap.size w w1) := (below1 w _).trans (hb.mono (by simp))
  obtain ⟨f0, f1, f2, z0, z1, z2⟩ := HK.all3
  have HKh : Hid (Blk w1 w.heap.size #[.int .i64 0, .int .i64 0, .string ⟨#[]⟩] 26) := HK
  have hl := HK.lt
  clear HK hb
  simp only [pv]
  go_wp2
  have hK := HKh.out.sets3 (.int .i64 1) (.int .i64 (wrap64 (a * b))) (.string noText)
  have hBW := below_sets3 HB.out w.heap.size (Nat.le_refl _) (.int .i64 1) (.int .i64 (wrap64 (a * b))) (.string noText)
  generalize World.setCell _ _ _ = WF at hK hBW ⊢
  obtain ⟨g0, g1, g2, _, _, _⟩ := hK.all3
  exact bodyPost_ret (v := mulM a b) (by rw [HM.out]; simp [results, Tryd.results35, go_sem, g0, g1, g2, pv]) rfl ⟨rfl, hBW⟩
set_option maxRecDepth 100000 in
set_option maxHeartbeats 2000000 in
theorem rtwo_eq (s : ByteArray) (h : s.toList = [101, 113]) (a b : Int) (w : World) : Calls Tryd.prog 35 #[.string s, .int .i64 a, .int .i64 b] w fun e w' => e = .returned (eqM a b) ∧ Below w.heap.size w w' := by
  have t0 : (s.toList == [97, 100, 100]) = false := by rw [h]; decide
  have t1 : (s.toList == [115, 117, 98]) = false := by rw [h]; decide
  have t2 : (s.toList == [109, 117, 108]) = false := by rw [h]; decide
  have t3 : (s.toList == [101, 113]) = true := by rw [h]; decide
  have HM : Hid (eqM a b = pv 3 (b2i (a == b)) noText) := rfl
  clear h
  go_enter Tryd.func35, Tryd.ntmps35
  go_wp2_with (go_at_call 61; fail)
  refine (rTruth_c _ _).mono ?_
  rintro e w1 ⟨rfl, hb⟩
  have HK := (Blk.new w _ _).below hb
  have HB : Hid (Below w.heap.size w w1) := (below1 w _).trans (hb.mono (by simp))
  obtain ⟨f0, f1, f2, z0, z1, z2⟩ := HK.all3
  have HKh : Hid (Blk w1 w.heap.size #[.int .i64 0, .int .i64 0, .string ⟨#[]⟩] 26) := HK
  have hl := HK.lt
  clear HK hb
  simp only [pv]
  go_wp2
  have hK := HKh.out.sets3 (.int .i64 3) (.int .i64 (b2i (a == b))) (.string noText)
  have hBW := below_sets3 HB.out w.heap.size (Nat.le_refl _) (.int .i64 3) (.int .i64 (b2i (a == b))) (.string noText)
  generalize World.setCell _ _ _ = WF at hK hBW ⊢
  obtain ⟨g0, g1, g2, _, _, _⟩ := hK.all3
  exact bodyPost_ret (v := eqM a b) (by rw [HM.out]; simp [results, Tryd.results35, go_sem, g0, g1, g2, pv]) rfl ⟨rfl, hBW⟩
set_option maxRecDepth 100000 in
set_option maxHeartbeats 2000000 in
theorem rtwo_ceq (s : ByteArray) (h : s.toList = [99, 101, 113]) (a b : Int) (w : World) : Calls Tryd.prog 35 #[.string s, .int .i64 a, .int .i64 b] w fun e w' => e = .returned (eqM a b) ∧ Below w.heap.size w w' := by
  have t0 : (s.toList == [97, 100, 100]) = false := by rw [h]; decide
  have t1 : (s.toList == [115, 117, 98]) = false := by rw [h]; decide
  have t2 : (s.toList == [109, 117, 108]) = false := by rw [h]; decide
  have t3 : (s.toList == [101, 113]) = false := by rw [h]; decide
  have t4 : (s.toList == [99, 101, 113]) = true := by rw [h]; decide
  have HM : Hid (eqM a b = pv 3 (b2i (a == b)) noText) := rfl
  clear h
  go_enter Tryd.func35, Tryd.ntmps35
  go_wp2_with (go_at_call 61; fail)
  refine (rTruth_c _ _).mono ?_
  rintro e w1 ⟨rfl, hb⟩
  have HK := (Blk.new w _ _).below hb
  have HB : Hid (Below w.heap.size w w1) := (below1 w _).trans (hb.mono (by simp))
  obtain ⟨f0, f1, f2, z0, z1, z2⟩ := HK.all3
  have HKh : Hid (Blk w1 w.heap.size #[.int .i64 0, .int .i64 0, .string ⟨#[]⟩] 26) := HK
  have hl := HK.lt
  clear HK hb
  simp only [pv]
  go_wp2
  have hK := HKh.out.sets3 (.int .i64 3) (.int .i64 (b2i (a == b))) (.string noText)
  have hBW := below_sets3 HB.out w.heap.size (Nat.le_refl _) (.int .i64 3) (.int .i64 (b2i (a == b))) (.string noText)
  generalize World.setCell _ _ _ = WF at hK hBW ⊢
  obtain ⟨g0, g1, g2, _, _, _⟩ := hK.all3
  exact bodyPost_ret (v := eqM a b) (by rw [HM.out]; simp [results, Tryd.results35, go_sem, g0, g1, g2, pv]) rfl ⟨rfl, hBW⟩
set_option maxRecDepth 100000 in
set_option maxHeartbeats 2000000 in
theorem rtwo_ne (s : ByteArray) (h : s.toList = [110, 101]) (a b : Int) (w : World) : Calls Tryd.prog 35 #[.string s, .int .i64 a, .int .i64 b] w fun e w' => e = .returned (neM a b) ∧ Below w.heap.size w w' := by
  have t0 : (s.toList == [97, 100, 100]) = false := by rw [h]; decide
  have t1 : (s.toList == [115, 117, 98]) = false := by rw [h]; decide
  have t2 : (s.toList == [109, 117, 108]) = false := by rw [h]; decide
  have t3 : (s.toList == [101, 113]) = false := by rw [h]; decide
  have t4 : (s.toList == [99, 101, 113]) = false := by rw [h]; decide
  have t5 : (s.toList == [110, 101]) = true := by rw [h]; decide
  have HM : Hid (neM a b = pv 3 (b2i (a != b)) noText) := rfl
  clear h
  go_enter Tryd.func35, Tryd.ntmps35
  go_wp2_with (go_at_call 61; fail)
  refine (rTruth_c _ _).mono ?_
  rintro e w1 ⟨rfl, hb⟩
  have HK := (Blk.new w _ _).below hb
  have HB : Hid (Below w.heap.size w w1) := (below1 w _).trans (hb.mono (by simp))
  obtain ⟨f0, f1, f2, z0, z1, z2⟩ := HK.all3
  have HKh : Hid (Blk w1 w.heap.size #[.int .i64 0, .int .i64 0, .string ⟨#[]⟩] 26) := HK
  have hl := HK.lt
  clear HK hb
  simp only [pv]
  go_wp2
  have hK := HKh.out.sets3 (.int .i64 3) (.int .i64 (b2i (a != b))) (.string noText)
  have hBW := below_sets3 HB.out w.heap.size (Nat.le_refl _) (.int .i64 3) (.int .i64 (b2i (a != b))) (.string noText)
  generalize World.setCell _ _ _ = WF at hK hBW ⊢
  obtain ⟨g0, g1, g2, _, _, _⟩ := hK.all3
  exact bodyPost_ret (v := neM a b) (by rw [HM.out]; simp [results, Tryd.results35, go_sem, g0, g1, g2, pv]) rfl ⟨rfl, hBW⟩
set_option maxRecDepth 100000 in
set_option maxHeartbeats 2000000 in
theorem rtwo_lt (s : ByteArray) (h : s.toList = [108, 116]) (a b : Int) (w : World) : Calls Tryd.prog 35 #[.string s, .int .i64 a, .int .i64 b] w fun e w' => e = .returned (ltM a b) ∧ Below w.heap.size w w' := by
  have t0 : (s.toList == [97, 100, 100]) = false := by rw [h]; decide
  have t1 : (s.toList == [115, 117, 98]) = false := by rw [h]; decide
  have t2 : (s.toList == [109, 117, 108]) = false := by rw [h]; decide
  have t3 : (s.toList == [101, 113]) = false := by rw [h]; decide
  have t4 : (s.toList == [99, 101, 113]) = false := by rw [h]; decide
  have t5 : (s.toList == [110, 101]) = false := by rw [h]; decide
  have t6 : (s.toList == [108, 116]) = true := by rw [h]; decide
  have HM : Hid (ltM a b = pv 3 (b2i (decide (a < b))) noText) := rfl
  clear h
  go_enter Tryd.func35, Tryd.ntmps35
  go_wp2_with (go_at_call 61; fail)
  refine (rTruth_c _ _).mono ?_
  rintro e w1 ⟨rfl, hb⟩
  have HK := (Blk.new w _ _).below hb
  have HB : Hid (Below w.heap.size w w1) := (below1 w _).trans (hb.mono (by simp))
  obtain ⟨f0, f1, f2, z0, z1, z2⟩ := HK.all3
  have HKh : Hid (Blk w1 w.heap.size #[.int .i64 0, .int .i64 0, .string ⟨#[]⟩] 26) := HK
  have hl := HK.lt
  clear HK hb
  simp only [pv]
  go_wp2
  have hK := HKh.out.sets3 (.int .i64 3) (.int .i64 (b2i (decide (a < b)))) (.string noText)
  have hBW := below_sets3 HB.out w.heap.size (Nat.le_refl _) (.int .i64 3) (.int .i64 (b2i (decide (a < b)))) (.string noText)
  generalize World.setCell _ _ _ = WF at hK hBW ⊢
  obtain ⟨g0, g1, g2, _, _, _⟩ := hK.all3
  exact bodyPost_ret (v := ltM a b) (by rw [HM.out]; simp [results, Tryd.results35, go_sem, g0, g1, g2, pv]) rfl ⟨rfl, hBW⟩
set_option maxRecDepth 100000 in
set_option maxHeartbeats 2000000 in
theorem rtwo_clt (s : ByteArray) (h : s.toList = [99, 108, 116]) (a b : Int) (w : World) : Calls Tryd.prog 35 #[.string s, .int .i64 a, .int .i64 b] w fun e w' => e = .returned (ltM a b) ∧ Below w.heap.size w w' := by
  have t0 : (s.toList == [97, 100, 100]) = false := by rw [h]; decide
  have t1 : (s.toList == [115, 117, 98]) = false := by rw [h]; decide
  have t2 : (s.toList == [109, 117, 108]) = false := by rw [h]; decide
  have t3 : (s.toList == [101, 113]) = false := by rw [h]; decide
  have t4 : (s.toList == [99, 101, 113]) = false := by rw [h]; decide
  have t5 : (s.toList == [110, 101]) = false := by rw [h]; decide
  have t6 : (s.toList == [108, 116]) = false := by rw [h]; decide
  have t7 : (s.toList == [99, 108, 116]) = true := by rw [h]; decide
  have HM : Hid (ltM a b = pv 3 (b2i (decide (a < b))) noText) := rfl
  clear h
  go_enter Tryd.func35, Tryd.ntmps35
  go_wp2_with (go_at_call 61; fail)
  refine (rTruth_c _ _).mono ?_
  rintro e w1 ⟨rfl, hb⟩
  have HK := (Blk.new w _ _).below hb
  have HB : Hid (Below w.heap.size w w1) := (below1 w _).trans (hb.mono (by simp))
  obtain ⟨f0, f1, f2, z0, z1, z2⟩ := HK.all3
  have HKh : Hid (Blk w1 w.heap.size #[.int .i64 0, .int .i64 0, .string ⟨#[]⟩] 26) := HK
  have hl := HK.lt
  clear HK hb
  simp only [pv]
  go_wp2
  have hK := HKh.out.sets3 (.int .i64 3) (.int .i64 (b2i (decide (a < b)))) (.string noText)
  have hBW := below_sets3 HB.out w.heap.size (Nat.le_refl _) (.int .i64 3) (.int .i64 (b2i (decide (a < b)))) (.string noText)
  generalize World.setCell _ _ _ = WF at hK hBW ⊢
  obtain ⟨g0, g1, g2, _, _, _⟩ := hK.all3
  exact bodyPost_ret (v := ltM a b) (by rw [HM.out]; simp [results, Tryd.results35, go_sem, g0, g1, g2, pv]) rfl ⟨rfl, hBW⟩
set_option maxRecDepth 100000 in
set_option maxHeartbeats 2000000 in
theorem rtwo_le (s : ByteArray) (h : s.toList = [108, 101]) (a b : Int) (w : World) : Calls Tryd.prog 35 #[.string s, .int .i64 a, .int .i64 b] w fun e w' => e = .returned (leM a b) ∧ Below w.heap.size w w' := by
  have t0 : (s.toList == [97, 100, 100]) = false := by rw [h]; decide
  have t1 : (s.toList == [115, 117, 98]) = false := by rw [h]; decide
  have t2 : (s.toList == [109, 117, 108]) = false := by rw [h]; decide
  have t3 : (s.toList == [101, 113]) = false := by rw [h]; decide
  have t4 : (s.toList == [99, 101, 113]) = false := by rw [h]; decide
  have t5 : (s.toList == [110, 101]) = false := by rw [h]; decide
  have t6 : (s.toList == [108, 116]) = false := by rw [h]; decide
  have t7 : (s.toList == [99, 108, 116]) = false := by rw [h]; decide
  have t8 : (s.toList == [108, 101]) = true := by rw [h]; decide
  have HM : Hid (leM a b = pv 3 (b2i (decide (a ≤ b))) noText) := rfl
  clear h
  go_enter Tryd.func35, Tryd.ntmps35
  go_wp2_with (go_at_call 61; fail)
  refine (rTruth_c _ _).mono ?_
  rintro e w1 ⟨rfl, hb⟩
  have HK := (Blk.new w _ _).below hb
  have HB : Hid (Below w.heap.size w w1) := (below1 w _).trans (hb.mono (by simp))
  obtain ⟨f0, f1, f2, z0, z1, z2⟩ := HK.all3
  have HKh : Hid (Blk w1 w.heap.size #[.int .i64 0, .int .i64 0, .string ⟨#[]⟩] 26) := HK
  have hl := HK.lt
  clear HK hb
  simp only [pv]
  go_wp2
  have hK := HKh.out.sets3 (.int .i64 3) (.int .i64 (b2i (decide (a ≤ b)))) (.string noText)
  have hBW := below_sets3 HB.out w.heap.size (Nat.le_refl _) (.int .i64 3) (.int .i64 (b2i (decide (a ≤ b)))) (.string noText)
  generalize World.setCell _ _ _ = WF at hK hBW ⊢
  obtain ⟨g0, g1, g2, _, _, _⟩ := hK.all3
  exact bodyPost_ret (v := leM a b) (by rw [HM.out]; simp [results, Tryd.results35, go_sem, g0, g1, g2, pv]) rfl ⟨rfl, hBW⟩
set_option maxRecDepth 100000 in
set_option maxHeartbeats 2000000 in
theorem rtwo_gt (s : ByteArray) (h : s.toList = [103, 116]) (a b : Int) (w : World) : Calls Tryd.prog 35 #[.string s, .int .i64 a, .int .i64 b] w fun e w' => e = .returned (gtM a b) ∧ Below w.heap.size w w' := by
  have t0 : (s.toList == [97, 100, 100]) = false := by rw [h]; decide
  have t1 : (s.toList == [115, 117, 98]) = false := by rw [h]; decide
  have t2 : (s.toList == [109, 117, 108]) = false := by rw [h]; decide
  have t3 : (s.toList == [101, 113]) = false := by rw [h]; decide
  have t4 : (s.toList == [99, 101, 113]) = false := by rw [h]; decide
  have t5 : (s.toList == [110, 101]) = false := by rw [h]; decide
  have t6 : (s.toList == [108, 116]) = false := by rw [h]; decide
  have t7 : (s.toList == [99, 108, 116]) = false := by rw [h]; decide
  have t8 : (s.toList == [108, 101]) = false := by rw [h]; decide
  have t9 : (s.toList == [103, 116]) = true := by rw [h]; decide
  have HM : Hid (gtM a b = pv 3 (b2i (decide (b < a))) noText) := rfl
  clear h
  go_enter Tryd.func35, Tryd.ntmps35
  go_wp2_with (go_at_call 61; fail)
  refine (rTruth_c _ _).mono ?_
  rintro e w1 ⟨rfl, hb⟩
  have HK := (Blk.new w _ _).below hb
  have HB : Hid (Below w.heap.size w w1) := (below1 w _).trans (hb.mono (by simp))
  obtain ⟨f0, f1, f2, z0, z1, z2⟩ := HK.all3
  have HKh : Hid (Blk w1 w.heap.size #[.int .i64 0, .int .i64 0, .string ⟨#[]⟩] 26) := HK
  have hl := HK.lt
  clear HK hb
  simp only [pv]
  go_wp2
  have hK := HKh.out.sets3 (.int .i64 3) (.int .i64 (b2i (decide (b < a)))) (.string noText)
  have hBW := below_sets3 HB.out w.heap.size (Nat.le_refl _) (.int .i64 3) (.int .i64 (b2i (decide (b < a)))) (.string noText)
  generalize World.setCell _ _ _ = WF at hK hBW ⊢
  obtain ⟨g0, g1, g2, _, _, _⟩ := hK.all3
  exact bodyPost_ret (v := gtM a b) (by rw [HM.out]; simp [results, Tryd.results35, go_sem, g0, g1, g2, pv]) rfl ⟨rfl, hBW⟩
set_option maxRecDepth 100000 in
set_option maxHeartbeats 2000000 in
theorem rtwo_ge (s : ByteArray) (h : s.toList = [103, 101]) (a b : Int) (w : World) : Calls Tryd.prog 35 #[.string s, .int .i64 a, .int .i64 b] w fun e w' => e = .returned (geM a b) ∧ Below w.heap.size w w' := by
  have t0 : (s.toList == [97, 100, 100]) = false := by rw [h]; decide
  have t1 : (s.toList == [115, 117, 98]) = false := by rw [h]; decide
  have t2 : (s.toList == [109, 117, 108]) = false := by rw [h]; decide
  have t3 : (s.toList == [101, 113]) = false := by rw [h]; decide
  have t4 : (s.toList == [99, 101, 113]) = false := by rw [h]; decide
  have t5 : (s.toList == [110, 101]) = false := by rw [h]; decide
  have t6 : (s.toList == [108, 116]) = false := by rw [h]; decide
  have t7 : (s.toList == [99, 108, 116]) = false := by rw [h]; decide
  have t8 : (s.toList == [108, 101]) = false := by rw [h]; decide
  have t9 : (s.toList == [103, 116]) = false := by rw [h]; decide
  have t10 : (s.toList == [103, 101]) = true := by rw [h]; decide
  have HM : Hid (geM a b = pv 3 (b2i (decide (b ≤ a))) noText) := rfl
  clear h
  go_enter Tryd.func35, Tryd.ntmps35
  go_wp2_with (go_at_call 61; fail)
  refine (rTruth_c _ _).mono ?_
  rintro e w1 ⟨rfl, hb⟩
  have HK := (Blk.new w _ _).below hb
  have HB : Hid (Below w.heap.size w w1) := (below1 w _).trans (hb.mono (by simp))
  obtain ⟨f0, f1, f2, z0, z1, z2⟩ := HK.all3
  have HKh : Hid (Blk w1 w.heap.size #[.int .i64 0, .int .i64 0, .string ⟨#[]⟩] 26) := HK
  have hl := HK.lt
  clear HK hb
  simp only [pv]
  go_wp2
  have hK := HKh.out.sets3 (.int .i64 3) (.int .i64 (b2i (decide (b ≤ a)))) (.string noText)
  have hBW := below_sets3 HB.out w.heap.size (Nat.le_refl _) (.int .i64 3) (.int .i64 (b2i (decide (b ≤ a)))) (.string noText)
  generalize World.setCell _ _ _ = WF at hK hBW ⊢
  obtain ⟨g0, g1, g2, _, _, _⟩ := hK.all3
  exact bodyPost_ret (v := geM a b) (by rw [HM.out]; simp [results, Tryd.results35, go_sem, g0, g1, g2, pv]) rfl ⟨rfl, hBW⟩
set_option maxRecDepth 100000 in
set_option maxHeartbeats 2000000 in
theorem rtwo_quot (s : ByteArray) (h : s.toList = [113, 117, 111, 116]) (a b : Int) (w : World) : Calls Tryd.prog 35 #[.string s, .int .i64 a, .int .i64 b] w fun e w' => e = .returned (quotM a b) ∧ Below w.heap.size w w' := by
  have t0 : (s.toList == [97, 100, 100]) = false := by rw [h]; decide
  have t1 : (s.toList == [115, 117, 98]) = false := by rw [h]; decide
  have t2 : (s.toList == [109, 117, 108]) = false := by rw [h]; decide
  have t3 : (s.toList == [101, 113]) = false := by rw [h]; decide
  have t4 : (s.toList == [99, 101, 113]) = false := by rw [h]; decide
  have t5 : (s.toList == [110, 101]) = false := by rw [h]; decide
  have t6 : (s.toList == [108, 116]) = false := by rw [h]; decide
  have t7 : (s.toList == [99, 108, 116]) = false := by rw [h]; decide
  have t8 : (s.toList == [108, 101]) = false := by rw [h]; decide
  have t9 : (s.toList == [103, 116]) = false := by rw [h]; decide
  have t10 : (s.toList == [103, 101]) = false := by rw [h]; decide
  have tq : (s.toList == [113, 117, 111, 116]) = true := by rw [h]; decide
  clear h
  by_cases hb0 : b = 0
  · have HM : Hid (quotM a b = pv 4 0 divZero) := by show _ = _; unfold quotM; rw [if_pos hb0]
    subst hb0
    go_enter Tryd.func35, Tryd.ntmps35
    go_wp2_with (go_at_call 34; fail)
    refine (rFail_c divZero _).mono ?_
    rintro e w1 ⟨rfl, hb⟩
    have HK := (Blk.new w _ _).below hb
    have HB : Hid (Below w.heap.size w w1) := (below1 w _).trans (hb.mono (by simp))
    obtain ⟨f0, f1, f2, z0, z1, z2⟩ := HK.all3
    have HKh : Hid (Blk w1 w.heap.size #[.int .i64 0, .int .i64 0, .string ⟨#[]⟩] 26) := HK
    have hl := HK.lt
    clear HK hb
    simp only [pv]
    go_wp2
    have hK := HKh.out.sets3 (.int .i64 4) (.int .i64 0) (.string divZero)
    have hBW := below_sets3 HB.out w.heap.size (Nat.le_refl _) (.int .i64 4) (.int .i64 0) (.string divZero)
    generalize World.setCell _ _ _ = WF at hK hBW ⊢
    obtain ⟨g0, g1, g2, _, _, _⟩ := hK.all3
    exact bodyPost_ret (v := quotM a 0) (by rw [HM.out]; simp [results, Tryd.results35, go_sem, g0, g1, g2, pv]) rfl ⟨rfl, hBW⟩
  by_cases hb1 : b = -1
  · have HM : Hid (quotM a b = pv 1 (wrap64 (-a)) noText) := by show _ = _; unfold quotM; rw [if_neg hb0]; subst hb1; exact pv_eq (by rw [show a.tdiv (-1) = -a by rw [Int.tdiv_neg, Int.tdiv_one]])
    subst hb1
    clear hb0
    go_enter Tryd.func35, Tryd.ntmps35
    go_wp2_with (go_at_call 33; fail)
    refine (rNumber_c _ _).mono ?_
    rintro e w1 ⟨rfl, hb⟩
    have HK := (Blk.new w _ _).below hb
    have HB : Hid (Below w.heap.size w w1) := (below1 w _).trans (hb.mono (by simp))
    obtain ⟨f0, f1, f2, z0, z1, z2⟩ := HK.all3
    have HKh : Hid (Blk w1 w.heap.size #[.int .i64 0, .int .i64 0, .string ⟨#[]⟩] 26) := HK
    have hl := HK.lt
    clear HK hb
    simp only [pv]
    go_wp2
    have hK := HKh.out.sets3 (.int .i64 1) (.int .i64 (wrap64 (-a))) (.string noText)
    have hBW := below_sets3 HB.out w.heap.size (Nat.le_refl _) (.int .i64 1) (.int .i64 (wrap64 (-a))) (.string noText)
    generalize World.setCell _ _ _ = WF at hK hBW ⊢
    obtain ⟨g0, g1, g2, _, _, _⟩ := hK.all3
    exact bodyPost_ret (v := quotM a (-1)) (by rw [HM.out]; simp [results, Tryd.results35, go_sem, g0, g1, g2, pv]) rfl ⟨rfl, hBW⟩
  · have HM : Hid (quotM a b = pv 1 (wrap64 (a.tdiv b)) noText) := by show _ = _; unfold quotM; rw [if_neg hb0]
    go_enter Tryd.func35, Tryd.ntmps35
    go_wp2_with (go_at_call 33; fail)
    refine (rNumber_c _ _).mono ?_
    rintro e w1 ⟨rfl, hb⟩
    have HK := (Blk.new w _ _).below hb
    have HB : Hid (Below w.heap.size w w1) := (below1 w _).trans (hb.mono (by simp))
    obtain ⟨f0, f1, f2, z0, z1, z2⟩ := HK.all3
    have HKh : Hid (Blk w1 w.heap.size #[.int .i64 0, .int .i64 0, .string ⟨#[]⟩] 26) := HK
    have hl := HK.lt
    clear HK hb
    simp only [pv]
    go_wp2
    have hK := HKh.out.sets3 (.int .i64 1) (.int .i64 (wrap64 (a.tdiv b))) (.string noText)
    have hBW := below_sets3 HB.out w.heap.size (Nat.le_refl _) (.int .i64 1) (.int .i64 (wrap64 (a.tdiv b))) (.string noText)
    generalize World.setCell _ _ _ = WF at hK hBW ⊢
    obtain ⟨g0, g1, g2, _, _, _⟩ := hK.all3
    exact bodyPost_ret (v := quotM a b) (by rw [HM.out]; simp [results, Tryd.results35, go_sem, g0, g1, g2, pv]) rfl ⟨rfl, hBW⟩
set_option maxRecDepth 100000 in
set_option maxHeartbeats 2000000 in
theorem rtwo_rem (s : ByteArray) (h : s.toList = [114, 101, 109]) (a b : Int) (w : World) : Calls Tryd.prog 35 #[.string s, .int .i64 a, .int .i64 b] w fun e w' => e = .returned (remM a b) ∧ Below w.heap.size w w' := by
  have t0 : (s.toList == [97, 100, 100]) = false := by rw [h]; decide
  have t1 : (s.toList == [115, 117, 98]) = false := by rw [h]; decide
  have t2 : (s.toList == [109, 117, 108]) = false := by rw [h]; decide
  have t3 : (s.toList == [101, 113]) = false := by rw [h]; decide
  have t4 : (s.toList == [99, 101, 113]) = false := by rw [h]; decide
  have t5 : (s.toList == [110, 101]) = false := by rw [h]; decide
  have t6 : (s.toList == [108, 116]) = false := by rw [h]; decide
  have t7 : (s.toList == [99, 108, 116]) = false := by rw [h]; decide
  have t8 : (s.toList == [108, 101]) = false := by rw [h]; decide
  have t9 : (s.toList == [103, 116]) = false := by rw [h]; decide
  have t10 : (s.toList == [103, 101]) = false := by rw [h]; decide
  have tq : (s.toList == [113, 117, 111, 116]) = false := by rw [h]; decide
  clear h
  by_cases hb0 : b = 0
  · have HM : Hid (remM a b = pv 4 0 divZero) := by show _ = _; unfold remM; rw [if_pos hb0]
    subst hb0
    go_enter Tryd.func35, Tryd.ntmps35
    go_wp2_with (go_at_call 34; fail)
    refine (rFail_c divZero _).mono ?_
    rintro e w1 ⟨rfl, hb⟩
    have HK := (Blk.new w _ _).below hb
    have HB : Hid (Below w.heap.size w w1) := (below1 w _).trans (hb.mono (by simp))
    obtain ⟨f0, f1, f2, z0, z1, z2⟩ := HK.all3
    have HKh : Hid (Blk w1 w.heap.size #[.int .i64 0, .int .i64 0, .string ⟨#[]⟩] 26) := HK
    have hl := HK.lt
    clear HK hb
    simp only [pv]
    go_wp2
    have hK := HKh.out.sets3 (.int .i64 4) (.int .i64 0) (.string divZero)
    have hBW := below_sets3 HB.out w.heap.size (Nat.le_refl _) (.int .i64 4) (.int .i64 0) (.string divZero)
    generalize World.setCell _ _ _ = WF at hK hBW ⊢
    obtain ⟨g0, g1, g2, _, _, _⟩ := hK.all3
    exact bodyPost_ret (v := remM a 0) (by rw [HM.out]; simp [results, Tryd.results35, go_sem, g0, g1, g2, pv]) rfl ⟨rfl, hBW⟩
  by_cases hb1 : b = -1
  · have HM : Hid (remM a b = pv 1 (0) noText) := by show _ = _; unfold remM; rw [if_neg hb0]; subst hb1; exact pv_eq (by have := tmod_small a (-1) (by omega); omega)
    subst hb1
    clear hb0
    go_enter Tryd.func35, Tryd.ntmps35
    go_wp2_with (go_at_call 33; fail)
    refine (rNumber_c _ _).mono ?_
    rintro e w1 ⟨rfl, hb⟩
    have HK := (Blk.new w _ _).below hb
    have HB : Hid (Below w.heap.size w w1) := (below1 w _).trans (hb.mono (by simp))
    obtain ⟨f0, f1, f2, z0, z1, z2⟩ := HK.all3
    have HKh : Hid (Blk w1 w.heap.size #[.int .i64 0, .int .i64 0, .string ⟨#[]⟩] 26) := HK
    have hl := HK.lt
    clear HK hb
    simp only [pv]
    go_wp2
    have hK := HKh.out.sets3 (.int .i64 1) (.int .i64 (0)) (.string noText)
    have hBW := below_sets3 HB.out w.heap.size (Nat.le_refl _) (.int .i64 1) (.int .i64 (0)) (.string noText)
    generalize World.setCell _ _ _ = WF at hK hBW ⊢
    obtain ⟨g0, g1, g2, _, _, _⟩ := hK.all3
    exact bodyPost_ret (v := remM a (-1)) (by rw [HM.out]; simp [results, Tryd.results35, go_sem, g0, g1, g2, pv]) rfl ⟨rfl, hBW⟩
  · have HM : Hid (remM a b = pv 1 (a.tmod b) noText) := by show _ = _; unfold remM; rw [if_neg hb0]
    go_enter Tryd.func35, Tryd.ntmps35
    go_wp2_with (go_at_call 33; fail)
    refine (rNumber_c _ _).mono ?_
    rintro e w1 ⟨rfl, hb⟩
    have HK := (Blk.new w _ _).below hb
    have HB : Hid (Below w.heap.size w w1) := (below1 w _).trans (hb.mono (by simp))
    obtain ⟨f0, f1, f2, z0, z1, z2⟩ := HK.all3
    have HKh : Hid (Blk w1 w.heap.size #[.int .i64 0, .int .i64 0, .string ⟨#[]⟩] 26) := HK
    have hl := HK.lt
    clear HK hb
    simp only [pv]
    go_wp2
    have hK := HKh.out.sets3 (.int .i64 1) (.int .i64 (a.tmod b)) (.string noText)
    have hBW := below_sets3 HB.out w.heap.size (Nat.le_refl _) (.int .i64 1) (.int .i64 (a.tmod b)) (.string noText)
    generalize World.setCell _ _ _ = WF at hK hBW ⊢
    obtain ⟨g0, g1, g2, _, _, _⟩ := hK.all3
    exact bodyPost_ret (v := remM a b) (by rw [HM.out]; simp [results, Tryd.results35, go_sem, g0, g1, g2, pv]) rfl ⟨rfl, hBW⟩
end Go.Proofs.YtijafedpaghhaaaDoor
