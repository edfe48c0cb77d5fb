/-
  The document's Arity, Simple, Strict, Takes, by contracts.
-/
import Derived.Test.YtijafedpaghhaaaDoorOb
namespace Go.Proofs.YtijafedpaghhaaaDoor
open Go.RowKit Go.Shelf Go.Maps
set_option linter.unusedVariables false

set_option maxRecDepth 100000 in
set_option maxHeartbeats 4000000 in
theorem rArity_c (s : ByteArray) (w : World) : Calls Tryd.prog 32 #[.string s] w fun e w' => e = .returned (.int .i64 (arM s.toList)) ∧ w' = w := by
  by_cases h : s.toList = [103, 101, 116, 99]
  · have t : (s.toList == [103, 101, 116, 99]) = true := by rw [h]; decide
    have HR : Hid (arM s.toList = 0) := by show _ = _; rw [h]; decide
    clear h
    go_enter Tryd.func32, Tryd.ntmps32
    go_wp2
    go_ret
    exact ⟨by rw [HR.out]; rfl, rfl⟩
  have t0 : (s.toList == [103, 101, 116, 99]) = false := by simpa using h
  have k0 : ¬ s.toList = [103, 101, 116, 99] := h
  clear h
  by_cases h : s.toList = [101, 111, 102]
  · have t : (s.toList == [101, 111, 102]) = true := by rw [h]; decide
    have HR : Hid (arM s.toList = 0) := by show _ = _; rw [h]; decide
    clear h
    go_enter Tryd.func32, Tryd.ntmps32
    go_wp2
    go_ret
    exact ⟨by rw [HR.out]; rfl, rfl⟩
  have t1 : (s.toList == [101, 111, 102]) = false := by simpa using h
  have k1 : ¬ s.toList = [101, 111, 102] := h
  clear h
  by_cases h : s.toList = [111, 114, 100]
  · have t : (s.toList == [111, 114, 100]) = true := by rw [h]; decide
    have HR : Hid (arM s.toList = 1) := by show _ = _; rw [h]; decide
    clear h
    go_enter Tryd.func32, Tryd.ntmps32
    go_wp2
    go_ret
    exact ⟨by rw [HR.out]; rfl, rfl⟩
  have t2 : (s.toList == [111, 114, 100]) = false := by simpa using h
  have k2 : ¬ s.toList = [111, 114, 100] := h
  clear h
  by_cases h : s.toList = [99, 104, 114]
  · have t : (s.toList == [99, 104, 114]) = true := by rw [h]; decide
    have HR : Hid (arM s.toList = 1) := by show _ = _; rw [h]; decide
    clear h
    go_enter Tryd.func32, Tryd.ntmps32
    go_wp2
    go_ret
    exact ⟨by rw [HR.out]; rfl, rfl⟩
  have t3 : (s.toList == [99, 104, 114]) = false := by simpa using h
  have k3 : ¬ s.toList = [99, 104, 114] := h
  clear h
  by_cases h : s.toList = [101, 114, 114, 111, 114]
  · have t : (s.toList == [101, 114, 114, 111, 114]) = true := by rw [h]; decide
    have HR : Hid (arM s.toList = 1) := by show _ = _; rw [h]; decide
    clear h
    go_enter Tryd.func32, Tryd.ntmps32
    go_wp2
    go_ret
    exact ⟨by rw [HR.out]; rfl, rfl⟩
  have t4 : (s.toList == [101, 114, 114, 111, 114]) = false := by simpa using h
  have k4 : ¬ s.toList = [101, 114, 114, 111, 114] := h
  clear h
  by_cases h : s.toList = [115, 104, 111, 119]
  · have t : (s.toList == [115, 104, 111, 119]) = true := by rw [h]; decide
    have HR : Hid (arM s.toList = 1) := by show _ = _; rw [h]; decide
    clear h
    go_enter Tryd.func32, Tryd.ntmps32
    go_wp2
    go_ret
    exact ⟨by rw [HR.out]; rfl, rfl⟩
  have t5 : (s.toList == [115, 104, 111, 119]) = false := by simpa using h
  have k5 : ¬ s.toList = [115, 104, 111, 119] := h
  clear h
  by_cases h : s.toList = [114, 101, 116]
  · have t : (s.toList == [114, 101, 116]) = true := by rw [h]; decide
    have HR : Hid (arM s.toList = 1) := by show _ = _; rw [h]; decide
    clear h
    go_enter Tryd.func32, Tryd.ntmps32
    go_wp2
    go_ret
    exact ⟨by rw [HR.out]; rfl, rfl⟩
  have t6 : (s.toList == [114, 101, 116]) = false := by simpa using h
  have k6 : ¬ s.toList = [114, 101, 116] := h
  clear h
  by_cases h : s.toList = [112, 117, 116, 99]
  · have t : (s.toList == [112, 117, 116, 99]) = true := by rw [h]; decide
    have HR : Hid (arM s.toList = 1) := by show _ = _; rw [h]; decide
    clear h
    go_enter Tryd.func32, Tryd.ntmps32
    go_wp2
    go_ret
    exact ⟨by rw [HR.out]; rfl, rfl⟩
  have t7 : (s.toList == [112, 117, 116, 99]) = false := by simpa using h
  have k7 : ¬ s.toList = [112, 117, 116, 99] := h
  clear h
  by_cases h : s.toList = [101, 120, 105, 116]
  · have t : (s.toList == [101, 120, 105, 116]) = true := by rw [h]; decide
    have HR : Hid (arM s.toList = 1) := by show _ = _; rw [h]; decide
    clear h
    go_enter Tryd.func32, Tryd.ntmps32
    go_wp2
    go_ret
    exact ⟨by rw [HR.out]; rfl, rfl⟩
  have t8 : (s.toList == [101, 120, 105, 116]) = false := by simpa using h
  have k8 : ¬ s.toList = [101, 120, 105, 116] := h
  clear h
  by_cases h : s.toList = [97, 100, 100]
  · have t : (s.toList == [97, 100, 100]) = true := by rw [h]; decide
    have HR : Hid (arM s.toList = 2) := by show _ = _; rw [h]; decide
    clear h
    go_enter Tryd.func32, Tryd.ntmps32
    go_wp2
    go_ret
    exact ⟨by rw [HR.out]; rfl, rfl⟩
  have t9 : (s.toList == [97, 100, 100]) = false := by simpa using h
  have k9 : ¬ s.toList = [97, 100, 100] := h
  clear h
  by_cases h : s.toList = [115, 117, 98]
  · have t : (s.toList == [115, 117, 98]) = true := by rw [h]; decide
    have HR : Hid (arM s.toList = 2) := by show _ = _; rw [h]; decide
    clear h
    go_enter Tryd.func32, Tryd.ntmps32
    go_wp2
    go_ret
    exact ⟨by rw [HR.out]; rfl, rfl⟩
  have t10 : (s.toList == [115, 117, 98]) = false := by simpa using h
  have k10 : ¬ s.toList = [115, 117, 98] := h
  clear h
  by_cases h : s.toList = [109, 117, 108]
  · have t : (s.toList == [109, 117, 108]) = true := by rw [h]; decide
    have HR : Hid (arM s.toList = 2) := by show _ = _; rw [h]; decide
    clear h
    go_enter Tryd.func32, Tryd.ntmps32
    go_wp2
    go_ret
    exact ⟨by rw [HR.out]; rfl, rfl⟩
  have t11 : (s.toList == [109, 117, 108]) = false := by simpa using h
  have k11 : ¬ s.toList = [109, 117, 108] := h
  clear h
  by_cases h : s.toList = [113, 117, 111, 116]
  · have t : (s.toList == [113, 117, 111, 116]) = true := by rw [h]; decide
    have HR : Hid (arM s.toList = 2) := by show _ = _; rw [h]; decide
    clear h
    go_enter Tryd.func32, Tryd.ntmps32
    go_wp2
    go_ret
    exact ⟨by rw [HR.out]; rfl, rfl⟩
  have t12 : (s.toList == [113, 117, 111, 116]) = false := by simpa using h
  have k12 : ¬ s.toList = [113, 117, 111, 116] := h
  clear h
  by_cases h : s.toList = [114, 101, 109]
  · have t : (s.toList == [114, 101, 109]) = true := by rw [h]; decide
    have HR : Hid (arM s.toList = 2) := by show _ = _; rw [h]; decide
    clear h
    go_enter Tryd.func32, Tryd.ntmps32
    go_wp2
    go_ret
    exact ⟨by rw [HR.out]; rfl, rfl⟩
  have t13 : (s.toList == [114, 101, 109]) = false := by simpa using h
  have k13 : ¬ s.toList = [114, 101, 109] := h
  clear h
  by_cases h : s.toList = [101, 113]
  · have t : (s.toList == [101, 113]) = true := by rw [h]; decide
    have HR : Hid (arM s.toList = 2) := by show _ = _; rw [h]; decide
    clear h
    go_enter Tryd.func32, Tryd.ntmps32
    go_wp2
    go_ret
    exact ⟨by rw [HR.out]; rfl, rfl⟩
  have t14 : (s.toList == [101, 113]) = false := by simpa using h
  have k14 : ¬ s.toList = [101, 113] := h
  clear h
  by_cases h : s.toList = [110, 101]
  · have t : (s.toList == [110, 101]) = true := by rw [h]; decide
    have HR : Hid (arM s.toList = 2) := by show _ = _; rw [h]; decide
    clear h
    go_enter Tryd.func32, Tryd.ntmps32
    go_wp2
    go_ret
    exact ⟨by rw [HR.out]; rfl, rfl⟩
  have t15 : (s.toList == [110, 101]) = false := by simpa using h
  have k15 : ¬ s.toList = [110, 101] := h
  clear h
  by_cases h : s.toList = [108, 116]
  · have t : (s.toList == [108, 116]) = true := by rw [h]; decide
    have HR : Hid (arM s.toList = 2) := by show _ = _; rw [h]; decide
    clear h
    go_enter Tryd.func32, Tryd.ntmps32
    go_wp2
    go_ret
    exact ⟨by rw [HR.out]; rfl, rfl⟩
  have t16 : (s.toList == [108, 116]) = false := by simpa using h
  have k16 : ¬ s.toList = [108, 116] := h
  clear h
  by_cases h : s.toList = [108, 101]
  · have t : (s.toList == [108, 101]) = true := by rw [h]; decide
    have HR : Hid (arM s.toList = 2) := by show _ = _; rw [h]; decide
    clear h
    go_enter Tryd.func32, Tryd.ntmps32
    go_wp2
    go_ret
    exact ⟨by rw [HR.out]; rfl, rfl⟩
  have t17 : (s.toList == [108, 101]) = false := by simpa using h
  have k17 : ¬ s.toList = [108, 101] := h
  clear h
  by_cases h : s.toList = [103, 116]
  · have t : (s.toList == [103, 116]) = true := by rw [h]; decide
    have HR : Hid (arM s.toList = 2) := by show _ = _; rw [h]; decide
    clear h
    go_enter Tryd.func32, Tryd.ntmps32
    go_wp2
    go_ret
    exact ⟨by rw [HR.out]; rfl, rfl⟩
  have t18 : (s.toList == [103, 116]) = false := by simpa using h
  have k18 : ¬ s.toList = [103, 116] := h
  clear h
  by_cases h : s.toList = [103, 101]
  · have t : (s.toList == [103, 101]) = true := by rw [h]; decide
    have HR : Hid (arM s.toList = 2) := by show _ = _; rw [h]; decide
    clear h
    go_enter Tryd.func32, Tryd.ntmps32
    go_wp2
    go_ret
    exact ⟨by rw [HR.out]; rfl, rfl⟩
  have t19 : (s.toList == [103, 101]) = false := by simpa using h
  have k19 : ¬ s.toList = [103, 101] := h
  clear h
  by_cases h : s.toList = [99, 101, 113]
  · have t : (s.toList == [99, 101, 113]) = true := by rw [h]; decide
    have HR : Hid (arM s.toList = 2) := by show _ = _; rw [h]; decide
    clear h
    go_enter Tryd.func32, Tryd.ntmps32
    go_wp2
    go_ret
    exact ⟨by rw [HR.out]; rfl, rfl⟩
  have t20 : (s.toList == [99, 101, 113]) = false := by simpa using h
  have k20 : ¬ s.toList = [99, 101, 113] := h
  clear h
  by_cases h : s.toList = [99, 108, 116]
  · have t : (s.toList == [99, 108, 116]) = true := by rw [h]; decide
    have HR : Hid (arM s.toList = 2) := by show _ = _; rw [h]; decide
    clear h
    go_enter Tryd.func32, Tryd.ntmps32
    go_wp2
    go_ret
    exact ⟨by rw [HR.out]; rfl, rfl⟩
  have t21 : (s.toList == [99, 108, 116]) = false := by simpa using h
  have k21 : ¬ s.toList = [99, 108, 116] := h
  clear h
  by_cases h : s.toList = [115, 101, 113]
  · have t : (s.toList == [115, 101, 113]) = true := by rw [h]; decide
    have HR : Hid (arM s.toList = 2) := by show _ = _; rw [h]; decide
    clear h
    go_enter Tryd.func32, Tryd.ntmps32
    go_wp2
    go_ret
    exact ⟨by rw [HR.out]; rfl, rfl⟩
  have t22 : (s.toList == [115, 101, 113]) = false := by simpa using h
  have k22 : ¬ s.toList = [115, 101, 113] := h
  clear h
  by_cases h : s.toList = [98, 105, 110, 100]
  · have t : (s.toList == [98, 105, 110, 100]) = true := by rw [h]; decide
    have HR : Hid (arM s.toList = 2) := by show _ = _; rw [h]; decide
    clear h
    go_enter Tryd.func32, Tryd.ntmps32
    go_wp2
    go_ret
    exact ⟨by rw [HR.out]; rfl, rfl⟩
  have t23 : (s.toList == [98, 105, 110, 100]) = false := by simpa using h
  have k23 : ¬ s.toList = [98, 105, 110, 100] := h
  clear h
  have HR : Hid (arM s.toList = -1) := by show _ = _; simp [arM, ar0, ar1, ar2, *]
  clear k0 k1 k2 k3 k4 k5 k6 k7 k8 k9 k10 k11 k12 k13 k14 k15 k16 k17 k18 k19 k20 k21 k22 k23
  go_enter Tryd.func32, Tryd.ntmps32
  go_wp2
  go_ret
  exact ⟨by rw [HR.out]; rfl, rfl⟩

set_option maxRecDepth 100000 in
set_option maxHeartbeats 4000000 in
theorem rSimple_c (s : ByteArray) (w : World) : Calls Tryd.prog 14 #[.string s] w fun e w' => e = .returned (.bool (simpleM s.toList)) ∧ w' = w := by
  by_cases h : s.toList = [97, 100, 100]
  · have t : (s.toList == [97, 100, 100]) = true := by rw [h]; decide
    have HR : Hid (simpleM s.toList = true) := by show _ = _; rw [h]; rfl
    clear h
    go_enter Tryd.func14, Tryd.ntmps14
    go_wp2
    go_ret
    exact ⟨by rw [HR.out]; rfl, rfl⟩
  have t0 : (s.toList == [97, 100, 100]) = false := by simpa using h
  have k0 : ¬ s.toList = [97, 100, 100] := h
  clear h
  by_cases h : s.toList = [115, 117, 98]
  · have t : (s.toList == [115, 117, 98]) = true := by rw [h]; decide
    have HR : Hid (simpleM s.toList = true) := by show _ = _; rw [h]; rfl
    clear h
    go_enter Tryd.func14, Tryd.ntmps14
    go_wp2
    go_ret
    exact ⟨by rw [HR.out]; rfl, rfl⟩
  have t1 : (s.toList == [115, 117, 98]) = false := by simpa using h
  have k1 : ¬ s.toList = [115, 117, 98] := h
  clear h
  by_cases h : s.toList = [109, 117, 108]
  · have t : (s.toList == [109, 117, 108]) = true := by rw [h]; decide
    have HR : Hid (simpleM s.toList = true) := by show _ = _; rw [h]; rfl
    clear h
    go_enter Tryd.func14, Tryd.ntmps14
    go_wp2
    go_ret
    exact ⟨by rw [HR.out]; rfl, rfl⟩
  have t2 : (s.toList == [109, 117, 108]) = false := by simpa using h
  have k2 : ¬ s.toList = [109, 117, 108] := h
  clear h
  by_cases h : s.toList = [113, 117, 111, 116]
  · have t : (s.toList == [113, 117, 111, 116]) = true := by rw [h]; decide
    have HR : Hid (simpleM s.toList = true) := by show _ = _; rw [h]; rfl
    clear h
    go_enter Tryd.func14, Tryd.ntmps14
    go_wp2
    go_ret
    exact ⟨by rw [HR.out]; rfl, rfl⟩
  have t3 : (s.toList == [113, 117, 111, 116]) = false := by simpa using h
  have k3 : ¬ s.toList = [113, 117, 111, 116] := h
  clear h
  by_cases h : s.toList = [114, 101, 109]
  · have t : (s.toList == [114, 101, 109]) = true := by rw [h]; decide
    have HR : Hid (simpleM s.toList = true) := by show _ = _; rw [h]; rfl
    clear h
    go_enter Tryd.func14, Tryd.ntmps14
    go_wp2
    go_ret
    exact ⟨by rw [HR.out]; rfl, rfl⟩
  have t4 : (s.toList == [114, 101, 109]) = false := by simpa using h
  have k4 : ¬ s.toList = [114, 101, 109] := h
  clear h
  by_cases h : s.toList = [101, 113]
  · have t : (s.toList == [101, 113]) = true := by rw [h]; decide
    have HR : Hid (simpleM s.toList = true) := by show _ = _; rw [h]; rfl
    clear h
    go_enter Tryd.func14, Tryd.ntmps14
    go_wp2
    go_ret
    exact ⟨by rw [HR.out]; rfl, rfl⟩
  have t5 : (s.toList == [101, 113]) = false := by simpa using h
  have k5 : ¬ s.toList = [101, 113] := h
  clear h
  by_cases h : s.toList = [110, 101]
  · have t : (s.toList == [110, 101]) = true := by rw [h]; decide
    have HR : Hid (simpleM s.toList = true) := by show _ = _; rw [h]; rfl
    clear h
    go_enter Tryd.func14, Tryd.ntmps14
    go_wp2
    go_ret
    exact ⟨by rw [HR.out]; rfl, rfl⟩
  have t6 : (s.toList == [110, 101]) = false := by simpa using h
  have k6 : ¬ s.toList = [110, 101] := h
  clear h
  by_cases h : s.toList = [108, 116]
  · have t : (s.toList == [108, 116]) = true := by rw [h]; decide
    have HR : Hid (simpleM s.toList = true) := by show _ = _; rw [h]; rfl
    clear h
    go_enter Tryd.func14, Tryd.ntmps14
    go_wp2
    go_ret
    exact ⟨by rw [HR.out]; rfl, rfl⟩
  have t7 : (s.toList == [108, 116]) = false := by simpa using h
  have k7 : ¬ s.toList = [108, 116] := h
  clear h
  by_cases h : s.toList = [108, 101]
  · have t : (s.toList == [108, 101]) = true := by rw [h]; decide
    have HR : Hid (simpleM s.toList = true) := by show _ = _; rw [h]; rfl
    clear h
    go_enter Tryd.func14, Tryd.ntmps14
    go_wp2
    go_ret
    exact ⟨by rw [HR.out]; rfl, rfl⟩
  have t8 : (s.toList == [108, 101]) = false := by simpa using h
  have k8 : ¬ s.toList = [108, 101] := h
  clear h
  by_cases h : s.toList = [103, 116]
  · have t : (s.toList == [103, 116]) = true := by rw [h]; decide
    have HR : Hid (simpleM s.toList = true) := by show _ = _; rw [h]; rfl
    clear h
    go_enter Tryd.func14, Tryd.ntmps14
    go_wp2
    go_ret
    exact ⟨by rw [HR.out]; rfl, rfl⟩
  have t9 : (s.toList == [103, 116]) = false := by simpa using h
  have k9 : ¬ s.toList = [103, 116] := h
  clear h
  by_cases h : s.toList = [103, 101]
  · have t : (s.toList == [103, 101]) = true := by rw [h]; decide
    have HR : Hid (simpleM s.toList = true) := by show _ = _; rw [h]; rfl
    clear h
    go_enter Tryd.func14, Tryd.ntmps14
    go_wp2
    go_ret
    exact ⟨by rw [HR.out]; rfl, rfl⟩
  have t10 : (s.toList == [103, 101]) = false := by simpa using h
  have k10 : ¬ s.toList = [103, 101] := h
  clear h
  by_cases h : s.toList = [99, 101, 113]
  · have t : (s.toList == [99, 101, 113]) = true := by rw [h]; decide
    have HR : Hid (simpleM s.toList = true) := by show _ = _; rw [h]; rfl
    clear h
    go_enter Tryd.func14, Tryd.ntmps14
    go_wp2
    go_ret
    exact ⟨by rw [HR.out]; rfl, rfl⟩
  have t11 : (s.toList == [99, 101, 113]) = false := by simpa using h
  have k11 : ¬ s.toList = [99, 101, 113] := h
  clear h
  by_cases h : s.toList = [99, 108, 116]
  · have t : (s.toList == [99, 108, 116]) = true := by rw [h]; decide
    have HR : Hid (simpleM s.toList = true) := by show _ = _; rw [h]; rfl
    clear h
    go_enter Tryd.func14, Tryd.ntmps14
    go_wp2
    go_ret
    exact ⟨by rw [HR.out]; rfl, rfl⟩
  have t12 : (s.toList == [99, 108, 116]) = false := by simpa using h
  have k12 : ¬ s.toList = [99, 108, 116] := h
  clear h
  by_cases h : s.toList = [111, 114, 100]
  · have t : (s.toList == [111, 114, 100]) = true := by rw [h]; decide
    have HR : Hid (simpleM s.toList = true) := by show _ = _; rw [h]; rfl
    clear h
    go_enter Tryd.func14, Tryd.ntmps14
    go_wp2
    go_ret
    exact ⟨by rw [HR.out]; rfl, rfl⟩
  have t13 : (s.toList == [111, 114, 100]) = false := by simpa using h
  have k13 : ¬ s.toList = [111, 114, 100] := h
  clear h
  by_cases h : s.toList = [99, 104, 114]
  · have t : (s.toList == [99, 104, 114]) = true := by rw [h]; decide
    have HR : Hid (simpleM s.toList = true) := by show _ = _; rw [h]; rfl
    clear h
    go_enter Tryd.func14, Tryd.ntmps14
    go_wp2
    go_ret
    exact ⟨by rw [HR.out]; rfl, rfl⟩
  have t14 : (s.toList == [99, 104, 114]) = false := by simpa using h
  have k14 : ¬ s.toList = [99, 104, 114] := h
  clear h
  have HR : Hid (simpleM s.toList = false) := by show _ = _; simp [simpleM, opOf, *]
  clear k0 k1 k2 k3 k4 k5 k6 k7 k8 k9 k10 k11 k12 k13 k14
  go_enter Tryd.func14, Tryd.ntmps14
  go_wp2
  go_ret
  exact ⟨by rw [HR.out]; rfl, rfl⟩

theorem simple_strict {x : List UInt8} (h : simpleM x = true) : strictM x = arM x := by
  have : othM x = none := by
    unfold othM
    have hx : ∀ y : List UInt8, simpleM y = false → x ≠ y := fun y hy e => by rw [e, hy] at h; cases h
    rw [if_neg (hx _ rfl)]
    rw [if_neg (hx _ rfl)]
    rw [if_neg (hx _ rfl)]
    rw [if_neg (hx _ rfl)]
    rw [if_neg (hx _ rfl)]
    rw [if_neg (hx _ rfl)]
    rw [if_neg (hx _ rfl)]
    rw [if_neg (hx _ rfl)]
    rw [if_neg (hx _ rfl)]
  unfold strictM
  rw [this]
  rfl
theorem notSimple_strict {x : List UInt8} (h : simpleM x = false) : strictM x = (othM x).getD (-1) := by
  unfold strictM
  cases ho : othM x with
  | some v => rfl
  | none =>
    show arM x = -1
    have hx : ∀ y : List UInt8, simpleM y = true ∨ (othM y).isSome = true → ¬ x = y := fun y hy e => by
      subst e
      rcases hy with hy | hy
      · rw [h] at hy; cases hy
      · rw [ho] at hy; cases hy
    have q0 := hx [103, 101, 116, 99] (.inr rfl)
    have q1 := hx [101, 111, 102] (.inr rfl)
    have q2 := hx [111, 114, 100] (.inl rfl)
    have q3 := hx [99, 104, 114] (.inl rfl)
    have q4 := hx [101, 114, 114, 111, 114] (.inr rfl)
    have q5 := hx [115, 104, 111, 119] (.inr rfl)
    have q6 := hx [114, 101, 116] (.inr rfl)
    have q7 := hx [112, 117, 116, 99] (.inr rfl)
    have q8 := hx [101, 120, 105, 116] (.inr rfl)
    have q9 := hx [97, 100, 100] (.inl rfl)
    have q10 := hx [115, 117, 98] (.inl rfl)
    have q11 := hx [109, 117, 108] (.inl rfl)
    have q12 := hx [113, 117, 111, 116] (.inl rfl)
    have q13 := hx [114, 101, 109] (.inl rfl)
    have q14 := hx [101, 113] (.inl rfl)
    have q15 := hx [110, 101] (.inl rfl)
    have q16 := hx [108, 116] (.inl rfl)
    have q17 := hx [108, 101] (.inl rfl)
    have q18 := hx [103, 116] (.inl rfl)
    have q19 := hx [103, 101] (.inl rfl)
    have q20 := hx [99, 101, 113] (.inl rfl)
    have q21 := hx [99, 108, 116] (.inl rfl)
    have q22 := hx [115, 101, 113] (.inr rfl)
    have q23 := hx [98, 105, 110, 100] (.inr rfl)
    simp [arM, ar0, ar1, ar2, *]
set_option maxRecDepth 100000 in
set_option maxHeartbeats 4000000 in
theorem rStrict_c (s : ByteArray) (w : World) : Calls Tryd.prog 15 #[.string s] w fun e w' => e = .returned (.int .i64 (strictM s.toList)) ∧ w' = w := by
  have HA : Hid (∀ W : World, Calls Tryd.prog 32 #[.string s] W fun e w' => e = .returned (.int .i64 (arM s.toList)) ∧ w' = W) := fun W => rArity_c s W
  cases hsim : simpleM s.toList
  · have HSi : Hid (∀ W : World, Calls Tryd.prog 14 #[.string s] W fun e w' => e = .returned (.bool false) ∧ w' = W) := fun W => by have := rSimple_c s W; rw [hsim] at this; exact this
    have HSi2 : Hid (simpleM s.toList = false) := hsim
    clear hsim
    by_cases h : s.toList = [115, 101, 113]
    · have t : (s.toList == [115, 101, 113]) = true := by rw [h]; decide
      have HR : Hid (strictM s.toList = 1) := by show _ = _; rw [h]; decide
      clear h
      go_enter Tryd.func15, Tryd.ntmps15
      go_wp2_with (go_at_call 14; refine (HSi.out _).mono ?_; rintro e w' ⟨rfl, rfl⟩)
      go_ret
      exact ⟨by rw [HR.out]; rfl, rfl⟩
    have t0 : (s.toList == [115, 101, 113]) = false := by simpa using h
    have k0 : ¬ s.toList = [115, 101, 113] := h
    clear h
    by_cases h : s.toList = [115, 104, 111, 119]
    · have t : (s.toList == [115, 104, 111, 119]) = true := by rw [h]; decide
      have HR : Hid (strictM s.toList = 1) := by show _ = _; rw [h]; decide
      clear h
      go_enter Tryd.func15, Tryd.ntmps15
      go_wp2_with (go_at_call 14; refine (HSi.out _).mono ?_; rintro e w' ⟨rfl, rfl⟩)
      go_ret
      exact ⟨by rw [HR.out]; rfl, rfl⟩
    have t1 : (s.toList == [115, 104, 111, 119]) = false := by simpa using h
    have k1 : ¬ s.toList = [115, 104, 111, 119] := h
    clear h
    by_cases h : s.toList = [101, 114, 114, 111, 114]
    · have t : (s.toList == [101, 114, 114, 111, 114]) = true := by rw [h]; decide
      have HR : Hid (strictM s.toList = 0) := by show _ = _; rw [h]; decide
      clear h
      go_enter Tryd.func15, Tryd.ntmps15
      go_wp2_with (go_at_call 14; refine (HSi.out _).mono ?_; rintro e w' ⟨rfl, rfl⟩)
      go_ret
      exact ⟨by rw [HR.out]; rfl, rfl⟩
    have t2 : (s.toList == [101, 114, 114, 111, 114]) = false := by simpa using h
    have k2 : ¬ s.toList = [101, 114, 114, 111, 114] := h
    clear h
    by_cases h : s.toList = [114, 101, 116]
    · have t : (s.toList == [114, 101, 116]) = true := by rw [h]; decide
      have HR : Hid (strictM s.toList = 0) := by show _ = _; rw [h]; decide
      clear h
      go_enter Tryd.func15, Tryd.ntmps15
      go_wp2_with (go_at_call 14; refine (HSi.out _).mono ?_; rintro e w' ⟨rfl, rfl⟩)
      go_ret
      exact ⟨by rw [HR.out]; rfl, rfl⟩
    have t3 : (s.toList == [114, 101, 116]) = false := by simpa using h
    have k3 : ¬ s.toList = [114, 101, 116] := h
    clear h
    by_cases h : s.toList = [98, 105, 110, 100]
    · have t : (s.toList == [98, 105, 110, 100]) = true := by rw [h]; decide
      have HR : Hid (strictM s.toList = 0) := by show _ = _; rw [h]; decide
      clear h
      go_enter Tryd.func15, Tryd.ntmps15
      go_wp2_with (go_at_call 14; refine (HSi.out _).mono ?_; rintro e w' ⟨rfl, rfl⟩)
      go_ret
      exact ⟨by rw [HR.out]; rfl, rfl⟩
    have t4 : (s.toList == [98, 105, 110, 100]) = false := by simpa using h
    have k4 : ¬ s.toList = [98, 105, 110, 100] := h
    clear h
    by_cases h : s.toList = [103, 101, 116, 99]
    · have t : (s.toList == [103, 101, 116, 99]) = true := by rw [h]; decide
      have HR : Hid (strictM s.toList = 0) := by show _ = _; rw [h]; decide
      clear h
      go_enter Tryd.func15, Tryd.ntmps15
      go_wp2_with (go_at_call 14; refine (HSi.out _).mono ?_; rintro e w' ⟨rfl, rfl⟩)
      go_ret
      exact ⟨by rw [HR.out]; rfl, rfl⟩
    have t5 : (s.toList == [103, 101, 116, 99]) = false := by simpa using h
    have k5 : ¬ s.toList = [103, 101, 116, 99] := h
    clear h
    by_cases h : s.toList = [112, 117, 116, 99]
    · have t : (s.toList == [112, 117, 116, 99]) = true := by rw [h]; decide
      have HR : Hid (strictM s.toList = 0) := by show _ = _; rw [h]; decide
      clear h
      go_enter Tryd.func15, Tryd.ntmps15
      go_wp2_with (go_at_call 14; refine (HSi.out _).mono ?_; rintro e w' ⟨rfl, rfl⟩)
      go_ret
      exact ⟨by rw [HR.out]; rfl, rfl⟩
    have t6 : (s.toList == [112, 117, 116, 99]) = false := by simpa using h
    have k6 : ¬ s.toList = [112, 117, 116, 99] := h
    clear h
    by_cases h : s.toList = [101, 111, 102]
    · have t : (s.toList == [101, 111, 102]) = true := by rw [h]; decide
      have HR : Hid (strictM s.toList = 0) := by show _ = _; rw [h]; decide
      clear h
      go_enter Tryd.func15, Tryd.ntmps15
      go_wp2_with (go_at_call 14; refine (HSi.out _).mono ?_; rintro e w' ⟨rfl, rfl⟩)
      go_ret
      exact ⟨by rw [HR.out]; rfl, rfl⟩
    have t7 : (s.toList == [101, 111, 102]) = false := by simpa using h
    have k7 : ¬ s.toList = [101, 111, 102] := h
    clear h
    by_cases h : s.toList = [101, 120, 105, 116]
    · have t : (s.toList == [101, 120, 105, 116]) = true := by rw [h]; decide
      have HR : Hid (strictM s.toList = 0) := by show _ = _; rw [h]; decide
      clear h
      go_enter Tryd.func15, Tryd.ntmps15
      go_wp2_with (go_at_call 14; refine (HSi.out _).mono ?_; rintro e w' ⟨rfl, rfl⟩)
      go_ret
      exact ⟨by rw [HR.out]; rfl, rfl⟩
    have t8 : (s.toList == [101, 120, 105, 116]) = false := by simpa using h
    have k8 : ¬ s.toList = [101, 120, 105, 116] := h
    clear h
    have HR : Hid (strictM s.toList = -1) := by show _ = _; rw [notSimple_strict HSi2.out]; simp [othM, *]
    clear k0 k1 k2 k3 k4 k5 k6 k7 k8
    go_enter Tryd.func15, Tryd.ntmps15
    go_wp2_with (go_at_call 14; refine (HSi.out _).mono ?_; rintro e w' ⟨rfl, rfl⟩)
    go_ret
    exact ⟨by rw [HR.out]; rfl, rfl⟩
  · have HR : Hid (strictM s.toList = arM s.toList) := by show _ = _; exact simple_strict hsim
    have HSi : Hid (∀ W : World, Calls Tryd.prog 14 #[.string s] W fun e w' => e = .returned (.bool true) ∧ w' = W) := fun W => by have := rSimple_c s W; rw [hsim] at this; exact this
    clear hsim
    go_enter Tryd.func15, Tryd.ntmps15
    go_wp2_with (first | (go_at_call 14; refine (HSi.out _).mono ?_; rintro e w' ⟨rfl, rfl⟩) | (go_at_call 32; refine (HA.out _).mono ?_; rintro e w' ⟨rfl, rfl⟩))
    go_ret
    exact ⟨by rw [HR.out]; rfl, rfl⟩

set_option maxRecDepth 100000 in
set_option maxHeartbeats 4000000 in
theorem rTakes_no (s : ByteArray) (i : Int) (h : simpleM s.toList = false ∨ i < 0 ∨ arM s.toList ≤ i) (w : World) : Calls Tryd.prog 17 #[.string s, .int .i64 i] w fun e w' => e = .returned (.int .i64 0) ∧ w' = w := by
  have HA : Hid (∀ W : World, Calls Tryd.prog 32 #[.string s] W fun e w' => e = .returned (.int .i64 (arM s.toList)) ∧ w' = W) := fun W => rArity_c s W
  have HSi : Hid (∀ W : World, Calls Tryd.prog 14 #[.string s] W fun e w' => e = .returned (.bool (simpleM s.toList)) ∧ w' = W) := fun W => rSimple_c s W
  generalize simpleM s.toList = sm at *
  generalize arM s.toList = ar at *
  cases sm
  · clear h
    go_enter Tryd.func17, Tryd.ntmps17
    go_wp2_with (go_at_call 14; refine (HSi.out _).mono ?_; rintro e w' ⟨rfl, rfl⟩)
    go_ret
    exact ⟨rfl, rfl⟩
  · by_cases hi : i < 0
    · clear h
      go_enter Tryd.func17, Tryd.ntmps17
      go_wp2_with (go_at_call 14; refine (HSi.out _).mono ?_; rintro e w' ⟨rfl, rfl⟩)
      go_ret
      exact ⟨rfl, rfl⟩
    · have hi0 : decide (i < 0) = false := by simpa using hi
      have hj : ar ≤ i := by rcases h with h | h | h <;> first | cases h | omega
      clear h
      go_enter Tryd.func17, Tryd.ntmps17
      go_wp2_with (first | (go_at_call 14; refine (HSi.out _).mono ?_; rintro e w' ⟨rfl, rfl⟩) | (go_at_call 32; refine (HA.out _).mono ?_; rintro e w' ⟨rfl, rfl⟩))
      go_ret
      exact ⟨rfl, rfl⟩
theorem taken (x : List UInt8) (tk : Int) (g : Int → Int → Value) (h : opOf x = some (tk, g)) : tk = if x = [99, 101, 113] then 2 else if x = [99, 108, 116] then 2 else if x = [111, 114, 100] then 2 else 1 := by
  by_cases h0 : x = [97, 100, 100]
  · subst h0; simp [opOf] at h; simp [h.1.symm]
  by_cases h1 : x = [115, 117, 98]
  · subst h1; simp [opOf] at h; simp [h.1.symm]
  by_cases h2 : x = [109, 117, 108]
  · subst h2; simp [opOf] at h; simp [h.1.symm]
  by_cases h3 : x = [113, 117, 111, 116]
  · subst h3; simp [opOf] at h; simp [h.1.symm]
  by_cases h4 : x = [114, 101, 109]
  · subst h4; simp [opOf] at h; simp [h.1.symm]
  by_cases h5 : x = [101, 113]
  · subst h5; simp [opOf] at h; simp [h.1.symm]
  by_cases h6 : x = [110, 101]
  · subst h6; simp [opOf] at h; simp [h.1.symm]
  by_cases h7 : x = [108, 116]
  · subst h7; simp [opOf] at h; simp [h.1.symm]
  by_cases h8 : x = [108, 101]
  · subst h8; simp [opOf] at h; simp [h.1.symm]
  by_cases h9 : x = [103, 116]
  · subst h9; simp [opOf] at h; simp [h.1.symm]
  by_cases h10 : x = [103, 101]
  · subst h10; simp [opOf] at h; simp [h.1.symm]
  by_cases h11 : x = [99, 101, 113]
  · subst h11; simp [opOf] at h; simp [h.1.symm]
  by_cases h12 : x = [99, 108, 116]
  · subst h12; simp [opOf] at h; simp [h.1.symm]
  by_cases h13 : x = [111, 114, 100]
  · subst h13; simp [opOf] at h; simp [h.1.symm]
  by_cases h14 : x = [99, 104, 114]
  · subst h14; simp [opOf] at h; simp [h.1.symm]
  exfalso
  simp [opOf, *] at h
set_option maxRecDepth 100000 in
set_option maxHeartbeats 4000000 in
theorem rTakes_yes (s : ByteArray) (i tk : Int) (g : Int → Int → Value) (h : opOf s.toList = some (tk, g)) (hi : ¬ i < 0) (hj : ¬ arM s.toList ≤ i) (w : World) : Calls Tryd.prog 17 #[.string s, .int .i64 i] w fun e w' => e = .returned (.int .i64 tk) ∧ w' = w := by
  have HA : Hid (∀ W : World, Calls Tryd.prog 32 #[.string s] W fun e w' => e = .returned (.int .i64 (arM s.toList)) ∧ w' = W) := fun W => rArity_c s W
  have HSi : Hid (∀ W : World, Calls Tryd.prog 14 #[.string s] W fun e w' => e = .returned (.bool true) ∧ w' = W) := fun W => by have := rSimple_c s W; rw [show simpleM s.toList = true by unfold simpleM; rw [h]; rfl] at this; exact this
  have HT := taken _ tk g h
  have hi0 : decide (i < 0) = false := by simpa using hi
  have hj0 : decide (arM s.toList ≤ i) = false := by simpa using hj
  clear h hi hj
  generalize arM s.toList = ar at *
  by_cases h1 : s.toList = [99, 101, 113]
  · have t1 : (s.toList == [99, 101, 113]) = true := by rw [h1]; decide
    have HT2 : Hid (tk = 2) := by show _ = _; rw [HT, if_pos h1]
    clear HT h1
    go_enter Tryd.func17, Tryd.ntmps17
    go_wp2_with (first | (go_at_call 14; refine (HSi.out _).mono ?_; rintro e w' ⟨rfl, rfl⟩) | (go_at_call 32; refine (HA.out _).mono ?_; rintro e w' ⟨rfl, rfl⟩))
    go_ret
    exact ⟨by rw [HT2.out]; rfl, rfl⟩
  rw [if_neg h1] at HT
  have t1 : (s.toList == [99, 101, 113]) = false := by simpa using h1
  clear h1
  by_cases h2 : s.toList = [99, 108, 116]
  · have t2 : (s.toList == [99, 108, 116]) = true := by rw [h2]; decide
    have HT2 : Hid (tk = 2) := by show _ = _; rw [HT, if_pos h2]
    clear HT h2
    go_enter Tryd.func17, Tryd.ntmps17
    go_wp2_with (first | (go_at_call 14; refine (HSi.out _).mono ?_; rintro e w' ⟨rfl, rfl⟩) | (go_at_call 32; refine (HA.out _).mono ?_; rintro e w' ⟨rfl, rfl⟩))
    go_ret
    exact ⟨by rw [HT2.out]; rfl, rfl⟩
  rw [if_neg h2] at HT
  have t2 : (s.toList == [99, 108, 116]) = false := by simpa using h2
  clear h2
  by_cases h3 : s.toList = [111, 114, 100]
  · have t3 : (s.toList == [111, 114, 100]) = true := by rw [h3]; decide
    have HT2 : Hid (tk = 2) := by show _ = _; rw [HT, if_pos h3]
    clear HT h3
    go_enter Tryd.func17, Tryd.ntmps17
    go_wp2_with (first | (go_at_call 14; refine (HSi.out _).mono ?_; rintro e w' ⟨rfl, rfl⟩) | (go_at_call 32; refine (HA.out _).mono ?_; rintro e w' ⟨rfl, rfl⟩))
    go_ret
    exact ⟨by rw [HT2.out]; rfl, rfl⟩
  · have t3 : (s.toList == [111, 114, 100]) = false := by simpa using h3
    have HT2 : Hid (tk = 1) := by show _ = _; rw [HT, if_neg h3]
    clear HT h3
    go_enter Tryd.func17, Tryd.ntmps17
    go_wp2_with (first | (go_at_call 14; refine (HSi.out _).mono ?_; rintro e w' ⟨rfl, rfl⟩) | (go_at_call 32; refine (HA.out _).mono ?_; rintro e w' ⟨rfl, rfl⟩))
    go_ret
    exact ⟨by rw [HT2.out]; rfl, rfl⟩
end Go.Proofs.YtijafedpaghhaaaDoor
