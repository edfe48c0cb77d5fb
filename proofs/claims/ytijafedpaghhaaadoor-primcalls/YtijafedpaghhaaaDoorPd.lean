/-
  core.Arity, by a contract.
-/
import Derived.Test.YtijafedpaghhaaaDoorPc
namespace Go.Proofs.YtijafedpaghhaaaDoor
open Go.RowKit Go.Shelf Go.Maps
set_option linter.unusedVariables false

def ar0 : List (List UInt8) := [[103, 101, 116, 99], [101, 111, 102]]
def ar1 : List (List UInt8) := [[111, 114, 100], [99, 104, 114], [101, 114, 114, 111, 114], [115, 104, 111, 119], [114, 101, 116], [112, 117, 116, 99], [101, 120, 105, 116]]
def ar2 : List (List UInt8) := [[97, 100, 100], [115, 117, 98], [109, 117, 108], [113, 117, 111, 116], [114, 101, 109], [101, 113], [110, 101], [108, 116], [108, 101], [103, 116], [103, 101], [99, 101, 113], [99, 108, 116], [115, 101, 113], [98, 105, 110, 100]]
/-- How many arguments a primitive has. -/
def arM (s : List UInt8) : Int := if ar0.contains s then 0 else if ar1.contains s then 1 else if ar2.contains s then 2 else -1
set_option maxRecDepth 100000 in
set_option maxHeartbeats 4000000 in
theorem arity_c (s : ByteArray) (w : World) : Calls Tryd.prog 29 #[.string s] w fun e w' => e = .returned (.int .i64 (arM s.toList)) ∧ w' = w := by
  by_cases h : s.toList = [103, 101, 116, 99]
  · have t : (s.toList == [103, 101, 116, 99]) = true := by rw [h]; decide
    have HR : Hid (arM s.toList = 0) := by show _ = _; rw [h]; decide
    clear h
    go_enter Tryd.func29, Tryd.ntmps29
    go_wp2
    go_ret
    exact ⟨by rw [HR.out]; rfl, rfl⟩
  have t0 : (s.toList == [103, 101, 116, 99]) = false := by simpa using h
  clear h
  by_cases h : s.toList = [101, 111, 102]
  · have t : (s.toList == [101, 111, 102]) = true := by rw [h]; decide
    have HR : Hid (arM s.toList = 0) := by show _ = _; rw [h]; decide
    clear h
    go_enter Tryd.func29, Tryd.ntmps29
    go_wp2
    go_ret
    exact ⟨by rw [HR.out]; rfl, rfl⟩
  have t1 : (s.toList == [101, 111, 102]) = false := by simpa using h
  clear h
  by_cases h : s.toList = [111, 114, 100]
  · have t : (s.toList == [111, 114, 100]) = true := by rw [h]; decide
    have HR : Hid (arM s.toList = 1) := by show _ = _; rw [h]; decide
    clear h
    go_enter Tryd.func29, Tryd.ntmps29
    go_wp2
    go_ret
    exact ⟨by rw [HR.out]; rfl, rfl⟩
  have t2 : (s.toList == [111, 114, 100]) = false := by simpa using h
  clear h
  by_cases h : s.toList = [99, 104, 114]
  · have t : (s.toList == [99, 104, 114]) = true := by rw [h]; decide
    have HR : Hid (arM s.toList = 1) := by show _ = _; rw [h]; decide
    clear h
    go_enter Tryd.func29, Tryd.ntmps29
    go_wp2
    go_ret
    exact ⟨by rw [HR.out]; rfl, rfl⟩
  have t3 : (s.toList == [99, 104, 114]) = false := by simpa using h
  clear h
  by_cases h : s.toList = [101, 114, 114, 111, 114]
  · have t : (s.toList == [101, 114, 114, 111, 114]) = true := by rw [h]; decide
    have HR : Hid (arM s.toList = 1) := by show _ = _; rw [h]; decide
    clear h
    go_enter Tryd.func29, Tryd.ntmps29
    go_wp2
    go_ret
    exact ⟨by rw [HR.out]; rfl, rfl⟩
  have t4 : (s.toList == [101, 114, 114, 111, 114]) = false := by simpa using h
  clear h
  by_cases h : s.toList = [115, 104, 111, 119]
  · have t : (s.toList == [115, 104, 111, 119]) = true := by rw [h]; decide
    have HR : Hid (arM s.toList = 1) := by show _ = _; rw [h]; decide
    clear h
    go_enter Tryd.func29, Tryd.ntmps29
    go_wp2
    go_ret
    exact ⟨by rw [HR.out]; rfl, rfl⟩
  have t5 : (s.toList == [115, 104, 111, 119]) = false := by simpa using h
  clear h
  by_cases h : s.toList = [114, 101, 116]
  · have t : (s.toList == [114, 101, 116]) = true := by rw [h]; decide
    have HR : Hid (arM s.toList = 1) := by show _ = _; rw [h]; decide
    clear h
    go_enter Tryd.func29, Tryd.ntmps29
    go_wp2
    go_ret
    exact ⟨by rw [HR.out]; rfl, rfl⟩
  have t6 : (s.toList == [114, 101, 116]) = false := by simpa using h
  clear h
  by_cases h : s.toList = [112, 117, 116, 99]
  · have t : (s.toList == [112, 117, 116, 99]) = true := by rw [h]; decide
    have HR : Hid (arM s.toList = 1) := by show _ = _; rw [h]; decide
    clear h
    go_enter Tryd.func29, Tryd.ntmps29
    go_wp2
    go_ret
    exact ⟨by rw [HR.out]; rfl, rfl⟩
  have t7 : (s.toList == [112, 117, 116, 99]) = false := by simpa using h
  clear h
  by_cases h : s.toList = [101, 120, 105, 116]
  · have t : (s.toList == [101, 120, 105, 116]) = true := by rw [h]; decide
    have HR : Hid (arM s.toList = 1) := by show _ = _; rw [h]; decide
    clear h
    go_enter Tryd.func29, Tryd.ntmps29
    go_wp2
    go_ret
    exact ⟨by rw [HR.out]; rfl, rfl⟩
  have t8 : (s.toList == [101, 120, 105, 116]) = false := by simpa using h
  clear h
  by_cases h : s.toList = [97, 100, 100]
  · have t : (s.toList == [97, 100, 100]) = true := by rw [h]; decide
    have HR : Hid (arM s.toList = 2) := by show _ = _; rw [h]; decide
    clear h
    go_enter Tryd.func29, Tryd.ntmps29
    go_wp2
    go_ret
    exact ⟨by rw [HR.out]; rfl, rfl⟩
  have t9 : (s.toList == [97, 100, 100]) = false := by simpa using h
  clear h
  by_cases h : s.toList = [115, 117, 98]
  · have t : (s.toList == [115, 117, 98]) = true := by rw [h]; decide
    have HR : Hid (arM s.toList = 2) := by show _ = _; rw [h]; decide
    clear h
    go_enter Tryd.func29, Tryd.ntmps29
    go_wp2
    go_ret
    exact ⟨by rw [HR.out]; rfl, rfl⟩
  have t10 : (s.toList == [115, 117, 98]) = false := by simpa using h
  clear h
  by_cases h : s.toList = [109, 117, 108]
  · have t : (s.toList == [109, 117, 108]) = true := by rw [h]; decide
    have HR : Hid (arM s.toList = 2) := by show _ = _; rw [h]; decide
    clear h
    go_enter Tryd.func29, Tryd.ntmps29
    go_wp2
    go_ret
    exact ⟨by rw [HR.out]; rfl, rfl⟩
  have t11 : (s.toList == [109, 117, 108]) = false := by simpa using h
  clear h
  by_cases h : s.toList = [113, 117, 111, 116]
  · have t : (s.toList == [113, 117, 111, 116]) = true := by rw [h]; decide
    have HR : Hid (arM s.toList = 2) := by show _ = _; rw [h]; decide
    clear h
    go_enter Tryd.func29, Tryd.ntmps29
    go_wp2
    go_ret
    exact ⟨by rw [HR.out]; rfl, rfl⟩
  have t12 : (s.toList == [113, 117, 111, 116]) = false := by simpa using h
  clear h
  by_cases h : s.toList = [114, 101, 109]
  · have t : (s.toList == [114, 101, 109]) = true := by rw [h]; decide
    have HR : Hid (arM s.toList = 2) := by show _ = _; rw [h]; decide
    clear h
    go_enter Tryd.func29, Tryd.ntmps29
    go_wp2
    go_ret
    exact ⟨by rw [HR.out]; rfl, rfl⟩
  have t13 : (s.toList == [114, 101, 109]) = false := by simpa using h
  clear h
  by_cases h : s.toList = [101, 113]
  · have t : (s.toList == [101, 113]) = true := by rw [h]; decide
    have HR : Hid (arM s.toList = 2) := by show _ = _; rw [h]; decide
    clear h
    go_enter Tryd.func29, Tryd.ntmps29
    go_wp2
    go_ret
    exact ⟨by rw [HR.out]; rfl, rfl⟩
  have t14 : (s.toList == [101, 113]) = false := by simpa using h
  clear h
  by_cases h : s.toList = [110, 101]
  · have t : (s.toList == [110, 101]) = true := by rw [h]; decide
    have HR : Hid (arM s.toList = 2) := by show _ = _; rw [h]; decide
    clear h
    go_enter Tryd.func29, Tryd.ntmps29
    go_wp2
    go_ret
    exact ⟨by rw [HR.out]; rfl, rfl⟩
  have t15 : (s.toList == [110, 101]) = false := by simpa using h
  clear h
  by_cases h : s.toList = [108, 116]
  · have t : (s.toList == [108, 116]) = true := by rw [h]; decide
    have HR : Hid (arM s.toList = 2) := by show _ = _; rw [h]; decide
    clear h
    go_enter Tryd.func29, Tryd.ntmps29
    go_wp2
    go_ret
    exact ⟨by rw [HR.out]; rfl, rfl⟩
  have t16 : (s.toList == [108, 116]) = false := by simpa using h
  clear h
  by_cases h : s.toList = [108, 101]
  · have t : (s.toList == [108, 101]) = true := by rw [h]; decide
    have HR : Hid (arM s.toList = 2) := by show _ = _; rw [h]; decide
    clear h
    go_enter Tryd.func29, Tryd.ntmps29
    go_wp2
    go_ret
    exact ⟨by rw [HR.out]; rfl, rfl⟩
  have t17 : (s.toList == [108, 101]) = false := by simpa using h
  clear h
  by_cases h : s.toList = [103, 116]
  · have t : (s.toList == [103, 116]) = true := by rw [h]; decide
    have HR : Hid (arM s.toList = 2) := by show _ = _; rw [h]; decide
    clear h
    go_enter Tryd.func29, Tryd.ntmps29
    go_wp2
    go_ret
    exact ⟨by rw [HR.out]; rfl, rfl⟩
  have t18 : (s.toList == [103, 116]) = false := by simpa using h
  clear h
  by_cases h : s.toList = [103, 101]
  · have t : (s.toList == [103, 101]) = true := by rw [h]; decide
    have HR : Hid (arM s.toList = 2) := by show _ = _; rw [h]; decide
    clear h
    go_enter Tryd.func29, Tryd.ntmps29
    go_wp2
    go_ret
    exact ⟨by rw [HR.out]; rfl, rfl⟩
  have t19 : (s.toList == [103, 101]) = false := by simpa using h
  clear h
  by_cases h : s.toList = [99, 101, 113]
  · have t : (s.toList == [99, 101, 113]) = true := by rw [h]; decide
    have HR : Hid (arM s.toList = 2) := by show _ = _; rw [h]; decide
    clear h
    go_enter Tryd.func29, Tryd.ntmps29
    go_wp2
    go_ret
    exact ⟨by rw [HR.out]; rfl, rfl⟩
  have t20 : (s.toList == [99, 101, 113]) = false := by simpa using h
  clear h
  by_cases h : s.toList = [99, 108, 116]
  · have t : (s.toList == [99, 108, 116]) = true := by rw [h]; decide
    have HR : Hid (arM s.toList = 2) := by show _ = _; rw [h]; decide
    clear h
    go_enter Tryd.func29, Tryd.ntmps29
    go_wp2
    go_ret
    exact ⟨by rw [HR.out]; rfl, rfl⟩
  have t21 : (s.toList == [99, 108, 116]) = false := by simpa using h
  clear h
  by_cases h : s.toList = [115, 101, 113]
  · have t : (s.toList == [115, 101, 113]) = true := by rw [h]; decide
    have HR : Hid (arM s.toList = 2) := by show _ = _; rw [h]; decide
    clear h
    go_enter Tryd.func29, Tryd.ntmps29
    go_wp2
    go_ret
    exact ⟨by rw [HR.out]; rfl, rfl⟩
  have t22 : (s.toList == [115, 101, 113]) = false := by simpa using h
  clear h
  by_cases h : s.toList = [98, 105, 110, 100]
  · have t : (s.toList == [98, 105, 110, 100]) = true := by rw [h]; decide
    have HR : Hid (arM s.toList = 2) := by show _ = _; rw [h]; decide
    clear h
    go_enter Tryd.func29, Tryd.ntmps29
    go_wp2
    go_ret
    exact ⟨by rw [HR.out]; rfl, rfl⟩
  have t23 : (s.toList == [98, 105, 110, 100]) = false := by simpa using h
  clear h
  have HR : Hid (arM s.toList = -1) := by show _ = _; simp [arM, ar0, ar1, ar2]; simp at t0 t1 t2 t3 t4 t5 t6 t7 t8 t9 t10 t11 t12 t13 t14 t15 t16 t17 t18 t19 t20 t21 t22 t23; simp [*]
  go_enter Tryd.func29, Tryd.ntmps29
  go_wp2
  go_ret
  exact ⟨by rw [HR.out]; rfl, rfl⟩
end Go.Proofs.YtijafedpaghhaaaDoor
