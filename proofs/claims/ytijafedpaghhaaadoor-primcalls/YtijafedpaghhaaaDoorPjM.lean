/-
  Quotient and rest, as mathematics.
-/
import Derived.RowKit
namespace Go.Proofs.YtijafedpaghhaaaDoor
open Go.RowKit

theorem tmod_small (a b : Int) (hb : b ≠ 0) : (a.tmod b).natAbs < b.natAbs := by
  rw [Int.natAbs_tmod]
  exact Nat.mod_lt _ (by omega)
theorem tmod_pos (a b : Int) (ha : 0 ≤ a) : 0 ≤ a.tmod b := Int.tmod_nonneg b ha
theorem tmod_neg (a b : Int) (ha : a ≤ 0) : a.tmod b ≤ 0 := by
  have h := Int.tmod_nonneg b (a := -a) (by omega)
  rw [Int.neg_tmod] at h
  omega
theorem whole_eq (a b : Int) (ha : -9223372036854775808 ≤ a ∧ a ≤ 9223372036854775807) : wrap64 (wrap64 (wrap64 (a.tdiv b) * b) + a.tmod b) = a := by
  obtain ⟨d, hd⟩ : ∃ d, a.tdiv b = d := ⟨_, rfl⟩
  obtain ⟨r, hr⟩ : ∃ r, a.tmod b = r := ⟨_, rfl⟩
  have h : d * b + r = a := by rw [← hd, ← hr]; exact Int.tdiv_mul_add_tmod a b
  rw [hd, hr]
  obtain ⟨k, hk⟩ : ∃ k, wrap64 d = d - 18446744073709551616 * k := ⟨(d + 9223372036854775808) / 18446744073709551616, by unfold wrap64; omega⟩
  have h2 : wrap64 d * b = d * b - 18446744073709551616 * (k * b) := by rw [hk, Int.sub_mul, Int.mul_assoc]
  rw [h2]
  generalize d * b = p at *
  generalize k * b = m at *
  unfold wrap64
  omega
end Go.Proofs.YtijafedpaghhaaaDoor
