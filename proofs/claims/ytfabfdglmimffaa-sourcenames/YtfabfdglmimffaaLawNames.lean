/-
  The law SourceNames, walked.
-/
import Derived.WalkKit
import Derived.Test.YtfabfdglmimffaaLawCalls
namespace Go.Proofs.Ytfabfdglmimffaa
open Go.RowKit Go.Shelf
set_option linter.unusedVariables false

theorem ex0_len : (M.LN ((⟨#[97, 98, 10, 9, 99]⟩ : ByteArray).extract 0 (0 : Int).toNat) 0).length = 1 := by decide +kernel
theorem ex0_col : M.colAt (lastT (M.LN ((⟨#[97, 98, 10, 9, 99]⟩ : ByteArray).extract 0 (0 : Int).toNat) 0)).data.toList = 1 := by decide +kernel
theorem ex5_len : (M.LN ((⟨#[97, 98, 10, 9, 99]⟩ : ByteArray).extract 0 (5 : Int).toNat) 0).length = 2 := by decide +kernel
theorem ex5_col : M.colAt (lastT (M.LN ((⟨#[97, 98, 10, 9, 99]⟩ : ByteArray).extract 0 (5 : Int).toNat) 0)).data.toList = 10 := by decide +kernel

theorem where_ex0 (w : World) : Calls Try.prog 7 #[.string ⟨#[97, 98, 10, 9, 99]⟩, .int .i64 0] w fun e W' => e = .returned (.tuple #[.int .i64 1, .int .i64 1, .int .i64 0]) ∧ Below w.heap.size w W' := by
  have h := where_c ⟨#[97, 98, 10, 9, 99]⟩ 0 (by decide) (by decide) (by decide) w
  rw [ex0_len, ex0_col] at h
  exact h
theorem where_ex5 (w : World) : Calls Try.prog 7 #[.string ⟨#[97, 98, 10, 9, 99]⟩, .int .i64 5] w fun e W' => e = .returned (.tuple #[.int .i64 2, .int .i64 10, .int .i64 0]) ∧ Below w.heap.size w W' := by
  have h := where_c ⟨#[97, 98, 10, 9, 99]⟩ 5 (by decide) (by decide) (by decide) w
  rw [ex5_len, ex5_col] at h
  exact h

/-- The example's lines. -/
theorem exL : M.LN ⟨#[97, 98, 10, 9, 99]⟩ 0 = [(0, ⟨#[97, 98]⟩), (3, ⟨#[9, 99]⟩)] := by rfl
theorem exM : M.LN ⟨#[97, 10, 10]⟩ 0 = [(0, ⟨#[97]⟩), (2, ⟨#[]⟩), (3, ⟨#[]⟩)] := by rfl

theorem at_ex9 (w : World) : Calls Try.prog 8 #[.string ⟨#[97, 98, 10, 9, 99]⟩, .int .i64 2, .int .i64 9] w fun e W' => e = .returned (.tuple #[.int .i64 4, .int .i64 0]) ∧ Below w.heap.size w W' := by
  refine (at_c ⟨#[97, 98, 10, 9, 99]⟩ 2 9 (by decide) w).mono ?_
  rintro e W' ⟨v, rfl, hv, hb⟩
  refine ⟨?_, hb⟩
  have hr : RefAt ⟨#[97, 98, 10, 9, 99]⟩ 2 9 (.tuple #[.int .i64 4, .int .i64 0]) := .inl ⟨4, by decide, by decide +kernel, by decide +kernel, rfl⟩
  rw [at_agree _ _ _ v _ hv hr]

theorem at_ex5 (w : World) : Calls Try.prog 8 #[.string ⟨#[97, 98, 10, 9, 99]⟩, .int .i64 2, .int .i64 5] w fun e W' => e = .returned (.tuple #[.int .i64 0, .int .i64 2]) ∧ Below w.heap.size w W' := by
  refine (at_c ⟨#[97, 98, 10, 9, 99]⟩ 2 5 (by decide) w).mono ?_
  rintro e W' ⟨v, rfl, hv, hb⟩
  refine ⟨?_, hb⟩
  have key : ∀ k : Nat, k < 6 → ¬ (((lineK ⟨#[97, 98, 10, 9, 99]⟩ k : Nat) : Int) = 2 ∧ colK ⟨#[97, 98, 10, 9, 99]⟩ k = 5) := by decide +kernel
  have hr : RefAt ⟨#[97, 98, 10, 9, 99]⟩ 2 5 (.tuple #[.int .i64 0, .int .i64 2]) := .inr ⟨fun k hk => key k (by have h5 : (⟨#[97, 98, 10, 9, 99]⟩ : ByteArray).size = 5 := rfl; omega), rfl⟩
  rw [at_agree _ _ _ v _ hv hr]

theorem indent_ex (w : World) : Calls Try.prog 9 #[.string ⟨#[97, 98, 10, 9, 99]⟩, .int .i64 2] w fun e W' => e = .returned (.tuple #[.int .i64 9, .int .i64 0]) ∧ Below w.heap.size w W' := by
  refine (indent_c ⟨#[97, 98, 10, 9, 99]⟩ 2 (by decide) w).mono ?_
  rintro e W' ⟨v, rfl, hv, hb⟩
  refine ⟨?_, hb⟩
  have hr : IndentSays ⟨#[97, 98, 10, 9, 99]⟩ 2 (.tuple #[.int .i64 9, .int .i64 0]) := .inl ⟨1, (3, ⟨#[9, 99]⟩), 1, rfl, by rw [exL]; rfl, ⟨by decide, by decide, by decide⟩, fun i hi => by
    obtain rfl : i = 0 := by omega
    exact fun h => h.2.2 rfl, rfl⟩
  rw [indent_agree _ _ v _ hv hr]

theorem indent_ex2 (w : World) : Calls Try.prog 9 #[.string ⟨#[97, 10, 10]⟩, .int .i64 2] w fun e W' => e = .returned (.tuple #[.int .i64 0, .int .i64 0]) ∧ Below w.heap.size w W' := by
  refine (indent_c ⟨#[97, 10, 10]⟩ 2 (by decide) w).mono ?_
  rintro e W' ⟨v, rfl, hv, hb⟩
  refine ⟨?_, hb⟩
  have hr : IndentSays ⟨#[97, 10, 10]⟩ 2 (.tuple #[.int .i64 0, .int .i64 0]) := .inr (.inl ⟨1, (2, ⟨#[]⟩), rfl, by rw [exM]; rfl, fun i hi => absurd hi.1 (Nat.not_lt_zero i), rfl⟩)
  rw [indent_agree _ _ v _ hv hr]

theorem check_ex (w : World) : Calls Try.prog 11 #[.string ⟨#[13]⟩] w fun e W' => e = .returned (.agg #[.int .i64 4, .int .i64 0]) ∧ Below w.heap.size w W' :=
  check_c ⟨#[13]⟩ w

set_option maxRecDepth 100000 in
set_option maxHeartbeats 4000000 in
theorem lawNames_c (w : World) : Calls Try.prog 3 #[] w fun e W' => e = .returned (.bool true) ∧ Below w.heap.size w W' := by
  go_enter Try.func3, Try.ntmps3
  go_wp2_with fail
  refine (where_ex0 _).mono ?_
  rintro e w1 ⟨rfl, hb1⟩
  go_wp2_with fail
  refine (where_ex5 _).mono ?_
  rintro e w2 ⟨rfl, hb2⟩
  go_wp2_with fail
  refine (at_ex9 _).mono ?_
  rintro e w3 ⟨rfl, hb3⟩
  go_wp2_with fail
  refine (at_ex5 _).mono ?_
  rintro e w4 ⟨rfl, hb4⟩
  go_wp2_with fail
  refine (indent_ex _).mono ?_
  rintro e w5 ⟨rfl, hb5⟩
  go_wp2_with fail
  refine (indent_ex2 _).mono ?_
  rintro e w6 ⟨rfl, hb6⟩
  go_wp2_with fail
  refine (lives_c _).mono ?_
  rintro e w7 ⟨rfl, hb7⟩
  go_wp2_with fail
  refine (check_ex _).mono ?_
  rintro e w8 ⟨rfl, hb8⟩
  go_wp2_with fail
  go_ret
  refine ⟨rfl, ?_⟩
  have k2 := hb1.trans (hb2.mono hb1.size)
  have k3 := k2.trans (hb3.mono k2.size)
  have k4 := k3.trans (hb4.mono k3.size)
  have k5 := k4.trans (hb5.mono k4.size)
  have k6 := k5.trans (hb6.mono k5.size)
  have k7 := k6.trans (hb7.mono k6.size)
  exact k7.trans (hb8.mono k7.size)

end Go.Proofs.Ytfabfdglmimffaa
