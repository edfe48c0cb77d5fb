/-
  The contracts of package source for callers without a range over a function; and 'lives'.
-/
import Derived.Test.YtfabfdglmimffaaAt
import Derived.Test.YtfabfdglmimffaaIndent
import Derived.Test.YtfabfdglmimffaaLines
namespace Go.Proofs.Ytfabfdglmimffaa
open Go.RowKit Go.Shelf
set_option linter.unusedVariables false

theorem where_c (s : ByteArray) (at' : Int) (h0 : 0 ≤ at') (hle : at' ≤ s.size) (hs : s.size ≤ 140737488351232) (w : World) :
    Calls Try.prog 7 #[.string s, .int .i64 at'] w fun e W' => e = .returned (.tuple #[.int .i64 ((M.LN (s.extract 0 at'.toNat) 0).length : Nat), .int .i64 (M.colAt (lastT (M.LN (s.extract 0 at'.toNat) 0)).data.toList), .int .i64 0]) ∧ Below w.heap.size w W' :=
  (callsIn_wide (n := 9)).1 (where_in Fence.wide 9 (fun _ => trivial) rfl (by omega) (by omega) s at' h0 hle hs w)
theorem where_no_c (s : ByteArray) (at' : Int) (h : at' < 0 ∨ (s.size : Int) < at') (hs : s.size ≤ 140737488351232) (w : World) :
    Calls Try.prog 7 #[.string s, .int .i64 at'] w fun e W' => e = .returned (.tuple #[.int .i64 0, .int .i64 0, .int .i64 2]) ∧ Below w.heap.size w W' :=
  (callsIn_wide (n := 9)).1 (where_no Fence.wide 9 (fun _ => trivial) rfl s at' h hs w)
theorem at_c (s : ByteArray) (line col : Int) (hs : s.size ≤ 140737488351232) (w : World) :
    Calls Try.prog 8 #[.string s, .int .i64 line, .int .i64 col] w fun e W' => ∃ v, e = .returned v ∧ AtSays s line col v ∧ Below w.heap.size w W' :=
  (callsIn_wide (n := 9)).1 (at_in Fence.wide 9 (fun _ => trivial) rfl (by omega) (by omega) s line col hs w)
theorem indent_c (s : ByteArray) (line : Int) (hs : s.size ≤ 140737488351232) (w : World) :
    Calls Try.prog 9 #[.string s, .int .i64 line] w fun e W' => ∃ v, e = .returned v ∧ IndentSays s line v ∧ Below w.heap.size w W' :=
  (callsIn_wide (n := 9)).1 (indent_in Fence.wide 9 (fun _ => trivial) rfl (by omega) (by omega) s line hs w)
theorem lines_c (s : ByteArray) (hs : s.size ≤ 8796093022000) (w : World) :
    Calls Try.prog 17 #[.string s] w fun e W' => ∃ v, e = .returned v ∧ W'.ownsRow w.heap.size 9 1 v (M.LN s 0).length ((M.LN s 0).map strV) ∧ Below w.heap.size w W' :=
  (callsIn_wide (n := 9)).1 (lines17_in Fence.wide 9 (fun _ => trivial) rfl (by omega) (by omega) s hs w)

theorem ex_len : (M.LN ((⟨#[97, 98, 10, 9, 99]⟩ : ByteArray).extract 0 (4 : Int).toNat) 0).length = 2 := by decide +kernel
theorem ex_col : M.colAt (lastT (M.LN ((⟨#[97, 98, 10, 9, 99]⟩ : ByteArray).extract 0 (4 : Int).toNat) 0)).data.toList = 9 := by decide +kernel

theorem where_ex (w : World) : Calls Try.prog 7 #[.string ⟨#[97, 98, 10, 9, 99]⟩, .int .i64 4] w fun e W' => e = .returned (.tuple #[.int .i64 2, .int .i64 9, .int .i64 0]) ∧ Below w.heap.size w W' := by
  have h := where_c ⟨#[97, 98, 10, 9, 99]⟩ 4 (by decide) (by decide) (by decide) w
  rw [ex_len, ex_col] at h
  exact h

set_option maxHeartbeats 400000 in
theorem lives_c (w : World) : Calls Try.prog 10 #[] w fun e W' => e = .returned (.bool true) ∧ Below w.heap.size w W' := by
  go_enter Try.func10, Try.ntmps10
  go_wp2_with (go_at_call 7; refine (where_ex _).mono ?_; rintro e w' ⟨rfl, hb⟩)
  go_ret
  exact ⟨rfl, hb⟩

end Go.Proofs.Ytfabfdglmimffaa
