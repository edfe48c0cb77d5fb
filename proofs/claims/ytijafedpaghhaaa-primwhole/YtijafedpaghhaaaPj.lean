/-
  The law PrimWhole, walked.
-/
import Derived.Test.YtijafedpaghhaaaPh
import Derived.Test.YtijafedpaghhaaaPjM
namespace Go.Proofs.Ytijafedpaghhaaa
open Go.RowKit Go.Shelf Go.Maps
set_option linter.unusedVariables false

theorem below_dn {B : Nat} {a w : World} (h : Below B a w) : ∀ n : Nat, Below B a (w.drewN n) := fun n => by
  first | exact ⟨h.os, h.tape, h.output, h.size, h.block⟩ | (induction n with | zero => exact h | succ n ih => exact ih.drew)
def absM (b : Int) : Int := if b < 0 then -b else b
set_option maxRecDepth 100000 in
set_option maxHeartbeats 1000000 in
theorem abs_c (b : Int) (hb : -9223372036854775807 ≤ b) (w : World) : Calls Try.prog 7 #[.int .i64 b] w fun e w' => e = .returned (.int .i64 (absM b)) ∧ w' = w := by
  by_cases h : b < 0
  · have HR : Hid (absM b = -b) := by show _ = _; unfold absM; rw [if_pos h]
    have h2 : b ≤ 0 := by omega
    go_enter Try.func7, Try.ntmps7
    go_wp2
    go_ret
    exact ⟨by rw [HR.out]; rfl, rfl⟩
  · have HR : Hid (absM b = b) := by show _ = _; unfold absM; rw [if_neg h]
    go_enter Try.func7, Try.ntmps7
    go_wp2
    go_ret
    exact ⟨by rw [HR.out]; rfl, rfl⟩
set_option maxRecDepth 100000 in
set_option maxHeartbeats 4000000 in
theorem lawWhole_zero (a : Int) (wa : Lit.wf (.int .i64 a) = true) (w : World) : Calls Try.prog 3 #[.int .i64 a, .int .i64 0] w fun e w' => e = .returned (.bool true) ∧ Below w.heap.size w w' := by
  have Hr : Hid (∀ W : World, Calls Try.prog 6 #[.string ⟨#[114, 101, 109]⟩, .int .i64 a, .int .i64 0] W fun e w' => e = .returned (.tuple #[.agg #[.int .i64 4, .int .i64 0, .string divZero], .bool true]) ∧ Below W.heap.size W w') := fun W => two_c nm_rem (by decide) remM op_rem ar_rem a 0 wa (by decide) 4 0 divZero (by simp [remM]) W
  clear wa
  go_enter Try.func3, Try.ntmps3
  go_wp2_with (go_at_call 5; fail)
  refine (lives_c _).mono ?_
  rintro e w1 ⟨rfl, hb1⟩
  have HB1 : Hid (Below w.heap.size w w1) := hb1
  clear hb1
  go_wp2_with (go_at_call 6; fail)
  refine (Hr.out _).mono ?_
  rintro e w2 ⟨rfl, hb⟩
  have HB2 : Hid (Below w.heap.size w w2) := HB1.out.trans (hb.mono HB1.out.size)
  clear hb
  go_wp2
  go_ret
  exact ⟨rfl, HB2.out.alloc HB2.out.size _⟩
set_option maxRecDepth 100000 in
set_option maxHeartbeats 4000000 in
theorem lawWhole_t (a b q r : Int) (hb0 : b ≠ 0) (hsg : r = 0 ∨ (r < 0 ∧ a < 0) ∨ (0 < r ∧ 0 ≤ a)) (A : Int) (hA : ∀ W : World, Calls Try.prog 7 #[.int .i64 b] W fun e w' => e = .returned (.int .i64 A) ∧ w' = W) (hmin : (b == -9223372036854775808) = false) (hA0 : 0 < A) (hA1 : A ≤ 9223372036854775807) (hl : -A < r) (hu : r < A) (hE : wrap64 (wrap64 (q * b) + r) = a)
    (Hq : Hid (∀ W : World, Calls Try.prog 6 #[.string ⟨#[113, 117, 111, 116]⟩, .int .i64 a, .int .i64 b] W fun e w' => e = .returned (.tuple #[.agg #[.int .i64 1, .int .i64 q, .string noText], .bool true]) ∧ Below W.heap.size W w'))
    (Hr : Hid (∀ W : World, Calls Try.prog 6 #[.string ⟨#[114, 101, 109]⟩, .int .i64 a, .int .i64 b] W fun e w' => e = .returned (.tuple #[.agg #[.int .i64 1, .int .i64 r, .string noText], .bool true]) ∧ Below W.heap.size W w')) (w : World) :
    Calls Try.prog 3 #[.int .i64 a, .int .i64 b] w fun e w' => e = .returned (.bool true) ∧ Below w.heap.size w w' := by
  have HE : Hid (wrap64 (wrap64 (q * b) + r) = a) := hE
  clear hE
  have HSg : Hid (r = 0 ∨ (r < 0 ∧ a < 0) ∨ (0 < r ∧ 0 ≤ a)) := hsg
  clear hsg
  have HAb : Hid (∀ W : World, Calls Try.prog 7 #[.int .i64 b] W fun e w' => e = .returned (.int .i64 A) ∧ w' = W) := hA
  clear hA
  go_enter Try.func3, Try.ntmps3
  go_wp2_with (go_at_call 5; fail)
  refine (lives_c _).mono ?_
  rintro e w1 ⟨rfl, hb1⟩
  have HB1 : Hid (Below w.heap.size w w1) := hb1
  clear hb1
  go_wp2_with (go_at_call 6; fail)
  refine (Hq.out _).mono ?_
  rintro e w2 ⟨rfl, hb⟩
  have HB2 : Hid (Below w.heap.size w w2) := HB1.out.trans (hb.mono HB1.out.size)
  obtain ⟨Pq, hPq⟩ : ∃ P, w2.heap.size = P := ⟨_, rfl⟩
  have HPq : Hid (Blk (w2.alloc (.cells #[.int .i64 1, .int .i64 q, .string noText] 24)) Pq #[.int .i64 1, .int .i64 q, .string noText] 24) := by rw [← hPq]; exact Blk.new w2 _ _
  have HA2 : Hid (Below w.heap.size w (w2.alloc (.cells #[.int .i64 1, .int .i64 q, .string noText] 24))) := HB2.out.alloc HB2.out.size _
  clear hb
  go_wp2_with (go_at_call 6; fail)
  refine (Hr.out _).mono ?_
  rintro e w3 ⟨rfl, hb⟩
  have HB3 : Hid (Below w.heap.size w w3) := HA2.out.trans (hb.mono HA2.out.size)
  have HPq3 : Hid (Blk w3 Pq #[.int .i64 1, .int .i64 q, .string noText] 24) := HPq.out.below hb
  clear hb HPq hPq
  obtain ⟨c0, c1, -, -, -, -⟩ := HPq3.out.all3
  have lq := HPq3.out.lt
  have HA3 : Hid (Below w.heap.size w (w3.alloc (.cells #[.int .i64 1, .int .i64 r, .string noText] 24))) := HB3.out.alloc HB3.out.size _
  go_wp2
  go_big_quiet ((go_at_call 7; exact Calls.quiet_of_same (HAb.out _)))
  clear hA0 hA1 hl hu hmin
  have HW : Hid (Below w.heap.size w ((w3.alloc (.cells #[.int .i64 1, .int .i64 r, .string noText] 24)).drewN nq)) := below_dn HA3.out nq
  have hE := HE.out
  rcases HSg.out with hz | ⟨hr, ha⟩ | ⟨hr, ha⟩
  · have hr0 : (r == 0) = true := by simpa using hz
    clear hz
    go_wp2
    go_ret
    exact ⟨by simp, HW.out⟩
  · have hr0 : (r == 0) = false := by simp; omega
    go_wp2
    go_ret
    exact ⟨by simp, HW.out⟩
  · have hr0 : (r == 0) = false := by simp; omega
    have hr1 : decide (r < 0) = false := by simp; omega
    have ha1 : decide (a < 0) = false := by simp; omega
    go_wp2
    go_ret
    exact ⟨by simp, HW.out⟩
set_option maxRecDepth 100000 in
set_option maxHeartbeats 4000000 in
theorem lawWhole_m (a b q r : Int) (hb0 : b ≠ 0) (hsg : r = 0 ∨ (r < 0 ∧ a < 0) ∨ (0 < r ∧ 0 ≤ a)) (hmin : (b == -9223372036854775808) = true) (hE : wrap64 (wrap64 (q * b) + r) = a)
    (Hq : Hid (∀ W : World, Calls Try.prog 6 #[.string ⟨#[113, 117, 111, 116]⟩, .int .i64 a, .int .i64 b] W fun e w' => e = .returned (.tuple #[.agg #[.int .i64 1, .int .i64 q, .string noText], .bool true]) ∧ Below W.heap.size W w'))
    (Hr : Hid (∀ W : World, Calls Try.prog 6 #[.string ⟨#[114, 101, 109]⟩, .int .i64 a, .int .i64 b] W fun e w' => e = .returned (.tuple #[.agg #[.int .i64 1, .int .i64 r, .string noText], .bool true]) ∧ Below W.heap.size W w')) (w : World) :
    Calls Try.prog 3 #[.int .i64 a, .int .i64 b] w fun e w' => e = .returned (.bool true) ∧ Below w.heap.size w w' := by
  have HE : Hid (wrap64 (wrap64 (q * b) + r) = a) := hE
  clear hE
  have HSg : Hid (r = 0 ∨ (r < 0 ∧ a < 0) ∨ (0 < r ∧ 0 ≤ a)) := hsg
  clear hsg
  go_enter Try.func3, Try.ntmps3
  go_wp2_with (go_at_call 5; fail)
  refine (lives_c _).mono ?_
  rintro e w1 ⟨rfl, hb1⟩
  have HB1 : Hid (Below w.heap.size w w1) := hb1
  clear hb1
  go_wp2_with (go_at_call 6; fail)
  refine (Hq.out _).mono ?_
  rintro e w2 ⟨rfl, hb⟩
  have HB2 : Hid (Below w.heap.size w w2) := HB1.out.trans (hb.mono HB1.out.size)
  obtain ⟨Pq, hPq⟩ : ∃ P, w2.heap.size = P := ⟨_, rfl⟩
  have HPq : Hid (Blk (w2.alloc (.cells #[.int .i64 1, .int .i64 q, .string noText] 24)) Pq #[.int .i64 1, .int .i64 q, .string noText] 24) := by rw [← hPq]; exact Blk.new w2 _ _
  have HA2 : Hid (Below w.heap.size w (w2.alloc (.cells #[.int .i64 1, .int .i64 q, .string noText] 24))) := HB2.out.alloc HB2.out.size _
  clear hb
  go_wp2_with (go_at_call 6; fail)
  refine (Hr.out _).mono ?_
  rintro e w3 ⟨rfl, hb⟩
  have HB3 : Hid (Below w.heap.size w w3) := HA2.out.trans (hb.mono HA2.out.size)
  have HPq3 : Hid (Blk w3 Pq #[.int .i64 1, .int .i64 q, .string noText] 24) := HPq.out.below hb
  clear hb HPq hPq
  obtain ⟨c0, c1, -, -, -, -⟩ := HPq3.out.all3
  have lq := HPq3.out.lt
  have HA3 : Hid (Below w.heap.size w (w3.alloc (.cells #[.int .i64 1, .int .i64 r, .string noText] 24))) := HB3.out.alloc HB3.out.size _
  go_wp2
  go_big_quiet (fail)
  clear hmin
  have HW : Hid (Below w.heap.size w ((w3.alloc (.cells #[.int .i64 1, .int .i64 r, .string noText] 24)).drewN nq)) := below_dn HA3.out nq
  have hE := HE.out
  rcases HSg.out with hz | ⟨hr, ha⟩ | ⟨hr, ha⟩
  · have hr0 : (r == 0) = true := by simpa using hz
    clear hz
    go_wp2
    go_ret
    exact ⟨by simp, HW.out⟩
  · have hr0 : (r == 0) = false := by simp; omega
    go_wp2
    go_ret
    exact ⟨by simp, HW.out⟩
  · have hr0 : (r == 0) = false := by simp; omega
    have hr1 : decide (r < 0) = false := by simp; omega
    have ha1 : decide (a < 0) = false := by simp; omega
    go_wp2
    go_ret
    exact ⟨by simp, HW.out⟩
end Go.Proofs.Ytijafedpaghhaaa
