/-
  The law PrimOrder, walked.
-/
import Derived.Test.YtijafedpaghhaaaPh
namespace Go.Proofs.Ytijafedpaghhaaa
open Go.RowKit Go.Shelf Go.Maps
set_option linter.unusedVariables false

theorem b2i_01 (b : Bool) : 0 ≤ b2i b ∧ b2i b ≤ 1 := by cases b <;> decide
theorem tri (a b : Int) : b2i (decide (a < b)) + b2i (a == b) + b2i (decide (b < a)) = 1 := by
  unfold b2i
  by_cases h1 : a < b
  · have h2 : ¬ a = b := by omega
    have h3 : ¬ b < a := by omega
    simp [h1, h2, h3]
  · by_cases h2 : a = b
    · subst h2; simp
    · have h3 : b < a := by omega
      simp [h1, h2, h3]
theorem leGt (a b : Int) : b2i (decide (a ≤ b)) + b2i (decide (b < a)) = 1 := by
  unfold b2i
  by_cases h1 : a ≤ b
  · have h3 : ¬ b < a := by omega
    simp [h1, h3]
  · have h3 : b < a := by omega
    simp [h1, h3]
theorem neEq (a b : Int) : b2i (a != b) + b2i (a == b) = 1 := by
  unfold b2i
  by_cases h : a = b <;> simp [h]
set_option maxRecDepth 100000 in
set_option maxHeartbeats 8000000 in
theorem lawOrder_c (a b : Int) (wa : Lit.wf (.int .i64 a) = true) (wb : Lit.wf (.int .i64 b) = true) (w : World) : Calls Try.prog 4 #[.int .i64 a, .int .i64 b] w fun e w' => e = .returned (.bool true) ∧ Below w.heap.size w w' := by
  obtain ⟨tlt, htlt⟩ : ∃ t, b2i (decide (a < b)) = t := ⟨_, rfl⟩
  obtain ⟨teq, hteq⟩ : ∃ t, b2i (a == b) = t := ⟨_, rfl⟩
  obtain ⟨tgt, htgt⟩ : ∃ t, b2i (decide (b < a)) = t := ⟨_, rfl⟩
  obtain ⟨tle, htle⟩ : ∃ t, b2i (decide (a ≤ b)) = t := ⟨_, rfl⟩
  obtain ⟨tne, htne⟩ : ∃ t, b2i (a != b) = t := ⟨_, rfl⟩
  have Hlt : Hid (∀ W : World, Calls Try.prog 6 #[.string ⟨#[108, 116]⟩, .int .i64 a, .int .i64 b] W fun e w' => e = .returned (.tuple #[.agg #[.int .i64 3, .int .i64 tlt, .string noText], .bool true]) ∧ Below W.heap.size W w') := fun W => two_c nm_lt (by decide) ltM op_lt ar_lt a b wa wb 3 tlt noText (pv_eq htlt) W
  have Heq : Hid (∀ W : World, Calls Try.prog 6 #[.string ⟨#[101, 113]⟩, .int .i64 a, .int .i64 b] W fun e w' => e = .returned (.tuple #[.agg #[.int .i64 3, .int .i64 teq, .string noText], .bool true]) ∧ Below W.heap.size W w') := fun W => two_c nm_eq (by decide) eqM op_eq ar_eq a b wa wb 3 teq noText (pv_eq hteq) W
  have Hgt : Hid (∀ W : World, Calls Try.prog 6 #[.string ⟨#[103, 116]⟩, .int .i64 a, .int .i64 b] W fun e w' => e = .returned (.tuple #[.agg #[.int .i64 3, .int .i64 tgt, .string noText], .bool true]) ∧ Below W.heap.size W w') := fun W => two_c nm_gt (by decide) gtM op_gt ar_gt a b wa wb 3 tgt noText (pv_eq htgt) W
  have Hle : Hid (∀ W : World, Calls Try.prog 6 #[.string ⟨#[108, 101]⟩, .int .i64 a, .int .i64 b] W fun e w' => e = .returned (.tuple #[.agg #[.int .i64 3, .int .i64 tle, .string noText], .bool true]) ∧ Below W.heap.size W w') := fun W => two_c nm_le (by decide) leM op_le ar_le a b wa wb 3 tle noText (pv_eq htle) W
  have Hne : Hid (∀ W : World, Calls Try.prog 6 #[.string ⟨#[110, 101]⟩, .int .i64 a, .int .i64 b] W fun e w' => e = .returned (.tuple #[.agg #[.int .i64 3, .int .i64 tne, .string noText], .bool true]) ∧ Below W.heap.size W w') := fun W => two_c nm_ne (by decide) neM op_ne ar_ne a b wa wb 3 tne noText (pv_eq htne) W
  have hs1 : tlt + teq + tgt = 1 := by rw [← htlt, ← hteq, ← htgt]; exact tri a b
  have hs2 : tle + tgt = 1 := by rw [← htle, ← htgt]; exact leGt a b
  have hs3 : tne + teq = 1 := by rw [← htne, ← hteq]; exact neEq a b
  have b1 := b2i_01 (decide (a < b))
  have b2 := b2i_01 (a == b)
  have b3 := b2i_01 (decide (b < a))
  have b4 := b2i_01 (decide (a ≤ b))
  have b5 := b2i_01 (a != b)
  rw [htlt] at b1; rw [hteq] at b2; rw [htgt] at b3; rw [htle] at b4; rw [htne] at b5
  have HS1 : Hid (tlt + teq + tgt = 1) := hs1
  have HS2 : Hid (tle + tgt = 1) := hs2
  have HS3 : Hid (tne + teq = 1) := hs3
  have b11 := b1.1
  have b12 := b1.2
  have b21 := b2.1
  have b22 := b2.2
  have b31 := b3.1
  have b32 := b3.2
  have b41 := b4.1
  have b42 := b4.2
  have b51 := b5.1
  have b52 := b5.2
  clear htlt hteq htgt htle htne wa wb hs1 hs2 hs3 b1 b2 b3 b4 b5
  go_enter Try.func4, Try.ntmps4
  go_wp2_with (go_at_call 5; fail)
  refine (lives_c _).mono ?_
  rintro e w1 ⟨rfl, hb1⟩
  have HB1 : Hid (Below w.heap.size w w1) := hb1
  clear hb1
  go_wp2
  go_loopw [5, 6] (fun n i wr => Hid (Below w.heap.size w wr) ∧ ((i = .int .i64 0 ∧ n = .int .i64 0) ∨ (i = .int .i64 1 ∧ n = .int .i64 tlt) ∨ (i = .int .i64 2 ∧ n = .int .i64 (tlt + teq)) ∨ (i = .int .i64 3 ∧ n = .int .i64 1))) (fun _ i _ => (3 - intOf i).toNat)
  case atStart => exact ⟨HB1, .inl ⟨rfl, rfl⟩⟩
  case round =>
    obtain ⟨hB, hrel⟩ := hrel
    rcases hrel with ⟨rfl, rfl⟩ | ⟨rfl, rfl⟩ | ⟨rfl, rfl⟩ | ⟨rfl, rfl⟩
    · go_wp2_with (go_at_call 6; fail)
      refine (Hlt.out _).mono ?_
      rintro e w2 ⟨rfl, hb⟩
      have HB2 : Hid (Below w.heap.size w w2) := (hB.out.alloc hB.out.size _).trans (hb.mono (hB.out.alloc hB.out.size _).size)
      clear hb
      go_wp2
      go_roundw
      case rel => exact ⟨HB2.out.alloc HB2.out.size _, .inr (.inl ⟨rfl, by go_num⟩)⟩
      case measure => decide
    · go_wp2_with (go_at_call 6; fail)
      refine (Heq.out _).mono ?_
      rintro e w2 ⟨rfl, hb⟩
      have HB2 : Hid (Below w.heap.size w w2) := (hB.out.alloc hB.out.size _).trans (hb.mono (hB.out.alloc hB.out.size _).size)
      clear hb
      go_wp2
      go_roundw
      case rel => exact ⟨HB2.out.alloc HB2.out.size _, .inr (.inr (.inl ⟨rfl, by go_num⟩))⟩
      case measure => decide
    · go_wp2_with (go_at_call 6; fail)
      refine (Hgt.out _).mono ?_
      rintro e w2 ⟨rfl, hb⟩
      have HB2 : Hid (Below w.heap.size w w2) := (hB.out.alloc hB.out.size _).trans (hb.mono (hB.out.alloc hB.out.size _).size)
      clear hb
      go_wp2
      go_roundw
      case rel => exact ⟨HB2.out.alloc HB2.out.size _, .inr (.inr (.inr ⟨rfl, by rw [HS1.out]⟩))⟩
      case measure => decide
    · go_wp2_with (go_at_call 6; fail)
      refine (Hle.out _).mono ?_
      rintro e v0 ⟨rfl, hb⟩
      have HV0 : Hid (Below w.heap.size w v0) := hB.out.trans (hb.mono hB.out.size)
      clear hb
      obtain ⟨Ple, hPle⟩ : ∃ P, v0.heap.size = P := ⟨_, rfl⟩
      have HQle : Hid (Blk (v0.alloc (.cells #[.int .i64 3, .int .i64 tle, .string noText] 24)) Ple #[.int .i64 3, .int .i64 tle, .string noText] 24) := by rw [← hPle]; exact Blk.new v0 _ _
      have HA0 : Hid (Below w.heap.size w (v0.alloc (.cells #[.int .i64 3, .int .i64 tle, .string noText] 24))) := HV0.out.alloc HV0.out.size _
      have HPle := HQle
      clear HQle
      go_wp2_with (go_at_call 6; fail)
      refine (Hgt.out _).mono ?_
      rintro e v1 ⟨rfl, hb⟩
      have HV1 : Hid (Below w.heap.size w v1) := HA0.out.trans (hb.mono HA0.out.size)
      have HPle : Hid (Blk v1 Ple #[.int .i64 3, .int .i64 tle, .string noText] 24) := HPle.out.below hb
      clear hb
      obtain ⟨Pgt, hPgt⟩ : ∃ P, v1.heap.size = P := ⟨_, rfl⟩
      have HQgt : Hid (Blk (v1.alloc (.cells #[.int .i64 3, .int .i64 tgt, .string noText] 24)) Pgt #[.int .i64 3, .int .i64 tgt, .string noText] 24) := by rw [← hPgt]; exact Blk.new v1 _ _
      have HA1 : Hid (Below w.heap.size w (v1.alloc (.cells #[.int .i64 3, .int .i64 tgt, .string noText] 24))) := HV1.out.alloc HV1.out.size _
      have HPle : Hid (Blk (v1.alloc (.cells #[.int .i64 3, .int .i64 tgt, .string noText] 24)) Ple #[.int .i64 3, .int .i64 tle, .string noText] 24) := HPle.out.alloc _
      have HPgt := HQgt
      clear HQgt
      go_wp2_with (go_at_call 6; fail)
      refine (Hne.out _).mono ?_
      rintro e v2 ⟨rfl, hb⟩
      have HV2 : Hid (Below w.heap.size w v2) := HA1.out.trans (hb.mono HA1.out.size)
      have HPle : Hid (Blk v2 Ple #[.int .i64 3, .int .i64 tle, .string noText] 24) := HPle.out.below hb
      have HPgt : Hid (Blk v2 Pgt #[.int .i64 3, .int .i64 tgt, .string noText] 24) := HPgt.out.below hb
      clear hb
      obtain ⟨Pne, hPne⟩ : ∃ P, v2.heap.size = P := ⟨_, rfl⟩
      have HQne : Hid (Blk (v2.alloc (.cells #[.int .i64 3, .int .i64 tne, .string noText] 24)) Pne #[.int .i64 3, .int .i64 tne, .string noText] 24) := by rw [← hPne]; exact Blk.new v2 _ _
      have HA2 : Hid (Below w.heap.size w (v2.alloc (.cells #[.int .i64 3, .int .i64 tne, .string noText] 24))) := HV2.out.alloc HV2.out.size _
      have HPle : Hid (Blk (v2.alloc (.cells #[.int .i64 3, .int .i64 tne, .string noText] 24)) Ple #[.int .i64 3, .int .i64 tle, .string noText] 24) := HPle.out.alloc _
      have HPgt : Hid (Blk (v2.alloc (.cells #[.int .i64 3, .int .i64 tne, .string noText] 24)) Pgt #[.int .i64 3, .int .i64 tgt, .string noText] 24) := HPgt.out.alloc _
      have HPne := HQne
      clear HQne
      go_wp2_with (go_at_call 6; fail)
      refine (Heq.out _).mono ?_
      rintro e v3 ⟨rfl, hb⟩
      have HV3 : Hid (Below w.heap.size w v3) := HA2.out.trans (hb.mono HA2.out.size)
      have HPle : Hid (Blk v3 Ple #[.int .i64 3, .int .i64 tle, .string noText] 24) := HPle.out.below hb
      have HPgt : Hid (Blk v3 Pgt #[.int .i64 3, .int .i64 tgt, .string noText] 24) := HPgt.out.below hb
      have HPne : Hid (Blk v3 Pne #[.int .i64 3, .int .i64 tne, .string noText] 24) := HPne.out.below hb
      clear hb
      obtain ⟨-, cle, -, -, -, -⟩ := HPle.out.all3
      have lle := HPle.out.lt
      obtain ⟨-, cgt, -, -, -, -⟩ := HPgt.out.all3
      have lgt := HPgt.out.lt
      obtain ⟨-, cne, -, -, -, -⟩ := HPne.out.all3
      have lne := HPne.out.lt
      have HA3 : Hid (Below w.heap.size w (v3.alloc (.cells #[.int .i64 3, .int .i64 teq, .string noText] 24))) := HV3.out.alloc HV3.out.size _
      have hs2 := HS2.out
      have hs3 := HS3.out
      go_wp2
      go_ret
      exact ⟨rfl, HA3.out⟩
end Go.Proofs.Ytijafedpaghhaaa
