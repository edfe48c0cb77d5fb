/-
  The walk of the law on the chapter's examples.
-/
import Derived.Test.YtldpldcfgkceeaaGreatDoorQIs
namespace Go.Proofs.YtldpldcfgkceeaaGreatDoor
open Go.RowKit Go.Shelf Go.Maps
set_option linter.unusedVariables false

theorem ex2 : exOK [108, 101, 116, 32, 120, 10, 121, 32, 105, 110, 32, 122] [60, 123, 62, 32, 108, 101, 116, 32, 60, 123, 62, 32, 120, 32, 60, 125, 62, 32, 60, 59, 62, 32, 121, 32, 105, 110, 32, 122, 32, 60, 125, 62] = true := by decide +kernel
theorem ck2 : chk (bs [108, 101, 116, 32, 120, 10, 121, 32, 105, 110, 32, 122]) = (0, 0) := by decide +kernel
theorem ex3 : exOK [100, 111, 32, 123, 32, 97, 32, 59, 32, 98, 32, 125] [60, 123, 62, 32, 100, 111, 32, 123, 32, 97, 32, 59, 32, 98, 32, 125, 32, 60, 125, 62] = true := by decide +kernel
theorem ck3 : chk (bs [100, 111, 32, 123, 32, 97, 32, 59, 32, 98, 32, 125]) = (0, 0) := by decide +kernel
theorem ex4 : exOK [111, 102] [60, 123, 62, 32, 111, 102, 32, 60, 123, 62, 32, 60, 125, 62, 32, 60, 125, 62] = true := by decide +kernel
theorem ck4 : chk (bs [111, 102]) = (0, 0) := by decide +kernel
def tsB : List M.Tk := [⟨⟨8, [125], 0⟩, 0, 1, 1, true⟩]
theorem scB : M.scanAll [125] = .inr tsB := by decide +kernel
theorem ckB : chk (bs [125]) = (0, 0) := by decide +kernel
theorem alB : L.all tsB 1 = .inl 0 := by decide +kernel

set_option maxRecDepth 100000 in
set_option maxHeartbeats 4000000 in
theorem lawNames_c (w : World) (hG : GOK w) : Calls Tryz.prog 3 #[] w fun e W' => e = .returned (.bool true) ∧ Below w.heap.size w W' := by
  have hdep : Tryz.prog.follows Departure.mixedOrders = true := by kernel_rfl
  have HA : Hid (Calls Tryz.prog 8 #[.string (ByteArray.mk #[125])] w fun r W' => ∃ v, r = .returned (.tuple #[v, .agg #[.int .i64 0, .int .i64 0]]) ∧ Hid (W'.ownsRow w.heap.size 43 7 v tsB.length (tksC tsB)) ∧ Below w.heap.size w W') := all_inr (bs [125]) tsB (by decide) ckB scB w hG
  have HL : Hid (∀ (v : Value) (b : Nat) (w : World), w.ownsRow b 43 7 v tsB.length (tksC tsB) → Calls Tryz.prog 9 #[v, .int .i64 1] w fun r W' => r = .returned (.tuple #[.slice none 0 0, .agg #[.int .i64 5, .int .i64 0]]) ∧ Below w.heap.size w W') := fun v b w h => layAll_inl tsB 1 b v 0 alB (by decide) w h
  have HV : Hid (∀ w : World, GOK w → Calls Tryz.prog 10 #[] w fun e W' => e = .returned (.bool true) ∧ Below w.heap.size w W') := lives_c
  have I2 : Hid (∀ w : World, GOK w → Calls Tryz.prog 11 #[.string (ByteArray.mk #[108, 101, 116, 32, 120, 10, 121, 32, 105, 110, 32, 122]), .string (ByteArray.mk #[60, 123, 62, 32, 108, 101, 116, 32, 60, 123, 62, 32, 120, 32, 60, 125, 62, 32, 60, 59, 62, 32, 121, 32, 105, 110, 32, 122, 32, 60, 125, 62])] w fun e W' => e = .returned (.bool true) ∧ Below w.heap.size w W') := fun w hG => is_ex _ _ (by decide) ck2 ex2 w hG
  have I3 : Hid (∀ w : World, GOK w → Calls Tryz.prog 11 #[.string (ByteArray.mk #[100, 111, 32, 123, 32, 97, 32, 59, 32, 98, 32, 125]), .string (ByteArray.mk #[60, 123, 62, 32, 100, 111, 32, 123, 32, 97, 32, 59, 32, 98, 32, 125, 32, 60, 125, 62])] w fun e W' => e = .returned (.bool true) ∧ Below w.heap.size w W') := fun w hG => is_ex _ _ (by decide) ck3 ex3 w hG
  have I4 : Hid (∀ w : World, GOK w → Calls Tryz.prog 11 #[.string (ByteArray.mk #[111, 102]), .string (ByteArray.mk #[60, 123, 62, 32, 111, 102, 32, 60, 123, 62, 32, 60, 125, 62, 32, 60, 125, 62])] w fun e W' => e = .returned (.bool true) ∧ Below w.heap.size w W') := fun w hG => is_ex _ _ (by decide) ck4 ex4 w hG
  have HG : Hid (GOK w) := hG
  clear hG
  go_enter Tryz.func3, Tryz.ntmps3
  go_wp2_with (go_at_call 8; fail)
  refine HA.out.mono ?_
  rintro r w1 ⟨v, rfl, hrow, hb⟩
  have HB1 : Hid (Below w.heap.size w w1) := hb
  clear hb
  go_wp2_with (go_at_call 9; fail)
  refine (HL.out v _ _ (by first | exact hrow.out.alloc _ | exact hrow.out)).mono ?_
  rintro r w2 ⟨rfl, hb2⟩
  have HB2 : Hid (Below w.heap.size w w2) := (by first | exact (HB1.out.alloc HB1.out.size _).trans (hb2.mono (by have := HB1.out.size; simp; omega)) | exact HB1.out.trans (hb2.mono HB1.out.size))
  clear hb2 hrow HA HL
  go_wp2_with (go_at_call 10; fail)
  obtain ⟨W3, hW3⟩ : ∃ W3, W3 = w2.alloc (.cells #[.int .i64 5, .int .i64 0] 25) := ⟨_, rfl⟩
  have hF3 : Hid (Blk W3 w2.heap.size #[.int .i64 5, .int .i64 0] 25) := by rw [hW3]; exact Blk.new w2 _ _
  have HB3 : Hid (Below w.heap.size w W3) := by rw [hW3]; exact HB2.out.alloc HB2.out.size _
  rw [← hW3]
  clear hW3 HB2 HB1
  generalize w2.heap.size = F at *
  refine (HV.out _ (HG.out.below HB3.out)).mono ?_
  rintro r w4 ⟨rfl, hb4⟩
  have hF4 : Hid (Blk w4 F #[.int .i64 5, .int .i64 0] 25) := hF3.out.below hb4
  have HB4 : Hid (Below w.heap.size w w4) := HB3.out.trans (hb4.mono HB3.out.size)
  clear hb4 hF3 HB3
  go_wp2_with (go_at_call 11; fail)
  refine (I2.out _ (HG.out.below HB4.out)).mono ?_
  rintro r w5 ⟨rfl, hb5⟩
  have hF5 : Hid (Blk w5 F #[.int .i64 5, .int .i64 0] 25) := hF4.out.below hb5
  have HB5 : Hid (Below w.heap.size w w5) := HB4.out.trans (hb5.mono HB4.out.size)
  clear hb5 hF4 HB4
  go_wp2_with (go_at_call 11; fail)
  refine (I3.out _ (HG.out.below HB5.out)).mono ?_
  rintro r w6 ⟨rfl, hb6⟩
  have hF6 : Hid (Blk w6 F #[.int .i64 5, .int .i64 0] 25) := hF5.out.below hb6
  have HB6 : Hid (Below w.heap.size w w6) := HB5.out.trans (hb6.mono HB5.out.size)
  clear hb6 hF5 HB5
  go_wp2_with (go_at_call 11; fail)
  refine (I4.out _ (HG.out.below HB6.out)).mono ?_
  rintro r w7 ⟨rfl, hb7⟩
  have hF7 : Hid (Blk w7 F #[.int .i64 5, .int .i64 0] 25) := hF6.out.below hb7
  have HB7 : Hid (Below w.heap.size w w7) := HB6.out.trans (hb7.mono HB6.out.size)
  clear hb7 hF6 HB6
  obtain ⟨c0, c1, f0, f1⟩ := hF7.out.all2
  go_wp2
  go_ret
  exact ⟨rfl, HB7.out⟩

end Go.Proofs.YtldpldcfgkceeaaGreatDoor
