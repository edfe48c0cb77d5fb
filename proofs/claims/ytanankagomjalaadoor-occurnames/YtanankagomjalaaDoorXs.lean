/-
  OccurNames (stage 16): the law's choice; the law.
-/
import Derived.Test.YtanankagomjalaaDoorXr
namespace Go.Proofs.YtanankagomjalaaDoor
open Go.RowKit Go.Shelf Go.Maps
set_option linter.unusedVariables false

def leafT16 (k : Int) (b : ByteArray) (n : Int) : Tr 1 := (⟨k, b, n, [], [], [], []⟩ : TrN (Tr 0))
def leafV16 (k : Int) (b : ByteArray) (n : Int) : Array Value := #[.int .i64 k, .string b, .int .i64 n, .slice none 0 0, .slice none 0 0, .slice none 0 0, .slice none 0 0]
def chV16 (M1 M2 : Nat) : Array Value := #[.int .i64 8, .string ⟨#[]⟩, .int .i64 0, .slice none 0 0, .slice none 0 0, .slice (some ⟨M1, 0, none⟩) 1 1, .slice (some ⟨M2, 0, none⟩) 2 2]
theorem ch_val16 {W : World} {ka kb kc ma mb mc : Int} {na nb nc : ByteArray} {M1 M2 : Nat} (h : Blk W M1 #[.int .i64 ka, .string na, .int .i64 ma, .slice none 0 0, .slice none 0 0, .slice none 0 0, .slice none 0 0] 29) (k : Blk W M2 #[.int .i64 2, .string ⟨#[]⟩, .int .i64 1, .slice none 0 0, .int .i64 kb, .string nb, .int .i64 mb, .slice none 0 0, .slice none 0 0, .slice none 0 0, .slice none 0 0, .int .i64 4, .string ⟨#[]⟩, .int .i64 0, .slice none 0 0, .int .i64 kc, .string nc, .int .i64 mc, .slice none 0 0, .slice none 0 0, .slice none 0 0, .slice none 0 0] 52) : ExVal W W.heap.size 1 (chT16 (leafT16 ka na ma) (leafT16 kb nb mb) (leafT16 kc nc mc)) (.agg (chV16 M1 M2)) := by
  refine ⟨none, 0, none, 0, some ⟨M1, 0, none⟩, 1, some ⟨M2, 0, none⟩, 2, rfl, .inl rfl, .inl rfl, .inr ⟨M1, 0, rfl, h.lt, fun j hj => ?_⟩, .inr ⟨M2, 0, rfl, k.lt, fun j hj => ?_⟩⟩
  · have : j = 0 := Nat.lt_one_iff.1 hj
    subst this
    exact leaf_at rfl h.lt (h.cell 0 _ rfl) (h.cell 1 _ rfl) (h.cell 2 _ rfl) (h.cell 3 _ rfl) (h.cell 4 _ rfl) (h.cell 5 _ rfl) (h.cell 6 _ rfl)
  · have hj2 : j < 2 := hj
    rcases (by omega : j = 0 ∨ j = 1) with rfl | rfl
    · exact ⟨k.cell 0 _ rfl, k.cell 1 _ rfl, k.cell 2 _ rfl, ⟨none, 0, k.cell 3 _ rfl, .inl rfl⟩, leaf_at rfl k.lt (k.cell 4 _ rfl) (k.cell 5 _ rfl) (k.cell 6 _ rfl) (k.cell 7 _ rfl) (k.cell 8 _ rfl) (k.cell 9 _ rfl) (k.cell 10 _ rfl)⟩
    · exact ⟨k.cell 11 _ rfl, k.cell 12 _ rfl, k.cell 13 _ rfl, ⟨none, 0, k.cell 14 _ rfl, .inl rfl⟩, leaf_at rfl k.lt (k.cell 15 _ rfl) (k.cell 16 _ rfl) (k.cell 17 _ rfl) (k.cell 18 _ rfl) (k.cell 19 _ rfl) (k.cell 20 _ rfl) (k.cell 21 _ rfl)⟩
set_option maxHeartbeats 16000000 in
set_option maxRecDepth 100000 in
theorem choice16_c (ka kb kc ma mb mc : Int) (na nb nc : ByteArray) (w : World) :
    Calls Tryd.prog 8 #[.agg #[.int .i64 ka, .string na, .int .i64 ma, .slice none 0 0, .slice none 0 0, .slice none 0 0, .slice none 0 0], .agg #[.int .i64 kb, .string nb, .int .i64 mb, .slice none 0 0, .slice none 0 0, .slice none 0 0, .slice none 0 0], .agg #[.int .i64 kc, .string nc, .int .i64 mc, .slice none 0 0, .slice none 0 0, .slice none 0 0, .slice none 0 0]] w fun e w' => ∃ M1 M2, e = .returned (.agg (chV16 M1 M2)) ∧ ExVal w' w'.heap.size 1 (chT16 (leafT16 ka na ma) (leafT16 kb nb mb) (leafT16 kc nc mc)) (.agg (chV16 M1 M2)) ∧ Below w.heap.size w w' := by
  obtain ⟨V1, hV1⟩ : ∃ V, w.alloc (.cells #[.int .i64 ka, .string na, .int .i64 ma, .slice none 0 0, .slice none 0 0, .slice none 0 0, .slice none 0 0] 29) = V := ⟨_, rfl⟩
  obtain ⟨V2, hV2⟩ : ∃ V, V1.alloc (.cells #[.int .i64 kb, .string nb, .int .i64 mb, .slice none 0 0, .slice none 0 0, .slice none 0 0, .slice none 0 0] 29) = V := ⟨_, rfl⟩
  obtain ⟨V3, hV3⟩ : ∃ V, V2.alloc (.cells #[.int .i64 kc, .string nc, .int .i64 mc, .slice none 0 0, .slice none 0 0, .slice none 0 0, .slice none 0 0] 29) = V := ⟨_, rfl⟩
  obtain ⟨V4, hV4⟩ : ∃ V, V3.alloc (.cells #[.int .i64 0, .string ⟨#[]⟩, .int .i64 0, .slice none 0 0, .slice none 0 0, .slice none 0 0, .slice none 0 0] 29) = V := ⟨_, rfl⟩
  obtain ⟨V5, hV5⟩ : ∃ V, V4.alloc (.cells #[.int .i64 ka, .string na, .int .i64 ma, .slice none 0 0, .slice none 0 0, .slice none 0 0, .slice none 0 0] 29) = V := ⟨_, rfl⟩
  obtain ⟨V6, hV6⟩ : ∃ V, V5.alloc (.cells #[.int .i64 2, .string ⟨#[]⟩, .int .i64 1, .slice none 0 0, .int .i64 kb, .string nb, .int .i64 mb, .slice none 0 0, .slice none 0 0, .slice none 0 0, .slice none 0 0, .int .i64 4, .string ⟨#[]⟩, .int .i64 0, .slice none 0 0, .int .i64 kc, .string nc, .int .i64 mc, .slice none 0 0, .slice none 0 0, .slice none 0 0, .slice none 0 0] 52) = V := ⟨_, rfl⟩
  have b1 : Below w.heap.size w V1 := by rw [← hV1]; exact below1 w _
  have b2 : Below V1.heap.size V1 V2 := by rw [← hV2]; exact below1 V1 _
  have b3 : Below V2.heap.size V2 V3 := by rw [← hV3]; exact below1 V2 _
  have b4 : Below V3.heap.size V3 V4 := by rw [← hV4]; exact below1 V3 _
  have b5 : Below V4.heap.size V4 V5 := by rw [← hV5]; exact below1 V4 _
  have b6 : Below V5.heap.size V5 V6 := by rw [← hV6]; exact below1 V5 _
  have k1 : Blk V1 w.heap.size #[.int .i64 ka, .string na, .int .i64 ma, .slice none 0 0, .slice none 0 0, .slice none 0 0, .slice none 0 0] 29 := by rw [← hV1]; exact Blk.new w _ _
  have k2 : Blk V2 V1.heap.size #[.int .i64 kb, .string nb, .int .i64 mb, .slice none 0 0, .slice none 0 0, .slice none 0 0, .slice none 0 0] 29 := by rw [← hV2]; exact Blk.new V1 _ _
  have k3 : Blk V3 V2.heap.size #[.int .i64 kc, .string nc, .int .i64 mc, .slice none 0 0, .slice none 0 0, .slice none 0 0, .slice none 0 0] 29 := by rw [← hV3]; exact Blk.new V2 _ _
  have k4 : Blk V4 V3.heap.size #[.int .i64 0, .string ⟨#[]⟩, .int .i64 0, .slice none 0 0, .slice none 0 0, .slice none 0 0, .slice none 0 0] 29 := by rw [← hV4]; exact Blk.new V3 _ _
  have k5 : Blk V5 V4.heap.size #[.int .i64 ka, .string na, .int .i64 ma, .slice none 0 0, .slice none 0 0, .slice none 0 0, .slice none 0 0] 29 := by rw [← hV5]; exact Blk.new V4 _ _
  have k6 : Blk V6 V5.heap.size #[.int .i64 2, .string ⟨#[]⟩, .int .i64 1, .slice none 0 0, .int .i64 kb, .string nb, .int .i64 mb, .slice none 0 0, .slice none 0 0, .slice none 0 0, .slice none 0 0, .int .i64 4, .string ⟨#[]⟩, .int .i64 0, .slice none 0 0, .int .i64 kc, .string nc, .int .i64 mc, .slice none 0 0, .slice none 0 0, .slice none 0 0, .slice none 0 0] 52 := by rw [← hV6]; exact Blk.new V5 _ _
  have k14 : Blk V4 w.heap.size #[.int .i64 ka, .string na, .int .i64 ma, .slice none 0 0, .slice none 0 0, .slice none 0 0, .slice none 0 0] 29 := ((k1.below b2).below b3).below b4
  have k25 : Blk V5 V1.heap.size #[.int .i64 kb, .string nb, .int .i64 mb, .slice none 0 0, .slice none 0 0, .slice none 0 0, .slice none 0 0] 29 := ((k2.below b3).below b4).below b5
  have k35 : Blk V5 V2.heap.size #[.int .i64 kc, .string nc, .int .i64 mc, .slice none 0 0, .slice none 0 0, .slice none 0 0, .slice none 0 0] 29 := (k3.below b4).below b5
  have k46 : Blk V6 V3.heap.size #[.int .i64 0, .string ⟨#[]⟩, .int .i64 0, .slice none 0 0, .slice none 0 0, .slice none 0 0, .slice none 0 0] 29 := (k4.below b5).below b6
  obtain ⟨p0, p1, p2, p3, p4, p5, p6⟩ := k14.cells7
  obtain ⟨q0, q1, q2, q3, q4, q5, q6⟩ := k25.cells7
  obtain ⟨r0, r1, r2, r3, r4, r5, r6⟩ := k35.cells7
  obtain ⟨s0, s1, s2, s3, s4, s5, s6⟩ := k46.cells7
  have l1 := k14.lt; have l2 := k25.lt; have l3 := k35.lt; have l4 := k46.lt
  have f0 := k46.frozen 0; have f1 := k46.frozen 1; have f2 := k46.frozen 2; have f3 := k46.frozen 3; have f4 := k46.frozen 4; have f5 := k46.frozen 5; have f6 := k46.frozen 6
  have HK : Hid (Blk V6 V4.heap.size #[.int .i64 ka, .string na, .int .i64 ma, .slice none 0 0, .slice none 0 0, .slice none 0 0, .slice none 0 0] 29 ∧ Blk V6 V5.heap.size #[.int .i64 2, .string ⟨#[]⟩, .int .i64 1, .slice none 0 0, .int .i64 kb, .string nb, .int .i64 mb, .slice none 0 0, .slice none 0 0, .slice none 0 0, .slice none 0 0, .int .i64 4, .string ⟨#[]⟩, .int .i64 0, .slice none 0 0, .int .i64 kc, .string nc, .int .i64 mc, .slice none 0 0, .slice none 0 0, .slice none 0 0, .slice none 0 0] 52 ∧ Blk V6 V3.heap.size #[.int .i64 0, .string ⟨#[]⟩, .int .i64 0, .slice none 0 0, .slice none 0 0, .slice none 0 0, .slice none 0 0] 29 ∧ Below w.heap.size w V6 ∧ V3.heap.size < V4.heap.size ∧ V3.heap.size < V5.heap.size ∧ w.heap.size ≤ V3.heap.size) := by
    have z1 := b1.size; have z2 := b2.size; have z3 := b3.size; have z4 := b4.size; have z5 := b5.size; have z6 := b6.size
    have z7 := k4.lt; have z8 := k5.lt
    exact ⟨k5.below b6, k6, k46, ((((b1.trans (b2.mono z1)).trans (b3.mono (by omega))).trans (b4.mono (by omega))).trans (b5.mono (by omega))).trans (b6.mono (by omega)), z7, by omega, by omega⟩
  clear b1 b2 b3 b4 b5 b6 k1 k2 k3 k4 k5 k6 k14 k25 k35 k46
  go_enter Tryd.func8, Tryd.ntmps8
  go_wp2
  (try simp only [Exit.inBlock, Exit.then])
  obtain ⟨X, hX⟩ : ∃ X, (((((((V6.setCell ⟨V3.heap.size, 0, none⟩ (.int .i64 8)).setCell ⟨V3.heap.size, 1, none⟩ (.string ⟨#[]⟩)).setCell ⟨V3.heap.size, 2, none⟩ (.int .i64 0)).setCell ⟨V3.heap.size, 3, none⟩ (.slice none 0 0)).setCell ⟨V3.heap.size, 4, none⟩ (.slice none 0 0)).setCell ⟨V3.heap.size, 5, none⟩ (.slice (some ⟨V4.heap.size, 0, none⟩) 1 1)).setCell ⟨V3.heap.size, 6, none⟩ (.slice (some ⟨V5.heap.size, 0, none⟩) 2 2)) = X := ⟨_, rfl⟩
  have hc : But V3.heap.size V6 X := by rw [← hX]; exact ((((((But.set _ _ _ _).trans (But.set _ _ _ _)).trans (But.set _ _ _ _)).trans (But.set _ _ _ _)).trans (But.set _ _ _ _)).trans (But.set _ _ _ _)).trans (But.set _ _ _ _)
  have kb : Blk X V3.heap.size (chV16 V4.heap.size V5.heap.size) 29 := by
    rw [← hX]
    exact ((((((HK.out.2.2.1.set 0 (.int .i64 8)).set 1 (.string ⟨#[]⟩)).set 2 (.int .i64 0)).set 3 (.slice none 0 0)).set 4 (.slice none 0 0)).set 5 (.slice (some ⟨V4.heap.size, 0, none⟩) 1 1)).set 6 (.slice (some ⟨V5.heap.size, 0, none⟩) 2 2)
  rw [hX]
  have h := HK.out
  refine bodyPost_ret (results_cell_row rfl _ _ V3.heap.size 29 _ _ _ rfl kb Tryd.underlying29 rfl rfl) rfl ?_
  refine ⟨V4.heap.size, V5.heap.size, rfl, ch_val16 ?_ ?_, ⟨hc.os.trans h.2.2.2.1.os, hc.tape.trans h.2.2.2.1.tape, hc.output.trans h.2.2.2.1.output, Nat.le_trans h.2.2.2.1.size hc.size, fun k hk => (hc.block k (by have := h.2.2.2.1.size; omega) (by omega)).trans (h.2.2.2.1.block k hk)⟩⟩
  · unfold Blk; rw [hc.block _ h.1.lt (by omega)]; exact h.1
  · unfold Blk; rw [hc.block _ h.2.1.lt (by omega)]; exact h.2.1
theorem nm_ch16 (ka kb kc ma mb mc : Int) (na nb nc : ByteArray) (ha : na.size ≤ maxLen) (hb : nb.size ≤ maxLen) (hc : nc.size ≤ maxLen) : NmOK 2 (chT16 (leafT16 ka na ma) (leafT16 kb nb mb) (leafT16 kc nc mc)) := by
  refine ⟨(show (⟨#[]⟩ : ByteArray).size ≤ maxLen by unfold maxLen; decide), fun x hx => (by cases hx), fun x hx => (by cases hx), fun x hx => ?_, fun x hx => ?_⟩
  · have : x = leafT16 ka na ma := by simpa [chT16] using hx
    subst this; exact nm_leaf16 rfl ha
  · have : x = (⟨2, ⟨#[]⟩, 1, []⟩, leafT16 kb nb mb) ∨ x = (⟨4, ⟨#[]⟩, 0, []⟩, leafT16 kc nc mc) := by simpa [chT16] using hx
    rcases this with rfl | rfl
    · exact ⟨fun x hx => (by cases hx), nm_leaf16 rfl hb⟩
    · exact ⟨fun x hx => (by cases hx), nm_leaf16 rfl hc⟩
set_option maxHeartbeats 16000000 in
set_option maxRecDepth 100000 in
/-- The law. -/
theorem occurNames_c (w : World) (hG : GT16 w) : Calls Tryd.prog 3 #[] w fun e w' => e = .returned (.bool true) ∧ Below w.heap.size w w' := by
  have HG : Hid (∀ W : World, Below w.heap.size w W → GT16 W) := fun W h => hG.below hG.size h
  have HL : Hid (Calls Tryd.prog 6 #[] w fun e w' => e = .returned (.bool true) ∧ Below w.heap.size w w') := lives16_c w hG
  clear hG
  go_enter Tryd.func3, Tryd.ntmps3
  go_wp2_with (go_at_call 6; fail)
  refine HL.out.mono ?_
  rintro e w1 ⟨rfl, hb⟩
  have B1 : Hid (Below w.heap.size w w1) := hb
  clear hb HL
  go_wp2_with (go_at_call 9; fail)
  refine (lv16_c _ w1).mono ?_
  rintro e w2 ⟨rfl, hb⟩
  have B2 : Hid (Below w.heap.size w w2) := B1.out.trans (hb.mono B1.out.size)
  clear hb
  go_wp2_with (go_at_call 9; fail)
  refine (lv16_c _ w2).mono ?_
  rintro e w3 ⟨rfl, hb⟩
  have B3 : Hid (Below w.heap.size w w3) := B2.out.trans (hb.mono B2.out.size)
  clear hb
  go_wp2_with (go_at_call 9; fail)
  refine (lv16_c _ w3).mono ?_
  rintro e w4 ⟨rfl, hb⟩
  have B4 : Hid (Below w.heap.size w w4) := B3.out.trans (hb.mono B3.out.size)
  clear hb
  have HC5 : Hid (Calls Tryd.prog 8 #[.agg #[.int .i64 1, .string ⟨#[122]⟩, .int .i64 0, .slice none 0 0, .slice none 0 0, .slice none 0 0, .slice none 0 0], .agg #[.int .i64 1, .string ⟨#[120]⟩, .int .i64 0, .slice none 0 0, .slice none 0 0, .slice none 0 0, .slice none 0 0], .agg #[.int .i64 1, .string ⟨#[120]⟩, .int .i64 0, .slice none 0 0, .slice none 0 0, .slice none 0 0, .slice none 0 0]] w4 fun e w' => ∃ M1 M2, e = .returned (.agg (chV16 M1 M2)) ∧ ExVal w' w'.heap.size 1 (chT16 (leafT16 1 ⟨#[122]⟩ 0) (leafT16 1 ⟨#[120]⟩ 0) (leafT16 1 ⟨#[120]⟩ 0)) (.agg (chV16 M1 M2)) ∧ Below w4.heap.size w4 w') := choice16_c 1 1 1 0 0 0 ⟨#[122]⟩ ⟨#[120]⟩ ⟨#[120]⟩ w4
  go_wp2_with (go_at_call 8; fail)
  refine HC5.out.mono ?_
  rintro e w5 ⟨M1, M2, rfl, hx, hb⟩
  have B5 : Hid (Below w.heap.size w w5) := B4.out.trans (hb.mono B4.out.size)
  have HI5 : Hid (Calls Tryd.prog 7 #[.agg (chV16 M1 M2), .int .i64 3] w5 fun e w' => e = .returned (.bool true) ∧ Below w5.heap.size w5 w') := is_val16 1 (chT16 (leafT16 1 ⟨#[122]⟩ 0) (leafT16 1 ⟨#[120]⟩ 0) (leafT16 1 ⟨#[120]⟩ 0)) _ 3 w5 hx (HG.out _ B5.out) (nm_ch16 _ _ _ _ _ _ _ _ _ (by unfold maxLen; decide) (by unfold maxLen; decide) (by unfold maxLen; decide)) (by decide) (by decide) (by decide) (by decide)
  have HI5b : Hid (Calls Tryd.prog 7 #[.agg #[.int .i64 8, .string ⟨#[]⟩, .int .i64 0, .slice none 0 0, .slice none 0 0, .slice (some ⟨M1, 0, none⟩) 1 1, .slice (some ⟨M2, 0, none⟩) 2 2], .int .i64 3] w5 fun e w' => e = .returned (.bool true) ∧ Below w5.heap.size w5 w') := HI5
  clear hx hb HC5 HI5
  unfold chV16
  go_wp2_with (go_at_call 7; fail)
  refine HI5b.out.mono ?_
  rintro e w6 ⟨rfl, hb⟩
  have B6 : Hid (Below w.heap.size w w6) := B5.out.trans (hb.mono B5.out.size)
  clear hb HI5b
  go_wp2_with (go_at_call 9; fail)
  refine (lv16_c _ w6).mono ?_
  rintro e w7 ⟨rfl, hb⟩
  have B7 : Hid (Below w.heap.size w w7) := B6.out.trans (hb.mono B6.out.size)
  clear hb
  go_wp2_with (go_at_call 9; fail)
  refine (lv16_c _ w7).mono ?_
  rintro e w8 ⟨rfl, hb⟩
  have B8 : Hid (Below w.heap.size w w8) := B7.out.trans (hb.mono B7.out.size)
  clear hb
  go_wp2_with (go_at_call 10; fail)
  refine (lnum16_c _ w8).mono ?_
  rintro e w9 ⟨rfl, hb⟩
  have B9 : Hid (Below w.heap.size w w9) := B8.out.trans (hb.mono B8.out.size)
  clear hb
  have HC10 : Hid (Calls Tryd.prog 8 #[.agg #[.int .i64 1, .string ⟨#[120]⟩, .int .i64 0, .slice none 0 0, .slice none 0 0, .slice none 0 0, .slice none 0 0], .agg #[.int .i64 1, .string ⟨#[120]⟩, .int .i64 0, .slice none 0 0, .slice none 0 0, .slice none 0 0, .slice none 0 0], .agg #[.int .i64 2, .string ⟨#[]⟩, .int .i64 2, .slice none 0 0, .slice none 0 0, .slice none 0 0, .slice none 0 0]] w9 fun e w' => ∃ M1 M2, e = .returned (.agg (chV16 M1 M2)) ∧ ExVal w' w'.heap.size 1 (chT16 (leafT16 1 ⟨#[120]⟩ 0) (leafT16 1 ⟨#[120]⟩ 0) (leafT16 2 ⟨#[]⟩ 2)) (.agg (chV16 M1 M2)) ∧ Below w9.heap.size w9 w') := choice16_c 1 1 2 0 0 2 ⟨#[120]⟩ ⟨#[120]⟩ ⟨#[]⟩ w9
  go_wp2_with (go_at_call 8; fail)
  refine HC10.out.mono ?_
  rintro e w10 ⟨M1, M2, rfl, hx, hb⟩
  have B10 : Hid (Below w.heap.size w w10) := B9.out.trans (hb.mono B9.out.size)
  have HI10 : Hid (Calls Tryd.prog 7 #[.agg (chV16 M1 M2), .int .i64 5] w10 fun e w' => e = .returned (.bool true) ∧ Below w10.heap.size w10 w') := is_val16 1 (chT16 (leafT16 1 ⟨#[120]⟩ 0) (leafT16 1 ⟨#[120]⟩ 0) (leafT16 2 ⟨#[]⟩ 2)) _ 5 w10 hx (HG.out _ B10.out) (nm_ch16 _ _ _ _ _ _ _ _ _ (by unfold maxLen; decide) (by unfold maxLen; decide) (by unfold maxLen; decide)) (by decide) (by decide) (by decide) (by decide)
  have HI10b : Hid (Calls Tryd.prog 7 #[.agg #[.int .i64 8, .string ⟨#[]⟩, .int .i64 0, .slice none 0 0, .slice none 0 0, .slice (some ⟨M1, 0, none⟩) 1 1, .slice (some ⟨M2, 0, none⟩) 2 2], .int .i64 5] w10 fun e w' => e = .returned (.bool true) ∧ Below w10.heap.size w10 w') := HI10
  clear hx hb HC10 HI10
  unfold chV16
  go_wp2_with (go_at_call 7; fail)
  refine HI10b.out.mono ?_
  rintro e w11 ⟨rfl, hb⟩
  have B11 : Hid (Below w.heap.size w w11) := B10.out.trans (hb.mono B10.out.size)
  clear hb HI10b
  go_wp2
  go_ret
  exact ⟨rfl, B11.out⟩
end Go.Proofs.YtanankagomjalaaDoor
