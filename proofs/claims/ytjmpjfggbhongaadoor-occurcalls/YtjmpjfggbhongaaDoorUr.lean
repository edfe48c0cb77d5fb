/-
  The law's first examples (stage 16).
-/
import Derived.Test.YtjmpjfggbhongaaDoorUq
namespace Go.Proofs.YtjmpjfggbhongaaDoor
open Go.RowKit Go.Shelf Go.Maps
set_option linter.unusedVariables false

def xB : ByteArray := ⟨#[120]⟩
def yB : ByteArray := ⟨#[121]⟩
theorem nm_lam16 : NmOK 2 (lamT16 yB xB) := by
  refine ⟨by unfold maxLen; decide, fun x hx => ?_, fun x hx => (by cases hx), fun x hx => ?_, fun x hx => (by cases hx)⟩
  · have : x = yB := by simpa [bndM, lamT16] using hx
    subst this; unfold maxLen; decide
  · have : x = varT16 xB := by simpa [lamT16] using hx
    subst this; exact nm_leaf16 rfl (by unfold maxLen; decide)
theorem nm_app16 : NmOK 2 (appT16 xB xB) := by
  refine ⟨by unfold maxLen; decide, fun x hx => (by cases hx), fun x hx => (by cases hx), fun x hx => ?_, fun x hx => (by cases hx)⟩
  have : x = varT16 xB := by simpa [appT16] using hx
  subst this; exact nm_leaf16 rfl (by unfold maxLen; decide)
set_option maxHeartbeats 16000000 in
set_option maxRecDepth 100000 in
theorem lives16_c (w : World) (hG : GT16 w) : Calls Tryd.prog 6 #[] w fun e w' => e = .returned (.bool true) ∧ Below w.heap.size w w' := by
  have HG : Hid (GT16 w) := hG
  clear hG
  obtain ⟨A, hA⟩ : ∃ A, w.alloc (.cells #[.string yB] 9) = A := ⟨_, rfl⟩
  have kA : Hid (Blk A w.heap.size #[.string yB] 9 ∧ Below w.heap.size w A) := ⟨by rw [← hA]; exact Blk.new w _ _, by rw [← hA]; exact below1 w _⟩
  go_enter Tryd.func6, Tryd.ntmps6
  go_wp2_with (go_at_call 9; fail)
  (try rw [show w.alloc (.cells #[.string ⟨#[121]⟩] 9) = A from hA])
  refine (lv16_c _ A).mono ?_
  rintro e w1 ⟨rfl, h1⟩
  have H1 : Hid (Blk w1 w.heap.size #[.string yB] 9 ∧ Below w.heap.size w w1) := ⟨kA.out.1.below h1, kA.out.2.trans (h1.mono kA.out.2.size)⟩
  clear h1 kA hA
  obtain ⟨U, hU⟩ : ∃ U, w1.alloc (.cells #[.int .i64 1, .string ⟨#[120]⟩, .int .i64 0, .slice none 0 0, .slice none 0 0, .slice none 0 0, .slice none 0 0] 29) = U := ⟨_, rfl⟩
  obtain ⟨U2, hU2⟩ : ∃ U2, U.alloc (.cells #[.int .i64 0, .string ⟨#[]⟩, .int .i64 0, .slice none 0 0, .slice none 0 0, .slice none 0 0, .slice none 0 0] 29) = U2 := ⟨_, rfl⟩
  have k1 : Blk U w1.heap.size (vV xB) 29 := by rw [← hU]; exact Blk.new w1 _ _
  have k2 : Blk U2 U.heap.size #[.int .i64 0, .string ⟨#[]⟩, .int .i64 0, .slice none 0 0, .slice none 0 0, .slice none 0 0, .slice none 0 0] 29 := by rw [← hU2]; exact Blk.new U _ _
  have b1 : Below w1.heap.size w1 U := by rw [← hU]; exact below1 w1 _
  have b2 : Below U.heap.size U U2 := by rw [← hU2]; exact below1 U _
  obtain ⟨r0, r1, r2, r3, r4, r5, r6⟩ := k2.cells7
  have f0 := k2.frozen 0; have f1 := k2.frozen 1; have f2 := k2.frozen 2; have f3 := k2.frozen 3; have f4 := k2.frozen 4; have f5 := k2.frozen 5; have f6 := k2.frozen 6
  have lU := k2.lt
  have HU : Hid (Blk U2 w1.heap.size (vV xB) 29 ∧ Blk U2 U.heap.size #[.int .i64 0, .string ⟨#[]⟩, .int .i64 0, .slice none 0 0, .slice none 0 0, .slice none 0 0, .slice none 0 0] 29 ∧ Below w1.heap.size w1 U2 ∧ w1.heap.size < U.heap.size) := ⟨k1.below b2, k2, b1.trans (b2.mono b1.size), k1.lt⟩
  clear k1 k2 b1 b2
  go_wp2_with (go_at_call 10; fail)
  (try rw [hU])
  (try rw [hU2])
  obtain ⟨X, hX⟩ : ∃ X, (((((((U2.setCell ⟨U.heap.size, 0, none⟩ (.int .i64 5)).setCell ⟨U.heap.size, 1, none⟩ (.string ⟨#[]⟩)).setCell ⟨U.heap.size, 2, none⟩ (.int .i64 0)).setCell ⟨U.heap.size, 3, none⟩ (.slice (some ⟨w.heap.size, 0, none⟩) 1 1)).setCell ⟨U.heap.size, 4, none⟩ (.slice none 0 0)).setCell ⟨U.heap.size, 5, none⟩ (.slice (some ⟨w1.heap.size, 0, none⟩) 1 1)).setCell ⟨U.heap.size, 6, none⟩ (.slice none 0 0)) = X := ⟨_, rfl⟩
  rw [hX]
  obtain ⟨KK, hKK⟩ : ∃ KK : World → Prop, KK = fun W => Below w.heap.size w W ∧ Blk W w.heap.size #[.string yB] 9 ∧ Blk W w1.heap.size (vV xB) 29 ∧ Blk W U.heap.size #[.int .i64 5, .string ⟨#[]⟩, .int .i64 0, .slice (some ⟨w.heap.size, 0, none⟩) 1 1, .slice none 0 0, .slice (some ⟨w1.heap.size, 0, none⟩) 1 1, .slice none 0 0] 29 := ⟨_, rfl⟩
  have HKg : Hid (∀ W W' : World, KK W → Below W.heap.size W W' → KK W') := by
    intro W W' h hb
    rw [hKK] at h ⊢
    exact ⟨h.1.trans (hb.mono h.1.size), h.2.1.below hb, h.2.2.1.below hb, h.2.2.2.below hb⟩
  have HKd : Hid (∀ W : World, KK W → Below w.heap.size w W ∧ Blk W w.heap.size #[.string yB] 9 ∧ Blk W w1.heap.size (vV xB) 29 ∧ Blk W U.heap.size #[.int .i64 5, .string ⟨#[]⟩, .int .i64 0, .slice (some ⟨w.heap.size, 0, none⟩) 1 1, .slice none 0 0, .slice (some ⟨w1.heap.size, 0, none⟩) 1 1, .slice none 0 0] 29) := fun W h => by rw [hKK] at h; exact h
  have HKt : Hid (∀ W : World, KK W → GT16 W) := fun W h => HG.out.below HG.out.size (HKd.out W h).1
  have KX : Hid (KK X) := by
    have hc : But U.heap.size U2 X := by rw [← hX]; exact ((((((But.set _ _ _ _).trans (But.set _ _ _ _)).trans (But.set _ _ _ _)).trans (But.set _ _ _ _)).trans (But.set _ _ _ _)).trans (But.set _ _ _ _)).trans (But.set _ _ _ _)
    have kb : Blk X U.heap.size #[.int .i64 5, .string ⟨#[]⟩, .int .i64 0, .slice (some ⟨w.heap.size, 0, none⟩) 1 1, .slice none 0 0, .slice (some ⟨w1.heap.size, 0, none⟩) 1 1, .slice none 0 0] 29 := by
      rw [← hX]
      exact ((((((HU.out.2.1.set 0 (.int .i64 5)).set 1 (.string ⟨#[]⟩)).set 2 (.int .i64 0)).set 3 (.slice (some ⟨w.heap.size, 0, none⟩) 1 1)).set 4 (.slice none 0 0)).set 5 (.slice (some ⟨w1.heap.size, 0, none⟩) 1 1)).set 6 (.slice none 0 0)
    have h1 := H1.out.1.below HU.out.2.2.1
    have hlw := H1.out.1.lt
    have hUl := HU.out.2.2.2
    have hb2 := H1.out.2.trans (HU.out.2.2.1.mono H1.out.2.size)
    rw [hKK]
    refine ⟨⟨hc.os.trans hb2.os, hc.tape.trans hb2.tape, hc.output.trans hb2.output, Nat.le_trans hb2.size hc.size, fun k hk => (hc.block k (by have := hb2.size; omega) (by omega)).trans (hb2.block k hk)⟩, ?_, ?_, kb⟩
    · unfold Blk; rw [hc.block _ h1.lt (by omega)]; exact h1
    · unfold Blk; rw [hc.block _ HU.out.1.lt (by omega)]; exact HU.out.1
  clear hX hKK HU H1 r0 r1 r2 r3 r4 r5 r6 f0 f1 f2 f3 f4 f5 f6 lU hU hU2
  refine (lnum16_c 1 X).mono ?_
  rintro e w2 ⟨rfl, hb⟩
  have Kw2 : Hid (KK w2) := HKg.out _ _ KX.out hb
  clear hb
  have HIw3 : Hid (Calls Tryd.prog 7 #[.agg #[.int .i64 2, .string ⟨#[]⟩, .int .i64 1, .slice none 0 0, .slice none 0 0, .slice none 0 0, .slice none 0 0], .int .i64 1] w2 fun e w' => e = .returned (.bool true) ∧ Below w2.heap.size w2 w') := is_val16 0 (numT16 1) _ 1 w2 (num_val16 1 w2) (HKt.out _ Kw2.out) (nm_leaf16 rfl (by unfold maxLen; decide)) (by decide) (by decide) (by decide) rfl
  go_wp2_with (go_at_call 7; fail)
  refine HIw3.out.mono ?_
  rintro e w3 ⟨rfl, hb⟩
  have Kw3 : Hid (KK w3) := HKg.out _ _ Kw2.out hb
  clear hb HIw3
  go_wp2_with (go_at_call 9; fail)
  refine (lv16_c _ w3).mono ?_
  rintro e w4 ⟨rfl, hb⟩
  have Kw4 : Hid (KK w4) := HKg.out _ _ Kw3.out hb
  clear hb
  have HIw5 : Hid (Calls Tryd.prog 7 #[.agg #[.int .i64 1, .string ⟨#[120]⟩, .int .i64 0, .slice none 0 0, .slice none 0 0, .slice none 0 0, .slice none 0 0], .int .i64 2] w4 fun e w' => e = .returned (.bool true) ∧ Below w4.heap.size w4 w') := is_val16 0 (varT16 xB) _ 2 w4 (var_val16 xB w4) (HKt.out _ Kw4.out) (nm_leaf16 rfl (by unfold maxLen; decide)) (by decide) (by decide) (by decide) (by decide)
  go_wp2_with (go_at_call 7; fail)
  refine HIw5.out.mono ?_
  rintro e w5 ⟨rfl, hb⟩
  have Kw5 : Hid (KK w5) := HKg.out _ _ Kw4.out hb
  clear hb HIw5
  obtain ⟨r0, r1, r2, r3, r4, r5, r6⟩ := (HKd.out _ Kw5.out).2.2.2.cells7
  have lU := (HKd.out _ Kw5.out).2.2.2.lt
  have HIw6 : Hid (Calls Tryd.prog 7 #[.agg #[.int .i64 5, .string ⟨#[]⟩, .int .i64 0, .slice (some ⟨w.heap.size, 0, none⟩) 1 1, .slice none 0 0, .slice (some ⟨w1.heap.size, 0, none⟩) 1 1, .slice none 0 0], .int .i64 4] w5 fun e w' => e = .returned (.bool true) ∧ Below w5.heap.size w5 w') := is_val16 1 (lamT16 yB xB) _ 4 w5 (lam_val16 (HKd.out _ Kw5.out).2.1 (HKd.out _ Kw5.out).2.2.1) (HKt.out _ Kw5.out) nm_lam16 (by decide) (by decide) (by decide) (by decide)
  go_wp2_with (go_at_call 7; fail)
  refine HIw6.out.mono ?_
  rintro e w6 ⟨rfl, hb⟩
  have Kw6 : Hid (KK w6) := HKg.out _ _ Kw5.out hb
  clear hb HIw6
  clear r0 r1 r2 r3 r4 r5 r6 lU
  go_wp2_with (go_at_call 9; fail)
  refine (lv16_c _ w6).mono ?_
  rintro e w7 ⟨rfl, hb⟩
  have Kw7 : Hid (KK w7) := HKg.out _ _ Kw6.out hb
  clear hb
  go_wp2_with (go_at_call 9; fail)
  refine (lv16_c _ w7).mono ?_
  rintro e w8 ⟨rfl, hb⟩
  have Kw8 : Hid (KK w8) := HKg.out _ _ Kw7.out hb
  clear hb
  obtain ⟨A9, hA9⟩ : ∃ A, w8.alloc (.cells #[.int .i64 1, .string ⟨#[120]⟩, .int .i64 0, .slice none 0 0, .slice none 0 0, .slice none 0 0, .slice none 0 0, .int .i64 1, .string ⟨#[120]⟩, .int .i64 0, .slice none 0 0, .slice none 0 0, .slice none 0 0, .slice none 0 0] 29) = A := ⟨_, rfl⟩
  have k9 : Blk A9 w8.heap.size (vV xB ++ vV xB) 29 := by rw [← hA9]; exact Blk.new w8 _ _
  have b9 : Below w8.heap.size w8 A9 := by rw [← hA9]; exact below1 w8 _
  have KA9 : Hid (KK A9) := HKg.out _ _ Kw8.out b9
  have HIw9 : Hid (Calls Tryd.prog 7 #[.agg #[.int .i64 6, .string ⟨#[]⟩, .int .i64 0, .slice none 0 0, .slice none 0 0, .slice (some ⟨w8.heap.size, 0, none⟩) 2 2, .slice none 0 0], .int .i64 5] A9 fun e w' => e = .returned (.bool true) ∧ Below A9.heap.size A9 w') := is_val16 1 (appT16 xB xB) _ 5 A9 (app_val16 k9) (HKt.out _ KA9.out) nm_app16 (by decide) (by decide) (by decide) (by decide)
  go_wp2_with (go_at_call 7; fail)
  (try rw [hA9])
  refine HIw9.out.mono ?_
  rintro e w9 ⟨rfl, hb⟩
  have Kw9 : Hid (KK w9) := HKg.out _ _ KA9.out hb
  clear hb HIw9
  clear k9 b9
  go_wp2
  go_ret
  exact ⟨rfl, (HKd.out _ Kw9.out).1⟩
end Go.Proofs.YtjmpjfggbhongaaDoor
