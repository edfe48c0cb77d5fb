/-
  The law CoreNames, walked.
-/
import Derived.Test.YtegdloenakachaaGreatDoorCN34
import Derived.Deep.RegionHeld3
namespace Go.Proofs.YtegdloenakachaaGreatDoor
open Go.RowKit Go.Shelf Go.Maps
set_option linter.unusedVariables false
set_option maxHeartbeats 8000000 in
set_option maxRecDepth 100000 in
theorem names7_c (w : World) (hgt : GT w) : Calls Tryz.prog 3 #[] w fun e W' => e = .returned (.bool true) ∧ Below w.heap.size w W' := by
  have HG : Hid (GT w) := hgt
  clear hgt
  go_enter Tryz.func3, Tryz.ntmps3
  go_wp2_with (go_at_call 6; fail)
  refine (lives_c w).mono ?_
  rintro r w0 ⟨rfl, h0⟩
  have H0 : Hid (Below w.heap.size w w0) := h0
  clear h0
  go_wp2_with (go_at_call 7; fail)
  refine (builtin7_c w0).mono ?_
  rintro r w1 ⟨rfl, -, h1⟩
  have H1 : Hid (Below w.heap.size w w1) := H0.out.trans (h1.mono H0.out.size)
  clear h1 H0
  go_wp2_with (go_at_call 8; fail)
  refine (arity_c _ w1).mono ?_
  rintro r w1' ⟨rfl, rfl⟩
  rw [ar_bind]
  go_wp2_with (go_at_call 8; fail)
  refine (arity_c _ w1').mono ?_
  rintro r w2 ⟨rfl, rfl⟩
  rw [ar_x]
  go_wp2_with (go_at_call 10; fail)
  refine (lv_c _ w2).mono ?_
  rintro r w3 ⟨rfl, h3⟩
  have H3 : Hid (Below w.heap.size w w3) := H1.out.trans (h3.mono H1.out.size)
  clear h3 H1
  go_wp2_with (go_at_call 11; fail)
  refine (lnum_c _ w3).mono ?_
  rintro r w4 ⟨rfl, h4⟩
  have H4 : Hid (Below w.heap.size w w4) := H3.out.trans (h4.mono H3.out.size)
  clear h4 H3
  go_wp2_with (go_at_call 9; fail)
  refine (lapp_c _ _ _ _).mono ?_
  rintro r w5 ⟨rfl, h5⟩
  have H5 : Hid (Below w.heap.size w w5 ∧ Blk w5 w4.heap.size #[.int .i64 1, .string bB7, .int .i64 0, .slice none 0 0, .slice none 0 0, .slice none 0 0, .slice none 0 0, .int .i64 2, .string ⟨#[]⟩, .int .i64 1, .slice none 0 0, .slice none 0 0, .slice none 0 0, .slice none 0 0] 31) := by
    have hb := (below1 w4 _).trans (h5.mono (below1 w4 _).size)
    exact ⟨H4.out.trans (hb.mono H4.out.size), (Blk.new w4 _ _).below h5⟩
  clear h5 H4
  go_wp2_with (go_at_call 11; fail)
  refine (lnum_c _ w5).mono ?_
  rintro r w6 ⟨rfl, h6⟩
  have H6 : Hid (Below w.heap.size w w6 ∧ Blk w6 w4.heap.size #[.int .i64 1, .string bB7, .int .i64 0, .slice none 0 0, .slice none 0 0, .slice none 0 0, .slice none 0 0, .int .i64 2, .string ⟨#[]⟩, .int .i64 1, .slice none 0 0, .slice none 0 0, .slice none 0 0, .slice none 0 0] 31) := ⟨H5.out.1.trans (h6.mono H5.out.1.size), H5.out.2.below h6⟩
  clear h6 H5
  go_wp2_with (go_at_call 10; fail)
  refine (lv_c _ _).mono ?_
  rintro r w7 ⟨rfl, h7⟩
  have H7 : Hid (Below w.heap.size w w7 ∧ Blk w7 w4.heap.size #[.int .i64 1, .string bB7, .int .i64 0, .slice none 0 0, .slice none 0 0, .slice none 0 0, .slice none 0 0, .int .i64 2, .string ⟨#[]⟩, .int .i64 1, .slice none 0 0, .slice none 0 0, .slice none 0 0, .slice none 0 0] 31 ∧ Blk w7 w6.heap.size #[.string aB7, .int .i64 6, .string ⟨#[]⟩, .int .i64 0, .slice none 0 0, .slice none 0 0, .slice (some ⟨w4.heap.size, 0, none⟩) 2 2, .slice none 0 0, .string bB7, .int .i64 2, .string ⟨#[]⟩, .int .i64 2, .slice none 0 0, .slice none 0 0, .slice none 0 0, .slice none 0 0] 36) := by
    have hb := (below1 w6 _).trans (h7.mono (below1 w6 _).size)
    exact ⟨H6.out.1.trans (hb.mono H6.out.1.size), H6.out.2.below hb, (Blk.new w6 _ _).below h7⟩
  clear h7 H6
  go_wp2_with (go_at_call 10; fail)
  obtain ⟨gb, hgb⟩ : ∃ g, w6.heap.size = g := ⟨_, rfl⟩
  obtain ⟨ga, hga⟩ : ∃ g, w7.heap.size = g := ⟨_, rfl⟩
  obtain ⟨gl, hgl⟩ : ∃ g, w7.heap.size + 1 = g := ⟨_, rfl⟩
  have H8 : Hid (Below w.heap.size w ((w7.alloc (.cells #[.int .i64 1, .string ⟨#[97]⟩, .int .i64 0, .slice none 0 0, .slice none 0 0, .slice none 0 0, .slice none 0 0] 31)).alloc (.cells #[.int .i64 7, .string ⟨#[]⟩, .int .i64 0, .slice none 0 0, .slice (some ⟨gb, 0, none⟩) 2 2, .slice (some ⟨ga, 0, none⟩) 1 1, .slice none 0 0] 31)) ∧ Blk ((w7.alloc (.cells #[.int .i64 1, .string ⟨#[97]⟩, .int .i64 0, .slice none 0 0, .slice none 0 0, .slice none 0 0, .slice none 0 0] 31)).alloc (.cells #[.int .i64 7, .string ⟨#[]⟩, .int .i64 0, .slice none 0 0, .slice (some ⟨gb, 0, none⟩) 2 2, .slice (some ⟨ga, 0, none⟩) 1 1, .slice none 0 0] 31)) gl #[.int .i64 7, .string ⟨#[]⟩, .int .i64 0, .slice none 0 0, .slice (some ⟨gb, 0, none⟩) 2 2, .slice (some ⟨ga, 0, none⟩) 1 1, .slice none 0 0] 31 ∧ ExVal ((w7.alloc (.cells #[.int .i64 1, .string ⟨#[97]⟩, .int .i64 0, .slice none 0 0, .slice none 0 0, .slice none 0 0, .slice none 0 0] 31)).alloc (.cells #[.int .i64 7, .string ⟨#[]⟩, .int .i64 0, .slice none 0 0, .slice (some ⟨gb, 0, none⟩) 2 2, .slice (some ⟨ga, 0, none⟩) 1 1, .slice none 0 0] 31)) ((w7.alloc (.cells #[.int .i64 1, .string ⟨#[97]⟩, .int .i64 0, .slice none 0 0, .slice none 0 0, .slice none 0 0, .slice none 0 0] 31)).alloc (.cells #[.int .i64 7, .string ⟨#[]⟩, .int .i64 0, .slice none 0 0, .slice (some ⟨gb, 0, none⟩) 2 2, .slice (some ⟨ga, 0, none⟩) 1 1, .slice none 0 0] 31)).heap.size 2 letT (.agg #[.int .i64 7, .string ⟨#[]⟩, .int .i64 0, .slice none 0 0, .slice (some ⟨gb, 0, none⟩) 2 2, .slice (some ⟨ga, 0, none⟩) 1 1, .slice none 0 0])) := by
    obtain ⟨a1, a2, a3⟩ := H7.out
    have b1 := below1 w7 (.cells #[.int .i64 1, .string ⟨#[97]⟩, .int .i64 0, .slice none 0 0, .slice none 0 0, .slice none 0 0, .slice none 0 0] 31)
    have b2 := below1 (w7.alloc (.cells #[.int .i64 1, .string ⟨#[97]⟩, .int .i64 0, .slice none 0 0, .slice none 0 0, .slice none 0 0, .slice none 0 0] 31)) (.cells #[.int .i64 7, .string ⟨#[]⟩, .int .i64 0, .slice none 0 0, .slice (some ⟨gb, 0, none⟩) 2 2, .slice (some ⟨ga, 0, none⟩) 1 1, .slice none 0 0] 31)
    have e1 : (w7.alloc (.cells #[.int .i64 1, .string ⟨#[97]⟩, .int .i64 0, .slice none 0 0, .slice none 0 0, .slice none 0 0, .slice none 0 0] 31)).heap.size = w7.heap.size + 1 := Array.size_push _
    have k1 := Blk.new (w7.alloc (.cells #[.int .i64 1, .string ⟨#[97]⟩, .int .i64 0, .slice none 0 0, .slice none 0 0, .slice none 0 0, .slice none 0 0] 31)) #[.int .i64 7, .string ⟨#[]⟩, .int .i64 0, .slice none 0 0, .slice (some ⟨gb, 0, none⟩) 2 2, .slice (some ⟨ga, 0, none⟩) 1 1, .slice none 0 0] 31
    have k2 := (Blk.new w7 #[.int .i64 1, .string ⟨#[97]⟩, .int .i64 0, .slice none 0 0, .slice none 0 0, .slice none 0 0, .slice none 0 0] 31).below b2
    rw [e1, hgl] at k1
    rw [hga] at k2
    rw [hgb] at a3
    exact ⟨(a1.trans (b1.mono a1.size)).trans (b2.mono (Nat.le_trans a1.size b1.size)), k1, let_val ((a2.below b1).below b2) ((a3.below b1).below b2) k2⟩
  rw [hgb, hgl, hga]
  generalize (w7.alloc _).alloc _ = W8 at H8 ⊢
  clear H7 hgb hga hgl
  refine (lv_c _ _).mono ?_
  rintro r w8 ⟨rfl, h⟩
  have I8 : Hid (Below W8.heap.size W8 w8) := h
  clear h
  go_wp2_with (go_at_call 10; fail)
  refine (lv_c _ _).mono ?_
  rintro r w9 ⟨rfl, h⟩
  have I9 : Hid (Below W8.heap.size W8 w9) := up2n I8 h
  clear h I8
  go_wp2_with (go_at_call 9; fail)
  refine (lapp_c _ _ _ _).mono ?_
  rintro r w10 ⟨rfl, h⟩
  have I10 : Hid (Below W8.heap.size W8 w10) := up2n (up2n I9 (below1 _ _)) h
  have K10 : Hid (Blk w10 w9.heap.size #[.int .i64 1, .string xB7, .int .i64 0, .slice none 0 0, .slice none 0 0, .slice none 0 0, .slice none 0 0, .int .i64 1, .string yB7, .int .i64 0, .slice none 0 0, .slice none 0 0, .slice none 0 0, .slice none 0 0] 31) := (Blk.new w9 _ _).below h
  clear h I9
  go_wp2_with (go_at_call 13; fail)
  refine (llam_c _ _ _ _ _ _ _ _ _ _ _ _ _ _ _ _ _ _ _).mono ?_
  rintro r w11 ⟨M, rfl, -, hM, h⟩
  have I11 : Hid (Below W8.heap.size W8 w11) := up2n (up2n I10 (below1 _ _)) h
  have HL11 : Hid (ExVal w11 w11.heap.size 2 (laT yB7 xB7 yB7) (.agg #[.int .i64 5, .string ⟨#[]⟩, .int .i64 0, .slice (some ⟨w10.heap.size, 0, none⟩) 1 1, .slice none 0 0, .slice (some ⟨M, 0, none⟩) 1 1, .slice none 0 0])) := la_val ((Blk.new w10 _ _).below h) hM ((K10.out.below (below1 w10 _)).below h)
  clear h hM I10 K10
  go_wp2_with (go_at_call 10; fail)
  refine (lv_c _ _).mono ?_
  rintro r w12 ⟨rfl, h⟩
  have I12 : Hid (Below W8.heap.size W8 w12) := up2n I11 h
  have HL12 : Hid (Calls Tryz.prog 12 #[.agg #[.int .i64 5, .string ⟨#[]⟩, .int .i64 0, .slice (some ⟨w10.heap.size, 0, none⟩) 1 1, .slice none 0 0, .slice (some ⟨M, 0, none⟩) 1 1, .slice none 0 0], .string xB7, .agg #[.int .i64 1, .string yB7, .int .i64 0, .slice none 0 0, .slice none 0 0, .slice none 0 0, .slice none 0 0]] w12 fun r w' => ∃ v, r = .returned v ∧ SubEx w' v ∧ Below w12.heap.size w12 w') := substEx_c _ _ w12 (HL11.out.grow h) (var_val yB7 w12) (HG.out.below (H8.out.1.trans (I12.out.mono H8.out.1.size)))
  clear h I11 HL11
  go_wp2_with (go_at_call 12; fail)
  refine HL12.out.mono ?_
  rintro r w13 ⟨v, rfl, hsv, h⟩
  obtain ⟨sk, ss, sm, so3, sn3, sc3, so4, sn4, sc4, so5, sn5, sc5, so6, sn6, sc6, rfl⟩ := hsv.shape
  have I13 : Hid (Below W8.heap.size W8 w13) := up2n I12 h
  have HSV : Hid (SubEx w13 (.agg #[.int .i64 sk, .string ss, .int .i64 sm, .slice so3 sn3 sc3, .slice so4 sn4 sc4, .slice so5 sn5 sc5, .slice so6 sn6 sc6])) := hsv
  clear h hsv HL12 I12
  go_wp2_with (go_at_call 11; fail)
  obtain ⟨gs, hgs⟩ : ∃ g, w13.heap.size = g := ⟨_, rfl⟩
  have H14 : Hid (Below W8.heap.size W8 (w13.alloc (.cells #[.int .i64 sk, .string ss, .int .i64 sm, .slice so3 sn3 sc3, .slice so4 sn4 sc4, .slice so5 sn5 sc5, .slice so6 sn6 sc6] 31)) ∧ Blk (w13.alloc (.cells #[.int .i64 sk, .string ss, .int .i64 sm, .slice so3 sn3 sc3, .slice so4 sn4 sc4, .slice so5 sn5 sc5, .slice so6 sn6 sc6] 31)) gs #[.int .i64 sk, .string ss, .int .i64 sm, .slice so3 sn3 sc3, .slice so4 sn4 sc4, .slice so5 sn5 sc5, .slice so6 sn6 sc6] 31 ∧ SubEx (w13.alloc (.cells #[.int .i64 sk, .string ss, .int .i64 sm, .slice so3 sn3 sc3, .slice so4 sn4 sc4, .slice so5 sn5 sc5, .slice so6 sn6 sc6] 31)) (.agg #[.int .i64 sk, .string ss, .int .i64 sm, .slice so3 sn3 sc3, .slice so4 sn4 sc4, .slice so5 sn5 sc5, .slice so6 sn6 sc6])) := by
    have k := Blk.new w13 #[.int .i64 sk, .string ss, .int .i64 sm, .slice so3 sn3 sc3, .slice so4 sn4 sc4, .slice so5 sn5 sc5, .slice so6 sn6 sc6] 31
    rw [hgs] at k
    exact ⟨up2n I13 (below1 _ _), k, HSV.out.grow (below1 _ _)⟩
  rw [hgs]
  generalize w13.alloc _ = W14 at H14 ⊢
  clear I13 HSV hgs
  refine (lnum_c _ _).mono ?_
  rintro r w14 ⟨rfl, h⟩
  have I14 : Hid (Below W14.heap.size W14 w14) := h
  clear h
  go_wp2_with (go_at_call 11; fail)
  refine (lnum_c _ _).mono ?_
  rintro r w15 ⟨rfl, h⟩
  have I15 : Hid (Below W14.heap.size W14 w15) := up2n (up2n I14 (below1 _ _)) h
  have K15 : Hid (Blk w15 w14.heap.size #[.int .i64 2, .string ⟨#[]⟩, .int .i64 1, .slice none 0 0, .slice none 0 0, .slice none 0 0, .slice none 0 0] 31) := (Blk.new w14 _ _).below h
  clear h I14
  go_wp2_with (go_at_call 11; fail)
  refine (lnum_c _ _).mono ?_
  rintro r w16 ⟨rfl, h⟩
  have I16 : Hid (Below W14.heap.size W14 w16) := up2n I15 h
  have K16 : Hid (Blk w16 w14.heap.size #[.int .i64 2, .string ⟨#[]⟩, .int .i64 1, .slice none 0 0, .slice none 0 0, .slice none 0 0, .slice none 0 0] 31) := K15.out.below h
  clear h I15 K15
  go_upto_region 6 with fail
  obtain ⟨tg, htg⟩ : ∃ g, w14.heap.size = g := ⟨_, rfl⟩
  obtain ⟨ta, hta⟩ : ∃ g, w16.heap.size = g := ⟨_, rfl⟩
  obtain ⟨gt, hgt⟩ : ∃ g, w16.heap.size + 1 = g := ⟨_, rfl⟩
  have HV : Hid (Below w.heap.size w ((w16.alloc (.cells #[.int .i64 2, .string ⟨#[]⟩, .int .i64 1, .slice none 0 0, .int .i64 2, .string ⟨#[]⟩, .int .i64 1, .slice none 0 0, .slice none 0 0, .slice none 0 0, .slice none 0 0, .int .i64 2, .string ⟨#[]⟩, .int .i64 1, .slice none 0 0, .int .i64 2, .string ⟨#[]⟩, .int .i64 2, .slice none 0 0, .slice none 0 0, .slice none 0 0, .slice none 0 0] 40)).alloc (.cells #[.int .i64 8, .string ⟨#[]⟩, .int .i64 0, .slice none 0 0, .slice none 0 0, .slice (some ⟨tg, 0, none⟩) 1 1, .slice (some ⟨ta, 0, none⟩) 2 2] 31)) ∧ Nm ((w16.alloc (.cells #[.int .i64 2, .string ⟨#[]⟩, .int .i64 1, .slice none 0 0, .int .i64 2, .string ⟨#[]⟩, .int .i64 1, .slice none 0 0, .slice none 0 0, .slice none 0 0, .slice none 0 0, .int .i64 2, .string ⟨#[]⟩, .int .i64 1, .slice none 0 0, .int .i64 2, .string ⟨#[]⟩, .int .i64 2, .slice none 0 0, .slice none 0 0, .slice none 0 0, .slice none 0 0] 40)).alloc (.cells #[.int .i64 8, .string ⟨#[]⟩, .int .i64 0, .slice none 0 0, .slice none 0 0, .slice (some ⟨tg, 0, none⟩) 1 1, .slice (some ⟨ta, 0, none⟩) 2 2] 31)) gl gs gt gb ga tg ta sk ss sm so3 sn3 sc3 so4 sn4 sc4 so5 sn5 sc5 so6 sn6 sc6) := by
    have b1 := below1 w16 (.cells #[.int .i64 2, .string ⟨#[]⟩, .int .i64 1, .slice none 0 0, .int .i64 2, .string ⟨#[]⟩, .int .i64 1, .slice none 0 0, .slice none 0 0, .slice none 0 0, .slice none 0 0, .int .i64 2, .string ⟨#[]⟩, .int .i64 1, .slice none 0 0, .int .i64 2, .string ⟨#[]⟩, .int .i64 2, .slice none 0 0, .slice none 0 0, .slice none 0 0, .slice none 0 0] 40)
    have b2 := below1 (w16.alloc (.cells #[.int .i64 2, .string ⟨#[]⟩, .int .i64 1, .slice none 0 0, .int .i64 2, .string ⟨#[]⟩, .int .i64 1, .slice none 0 0, .slice none 0 0, .slice none 0 0, .slice none 0 0, .int .i64 2, .string ⟨#[]⟩, .int .i64 1, .slice none 0 0, .int .i64 2, .string ⟨#[]⟩, .int .i64 2, .slice none 0 0, .slice none 0 0, .slice none 0 0, .slice none 0 0] 40)) (.cells #[.int .i64 8, .string ⟨#[]⟩, .int .i64 0, .slice none 0 0, .slice none 0 0, .slice (some ⟨tg, 0, none⟩) 1 1, .slice (some ⟨ta, 0, none⟩) 2 2] 31)
    have b16 : Below W14.heap.size W14 ((w16.alloc (.cells #[.int .i64 2, .string ⟨#[]⟩, .int .i64 1, .slice none 0 0, .int .i64 2, .string ⟨#[]⟩, .int .i64 1, .slice none 0 0, .slice none 0 0, .slice none 0 0, .slice none 0 0, .int .i64 2, .string ⟨#[]⟩, .int .i64 1, .slice none 0 0, .int .i64 2, .string ⟨#[]⟩, .int .i64 2, .slice none 0 0, .slice none 0 0, .slice none 0 0, .slice none 0 0] 40)).alloc (.cells #[.int .i64 8, .string ⟨#[]⟩, .int .i64 0, .slice none 0 0, .slice none 0 0, .slice (some ⟨tg, 0, none⟩) 1 1, .slice (some ⟨ta, 0, none⟩) 2 2] 31)) := (up2n (up2n I16 b1) b2).out
    have b14 := (H14.out.1.trans (b16.mono H14.out.1.size))
    have e1 : (w16.alloc (.cells #[.int .i64 2, .string ⟨#[]⟩, .int .i64 1, .slice none 0 0, .int .i64 2, .string ⟨#[]⟩, .int .i64 1, .slice none 0 0, .slice none 0 0, .slice none 0 0, .slice none 0 0, .int .i64 2, .string ⟨#[]⟩, .int .i64 1, .slice none 0 0, .int .i64 2, .string ⟨#[]⟩, .int .i64 2, .slice none 0 0, .slice none 0 0, .slice none 0 0, .slice none 0 0] 40)).heap.size = w16.heap.size + 1 := Array.size_push _
    have k1 := Blk.new (w16.alloc (.cells #[.int .i64 2, .string ⟨#[]⟩, .int .i64 1, .slice none 0 0, .int .i64 2, .string ⟨#[]⟩, .int .i64 1, .slice none 0 0, .slice none 0 0, .slice none 0 0, .slice none 0 0, .int .i64 2, .string ⟨#[]⟩, .int .i64 1, .slice none 0 0, .int .i64 2, .string ⟨#[]⟩, .int .i64 2, .slice none 0 0, .slice none 0 0, .slice none 0 0, .slice none 0 0] 40)) #[.int .i64 8, .string ⟨#[]⟩, .int .i64 0, .slice none 0 0, .slice none 0 0, .slice (some ⟨tg, 0, none⟩) 1 1, .slice (some ⟨ta, 0, none⟩) 2 2] 31
    have k2 := (Blk.new w16 #[.int .i64 2, .string ⟨#[]⟩, .int .i64 1, .slice none 0 0, .int .i64 2, .string ⟨#[]⟩, .int .i64 1, .slice none 0 0, .slice none 0 0, .slice none 0 0, .slice none 0 0, .int .i64 2, .string ⟨#[]⟩, .int .i64 1, .slice none 0 0, .int .i64 2, .string ⟨#[]⟩, .int .i64 2, .slice none 0 0, .slice none 0 0, .slice none 0 0, .slice none 0 0] 40).below b2
    rw [e1, hgt] at k1
    rw [hta] at k2
    have k3 := (K16.out.below b1).below b2
    rw [htg] at k3
    exact ⟨H8.out.1.trans (b14.mono H8.out.1.size), ⟨H8.out.2.1.below b14, H14.out.2.1.below b16, k1, H8.out.2.2.grow b14, H14.out.2.2.grow b16, k3, k2⟩⟩
  rw [htg, hgt, hta]
  generalize (w16.alloc _).alloc _ = V at HV ⊢
  clear H8 H14 I16 K16 htg hgt hta
  refine regA V gl gs gt gb ga tg ta sk ss sm so3 sn3 sc3 so4 sn4 sc4 so5 sn5 sc5 so6 sn6 sc6 _ _ _ _ _ _ _ _ _ _ _ _ _ _ _ _ _ _ _ _ _ _ _ _ _ _ _ _ _ _ _ _ _ _ _ _ _ _ _ _ _ _ _ _ _ _ _ _ _ _ _ (fun c a d v w h => h) ?_ _ (by kernel_rfl) HV.out.2
  intro b4 b5 b6 b7 b8 b9 b10 b11 b12 b13 b14 b15 b16 b17 b18 b19 b20 b21 b22 b23 b24 b25 b26 b27 b28 b29 b30 b31 b32 b33 b34 b35 b36 b37 b38 b39 b40 b41 b42 b43 b44 b45 b46 b47 b48 b49 b50 b51 b52 b53 b54 b55 b56 b57 b58 b59 b60 b61 b62 b63 b64 b65 b66 b67 b68 b69 b70 b71 b72 b73 b74 b75 b76 b77 b78 b79 b80 b81 b82 b83 b84 b85 b86 b87 b88 b89 b90 b91 b92 b93 b94 b95 b96 b97 b98 b99 b100 b101 b102 b103 b104 b105 b106 b107 b108 X hX
  have HX : Hid (Below w.heap.size w X) := HV.out.1.trans (hX.out.mono HV.out.1.size)
  clear hX HV
  go_wp2
  go_ret
  exact ⟨rfl, HX.out⟩
end Go.Proofs.YtegdloenakachaaGreatDoor
