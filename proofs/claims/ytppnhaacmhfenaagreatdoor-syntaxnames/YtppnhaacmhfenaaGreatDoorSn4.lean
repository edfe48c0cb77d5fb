/-
  The law on the chapter's examples.
-/
import Derived.Test.YtppnhaacmhfenaaGreatDoorSnA
import Derived.Deep.CutRange
namespace Go.Proofs.YtppnhaacmhfenaaGreatDoor
open Go.RowKit Go.Shelf Go.Maps
set_option linter.unusedVariables false

theorem rN1 {WX wa wb : World} (Ba : Hid (Below WX.heap.size WX wa)) (Bb : Hid (Below wa.heap.size wa wb)) (Gb : Hid (Blk wb wa.heap.size #[.int .i64 11, .string ⟨#[120]⟩, .int .i64 0, .slice none 0 0, .int .i64 0] 25)) : Hid (RegR WX ((wb.alloc (.cells #[.int .i64 34, .string ⟨#[120]⟩, .int .i64 0, .slice none 0 0, .int .i64 0, .int .i64 8, .string ⟨#[]⟩, .int .i64 0, .slice (some ⟨wa.heap.size, 0, none⟩) 1 1, .int .i64 0] 25)).alloc (.cells #[.int .i64 6, .string ⟨#[102]⟩, .int .i64 0, .slice (some ⟨wb.heap.size, 0, none⟩) 2 2, .int .i64 0] 25)) (wb.heap.size + 1)) := reg_new Ba.out Bb.out Gb.out
theorem rN2 {WX wa wb : World} (Ba : Hid (Below WX.heap.size WX wa)) (Bb : Hid (Below wa.heap.size wa wb)) (Gb : Hid (Blk wb wa.heap.size #[.int .i64 11, .string ⟨#[120]⟩, .int .i64 0, .slice none 0 0, .int .i64 0] 25)) : Hid (RegR WX ((wb.alloc (.cells #[.int .i64 6, .string ⟨#[102]⟩, .int .i64 0, .slice (some ⟨wb.heap.size + 1, 0, none⟩) 2 2, .int .i64 0] 25)).alloc (.cells #[.int .i64 34, .string ⟨#[120]⟩, .int .i64 0, .slice none 0 0, .int .i64 0, .int .i64 8, .string ⟨#[]⟩, .int .i64 0, .slice (some ⟨wa.heap.size, 0, none⟩) 1 1, .int .i64 0] 25)) wb.heap.size) := reg_new2 Ba.out Bb.out Gb.out
theorem rA {WX wa wb : World} (Ba : Hid (Below WX.heap.size WX wa)) (Bb : Hid (Below wa.heap.size wa wb)) (Gb : Hid (Blk wb (wa.heap.size) #[.int .i64 11, .string ⟨#[120]⟩, .int .i64 0, .slice none 0 0, .int .i64 0] 25)) (Zb : Hid (Blk wb (wa.heap.size + 1) #[.int .i64 0, .string ⟨#[]⟩, .int .i64 0, .slice none 0 0, .int .i64 0] 25)) : Hid (RegR WX ((((((wb.setCell ⟨wa.heap.size + 1, 0, none⟩ (.int .i64 6)).setCell ⟨wa.heap.size + 1, 1, none⟩ (.string ⟨#[102]⟩)).setCell ⟨wa.heap.size + 1, 2, none⟩ (.int .i64 0)).setCell ⟨wa.heap.size + 1, 3, none⟩ (.slice (some ⟨wb.heap.size, 0, none⟩) 2 2)).setCell ⟨wa.heap.size + 1, 4, none⟩ (.int .i64 0)).alloc (.cells #[.int .i64 34, .string ⟨#[120]⟩, .int .i64 0, .slice none 0 0, .int .i64 0, .int .i64 8, .string ⟨#[]⟩, .int .i64 0, .slice (some ⟨wa.heap.size, 0, none⟩) 1 1, .int .i64 0] 25)) (wa.heap.size + 1)) := reg_old Ba.out Bb.out Gb.out Zb.out (by omega) (by have := Ba.out.size; omega)
theorem rB {WX wa wb : World} (Ba : Hid (Below WX.heap.size WX wa)) (Bb : Hid (Below wa.heap.size wa wb)) (Gb : Hid (Blk wb (wa.heap.size + 1) #[.int .i64 11, .string ⟨#[120]⟩, .int .i64 0, .slice none 0 0, .int .i64 0] 25)) (Zb : Hid (Blk wb (wa.heap.size) #[.int .i64 0, .string ⟨#[]⟩, .int .i64 0, .slice none 0 0, .int .i64 0] 25)) : Hid (RegR WX ((((((wb.setCell ⟨wa.heap.size, 0, none⟩ (.int .i64 6)).setCell ⟨wa.heap.size, 1, none⟩ (.string ⟨#[102]⟩)).setCell ⟨wa.heap.size, 2, none⟩ (.int .i64 0)).setCell ⟨wa.heap.size, 3, none⟩ (.slice (some ⟨wb.heap.size, 0, none⟩) 2 2)).setCell ⟨wa.heap.size, 4, none⟩ (.int .i64 0)).alloc (.cells #[.int .i64 34, .string ⟨#[120]⟩, .int .i64 0, .slice none 0 0, .int .i64 0, .int .i64 8, .string ⟨#[]⟩, .int .i64 0, .slice (some ⟨wa.heap.size + 1, 0, none⟩) 1 1, .int .i64 0] 25)) (wa.heap.size)) := reg_old Ba.out Bb.out Gb.out Zb.out (by omega) (by have := Ba.out.size; omega)
theorem rC {WX wa wb : World} (Ba : Hid (Below WX.heap.size WX wa)) (Bb : Hid (Below wa.heap.size wa wb)) (Gb : Hid (Blk wb (wa.heap.size) #[.int .i64 11, .string ⟨#[120]⟩, .int .i64 0, .slice none 0 0, .int .i64 0] 25)) (Zb : Hid (Blk wb (WX.heap.size) #[.int .i64 0, .string ⟨#[]⟩, .int .i64 0, .slice none 0 0, .int .i64 0] 25)) (Za : Hid (Blk wa WX.heap.size #[.int .i64 0, .string ⟨#[]⟩, .int .i64 0, .slice none 0 0, .int .i64 0] 25)) : Hid (RegR WX ((((((wb.setCell ⟨WX.heap.size, 0, none⟩ (.int .i64 6)).setCell ⟨WX.heap.size, 1, none⟩ (.string ⟨#[102]⟩)).setCell ⟨WX.heap.size, 2, none⟩ (.int .i64 0)).setCell ⟨WX.heap.size, 3, none⟩ (.slice (some ⟨wb.heap.size, 0, none⟩) 2 2)).setCell ⟨WX.heap.size, 4, none⟩ (.int .i64 0)).alloc (.cells #[.int .i64 34, .string ⟨#[120]⟩, .int .i64 0, .slice none 0 0, .int .i64 0, .int .i64 8, .string ⟨#[]⟩, .int .i64 0, .slice (some ⟨wa.heap.size, 0, none⟩) 1 1, .int .i64 0] 25)) (WX.heap.size)) := reg_old Ba.out Bb.out Gb.out Zb.out (by have := Za.out.lt; omega) (by exact Nat.le_refl _)

set_option maxRecDepth 100000 in
set_option maxHeartbeats 8000000 in
theorem names4_c (w : World) (hG : GOK w) : Calls Tryz.prog 3 #[] w fun e W' => e = .returned (.bool true) ∧ Below w.heap.size w W' := by
  have HG : Hid (GOK w) := hG
  have HLv : Hid (Calls Tryz.prog 8 #[] w fun e W' => e = .returned (.bool true) ∧ Below w.heap.size w W') := lives4_c w hG
  have HV : Hid (∀ (s : ByteArray) (X : World), Calls Tryz.prog 10 #[.string s] X fun e w' => e = .returned (.agg #[.int .i64 11, .string s, .int .i64 0, .slice none 0 0, .int .i64 0]) ∧ Below X.heap.size X w') := vv_c
  have HN : Hid (∀ (n : Int) (X : World), Calls Tryz.prog 11 #[.int .i64 n] X fun e w' => e = .returned (.agg #[.int .i64 13, .string ⟨#[]⟩, .int .i64 n, .slice none 0 0, .int .i64 0]) ∧ Below X.heap.size X w') := num_c
  have HO : Hid (∀ (k : Int) (o : Option Addr) (l cap : Nat) (X : World), Calls Tryz.prog 9 #[.int .i64 k, .slice o l cap] X fun e w' => e = .returned (.agg #[.int .i64 k, .string ⟨#[]⟩, .int .i64 0, .slice o l cap, .int .i64 0]) ∧ Below X.heap.size X w') := of_c
  clear hG
  go_enter Tryz.func3, Tryz.ntmps3
  go_wp2_with (go_at_call 8; fail)
  refine HLv.out.mono ?_
  rintro e w1 ⟨rfl, hb1⟩
  have B1 : Hid (Below w.heap.size w w1) := hb1
  clear hb1
  obtain ⟨WX, hWX⟩ : ∃ WX, w1.alloc (.cells #[.int .i64 34, .string ⟨#[120]⟩, .int .i64 0, .slice none 0 0, .int .i64 0] 25) = WX := ⟨_, rfl⟩
  have BX : Hid (Below w.heap.size w WX) := by show Below _ _ _; rw [← hWX]; exact B1.out.alloc B1.out.size _
  have KX : Hid (Blk WX w1.heap.size #[.int .i64 34, .string ⟨#[120]⟩, .int .i64 0, .slice none 0 0, .int .i64 0] 25) := by show Blk _ _ _ _; rw [← hWX]; exact Blk.new _ _ _
  have HX : Hid (w1.alloc (.cells #[.int .i64 34, .string ⟨#[120]⟩, .int .i64 0, .slice none 0 0, .int .i64 0] 25) = WX) := hWX
  clear hWX
  go_upto_region 4 with fail
  rw [HX.out]
  go_cut [2] from 19 to 24 (fun s2 wx => ∃ gE : Nat, s2 = .pointer (some ⟨gE, 0, none⟩) ∧ Hid (RegR WX wx gE))
  case first =>
    have x0 := KX.out.cell 0 _ rfl
    have x1 := KX.out.cell 1 _ rfl
    have x2 := KX.out.cell 2 _ rfl
    have x3 := KX.out.cell 3 _ rfl
    have x4 := KX.out.cell 4 _ rfl
    have hxl := KX.out.lt
    go_region_with (first
      | (go_at_call 10; refine (HV.out _ _).mono ?_; rintro e wa ⟨rfl, hba⟩; have Ba : Hid (Below WX.heap.size WX wa) := (by first | exact ((Below.refl WX.heap.size WX).drew).trans hba | exact (((Below.refl WX.heap.size WX).drew).alloc (Nat.le_refl _) _).trans (hba.mono (by simp)) | exact (((Below.refl WX.heap.size WX).alloc (Nat.le_refl _) _).drew).trans (hba.mono (by simp))); have Ka : Hid (Blk wa w1.heap.size #[.int .i64 34, .string ⟨#[120]⟩, .int .i64 0, .slice none 0 0, .int .i64 0] 25) := KX.out.below Ba.out; have y0 := Ka.out.cell 0 _ rfl; have y1 := Ka.out.cell 1 _ rfl; have y2 := Ka.out.cell 2 _ rfl; have y3 := Ka.out.cell 3 _ rfl; have y4 := Ka.out.cell 4 _ rfl; have hyl := Ka.out.lt; clear x0 x1 x2 x3 x4 hxl; try (have Za : Hid (Blk wa WX.heap.size #[.int .i64 0, .string ⟨#[]⟩, .int .i64 0, .slice none 0 0, .int .i64 0] 25) := (by first | exact (Blk.new WX.drew _ _).below hba | exact Blk.below (show Blk ((WX.alloc (.cells #[.int .i64 0, .string ⟨#[]⟩, .int .i64 0, .slice none 0 0, .int .i64 0] 25)).drew) WX.heap.size #[.int .i64 0, .string ⟨#[]⟩, .int .i64 0, .slice none 0 0, .int .i64 0] 25 from Blk.new WX _ _) hba); have za := Za.out.cells5; obtain ⟨za0, za1, za2, za3, za4, zf0, zf1, zf2, zf3, zf4⟩ := za; have zl := Za.out.lt); clear hba)
      | (go_at_call 9; refine (HO.out _ _ _ _ _).mono ?_; rintro e wb ⟨rfl, hbb⟩; have Bb : Hid (Below wa.heap.size wa wb) := (by first | exact ((Below.refl wa.heap.size wa).alloc (Nat.le_refl _) _).trans (hbb.mono (by simp)) | exact ((((Below.refl wa.heap.size wa).alloc (Nat.le_refl _) _)).alloc (by simp) _).trans (hbb.mono (by simp; omega))); have Kb : Hid (Blk wb w1.heap.size #[.int .i64 34, .string ⟨#[120]⟩, .int .i64 0, .slice none 0 0, .int .i64 0] 25) := Ka.out.below Bb.out; have s0 := Kb.out.cell 0 _ rfl; have s1 := Kb.out.cell 1 _ rfl; have s2 := Kb.out.cell 2 _ rfl; have s3 := Kb.out.cell 3 _ rfl; have s4 := Kb.out.cell 4 _ rfl; have hsl := Kb.out.lt; (first | (have Gb : Hid (Blk wb wa.heap.size #[.int .i64 11, .string ⟨#[120]⟩, .int .i64 0, .slice none 0 0, .int .i64 0] 25) := (Blk.new wa _ _).below hbb) | (have Gb : Hid (Blk wb (wa.heap.size + 1) #[.int .i64 11, .string ⟨#[120]⟩, .int .i64 0, .slice none 0 0, .int .i64 0] 25) := (Blk.new2 wa _ _ _).below hbb) | (have Gb : Hid (Blk wb wa.heap.size #[.int .i64 11, .string ⟨#[120]⟩, .int .i64 0, .slice none 0 0, .int .i64 0] 25) := ((Blk.new wa _ _).below ((Below.refl _ _).alloc (Nat.le_refl _) _)).below hbb)); (first | (have Zb : Hid (Blk wb WX.heap.size #[.int .i64 0, .string ⟨#[]⟩, .int .i64 0, .slice none 0 0, .int .i64 0] 25) := Za.out.below Bb.out; obtain ⟨zb0, zb1, zb2, zb3, zb4, zg0, zg1, zg2, zg3, zg4⟩ := Zb.out.cells5; have zbl := Zb.out.lt) | (have Zb : Hid (Blk wb wa.heap.size #[.int .i64 0, .string ⟨#[]⟩, .int .i64 0, .slice none 0 0, .int .i64 0] 25) := ((Blk.new wa _ _).below ((Below.refl _ _).alloc (Nat.le_refl _) _)).below hbb; obtain ⟨zb0, zb1, zb2, zb3, zb4, zg0, zg1, zg2, zg3, zg4⟩ := Zb.out.cells5; have zbl := Zb.out.lt) | (have Zb : Hid (Blk wb (wa.heap.size + 1) #[.int .i64 0, .string ⟨#[]⟩, .int .i64 0, .slice none 0 0, .int .i64 0] 25) := (Blk.new2 wa _ _ _).below hbb; obtain ⟨zb0, zb1, zb2, zb3, zb4, zg0, zg1, zg2, zg3, zg4⟩ := Zb.out.cells5; have zbl := Zb.out.lt) | (obtain ⟨n0, n1, n2, n3, n4, m0, m1, m2, m3, m4⟩ := (Blk.new2 wb (.cells #[.int .i64 34, .string ⟨#[120]⟩, .int .i64 0, .slice none 0 0, .int .i64 0, .int .i64 8, .string ⟨#[]⟩, .int .i64 0, .slice (some ⟨wa.heap.size, 0, none⟩) 1 1, .int .i64 0] 25) #[.int .i64 0, .string ⟨#[]⟩, .int .i64 0, .slice none 0 0, .int .i64 0] 25).cells5; obtain ⟨p0, p1, p2, p3, p4, q0, q1, q2, q3, q4⟩ := ((Blk.new wb #[.int .i64 0, .string ⟨#[]⟩, .int .i64 0, .slice none 0 0, .int .i64 0] 25).below ((Below.refl _ _).alloc (Nat.le_refl _) (.cells #[.int .i64 34, .string ⟨#[120]⟩, .int .i64 0, .slice none 0 0, .int .i64 0, .int .i64 8, .string ⟨#[]⟩, .int .i64 0, .slice (some ⟨wa.heap.size, 0, none⟩) 1 1, .int .i64 0] 25))).cells5)); clear hbb))
    all_goals (rename_i J K2 hJ hK; refine hK _ _ (Met.intro (hJ _ _ ⟨_, _, _, _, _, _, _, ⟨_, rfl, ?_⟩, rfl⟩)); first | with_reducible exact rN1 Ba Bb Gb | with_reducible exact rN2 Ba Bb Gb | with_reducible exact rA Ba Bb Gb Zb | with_reducible exact rB Ba Bb Gb Zb | with_reducible exact rC Ba Bb Gb Zb Za)
  case rest =>
  obtain ⟨gE, rfl, hR⟩ := hcut
  obtain ⟨g2, g1, rB, rE, r2, r1⟩ := hR.out
  have Bwc : Hid (Below w.heap.size w wc) := BX.out.trans (rB.mono BX.out.size)
  have HXc : Hid (Blk wc w1.heap.size #[.int .i64 34, .string ⟨#[120]⟩, .int .i64 0, .slice none 0 0, .int .i64 0] 25) := KX.out.below rB
  have HEc : Hid (Blk wc gE #[.int .i64 6, .string ⟨#[102]⟩, .int .i64 0, .slice (some ⟨g2, 0, none⟩) 2 2, .int .i64 0] 25) := rE
  have H2c : Hid (Blk wc g2 #[.int .i64 34, .string ⟨#[120]⟩, .int .i64 0, .slice none 0 0, .int .i64 0, .int .i64 8, .string ⟨#[]⟩, .int .i64 0, .slice (some ⟨g1, 0, none⟩) 1 1, .int .i64 0] 25) := r2
  have H1c : Hid (Blk wc g1 #[.int .i64 11, .string ⟨#[120]⟩, .int .i64 0, .slice none 0 0, .int .i64 0] 25) := r1
  have Cwc : Hid (Below wc.heap.size wc wc) := Below.refl _ _
  have HGc : Hid (∀ X, Below wc.heap.size wc X → GOK X) := fun X hX => HG.out.below (Bwc.out.trans (hX.mono Bwc.out.size))
  clear hR rB rE r2 r1
  go_wp2_with (go_at_call 10; fail)
  skip
  refine (HV.out _ _).mono ?_
  rintro e wd1 ⟨rfl, hbwd1⟩
  have Dwd1 : Hid (Below wc.heap.size wc wd1) := hbwd1
  have Cwd1 : Hid (Below wc.heap.size wc wd1) := Cwc.out.trans (hbwd1.mono Cwc.out.size)
  clear hbwd1
  go_wp2_with (go_at_call 11; fail)
  skip
  refine (HN.out _ _).mono ?_
  rintro e wd2 ⟨rfl, hbwd2⟩
  have Dwd2 : Hid (Below wd1.heap.size wd1 wd2) := hbwd2
  have Cwd2 : Hid (Below wc.heap.size wc wd2) := Cwd1.out.trans (hbwd2.mono Cwd1.out.size)
  clear hbwd2
  obtain ⟨W3, hW3⟩ : ∃ W, wd2.alloc (.cells #[.int .i64 11, .string ⟨#[120]⟩, .int .i64 0, .slice none 0 0, .int .i64 0, .int .i64 5, .string ⟨#[43]⟩, .int .i64 0, .slice none 0 0, .int .i64 0, .int .i64 13, .string ⟨#[]⟩, .int .i64 1, .slice none 0 0, .int .i64 0] 25) = W := ⟨_, rfl⟩
  have AW3 : Hid (Below wd2.heap.size wd2 W3) := by show Below _ _ _; rw [← hW3]; exact (Below.refl _ _).alloc (Nat.le_refl _) _
  have KW3 : Hid (Blk W3 wd2.heap.size #[.int .i64 11, .string ⟨#[120]⟩, .int .i64 0, .slice none 0 0, .int .i64 0, .int .i64 5, .string ⟨#[43]⟩, .int .i64 0, .slice none 0 0, .int .i64 0, .int .i64 13, .string ⟨#[]⟩, .int .i64 1, .slice none 0 0, .int .i64 0] 25) := by show Blk _ _ _ _; rw [← hW3]; exact Blk.new _ _ _
  have HW3 : Hid (wd2.alloc (.cells #[.int .i64 11, .string ⟨#[120]⟩, .int .i64 0, .slice none 0 0, .int .i64 0, .int .i64 5, .string ⟨#[43]⟩, .int .i64 0, .slice none 0 0, .int .i64 0, .int .i64 13, .string ⟨#[]⟩, .int .i64 1, .slice none 0 0, .int .i64 0] 25) = W3) := hW3
  have CW3 : Hid (Below wc.heap.size wc W3) := Cwd2.out.trans (AW3.out.mono Cwd2.out.size)
  clear hW3
  go_wp2_with (go_at_call 9; fail)
  rw [HW3.out]
  refine (HO.out _ _ _ _ _).mono ?_
  rintro e wd4 ⟨rfl, hbwd4⟩
  have Dwd4 : Hid (Below W3.heap.size W3 wd4) := hbwd4
  have Cwd4 : Hid (Below wc.heap.size wc wd4) := CW3.out.trans (hbwd4.mono CW3.out.size)
  clear hbwd4
  have K3 : Hid (Blk wd4 wd2.heap.size #[.int .i64 11, .string ⟨#[120]⟩, .int .i64 0, .slice none 0 0, .int .i64 0, .int .i64 5, .string ⟨#[43]⟩, .int .i64 0, .slice none 0 0, .int .i64 0, .int .i64 13, .string ⟨#[]⟩, .int .i64 1, .slice none 0 0, .int .i64 0] 25) := KW3.out.below Dwd4.out
  obtain ⟨W5, hW5⟩ : ∃ W, wd4.alloc (.cells #[.int .i64 17, .string ⟨#[]⟩, .int .i64 0, .slice (some ⟨wd2.heap.size, 0, none⟩) 3 3, .int .i64 0] 25) = W := ⟨_, rfl⟩
  have AW5 : Hid (Below wd4.heap.size wd4 W5) := by show Below _ _ _; rw [← hW5]; exact (Below.refl _ _).alloc (Nat.le_refl _) _
  have KW5 : Hid (Blk W5 wd4.heap.size #[.int .i64 17, .string ⟨#[]⟩, .int .i64 0, .slice (some ⟨wd2.heap.size, 0, none⟩) 3 3, .int .i64 0] 25) := by show Blk _ _ _ _; rw [← hW5]; exact Blk.new _ _ _
  have HW5 : Hid (wd4.alloc (.cells #[.int .i64 17, .string ⟨#[]⟩, .int .i64 0, .slice (some ⟨wd2.heap.size, 0, none⟩) 3 3, .int .i64 0] 25) = W5) := hW5
  have CW5 : Hid (Below wc.heap.size wc W5) := Cwd4.out.trans (AW5.out.mono Cwd4.out.size)
  clear hW5
  have eE := HEc.out.below CW5.out
  have e0 := eE.cell 0 _ rfl
  have e1 := eE.cell 1 _ rfl
  have e2 := eE.cell 2 _ rfl
  have e3 := eE.cell 3 _ rfl
  have e4 := eE.cell 4 _ rfl
  have hel := eE.lt
  clear eE
  obtain ⟨W6, hW6⟩ : ∃ W, W5.alloc (.cells #[.int .i64 6, .string ⟨#[102]⟩, .int .i64 0, .slice (some ⟨g2, 0, none⟩) 2 2, .int .i64 0] 25) = W := ⟨_, rfl⟩
  have AW6 : Hid (Below W5.heap.size W5 W6) := by show Below _ _ _; rw [← hW6]; exact (Below.refl _ _).alloc (Nat.le_refl _) _
  have KW6 : Hid (Blk W6 W5.heap.size #[.int .i64 6, .string ⟨#[102]⟩, .int .i64 0, .slice (some ⟨g2, 0, none⟩) 2 2, .int .i64 0] 25) := by show Blk _ _ _ _; rw [← hW6]; exact Blk.new _ _ _
  have HW6 : Hid (W5.alloc (.cells #[.int .i64 6, .string ⟨#[102]⟩, .int .i64 0, .slice (some ⟨g2, 0, none⟩) 2 2, .int .i64 0] 25) = W6) := hW6
  have CW6 : Hid (Below wc.heap.size wc W6) := CW5.out.trans (AW6.out.mono CW5.out.size)
  clear hW6
  go_upto_region 6 with (first | (go_at_call 10; fail) | (go_at_call 9; fail))
  rw [HW5.out]
  go_wp2_with (go_at_call 9; fail)
  rw [HW6.out]
  refine (HO.out _ _ _ _ _).mono ?_
  rintro e we6 ⟨rfl, hbwe6⟩
  have Dwe6 : Hid (Below W6.heap.size W6 we6) := hbwe6
  have Cwe6 : Hid (Below wc.heap.size wc we6) := CW6.out.trans (hbwe6.mono CW6.out.size)
  clear hbwe6
  clear e0 e1 e2 e3 e4 hel
  have HT1 : Hid (Calls Tryz.prog 12 #[.agg #[.int .i64 1, .string ⟨#[]⟩, .int .i64 0, .slice (some ⟨W5.heap.size, 0, none⟩) 1 1, .int .i64 0], .string ⟨#[123, 32, 102, 32, 120, 32, 61, 32, 120, 32, 59, 32, 125]⟩] we6 fun e W' => e = .returned (.bool true) ∧ Below we6.heap.size we6 W') := by
    have k4 := KW6.out.below Dwe6.out
    have k2 := H2c.out.below Cwe6.out
    have k1 := H1c.out.below Cwe6.out
    have iR : NdIn we6 we6.heap.size exR (some ⟨g1, 0, none⟩) 1 := in_1 exR (a := ndVar [120]) rfl (by unfold WfN; decide) (in_leaf _ rfl (by unfold WfN; decide)) k1.lt k1
    have iE : NdIn we6 we6.heap.size exE (some ⟨g2, 0, none⟩) 2 := in_2 exE (a := ndPVar [120]) (b := exR) rfl (by unfold WfN; decide) (in_leaf _ rfl (by unfold WfN; decide)) iR k2.lt k2
    have iP : NdIn we6 we6.heap.size exP (some ⟨W5.heap.size, 0, none⟩) 1 := in_1 exP (a := exE) rfl (by unfold WfN; decide) iE k4.lt k4
    exact told_c exP _ 1 we6 iP (HGc.out _ Cwe6.out) exP_chk outP cntP bP (fun _ _ _ => tellP) [123, 32, 102, 32, 120, 32, 61, 32, 120, 32, 59, 32, 125] jnP_ex
  go_wp2_with (go_at_call 12; fail)
  skip
  refine (HT1.out).mono ?_
  rintro e we7 ⟨rfl, hbwe7⟩
  have Dwe7 : Hid (Below we6.heap.size we6 we7) := hbwe7
  have Cwe7 : Hid (Below wc.heap.size wc we7) := Cwe6.out.trans (hbwe7.mono Cwe6.out.size)
  clear hbwe7
  have K5s : Hid (Blk we7 wd4.heap.size #[.int .i64 17, .string ⟨#[]⟩, .int .i64 0, .slice (some ⟨wd2.heap.size, 0, none⟩) 3 3, .int .i64 0] 25) := ((KW5.out.below AW6.out).below Dwe6.out).below Dwe7.out
  have K3s : Hid (Blk we7 wd2.heap.size #[.int .i64 11, .string ⟨#[120]⟩, .int .i64 0, .slice none 0 0, .int .i64 0, .int .i64 5, .string ⟨#[43]⟩, .int .i64 0, .slice none 0 0, .int .i64 0, .int .i64 13, .string ⟨#[]⟩, .int .i64 1, .slice none 0 0, .int .i64 0] 25) := (((K3.out.below AW5.out).below AW6.out).below Dwe6.out).below Dwe7.out
  have eX := HXc.out.below Cwe7.out
  have x0 := eX.cell 0 _ rfl
  have x1 := eX.cell 1 _ rfl
  have x2 := eX.cell 2 _ rfl
  have x3 := eX.cell 3 _ rfl
  have x4 := eX.cell 4 _ rfl
  have hxl := eX.lt
  have y0 := K5s.out.cell 0 _ rfl
  have y1 := K5s.out.cell 1 _ rfl
  have y2 := K5s.out.cell 2 _ rfl
  have y3 := K5s.out.cell 3 _ rfl
  have y4 := K5s.out.cell 4 _ rfl
  have hyl := K5s.out.lt
  clear eX
  obtain ⟨W8, hW8⟩ : ∃ W, we7.alloc (.cells #[.int .i64 34, .string ⟨#[120]⟩, .int .i64 0, .slice none 0 0, .int .i64 0, .int .i64 17, .string ⟨#[]⟩, .int .i64 0, .slice (some ⟨wd2.heap.size, 0, none⟩) 3 3, .int .i64 0] 25) = W := ⟨_, rfl⟩
  have AW8 : Hid (Below we7.heap.size we7 W8) := by show Below _ _ _; rw [← hW8]; exact (Below.refl _ _).alloc (Nat.le_refl _) _
  have KW8 : Hid (Blk W8 we7.heap.size #[.int .i64 34, .string ⟨#[120]⟩, .int .i64 0, .slice none 0 0, .int .i64 0, .int .i64 17, .string ⟨#[]⟩, .int .i64 0, .slice (some ⟨wd2.heap.size, 0, none⟩) 3 3, .int .i64 0] 25) := by show Blk _ _ _ _; rw [← hW8]; exact Blk.new _ _ _
  have HW8 : Hid (we7.alloc (.cells #[.int .i64 34, .string ⟨#[120]⟩, .int .i64 0, .slice none 0 0, .int .i64 0, .int .i64 17, .string ⟨#[]⟩, .int .i64 0, .slice (some ⟨wd2.heap.size, 0, none⟩) 3 3, .int .i64 0] 25) = W8) := hW8
  have CW8 : Hid (Below wc.heap.size wc W8) := Cwe7.out.trans (AW8.out.mono Cwe7.out.size)
  clear hW8
  go_wp2_with (go_at_call 9; fail)
  rw [HW8.out]
  refine (HO.out _ _ _ _ _).mono ?_
  rintro e we9 ⟨rfl, hbwe9⟩
  have Dwe9 : Hid (Below W8.heap.size W8 we9) := hbwe9
  have Cwe9 : Hid (Below wc.heap.size wc we9) := CW8.out.trans (hbwe9.mono CW8.out.size)
  clear hbwe9
  clear x0 x1 x2 x3 x4 hxl y0 y1 y2 y3 y4 hyl
  have HT2 : Hid (Calls Tryz.prog 12 #[.agg #[.int .i64 19, .string ⟨#[]⟩, .int .i64 0, .slice (some ⟨we7.heap.size, 0, none⟩) 2 2, .int .i64 0], .string ⟨#[92, 32, 120, 32, 45, 62, 32, 120, 32, 43, 32, 49]⟩] we9 fun e W' => e = .returned (.bool true) ∧ Below we9.heap.size we9 W') := by
    have k8 := KW8.out.below Dwe9.out
    have k3 := (K3s.out.below AW8.out).below Dwe9.out
    have iS : NdIn we9 we9.heap.size exS (some ⟨wd2.heap.size, 0, none⟩) 3 := in_3 exS (a := ndVar [120]) (b := exO) (d := ndNum 1) rfl (by unfold WfN; decide) (in_leaf _ rfl (by unfold WfN; decide)) (in_leaf _ rfl (by unfold WfN; decide)) (in_leaf _ rfl (by unfold WfN; decide)) k3.lt k3
    have iL : NdIn we9 we9.heap.size exL (some ⟨we7.heap.size, 0, none⟩) 2 := in_2 exL (a := ndPVar [120]) (b := exS) rfl (by unfold WfN; decide) (in_leaf _ rfl (by unfold WfN; decide)) iS k8.lt k8
    exact told_c exL _ 2 we9 iL (HGc.out _ Cwe9.out) exL_chk outL cntL bL (fun _ _ _ => tellL) [92, 32, 120, 32, 45, 62, 32, 120, 32, 43, 32, 49] jnL_ex
  go_wp2_with (go_at_call 12; fail)
  skip
  refine (HT2.out).mono ?_
  rintro e we10 ⟨rfl, hbwe10⟩
  have Dwe10 : Hid (Below we9.heap.size we9 we10) := hbwe10
  have Cwe10 : Hid (Below wc.heap.size wc we10) := Cwe9.out.trans (hbwe10.mono Cwe9.out.size)
  clear hbwe10
  go_wp2_with (go_at_call 10; fail)
  skip
  refine (HV.out _ _).mono ?_
  rintro e we11 ⟨rfl, hbwe11⟩
  have Dwe11 : Hid (Below we10.heap.size we10 we11) := hbwe11
  have Cwe11 : Hid (Below wc.heap.size wc we11) := Cwe10.out.trans (hbwe11.mono Cwe10.out.size)
  clear hbwe11
  obtain ⟨W12, hW12⟩ : ∃ W, we11.alloc (.cells #[.int .i64 11, .string ⟨#[102]⟩, .int .i64 0, .slice none 0 0, .int .i64 0] 25) = W := ⟨_, rfl⟩
  have AW12 : Hid (Below we11.heap.size we11 W12) := by show Below _ _ _; rw [← hW12]; exact (Below.refl _ _).alloc (Nat.le_refl _) _
  have KW12 : Hid (Blk W12 we11.heap.size #[.int .i64 11, .string ⟨#[102]⟩, .int .i64 0, .slice none 0 0, .int .i64 0] 25) := by show Blk _ _ _ _; rw [← hW12]; exact Blk.new _ _ _
  have HW12 : Hid (we11.alloc (.cells #[.int .i64 11, .string ⟨#[102]⟩, .int .i64 0, .slice none 0 0, .int .i64 0] 25) = W12) := hW12
  have CW12 : Hid (Below wc.heap.size wc W12) := Cwe11.out.trans (AW12.out.mono Cwe11.out.size)
  clear hW12
  go_wp2_with (go_at_call 9; fail)
  rw [HW12.out]
  refine (HO.out _ _ _ _ _).mono ?_
  rintro e we13 ⟨rfl, hbwe13⟩
  have Dwe13 : Hid (Below W12.heap.size W12 we13) := hbwe13
  have Cwe13 : Hid (Below wc.heap.size wc we13) := CW12.out.trans (hbwe13.mono CW12.out.size)
  clear hbwe13
  have HT3 : Hid (Calls Tryz.prog 13 #[.agg #[.int .i64 16, .string ⟨#[]⟩, .int .i64 0, .slice (some ⟨we11.heap.size, 0, none⟩) 1 1, .int .i64 0]] we13 fun e W' => e = .returned (.int .i64 2) ∧ Below we13.heap.size we13 W') := by
    have k := KW12.out.below Dwe13.out
    have iB : NdIn we13 we13.heap.size exB (some ⟨we11.heap.size, 0, none⟩) 1 := in_1 exB (a := ndVar [102]) rfl (by unfold WfN; decide) (in_leaf _ rfl (by unfold WfN; decide)) k.lt k
    have := checkS_c exB _ 1 we13 iB (HGc.out _ Cwe13.out)
    rw [exB_chk] at this
    exact this
  go_wp2_with (go_at_call 13; fail)
  skip
  refine (HT3.out).mono ?_
  rintro e we14 ⟨rfl, hbwe14⟩
  have Dwe14 : Hid (Below we13.heap.size we13 we14) := hbwe14
  have Cwe14 : Hid (Below wc.heap.size wc we14) := Cwe13.out.trans (hbwe14.mono Cwe13.out.size)
  clear hbwe14
  have BE : Hid (Below w.heap.size w we14) := Bwc.out.trans (Cwe14.out.mono Bwc.out.size)
  go_wp2
  go_ret
  exact ⟨rfl, BE.out⟩

end Go.Proofs.YtppnhaacmhfenaaGreatDoor
