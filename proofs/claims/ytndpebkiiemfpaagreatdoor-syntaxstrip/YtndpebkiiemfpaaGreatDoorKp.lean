/-
  The map of kinds and patterns, by a contract.
-/
import Derived.Test.YtndpebkiiemfpaaGreatDoorKp0
namespace Go.Proofs.YtndpebkiiemfpaaGreatDoor
open Go.RowKit Go.Shelf Go.Maps
set_option linter.unusedVariables false

theorem kstart {w W : World} {vw vr vo : Value} (hs : W.heap.size = w.heap.size + 3) (hb : Below w.heap.size w W) (hw : ClsOK (w.heap.size + 3) W vw (onlyB 10)) (hr : ClsOK (w.heap.size + 3) W vr (onlyB 8)) (ho : ClsOK (w.heap.size + 3) W vo (onlyB 5)) : KS2 (w.heap.size + 3) w (W.alloc (.map #[] 0)) vw vr vo 0 := by
  have hA : Below W.heap.size W (W.alloc (.map #[] 0)) := (Below.refl _ _).alloc (Nat.le_refl _) _
  refine ⟨[], rfl, hb.trans (hA.mono (by omega)), hw.below hA, hr.below hA, ho.below hA, ?_, fun p hp => by cases hp⟩
  have := World.ownsMap_made W Tryz.prog 3 heldElem
  rw [hs] at this
  exact this

set_option maxRecDepth 100000 in
set_option maxHeartbeats 40000000 in
theorem kidPatterns_c (w : World) : Calls Tryz.prog 43 #[] w fun e W' => ∃ vw vr vo, e = .returned (.map (some (w.heap.size + 3))) ∧ KS2 (w.heap.size + 3) w W' vw vr vo 44 := by
  have HW : w.heap.size ≤ w.heap.size + 3 := by omega
  have hmm : ∀ W : World, (Instr.makeMap 90 none).run Tryz.prog W = .ok (.map (some W.heap.size)) (W.alloc (.map #[] 0)) := fun W => rfl
  go_enter Tryz.func43, Tryz.ntmps43
  go_wp2_with (first
    | (go_at_call 68; fail))
  refine (only_c (b0 := w.heap.size + 3) 10 w (by exact ⟨by omega, by omega⟩)).mono ?_
  rintro e W1 ⟨x1, rfl, hc1, hw1⟩
  have S1 : Hid (W1.heap.size = w.heap.size + 1) := by rw [hw1]; show (w.alloc _).heap.size = _; simp
  have HB1 : Hid (Below w.heap.size w W1) := by rw [hw1]; exact (Below.refl _ _).alloc (Nat.le_refl _) _
  have HC1 : Hid (ClsOK (w.heap.size + 3) W1 x1 (onlyB 10)) := hc1
  obtain ⟨g1, h1, rfl, -, -⟩ := hc1
  clear hw1
  go_wp2_with (first
    | (go_at_call 68; fail))
  refine (only_c (b0 := w.heap.size + 3) 8 W1 (by have := S1.out; exact ⟨by omega, by omega⟩)).mono ?_
  rintro e W2 ⟨x2, rfl, hc2, hw2⟩
  have S2 : Hid (W2.heap.size = w.heap.size + 2) := by rw [hw2]; show (W1.alloc _).heap.size = _; simp [S1.out]
  have HB2 : Hid (Below W1.heap.size W1 W2) := by rw [hw2]; exact (Below.refl _ _).alloc (Nat.le_refl _) _
  have HC2 : Hid (ClsOK (w.heap.size + 3) W2 x2 (onlyB 8)) := hc2
  have HC1_2 : Hid (ClsOK (w.heap.size + 3) W2 (.func (.func g1) #[] h1) (onlyB 10)) := HC1.out.below HB2.out
  obtain ⟨g2, h2, rfl, -, -⟩ := hc2
  clear hw2
  go_wp2_with (first
    | (go_at_call 68; fail))
  refine (only_c (b0 := w.heap.size + 3) 5 W2 (by have := S2.out; exact ⟨by omega, by omega⟩)).mono ?_
  rintro e W3 ⟨x3, rfl, hc3, hw3⟩
  have S3 : Hid (W3.heap.size = w.heap.size + 3) := by rw [hw3]; show (W2.alloc _).heap.size = _; simp [S2.out]
  have HB3 : Hid (Below W2.heap.size W2 W3) := by rw [hw3]; exact (Below.refl _ _).alloc (Nat.le_refl _) _
  have HC3 : Hid (ClsOK (w.heap.size + 3) W3 x3 (onlyB 5)) := hc3
  have HC1_3 : Hid (ClsOK (w.heap.size + 3) W3 (.func (.func g1) #[] h1) (onlyB 10)) := HC1_2.out.below HB3.out
  have HC2_3 : Hid (ClsOK (w.heap.size + 3) W3 (.func (.func g2) #[] h2) (onlyB 8)) := HC2.out.below HB3.out
  obtain ⟨g3, h3, rfl, -, -⟩ := hc3
  clear hw3
  have HS : Hid (KS2 (w.heap.size + 3) w (W3.alloc (.map #[] 0)) (.func (.func g1) #[] h1) (.func (.func g2) #[] h2) (.func (.func g3) #[] h3) 0) := kstart S3.out ((HB1.out.trans (HB2.out.mono (by rw [S1.out]; omega))).trans (HB3.out.mono (by rw [S2.out]; omega))) HC1_3.out HC2_3.out HC3.out
  have hs3 : W3.heap.size = w.heap.size + 3 := S3.out
  clear HC1 HC1_2 HC1_3 HC2 HC2_3 HC3 HB1 HB2 HB3 S1 S2
  go_wp2_with (first
    | (go_at_call 69; fail))
  refine (many_c (b0 := w.heap.size + 3) isDeclB (.func (.func 70) #[] #[]) _ (isDecl_f _) HS.out.lt).mono ?_
  rintro e V4 ⟨x4, rfl, hp4, hb4⟩
  have HS1 : Hid (KS2 (w.heap.size + 3) w V4 (.func (.func g1) #[] h1) (.func (.func g2) #[] h2) (.func (.func g3) #[] h3) 0) := HS.out.below hb4
  clear HS; have HS := HS1; clear HS1
  have HP4 : Hid (PatOK (w.heap.size + 3) V4 x4 (betweenP 0 9223372036854775807 isDeclB)) := hp4
  obtain ⟨g4, h4, rfl, -, -, -⟩ := hp4
  clear hb4
  obtain ⟨U1, hr1, hS1⟩ := ins_run 0 (HS.out.alloc (.cells #[.func (.func g4) #[] h4] 120)) HW 1 (by rfl) [(betweenP 0 9223372036854775807 isDeclB)] (some ⟨V4.heap.size, 0, none⟩) 1 1 (by rfl) (by rfl) (pats1 HP4.out HS.out.lt) (by decide)
  clear HS HP4; have HS : Hid (KS2 (w.heap.size + 3) w U1 (.func (.func g1) #[] h1) (.func (.func g2) #[] h2) (.func (.func g3) #[] h3) 1) := hS1; clear hS1
  go_wp2_with (first
    | (go_at_call 68; fail))
  clear hr1
  refine (only_c (b0 := w.heap.size + 3) 3 _ (by have := HS.out.lt; exact ⟨by omega, by omega⟩)).mono ?_
  rintro e V5 ⟨x5, rfl, hp5, hw5⟩
  have hb5 : Below U1.heap.size U1 V5 := by rw [hw5]; exact (Below.refl _ _).alloc (Nat.le_refl _) _
  clear hw5
  have HS1 : Hid (KS2 (w.heap.size + 3) w V5 (.func (.func g1) #[] h1) (.func (.func g2) #[] h2) (.func (.func g3) #[] h3) 1) := HS.out.below hb5
  clear HS; have HS := HS1; clear HS1
  have HP5 : Hid (ClsOK (w.heap.size + 3) V5 x5 (onlyB 3)) := hp5
  obtain ⟨g5, h5, rfl, -, -⟩ := hp5
  clear hb5
  go_wp2_with (first
    | (go_at_call 71; fail))
  refine (some_c (b0 := w.heap.size + 3) (onlyB 3) (.func (.func g5) #[] h5) _ HP5.out HS.out.lt).mono ?_
  rintro e V6 ⟨x6, rfl, hp6, hb6⟩
  have HS1 : Hid (KS2 (w.heap.size + 3) w V6 (.func (.func g1) #[] h1) (.func (.func g2) #[] h2) (.func (.func g3) #[] h3) 1) := HS.out.below hb6
  clear HS; have HS := HS1; clear HS1
  have HX : Hid (ClsOK (w.heap.size + 3) V6 (.func (.func g5) #[] h5) (onlyB 3)) := HP5.out.below hb6; clear HP5; have HP5 := HX; clear HX
  have HP6 : Hid (PatOK (w.heap.size + 3) V6 x6 (betweenP 1 9223372036854775807 (onlyB 3))) := hp6
  obtain ⟨g6, h6, rfl, -, -, -⟩ := hp6
  clear hb6
  clear HP5
  obtain ⟨U2, hr2, hS2⟩ := ins_run 1 (HS.out.alloc (.cells #[.func (.func g6) #[] h6] 120)) HW 2 (by rfl) [(betweenP 1 9223372036854775807 (onlyB 3))] (some ⟨V6.heap.size, 0, none⟩) 1 1 (by rfl) (by rfl) (pats1 HP6.out HS.out.lt) (by decide)
  clear HS HP6; have HS : Hid (KS2 (w.heap.size + 3) w U2 (.func (.func g1) #[] h1) (.func (.func g2) #[] h2) (.func (.func g3) #[] h3) 2) := hS2; clear hS2
  obtain ⟨U3, hr3, hS3⟩ := ins_run 2 (HS.out.alloc (.cells #[] 120)) HW 3 (by rfl) [] (some ⟨U2.heap.size, 0, none⟩) 0 0 (by rfl) (by rfl) (.inl rfl) (by decide)
  clear HS; have HS : Hid (KS2 (w.heap.size + 3) w U3 (.func (.func g1) #[] h1) (.func (.func g2) #[] h2) (.func (.func g3) #[] h3) 3) := hS3; clear hS3
  go_wp2_with (first
    | (go_at_call 71; fail))
  clear hr2 hr3
  refine (some_c (b0 := w.heap.size + 3) (onlyB 5) (.func (.func g3) #[] h3) _ HS.out.o HS.out.lt).mono ?_
  rintro e V7 ⟨x7, rfl, hp7, hb7⟩
  have HS1 : Hid (KS2 (w.heap.size + 3) w V7 (.func (.func g1) #[] h1) (.func (.func g2) #[] h2) (.func (.func g3) #[] h3) 3) := HS.out.below hb7
  clear HS; have HS := HS1; clear HS1
  have HP7 : Hid (PatOK (w.heap.size + 3) V7 x7 (betweenP 1 9223372036854775807 (onlyB 5))) := hp7
  obtain ⟨g7, h7, rfl, -, -, -⟩ := hp7
  clear hb7
  obtain ⟨U4, hr4, hS4⟩ := ins_run 3 (HS.out.alloc (.cells #[.func (.func g7) #[] h7] 120)) HW 4 (by rfl) [(betweenP 1 9223372036854775807 (onlyB 5))] (some ⟨V7.heap.size, 0, none⟩) 1 1 (by rfl) (by rfl) (pats1 HP7.out HS.out.lt) (by decide)
  clear HS HP7; have HS : Hid (KS2 (w.heap.size + 3) w U4 (.func (.func g1) #[] h1) (.func (.func g2) #[] h2) (.func (.func g3) #[] h3) 4) := hS4; clear hS4
  obtain ⟨U5, hr5, hS5⟩ := ins_run 4 (HS.out.alloc (.cells #[] 120)) HW 5 (by rfl) [] (some ⟨U4.heap.size, 0, none⟩) 0 0 (by rfl) (by rfl) (.inl rfl) (by decide)
  clear HS; have HS : Hid (KS2 (w.heap.size + 3) w U5 (.func (.func g1) #[] h1) (.func (.func g2) #[] h2) (.func (.func g3) #[] h3) 5) := hS5; clear hS5
  go_wp2_with (first
    | (go_at_call 71; fail))
  clear hr4 hr5
  refine (some_c (b0 := w.heap.size + 3) isPatB (.func (.func 72) #[] #[]) _ (isPat_f _) HS.out.lt).mono ?_
  rintro e V8 ⟨x8, rfl, hp8, hb8⟩
  have HS1 : Hid (KS2 (w.heap.size + 3) w V8 (.func (.func g1) #[] h1) (.func (.func g2) #[] h2) (.func (.func g3) #[] h3) 5) := HS.out.below hb8
  clear HS; have HS := HS1; clear HS1
  have HP8 : Hid (PatOK (w.heap.size + 3) V8 x8 (betweenP 1 9223372036854775807 isPatB)) := hp8
  obtain ⟨g8, h8, rfl, -, -, -⟩ := hp8
  clear hb8
  go_wp2_with (first
    | (go_at_call 73; fail))
  refine (one_c (b0 := w.heap.size + 3) (onlyB 8) (.func (.func g2) #[] h2) _ HS.out.r HS.out.lt).mono ?_
  rintro e V9 ⟨x9, rfl, hp9, hb9⟩
  have HS1 : Hid (KS2 (w.heap.size + 3) w V9 (.func (.func g1) #[] h1) (.func (.func g2) #[] h2) (.func (.func g3) #[] h3) 5) := HS.out.below hb9
  clear HS; have HS := HS1; clear HS1
  have HX : Hid (PatOK (w.heap.size + 3) V9 (.func (.func g8) #[] h8) (betweenP 1 9223372036854775807 isPatB)) := HP8.out.below hb9; clear HP8; have HP8 := HX; clear HX
  have HP9 : Hid (PatOK (w.heap.size + 3) V9 x9 (oneP (onlyB 8))) := hp9
  obtain ⟨g9, h9, rfl, -, -, -⟩ := hp9
  clear hb9
  obtain ⟨U6, hr6, hS6⟩ := ins_run 5 (HS.out.alloc (.cells #[.func (.func g8) #[] h8, .func (.func g9) #[] h9] 120)) HW 6 (by rfl) [(betweenP 1 9223372036854775807 isPatB), (oneP (onlyB 8))] (some ⟨V9.heap.size, 0, none⟩) 2 2 (by rfl) (by rfl) (pats2 HP8.out HP9.out HS.out.lt) (by decide)
  clear HS HP8 HP9; have HS : Hid (KS2 (w.heap.size + 3) w U6 (.func (.func g1) #[] h1) (.func (.func g2) #[] h2) (.func (.func g3) #[] h3) 6) := hS6; clear hS6
  go_wp2_with (first
    | (go_at_call 73; fail))
  clear hr6
  refine (one_c (b0 := w.heap.size + 3) isPatB (.func (.func 72) #[] #[]) _ (isPat_f _) HS.out.lt).mono ?_
  rintro e V10 ⟨x10, rfl, hp10, hb10⟩
  have HS1 : Hid (KS2 (w.heap.size + 3) w V10 (.func (.func g1) #[] h1) (.func (.func g2) #[] h2) (.func (.func g3) #[] h3) 6) := HS.out.below hb10
  clear HS; have HS := HS1; clear HS1
  have HP10 : Hid (PatOK (w.heap.size + 3) V10 x10 (oneP isPatB)) := hp10
  obtain ⟨g10, h10, rfl, -, -, -⟩ := hp10
  clear hb10
  go_wp2_with (first
    | (go_at_call 73; fail))
  refine (one_c (b0 := w.heap.size + 3) (onlyB 8) (.func (.func g2) #[] h2) _ HS.out.r HS.out.lt).mono ?_
  rintro e V11 ⟨x11, rfl, hp11, hb11⟩
  have HS1 : Hid (KS2 (w.heap.size + 3) w V11 (.func (.func g1) #[] h1) (.func (.func g2) #[] h2) (.func (.func g3) #[] h3) 6) := HS.out.below hb11
  clear HS; have HS := HS1; clear HS1
  have HX : Hid (PatOK (w.heap.size + 3) V11 (.func (.func g10) #[] h10) (oneP isPatB)) := HP10.out.below hb11; clear HP10; have HP10 := HX; clear HX
  have HP11 : Hid (PatOK (w.heap.size + 3) V11 x11 (oneP (onlyB 8))) := hp11
  obtain ⟨g11, h11, rfl, -, -, -⟩ := hp11
  clear hb11
  obtain ⟨U7, hr7, hS7⟩ := ins_run 6 (HS.out.alloc (.cells #[.func (.func g10) #[] h10, .func (.func g11) #[] h11] 120)) HW 7 (by rfl) [(oneP isPatB), (oneP (onlyB 8))] (some ⟨V11.heap.size, 0, none⟩) 2 2 (by rfl) (by rfl) (pats2 HP10.out HP11.out HS.out.lt) (by decide)
  clear HS HP10 HP11; have HS : Hid (KS2 (w.heap.size + 3) w U7 (.func (.func g1) #[] h1) (.func (.func g2) #[] h2) (.func (.func g3) #[] h3) 7) := hS7; clear hS7
  go_wp2_with (first
    | (go_at_call 68; fail))
  clear hr7
  refine (only_c (b0 := w.heap.size + 3) 9 _ (by have := HS.out.lt; exact ⟨by omega, by omega⟩)).mono ?_
  rintro e V12 ⟨x12, rfl, hp12, hw12⟩
  have hb12 : Below U7.heap.size U7 V12 := by rw [hw12]; exact (Below.refl _ _).alloc (Nat.le_refl _) _
  clear hw12
  have HS1 : Hid (KS2 (w.heap.size + 3) w V12 (.func (.func g1) #[] h1) (.func (.func g2) #[] h2) (.func (.func g3) #[] h3) 7) := HS.out.below hb12
  clear HS; have HS := HS1; clear HS1
  have HP12 : Hid (ClsOK (w.heap.size + 3) V12 x12 (onlyB 9)) := hp12
  obtain ⟨g12, h12, rfl, -, -⟩ := hp12
  clear hb12
  go_wp2_with (first
    | (go_at_call 71; fail))
  refine (some_c (b0 := w.heap.size + 3) (onlyB 9) (.func (.func g12) #[] h12) _ HP12.out HS.out.lt).mono ?_
  rintro e V13 ⟨x13, rfl, hp13, hb13⟩
  have HS1 : Hid (KS2 (w.heap.size + 3) w V13 (.func (.func g1) #[] h1) (.func (.func g2) #[] h2) (.func (.func g3) #[] h3) 7) := HS.out.below hb13
  clear HS; have HS := HS1; clear HS1
  have HX : Hid (ClsOK (w.heap.size + 3) V13 (.func (.func g12) #[] h12) (onlyB 9)) := HP12.out.below hb13; clear HP12; have HP12 := HX; clear HX
  have HP13 : Hid (PatOK (w.heap.size + 3) V13 x13 (betweenP 1 9223372036854775807 (onlyB 9))) := hp13
  obtain ⟨g13, h13, rfl, -, -, -⟩ := hp13
  clear hb13
  clear HP12
  go_wp2_with (first
    | (go_at_call 73; fail))
  refine (one_c (b0 := w.heap.size + 3) isExpB (.func (.func 75) #[] #[]) _ (isExp_f _) HS.out.lt).mono ?_
  rintro e V14 ⟨x14, rfl, hp14, hb14⟩
  have HS1 : Hid (KS2 (w.heap.size + 3) w V14 (.func (.func g1) #[] h1) (.func (.func g2) #[] h2) (.func (.func g3) #[] h3) 7) := HS.out.below hb14
  clear HS; have HS := HS1; clear HS1
  have HX : Hid (PatOK (w.heap.size + 3) V14 (.func (.func g13) #[] h13) (betweenP 1 9223372036854775807 (onlyB 9))) := HP13.out.below hb14; clear HP13; have HP13 := HX; clear HX
  have HP14 : Hid (PatOK (w.heap.size + 3) V14 x14 (oneP isExpB)) := hp14
  obtain ⟨g14, h14, rfl, -, -, -⟩ := hp14
  clear hb14
  go_wp2_with (first
    | (go_at_call 74; fail))
  refine (either_c (b0 := w.heap.size + 3) (betweenP 1 9223372036854775807 (onlyB 9)) (oneP isExpB) (.func (.func g13) #[] h13) (.func (.func g14) #[] h14) _ HP13.out HP14.out HS.out.lt).mono ?_
  rintro e V15 ⟨x15, rfl, hp15, hb15⟩
  have HS1 : Hid (KS2 (w.heap.size + 3) w V15 (.func (.func g1) #[] h1) (.func (.func g2) #[] h2) (.func (.func g3) #[] h3) 7) := HS.out.below hb15
  clear HS; have HS := HS1; clear HS1
  have HX : Hid (PatOK (w.heap.size + 3) V15 (.func (.func g13) #[] h13) (betweenP 1 9223372036854775807 (onlyB 9))) := HP13.out.below hb15; clear HP13; have HP13 := HX; clear HX
  have HX : Hid (PatOK (w.heap.size + 3) V15 (.func (.func g14) #[] h14) (oneP isExpB)) := HP14.out.below hb15; clear HP14; have HP14 := HX; clear HX
  have HP15 : Hid (PatOK (w.heap.size + 3) V15 x15 (eitherP (betweenP 1 9223372036854775807 (onlyB 9)) (oneP isExpB))) := hp15
  obtain ⟨g15, h15, rfl, -, -, -⟩ := hp15
  clear hb15
  clear HP13
  clear HP14
  go_wp2_with (first
    | (go_at_call 76; fail))
  refine (atMostOne_c (b0 := w.heap.size + 3) (onlyB 10) (.func (.func g1) #[] h1) _ HS.out.w HS.out.lt).mono ?_
  rintro e V16 ⟨x16, rfl, hp16, hb16⟩
  have HS1 : Hid (KS2 (w.heap.size + 3) w V16 (.func (.func g1) #[] h1) (.func (.func g2) #[] h2) (.func (.func g3) #[] h3) 7) := HS.out.below hb16
  clear HS; have HS := HS1; clear HS1
  have HX : Hid (PatOK (w.heap.size + 3) V16 (.func (.func g15) #[] h15) (eitherP (betweenP 1 9223372036854775807 (onlyB 9)) (oneP isExpB))) := HP15.out.below hb16; clear HP15; have HP15 := HX; clear HX
  have HP16 : Hid (PatOK (w.heap.size + 3) V16 x16 (atMostOneP (onlyB 10))) := hp16
  obtain ⟨g16, h16, rfl, -, -, -⟩ := hp16
  clear hb16
  obtain ⟨U8, hr8, hS8⟩ := ins_run 7 (HS.out.alloc (.cells #[.func (.func g15) #[] h15, .func (.func g16) #[] h16] 120)) HW 8 (by rfl) [(eitherP (betweenP 1 9223372036854775807 (onlyB 9)) (oneP isExpB)), (atMostOneP (onlyB 10))] (some ⟨V16.heap.size, 0, none⟩) 2 2 (by rfl) (by rfl) (pats2 HP15.out HP16.out HS.out.lt) (by decide)
  clear HS HP15 HP16; have HS : Hid (KS2 (w.heap.size + 3) w U8 (.func (.func g1) #[] h1) (.func (.func g2) #[] h2) (.func (.func g3) #[] h3) 8) := hS8; clear hS8
  go_wp2_with (first
    | (go_at_call 73; fail))
  clear hr8
  refine (one_c (b0 := w.heap.size + 3) isExpB (.func (.func 75) #[] #[]) _ (isExp_f _) HS.out.lt).mono ?_
  rintro e V17 ⟨x17, rfl, hp17, hb17⟩
  have HS1 : Hid (KS2 (w.heap.size + 3) w V17 (.func (.func g1) #[] h1) (.func (.func g2) #[] h2) (.func (.func g3) #[] h3) 8) := HS.out.below hb17
  clear HS; have HS := HS1; clear HS1
  have HP17 : Hid (PatOK (w.heap.size + 3) V17 x17 (oneP isExpB)) := hp17
  obtain ⟨g17, h17, rfl, -, -, -⟩ := hp17
  clear hb17
  go_wp2_with (first
    | (go_at_call 73; fail))
  refine (one_c (b0 := w.heap.size + 3) isExpB (.func (.func 75) #[] #[]) _ (isExp_f _) HS.out.lt).mono ?_
  rintro e V18 ⟨x18, rfl, hp18, hb18⟩
  have HS1 : Hid (KS2 (w.heap.size + 3) w V18 (.func (.func g1) #[] h1) (.func (.func g2) #[] h2) (.func (.func g3) #[] h3) 8) := HS.out.below hb18
  clear HS; have HS := HS1; clear HS1
  have HX : Hid (PatOK (w.heap.size + 3) V18 (.func (.func g17) #[] h17) (oneP isExpB)) := HP17.out.below hb18; clear HP17; have HP17 := HX; clear HX
  have HP18 : Hid (PatOK (w.heap.size + 3) V18 x18 (oneP isExpB)) := hp18
  obtain ⟨g18, h18, rfl, -, -, -⟩ := hp18
  clear hb18
  obtain ⟨U9, hr9, hS9⟩ := ins_run 8 (HS.out.alloc (.cells #[.func (.func g17) #[] h17, .func (.func g18) #[] h18] 120)) HW 9 (by rfl) [(oneP isExpB), (oneP isExpB)] (some ⟨V18.heap.size, 0, none⟩) 2 2 (by rfl) (by rfl) (pats2 HP17.out HP18.out HS.out.lt) (by decide)
  clear HS HP17 HP18; have HS : Hid (KS2 (w.heap.size + 3) w U9 (.func (.func g1) #[] h1) (.func (.func g2) #[] h2) (.func (.func g3) #[] h3) 9) := hS9; clear hS9
  go_wp2_with (first
    | (go_at_call 69; fail))
  clear hr9
  refine (many_c (b0 := w.heap.size + 3) isDeclB (.func (.func 70) #[] #[]) _ (isDecl_f _) HS.out.lt).mono ?_
  rintro e V19 ⟨x19, rfl, hp19, hb19⟩
  have HS1 : Hid (KS2 (w.heap.size + 3) w V19 (.func (.func g1) #[] h1) (.func (.func g2) #[] h2) (.func (.func g3) #[] h3) 9) := HS.out.below hb19
  clear HS; have HS := HS1; clear HS1
  have HP19 : Hid (PatOK (w.heap.size + 3) V19 x19 (betweenP 0 9223372036854775807 isDeclB)) := hp19
  obtain ⟨g19, h19, rfl, -, -, -⟩ := hp19
  clear hb19
  obtain ⟨U10, hr10, hS10⟩ := ins_run 9 (HS.out.alloc (.cells #[.func (.func g19) #[] h19] 120)) HW 10 (by rfl) [(betweenP 0 9223372036854775807 isDeclB)] (some ⟨V19.heap.size, 0, none⟩) 1 1 (by rfl) (by rfl) (pats1 HP19.out HS.out.lt) (by decide)
  clear HS HP19; have HS : Hid (KS2 (w.heap.size + 3) w U10 (.func (.func g1) #[] h1) (.func (.func g2) #[] h2) (.func (.func g3) #[] h3) 10) := hS10; clear hS10
  obtain ⟨U11, hr11, hS11⟩ := ins_run 10 (HS.out.alloc (.cells #[] 120)) HW 11 (by rfl) [] (some ⟨U10.heap.size, 0, none⟩) 0 0 (by rfl) (by rfl) (.inl rfl) (by decide)
  clear HS; have HS : Hid (KS2 (w.heap.size + 3) w U11 (.func (.func g1) #[] h1) (.func (.func g2) #[] h2) (.func (.func g3) #[] h3) 11) := hS11; clear hS11
  obtain ⟨U12, hr12, hS12⟩ := ins_run 11 (HS.out.alloc (.cells #[] 120)) HW 12 (by rfl) [] (some ⟨U11.heap.size, 0, none⟩) 0 0 (by rfl) (by rfl) (.inl rfl) (by decide)
  clear HS; have HS : Hid (KS2 (w.heap.size + 3) w U12 (.func (.func g1) #[] h1) (.func (.func g2) #[] h2) (.func (.func g3) #[] h3) 12) := hS12; clear hS12
  obtain ⟨U13, hr13, hS13⟩ := ins_run 12 (HS.out.alloc (.cells #[] 120)) HW 13 (by rfl) [] (some ⟨U12.heap.size, 0, none⟩) 0 0 (by rfl) (by rfl) (.inl rfl) (by decide)
  clear HS; have HS : Hid (KS2 (w.heap.size + 3) w U13 (.func (.func g1) #[] h1) (.func (.func g2) #[] h2) (.func (.func g3) #[] h3) 13) := hS13; clear hS13
  obtain ⟨U14, hr14, hS14⟩ := ins_run 13 (HS.out.alloc (.cells #[] 120)) HW 14 (by rfl) [] (some ⟨U13.heap.size, 0, none⟩) 0 0 (by rfl) (by rfl) (.inl rfl) (by decide)
  clear HS; have HS : Hid (KS2 (w.heap.size + 3) w U14 (.func (.func g1) #[] h1) (.func (.func g2) #[] h2) (.func (.func g3) #[] h3) 14) := hS14; clear hS14
  obtain ⟨U15, hr15, hS15⟩ := ins_run 14 (HS.out.alloc (.cells #[] 120)) HW 15 (by rfl) [] (some ⟨U14.heap.size, 0, none⟩) 0 0 (by rfl) (by rfl) (.inl rfl) (by decide)
  clear HS; have HS : Hid (KS2 (w.heap.size + 3) w U15 (.func (.func g1) #[] h1) (.func (.func g2) #[] h2) (.func (.func g3) #[] h3) 15) := hS15; clear hS15
  go_wp2_with (first
    | (go_at_call 73; fail))
  clear hr10 hr11 hr12 hr13 hr14 hr15
  refine (one_c (b0 := w.heap.size + 3) isExpB (.func (.func 75) #[] #[]) _ (isExp_f _) HS.out.lt).mono ?_
  rintro e V20 ⟨x20, rfl, hp20, hb20⟩
  have HS1 : Hid (KS2 (w.heap.size + 3) w V20 (.func (.func g1) #[] h1) (.func (.func g2) #[] h2) (.func (.func g3) #[] h3) 15) := HS.out.below hb20
  clear HS; have HS := HS1; clear HS1
  have HP20 : Hid (PatOK (w.heap.size + 3) V20 x20 (oneP isExpB)) := hp20
  obtain ⟨g20, h20, rfl, -, -, -⟩ := hp20
  clear hb20
  go_wp2_with (first
    | (go_at_call 71; fail))
  refine (some_c (b0 := w.heap.size + 3) isExpB (.func (.func 75) #[] #[]) _ (isExp_f _) HS.out.lt).mono ?_
  rintro e V21 ⟨x21, rfl, hp21, hb21⟩
  have HS1 : Hid (KS2 (w.heap.size + 3) w V21 (.func (.func g1) #[] h1) (.func (.func g2) #[] h2) (.func (.func g3) #[] h3) 15) := HS.out.below hb21
  clear HS; have HS := HS1; clear HS1
  have HX : Hid (PatOK (w.heap.size + 3) V21 (.func (.func g20) #[] h20) (oneP isExpB)) := HP20.out.below hb21; clear HP20; have HP20 := HX; clear HX
  have HP21 : Hid (PatOK (w.heap.size + 3) V21 x21 (betweenP 1 9223372036854775807 isExpB)) := hp21
  obtain ⟨g21, h21, rfl, -, -, -⟩ := hp21
  clear hb21
  obtain ⟨U16, hr16, hS16⟩ := ins_run 15 (HS.out.alloc (.cells #[.func (.func g20) #[] h20, .func (.func g21) #[] h21] 120)) HW 16 (by rfl) [(oneP isExpB), (betweenP 1 9223372036854775807 isExpB)] (some ⟨V21.heap.size, 0, none⟩) 2 2 (by rfl) (by rfl) (pats2 HP20.out HP21.out HS.out.lt) (by decide)
  clear HS HP20 HP21; have HS : Hid (KS2 (w.heap.size + 3) w U16 (.func (.func g1) #[] h1) (.func (.func g2) #[] h2) (.func (.func g3) #[] h3) 16) := hS16; clear hS16
  go_wp2_with (first
    | (go_at_call 73; fail))
  clear hr16
  refine (one_c (b0 := w.heap.size + 3) isExpB (.func (.func 75) #[] #[]) _ (isExp_f _) HS.out.lt).mono ?_
  rintro e V22 ⟨x22, rfl, hp22, hb22⟩
  have HS1 : Hid (KS2 (w.heap.size + 3) w V22 (.func (.func g1) #[] h1) (.func (.func g2) #[] h2) (.func (.func g3) #[] h3) 16) := HS.out.below hb22
  clear HS; have HS := HS1; clear HS1
  have HP22 : Hid (PatOK (w.heap.size + 3) V22 x22 (oneP isExpB)) := hp22
  obtain ⟨g22, h22, rfl, -, -, -⟩ := hp22
  clear hb22
  go_wp2_with (first
    | (go_at_call 77; fail))
  refine (turns_c (b0 := w.heap.size + 3) (onlyB 5) isExpB (.func (.func g3) #[] h3) (.func (.func 75) #[] #[]) _ HS.out.o (isExp_f _) HS.out.lt).mono ?_
  rintro e V23 ⟨x23, rfl, hp23, hb23⟩
  have HS1 : Hid (KS2 (w.heap.size + 3) w V23 (.func (.func g1) #[] h1) (.func (.func g2) #[] h2) (.func (.func g3) #[] h3) 16) := HS.out.below hb23
  clear HS; have HS := HS1; clear HS1
  have HX : Hid (PatOK (w.heap.size + 3) V23 (.func (.func g22) #[] h22) (oneP isExpB)) := HP22.out.below hb23; clear HP22; have HP22 := HX; clear HX
  have HP23 : Hid (PatOK (w.heap.size + 3) V23 x23 (turnsP (onlyB 5) isExpB)) := hp23
  obtain ⟨g23, h23, rfl, -, -, -⟩ := hp23
  clear hb23
  obtain ⟨U17, hr17, hS17⟩ := ins_run 16 (HS.out.alloc (.cells #[.func (.func g22) #[] h22, .func (.func g23) #[] h23] 120)) HW 17 (by rfl) [(oneP isExpB), (turnsP (onlyB 5) isExpB)] (some ⟨V23.heap.size, 0, none⟩) 2 2 (by rfl) (by rfl) (pats2 HP22.out HP23.out HS.out.lt) (by decide)
  clear HS HP22 HP23; have HS : Hid (KS2 (w.heap.size + 3) w U17 (.func (.func g1) #[] h1) (.func (.func g2) #[] h2) (.func (.func g3) #[] h3) 17) := hS17; clear hS17
  go_wp2_with (first
    | (go_at_call 73; fail))
  clear hr17
  refine (one_c (b0 := w.heap.size + 3) isExpB (.func (.func 75) #[] #[]) _ (isExp_f _) HS.out.lt).mono ?_
  rintro e V24 ⟨x24, rfl, hp24, hb24⟩
  have HS1 : Hid (KS2 (w.heap.size + 3) w V24 (.func (.func g1) #[] h1) (.func (.func g2) #[] h2) (.func (.func g3) #[] h3) 17) := HS.out.below hb24
  clear HS; have HS := HS1; clear HS1
  have HP24 : Hid (PatOK (w.heap.size + 3) V24 x24 (oneP isExpB)) := hp24
  obtain ⟨g24, h24, rfl, -, -, -⟩ := hp24
  clear hb24
  obtain ⟨U18, hr18, hS18⟩ := ins_run 17 (HS.out.alloc (.cells #[.func (.func g24) #[] h24] 120)) HW 18 (by rfl) [(oneP isExpB)] (some ⟨V24.heap.size, 0, none⟩) 1 1 (by rfl) (by rfl) (pats1 HP24.out HS.out.lt) (by decide)
  clear HS HP24; have HS : Hid (KS2 (w.heap.size + 3) w U18 (.func (.func g1) #[] h1) (.func (.func g2) #[] h2) (.func (.func g3) #[] h3) 18) := hS18; clear hS18
  go_wp2_with (first
    | (go_at_call 71; fail))
  clear hr18
  refine (some_c (b0 := w.heap.size + 3) isPatB (.func (.func 72) #[] #[]) _ (isPat_f _) HS.out.lt).mono ?_
  rintro e V25 ⟨x25, rfl, hp25, hb25⟩
  have HS1 : Hid (KS2 (w.heap.size + 3) w V25 (.func (.func g1) #[] h1) (.func (.func g2) #[] h2) (.func (.func g3) #[] h3) 18) := HS.out.below hb25
  clear HS; have HS := HS1; clear HS1
  have HP25 : Hid (PatOK (w.heap.size + 3) V25 x25 (betweenP 1 9223372036854775807 isPatB)) := hp25
  obtain ⟨g25, h25, rfl, -, -, -⟩ := hp25
  clear hb25
  go_wp2_with (first
    | (go_at_call 73; fail))
  refine (one_c (b0 := w.heap.size + 3) isExpB (.func (.func 75) #[] #[]) _ (isExp_f _) HS.out.lt).mono ?_
  rintro e V26 ⟨x26, rfl, hp26, hb26⟩
  have HS1 : Hid (KS2 (w.heap.size + 3) w V26 (.func (.func g1) #[] h1) (.func (.func g2) #[] h2) (.func (.func g3) #[] h3) 18) := HS.out.below hb26
  clear HS; have HS := HS1; clear HS1
  have HX : Hid (PatOK (w.heap.size + 3) V26 (.func (.func g25) #[] h25) (betweenP 1 9223372036854775807 isPatB)) := HP25.out.below hb26; clear HP25; have HP25 := HX; clear HX
  have HP26 : Hid (PatOK (w.heap.size + 3) V26 x26 (oneP isExpB)) := hp26
  obtain ⟨g26, h26, rfl, -, -, -⟩ := hp26
  clear hb26
  obtain ⟨U19, hr19, hS19⟩ := ins_run 18 (HS.out.alloc (.cells #[.func (.func g25) #[] h25, .func (.func g26) #[] h26] 120)) HW 19 (by rfl) [(betweenP 1 9223372036854775807 isPatB), (oneP isExpB)] (some ⟨V26.heap.size, 0, none⟩) 2 2 (by rfl) (by rfl) (pats2 HP25.out HP26.out HS.out.lt) (by decide)
  clear HS HP25 HP26; have HS : Hid (KS2 (w.heap.size + 3) w U19 (.func (.func g1) #[] h1) (.func (.func g2) #[] h2) (.func (.func g3) #[] h3) 19) := hS19; clear hS19
  go_wp2_with (first
    | (go_at_call 73; fail))
  clear hr19
  refine (one_c (b0 := w.heap.size + 3) (onlyB 10) (.func (.func g1) #[] h1) _ HS.out.w HS.out.lt).mono ?_
  rintro e V27 ⟨x27, rfl, hp27, hb27⟩
  have HS1 : Hid (KS2 (w.heap.size + 3) w V27 (.func (.func g1) #[] h1) (.func (.func g2) #[] h2) (.func (.func g3) #[] h3) 19) := HS.out.below hb27
  clear HS; have HS := HS1; clear HS1
  have HP27 : Hid (PatOK (w.heap.size + 3) V27 x27 (oneP (onlyB 10))) := hp27
  obtain ⟨g27, h27, rfl, -, -, -⟩ := hp27
  clear hb27
  go_wp2_with (first
    | (go_at_call 73; fail))
  refine (one_c (b0 := w.heap.size + 3) isExpB (.func (.func 75) #[] #[]) _ (isExp_f _) HS.out.lt).mono ?_
  rintro e V28 ⟨x28, rfl, hp28, hb28⟩
  have HS1 : Hid (KS2 (w.heap.size + 3) w V28 (.func (.func g1) #[] h1) (.func (.func g2) #[] h2) (.func (.func g3) #[] h3) 19) := HS.out.below hb28
  clear HS; have HS := HS1; clear HS1
  have HX : Hid (PatOK (w.heap.size + 3) V28 (.func (.func g27) #[] h27) (oneP (onlyB 10))) := HP27.out.below hb28; clear HP27; have HP27 := HX; clear HX
  have HP28 : Hid (PatOK (w.heap.size + 3) V28 x28 (oneP isExpB)) := hp28
  obtain ⟨g28, h28, rfl, -, -, -⟩ := hp28
  clear hb28
  obtain ⟨U20, hr20, hS20⟩ := ins_run 19 (HS.out.alloc (.cells #[.func (.func g27) #[] h27, .func (.func g28) #[] h28] 120)) HW 20 (by rfl) [(oneP (onlyB 10)), (oneP isExpB)] (some ⟨V28.heap.size, 0, none⟩) 2 2 (by rfl) (by rfl) (pats2 HP27.out HP28.out HS.out.lt) (by decide)
  clear HS HP27 HP28; have HS : Hid (KS2 (w.heap.size + 3) w U20 (.func (.func g1) #[] h1) (.func (.func g2) #[] h2) (.func (.func g3) #[] h3) 20) := hS20; clear hS20
  go_wp2_with (first
    | (go_at_call 73; fail))
  clear hr20
  refine (one_c (b0 := w.heap.size + 3) isExpB (.func (.func 75) #[] #[]) _ (isExp_f _) HS.out.lt).mono ?_
  rintro e V29 ⟨x29, rfl, hp29, hb29⟩
  have HS1 : Hid (KS2 (w.heap.size + 3) w V29 (.func (.func g1) #[] h1) (.func (.func g2) #[] h2) (.func (.func g3) #[] h3) 20) := HS.out.below hb29
  clear HS; have HS := HS1; clear HS1
  have HP29 : Hid (PatOK (w.heap.size + 3) V29 x29 (oneP isExpB)) := hp29
  obtain ⟨g29, h29, rfl, -, -, -⟩ := hp29
  clear hb29
  go_wp2_with (first
    | (go_at_call 73; fail))
  refine (one_c (b0 := w.heap.size + 3) isExpB (.func (.func 75) #[] #[]) _ (isExp_f _) HS.out.lt).mono ?_
  rintro e V30 ⟨x30, rfl, hp30, hb30⟩
  have HS1 : Hid (KS2 (w.heap.size + 3) w V30 (.func (.func g1) #[] h1) (.func (.func g2) #[] h2) (.func (.func g3) #[] h3) 20) := HS.out.below hb30
  clear HS; have HS := HS1; clear HS1
  have HX : Hid (PatOK (w.heap.size + 3) V30 (.func (.func g29) #[] h29) (oneP isExpB)) := HP29.out.below hb30; clear HP29; have HP29 := HX; clear HX
  have HP30 : Hid (PatOK (w.heap.size + 3) V30 x30 (oneP isExpB)) := hp30
  obtain ⟨g30, h30, rfl, -, -, -⟩ := hp30
  clear hb30
  go_wp2_with (first
    | (go_at_call 73; fail))
  refine (one_c (b0 := w.heap.size + 3) isExpB (.func (.func 75) #[] #[]) _ (isExp_f _) HS.out.lt).mono ?_
  rintro e V31 ⟨x31, rfl, hp31, hb31⟩
  have HS1 : Hid (KS2 (w.heap.size + 3) w V31 (.func (.func g1) #[] h1) (.func (.func g2) #[] h2) (.func (.func g3) #[] h3) 20) := HS.out.below hb31
  clear HS; have HS := HS1; clear HS1
  have HX : Hid (PatOK (w.heap.size + 3) V31 (.func (.func g29) #[] h29) (oneP isExpB)) := HP29.out.below hb31; clear HP29; have HP29 := HX; clear HX
  have HX : Hid (PatOK (w.heap.size + 3) V31 (.func (.func g30) #[] h30) (oneP isExpB)) := HP30.out.below hb31; clear HP30; have HP30 := HX; clear HX
  have HP31 : Hid (PatOK (w.heap.size + 3) V31 x31 (oneP isExpB)) := hp31
  obtain ⟨g31, h31, rfl, -, -, -⟩ := hp31
  clear hb31
  obtain ⟨U21, hr21, hS21⟩ := ins_run 20 (HS.out.alloc (.cells #[.func (.func g29) #[] h29, .func (.func g30) #[] h30, .func (.func g31) #[] h31] 120)) HW 21 (by rfl) [(oneP isExpB), (oneP isExpB), (oneP isExpB)] (some ⟨V31.heap.size, 0, none⟩) 3 3 (by rfl) (by rfl) (pats3 HP29.out HP30.out HP31.out HS.out.lt) (by decide)
  clear HS HP29 HP30 HP31; have HS : Hid (KS2 (w.heap.size + 3) w U21 (.func (.func g1) #[] h1) (.func (.func g2) #[] h2) (.func (.func g3) #[] h3) 21) := hS21; clear hS21
  go_wp2_with (first
    | (go_at_call 73; fail))
  clear hr21
  refine (one_c (b0 := w.heap.size + 3) isExpB (.func (.func 75) #[] #[]) _ (isExp_f _) HS.out.lt).mono ?_
  rintro e V32 ⟨x32, rfl, hp32, hb32⟩
  have HS1 : Hid (KS2 (w.heap.size + 3) w V32 (.func (.func g1) #[] h1) (.func (.func g2) #[] h2) (.func (.func g3) #[] h3) 21) := HS.out.below hb32
  clear HS; have HS := HS1; clear HS1
  have HP32 : Hid (PatOK (w.heap.size + 3) V32 x32 (oneP isExpB)) := hp32
  obtain ⟨g32, h32, rfl, -, -, -⟩ := hp32
  clear hb32
  go_wp2_with (first
    | (go_at_call 68; fail))
  refine (only_c (b0 := w.heap.size + 3) 23 _ (by have := HS.out.lt; exact ⟨by omega, by omega⟩)).mono ?_
  rintro e V33 ⟨x33, rfl, hp33, hw33⟩
  have hb33 : Below V32.heap.size V32 V33 := by rw [hw33]; exact (Below.refl _ _).alloc (Nat.le_refl _) _
  clear hw33
  have HS1 : Hid (KS2 (w.heap.size + 3) w V33 (.func (.func g1) #[] h1) (.func (.func g2) #[] h2) (.func (.func g3) #[] h3) 21) := HS.out.below hb33
  clear HS; have HS := HS1; clear HS1
  have HX : Hid (PatOK (w.heap.size + 3) V33 (.func (.func g32) #[] h32) (oneP isExpB)) := HP32.out.below hb33; clear HP32; have HP32 := HX; clear HX
  have HP33 : Hid (ClsOK (w.heap.size + 3) V33 x33 (onlyB 23)) := hp33
  obtain ⟨g33, h33, rfl, -, -⟩ := hp33
  clear hb33
  go_wp2_with (first
    | (go_at_call 71; fail))
  refine (some_c (b0 := w.heap.size + 3) (onlyB 23) (.func (.func g33) #[] h33) _ HP33.out HS.out.lt).mono ?_
  rintro e V34 ⟨x34, rfl, hp34, hb34⟩
  have HS1 : Hid (KS2 (w.heap.size + 3) w V34 (.func (.func g1) #[] h1) (.func (.func g2) #[] h2) (.func (.func g3) #[] h3) 21) := HS.out.below hb34
  clear HS; have HS := HS1; clear HS1
  have HX : Hid (PatOK (w.heap.size + 3) V34 (.func (.func g32) #[] h32) (oneP isExpB)) := HP32.out.below hb34; clear HP32; have HP32 := HX; clear HX
  have HX : Hid (ClsOK (w.heap.size + 3) V34 (.func (.func g33) #[] h33) (onlyB 23)) := HP33.out.below hb34; clear HP33; have HP33 := HX; clear HX
  have HP34 : Hid (PatOK (w.heap.size + 3) V34 x34 (betweenP 1 9223372036854775807 (onlyB 23))) := hp34
  obtain ⟨g34, h34, rfl, -, -, -⟩ := hp34
  clear hb34
  clear HP33
  obtain ⟨U22, hr22, hS22⟩ := ins_run 21 (HS.out.alloc (.cells #[.func (.func g32) #[] h32, .func (.func g34) #[] h34] 120)) HW 22 (by rfl) [(oneP isExpB), (betweenP 1 9223372036854775807 (onlyB 23))] (some ⟨V34.heap.size, 0, none⟩) 2 2 (by rfl) (by rfl) (pats2 HP32.out HP34.out HS.out.lt) (by decide)
  clear HS HP32 HP34; have HS : Hid (KS2 (w.heap.size + 3) w U22 (.func (.func g1) #[] h1) (.func (.func g2) #[] h2) (.func (.func g3) #[] h3) 22) := hS22; clear hS22
  go_wp2_with (first
    | (go_at_call 73; fail))
  clear hr22
  refine (one_c (b0 := w.heap.size + 3) isPatB (.func (.func 72) #[] #[]) _ (isPat_f _) HS.out.lt).mono ?_
  rintro e V35 ⟨x35, rfl, hp35, hb35⟩
  have HS1 : Hid (KS2 (w.heap.size + 3) w V35 (.func (.func g1) #[] h1) (.func (.func g2) #[] h2) (.func (.func g3) #[] h3) 22) := HS.out.below hb35
  clear HS; have HS := HS1; clear HS1
  have HP35 : Hid (PatOK (w.heap.size + 3) V35 x35 (oneP isPatB)) := hp35
  obtain ⟨g35, h35, rfl, -, -, -⟩ := hp35
  clear hb35
  go_wp2_with (first
    | (go_at_call 73; fail))
  refine (one_c (b0 := w.heap.size + 3) (onlyB 8) (.func (.func g2) #[] h2) _ HS.out.r HS.out.lt).mono ?_
  rintro e V36 ⟨x36, rfl, hp36, hb36⟩
  have HS1 : Hid (KS2 (w.heap.size + 3) w V36 (.func (.func g1) #[] h1) (.func (.func g2) #[] h2) (.func (.func g3) #[] h3) 22) := HS.out.below hb36
  clear HS; have HS := HS1; clear HS1
  have HX : Hid (PatOK (w.heap.size + 3) V36 (.func (.func g35) #[] h35) (oneP isPatB)) := HP35.out.below hb36; clear HP35; have HP35 := HX; clear HX
  have HP36 : Hid (PatOK (w.heap.size + 3) V36 x36 (oneP (onlyB 8))) := hp36
  obtain ⟨g36, h36, rfl, -, -, -⟩ := hp36
  clear hb36
  obtain ⟨U23, hr23, hS23⟩ := ins_run 22 (HS.out.alloc (.cells #[.func (.func g35) #[] h35, .func (.func g36) #[] h36] 120)) HW 23 (by rfl) [(oneP isPatB), (oneP (onlyB 8))] (some ⟨V36.heap.size, 0, none⟩) 2 2 (by rfl) (by rfl) (pats2 HP35.out HP36.out HS.out.lt) (by decide)
  clear HS HP35 HP36; have HS : Hid (KS2 (w.heap.size + 3) w U23 (.func (.func g1) #[] h1) (.func (.func g2) #[] h2) (.func (.func g3) #[] h3) 23) := hS23; clear hS23
  go_wp2_with (first
    | (go_at_call 78; fail))
  clear hr23
  refine (allButOne_c (b0 := w.heap.size + 3) isStmtB (.func (.func 79) #[] #[]) _ (isStmt_f _) HS.out.lt).mono ?_
  rintro e V37 ⟨x37, rfl, hp37, hb37⟩
  have HS1 : Hid (KS2 (w.heap.size + 3) w V37 (.func (.func g1) #[] h1) (.func (.func g2) #[] h2) (.func (.func g3) #[] h3) 23) := HS.out.below hb37
  clear HS; have HS := HS1; clear HS1
  have HP37 : Hid (PatOK (w.heap.size + 3) V37 x37 (allButOneP isStmtB)) := hp37
  obtain ⟨g37, h37, rfl, -, -, -⟩ := hp37
  clear hb37
  go_wp2_with (first
    | (go_at_call 68; fail))
  refine (only_c (b0 := w.heap.size + 3) 33 _ (by have := HS.out.lt; exact ⟨by omega, by omega⟩)).mono ?_
  rintro e V38 ⟨x38, rfl, hp38, hw38⟩
  have hb38 : Below V37.heap.size V37 V38 := by rw [hw38]; exact (Below.refl _ _).alloc (Nat.le_refl _) _
  clear hw38
  have HS1 : Hid (KS2 (w.heap.size + 3) w V38 (.func (.func g1) #[] h1) (.func (.func g2) #[] h2) (.func (.func g3) #[] h3) 23) := HS.out.below hb38
  clear HS; have HS := HS1; clear HS1
  have HX : Hid (PatOK (w.heap.size + 3) V38 (.func (.func g37) #[] h37) (allButOneP isStmtB)) := HP37.out.below hb38; clear HP37; have HP37 := HX; clear HX
  have HP38 : Hid (ClsOK (w.heap.size + 3) V38 x38 (onlyB 33)) := hp38
  obtain ⟨g38, h38, rfl, -, -⟩ := hp38
  clear hb38
  go_wp2_with (first
    | (go_at_call 73; fail))
  refine (one_c (b0 := w.heap.size + 3) (onlyB 33) (.func (.func g38) #[] h38) _ HP38.out HS.out.lt).mono ?_
  rintro e V39 ⟨x39, rfl, hp39, hb39⟩
  have HS1 : Hid (KS2 (w.heap.size + 3) w V39 (.func (.func g1) #[] h1) (.func (.func g2) #[] h2) (.func (.func g3) #[] h3) 23) := HS.out.below hb39
  clear HS; have HS := HS1; clear HS1
  have HX : Hid (PatOK (w.heap.size + 3) V39 (.func (.func g37) #[] h37) (allButOneP isStmtB)) := HP37.out.below hb39; clear HP37; have HP37 := HX; clear HX
  have HX : Hid (ClsOK (w.heap.size + 3) V39 (.func (.func g38) #[] h38) (onlyB 33)) := HP38.out.below hb39; clear HP38; have HP38 := HX; clear HX
  have HP39 : Hid (PatOK (w.heap.size + 3) V39 x39 (oneP (onlyB 33))) := hp39
  obtain ⟨g39, h39, rfl, -, -, -⟩ := hp39
  clear hb39
  clear HP38
  obtain ⟨U24, hr24, hS24⟩ := ins_run 23 (HS.out.alloc (.cells #[.func (.func g37) #[] h37, .func (.func g39) #[] h39] 120)) HW 24 (by rfl) [(allButOneP isStmtB), (oneP (onlyB 33))] (some ⟨V39.heap.size, 0, none⟩) 2 2 (by rfl) (by rfl) (pats2 HP37.out HP39.out HS.out.lt) (by decide)
  clear HS HP37 HP39; have HS : Hid (KS2 (w.heap.size + 3) w U24 (.func (.func g1) #[] h1) (.func (.func g2) #[] h2) (.func (.func g3) #[] h3) 24) := hS24; clear hS24
  go_wp2_with (first
    | (go_at_call 80; fail))
  clear hr24
  refine (between_c (b0 := w.heap.size + 3) 2 4 isExpB (.func (.func 75) #[] #[]) _ (isExp_f _) HS.out.lt).mono ?_
  rintro e V40 ⟨x40, rfl, hp40, hb40⟩
  have HS1 : Hid (KS2 (w.heap.size + 3) w V40 (.func (.func g1) #[] h1) (.func (.func g2) #[] h2) (.func (.func g3) #[] h3) 24) := HS.out.below hb40
  clear HS; have HS := HS1; clear HS1
  have HP40 : Hid (PatOK (w.heap.size + 3) V40 x40 (betweenP 2 4 isExpB)) := hp40
  obtain ⟨g40, h40, rfl, -, -, -⟩ := hp40
  clear hb40
  obtain ⟨U25, hr25, hS25⟩ := ins_run 24 (HS.out.alloc (.cells #[.func (.func g40) #[] h40] 120)) HW 25 (by rfl) [(betweenP 2 4 isExpB)] (some ⟨V40.heap.size, 0, none⟩) 1 1 (by rfl) (by rfl) (pats1 HP40.out HS.out.lt) (by decide)
  clear HS HP40; have HS : Hid (KS2 (w.heap.size + 3) w U25 (.func (.func g1) #[] h1) (.func (.func g2) #[] h2) (.func (.func g3) #[] h3) 25) := hS25; clear hS25
  go_wp2_with (first
    | (go_at_call 69; fail))
  clear hr25
  refine (many_c (b0 := w.heap.size + 3) isExpB (.func (.func 75) #[] #[]) _ (isExp_f _) HS.out.lt).mono ?_
  rintro e V41 ⟨x41, rfl, hp41, hb41⟩
  have HS1 : Hid (KS2 (w.heap.size + 3) w V41 (.func (.func g1) #[] h1) (.func (.func g2) #[] h2) (.func (.func g3) #[] h3) 25) := HS.out.below hb41
  clear HS; have HS := HS1; clear HS1
  have HP41 : Hid (PatOK (w.heap.size + 3) V41 x41 (betweenP 0 9223372036854775807 isExpB)) := hp41
  obtain ⟨g41, h41, rfl, -, -, -⟩ := hp41
  clear hb41
  obtain ⟨U26, hr26, hS26⟩ := ins_run 25 (HS.out.alloc (.cells #[.func (.func g41) #[] h41] 120)) HW 26 (by rfl) [(betweenP 0 9223372036854775807 isExpB)] (some ⟨V41.heap.size, 0, none⟩) 1 1 (by rfl) (by rfl) (pats1 HP41.out HS.out.lt) (by decide)
  clear HS HP41; have HS : Hid (KS2 (w.heap.size + 3) w U26 (.func (.func g1) #[] h1) (.func (.func g2) #[] h2) (.func (.func g3) #[] h3) 26) := hS26; clear hS26
  go_wp2_with (first
    | (go_at_call 73; fail))
  clear hr26
  refine (one_c (b0 := w.heap.size + 3) isExpB (.func (.func 75) #[] #[]) _ (isExp_f _) HS.out.lt).mono ?_
  rintro e V42 ⟨x42, rfl, hp42, hb42⟩
  have HS1 : Hid (KS2 (w.heap.size + 3) w V42 (.func (.func g1) #[] h1) (.func (.func g2) #[] h2) (.func (.func g3) #[] h3) 26) := HS.out.below hb42
  clear HS; have HS := HS1; clear HS1
  have HP42 : Hid (PatOK (w.heap.size + 3) V42 x42 (oneP isExpB)) := hp42
  obtain ⟨g42, h42, rfl, -, -, -⟩ := hp42
  clear hb42
  go_wp2_with (first
    | (go_at_call 71; fail))
  refine (some_c (b0 := w.heap.size + 3) isStmtB (.func (.func 79) #[] #[]) _ (isStmt_f _) HS.out.lt).mono ?_
  rintro e V43 ⟨x43, rfl, hp43, hb43⟩
  have HS1 : Hid (KS2 (w.heap.size + 3) w V43 (.func (.func g1) #[] h1) (.func (.func g2) #[] h2) (.func (.func g3) #[] h3) 26) := HS.out.below hb43
  clear HS; have HS := HS1; clear HS1
  have HX : Hid (PatOK (w.heap.size + 3) V43 (.func (.func g42) #[] h42) (oneP isExpB)) := HP42.out.below hb43; clear HP42; have HP42 := HX; clear HX
  have HP43 : Hid (PatOK (w.heap.size + 3) V43 x43 (betweenP 1 9223372036854775807 isStmtB)) := hp43
  obtain ⟨g43, h43, rfl, -, -, -⟩ := hp43
  clear hb43
  obtain ⟨U27, hr27, hS27⟩ := ins_run 26 (HS.out.alloc (.cells #[.func (.func g42) #[] h42, .func (.func g43) #[] h43] 120)) HW 27 (by rfl) [(oneP isExpB), (betweenP 1 9223372036854775807 isStmtB)] (some ⟨V43.heap.size, 0, none⟩) 2 2 (by rfl) (by rfl) (pats2 HP42.out HP43.out HS.out.lt) (by decide)
  clear HS HP42 HP43; have HS : Hid (KS2 (w.heap.size + 3) w U27 (.func (.func g1) #[] h1) (.func (.func g2) #[] h2) (.func (.func g3) #[] h3) 27) := hS27; clear hS27
  go_wp2_with (first
    | (go_at_call 73; fail))
  clear hr27
  refine (one_c (b0 := w.heap.size + 3) isExpB (.func (.func 75) #[] #[]) _ (isExp_f _) HS.out.lt).mono ?_
  rintro e V44 ⟨x44, rfl, hp44, hb44⟩
  have HS1 : Hid (KS2 (w.heap.size + 3) w V44 (.func (.func g1) #[] h1) (.func (.func g2) #[] h2) (.func (.func g3) #[] h3) 27) := HS.out.below hb44
  clear HS; have HS := HS1; clear HS1
  have HP44 : Hid (PatOK (w.heap.size + 3) V44 x44 (oneP isExpB)) := hp44
  obtain ⟨g44, h44, rfl, -, -, -⟩ := hp44
  clear hb44
  obtain ⟨U28, hr28, hS28⟩ := ins_run 27 (HS.out.alloc (.cells #[.func (.func g44) #[] h44] 120)) HW 28 (by rfl) [(oneP isExpB)] (some ⟨V44.heap.size, 0, none⟩) 1 1 (by rfl) (by rfl) (pats1 HP44.out HS.out.lt) (by decide)
  clear HS HP44; have HS : Hid (KS2 (w.heap.size + 3) w U28 (.func (.func g1) #[] h1) (.func (.func g2) #[] h2) (.func (.func g3) #[] h3) 28) := hS28; clear hS28
  go_wp2_with (first
    | (go_at_call 73; fail))
  clear hr28
  refine (one_c (b0 := w.heap.size + 3) isExpB (.func (.func 75) #[] #[]) _ (isExp_f _) HS.out.lt).mono ?_
  rintro e V45 ⟨x45, rfl, hp45, hb45⟩
  have HS1 : Hid (KS2 (w.heap.size + 3) w V45 (.func (.func g1) #[] h1) (.func (.func g2) #[] h2) (.func (.func g3) #[] h3) 28) := HS.out.below hb45
  clear HS; have HS := HS1; clear HS1
  have HP45 : Hid (PatOK (w.heap.size + 3) V45 x45 (oneP isExpB)) := hp45
  obtain ⟨g45, h45, rfl, -, -, -⟩ := hp45
  clear hb45
  obtain ⟨U29, hr29, hS29⟩ := ins_run 28 (HS.out.alloc (.cells #[.func (.func g45) #[] h45] 120)) HW 29 (by rfl) [(oneP isExpB)] (some ⟨V45.heap.size, 0, none⟩) 1 1 (by rfl) (by rfl) (pats1 HP45.out HS.out.lt) (by decide)
  clear HS HP45; have HS : Hid (KS2 (w.heap.size + 3) w U29 (.func (.func g1) #[] h1) (.func (.func g2) #[] h2) (.func (.func g3) #[] h3) 29) := hS29; clear hS29
  go_wp2_with (first
    | (go_at_call 73; fail))
  clear hr29
  refine (one_c (b0 := w.heap.size + 3) isExpB (.func (.func 75) #[] #[]) _ (isExp_f _) HS.out.lt).mono ?_
  rintro e V46 ⟨x46, rfl, hp46, hb46⟩
  have HS1 : Hid (KS2 (w.heap.size + 3) w V46 (.func (.func g1) #[] h1) (.func (.func g2) #[] h2) (.func (.func g3) #[] h3) 29) := HS.out.below hb46
  clear HS; have HS := HS1; clear HS1
  have HP46 : Hid (PatOK (w.heap.size + 3) V46 x46 (oneP isExpB)) := hp46
  obtain ⟨g46, h46, rfl, -, -, -⟩ := hp46
  clear hb46
  obtain ⟨U30, hr30, hS30⟩ := ins_run 29 (HS.out.alloc (.cells #[.func (.func g46) #[] h46] 120)) HW 30 (by rfl) [(oneP isExpB)] (some ⟨V46.heap.size, 0, none⟩) 1 1 (by rfl) (by rfl) (pats1 HP46.out HS.out.lt) (by decide)
  clear HS HP46; have HS : Hid (KS2 (w.heap.size + 3) w U30 (.func (.func g1) #[] h1) (.func (.func g2) #[] h2) (.func (.func g3) #[] h3) 30) := hS30; clear hS30
  go_wp2_with (first
    | (go_at_call 73; fail))
  clear hr30
  refine (one_c (b0 := w.heap.size + 3) isPatB (.func (.func 72) #[] #[]) _ (isPat_f _) HS.out.lt).mono ?_
  rintro e V47 ⟨x47, rfl, hp47, hb47⟩
  have HS1 : Hid (KS2 (w.heap.size + 3) w V47 (.func (.func g1) #[] h1) (.func (.func g2) #[] h2) (.func (.func g3) #[] h3) 30) := HS.out.below hb47
  clear HS; have HS := HS1; clear HS1
  have HP47 : Hid (PatOK (w.heap.size + 3) V47 x47 (oneP isPatB)) := hp47
  obtain ⟨g47, h47, rfl, -, -, -⟩ := hp47
  clear hb47
  go_wp2_with (first
    | (go_at_call 73; fail))
  refine (one_c (b0 := w.heap.size + 3) isExpB (.func (.func 75) #[] #[]) _ (isExp_f _) HS.out.lt).mono ?_
  rintro e V48 ⟨x48, rfl, hp48, hb48⟩
  have HS1 : Hid (KS2 (w.heap.size + 3) w V48 (.func (.func g1) #[] h1) (.func (.func g2) #[] h2) (.func (.func g3) #[] h3) 30) := HS.out.below hb48
  clear HS; have HS := HS1; clear HS1
  have HX : Hid (PatOK (w.heap.size + 3) V48 (.func (.func g47) #[] h47) (oneP isPatB)) := HP47.out.below hb48; clear HP47; have HP47 := HX; clear HX
  have HP48 : Hid (PatOK (w.heap.size + 3) V48 x48 (oneP isExpB)) := hp48
  obtain ⟨g48, h48, rfl, -, -, -⟩ := hp48
  clear hb48
  obtain ⟨U31, hr31, hS31⟩ := ins_run 30 (HS.out.alloc (.cells #[.func (.func g47) #[] h47, .func (.func g48) #[] h48] 120)) HW 31 (by rfl) [(oneP isPatB), (oneP isExpB)] (some ⟨V48.heap.size, 0, none⟩) 2 2 (by rfl) (by rfl) (pats2 HP47.out HP48.out HS.out.lt) (by decide)
  clear HS HP47 HP48; have HS : Hid (KS2 (w.heap.size + 3) w U31 (.func (.func g1) #[] h1) (.func (.func g2) #[] h2) (.func (.func g3) #[] h3) 31) := hS31; clear hS31
  go_wp2_with (first
    | (go_at_call 73; fail))
  clear hr31
  refine (one_c (b0 := w.heap.size + 3) (onlyB 10) (.func (.func g1) #[] h1) _ HS.out.w HS.out.lt).mono ?_
  rintro e V49 ⟨x49, rfl, hp49, hb49⟩
  have HS1 : Hid (KS2 (w.heap.size + 3) w V49 (.func (.func g1) #[] h1) (.func (.func g2) #[] h2) (.func (.func g3) #[] h3) 31) := HS.out.below hb49
  clear HS; have HS := HS1; clear HS1
  have HP49 : Hid (PatOK (w.heap.size + 3) V49 x49 (oneP (onlyB 10))) := hp49
  obtain ⟨g49, h49, rfl, -, -, -⟩ := hp49
  clear hb49
  obtain ⟨U32, hr32, hS32⟩ := ins_run 31 (HS.out.alloc (.cells #[.func (.func g49) #[] h49] 120)) HW 32 (by rfl) [(oneP (onlyB 10))] (some ⟨V49.heap.size, 0, none⟩) 1 1 (by rfl) (by rfl) (pats1 HP49.out HS.out.lt) (by decide)
  clear HS HP49; have HS : Hid (KS2 (w.heap.size + 3) w U32 (.func (.func g1) #[] h1) (.func (.func g2) #[] h2) (.func (.func g3) #[] h3) 32) := hS32; clear hS32
  go_wp2_with (first
    | (go_at_call 73; fail))
  clear hr32
  refine (one_c (b0 := w.heap.size + 3) isExpB (.func (.func 75) #[] #[]) _ (isExp_f _) HS.out.lt).mono ?_
  rintro e V50 ⟨x50, rfl, hp50, hb50⟩
  have HS1 : Hid (KS2 (w.heap.size + 3) w V50 (.func (.func g1) #[] h1) (.func (.func g2) #[] h2) (.func (.func g3) #[] h3) 32) := HS.out.below hb50
  clear HS; have HS := HS1; clear HS1
  have HP50 : Hid (PatOK (w.heap.size + 3) V50 x50 (oneP isExpB)) := hp50
  obtain ⟨g50, h50, rfl, -, -, -⟩ := hp50
  clear hb50
  obtain ⟨U33, hr33, hS33⟩ := ins_run 32 (HS.out.alloc (.cells #[.func (.func g50) #[] h50] 120)) HW 33 (by rfl) [(oneP isExpB)] (some ⟨V50.heap.size, 0, none⟩) 1 1 (by rfl) (by rfl) (pats1 HP50.out HS.out.lt) (by decide)
  clear HS HP50; have HS : Hid (KS2 (w.heap.size + 3) w U33 (.func (.func g1) #[] h1) (.func (.func g2) #[] h2) (.func (.func g3) #[] h3) 33) := hS33; clear hS33
  obtain ⟨U34, hr34, hS34⟩ := ins_run 33 (HS.out.alloc (.cells #[] 120)) HW 34 (by rfl) [] (some ⟨U33.heap.size, 0, none⟩) 0 0 (by rfl) (by rfl) (.inl rfl) (by decide)
  clear HS; have HS : Hid (KS2 (w.heap.size + 3) w U34 (.func (.func g1) #[] h1) (.func (.func g2) #[] h2) (.func (.func g3) #[] h3) 34) := hS34; clear hS34
  obtain ⟨U35, hr35, hS35⟩ := ins_run 34 (HS.out.alloc (.cells #[] 120)) HW 35 (by rfl) [] (some ⟨U34.heap.size, 0, none⟩) 0 0 (by rfl) (by rfl) (.inl rfl) (by decide)
  clear HS; have HS : Hid (KS2 (w.heap.size + 3) w U35 (.func (.func g1) #[] h1) (.func (.func g2) #[] h2) (.func (.func g3) #[] h3) 35) := hS35; clear hS35
  obtain ⟨U36, hr36, hS36⟩ := ins_run 35 (HS.out.alloc (.cells #[] 120)) HW 36 (by rfl) [] (some ⟨U35.heap.size, 0, none⟩) 0 0 (by rfl) (by rfl) (.inl rfl) (by decide)
  clear HS; have HS : Hid (KS2 (w.heap.size + 3) w U36 (.func (.func g1) #[] h1) (.func (.func g2) #[] h2) (.func (.func g3) #[] h3) 36) := hS36; clear hS36
  obtain ⟨U37, hr37, hS37⟩ := ins_run 36 (HS.out.alloc (.cells #[] 120)) HW 37 (by rfl) [] (some ⟨U36.heap.size, 0, none⟩) 0 0 (by rfl) (by rfl) (.inl rfl) (by decide)
  clear HS; have HS : Hid (KS2 (w.heap.size + 3) w U37 (.func (.func g1) #[] h1) (.func (.func g2) #[] h2) (.func (.func g3) #[] h3) 37) := hS37; clear hS37
  obtain ⟨U38, hr38, hS38⟩ := ins_run 37 (HS.out.alloc (.cells #[] 120)) HW 38 (by rfl) [] (some ⟨U37.heap.size, 0, none⟩) 0 0 (by rfl) (by rfl) (.inl rfl) (by decide)
  clear HS; have HS : Hid (KS2 (w.heap.size + 3) w U38 (.func (.func g1) #[] h1) (.func (.func g2) #[] h2) (.func (.func g3) #[] h3) 38) := hS38; clear hS38
  go_wp2_with (first
    | (go_at_call 69; fail))
  clear hr33 hr34 hr35 hr36 hr37 hr38
  refine (many_c (b0 := w.heap.size + 3) isPatB (.func (.func 72) #[] #[]) _ (isPat_f _) HS.out.lt).mono ?_
  rintro e V51 ⟨x51, rfl, hp51, hb51⟩
  have HS1 : Hid (KS2 (w.heap.size + 3) w V51 (.func (.func g1) #[] h1) (.func (.func g2) #[] h2) (.func (.func g3) #[] h3) 38) := HS.out.below hb51
  clear HS; have HS := HS1; clear HS1
  have HP51 : Hid (PatOK (w.heap.size + 3) V51 x51 (betweenP 0 9223372036854775807 isPatB)) := hp51
  obtain ⟨g51, h51, rfl, -, -, -⟩ := hp51
  clear hb51
  obtain ⟨U39, hr39, hS39⟩ := ins_run 38 (HS.out.alloc (.cells #[.func (.func g51) #[] h51] 120)) HW 39 (by rfl) [(betweenP 0 9223372036854775807 isPatB)] (some ⟨V51.heap.size, 0, none⟩) 1 1 (by rfl) (by rfl) (pats1 HP51.out HS.out.lt) (by decide)
  clear HS HP51; have HS : Hid (KS2 (w.heap.size + 3) w U39 (.func (.func g1) #[] h1) (.func (.func g2) #[] h2) (.func (.func g3) #[] h3) 39) := hS39; clear hS39
  go_wp2_with (first
    | (go_at_call 80; fail))
  clear hr39
  refine (between_c (b0 := w.heap.size + 3) 2 4 isPatB (.func (.func 72) #[] #[]) _ (isPat_f _) HS.out.lt).mono ?_
  rintro e V52 ⟨x52, rfl, hp52, hb52⟩
  have HS1 : Hid (KS2 (w.heap.size + 3) w V52 (.func (.func g1) #[] h1) (.func (.func g2) #[] h2) (.func (.func g3) #[] h3) 39) := HS.out.below hb52
  clear HS; have HS := HS1; clear HS1
  have HP52 : Hid (PatOK (w.heap.size + 3) V52 x52 (betweenP 2 4 isPatB)) := hp52
  obtain ⟨g52, h52, rfl, -, -, -⟩ := hp52
  clear hb52
  obtain ⟨U40, hr40, hS40⟩ := ins_run 39 (HS.out.alloc (.cells #[.func (.func g52) #[] h52] 120)) HW 40 (by rfl) [(betweenP 2 4 isPatB)] (some ⟨V52.heap.size, 0, none⟩) 1 1 (by rfl) (by rfl) (pats1 HP52.out HS.out.lt) (by decide)
  clear HS HP52; have HS : Hid (KS2 (w.heap.size + 3) w U40 (.func (.func g1) #[] h1) (.func (.func g2) #[] h2) (.func (.func g3) #[] h3) 40) := hS40; clear hS40
  go_wp2_with (first
    | (go_at_call 69; fail))
  clear hr40
  refine (many_c (b0 := w.heap.size + 3) isPatB (.func (.func 72) #[] #[]) _ (isPat_f _) HS.out.lt).mono ?_
  rintro e V53 ⟨x53, rfl, hp53, hb53⟩
  have HS1 : Hid (KS2 (w.heap.size + 3) w V53 (.func (.func g1) #[] h1) (.func (.func g2) #[] h2) (.func (.func g3) #[] h3) 40) := HS.out.below hb53
  clear HS; have HS := HS1; clear HS1
  have HP53 : Hid (PatOK (w.heap.size + 3) V53 x53 (betweenP 0 9223372036854775807 isPatB)) := hp53
  obtain ⟨g53, h53, rfl, -, -, -⟩ := hp53
  clear hb53
  obtain ⟨U41, hr41, hS41⟩ := ins_run 40 (HS.out.alloc (.cells #[.func (.func g53) #[] h53] 120)) HW 41 (by rfl) [(betweenP 0 9223372036854775807 isPatB)] (some ⟨V53.heap.size, 0, none⟩) 1 1 (by rfl) (by rfl) (pats1 HP53.out HS.out.lt) (by decide)
  clear HS HP53; have HS : Hid (KS2 (w.heap.size + 3) w U41 (.func (.func g1) #[] h1) (.func (.func g2) #[] h2) (.func (.func g3) #[] h3) 41) := hS41; clear hS41
  go_wp2_with (first
    | (go_at_call 73; fail))
  clear hr41
  refine (one_c (b0 := w.heap.size + 3) isPatB (.func (.func 72) #[] #[]) _ (isPat_f _) HS.out.lt).mono ?_
  rintro e V54 ⟨x54, rfl, hp54, hb54⟩
  have HS1 : Hid (KS2 (w.heap.size + 3) w V54 (.func (.func g1) #[] h1) (.func (.func g2) #[] h2) (.func (.func g3) #[] h3) 41) := HS.out.below hb54
  clear HS; have HS := HS1; clear HS1
  have HP54 : Hid (PatOK (w.heap.size + 3) V54 x54 (oneP isPatB)) := hp54
  obtain ⟨g54, h54, rfl, -, -, -⟩ := hp54
  clear hb54
  obtain ⟨U42, hr42, hS42⟩ := ins_run 41 (HS.out.alloc (.cells #[.func (.func g54) #[] h54] 120)) HW 42 (by rfl) [(oneP isPatB)] (some ⟨V54.heap.size, 0, none⟩) 1 1 (by rfl) (by rfl) (pats1 HP54.out HS.out.lt) (by decide)
  clear HS HP54; have HS : Hid (KS2 (w.heap.size + 3) w U42 (.func (.func g1) #[] h1) (.func (.func g2) #[] h2) (.func (.func g3) #[] h3) 42) := hS42; clear hS42
  go_wp2_with (first
    | (go_at_call 73; fail))
  clear hr42
  refine (one_c (b0 := w.heap.size + 3) isPatB (.func (.func 72) #[] #[]) _ (isPat_f _) HS.out.lt).mono ?_
  rintro e V55 ⟨x55, rfl, hp55, hb55⟩
  have HS1 : Hid (KS2 (w.heap.size + 3) w V55 (.func (.func g1) #[] h1) (.func (.func g2) #[] h2) (.func (.func g3) #[] h3) 42) := HS.out.below hb55
  clear HS; have HS := HS1; clear HS1
  have HP55 : Hid (PatOK (w.heap.size + 3) V55 x55 (oneP isPatB)) := hp55
  obtain ⟨g55, h55, rfl, -, -, -⟩ := hp55
  clear hb55
  obtain ⟨U43, hr43, hS43⟩ := ins_run 42 (HS.out.alloc (.cells #[.func (.func g55) #[] h55] 120)) HW 43 (by rfl) [(oneP isPatB)] (some ⟨V55.heap.size, 0, none⟩) 1 1 (by rfl) (by rfl) (pats1 HP55.out HS.out.lt) (by decide)
  clear HS HP55; have HS : Hid (KS2 (w.heap.size + 3) w U43 (.func (.func g1) #[] h1) (.func (.func g2) #[] h2) (.func (.func g3) #[] h3) 43) := hS43; clear hS43
  go_wp2_with (first
    | (go_at_call 73; fail))
  clear hr43
  refine (one_c (b0 := w.heap.size + 3) isPatB (.func (.func 72) #[] #[]) _ (isPat_f _) HS.out.lt).mono ?_
  rintro e V56 ⟨x56, rfl, hp56, hb56⟩
  have HS1 : Hid (KS2 (w.heap.size + 3) w V56 (.func (.func g1) #[] h1) (.func (.func g2) #[] h2) (.func (.func g3) #[] h3) 43) := HS.out.below hb56
  clear HS; have HS := HS1; clear HS1
  have HP56 : Hid (PatOK (w.heap.size + 3) V56 x56 (oneP isPatB)) := hp56
  obtain ⟨g56, h56, rfl, -, -, -⟩ := hp56
  clear hb56
  go_wp2_with (first
    | (go_at_call 77; fail))
  refine (turns_c (b0 := w.heap.size + 3) (onlyB 5) isPatB (.func (.func g3) #[] h3) (.func (.func 72) #[] #[]) _ HS.out.o (isPat_f _) HS.out.lt).mono ?_
  rintro e V57 ⟨x57, rfl, hp57, hb57⟩
  have HS1 : Hid (KS2 (w.heap.size + 3) w V57 (.func (.func g1) #[] h1) (.func (.func g2) #[] h2) (.func (.func g3) #[] h3) 43) := HS.out.below hb57
  clear HS; have HS := HS1; clear HS1
  have HX : Hid (PatOK (w.heap.size + 3) V57 (.func (.func g56) #[] h56) (oneP isPatB)) := HP56.out.below hb57; clear HP56; have HP56 := HX; clear HX
  have HP57 : Hid (PatOK (w.heap.size + 3) V57 x57 (turnsP (onlyB 5) isPatB)) := hp57
  obtain ⟨g57, h57, rfl, -, -, -⟩ := hp57
  clear hb57
  obtain ⟨U44, hr44, hS44⟩ := ins_run 43 (HS.out.alloc (.cells #[.func (.func g56) #[] h56, .func (.func g57) #[] h57] 120)) HW 44 (by rfl) [(oneP isPatB), (turnsP (onlyB 5) isPatB)] (some ⟨V57.heap.size, 0, none⟩) 2 2 (by rfl) (by rfl) (pats2 HP56.out HP57.out HS.out.lt) (by decide)
  clear HS HP56 HP57; have HS : Hid (KS2 (w.heap.size + 3) w U44 (.func (.func g1) #[] h1) (.func (.func g2) #[] h2) (.func (.func g3) #[] h3) 44) := hS44; clear hS44
  go_wp2
  clear hr44
  go_ret
  exact ⟨_, _, _, rfl, HS.out⟩

end Go.Proofs.YtndpebkiiemfpaaGreatDoor
