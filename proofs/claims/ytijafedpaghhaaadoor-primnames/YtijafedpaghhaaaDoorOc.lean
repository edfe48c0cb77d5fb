/-
  The law PrimNames, walked.
-/
import Derived.Test.YtijafedpaghhaaaDoorOb
namespace Go.Proofs.YtijafedpaghhaaaDoor
open Go.RowKit Go.Shelf Go.Maps
set_option linter.unusedVariables false

theorem psBlk1 {W : World} {g : Nat} {k n : Int} {t : ByteArray} (h : Blk W g #[.int .i64 k, .int .i64 n, .string t] 26) : PsIn W W.heap.size (some ⟨g, 0, none⟩) [⟨k, n, t⟩] := .inr ⟨g, 0, rfl, h.lt, fun j hj => match j, hj with
  | 0, _ => ⟨h.cell 0 _ rfl, h.cell 1 _ rfl, h.cell 2 _ rfl⟩⟩
theorem psBlk2 {W : World} {g : Nat} {k n k' n' : Int} {t t' : ByteArray} (h : Blk W g #[.int .i64 k, .int .i64 n, .string t, .int .i64 k', .int .i64 n', .string t'] 26) : PsIn W W.heap.size (some ⟨g, 0, none⟩) [⟨k, n, t⟩, ⟨k', n', t'⟩] := .inr ⟨g, 0, rfl, h.lt, fun j hj => match j, hj with
  | 0, _ => ⟨h.cell 0 _ rfl, h.cell 1 _ rfl, h.cell 2 _ rfl⟩
  | 1, _ => ⟨h.cell 3 _ rfl, h.cell 4 _ rfl, h.cell 5 _ rfl⟩⟩
set_option maxRecDepth 100000 in
set_option maxHeartbeats 8000000 in
theorem lawNames_c (w : World) (hG : GP w) : Calls Tryd.prog 3 #[] w fun e w' => e = .returned (.bool true) ∧ Below w.heap.size w w' := by
  have HG : Hid (GP w) := hG
  clear hG
  have HTq : Hid (∀ W : World, Calls Tryd.prog 7 #[.string ⟨#[113, 117, 111, 116]⟩, .int .i64 1, .int .i64 0] W fun e w' => e = .returned (.tuple #[.agg #[.int .i64 4, .int .i64 0, .string ⟨#[100, 105, 118, 105, 100, 101, 32, 98, 121, 32, 122, 101, 114, 111]⟩], .bool true]) ∧ Below W.heap.size W w') := fun W => two_c nm_quot (by decide) quotM op_quot ar_quot 1 0 (by decide) (by decide) 4 0 divZero (by simp [quotM]) W
  have HNm : Hid (∀ (n : Int) (W : World), Calls Tryd.prog 9 #[.int .i64 n] W fun e w' => e = .returned (.agg #[.int .i64 1, .int .i64 n, .string ⟨#[]⟩]) ∧ Below W.heap.size W w') := fun n W => num_c n W
  have HA0 : Hid (∀ (W : World) (g : Nat), Blk W g #[.int .i64 1, .int .i64 256, .string ⟨#[]⟩] 26 → Calls Tryd.prog 8 #[.string ⟨#[99, 104, 114]⟩, .slice (some ⟨g, 0, none⟩) 1 1] W fun e w' => e = .returned (.tuple #[.agg #[.int .i64 4, .int .i64 0, .string ⟨#[99, 104, 114, 32, 111, 117, 116, 32, 111, 102, 32, 114, 97, 110, 103, 101]⟩], .int .i64 0]) ∧ Below W.heap.size W w') := by
    intro W g h
    have hc := apply_c ⟨#[99, 104, 114]⟩ (by decide) (some ⟨g, 0, none⟩) 1 [⟨1, 256, ⟨#[]⟩⟩] W (psBlk1 h) (by intro p hp; simp at hp; subst hp; decide)
    have e : applyM [99, 104, 114] [⟨1, 256, ⟨#[]⟩⟩] = (.agg #[.int .i64 4, .int .i64 0, .string ⟨#[99, 104, 114, 32, 111, 117, 116, 32, 111, 102, 32, 114, 97, 110, 103, 101]⟩], 0) := by simp [applyM, opOf, okP, mayM, toL, chrM, inCode, pv, chrRange, show arM [99, 104, 114] = 1 from by decide]
    rw [show (ByteArray.mk #[99, 104, 114]).data.toList = [99, 104, 114] from rfl, e] at hc
    exact hc
  have HA1 : Hid (∀ (W : World) (g : Nat), Blk W g #[.int .i64 1, .int .i64 65, .string ⟨#[]⟩] 26 → Calls Tryd.prog 8 #[.string ⟨#[99, 104, 114]⟩, .slice (some ⟨g, 0, none⟩) 1 1] W fun e w' => e = .returned (.tuple #[.agg #[.int .i64 2, .int .i64 65, .string ⟨#[]⟩], .int .i64 0]) ∧ Below W.heap.size W w') := by
    intro W g h
    have hc := apply_c ⟨#[99, 104, 114]⟩ (by decide) (some ⟨g, 0, none⟩) 1 [⟨1, 65, ⟨#[]⟩⟩] W (psBlk1 h) (by intro p hp; simp at hp; subst hp; decide)
    have e : applyM [99, 104, 114] [⟨1, 65, ⟨#[]⟩⟩] = (.agg #[.int .i64 2, .int .i64 65, .string ⟨#[]⟩], 0) := by simp [applyM, opOf, okP, mayM, toL, chrM, inCode, pv, noText, show arM [99, 104, 114] = 1 from by decide]
    rw [show (ByteArray.mk #[99, 104, 114]).data.toList = [99, 104, 114] from rfl, e] at hc
    exact hc
  have HA2 : Hid (∀ (W : World) (g : Nat), Blk W g #[.int .i64 1, .int .i64 1, .string ⟨#[]⟩] 26 → Calls Tryd.prog 8 #[.string ⟨#[97, 100, 100]⟩, .slice (some ⟨g, 0, none⟩) 1 1] W fun e w' => e = .returned (.tuple #[.agg #[.int .i64 0, .int .i64 0, .string ⟨#[]⟩], .int .i64 2]) ∧ Below W.heap.size W w') := by
    intro W g h
    have hc := apply_c ⟨#[97, 100, 100]⟩ (by decide) (some ⟨g, 0, none⟩) 1 [⟨1, 1, ⟨#[]⟩⟩] W (psBlk1 h) (by intro p hp; simp at hp; subst hp; decide)
    have e : applyM [97, 100, 100] [⟨1, 1, ⟨#[]⟩⟩] = (.agg #[.int .i64 0, .int .i64 0, .string ⟨#[]⟩], 2) := by simp [applyM, opOf, okP, mayM, toL, inCode, pz, pv, noText, show arM [97, 100, 100] = 2 from by decide]
    rw [show (ByteArray.mk #[97, 100, 100]).data.toList = [97, 100, 100] from rfl, e] at hc
    exact hc
  have HA3 : Hid (∀ (W : World) (g : Nat), Blk W g #[.int .i64 1, .int .i64 1, .string ⟨#[]⟩, .int .i64 2, .int .i64 97, .string ⟨#[]⟩] 26 → Calls Tryd.prog 8 #[.string ⟨#[97, 100, 100]⟩, .slice (some ⟨g, 0, none⟩) 2 2] W fun e w' => e = .returned (.tuple #[.agg #[.int .i64 0, .int .i64 0, .string ⟨#[]⟩], .int .i64 2]) ∧ Below W.heap.size W w') := by
    intro W g h
    have hc := apply_c ⟨#[97, 100, 100]⟩ (by decide) (some ⟨g, 0, none⟩) 2 [⟨1, 1, ⟨#[]⟩⟩, ⟨2, 97, ⟨#[]⟩⟩] W (psBlk2 h) (by intro p hp; simp at hp; rcases hp with rfl | rfl <;> decide)
    have e : applyM [97, 100, 100] [⟨1, 1, ⟨#[]⟩⟩, ⟨2, 97, ⟨#[]⟩⟩] = (.agg #[.int .i64 0, .int .i64 0, .string ⟨#[]⟩], 2) := by simp [applyM, opOf, okP, mayM, toL, inCode, pz, pv, noText, show arM [97, 100, 100] = 2 from by decide]
    rw [show (ByteArray.mk #[97, 100, 100]).data.toList = [97, 100, 100] from rfl, e] at hc
    exact hc
  have HA4 : Hid (∀ (W : World) (g : Nat), Blk W g #[.int .i64 1, .int .i64 1, .string ⟨#[]⟩, .int .i64 1, .int .i64 2, .string ⟨#[]⟩] 26 → Calls Tryd.prog 8 #[.string ⟨#[115, 101, 113]⟩, .slice (some ⟨g, 0, none⟩) 2 2] W fun e w' => e = .returned (.tuple #[.agg #[.int .i64 0, .int .i64 0, .string ⟨#[]⟩], .int .i64 2]) ∧ Below W.heap.size W w') := by
    intro W g h
    have hc := apply_c ⟨#[115, 101, 113]⟩ (by decide) (some ⟨g, 0, none⟩) 2 [⟨1, 1, ⟨#[]⟩⟩, ⟨1, 2, ⟨#[]⟩⟩] W (psBlk2 h) (by intro p hp; simp at hp; rcases hp with rfl | rfl <;> decide)
    have e : applyM [115, 101, 113] [⟨1, 1, ⟨#[]⟩⟩, ⟨1, 2, ⟨#[]⟩⟩] = (.agg #[.int .i64 0, .int .i64 0, .string ⟨#[]⟩], 2) := by simp [applyM, opOf, pz, pv, noText]
    rw [show (ByteArray.mk #[115, 101, 113]).data.toList = [115, 101, 113] from rfl, e] at hc
    exact hc
  have HS0 : Hid (∀ W : World, Calls Tryd.prog 10 #[.string ⟨#[97, 100, 100]⟩] W fun e w' => e = .returned (.int .i64 2) ∧ Below W.heap.size W w') := fun W => strict_c ⟨#[97, 100, 100]⟩ (by decide) W
  have HS1 : Hid (∀ W : World, Calls Tryd.prog 10 #[.string ⟨#[115, 101, 113]⟩] W fun e w' => e = .returned (.int .i64 1) ∧ Below W.heap.size W w') := fun W => strict_c ⟨#[115, 101, 113]⟩ (by decide) W
  have HS2 : Hid (∀ W : World, Calls Tryd.prog 10 #[.string ⟨#[98, 105, 110, 100]⟩] W fun e w' => e = .returned (.int .i64 0) ∧ Below W.heap.size W w') := fun W => strict_c ⟨#[98, 105, 110, 100]⟩ (by decide) W
  have HSh : Hid (∀ W : World, GP W → Calls Tryd.prog 11 #[.int .i64 (-5)] W fun e w' => e = .returned (.string ⟨#[45, 53]⟩) ∧ Below W.heap.size W w') := fun W h => by have := show_c (-5) (by decide) W h; rw [show shM (-5) = ⟨#[45, 53]⟩ from by kernel_rfl] at this; exact this
  have hgd := guardP
  have hq0 : ∀ W : World, (binOp .eql 26 (.agg #[.int .i64 4, .int .i64 0, .string ⟨#[100, 105, 118, 105, 100, 101, 32, 98, 121, 32, 122, 101, 114, 111]⟩]) (.agg #[.int .i64 4, .int .i64 0, .string ⟨#[100, 105, 118, 105, 100, 101, 32, 98, 121, 32, 122, 101, 114, 111]⟩])).run Tryd.prog W = .ok (.bool true) W := fun W => by rw [eqPrim]; simp
  have hq1 : ∀ W : World, (binOp .eql 26 (.agg #[.int .i64 4, .int .i64 0, .string ⟨#[99, 104, 114, 32, 111, 117, 116, 32, 111, 102, 32, 114, 97, 110, 103, 101]⟩]) (.agg #[.int .i64 4, .int .i64 0, .string ⟨#[99, 104, 114, 32, 111, 117, 116, 32, 111, 102, 32, 114, 97, 110, 103, 101]⟩])).run Tryd.prog W = .ok (.bool true) W := fun W => by rw [eqPrim]; simp
  have hq2 : ∀ W : World, (binOp .eql 26 (.agg #[.int .i64 2, .int .i64 65, .string ⟨#[]⟩]) (.agg #[.int .i64 2, .int .i64 65, .string ⟨#[]⟩])).run Tryd.prog W = .ok (.bool true) W := fun W => by rw [eqPrim]; simp
  go_enter Tryd.func3, Tryd.ntmps3
  go_wp2_with (go_at_call 5; fail)
  refine (lives_c _).mono ?_
  rintro e w1 ⟨rfl, hb⟩
  have HB1 : Hid (Below w.heap.size w w1) := hb
  clear hb
  go_wp2_with (go_at_call 6; fail)
  refine (names_c _).mono ?_
  rintro e w2 ⟨gN, capN, rfl, -, hb⟩
  have HB2 : Hid (Below w.heap.size w w2) := HB1.out.trans (hb.mono HB1.out.size)
  clear hb
  go_wp2_with (go_at_call 7; fail)
  refine (HTq.out _).mono ?_
  rintro e w3 ⟨rfl, hb⟩
  have HB3 : Hid (Below w.heap.size w w3) := HB2.out.trans (hb.mono HB2.out.size)
  clear hb
  have HB4 : Hid (Below w.heap.size w (w3.alloc (.cells #[.int .i64 4, .int .i64 0, .string ⟨#[100, 105, 118, 105, 100, 101, 32, 98, 121, 32, 122, 101, 114, 111]⟩] 26))) := HB3.out.alloc HB3.out.size _
  obtain ⟨P1, hP1⟩ : ∃ P, w3.heap.size = P := ⟨_, rfl⟩
  have HP1 : Hid (Blk (w3.alloc (.cells #[.int .i64 4, .int .i64 0, .string ⟨#[100, 105, 118, 105, 100, 101, 32, 98, 121, 32, 122, 101, 114, 111]⟩] 26)) P1 #[.int .i64 4, .int .i64 0, .string ⟨#[100, 105, 118, 105, 100, 101, 32, 98, 121, 32, 122, 101, 114, 111]⟩] 26) := by rw [← hP1]; exact Blk.new _ _ _
  go_wp2_with (go_at_call 9; fail)
  refine (HNm.out 256 _).mono ?_
  rintro e w5 ⟨rfl, hb⟩
  have HB5 : Hid (Below w.heap.size w w5) := HB4.out.trans (hb.mono HB4.out.size)
  have HP1 : Hid (Blk w5 P1 #[.int .i64 4, .int .i64 0, .string ⟨#[100, 105, 118, 105, 100, 101, 32, 98, 121, 32, 122, 101, 114, 111]⟩] 26) := HP1.out.below hb
  clear hb
  have HB6 : Hid (Below w.heap.size w (w5.alloc (.cells #[.int .i64 1, .int .i64 256, .string ⟨#[]⟩] 26))) := HB5.out.alloc HB5.out.size _
  have HP1 : Hid (Blk (w5.alloc (.cells #[.int .i64 1, .int .i64 256, .string ⟨#[]⟩] 26)) P1 #[.int .i64 4, .int .i64 0, .string ⟨#[100, 105, 118, 105, 100, 101, 32, 98, 121, 32, 122, 101, 114, 111]⟩] 26) := HP1.out.alloc _
  go_wp2_with (go_at_call 8; fail)
  refine (HA0.out _ w5.heap.size (Blk.new w5 _ _)).mono ?_
  rintro e w7 ⟨rfl, hb⟩
  have HB7 : Hid (Below w.heap.size w w7) := HB6.out.trans (hb.mono HB6.out.size)
  have HP1 : Hid (Blk w7 P1 #[.int .i64 4, .int .i64 0, .string ⟨#[100, 105, 118, 105, 100, 101, 32, 98, 121, 32, 122, 101, 114, 111]⟩] 26) := HP1.out.below hb
  clear hb
  have HB8 : Hid (Below w.heap.size w (w7.alloc (.cells #[.int .i64 4, .int .i64 0, .string ⟨#[99, 104, 114, 32, 111, 117, 116, 32, 111, 102, 32, 114, 97, 110, 103, 101]⟩] 26))) := HB7.out.alloc HB7.out.size _
  have HP1 : Hid (Blk (w7.alloc (.cells #[.int .i64 4, .int .i64 0, .string ⟨#[99, 104, 114, 32, 111, 117, 116, 32, 111, 102, 32, 114, 97, 110, 103, 101]⟩] 26)) P1 #[.int .i64 4, .int .i64 0, .string ⟨#[100, 105, 118, 105, 100, 101, 32, 98, 121, 32, 122, 101, 114, 111]⟩] 26) := HP1.out.alloc _
  obtain ⟨P3, hP3⟩ : ∃ P, w7.heap.size = P := ⟨_, rfl⟩
  have HP3 : Hid (Blk (w7.alloc (.cells #[.int .i64 4, .int .i64 0, .string ⟨#[99, 104, 114, 32, 111, 117, 116, 32, 111, 102, 32, 114, 97, 110, 103, 101]⟩] 26)) P3 #[.int .i64 4, .int .i64 0, .string ⟨#[99, 104, 114, 32, 111, 117, 116, 32, 111, 102, 32, 114, 97, 110, 103, 101]⟩] 26) := by rw [← hP3]; exact Blk.new _ _ _
  go_wp2_with (go_at_call 9; fail)
  refine (HNm.out 65 _).mono ?_
  rintro e w9 ⟨rfl, hb⟩
  have HB9 : Hid (Below w.heap.size w w9) := HB8.out.trans (hb.mono HB8.out.size)
  have HP1 : Hid (Blk w9 P1 #[.int .i64 4, .int .i64 0, .string ⟨#[100, 105, 118, 105, 100, 101, 32, 98, 121, 32, 122, 101, 114, 111]⟩] 26) := HP1.out.below hb
  have HP3 : Hid (Blk w9 P3 #[.int .i64 4, .int .i64 0, .string ⟨#[99, 104, 114, 32, 111, 117, 116, 32, 111, 102, 32, 114, 97, 110, 103, 101]⟩] 26) := HP3.out.below hb
  clear hb
  have HB10 : Hid (Below w.heap.size w (w9.alloc (.cells #[.int .i64 1, .int .i64 65, .string ⟨#[]⟩] 26))) := HB9.out.alloc HB9.out.size _
  have HP1 : Hid (Blk (w9.alloc (.cells #[.int .i64 1, .int .i64 65, .string ⟨#[]⟩] 26)) P1 #[.int .i64 4, .int .i64 0, .string ⟨#[100, 105, 118, 105, 100, 101, 32, 98, 121, 32, 122, 101, 114, 111]⟩] 26) := HP1.out.alloc _
  have HP3 : Hid (Blk (w9.alloc (.cells #[.int .i64 1, .int .i64 65, .string ⟨#[]⟩] 26)) P3 #[.int .i64 4, .int .i64 0, .string ⟨#[99, 104, 114, 32, 111, 117, 116, 32, 111, 102, 32, 114, 97, 110, 103, 101]⟩] 26) := HP3.out.alloc _
  go_wp2_with (go_at_call 8; fail)
  refine (HA1.out _ w9.heap.size (Blk.new w9 _ _)).mono ?_
  rintro e w11 ⟨rfl, hb⟩
  have HB11 : Hid (Below w.heap.size w w11) := HB10.out.trans (hb.mono HB10.out.size)
  have HP1 : Hid (Blk w11 P1 #[.int .i64 4, .int .i64 0, .string ⟨#[100, 105, 118, 105, 100, 101, 32, 98, 121, 32, 122, 101, 114, 111]⟩] 26) := HP1.out.below hb
  have HP3 : Hid (Blk w11 P3 #[.int .i64 4, .int .i64 0, .string ⟨#[99, 104, 114, 32, 111, 117, 116, 32, 111, 102, 32, 114, 97, 110, 103, 101]⟩] 26) := HP3.out.below hb
  clear hb
  have HB12 : Hid (Below w.heap.size w (w11.alloc (.cells #[.int .i64 2, .int .i64 65, .string ⟨#[]⟩] 26))) := HB11.out.alloc HB11.out.size _
  have HP1 : Hid (Blk (w11.alloc (.cells #[.int .i64 2, .int .i64 65, .string ⟨#[]⟩] 26)) P1 #[.int .i64 4, .int .i64 0, .string ⟨#[100, 105, 118, 105, 100, 101, 32, 98, 121, 32, 122, 101, 114, 111]⟩] 26) := HP1.out.alloc _
  have HP3 : Hid (Blk (w11.alloc (.cells #[.int .i64 2, .int .i64 65, .string ⟨#[]⟩] 26)) P3 #[.int .i64 4, .int .i64 0, .string ⟨#[99, 104, 114, 32, 111, 117, 116, 32, 111, 102, 32, 114, 97, 110, 103, 101]⟩] 26) := HP3.out.alloc _
  obtain ⟨P5, hP5⟩ : ∃ P, w11.heap.size = P := ⟨_, rfl⟩
  have HP5 : Hid (Blk (w11.alloc (.cells #[.int .i64 2, .int .i64 65, .string ⟨#[]⟩] 26)) P5 #[.int .i64 2, .int .i64 65, .string ⟨#[]⟩] 26) := by rw [← hP5]; exact Blk.new _ _ _
  go_wp2_with (go_at_call 9; fail)
  refine (HNm.out 1 _).mono ?_
  rintro e w13 ⟨rfl, hb⟩
  have HB13 : Hid (Below w.heap.size w w13) := HB12.out.trans (hb.mono HB12.out.size)
  have HP1 : Hid (Blk w13 P1 #[.int .i64 4, .int .i64 0, .string ⟨#[100, 105, 118, 105, 100, 101, 32, 98, 121, 32, 122, 101, 114, 111]⟩] 26) := HP1.out.below hb
  have HP3 : Hid (Blk w13 P3 #[.int .i64 4, .int .i64 0, .string ⟨#[99, 104, 114, 32, 111, 117, 116, 32, 111, 102, 32, 114, 97, 110, 103, 101]⟩] 26) := HP3.out.below hb
  have HP5 : Hid (Blk w13 P5 #[.int .i64 2, .int .i64 65, .string ⟨#[]⟩] 26) := HP5.out.below hb
  clear hb
  have HB14 : Hid (Below w.heap.size w (w13.alloc (.cells #[.int .i64 1, .int .i64 1, .string ⟨#[]⟩] 26))) := HB13.out.alloc HB13.out.size _
  have HP1 : Hid (Blk (w13.alloc (.cells #[.int .i64 1, .int .i64 1, .string ⟨#[]⟩] 26)) P1 #[.int .i64 4, .int .i64 0, .string ⟨#[100, 105, 118, 105, 100, 101, 32, 98, 121, 32, 122, 101, 114, 111]⟩] 26) := HP1.out.alloc _
  have HP3 : Hid (Blk (w13.alloc (.cells #[.int .i64 1, .int .i64 1, .string ⟨#[]⟩] 26)) P3 #[.int .i64 4, .int .i64 0, .string ⟨#[99, 104, 114, 32, 111, 117, 116, 32, 111, 102, 32, 114, 97, 110, 103, 101]⟩] 26) := HP3.out.alloc _
  have HP5 : Hid (Blk (w13.alloc (.cells #[.int .i64 1, .int .i64 1, .string ⟨#[]⟩] 26)) P5 #[.int .i64 2, .int .i64 65, .string ⟨#[]⟩] 26) := HP5.out.alloc _
  go_wp2_with (go_at_call 8; fail)
  refine (HA2.out _ w13.heap.size (Blk.new w13 _ _)).mono ?_
  rintro e w15 ⟨rfl, hb⟩
  have HB15 : Hid (Below w.heap.size w w15) := HB14.out.trans (hb.mono HB14.out.size)
  have HP1 : Hid (Blk w15 P1 #[.int .i64 4, .int .i64 0, .string ⟨#[100, 105, 118, 105, 100, 101, 32, 98, 121, 32, 122, 101, 114, 111]⟩] 26) := HP1.out.below hb
  have HP3 : Hid (Blk w15 P3 #[.int .i64 4, .int .i64 0, .string ⟨#[99, 104, 114, 32, 111, 117, 116, 32, 111, 102, 32, 114, 97, 110, 103, 101]⟩] 26) := HP3.out.below hb
  have HP5 : Hid (Blk w15 P5 #[.int .i64 2, .int .i64 65, .string ⟨#[]⟩] 26) := HP5.out.below hb
  clear hb
  have HB16 : Hid (Below w.heap.size w (w15.alloc (.cells #[.int .i64 0, .int .i64 0, .string ⟨#[]⟩] 26))) := HB15.out.alloc HB15.out.size _
  have HP1 : Hid (Blk (w15.alloc (.cells #[.int .i64 0, .int .i64 0, .string ⟨#[]⟩] 26)) P1 #[.int .i64 4, .int .i64 0, .string ⟨#[100, 105, 118, 105, 100, 101, 32, 98, 121, 32, 122, 101, 114, 111]⟩] 26) := HP1.out.alloc _
  have HP3 : Hid (Blk (w15.alloc (.cells #[.int .i64 0, .int .i64 0, .string ⟨#[]⟩] 26)) P3 #[.int .i64 4, .int .i64 0, .string ⟨#[99, 104, 114, 32, 111, 117, 116, 32, 111, 102, 32, 114, 97, 110, 103, 101]⟩] 26) := HP3.out.alloc _
  have HP5 : Hid (Blk (w15.alloc (.cells #[.int .i64 0, .int .i64 0, .string ⟨#[]⟩] 26)) P5 #[.int .i64 2, .int .i64 65, .string ⟨#[]⟩] 26) := HP5.out.alloc _
  go_wp2_with (go_at_call 9; fail)
  refine (HNm.out 1 _).mono ?_
  rintro e w17 ⟨rfl, hb⟩
  have HB17 : Hid (Below w.heap.size w w17) := HB16.out.trans (hb.mono HB16.out.size)
  have HP1 : Hid (Blk w17 P1 #[.int .i64 4, .int .i64 0, .string ⟨#[100, 105, 118, 105, 100, 101, 32, 98, 121, 32, 122, 101, 114, 111]⟩] 26) := HP1.out.below hb
  have HP3 : Hid (Blk w17 P3 #[.int .i64 4, .int .i64 0, .string ⟨#[99, 104, 114, 32, 111, 117, 116, 32, 111, 102, 32, 114, 97, 110, 103, 101]⟩] 26) := HP3.out.below hb
  have HP5 : Hid (Blk w17 P5 #[.int .i64 2, .int .i64 65, .string ⟨#[]⟩] 26) := HP5.out.below hb
  clear hb
  have HB18 : Hid (Below w.heap.size w (w17.alloc (.cells #[.int .i64 1, .int .i64 1, .string ⟨#[]⟩, .int .i64 2, .int .i64 97, .string ⟨#[]⟩] 26))) := HB17.out.alloc HB17.out.size _
  have HP1 : Hid (Blk (w17.alloc (.cells #[.int .i64 1, .int .i64 1, .string ⟨#[]⟩, .int .i64 2, .int .i64 97, .string ⟨#[]⟩] 26)) P1 #[.int .i64 4, .int .i64 0, .string ⟨#[100, 105, 118, 105, 100, 101, 32, 98, 121, 32, 122, 101, 114, 111]⟩] 26) := HP1.out.alloc _
  have HP3 : Hid (Blk (w17.alloc (.cells #[.int .i64 1, .int .i64 1, .string ⟨#[]⟩, .int .i64 2, .int .i64 97, .string ⟨#[]⟩] 26)) P3 #[.int .i64 4, .int .i64 0, .string ⟨#[99, 104, 114, 32, 111, 117, 116, 32, 111, 102, 32, 114, 97, 110, 103, 101]⟩] 26) := HP3.out.alloc _
  have HP5 : Hid (Blk (w17.alloc (.cells #[.int .i64 1, .int .i64 1, .string ⟨#[]⟩, .int .i64 2, .int .i64 97, .string ⟨#[]⟩] 26)) P5 #[.int .i64 2, .int .i64 65, .string ⟨#[]⟩] 26) := HP5.out.alloc _
  go_wp2_with (go_at_call 8; fail)
  refine (HA3.out _ w17.heap.size (Blk.new w17 _ _)).mono ?_
  rintro e w19 ⟨rfl, hb⟩
  have HB19 : Hid (Below w.heap.size w w19) := HB18.out.trans (hb.mono HB18.out.size)
  have HP1 : Hid (Blk w19 P1 #[.int .i64 4, .int .i64 0, .string ⟨#[100, 105, 118, 105, 100, 101, 32, 98, 121, 32, 122, 101, 114, 111]⟩] 26) := HP1.out.below hb
  have HP3 : Hid (Blk w19 P3 #[.int .i64 4, .int .i64 0, .string ⟨#[99, 104, 114, 32, 111, 117, 116, 32, 111, 102, 32, 114, 97, 110, 103, 101]⟩] 26) := HP3.out.below hb
  have HP5 : Hid (Blk w19 P5 #[.int .i64 2, .int .i64 65, .string ⟨#[]⟩] 26) := HP5.out.below hb
  clear hb
  have HB20 : Hid (Below w.heap.size w (w19.alloc (.cells #[.int .i64 0, .int .i64 0, .string ⟨#[]⟩] 26))) := HB19.out.alloc HB19.out.size _
  have HP1 : Hid (Blk (w19.alloc (.cells #[.int .i64 0, .int .i64 0, .string ⟨#[]⟩] 26)) P1 #[.int .i64 4, .int .i64 0, .string ⟨#[100, 105, 118, 105, 100, 101, 32, 98, 121, 32, 122, 101, 114, 111]⟩] 26) := HP1.out.alloc _
  have HP3 : Hid (Blk (w19.alloc (.cells #[.int .i64 0, .int .i64 0, .string ⟨#[]⟩] 26)) P3 #[.int .i64 4, .int .i64 0, .string ⟨#[99, 104, 114, 32, 111, 117, 116, 32, 111, 102, 32, 114, 97, 110, 103, 101]⟩] 26) := HP3.out.alloc _
  have HP5 : Hid (Blk (w19.alloc (.cells #[.int .i64 0, .int .i64 0, .string ⟨#[]⟩] 26)) P5 #[.int .i64 2, .int .i64 65, .string ⟨#[]⟩] 26) := HP5.out.alloc _
  go_wp2_with (go_at_call 9; fail)
  refine (HNm.out 1 _).mono ?_
  rintro e w21 ⟨rfl, hb⟩
  have HB21 : Hid (Below w.heap.size w w21) := HB20.out.trans (hb.mono HB20.out.size)
  have HP1 : Hid (Blk w21 P1 #[.int .i64 4, .int .i64 0, .string ⟨#[100, 105, 118, 105, 100, 101, 32, 98, 121, 32, 122, 101, 114, 111]⟩] 26) := HP1.out.below hb
  have HP3 : Hid (Blk w21 P3 #[.int .i64 4, .int .i64 0, .string ⟨#[99, 104, 114, 32, 111, 117, 116, 32, 111, 102, 32, 114, 97, 110, 103, 101]⟩] 26) := HP3.out.below hb
  have HP5 : Hid (Blk w21 P5 #[.int .i64 2, .int .i64 65, .string ⟨#[]⟩] 26) := HP5.out.below hb
  clear hb
  go_wp2_with (go_at_call 9; fail)
  refine (HNm.out 2 _).mono ?_
  rintro e w22 ⟨rfl, hb⟩
  have HB22 : Hid (Below w.heap.size w w22) := HB21.out.trans (hb.mono HB21.out.size)
  have HP1 : Hid (Blk w22 P1 #[.int .i64 4, .int .i64 0, .string ⟨#[100, 105, 118, 105, 100, 101, 32, 98, 121, 32, 122, 101, 114, 111]⟩] 26) := HP1.out.below hb
  have HP3 : Hid (Blk w22 P3 #[.int .i64 4, .int .i64 0, .string ⟨#[99, 104, 114, 32, 111, 117, 116, 32, 111, 102, 32, 114, 97, 110, 103, 101]⟩] 26) := HP3.out.below hb
  have HP5 : Hid (Blk w22 P5 #[.int .i64 2, .int .i64 65, .string ⟨#[]⟩] 26) := HP5.out.below hb
  clear hb
  have HB23 : Hid (Below w.heap.size w (w22.alloc (.cells #[.int .i64 1, .int .i64 1, .string ⟨#[]⟩, .int .i64 1, .int .i64 2, .string ⟨#[]⟩] 26))) := HB22.out.alloc HB22.out.size _
  have HP1 : Hid (Blk (w22.alloc (.cells #[.int .i64 1, .int .i64 1, .string ⟨#[]⟩, .int .i64 1, .int .i64 2, .string ⟨#[]⟩] 26)) P1 #[.int .i64 4, .int .i64 0, .string ⟨#[100, 105, 118, 105, 100, 101, 32, 98, 121, 32, 122, 101, 114, 111]⟩] 26) := HP1.out.alloc _
  have HP3 : Hid (Blk (w22.alloc (.cells #[.int .i64 1, .int .i64 1, .string ⟨#[]⟩, .int .i64 1, .int .i64 2, .string ⟨#[]⟩] 26)) P3 #[.int .i64 4, .int .i64 0, .string ⟨#[99, 104, 114, 32, 111, 117, 116, 32, 111, 102, 32, 114, 97, 110, 103, 101]⟩] 26) := HP3.out.alloc _
  have HP5 : Hid (Blk (w22.alloc (.cells #[.int .i64 1, .int .i64 1, .string ⟨#[]⟩, .int .i64 1, .int .i64 2, .string ⟨#[]⟩] 26)) P5 #[.int .i64 2, .int .i64 65, .string ⟨#[]⟩] 26) := HP5.out.alloc _
  go_wp2_with (go_at_call 8; fail)
  refine (HA4.out _ w22.heap.size (Blk.new w22 _ _)).mono ?_
  rintro e w24 ⟨rfl, hb⟩
  have HB24 : Hid (Below w.heap.size w w24) := HB23.out.trans (hb.mono HB23.out.size)
  have HP1 : Hid (Blk w24 P1 #[.int .i64 4, .int .i64 0, .string ⟨#[100, 105, 118, 105, 100, 101, 32, 98, 121, 32, 122, 101, 114, 111]⟩] 26) := HP1.out.below hb
  have HP3 : Hid (Blk w24 P3 #[.int .i64 4, .int .i64 0, .string ⟨#[99, 104, 114, 32, 111, 117, 116, 32, 111, 102, 32, 114, 97, 110, 103, 101]⟩] 26) := HP3.out.below hb
  have HP5 : Hid (Blk w24 P5 #[.int .i64 2, .int .i64 65, .string ⟨#[]⟩] 26) := HP5.out.below hb
  clear hb
  obtain ⟨c0P1, c1P1, c2P1, -, -, -⟩ := HP1.out.all3
  have lP1 := HP1.out.lt
  obtain ⟨c0P3, c1P3, c2P3, -, -, -⟩ := HP3.out.all3
  have lP3 := HP3.out.lt
  obtain ⟨c0P5, c1P5, c2P5, -, -, -⟩ := HP5.out.all3
  have lP5 := HP5.out.lt
  have HB25 : Hid (Below w.heap.size w (w24.alloc (.cells #[.int .i64 0, .int .i64 0, .string ⟨#[]⟩] 26))) := HB24.out.alloc HB24.out.size _
  have HP1 : Hid (Blk (w24.alloc (.cells #[.int .i64 0, .int .i64 0, .string ⟨#[]⟩] 26)) P1 #[.int .i64 4, .int .i64 0, .string ⟨#[100, 105, 118, 105, 100, 101, 32, 98, 121, 32, 122, 101, 114, 111]⟩] 26) := HP1.out.alloc _
  have HP3 : Hid (Blk (w24.alloc (.cells #[.int .i64 0, .int .i64 0, .string ⟨#[]⟩] 26)) P3 #[.int .i64 4, .int .i64 0, .string ⟨#[99, 104, 114, 32, 111, 117, 116, 32, 111, 102, 32, 114, 97, 110, 103, 101]⟩] 26) := HP3.out.alloc _
  have HP5 : Hid (Blk (w24.alloc (.cells #[.int .i64 0, .int .i64 0, .string ⟨#[]⟩] 26)) P5 #[.int .i64 2, .int .i64 65, .string ⟨#[]⟩] 26) := HP5.out.alloc _
  go_wp2_with (go_at_call 10; fail)
  refine (HS0.out _).mono ?_
  rintro e w26 ⟨rfl, hb⟩
  have HB26 : Hid (Below w.heap.size w w26) := HB25.out.trans (hb.mono HB25.out.size)
  clear hb
  go_wp2_with (go_at_call 10; fail)
  refine (HS1.out _).mono ?_
  rintro e w27 ⟨rfl, hb⟩
  have HB27 : Hid (Below w.heap.size w w27) := HB26.out.trans (hb.mono HB26.out.size)
  clear hb
  go_wp2_with (go_at_call 10; fail)
  refine (HS2.out _).mono ?_
  rintro e w28 ⟨rfl, hb⟩
  have HB28 : Hid (Below w.heap.size w w28) := HB27.out.trans (hb.mono HB27.out.size)
  clear hb
  have HGl : Hid (GP w28) := HG.out.below HB28.out
  go_wp2_with (go_at_call 11; fail)
  refine (HSh.out _ HGl.out).mono ?_
  rintro e w29 ⟨rfl, hb⟩
  have HB29 : Hid (Below w.heap.size w w29) := HB28.out.trans (hb.mono HB28.out.size)
  clear hb
  go_wp2
  go_ret
  exact ⟨rfl, HB29.out⟩
end Go.Proofs.YtijafedpaghhaaaDoor
