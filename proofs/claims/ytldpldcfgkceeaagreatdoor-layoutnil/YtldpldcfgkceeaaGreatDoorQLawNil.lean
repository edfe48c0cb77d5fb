/-
  The law LayoutNil, walked.
-/
import Derived.Test.YtldpldcfgkceeaaGreatDoorQIs
namespace Go.Proofs.YtldpldcfgkceeaaGreatDoor
open Go.RowKit Go.Shelf Go.Maps
set_option linter.unusedVariables false

set_option maxRecDepth 100000 in
set_option maxHeartbeats 4000000 in
theorem madeNil_c (w : World) : Calls Tryz.prog 45 #[.pointer none] w fun r W' => r = .returned (.bool false) ∧ W' = w := by
  go_enter Tryz.func45, Tryz.ntmps45
  go_wp2
  go_ret
  exact ⟨rfl, rfl⟩

set_option maxRecDepth 100000 in
set_option maxHeartbeats 4000000 in
theorem madeZero_c (P : Nat) (v0 v1 v3 v4 : Value) (w : World) (h : Blk w P #[v0, v1, .nilIface, v3, v4] 57) : Calls Tryz.prog 45 #[.pointer (some ⟨P, 0, none⟩)] w fun r W' => r = .returned (.bool false) ∧ W' = w := by
  obtain ⟨c0, c1, c2, c3, c4, f0, f1, f2, f3, f4⟩ := h.all5
  clear h
  go_enter Tryz.func45, Tryz.ntmps45
  go_wp2
  go_ret
  exact ⟨rfl, rfl⟩

/-- A stream that nobody made. -/
def Unmade (p : Option Addr) (w : World) : Prop := ∀ W : World, Below w.heap.size w W → Calls Tryz.prog 45 #[.pointer p] W fun r W' => r = .returned (.bool false) ∧ W' = W

set_option maxRecDepth 100000 in
set_option maxHeartbeats 4000000 in
theorem peekNil_c (p : Option Addr) (w : World) (h : Unmade p w) : Calls Tryz.prog 18 #[.pointer p] w fun r W' => r = .returned (.tuple #[.agg #[.int .i64 0, .string ⟨#[]⟩, .int .i64 0, .int .i64 0, .int .i64 0, .int .i64 0, .bool false, .bool false], .int .i64 1]) ∧ Below w.heap.size w W' := by
  have hdep : Tryz.prog.follows Departure.mixedOrders = true := by kernel_rfl
  have hM : Hid (Unmade p w) := h
  have hB0 : Hid (∀ o : Obj, Below w.heap.size w (w.alloc o)) := fun o => (Below.refl _ w).alloc (Nat.le_refl _) _
  clear h
  go_enter Tryz.func18, Tryz.ntmps18
  go_wp2_with (go_at_call 45; fail)
  refine (hM.out _ (hB0.out _)).mono ?_
  rintro r w1 ⟨rfl, rfl⟩
  go_wp2
  exact bodyPost_ret (v := .tuple #[.agg #[.int .i64 0, .string ⟨#[]⟩, .int .i64 0, .int .i64 0, .int .i64 0, .int .i64 0, .bool false, .bool false], .int .i64 1]) (by simp [results, Tryz.results18, go_sem]) rfl ⟨rfl, hB0.out _⟩

set_option maxRecDepth 100000 in
set_option maxHeartbeats 4000000 in
theorem takeNil_c (p : Option Addr) (w : World) (h : Unmade p w) : Calls Tryz.prog 26 #[.pointer p] w fun r W' => r = .returned (.tuple #[.agg #[.int .i64 0, .string ⟨#[]⟩, .int .i64 0, .int .i64 0, .int .i64 0, .int .i64 0, .bool false, .bool false], .int .i64 1]) ∧ Below w.heap.size w W' := by
  have hdep : Tryz.prog.follows Departure.mixedOrders = true := by kernel_rfl
  have hM : Hid (Unmade p w) := h
  have hB0 : Hid (∀ o : Obj, Below w.heap.size w (w.alloc o)) := fun o => (Below.refl _ w).alloc (Nat.le_refl _) _
  clear h
  go_enter Tryz.func26, Tryz.ntmps26
  go_wp2_with (go_at_call 45; fail)
  refine (hM.out _ (hB0.out _)).mono ?_
  rintro r w1 ⟨rfl, rfl⟩
  go_wp2
  exact bodyPost_ret (v := .tuple #[.agg #[.int .i64 0, .string ⟨#[]⟩, .int .i64 0, .int .i64 0, .int .i64 0, .int .i64 0, .bool false, .bool false], .int .i64 1]) (by simp [results, Tryz.results26, go_sem]) rfl ⟨rfl, hB0.out _⟩

set_option maxRecDepth 100000 in
set_option maxHeartbeats 4000000 in
theorem closeNil_c (p : Option Addr) (w : World) (h : Unmade p w) : Calls Tryz.prog 28 #[.pointer p] w fun r W' => r = .returned (.int .i64 1) ∧ Below w.heap.size w W' := by
  have hM : Hid (Unmade p w) := h
  clear h
  go_enter Tryz.func28, Tryz.ntmps28
  go_wp2_with (go_at_call 45; fail)
  refine (hM.out _ (Below.refl _ _)).mono ?_
  rintro r w1 ⟨rfl, rfl⟩
  go_wp2
  go_ret
  exact ⟨rfl, Below.refl _ _⟩

set_option maxRecDepth 100000 in
set_option maxHeartbeats 4000000 in
theorem blocksNil_c (p : Option Addr) (w : World) (h : Unmade p w) : Calls Tryz.prog 23 #[.pointer p] w fun r W' => r = .returned (.slice none 0 0) ∧ Below w.heap.size w W' := by
  have hM : Hid (Unmade p w) := h
  clear h
  go_enter Tryz.func23, Tryz.ntmps23
  go_wp2_with (go_at_call 45; fail)
  refine (hM.out _ (Below.refl _ _)).mono ?_
  rintro r w1 ⟨rfl, rfl⟩
  go_wp2
  go_ret
  exact ⟨rfl, Below.refl _ _⟩

set_option maxRecDepth 100000 in
set_option maxHeartbeats 4000000 in
theorem wrongNil_c (p : Option Addr) (w : World) (h : Unmade p w) : Calls Tryz.prog 20 #[.pointer p] w fun r W' => r = .returned (.int .i64 0) ∧ Below w.heap.size w W' := by
  have hM : Hid (Unmade p w) := h
  clear h
  go_enter Tryz.func20, Tryz.ntmps20
  go_wp2_with (go_at_call 45; fail)
  refine (hM.out _ (Below.refl _ _)).mono ?_
  rintro r w1 ⟨rfl, rfl⟩
  go_wp2
  go_ret
  exact ⟨rfl, Below.refl _ _⟩

set_option maxRecDepth 100000 in
set_option maxHeartbeats 4000000 in
theorem lawNil_c (w : World) (hG : GOK w) : Calls Tryz.prog 6 #[] w fun e W' => e = .returned (.bool true) ∧ Below w.heap.size w W' := by
  have hdep : Tryz.prog.follows Departure.mixedOrders = true := by kernel_rfl
  have HG : Hid (GOK w) := hG
  clear hG
  go_enter Tryz.func6, Tryz.ntmps6
  go_wp2
  obtain ⟨W2, hW2⟩ : ∃ W2, W2 = (w.alloc (.cells #[.slice none 0 0, .int .i64 0, .nilIface, .slice none 0 0, .int .i64 0] 57)).alloc (.cells #[.pointer none, .pointer (some ⟨w.heap.size, 0, none⟩)] 38) := ⟨_, rfl⟩
  have HBW : Hid (Below w.heap.size w W2) := by rw [hW2]; exact ((Below.refl _ w).alloc (Nat.le_refl _) _).alloc (by simp) _
  have hZ : Hid (Blk W2 w.heap.size #[.slice none 0 0, .int .i64 0, .nilIface, .slice none 0 0, .int .i64 0] 57) := by rw [hW2]; exact (Blk.new w _ _).alloc _
  have hL : Hid (Blk W2 (w.heap.size + 1) #[.pointer none, .pointer (some ⟨w.heap.size, 0, none⟩)] 38) := by rw [hW2]; exact Blk.new1 w _ _ _
  rw [← hW2]
  clear hW2
  obtain ⟨hc0, hc1, -, -⟩ := hL.out.all2
  have hS2 : w.heap.size + 1 < W2.heap.size := hL.out.lt
  clear hL
  go_loopw [2] (fun i wr => ∃ k : Nat, k ≤ 2 ∧ i = .int .i64 k ∧ Hid (Below W2.heap.size W2 wr)) (fun i _ => 2 - (intOf i).toNat)
  case atStart => exact ⟨0, by omega, rfl, Below.refl _ _⟩
  case round =>
    obtain ⟨k, hk, rfl, hB⟩ := hrel
    have hsr : w.heap.size + 1 < wr.heap.size := by have := hB.out.size; omega
    by_cases h2 : k < 2
    · rcases (by omega : k = 0 ∨ k = 1) with rfl | rfl
      · have HU : Hid (∀ X : World, Below W2.heap.size W2 X → Unmade none X) := fun X hX V hV => madeNil_c V
        have hX : Hid (Unmade none wr) := HU.out wr hB.out
        have hc := (hB.out.cell (p := ⟨w.heap.size + 1, 0, none⟩) hS2).trans hc0
        clear HU hc0 hc1
        go_wp2_with (go_at_call 18; fail)
        refine (peekNil_c _ wr hX.out).mono ?_
        rintro r w3 ⟨rfl, hb3⟩
        have B3 : Hid (Below wr.heap.size wr w3) := hb3
        clear hb3
        go_wp2_with (go_at_call 26; fail)
        have B3a : Hid (Below wr.heap.size wr (w3.alloc (.cells #[.int .i64 0, .string ⟨#[]⟩, .int .i64 0, .int .i64 0, .int .i64 0, .int .i64 0, .bool false, .bool false] 45))) := B3.out.alloc B3.out.size _
        have T3 : Hid (Blk (w3.alloc (.cells #[.int .i64 0, .string ⟨#[]⟩, .int .i64 0, .int .i64 0, .int .i64 0, .int .i64 0, .bool false, .bool false] 45)) w3.heap.size #[.int .i64 0, .string ⟨#[]⟩, .int .i64 0, .int .i64 0, .int .i64 0, .int .i64 0, .bool false, .bool false] 45) := Blk.new w3 _ _
        refine (takeNil_c _ _ (fun V hV => hX.out V (B3a.out.trans (hV.mono B3a.out.size)))).mono ?_
        rintro r w4 ⟨rfl, hb4⟩
        have B4 : Hid (Below wr.heap.size wr w4) := B3a.out.trans (hb4.mono B3a.out.size)
        have T4 : Hid (Blk w4 w3.heap.size #[.int .i64 0, .string ⟨#[]⟩, .int .i64 0, .int .i64 0, .int .i64 0, .int .i64 0, .bool false, .bool false] 45) := T3.out.below hb4
        have hl4 : w3.heap.size < w4.heap.size := T4.out.lt
        obtain ⟨d0, d1, d2, d3, d4, d5, d6, d7, -⟩ := T4.out.all8
        clear hb4 T3 B3a B3
        go_wp2_with (go_at_call 28; fail)
        have B5 : Hid (Below wr.heap.size wr (w4.alloc (.cells #[.int .i64 0, .string ⟨#[]⟩, .int .i64 0, .int .i64 0, .int .i64 0, .int .i64 0, .bool false, .bool false] 45))) := B4.out.alloc B4.out.size _
        refine (closeNil_c _ _ (fun V hV => hX.out V (B5.out.trans (hV.mono B5.out.size)))).mono ?_
        rintro r w5 ⟨rfl, hb5⟩
        have B6 : Hid (Below wr.heap.size wr w5) := B5.out.trans (hb5.mono B5.out.size)
        clear hb5 B5 T4 B4
        go_wp2_with (go_at_call 23; fail)
        refine (blocksNil_c _ _ (fun V hV => hX.out V (B6.out.trans (hV.mono B6.out.size)))).mono ?_
        rintro r w6 ⟨rfl, hb6⟩
        have B7 : Hid (Below wr.heap.size wr w6) := B6.out.trans (hb6.mono B6.out.size)
        clear hb6
        go_wp2_with (go_at_call 20; fail)
        refine (wrongNil_c _ _ (fun V hV => hX.out V (B7.out.trans (hV.mono B7.out.size)))).mono ?_
        rintro r w7 ⟨rfl, hb7⟩
        have B8 : Hid (Below W2.heap.size W2 w7) := hB.out.trans ((B7.out.trans (hb7.mono B7.out.size)).mono hB.out.size)
        clear hb7
        go_wp2
        go_roundw
        case rel => exact ⟨1, by omega, by go_num, B8⟩
        case measure => simp [intOf]
      · have HU : Hid (∀ X : World, Below W2.heap.size W2 X → Unmade (some ⟨w.heap.size, 0, none⟩) X) := fun X hX V hV => madeZero_c _ _ _ _ _ V ((hZ.out.below hX).below hV)
        have hX : Hid (Unmade (some ⟨w.heap.size, 0, none⟩) wr) := HU.out wr hB.out
        have hc := (hB.out.cell (p := ⟨w.heap.size + 1, 1, none⟩) hS2).trans hc1
        clear HU hc0 hc1
        go_wp2_with (go_at_call 18; fail)
        refine (peekNil_c _ wr hX.out).mono ?_
        rintro r w3 ⟨rfl, hb3⟩
        have B3 : Hid (Below wr.heap.size wr w3) := hb3
        clear hb3
        go_wp2_with (go_at_call 26; fail)
        have B3a : Hid (Below wr.heap.size wr (w3.alloc (.cells #[.int .i64 0, .string ⟨#[]⟩, .int .i64 0, .int .i64 0, .int .i64 0, .int .i64 0, .bool false, .bool false] 45))) := B3.out.alloc B3.out.size _
        have T3 : Hid (Blk (w3.alloc (.cells #[.int .i64 0, .string ⟨#[]⟩, .int .i64 0, .int .i64 0, .int .i64 0, .int .i64 0, .bool false, .bool false] 45)) w3.heap.size #[.int .i64 0, .string ⟨#[]⟩, .int .i64 0, .int .i64 0, .int .i64 0, .int .i64 0, .bool false, .bool false] 45) := Blk.new w3 _ _
        refine (takeNil_c _ _ (fun V hV => hX.out V (B3a.out.trans (hV.mono B3a.out.size)))).mono ?_
        rintro r w4 ⟨rfl, hb4⟩
        have B4 : Hid (Below wr.heap.size wr w4) := B3a.out.trans (hb4.mono B3a.out.size)
        have T4 : Hid (Blk w4 w3.heap.size #[.int .i64 0, .string ⟨#[]⟩, .int .i64 0, .int .i64 0, .int .i64 0, .int .i64 0, .bool false, .bool false] 45) := T3.out.below hb4
        have hl4 : w3.heap.size < w4.heap.size := T4.out.lt
        obtain ⟨d0, d1, d2, d3, d4, d5, d6, d7, -⟩ := T4.out.all8
        clear hb4 T3 B3a B3
        go_wp2_with (go_at_call 28; fail)
        have B5 : Hid (Below wr.heap.size wr (w4.alloc (.cells #[.int .i64 0, .string ⟨#[]⟩, .int .i64 0, .int .i64 0, .int .i64 0, .int .i64 0, .bool false, .bool false] 45))) := B4.out.alloc B4.out.size _
        refine (closeNil_c _ _ (fun V hV => hX.out V (B5.out.trans (hV.mono B5.out.size)))).mono ?_
        rintro r w5 ⟨rfl, hb5⟩
        have B6 : Hid (Below wr.heap.size wr w5) := B5.out.trans (hb5.mono B5.out.size)
        clear hb5 B5 T4 B4
        go_wp2_with (go_at_call 23; fail)
        refine (blocksNil_c _ _ (fun V hV => hX.out V (B6.out.trans (hV.mono B6.out.size)))).mono ?_
        rintro r w6 ⟨rfl, hb6⟩
        have B7 : Hid (Below wr.heap.size wr w6) := B6.out.trans (hb6.mono B6.out.size)
        clear hb6
        go_wp2_with (go_at_call 20; fail)
        refine (wrongNil_c _ _ (fun V hV => hX.out V (B7.out.trans (hV.mono B7.out.size)))).mono ?_
        rintro r w7 ⟨rfl, hb7⟩
        have B8 : Hid (Below W2.heap.size W2 w7) := hB.out.trans ((B7.out.trans (hb7.mono B7.out.size)).mono hB.out.size)
        clear hb7
        go_wp2
        go_roundw
        case rel => exact ⟨2, by omega, by go_num, B8⟩
        case measure => simp [intOf]
    · obtain rfl : k = 2 := by omega
      have HB9 : Hid (Below w.heap.size w wr) := HBW.out.trans (hB.out.mono HBW.out.size)
      have hV : Hid (Calls Tryz.prog 10 #[] wr fun e W' => e = .returned (.bool true) ∧ Below wr.heap.size wr W') := lives_c wr (HG.out.below HB9.out)
      go_wp2_with (go_at_call 10; fail)
      refine hV.out.mono ?_
      rintro r w9 ⟨rfl, hb9⟩
      go_wp2
      go_ret
      exact ⟨rfl, HB9.out.trans (hb9.mono HB9.out.size)⟩

end Go.Proofs.YtldpldcfgkceeaaGreatDoor
