/-
  The law WorldNil, walked: the rounds.
-/
import Derived.Test.YtkjbdjobglnphaaWh
namespace Go.Proofs.Ytkjbdjobglnphaa
open Go.RowKit Go.Shelf Go.Maps Go.Conc
set_option linter.unusedVariables false
set_option maxRecDepth 100000 in
set_option maxHeartbeats 4000000 in
theorem lawNil_c (ob : Option Addr) (m cb : Nat) (x : Int) (w : World) : Calls Try.prog 5 #[.slice ob m cb, .int .u8 x] w fun e W' => e = .returned (.bool true) ∧ Below w.heap.size w W' := by
  go_enter Try.func5, Try.ntmps5
  go_wp2
  obtain ⟨W2, hW2⟩ : ∃ W2, W2 = (w.alloc (.cells #[.pointer none, .chan none, .int .i64 0, .bool false, .slice none 0 0] 43)).alloc (.cells #[.pointer none, .pointer (some ⟨w.heap.size, 0, none⟩)] 23) := ⟨_, rfl⟩
  have HBW : Hid (Below w.heap.size w W2) := by rw [hW2]; exact ((Below.refl _ w).alloc (Nat.le_refl _) _).alloc (by simp) _
  have hZ : Hid (Blk W2 w.heap.size #[.pointer none, .chan none, .int .i64 0, .bool false, .slice none 0 0] 43) := by rw [hW2]; exact (Blk.new w _ _).alloc _
  have hL : Hid (Blk W2 (w.heap.size + 1) #[.pointer none, .pointer (some ⟨w.heap.size, 0, none⟩)] 23) := by rw [hW2]; have := Blk.new (w.alloc (.cells #[.pointer none, .chan none, .int .i64 0, .bool false, .slice none 0 0] 43)) #[.pointer none, .pointer (some ⟨w.heap.size, 0, none⟩)] 23; show Blk _ (w.heap.size + 1) _ _; simpa using this
  rw [← hW2]
  clear hW2
  have hc0 := hL.out.cell 0 _ rfl
  have hc1 := hL.out.cell 1 _ rfl
  have hS2 : w.heap.size + 1 < W2.heap.size := hL.out.lt
  clear hL
  have HU : Hid (∀ k : Nat, k < 2 → ∃ p, W2.cell? ⟨w.heap.size + 1, k, none⟩ = some (.pointer p) ∧ Unmade p W2) := fun k hk => by
    rcases (by omega : k = 0 ∨ k = 1) with rfl | rfl
    · exact ⟨_, hc0, fun V hV => madeNil_c V⟩
    · exact ⟨_, hc1, fun V hV => madeZero_c _ _ _ _ _ V (hZ.out.below hV hZ.out.lt)⟩
  clear hc0 hc1 hZ
  go_loopw [6] (fun i wr => ∃ k : Nat, k ≤ 2 ∧ i = .int .i64 k ∧ Hid (Below W2.heap.size W2 wr)) (fun i _ => 2 - (intOf i).toNat)
  case atStart => exact ⟨0, by omega, rfl, Below.refl _ _⟩
  case round =>
    obtain ⟨k, hk, rfl, hB⟩ := hrel
    have hsr : w.heap.size + 1 < wr.heap.size := by have := hB.out.size; omega
    by_cases h2 : k < 2
    · obtain ⟨p, hp, hun⟩ := HU.out k h2
      have hc := (hB.out.cell (p := ⟨w.heap.size + 1, k, none⟩) hS2).trans hp
      have HX : Hid (Unmade p wr) := hun.on hB.out
      have hki : (k : Int) < 2 := by omega
      have HK : Hid (k < 2) := h2
      clear hp hun h2
      go_wp2_with (go_at_call 10; fail)
      refine (getNil_c wr HX.out).mono ?_
      rintro r w3 ⟨rfl, rfl⟩
      go_wp2_with (go_at_call 19; fail)
      refine (eofNil_c _ HX.out).mono ?_
      rintro r w4 ⟨rfl, rfl⟩
      go_wp2_with (go_at_call 9; fail)
      refine (feedNil_c _ _ _ _ HX.out).mono ?_
      rintro r w5 ⟨rfl, rfl⟩
      go_wp2_with (go_at_call 11; fail)
      refine (endNil_c _ HX.out).mono ?_
      rintro r w6 ⟨rfl, rfl⟩
      go_wp2_with (go_at_call 20; fail)
      refine (putNil_c _ _ HX.out).mono ?_
      rintro r w7 ⟨rfl, rfl⟩
      go_wp2_with (go_at_call 21; fail)
      refine (outNil_c _ HX.out).mono ?_
      rintro r w8 ⟨rfl, rfl⟩
      go_wp2_with (go_at_call 12; fail)
      refine (usedNil_c _ HX.out).mono ?_
      rintro r w9 ⟨rfl, hb9⟩
      have B9 : Hid (Below w8.heap.size w8 w9) := hb9
      have X9 : Hid (Unmade p w9) := HX.out.on hb9
      clear hb9
      go_wp2_with (go_at_call 13; fail)
      refine (leftNil_c _ X9.out).mono ?_
      rintro r w10 ⟨rfl, hb10⟩
      have B10 : Hid (Below w8.heap.size w8 w10) := B9.out.trans (hb10.mono B9.out.size)
      have X10 : Hid (Unmade p w10) := X9.out.on hb10
      clear hb10
      go_wp2_with (go_at_call 14; fail)
      refine (endedNil_c _ X10.out).mono ?_
      rintro r w11 ⟨rfl, hb11⟩
      have B11 : Hid (Below W2.heap.size W2 w11) := hB.out.trans ((B10.out.trans (hb11.mono B10.out.size)).mono hB.out.size)
      clear hb11
      go_wp2
      refine ⟨⟨k + 1, HK.out, by congr 1, B11⟩, ?_⟩
      show 2 - ((k : Int) + 1).toNat < 2 - (k : Int).toNat
      have := HK.out
      omega
    · obtain rfl : k = 2 := by omega
      have HB9 : Hid (Below w.heap.size w wr) := HBW.out.trans (hB.out.mono HBW.out.size)
      have hV : Hid (Calls Try.prog 7 #[] wr fun e W' => e = .returned (.bool true) ∧ Below wr.heap.size wr W') := lives_c wr
      go_wp2_with (go_at_call 7; fail)
      refine hV.out.mono ?_
      rintro r w9 ⟨rfl, hb9⟩
      go_wp2
      go_ret
      exact ⟨rfl, HB9.out.trans (hb9.mono HB9.out.size)⟩
end Go.Proofs.Ytkjbdjobglnphaa
