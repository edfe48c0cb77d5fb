/-
  The law on chains of one operator: all of it.
-/
import Derived.Test.YtppnhaacmhfenabGreatDoorGLevD
import Derived.Test.YtppnhaacmhfenabGreatDoorGLevL
import Derived.Test.YtppnhaacmhfenabGreatDoorGLevR
namespace Go.Proofs.YtppnhaacmhfenabGreatDoor
open Go.RowKit Go.Shelf Go.Maps
set_option linter.unusedVariables false

set_option maxRecDepth 100000 in
set_option maxHeartbeats 8000000 in
theorem levG_c (nm : List UInt8) (side level m : Int) (w : World) (hG : GOK w) (hN : Hid (¬ ((1 ≤ side ∧ side ≤ 3) ∧ (0 ≤ level ∧ level ≤ 9) ∧ (1 ≤ m ∧ m ≤ 100) ∧ nm.length ≤ 60 ∧ chkM (opO nm) = 0))) :
    Calls Tryz.prog 4 #[.string (bs nm), .int .i64 side, .int .i64 level, .int .i64 m] w fun e W' => e = .returned (.bool true) ∧ Below w.heap.size w W' := by
  have HLv : Hid (Calls Tryz.prog 5 #[] w fun e W' => e = .returned (.bool true) ∧ Below w.heap.size w W') := lives5_c w hG
  have HP : Hid (∀ (s : ByteArray) (X : World), Calls Tryz.prog 14 #[.string s] X fun e w' => e = .returned (.agg #[.int .i64 5, .string s, .int .i64 0, .slice none 0 0, .int .i64 0]) ∧ Below X.heap.size X w') := op5_c
  have HG : Hid (GOK w) := hG
  clear hG
  go_enter Tryz.func4, Tryz.ntmps4
  go_wp2_with (go_at_call 5; fail)
  refine HLv.out.mono ?_
  rintro e w1 ⟨rfl, hb1⟩
  have B1 : Hid (Below w.heap.size w w1) := hb1
  clear hb1 HLv
  by_cases h1 : side < 1
  · go_wp2; go_ret; exact ⟨rfl, B1.out⟩
  by_cases h2 : 3 < side
  · go_wp2; go_ret; exact ⟨rfl, B1.out⟩
  by_cases h3 : level < 0
  · go_wp2; go_ret; exact ⟨rfl, B1.out⟩
  by_cases h4 : 9 < level
  · go_wp2; go_ret; exact ⟨rfl, B1.out⟩
  by_cases h5 : m < 1
  · go_wp2; go_ret; exact ⟨rfl, B1.out⟩
  by_cases h6 : 100 < m
  · go_wp2; go_ret; exact ⟨rfl, B1.out⟩
  by_cases h7 : (60 : Int) < (bs nm).size
  · go_wp2; go_ret; exact ⟨rfl, B1.out⟩
  go_wp2_with (go_at_call 14; fail)
  refine (HP.out _ _).mono ?_
  rintro e w2 ⟨rfl, hb2⟩
  have B2 : Hid (Below w.heap.size w w2) := B1.out.trans (hb2.mono B1.out.size)
  clear hb2 B1
  have hnl : nm.length ≤ 60 := by
    have h : ((bs nm).size : Int) ≤ 60 := by omega
    have e : (bs nm).size = nm.length := by simp [bs, ByteArray.size]
    rw [e] at h
    omega
  have hc : ¬ chkM (opO nm) = 0 := fun hc => hN.out ⟨⟨by omega, by omega⟩, ⟨by omega, by omega⟩, ⟨by omega, by omega⟩, hnl, hc⟩
  have HCk : Hid (Calls Tryz.prog 8 #[.agg #[.int .i64 5, .string (bs nm), .int .i64 0, .slice none 0 0, .int .i64 0]] w2 fun e W' => e = .returned (.int .i64 (chkM (opO nm))) ∧ Below w2.heap.size w2 W') := checkS_c (opO nm) none 0 w2 (leaf_op (by omega) w2) (HG.out.below B2.out)
  have hcb : (chkM (opO nm) != 0) = true := by simp [hc]
  clear hnl
  go_wp2_with (go_at_call 8; fail)
  refine HCk.out.mono ?_
  rintro e w3 ⟨rfl, hb3⟩
  have B3 : Hid (Below w.heap.size w w3) := B2.out.trans (hb3.mono B2.out.size)
  clear hb3 B2 HCk
  go_wp2
  go_ret
  exact ⟨rfl, B3.out⟩
/-- The law, for any text, side, level and number. -/
theorem lawLevels_c (s : ByteArray) (side level m : Int) (w : World) (hG : GOK w) :
    Calls Tryz.prog 4 #[.string s, .int .i64 side, .int .i64 level, .int .i64 m] w fun e W' => e = .returned (.bool true) ∧ Below w.heap.size w W' := by
  obtain ⟨nm, rfl⟩ := bs_all s
  by_cases hN : (1 ≤ side ∧ side ≤ 3) ∧ (0 ≤ level ∧ level ≤ 9) ∧ (1 ≤ m ∧ m ≤ 100) ∧ nm.length ≤ 60 ∧ chkM (opO nm) = 0
  · obtain ⟨⟨h1, h2⟩, ⟨h3, h4⟩, ⟨h5, h6⟩, h7, h8⟩ := hN
    obtain ⟨n, rfl⟩ : ∃ n : Nat, m = (n : Int) := ⟨m.toNat, by omega⟩
    have hs : side = 1 ∨ side = 2 ∨ side = 3 := by omega
    rcases hs with rfl | rfl | rfl
    · exact levL_c nm h7 h8 level h3 h4 n (by omega) (by omega) w hG
    · exact levR_c nm h7 h8 level h3 h4 n (by omega) (by omega) w hG
    · by_cases h9 : 1 < n
      · exact levB_c nm h7 h8 level h3 h4 n (by omega) (by omega) h9 w hG
      · exact levE_c nm h7 h8 level h3 h4 n (by omega) (by omega) (show n = 1 by omega) w hG
  · exact levG_c nm side level m w hG hN
end Go.Proofs.YtppnhaacmhfenabGreatDoor
