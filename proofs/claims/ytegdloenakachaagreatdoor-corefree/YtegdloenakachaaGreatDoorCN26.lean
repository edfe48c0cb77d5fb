/-
  The names of one expression are written down: the walk.
-/
import Derived.Test.YtegdloenakachaaGreatDoorCN25
namespace Go.Proofs.YtegdloenakachaaGreatDoor
open Go.RowKit Go.Shelf Go.Maps
set_option linter.unusedVariables false

set_option maxRecDepth 100000 in
set_option maxHeartbeats 4000000 in
theorem names2_walk (m ab bx g off n3 n4 n6 c3 c4 c6 N : Nat) (kd : Int) (nm : ByteArray) (o3 o4 o6 : Option Addr) (w : World) (R0 R3 R4 : World → Prop) (R6 : Nat → World → Prop)
    (hn6 : n6 ≤ 2000000) (hN : w.heap.size = N)
    (hC : ∀ W, But m w W → g < W.heap.size ∧ ab < W.heap.size ∧ W.cell? ⟨ab, 0, none⟩ = some (.func (.func 108) #[] #[.pointer (some ⟨bx, 0, none⟩)]) ∧ W.cell? ⟨g, off + 3, none⟩ = some (.slice o3 n3 c3) ∧ W.cell? ⟨g, off + 4, none⟩ = some (.slice o4 n4 c4) ∧ W.cell? ⟨g, off + 6, none⟩ = some (.slice o6 n6 c6))
    (hk : w.cell? ⟨g, off, none⟩ = some (.int .i64 kd)) (hnm : w.cell? ⟨g, off + 1, none⟩ = some (.string nm))
    (b0 : ∀ W, R0 W → But m w W) (b3 : ∀ W, R3 W → But m w W) (b4 : ∀ W, R4 W → But m w W) (b6 : ∀ k W, R6 k W → But m w W)
    (r0 : kd ≠ 1 → R0 w) (s0 : kd = 1 → ∀ V, Below w.heap.size w V → V.cell? ⟨N, 0, none⟩ = some (.string nm) → Calls Tryz.prog 108 #[.slice (some ⟨N, 0, none⟩) 1 1, .pointer (some ⟨bx, 0, none⟩)] V fun e w' => e = .returned (.tuple #[]) ∧ R0 w')
    (s3 : ∀ W, R0 W → Calls Tryz.prog 108 #[.slice o3 n3 c3, .pointer (some ⟨bx, 0, none⟩)] W.drew fun e w' => e = .returned (.tuple #[]) ∧ R3 w')
    (s4 : ∀ W, R3 W → Calls Tryz.prog 42 #[.slice o4 n4 c4] W.drew fun e w' => ∃ M, e = .returned (.slice (some ⟨M, 0, none⟩) n4 n4) ∧ But m w w' ∧ (Calls Tryz.prog 108 #[.slice (some ⟨M, 0, none⟩) n4 n4, .pointer (some ⟨bx, 0, none⟩)] w' fun e w' => e = .returned (.tuple #[]) ∧ R4 w'))
    (r6 : ∀ W, R4 W → R6 0 W)
    (s6 : ∀ k, k < n6 → ∃ g6 x6 o7 n7 c7, o6 = some ⟨g6, x6, none⟩ ∧ (∀ W, But m w W → g6 < W.heap.size ∧ W.cell? ⟨g6, x6 + k * 11 + 3, none⟩ = some (.slice o7 n7 c7)) ∧ ∀ W, R6 k W → Calls Tryz.prog 108 #[.slice o7 n7 c7, .pointer (some ⟨bx, 0, none⟩)] W.drew fun e w' => e = .returned (.tuple #[]) ∧ R6 (k + 1) w') :
    Calls Tryz.prog 110 #[.pointer (some ⟨g, off, none⟩), .pointer (some ⟨ab, 0, none⟩)] w fun e w' => e = .returned (.bool true) ∧ Hid (R6 n6 w') := by
  have E1 : Enters Tryz.prog 108 := enters_of Tryz.func108 (by kernel_rfl) rfl
  have hEn : ∀ (args : Array Value) (w : World), (callFunc 108 args).run Tryz.prog w = .ok (.enter 108 args) w := E1
  have HC : Hid (∀ W, But m w W → g < W.heap.size ∧ ab < W.heap.size ∧ W.cell? ⟨ab, 0, none⟩ = some (.func (.func 108) #[] #[.pointer (some ⟨bx, 0, none⟩)]) ∧ W.cell? ⟨g, off + 3, none⟩ = some (.slice o3 n3 c3) ∧ W.cell? ⟨g, off + 4, none⟩ = some (.slice o4 n4 c4) ∧ W.cell? ⟨g, off + 6, none⟩ = some (.slice o6 n6 c6)) := hC
  have HB : Hid ((∀ W, R0 W → But m w W) ∧ (∀ W, R3 W → But m w W) ∧ (∀ W, R4 W → But m w W) ∧ (∀ k W, R6 k W → But m w W)) := ⟨b0, b3, b4, b6⟩
  have H3 : Hid (∀ W, R0 W → Calls Tryz.prog 108 #[.slice o3 n3 c3, .pointer (some ⟨bx, 0, none⟩)] W.drew fun e w' => e = .returned (.tuple #[]) ∧ R3 w') := s3
  have H4 : Hid (∀ W, R3 W → Calls Tryz.prog 42 #[.slice o4 n4 c4] W.drew fun e w' => ∃ M, e = .returned (.slice (some ⟨M, 0, none⟩) n4 n4) ∧ But m w w' ∧ (Calls Tryz.prog 108 #[.slice (some ⟨M, 0, none⟩) n4 n4, .pointer (some ⟨bx, 0, none⟩)] w' fun e w' => e = .returned (.tuple #[]) ∧ R4 w')) := s4
  have H6 : Hid ((∀ W, R4 W → R6 0 W) ∧ ∀ k, k < n6 → ∃ g6 x6 o7 n7 c7, o6 = some ⟨g6, x6, none⟩ ∧ (∀ W, But m w W → g6 < W.heap.size ∧ W.cell? ⟨g6, x6 + k * 11 + 3, none⟩ = some (.slice o7 n7 c7)) ∧ ∀ W, R6 k W → Calls Tryz.prog 108 #[.slice o7 n7 c7, .pointer (some ⟨bx, 0, none⟩)] W.drew fun e w' => e = .returned (.tuple #[]) ∧ R6 (k + 1) w') := ⟨r6, s6⟩
  have H0 : Hid (kd = 1 → ∀ V, Below w.heap.size w V → V.cell? ⟨N, 0, none⟩ = some (.string nm) → Calls Tryz.prog 108 #[.slice (some ⟨N, 0, none⟩) 1 1, .pointer (some ⟨bx, 0, none⟩)] V fun e w' => e = .returned (.tuple #[]) ∧ R0 w') := s0
  have HR0 : Hid (kd ≠ 1 → R0 w) := r0
  have HNs : Hid (w.heap.size = N) := hN
  have hni : (n6 : Int) ≤ 2000000 := by omega
  obtain ⟨l1, l2, l3, -, -, -⟩ := hC w (But.refl _ _)
  have l3d : w.drew.cell? ⟨ab, 0, none⟩ = some (.func (.func 108) #[] #[.pointer (some ⟨bx, 0, none⟩)]) := l3
  have hnmd : w.drew.cell? ⟨g, off + 1, none⟩ = some (.string nm) := hnm
  clear hC b0 b3 b4 b6 s3 s4 s6 r6 s0 r0 hN hn6 E1
  by_cases hk1 : kd = 1
  · subst hk1
    have HA0 : Hid (∀ V, Below w.heap.size w V → V.cell? ⟨N, 0, none⟩ = some (.string nm) → Calls Tryz.prog 108 #[.slice (some ⟨N, 0, none⟩) 1 1, .pointer (some ⟨bx, 0, none⟩)] V fun e w' => e = .returned (.tuple #[]) ∧ R0 w') := H0.out rfl
    have HA : Hid (Calls Tryz.prog 108 #[.slice (some ⟨w.heap.size, 0, none⟩) 1 1, .pointer (some ⟨bx, 0, none⟩)] (w.drew.alloc (.cells #[.string nm] 9)) fun e w' => e = .returned (.tuple #[]) ∧ R0 w') := by
      have e := HNs.out
      subst e
      exact HA0.out _ ((Below.refl _ w).drew.alloc (Nat.le_refl _) _) ((Blk.new w.drew #[.string nm] 9).cell 0 _ rfl)
    have HAb : Hid (Calls Tryz.prog 108 #[.slice (some ⟨w.heap.size, 0, none⟩) 1 1, .pointer (some ⟨bx, 0, none⟩)] (w.alloc (.cells #[.string nm] 9)).drew fun e w' => e = .returned (.tuple #[]) ∧ R0 w') := HA
    clear HA0
    go_enter Tryz.func110, Tryz.ntmps110
    go_upto_region 2 with fail
    go_cut [16] from 10 (fun (v : Value) (wx : World) => v = .tuple #[] ∧ Hid (R0 wx))
    case first =>
      go_region_with ((go_at_fn 108; (first | (with_reducible refine HA.out.mono ?_) | (with_reducible refine HAb.out.mono ?_)); rintro e9 w1 ⟨rfl, hq1⟩; have HQ1 : Hid (R0 w1) := hq1; clear hq1))
      all_goals
        go_wp2_with fail
        go_meet
        exact ⟨rfl, HQ1⟩
    case rest =>
      obtain ⟨rfl, HQ0⟩ := hcut
      clear HA HAb
      have Hwc : Hid (R0 wc) := HQ0
      clear HQ0 H0 HR0 HNs hk hnm hnmd l1 l2 l3 l3d
      obtain ⟨l1, l2, l3, q3, -, -⟩ := HC.out wc (HB.out.1 _ Hwc.out)
      have l3d : wc.drew.cell? ⟨ab, 0, none⟩ = some (.func (.func 108) #[] #[.pointer (some ⟨bx, 0, none⟩)]) := l3
      have q3d : wc.drew.cell? ⟨g, off + 3, none⟩ = some (.slice o3 n3 c3) := q3
      have HA : Hid (Calls Tryz.prog 108 #[.slice o3 n3 c3, .pointer (some ⟨bx, 0, none⟩)] wc.drew fun e w' => e = .returned (.tuple #[]) ∧ R3 w') := H3.out wc Hwc.out
      clear H3 Hwc
      go_upto_region 3 with fail
      go_cut [22] from 17 (fun (v : Value) (wx : World) => v = .tuple #[] ∧ Hid (R3 wx))
      case first =>
        go_region_with ((go_at_fn 108; (with_reducible refine HA.out.mono ?_); rintro e9 w1 ⟨rfl, hq1⟩; have HQ1 : Hid (R3 w1) := hq1; clear hq1))
        all_goals
          go_wp2_with fail
          go_meet
          exact ⟨rfl, HQ1⟩
      case rest =>
        obtain ⟨rfl, HQ1⟩ := hcut
        clear HA l1 l2 l3 l3d q3 q3d
        obtain ⟨l1, l2, l3, -, q4, -⟩ := HC.out wc (HB.out.2.1 _ HQ1.out)
        have l3d : wc.drew.cell? ⟨ab, 0, none⟩ = some (.func (.func 108) #[] #[.pointer (some ⟨bx, 0, none⟩)]) := l3
        have q4d : wc.drew.cell? ⟨g, off + 4, none⟩ = some (.slice o4 n4 c4) := q4
        have HA : Hid (Calls Tryz.prog 42 #[.slice o4 n4 c4] wc.drew fun e w' => ∃ M, e = .returned (.slice (some ⟨M, 0, none⟩) n4 n4) ∧ But m w w' ∧ (Calls Tryz.prog 108 #[.slice (some ⟨M, 0, none⟩) n4 n4, .pointer (some ⟨bx, 0, none⟩)] w' fun e w' => e = .returned (.tuple #[]) ∧ R4 w')) := H4.out wc HQ1.out
        clear H4 HQ1
        go_upto_region 4 with fail
        go_cut [29] from 23 (fun (v : Value) (wx : World) => v = .tuple #[] ∧ Hid (R4 wx))
        case first =>
          go_region_with (first | (go_at_call 42; (with_reducible refine HA.out.mono ?_); rintro e9 w1 ⟨M, rfl, hq1, hq2⟩; have HA2 : Hid (Calls Tryz.prog 108 #[.slice (some ⟨M, 0, none⟩) n4 n4, .pointer (some ⟨bx, 0, none⟩)] w1 fun e w' => e = .returned (.tuple #[]) ∧ R4 w') := hq2; obtain ⟨v1, v2, v3, -, -, -⟩ := HC.out w1 hq1; clear hq1 hq2) | (go_at_fn 108; (with_reducible refine HA2.out.mono ?_); rintro e9 w2 ⟨rfl, hq3⟩; have HQ2 : Hid (R4 w2) := hq3; clear hq3))
          all_goals
            go_wp2_with fail
            go_meet
            exact ⟨rfl, HQ2⟩
        case rest =>
          obtain ⟨rfl, HQ2⟩ := hcut
          clear HA l1 l2 l3 l3d q4 q4d
          obtain ⟨l1, l2, l3, -, -, q6⟩ := HC.out wc (HB.out.2.2.1 _ HQ2.out)
          have HQ6 : Hid (R6 0 wc) := H6.out.1 _ HQ2.out
          clear HQ2 l2 l3
          go_wp2
          go_loopw [35] (fun v wr => ∃ k : Nat, v = .int .i64 (k : Int) ∧ Hid (k ≤ n6 ∧ R6 k wr)) (fun v _ => n6 - (intOf v).toNat)
          case atStart => exact ⟨0, rfl, ⟨Nat.zero_le _, HQ6.out⟩⟩
          case round =>
            clear HQ6 l1 q6
            obtain ⟨k, rfl, HI⟩ := hrel
            obtain ⟨l1, l2, l3, -, -, q6⟩ := HC.out wr (HB.out.2.2.2 k _ HI.out.2)
            by_cases hkn : k < n6
            · obtain ⟨g6, x6, o7, n7, c7, rfl, z1, z2⟩ := H6.out.2 k hkn
              obtain ⟨y1, y2⟩ := z1 wr (HB.out.2.2.2 k _ HI.out.2)
              have HA : Hid (Calls Tryz.prog 108 #[.slice o7 n7 c7, .pointer (some ⟨bx, 0, none⟩)] wr.drew fun e w' => e = .returned (.tuple #[]) ∧ R6 (k + 1) w') := z2 wr HI.out.2
              have HK : Hid (k < n6) := hkn
              have hki : (k : Int) < (n6 : Int) := by omega
              have l3d : wr.drew.cell? ⟨ab, 0, none⟩ = some (.func (.func 108) #[] #[.pointer (some ⟨bx, 0, none⟩)]) := l3
              have q6d : wr.drew.cell? ⟨g, off + 6, none⟩ = some (.slice (some ⟨g6, x6, none⟩) n6 c6) := q6
              have y2d : wr.drew.cell? ⟨g6, x6 + k * 11 + 3, none⟩ = some (.slice o7 n7 c7) := y2
              clear z1 z2 HI hkn H6
              go_wp2
              go_region_with ((go_at_fn 108; (with_reducible refine HA.out.mono ?_); rintro e9 w1 ⟨rfl, hq1⟩; have HQ1 : Hid (R6 (k + 1) w1) := hq1; clear hq1))
              all_goals
                go_wp2
                go_roundw
                case rel => exact ⟨k + 1, by go_num, ⟨HK.out, HQ1.out⟩⟩
                case measure => have := HK.out; simp [intOf]; omega
            · have hki : ¬ (k : Int) < (n6 : Int) := by omega
              have hkn2 : k = n6 := by have := HI.out.1; omega
              subst hkn2
              have HF : Hid (R6 k wr) := HI.out.2
              clear hkn HI
              go_wp2
              go_ret
              exact ⟨rfl, HF⟩
  · have hkb : (kd == 1) = false := by simpa using hk1
    have HQ0 : Hid (R0 w) := HR0.out hk1
    go_enter Tryz.func110, Tryz.ntmps110
    have Hw : Hid (R0 w) := HQ0
    clear HQ0 H0 HR0 HNs hnm hnmd l1 l2 l3 l3d
    obtain ⟨l1, l2, l3, q3, -, -⟩ := HC.out w (HB.out.1 _ Hw.out)
    have l3d : w.drew.cell? ⟨ab, 0, none⟩ = some (.func (.func 108) #[] #[.pointer (some ⟨bx, 0, none⟩)]) := l3
    have q3d : w.drew.cell? ⟨g, off + 3, none⟩ = some (.slice o3 n3 c3) := q3
    have HA : Hid (Calls Tryz.prog 108 #[.slice o3 n3 c3, .pointer (some ⟨bx, 0, none⟩)] w.drew fun e w' => e = .returned (.tuple #[]) ∧ R3 w') := H3.out w Hw.out
    clear H3 Hw
    go_upto_region 3 with fail
    go_cut [22] from 17 (fun (v : Value) (wx : World) => v = .tuple #[] ∧ Hid (R3 wx))
    case first =>
      go_region_with ((go_at_fn 108; (with_reducible refine HA.out.mono ?_); rintro e9 w1 ⟨rfl, hq1⟩; have HQ1 : Hid (R3 w1) := hq1; clear hq1))
      all_goals
        go_wp2_with fail
        go_meet
        exact ⟨rfl, HQ1⟩
    case rest =>
      obtain ⟨rfl, HQ1⟩ := hcut
      clear HA l1 l2 l3 l3d q3 q3d
      obtain ⟨l1, l2, l3, -, q4, -⟩ := HC.out wc (HB.out.2.1 _ HQ1.out)
      have l3d : wc.drew.cell? ⟨ab, 0, none⟩ = some (.func (.func 108) #[] #[.pointer (some ⟨bx, 0, none⟩)]) := l3
      have q4d : wc.drew.cell? ⟨g, off + 4, none⟩ = some (.slice o4 n4 c4) := q4
      have HA : Hid (Calls Tryz.prog 42 #[.slice o4 n4 c4] wc.drew fun e w' => ∃ M, e = .returned (.slice (some ⟨M, 0, none⟩) n4 n4) ∧ But m w w' ∧ (Calls Tryz.prog 108 #[.slice (some ⟨M, 0, none⟩) n4 n4, .pointer (some ⟨bx, 0, none⟩)] w' fun e w' => e = .returned (.tuple #[]) ∧ R4 w')) := H4.out wc HQ1.out
      clear H4 HQ1
      go_upto_region 4 with fail
      go_cut [29] from 23 (fun (v : Value) (wx : World) => v = .tuple #[] ∧ Hid (R4 wx))
      case first =>
        go_region_with (first | (go_at_call 42; (with_reducible refine HA.out.mono ?_); rintro e9 w1 ⟨M, rfl, hq1, hq2⟩; have HA2 : Hid (Calls Tryz.prog 108 #[.slice (some ⟨M, 0, none⟩) n4 n4, .pointer (some ⟨bx, 0, none⟩)] w1 fun e w' => e = .returned (.tuple #[]) ∧ R4 w') := hq2; obtain ⟨v1, v2, v3, -, -, -⟩ := HC.out w1 hq1; clear hq1 hq2) | (go_at_fn 108; (with_reducible refine HA2.out.mono ?_); rintro e9 w2 ⟨rfl, hq3⟩; have HQ2 : Hid (R4 w2) := hq3; clear hq3))
        all_goals
          go_wp2_with fail
          go_meet
          exact ⟨rfl, HQ2⟩
      case rest =>
        obtain ⟨rfl, HQ2⟩ := hcut
        clear HA l1 l2 l3 l3d q4 q4d
        obtain ⟨l1, l2, l3, -, -, q6⟩ := HC.out wc (HB.out.2.2.1 _ HQ2.out)
        have HQ6 : Hid (R6 0 wc) := H6.out.1 _ HQ2.out
        clear HQ2 l2 l3
        go_wp2
        go_loopw [35] (fun v wr => ∃ k : Nat, v = .int .i64 (k : Int) ∧ Hid (k ≤ n6 ∧ R6 k wr)) (fun v _ => n6 - (intOf v).toNat)
        case atStart => exact ⟨0, rfl, ⟨Nat.zero_le _, HQ6.out⟩⟩
        case round =>
          clear HQ6 l1 q6
          obtain ⟨k, rfl, HI⟩ := hrel
          obtain ⟨l1, l2, l3, -, -, q6⟩ := HC.out wr (HB.out.2.2.2 k _ HI.out.2)
          by_cases hkn : k < n6
          · obtain ⟨g6, x6, o7, n7, c7, rfl, z1, z2⟩ := H6.out.2 k hkn
            obtain ⟨y1, y2⟩ := z1 wr (HB.out.2.2.2 k _ HI.out.2)
            have HA : Hid (Calls Tryz.prog 108 #[.slice o7 n7 c7, .pointer (some ⟨bx, 0, none⟩)] wr.drew fun e w' => e = .returned (.tuple #[]) ∧ R6 (k + 1) w') := z2 wr HI.out.2
            have HK : Hid (k < n6) := hkn
            have hki : (k : Int) < (n6 : Int) := by omega
            have l3d : wr.drew.cell? ⟨ab, 0, none⟩ = some (.func (.func 108) #[] #[.pointer (some ⟨bx, 0, none⟩)]) := l3
            have q6d : wr.drew.cell? ⟨g, off + 6, none⟩ = some (.slice (some ⟨g6, x6, none⟩) n6 c6) := q6
            have y2d : wr.drew.cell? ⟨g6, x6 + k * 11 + 3, none⟩ = some (.slice o7 n7 c7) := y2
            clear z1 z2 HI hkn H6
            go_wp2
            go_region_with ((go_at_fn 108; (with_reducible refine HA.out.mono ?_); rintro e9 w1 ⟨rfl, hq1⟩; have HQ1 : Hid (R6 (k + 1) w1) := hq1; clear hq1))
            all_goals
              go_wp2
              go_roundw
              case rel => exact ⟨k + 1, by go_num, ⟨HK.out, HQ1.out⟩⟩
              case measure => have := HK.out; simp [intOf]; omega
          · have hki : ¬ (k : Int) < (n6 : Int) := by omega
            have hkn2 : k = n6 := by have := HI.out.1; omega
            subst hkn2
            have HF : Hid (R6 k wr) := HI.out.2
            clear hkn HI
            go_wp2
            go_ret
            exact ⟨rfl, HF⟩
end Go.Proofs.YtegdloenakachaaGreatDoor
