/-
  The law on chains of one operator: LevL.
  The law on chains of one operator: LevE.
-/
import Derived.Test.YtppnhaacmhfenabGreatDoorGLevD
namespace Go.Proofs.YtppnhaacmhfenabGreatDoor
open Go.RowKit Go.Shelf Go.Maps
set_option linter.unusedVariables false

set_option maxRecDepth 100000 in
set_option maxHeartbeats 8000000 in
theorem levL_c (nm : List UInt8) (hnl : nm.length ≤ 60) (hc : chkM (opO nm) = 0) (level : Int) (h3 : 0 ≤ level) (h4 : level ≤ 9) (n : Nat) (hn1 : 1 ≤ n) (hn2 : n ≤ 100) (w : World) (hG : GOK w) :
    Calls Tryz.prog 4 #[.string (bs nm), .int .i64 1, .int .i64 level, .int .i64 n] w fun e W' => e = .returned (.bool true) ∧ Below w.heap.size w W' := by
  have HLv : Hid (Calls Tryz.prog 5 #[] w fun e W' => e = .returned (.bool true) ∧ Below w.heap.size w W') := lives5_c w hG
  have HP : Hid (∀ (s : ByteArray) (X : World), Calls Tryz.prog 14 #[.string s] X fun e w' => e = .returned (.agg #[.int .i64 5, .string s, .int .i64 0, .slice none 0 0, .int .i64 0]) ∧ Below X.heap.size X w') := op5_c
  have HG : Hid (GOK w) := hG
  have HC : Hid (chkM (opO nm) = 0) := hc
  have HNl : Hid (nm.length ≤ 60) := hnl
  have Hn : Hid (1 ≤ n ∧ n ≤ 100) := ⟨hn1, hn2⟩
  have Hs : Hid (((1 : Int) ≤ 1 ∧ (1 : Int) ≤ 3) ∧ 0 ≤ level ∧ level ≤ 9) := ⟨⟨by decide, by decide⟩, h3, h4⟩
  have h5 : (1 : Int) ≤ n := by omega
  have h6 : (n : Int) ≤ 100 := by omega
  have h7 : ((bs nm).size : Int) ≤ 60 := by
    have e : (bs nm).size = nm.length := by simp [bs, ByteArray.size]
    rw [e]
    omega
  clear hG hc hnl hn1 hn2
  go_enter Tryz.func4, Tryz.ntmps4
  go_wp2_with (go_at_call 5; fail)
  refine HLv.out.mono ?_
  rintro e w1 ⟨rfl, hb1⟩
  have B1 : Hid (Below w.heap.size w w1) := hb1
  clear hb1 HLv
  go_wp2_with (go_at_call 14; fail)
  refine (HP.out _ _).mono ?_
  rintro e w2 ⟨rfl, hb2⟩
  have B2 : Hid (Below w.heap.size w w2) := B1.out.trans (hb2.mono B1.out.size)
  clear hb2 B1
  have HCk : Hid (Calls Tryz.prog 8 #[.agg #[.int .i64 5, .string (bs nm), .int .i64 0, .slice none 0 0, .int .i64 0]] w2 fun e W' => e = .returned (.int .i64 0) ∧ Below w2.heap.size w2 W') := by
    have h := checkS_c (opO nm) none 0 w2 (leaf_op (by have := HNl.out; omega) w2) (HG.out.below B2.out)
    rw [HC.out] at h
    exact h
  go_wp2_with (go_at_call 8; fail)
  refine HCk.out.mono ?_
  rintro e w3 ⟨rfl, hb3⟩
  have B3 : Hid (Below w.heap.size w w3) := B2.out.trans (hb3.mono B2.out.size)
  clear hb3 B2 HCk HP
  obtain ⟨i0, hi0, hzz⟩ := Option.map_eq_some_iff.1 infoS
  simp only [Prod.mk.injEq] at hzz
  have HI : Hid (Tryz.prog.info? 9 = some i0 ∧ i0.zero = some (.string ⟨#[]⟩) ∧ i0.size = 1 ∧ i0.bytes = 16) := ⟨hi0, hzz.1, hzz.2.1, hzz.2.2⟩
  have H3 : Hid (w.heap.size ≤ w3.heap.size) := B3.out.size
  clear hi0 hzz
  go_wp2
  go_loopw [9, 10] (fun v i wr => ∃ k : Nat, k ≤ n ∧ i = .int .i64 k ∧ Hid (LI nm w w3 k v wr)) (fun _ i _ => n - (intOf i).toNat)
  case atStart => exact ⟨0, Nat.zero_le _, rfl, World.ownsRow_nil _ _ _ _, B3.out, Nat.le_refl _⟩
  case round =>
    obtain ⟨k, hk, rfl, hL⟩ := hrel
    by_cases hlt : k < n
    · have hki : (k : Int) < (n : Int) := by omega
      have Hk : Hid (k < n ∧ n ≤ 100) := ⟨hlt, Hn.out.2⟩
      clear hk hlt
      go_wp2_with (at_builtin; refine wpList_append_lies _ rfl _ _ _ rfl w3.heap.size 9 i0 (.string ⟨#[]⟩) 1 16 Tryz.underlying22 HI.out.1 HI.out.2.1 HI.out.2.2.1 HI.out.2.2.2 rfl (by decide) _ k (List.replicate k (.string (bs nm))) rfl (hL.out.1.alloc _) ⟨wr.heap.size, 0, none⟩ 1 1 [.string (bs nm)] rfl rfl (li_news nm wr) (one_str _) (by decide) (by have := Hk.out; unfold maxLen; omega) (by have := Hk.out; omega) (by have := hL.out.2.2; simp; omega) (wr.heap.size + 1) (by simp) ?_; intro o7 c7 w7 hown7 hgrow7 hat7 hlt7; have HL7 := li_step hL H3 hown7 hgrow7; clear hown7 hgrow7 hat7 hlt7)
      exact ⟨⟨k + 1, Hk.out.1, cast_k k, HL7⟩, meas_k k n Hk.out.1⟩
    · obtain rfl : n = k := by omega
      obtain ⟨g, cap, hv, hg, hA⟩ := li_form hL.out Hn.out.1
      subst hv
      have HCh : Hid (Calls Tryz.prog 7 #[.slice (some ⟨g, 0, none⟩) n cap] wr fun e w' => ∃ o cap, e = .returned (.agg #[.int .i64 17, .string ⟨#[]⟩, .int .i64 0, .slice o (2 * n + 1) cap, .int .i64 0]) ∧ NdIn w' w'.heap.size (chainO nm n) o cap ∧ Below wr.heap.size wr w') := chain5_c nm (by have := HNl.out; omega) n Hn.out.2 g 0 cap wr hg hA
      have B4 : Hid (Below w.heap.size w wr) := hL.out.2.1
      clear hL hk hlt hg hA HI B3 H3
      go_wp2_with (go_at_call 7; fail)
      refine HCh.out.mono ?_
      rintro e w5 ⟨o, c5, rfl, hN5, hb5⟩
      have B5 : Hid (Below w.heap.size w w5) := B4.out.trans (hb5.mono B4.out.size)
      have HR : Hid (Calls Tryz.prog 9 #[.agg #[.int .i64 17, .string ⟨#[]⟩, .int .i64 0, .slice o (2 * n + 1) c5, .int .i64 0], .slice (some ⟨w5.heap.size, 0, none⟩) 1 1] (w5.alloc (.cells #[.string (bs nm), .int .i64 1, .int .i64 level] 42)) fun e w' => ResRes (w5.alloc (.cells #[.string (bs nm), .int .i64 1, .int .i64 level] 42)) w' e (levR nm 1 n)) := resLev nm HNl.out HC.out 1 level Hs.out n Hn.out o c5 w5 (HG.out.below B5.out) hN5
      clear hN5 hb5 HCh B4
      go_wp2_with (go_at_call 9; fail)
      refine HR.out.mono ?_
      intro e w6 hr
      rw [stT_zero nm 1 n (by decide) (by decide) (by omega) Hn.out.1] at hr
      obtain ⟨ox, cx, he, hF, hb6⟩ := hr
      have hN6 := hF.nin
      obtain ⟨x0, hx0⟩ : ∃ x0, stT nm 1 n 0 = x0 := ⟨_, rfl⟩
      rw [hx0] at he hN6
      have HX0 : Hid (stT nm 1 n 0 = x0) := hx0
      have he' : e = .returned (.tuple #[.agg #[.int .i64 x0.kind, .string (bs x0.name), .int .i64 x0.num, .slice ox x0.kids.length cx, .int .i64 x0.pos], .agg #[.int .i64 0, .int .i64 0]]) := he
      subst he'
      have HN6 : Hid (NdIn w6 w6.heap.size x0 ox cx) := hN6
      have B6 : Hid (Below w.heap.size w w6) := (B5.out.alloc B5.out.size _).trans (hb6.mono (by have := B5.out.size; simp; omega))
      clear he hb6 HR hF hN6 hx0
      go_wp2
      obtain ⟨VX, hVX⟩ : ∃ VX, (w6.alloc (.cells #[.int .i64 x0.kind, .string (bs x0.name), .int .i64 x0.num, .slice ox x0.kids.length cx, .int .i64 x0.pos] 28)).alloc (.cells #[.int .i64 0, .int .i64 0] 33) = VX := ⟨_, rfl⟩
      have HX : Hid (XI nm 1 n w6 0 VX) := by
        refine ⟨ox, cx, ?_, ?_, ?_⟩
        · rw [HX0.out, ← hVX]; exact (Blk.new _ _ _).alloc _
        · rw [HX0.out]; exact HN6.out
        · rw [← hVX]; exact ((Below.refl _ w6).alloc (Nat.le_refl _) _).alloc (by simp) _
      rw [hVX]
      clear hVX HX0 HN6 h3 h4 h7
      go_loopw [13] (fun i wr => ∃ k : Nat, k ≤ n ∧ i = .int .i64 k ∧ Hid (XI nm 1 n w6 k wr)) (fun i _ => n - (intOf i).toNat)
      case atStart => exact ⟨0, Nat.zero_le _, rfl, HX⟩
      case round =>
        obtain ⟨k, hk, rfl, hI⟩ := hrel
        clear HX
        by_cases hlt : k < n
        · have hki : (k : Int) < (n : Int) := by omega
          have Hk : Hid (k < n ∧ n ≤ 100) := ⟨hlt, Hn.out.2⟩
          obtain ⟨oy, cy, hB, hN, hW⟩ := hI.out
          obtain ⟨hd, p, A, C, hst, hcase⟩ := stT_step nm 1 n k hlt
          rw [hst] at hB hN
          obtain ⟨g2, off, oA, cA, oB, cB, rfl, hg2, hA, hC, ⟨a0, a1, a2, a3, a4⟩, ⟨b0, b1, b2, b3, b4⟩⟩ := x_open hN hW
          obtain ⟨eA, eC⟩ : A = stT nm 1 n (k + 1) ∧ C = nmO (n - k) := by
            rcases hcase with ⟨h, -, -⟩ | ⟨-, h1, h2⟩
            · cases h
            · exact ⟨h1, h2⟩
          have cK : C.kind = 13 := by rw [eC]; rfl
          have cN : C.num = (n : Int) - (k : Int) := by
            rw [eC]
            show ((n - k : Nat) : Int) = _
            omega
          have HE : Hid (A = stT nm 1 n (k + 1)) := eA
          rw [cK] at b0
          rw [cN] at b2
          clear hcase eA eC cK cN
          have hB' : Blk wr w6.heap.size #[.int .i64 16, .string ⟨#[]⟩, .int .i64 0, .slice (some ⟨g2, off, none⟩) 3 cy, .int .i64 p] 28 := hB
          have HB : Hid (Blk wr w6.heap.size #[.int .i64 16, .string ⟨#[]⟩, .int .i64 0, .slice (some ⟨g2, off, none⟩) 3 cy, .int .i64 p] 28) := hB'
          have HA : Hid (NdIn w6 w6.heap.size A oA cA) := hA
          have HCc : Hid (NdIn w6 w6.heap.size C oB cB) := hC
          have HW : Hid (Below w6.heap.size w6 wr) := hW
          obtain ⟨x0, x1, x2, x3, x4, y0, y1, y2, y3, y4⟩ := hB'.cells5F
          have lx := hB'.lt
          have lg : g2 < wr.heap.size := Nat.lt_of_lt_of_le hg2 hW.size
          clear hB hB' hN hW hA hC hst hk hlt hI
          go_upto_region 20 with fail
          go_cut [14, 15, 16] from 84 to 123 (fun s14 s15 s16 wx => ∃ (ga gb : Nat), s14 = .pointer (some ⟨ga, 0, none⟩) ∧ s15 = .pointer (some ⟨gb, 0, none⟩) ∧ s16 = .int .i64 ((n : Int) - (k : Int)) ∧ Hid (R20 wr wx ga gb A C oA oB cA cB ((n : Int) - (k : Int))))
          case first =>
            have hwk : IntKind.i64.wrap ((n : Int) - (k : Int)) = (n : Int) - (k : Int) := by rw [IntKind.wrap_i64]; omega
            have ne0 := World.new_ne wr ⟨w6.heap.size, 3, none⟩ x3
            have ne1 := World.new_ne wr ⟨g2, off + 5, none⟩ a0
            have ne2 := World.new_ne wr ⟨g2, off + 5 + 1, none⟩ a1
            have ne3 := World.new_ne wr ⟨g2, off + 5 + 2, none⟩ a2
            have ne4 := World.new_ne wr ⟨g2, off + 5 + 3, none⟩ a3
            have ne5 := World.new_ne wr ⟨g2, off + 5 + 4, none⟩ a4
            have ne6 := World.new_ne wr ⟨g2, off + 10, none⟩ b0
            have ne7 := World.new_ne wr ⟨g2, off + 10 + 1, none⟩ b1
            have ne8 := World.new_ne wr ⟨g2, off + 10 + 2, none⟩ b2
            have ne9 := World.new_ne wr ⟨g2, off + 10 + 3, none⟩ b3
            have ne10 := World.new_ne wr ⟨g2, off + 10 + 4, none⟩ b4
            go_region_held3 (fun w' => w'.cell? ⟨w6.heap.size, 3, none⟩ = some (.slice (some ⟨g2, off, none⟩) 3 cy) ∧ w'.cell? ⟨g2, off + 5, none⟩ = some (.int .i64 A.kind) ∧ w'.cell? ⟨g2, off + 5 + 1, none⟩ = some (.string (bs A.name)) ∧ w'.cell? ⟨g2, off + 5 + 2, none⟩ = some (.int .i64 A.num) ∧ w'.cell? ⟨g2, off + 5 + 3, none⟩ = some (.slice oA A.kids.length cA) ∧ w'.cell? ⟨g2, off + 5 + 4, none⟩ = some (.int .i64 A.pos) ∧ w'.cell? ⟨g2, off + 10, none⟩ = some (.int .i64 13) ∧ w'.cell? ⟨g2, off + 10 + 1, none⟩ = some (.string (bs C.name)) ∧ w'.cell? ⟨g2, off + 10 + 2, none⟩ = some (.int .i64 ((n : Int) - (k : Int))) ∧ w'.cell? ⟨g2, off + 10 + 3, none⟩ = some (.slice oB C.kids.length cB) ∧ w'.cell? ⟨g2, off + 10 + 4, none⟩ = some (.int .i64 C.pos)) (go_keep) (fail)
            all_goals (clear ne0 ne1 ne2 ne3 ne4 ne5 ne6 ne7 ne8 ne9 ne10; go_wp2_with fail; go_meet)
            · exact ⟨_, _, rfl, rfl, rfl, r20a⟩
            · exact ⟨_, _, rfl, rfl, rfl, r20b⟩
          case rest =>
            obtain ⟨ga, gb, rfl, rfl, rfl, hR⟩ := hcut
            obtain ⟨r1, r2, r3, r4, r5, r6⟩ := hR.out
            clear a0 a1 a2 a3 a4 b0 b1 b2 b3 b4 x0 x1 x2 x3 x4 y0 y1 y2 y3 y4 lx lg
            obtain ⟨x0, x1, x2, x3, x4, y0, y1, y2, y3, y4⟩ := (HB.out.below r1).cells5F
            have lx := (HB.out.below r1).lt
            obtain ⟨p0, p1, p2, p3, p4, f0, f1, f2, f3, f4⟩ := r2.cells5F
            obtain ⟨q0, q1, q2, q3, q4, e0, e1, e2, e3, e4⟩ := r3.cells5F
            have lp := r2.lt
            have lq := r3.lt
            have HXI := xi_next (n := n) (k := k) (nm := nm) HB HW HA HE r1
            have hlx : w6.heap.size < wr.heap.size := HB.out.lt
            have n1 : w6.heap.size ≠ ga := by omega
            have n2 : w6.heap.size ≠ gb := by omega
            clear r1 r2 r3 r5 r6 hR hlx
            go_wp2
            exact ⟨⟨k + 1, Hk.out.1, cast_k k, HXI⟩, meas_k k n Hk.out.1⟩
        · obtain rfl : n = k := by omega
          obtain ⟨oy, cy, hB, hN, hW⟩ := hI.out
          have hk13 := stT_end nm 1 n
          obtain ⟨x0, -, -, -, -, -, -, -, -, -⟩ := hB.cells5F
          rw [hk13] at x0
          have lx := hB.lt
          have HBl : Hid (Below w.heap.size w wr) := B6.out.trans (hW.mono B6.out.size)
          clear hB hN hW hk13 hI hk hlt
          go_wp2
          go_ret
          exact ⟨rfl, HBl.out⟩

end Go.Proofs.YtppnhaacmhfenabGreatDoor

namespace Go.Proofs.YtppnhaacmhfenabGreatDoor
open Go.RowKit Go.Shelf Go.Maps
set_option linter.unusedVariables false

set_option maxRecDepth 100000 in
set_option maxHeartbeats 8000000 in
theorem levE_c (nm : List UInt8) (hnl : nm.length ≤ 60) (hc : chkM (opO nm) = 0) (level : Int) (h3 : 0 ≤ level) (h4 : level ≤ 9) (n : Nat) (hn1 : 1 ≤ n) (hn2 : n ≤ 100) (h8 : Hid (n = 1)) (w : World) (hG : GOK w) :
    Calls Tryz.prog 4 #[.string (bs nm), .int .i64 3, .int .i64 level, .int .i64 n] w fun e W' => e = .returned (.bool true) ∧ Below w.heap.size w W' := by
  have HLv : Hid (Calls Tryz.prog 5 #[] w fun e W' => e = .returned (.bool true) ∧ Below w.heap.size w W') := lives5_c w hG
  have HP : Hid (∀ (s : ByteArray) (X : World), Calls Tryz.prog 14 #[.string s] X fun e w' => e = .returned (.agg #[.int .i64 5, .string s, .int .i64 0, .slice none 0 0, .int .i64 0]) ∧ Below X.heap.size X w') := op5_c
  have HG : Hid (GOK w) := hG
  have HC : Hid (chkM (opO nm) = 0) := hc
  have HNl : Hid (nm.length ≤ 60) := hnl
  have Hn : Hid (1 ≤ n ∧ n ≤ 100) := ⟨hn1, hn2⟩
  have Hs : Hid (((1 : Int) ≤ 3 ∧ (3 : Int) ≤ 3) ∧ 0 ≤ level ∧ level ≤ 9) := ⟨⟨by decide, by decide⟩, h3, h4⟩
  have h5 : (1 : Int) ≤ n := by omega
  have h6 : (n : Int) ≤ 100 := by omega
  have h7 : ((bs nm).size : Int) ≤ 60 := by
    have e : (bs nm).size = nm.length := by simp [bs, ByteArray.size]
    rw [e]
    omega
  clear hG hc hnl hn1 hn2
  go_enter Tryz.func4, Tryz.ntmps4
  go_wp2_with (go_at_call 5; fail)
  refine HLv.out.mono ?_
  rintro e w1 ⟨rfl, hb1⟩
  have B1 : Hid (Below w.heap.size w w1) := hb1
  clear hb1 HLv
  go_wp2_with (go_at_call 14; fail)
  refine (HP.out _ _).mono ?_
  rintro e w2 ⟨rfl, hb2⟩
  have B2 : Hid (Below w.heap.size w w2) := B1.out.trans (hb2.mono B1.out.size)
  clear hb2 B1
  have HCk : Hid (Calls Tryz.prog 8 #[.agg #[.int .i64 5, .string (bs nm), .int .i64 0, .slice none 0 0, .int .i64 0]] w2 fun e W' => e = .returned (.int .i64 0) ∧ Below w2.heap.size w2 W') := by
    have h := checkS_c (opO nm) none 0 w2 (leaf_op (by have := HNl.out; omega) w2) (HG.out.below B2.out)
    rw [HC.out] at h
    exact h
  go_wp2_with (go_at_call 8; fail)
  refine HCk.out.mono ?_
  rintro e w3 ⟨rfl, hb3⟩
  have B3 : Hid (Below w.heap.size w w3) := B2.out.trans (hb3.mono B2.out.size)
  clear hb3 B2 HCk HP
  obtain ⟨i0, hi0, hzz⟩ := Option.map_eq_some_iff.1 infoS
  simp only [Prod.mk.injEq] at hzz
  have HI : Hid (Tryz.prog.info? 9 = some i0 ∧ i0.zero = some (.string ⟨#[]⟩) ∧ i0.size = 1 ∧ i0.bytes = 16) := ⟨hi0, hzz.1, hzz.2.1, hzz.2.2⟩
  have H3 : Hid (w.heap.size ≤ w3.heap.size) := B3.out.size
  clear hi0 hzz
  go_wp2
  go_loopw [9, 10] (fun v i wr => ∃ k : Nat, k ≤ n ∧ i = .int .i64 k ∧ Hid (LI nm w w3 k v wr)) (fun _ i _ => n - (intOf i).toNat)
  case atStart => exact ⟨0, Nat.zero_le _, rfl, World.ownsRow_nil _ _ _ _, B3.out, Nat.le_refl _⟩
  case round =>
    obtain ⟨k, hk, rfl, hL⟩ := hrel
    by_cases hlt : k < n
    · have hki : (k : Int) < (n : Int) := by omega
      have Hk : Hid (k < n ∧ n ≤ 100) := ⟨hlt, Hn.out.2⟩
      clear hk hlt
      go_wp2_with (at_builtin; refine wpList_append_lies _ rfl _ _ _ rfl w3.heap.size 9 i0 (.string ⟨#[]⟩) 1 16 Tryz.underlying22 HI.out.1 HI.out.2.1 HI.out.2.2.1 HI.out.2.2.2 rfl (by decide) _ k (List.replicate k (.string (bs nm))) rfl (hL.out.1.alloc _) ⟨wr.heap.size, 0, none⟩ 1 1 [.string (bs nm)] rfl rfl (li_news nm wr) (one_str _) (by decide) (by have := Hk.out; unfold maxLen; omega) (by have := Hk.out; omega) (by have := hL.out.2.2; simp; omega) (wr.heap.size + 1) (by simp) ?_; intro o7 c7 w7 hown7 hgrow7 hat7 hlt7; have HL7 := li_step hL H3 hown7 hgrow7; clear hown7 hgrow7 hat7 hlt7)
      exact ⟨⟨k + 1, Hk.out.1, cast_k k, HL7⟩, meas_k k n Hk.out.1⟩
    · obtain rfl : n = k := by omega
      obtain ⟨g, cap, hv, hg, hA⟩ := li_form hL.out Hn.out.1
      subst hv
      have HCh : Hid (Calls Tryz.prog 7 #[.slice (some ⟨g, 0, none⟩) n cap] wr fun e w' => ∃ o cap, e = .returned (.agg #[.int .i64 17, .string ⟨#[]⟩, .int .i64 0, .slice o (2 * n + 1) cap, .int .i64 0]) ∧ NdIn w' w'.heap.size (chainO nm n) o cap ∧ Below wr.heap.size wr w') := chain5_c nm (by have := HNl.out; omega) n Hn.out.2 g 0 cap wr hg hA
      have B4 : Hid (Below w.heap.size w wr) := hL.out.2.1
      clear hL hk hlt hg hA HI B3 H3
      go_wp2_with (go_at_call 7; fail)
      refine HCh.out.mono ?_
      rintro e w5 ⟨o, c5, rfl, hN5, hb5⟩
      have B5 : Hid (Below w.heap.size w w5) := B4.out.trans (hb5.mono B4.out.size)
      have HR : Hid (Calls Tryz.prog 9 #[.agg #[.int .i64 17, .string ⟨#[]⟩, .int .i64 0, .slice o (2 * n + 1) c5, .int .i64 0], .slice (some ⟨w5.heap.size, 0, none⟩) 1 1] (w5.alloc (.cells #[.string (bs nm), .int .i64 3, .int .i64 level] 42)) fun e w' => ResRes (w5.alloc (.cells #[.string (bs nm), .int .i64 3, .int .i64 level] 42)) w' e (levR nm 3 n)) := resLev nm HNl.out HC.out 3 level Hs.out n Hn.out o c5 w5 (HG.out.below B5.out) hN5
      clear hN5 hb5 HCh B4
      go_wp2_with (go_at_call 9; fail)
      refine HR.out.mono ?_
      intro e w6 hr
      rw [stT_zero nm 3 n (by decide) (by decide) (by have := h8.out; omega) Hn.out.1] at hr
      obtain ⟨ox, cx, he, hF, hb6⟩ := hr
      have hN6 := hF.nin
      obtain ⟨x0, hx0⟩ : ∃ x0, stT nm 3 n 0 = x0 := ⟨_, rfl⟩
      rw [hx0] at he hN6
      have HX0 : Hid (stT nm 3 n 0 = x0) := hx0
      have he' : e = .returned (.tuple #[.agg #[.int .i64 x0.kind, .string (bs x0.name), .int .i64 x0.num, .slice ox x0.kids.length cx, .int .i64 x0.pos], .agg #[.int .i64 0, .int .i64 0]]) := he
      subst he'
      have HN6 : Hid (NdIn w6 w6.heap.size x0 ox cx) := hN6
      have B6 : Hid (Below w.heap.size w w6) := (B5.out.alloc B5.out.size _).trans (hb6.mono (by have := B5.out.size; simp; omega))
      clear he hb6 HR hF hN6 hx0
      have h8i : (n : Int) ≤ 1 := by have := h8.out; omega
      go_wp2
      obtain ⟨VX, hVX⟩ : ∃ VX, (w6.alloc (.cells #[.int .i64 x0.kind, .string (bs x0.name), .int .i64 x0.num, .slice ox x0.kids.length cx, .int .i64 x0.pos] 28)).alloc (.cells #[.int .i64 0, .int .i64 0] 33) = VX := ⟨_, rfl⟩
      have HX : Hid (XI nm 3 n w6 0 VX) := by
        refine ⟨ox, cx, ?_, ?_, ?_⟩
        · rw [HX0.out, ← hVX]; exact (Blk.new _ _ _).alloc _
        · rw [HX0.out]; exact HN6.out
        · rw [← hVX]; exact ((Below.refl _ w6).alloc (Nat.le_refl _) _).alloc (by simp) _
      rw [hVX]
      clear hVX HX0 HN6 h3 h4 h7
      go_loopw [13] (fun i wr => ∃ k : Nat, k ≤ n ∧ i = .int .i64 k ∧ Hid (XI nm 3 n w6 k wr)) (fun i _ => n - (intOf i).toNat)
      case atStart => exact ⟨0, Nat.zero_le _, rfl, HX⟩
      case round =>
        obtain ⟨k, hk, rfl, hI⟩ := hrel
        clear HX
        by_cases hlt : k < n
        · have hki : (k : Int) < (n : Int) := by omega
          have Hk : Hid (k < n ∧ n ≤ 100) := ⟨hlt, Hn.out.2⟩
          obtain ⟨oy, cy, hB, hN, hW⟩ := hI.out
          obtain ⟨hd, p, A, C, hst, hcase⟩ := stT_step nm 3 n k hlt
          rw [hst] at hB hN
          obtain ⟨g2, off, oA, cA, oB, cB, rfl, hg2, hA, hC, ⟨a0, a1, a2, a3, a4⟩, ⟨b0, b1, b2, b3, b4⟩⟩ := x_open hN hW
          obtain ⟨eA, eC⟩ : A = stT nm 3 n (k + 1) ∧ C = nmO (n - k) := by
            rcases hcase with ⟨h, -, -⟩ | ⟨-, h1, h2⟩
            · cases h
            · exact ⟨h1, h2⟩
          have cK : C.kind = 13 := by rw [eC]; rfl
          have cN : C.num = (n : Int) - (k : Int) := by
            rw [eC]
            show ((n - k : Nat) : Int) = _
            omega
          have HE : Hid (A = stT nm 3 n (k + 1)) := eA
          rw [cK] at b0
          rw [cN] at b2
          clear hcase eA eC cK cN
          have hB' : Blk wr w6.heap.size #[.int .i64 16, .string ⟨#[]⟩, .int .i64 0, .slice (some ⟨g2, off, none⟩) 3 cy, .int .i64 p] 28 := hB
          have HB : Hid (Blk wr w6.heap.size #[.int .i64 16, .string ⟨#[]⟩, .int .i64 0, .slice (some ⟨g2, off, none⟩) 3 cy, .int .i64 p] 28) := hB'
          have HA : Hid (NdIn w6 w6.heap.size A oA cA) := hA
          have HCc : Hid (NdIn w6 w6.heap.size C oB cB) := hC
          have HW : Hid (Below w6.heap.size w6 wr) := hW
          obtain ⟨x0, x1, x2, x3, x4, y0, y1, y2, y3, y4⟩ := hB'.cells5F
          have lx := hB'.lt
          have lg : g2 < wr.heap.size := Nat.lt_of_lt_of_le hg2 hW.size
          clear hB hB' hN hW hA hC hst hk hlt hI
          go_upto_region 20 with fail
          go_cut [14, 15, 16] from 84 to 123 (fun s14 s15 s16 wx => ∃ (ga gb : Nat), s14 = .pointer (some ⟨ga, 0, none⟩) ∧ s15 = .pointer (some ⟨gb, 0, none⟩) ∧ s16 = .int .i64 ((n : Int) - (k : Int)) ∧ Hid (R20 wr wx ga gb A C oA oB cA cB ((n : Int) - (k : Int))))
          case first =>
            have hwk : IntKind.i64.wrap ((n : Int) - (k : Int)) = (n : Int) - (k : Int) := by rw [IntKind.wrap_i64]; omega
            have ne0 := World.new_ne wr ⟨w6.heap.size, 3, none⟩ x3
            have ne1 := World.new_ne wr ⟨g2, off + 5, none⟩ a0
            have ne2 := World.new_ne wr ⟨g2, off + 5 + 1, none⟩ a1
            have ne3 := World.new_ne wr ⟨g2, off + 5 + 2, none⟩ a2
            have ne4 := World.new_ne wr ⟨g2, off + 5 + 3, none⟩ a3
            have ne5 := World.new_ne wr ⟨g2, off + 5 + 4, none⟩ a4
            have ne6 := World.new_ne wr ⟨g2, off + 10, none⟩ b0
            have ne7 := World.new_ne wr ⟨g2, off + 10 + 1, none⟩ b1
            have ne8 := World.new_ne wr ⟨g2, off + 10 + 2, none⟩ b2
            have ne9 := World.new_ne wr ⟨g2, off + 10 + 3, none⟩ b3
            have ne10 := World.new_ne wr ⟨g2, off + 10 + 4, none⟩ b4
            go_region_held3 (fun w' => w'.cell? ⟨w6.heap.size, 3, none⟩ = some (.slice (some ⟨g2, off, none⟩) 3 cy) ∧ w'.cell? ⟨g2, off + 5, none⟩ = some (.int .i64 A.kind) ∧ w'.cell? ⟨g2, off + 5 + 1, none⟩ = some (.string (bs A.name)) ∧ w'.cell? ⟨g2, off + 5 + 2, none⟩ = some (.int .i64 A.num) ∧ w'.cell? ⟨g2, off + 5 + 3, none⟩ = some (.slice oA A.kids.length cA) ∧ w'.cell? ⟨g2, off + 5 + 4, none⟩ = some (.int .i64 A.pos) ∧ w'.cell? ⟨g2, off + 10, none⟩ = some (.int .i64 13) ∧ w'.cell? ⟨g2, off + 10 + 1, none⟩ = some (.string (bs C.name)) ∧ w'.cell? ⟨g2, off + 10 + 2, none⟩ = some (.int .i64 ((n : Int) - (k : Int))) ∧ w'.cell? ⟨g2, off + 10 + 3, none⟩ = some (.slice oB C.kids.length cB) ∧ w'.cell? ⟨g2, off + 10 + 4, none⟩ = some (.int .i64 C.pos)) (go_keep) (fail)
            all_goals (clear ne0 ne1 ne2 ne3 ne4 ne5 ne6 ne7 ne8 ne9 ne10; go_wp2_with fail; go_meet)
            · exact ⟨_, _, rfl, rfl, rfl, r20a⟩
            · exact ⟨_, _, rfl, rfl, rfl, r20b⟩
          case rest =>
            obtain ⟨ga, gb, rfl, rfl, rfl, hR⟩ := hcut
            obtain ⟨r1, r2, r3, r4, r5, r6⟩ := hR.out
            clear a0 a1 a2 a3 a4 b0 b1 b2 b3 b4 x0 x1 x2 x3 x4 y0 y1 y2 y3 y4 lx lg
            obtain ⟨x0, x1, x2, x3, x4, y0, y1, y2, y3, y4⟩ := (HB.out.below r1).cells5F
            have lx := (HB.out.below r1).lt
            obtain ⟨p0, p1, p2, p3, p4, f0, f1, f2, f3, f4⟩ := r2.cells5F
            obtain ⟨q0, q1, q2, q3, q4, e0, e1, e2, e3, e4⟩ := r3.cells5F
            have lp := r2.lt
            have lq := r3.lt
            have HXI := xi_next (n := n) (k := k) (nm := nm) HB HW HA HE r1
            have hlx : w6.heap.size < wr.heap.size := HB.out.lt
            have n1 : w6.heap.size ≠ ga := by omega
            have n2 : w6.heap.size ≠ gb := by omega
            clear r1 r2 r3 r5 r6 hR hlx
            go_wp2
            exact ⟨⟨k + 1, Hk.out.1, cast_k k, HXI⟩, meas_k k n Hk.out.1⟩
        · obtain rfl : n = k := by omega
          obtain ⟨oy, cy, hB, hN, hW⟩ := hI.out
          have hk13 := stT_end nm 3 n
          obtain ⟨x0, -, -, -, -, -, -, -, -, -⟩ := hB.cells5F
          rw [hk13] at x0
          have lx := hB.lt
          have HBl : Hid (Below w.heap.size w wr) := B6.out.trans (hW.mono B6.out.size)
          clear hB hN hW hk13 hI hk hlt
          go_wp2
          go_ret
          exact ⟨rfl, HBl.out⟩

end Go.Proofs.YtppnhaacmhfenabGreatDoor
