/-
  lex.All by its contract.
-/
import Derived.Test.YtndpebkiiemfpaaGreatDoorAllH
namespace Go.Proofs.YtndpebkiiemfpaaGreatDoor
open Go.RowKit Go.Shelf Go.Maps
set_option linter.unusedVariables false

set_option maxHeartbeats 40000000 in
set_option maxRecDepth 100000 in
theorem all_bad (s : ByteArray) (e a : Int) (hc' : chk s = (e, a)) (he : e ≠ 0) (w : World) :
    Calls Tryz.prog 10 #[.string s] w fun r W' => r = .returned (.tuple #[.slice none 0 0, faultV e a]) ∧ Below w.heap.size w W' := by
  have hc : Hid (chk s = (e, a)) := hc'
  clear hc'
  have hdep : Tryz.prog.follows Departure.mixedOrders = true := by kernel_rfl
  have hez : (e == 0) = false := beq_eq_false_iff_ne.2 he
  have hB0 : Hid (Below w.heap.size w (w.alloc (.cells #[.int .i64 0, .int .i64 0] 35))) := (Below.refl _ w).alloc (Nat.le_refl _) _
  go_enter Tryz.func10, Tryz.ntmps10
  go_wp2_with (go_at_call 26; fail)
  refine (check_c s _).mono ?_
  rintro r w1 ⟨rfl, hb⟩
  rw [hc.out]
  have q0 : Hid (Blk w1 w.heap.size #[.int .i64 0, .int .i64 0] 35) := (Blk.new w _ _).below hb
  obtain ⟨ac0, ac1, af0, af1⟩ := q0.out.all2
  have hB1 : Hid (Below w.heap.size w w1) := hB0.out.trans (hb.mono hB0.out.size)
  have hsz : w.heap.size < w1.heap.size := by have := hb.size; simp at this; omega
  have hne : w.heap.size ≠ w1.heap.size := by omega
  clear hb
  go_wp2
  go_region
  all_goals go_wp2
  all_goals have z := (((q0.out.set 0 (.int .i64 e)).set 1 (.int .i64 a)).alloc (.cells #[.int .i64 e, .int .i64 a] 35)).all2
  all_goals exact bodyPost_ret (v := .tuple #[.slice none 0 0, faultV e a]) (by simp [results, Tryz.results10, go_sem, faultV, z.1, z.2.1]) rfl ⟨rfl, by
    refine Below.drew ?_
    refine Below.alloc ?_ (by simp; omega) _
    refine Below.setCell ?_ (by simp) _
    refine Below.setCell ?_ (by simp) _
    exact hB1.out⟩

set_option maxHeartbeats 40000000 in
set_option maxRecDepth 100000 in
theorem all_ok (s : ByteArray) (hs : s.size ≤ 70000) (hc' : chk s = (0, 0)) (w : World) (hG' : GOK w) :
    Calls Tryz.prog 10 #[.string s] w fun r W' => ∃ v f, r = .returned (.tuple #[v, f]) ∧ Below w.heap.size w W' ∧
      Hid (AllPost s w W' v f) := by
  have hc : Hid (chk s = (0, 0)) := hc'
  have hG : Hid (GOK w) := hG'
  clear hc' hG'
  have hdep : Tryz.prog.follows Departure.mixedOrders = true := by kernel_rfl
  have hB0 : Hid (Below w.heap.size w (w.alloc (.cells #[.int .i64 0, .int .i64 0] 35))) := (Below.refl _ w).alloc (Nat.le_refl _) _
  go_enter Tryz.func10, Tryz.ntmps10
  go_wp2_with (go_at_call 26; fail)
  refine (check_c s _).mono ?_
  rintro r w1 ⟨rfl, hb⟩
  rw [hc.out]
  have q1 : Hid (Blk w1 w.heap.size #[.int .i64 0, .int .i64 0] 35) := (Blk.new w _ _).below hb
  have hB1 : Hid (Below w.heap.size w w1) := hB0.out.trans (hb.mono hB0.out.size)
  clear hb
  go_wp2_with (first
    | (go_at_call 27; refine (passers_c _).mono ?_; rintro r w2 ⟨gp, rfl, hgp, hfp, hb2⟩)
    | (go_at_call 28; refine (takers_c _).mono ?_; rintro r w3 ⟨gt, rfl, hgt, hft, hb3⟩)
    | (go_at_call 29; refine (words_c _).mono ?_; rintro r w4 ⟨bw, rfl, hsw, hb4⟩)
    | (go_at_call 30; refine (signs_c _).mono ?_; rintro r w5 ⟨bg, rfl, hsg, hb5⟩))
  have hb2s := hb2.size
  have hb3s := hb3.size
  have hb4s := hb4.size
  have hb5s := hb5.size
  simp only [World.size_alloc] at hb2s
  have hq1s := q1.out.lt
  have hBa : Below w.heap.size w (w1.alloc (.cells #[.int .i64 0, .int .i64 0] 35)) := hB1.out.alloc hB1.out.size _
  have hB2 := hBa.trans (hb2.mono hBa.size)
  have hB3 := hB2.trans (hb3.mono hB2.size)
  have hB4 := hB3.trans (hb4.mono hB3.size)
  have hB5 := hB4.trans (hb5.mono hB4.size)
  have k1 := (((((q1.out.alloc (.cells #[.int .i64 0, .int .i64 0] 35)).below hb2).below hb3).below hb4).below hb5)
  have k2 := fns_below (fns_below (fns_below hfp.out hgp hb3) (by omega) hb4) (by omega) hb5
  have k3 := fns_below (fns_below hft.out hgt hb4) (by omega) hb5
  have hbw := hsw.out.lt
  have hbg := hsg.out.lt
  have k4 := set_below hsw.out hb5
  obtain ⟨W6, hW6⟩ : ∃ W6, W6 = w5.alloc (.cells #[.int .i64 0, .int .i64 1, .int .i64 1] 70) := ⟨_, rfl⟩
  have hbp : Below w5.heap.size w5 W6 := by rw [hW6]; exact (Below.refl _ _).alloc (Nat.le_refl _) _
  have HP0 : Hid (Blk W6 w5.heap.size #[.int .i64 0, .int .i64 1, .int .i64 1] 70) := by rw [hW6]; exact Blk.new _ _ _
  have hn0 : W6.heap.size = w5.heap.size + 1 := by rw [hW6]; simp
  have HR : Hid (Blk W6 w.heap.size #[.int .i64 0, .int .i64 0] 35 ∧ w.heap.size < w5.heap.size) := ⟨k1.below hbp, k1.lt⟩
  have HFp : Hid (FnsAt W6 gp passF ∧ gp < w5.heap.size) := ⟨fns_below k2 (by omega) hbp, by omega⟩
  have HFt : Hid (FnsAt W6 gt takeF ∧ gt < w5.heap.size) := ⟨fns_below k3 (by omega) hbp, by omega⟩
  have HSw : Hid (SetAt W6 bw M.wordL ∧ bw < w5.heap.size) := ⟨set_below k4 hbp, by omega⟩
  have HSg : Hid (SetAt W6 bg M.signL ∧ bg < w5.heap.size) := ⟨set_below hsg.out hbp, by omega⟩
  have HB6 : Hid (Below w.heap.size w W6 ∧ w.heap.size ≤ w5.heap.size) := ⟨hB5.trans (hbp.mono hB5.size), hB5.size⟩
  rw [← hW6]
  clear hbp hW6 k1 k2 k3 k4 hbw hbg hB2 hB3 hB4 hB5 hBa hb2s hb3s hb4s hb5s hq1s hb2 hb3 hb4 hb5 hgp hgt hfp hft hsw hsg q1 hB1 hB0
  generalize w5.heap.size = P at *
  have hlen : s.data.toList.length = s.size := (Lib.size_eq s).symm
  have hinv : Hid (∀ W : World, Below P W6 W → FnsAt W gp passF ∧ FnsAt W gt takeF ∧ SetAt W bw M.wordL ∧ SetAt W bg M.signL ∧ GOK W ∧ gp < W.heap.size ∧ gt < W.heap.size ∧ Blk W w.heap.size #[.int .i64 0, .int .i64 0] 35 ∧ Below w.heap.size w W ∧ w.heap.size < P) := by
    intro W hb
    have hBw : Below w.heap.size w W := HB6.out.1.trans (hb.mono HB6.out.2)
    have hsz := hb.size
    exact ⟨fns_belowB HFp.out.1 HFp.out.2 hb, fns_belowB HFt.out.1 HFt.out.2 hb, set_belowB HSw.out.1 HSw.out.2 hb, set_belowB HSg.out.1 HSg.out.2 hb, hG.out.below hBw, by have := HFp.out.2; omega, by have := HFt.out.2; omega, blk_belowB HR.out.1 HR.out.2 hb, hBw, HR.out.2⟩
  clear HFp HFt HSw HSg HR HB6 hG hc
  go_loopw [5, 11] (fun al li wr => ∃ (a l c last : Nat) (pre : List M.Tk), a ≤ s.size ∧ l ≤ a + 1 ∧ 1 ≤ c ∧ c ≤ 8 * a + 1 ∧ li = .int .i64 (last : Int) ∧ Hid (ScanAt s.data.toList pre a (l, c) last) ∧ Hid (Blk wr P #[.int .i64 (a : Int), .int .i64 (l : Int), .int .i64 (c : Int)] 70) ∧ Hid (wr.ownsRow W6.heap.size 39 7 al pre.length (tksC pre)) ∧ Hid (Below P W6 wr))
    (fun _ _ wr => s.size - (intOf ((wr.cell? ⟨P, 0, none⟩).getD undef)).toNat)
  case atStart => exact ⟨0, 1, 1, 0, [], Nat.zero_le _, Nat.le_refl _, Nat.le_refl _, Nat.le_refl _, rfl, scanAt_start _, HP0, World.ownsRow_nil _ _ _ _, Below.refl _ _⟩
  case round =>
    obtain ⟨a, l, c, last, pre, ha, hl, hc1, hc, rfl, hsc, hP, hown, hBr⟩ := hrel
    have hai : (a : Int) ≤ s.size := by omega
    obtain ⟨pc0, pc1, pc2, pf0, pf1, pf2⟩ := hP.out.all3
    have hxe : (s.extract a s.size).data.toList = s.data.toList.drop a := ext_end s a
    have hile := M.idleAll_le' (s.data.toList.drop a)
    rw [List.length_drop, hlen] at hile
    have hI := fun (W : World) (hb : Below P W6 W) => idle_c gp (s.extract a s.size) (by rw [size_drop]; omega) W (hinv.out W hb).2.2.2.2.2.1 (hinv.out W hb).1 (hinv.out W hb).2.2.2.2.1
    rw [hxe] at hI
    obtain ⟨i, hi⟩ : ∃ i, M.idleAll (s.data.toList.drop a) = i := ⟨_, rfl⟩
    rw [hi] at hI hile
    have hbe := behind_c s a l c i hs (by omega) (by omega) hc1 (by omega)
    unfold placeV at hbe
    obtain ⟨⟨l2, c2⟩, hmv⟩ : ∃ r, M.mv (l, c) ((s.data.toList.drop a).take i) = r := ⟨_, rfl⟩
    rw [hmv] at hbe
    have HI : Hid (∀ (W : World), Below P W6 W → Calls Tryz.prog 32 #[.slice (some ⟨gp, 0, none⟩) 3 3, .string (s.extract a s.size)] W fun e w' => e = .returned (.int .i64 (i : Int)) ∧ Below W.heap.size W w') := hI
    have HBe : Hid (∀ (W : World), Calls Tryz.prog 31 #[.agg #[.int .i64 (a : Int), .int .i64 (l : Int), .int .i64 (c : Int)], .string s, .int .i64 (i : Int)] W fun e w' => e = .returned (.agg #[.int .i64 ((a + i : Nat) : Int), .int .i64 (l2 : Int), .int .i64 (c2 : Int)]) ∧ Below W.heap.size W w') := hbe
    have Hi : Hid (M.idleAll (s.data.toList.drop a) = i) := hi
    have Hmv : Hid (M.mv (l, c) ((s.data.toList.drop a).take i) = (l2, c2)) := hmv
    clear hI hbe hi hmv hxe
    go_wp2
    go_region_with (first
      | (go_at_call 32; refine (HI.out _ (by first | exact hBr.out | exact hBr.out.drew)).mono ?_; rintro r v1 ⟨rfl, hv1⟩; have hP1 : Hid (Blk v1 P #[.int .i64 (a : Int), .int .i64 (l : Int), .int .i64 (c : Int)] 70) := Blk.below (by first | exact hP.out | exact hP.out.drew) hv1; obtain ⟨rc0, rc1, rc2, rf0, rf1, rf2⟩ := hP1.out.all3; have hv1' : Hid (Below wr.heap.size wr v1) := (by first | exact hv1 | exact (Below.refl _ wr).drew.trans hv1); clear hv1)
      | (go_at_call 31; refine (HBe.out _).mono ?_; rintro r v2 ⟨rfl, hv2⟩; have hP2 : Hid (Blk v2 P #[.int .i64 (a : Int), .int .i64 (l : Int), .int .i64 (c : Int)] 70) := hP1.out.below hv2; obtain ⟨tc0, tc1, tc2, tf0, tf1, tf2⟩ := hP2.out.all3; have hv2' : Hid (Below v1.heap.size v1 v2) := (by first | exact hv2 | exact (Below.refl _ v1).drew.trans hv2); clear hv2))
    -- ROUND
    · clear pc0 pc1 pc2 pf0 pf1 pf2 rc0 rc1 rc2 rf0 rf1 rf2 tc0 tc1 tc2 tf0 tf1 tf2 HI HBe
      obtain ⟨j, hj⟩ : ∃ j, a + i = j := ⟨_, rfl⟩
      have hji : ((a : Int) + (i : Int)) = (j : Int) := by omega
      rw [hji]
      have hjs : j ≤ s.size := by omega
      obtain ⟨V, hV⟩ : ∃ V, V = ((v2.setCell ⟨P, 0, none⟩ (.int .i64 (j : Int))).setCell ⟨P, 1, none⟩ (.int .i64 (l2 : Int))).setCell ⟨P, 2, none⟩ (.int .i64 (c2 : Int)) := ⟨_, rfl⟩
      have hPV : Hid (Blk V P #[.int .i64 (j : Int), .int .i64 (l2 : Int), .int .i64 (c2 : Int)] 70) := by rw [hV]; exact hP2.out.set3 _ _ _
      have hBV : Hid (Below P W6 V) := by
        have h1 := hBr.out.trans (hv1'.out.mono (Nat.le_of_lt hP.out.lt))
        have h2 := h1.trans (hv2'.out.mono (Nat.le_of_lt hP1.out.lt))
        rw [hV]
        exact ((h2.setCell (Nat.le_refl _) _).setCell (Nat.le_refl _) _).setCell (Nat.le_refl _) _
      have hownV : Hid (V.ownsRow W6.heap.size 39 7 u5 pre.length (tksC pre)) := by
        have h1 := owns_below (owns_below hown.out hv1'.out) hv2'.out
        rw [hV]
        exact ownsRow_setCell_below (ownsRow_setCell_below (ownsRow_setCell_below h1 (by show P < _; omega) _) (by show P < _; omega) _) (by show P < _; omega) _
      rw [← hV]
      clear hV hv1' hv2' hP1 hP2 hBr hown
      obtain ⟨pc0, pc1, pc2, pf0, pf1, pf2⟩ := hPV.out.all3
      have hRV : Hid (Blk V w.heap.size #[.int .i64 0, .int .i64 0] 35) := (hinv.out V hBV.out).2.2.2.2.2.2.2.1
      have hwP : w.heap.size < P := (hinv.out V hBV.out).2.2.2.2.2.2.2.2.2
      have hBwV : Hid (Below w.heap.size w V) := (hinv.out V hBV.out).2.2.2.2.2.2.2.2.1
      by_cases hend : j = s.size
      · have hjz : ((j : Int) == (s.size : Int)) = true := beq_iff_eq.2 (by omega)
        obtain ⟨ra0, ra1, rf0, rf1⟩ := hRV.out.all2
        have hsE : Hid (M.scanAll s.data.toList = .inr pre) := scanAt_end _ _ _ _ _ hsc.out (by rw [Hi.out]; omega)
        have hpl : Hid (pre.length ≤ s.size) := by obtain ⟨f, _, _, h3, _⟩ := hsc.out; show _ ≤ _; omega
        go_wp2
        have z := ((hRV.out.set 0 (.int .i64 0)).set 1 (.int .i64 0)).all2
        exact bodyPost_ret (v := .tuple #[u5, faultV 0 0]) (by simp [results, Tryz.results10, go_sem, faultV, z.1, z.2.1]) rfl ⟨_, _, rfl, (hBwV.out.setCell (Nat.le_refl _) _).setCell (Nat.le_refl _) _, by show AllPost _ _ _ _ _; unfold AllPost; rw [hsE.out]; exact ⟨rfl, hpl.out, owns_mono (ownsRow_setCell_below (ownsRow_setCell_below hownV.out (by show w.heap.size < _; omega) _) (by show w.heap.size < _; omega) _) (by omega)⟩⟩
      · have hjz : ((j : Int) == (s.size : Int)) = false := beq_eq_false_iff_ne.2 (by omega)
        have hjlt : (j : Int) < s.size := by omega
        have hxe : (s.extract j s.size).data.toList = s.data.toList.drop j := ext_end s j
        have hT := longest_take gt (s.extract j s.size) (by rw [size_drop]; omega) V (hinv.out V hBV.out).2.2.2.2.2.2.1 (hinv.out V hBV.out).2.1 (hinv.out V hBV.out).2.2.2.2.1
        rw [hxe] at hT
        have hle := M.lex1_le (s.data.toList.drop j)
        rw [List.length_drop, hlen] at hle
        have hk0 := lex1_fst (s.data.toList.drop j)
        obtain ⟨⟨k0, n⟩, hkn⟩ : ∃ r, M.lex1 (s.data.toList.drop j) = r := ⟨_, rfl⟩
        rw [hkn] at hT hle hk0
        simp only at hT hle hk0
        have HT : Hid (Calls Tryz.prog 33 #[.slice (some ⟨gt, 0, none⟩) 8 8, .string (s.extract j s.size)] V fun e w' => e = .returned (.tuple #[.int .i64 (k0 : Int), .int .i64 (n : Int)]) ∧ Below V.heap.size V w') := hT
        have Hkn : Hid (M.lex1 (s.data.toList.drop j) = (k0, n)) := hkn
        have hj' : Hid (a + M.idleAll (s.data.toList.drop a) = j) := by show _ = _; rw [Hi.out]; exact hj
        clear hT hkn hxe
        by_cases hn : n = 0
        · subst hn
          have hsE : Hid (M.scanAll s.data.toList = .inl j) := by
            have := scanAt_bad _ _ _ _ _ hsc.out (by rw [hj'.out]; omega) (by rw [hj'.out, Hkn.out])
            rw [hj'.out] at this
            exact this
          go_wp2_with (go_at_call 33; fail)
          refine HT.out.mono ?_
          rintro r v3 ⟨rfl, hv3⟩
          have hP3 : Hid (Blk v3 P #[.int .i64 (j : Int), .int .i64 (l2 : Int), .int .i64 (c2 : Int)] 70) := hPV.out.below hv3
          have hR3 : Hid (Blk v3 w.heap.size #[.int .i64 0, .int .i64 0] 35) := hRV.out.below hv3
          have hB3 : Hid (Below w.heap.size w v3) := hBwV.out.trans (hv3.mono hBwV.out.size)
          clear hv3 pc0 pc1 pc2 pf0 pf1 pf2
          obtain ⟨pc0, pc1, pc2, pf0, pf1, pf2⟩ := hP3.out.all3
          obtain ⟨ra0, ra1, rf0, rf1⟩ := hR3.out.all2
          go_wp2
          go_region
          all_goals go_wp2
          all_goals have z := ((hR3.out.set 0 (.int .i64 4)).set 1 (.int .i64 (j : Int))).all2
          all_goals exact bodyPost_ret (v := .tuple #[.slice none 0 0, faultV 4 (j : Int)]) (by simp [results, Tryz.results10, go_sem, faultV, z.1, z.2.1]) rfl ⟨_, _, rfl, by first | exact ((hB3.out.setCell (Nat.le_refl _) _).setCell (Nat.le_refl _) _).drew | exact (hB3.out.setCell (Nat.le_refl _) _).setCell (Nat.le_refl _) _, by show AllPost _ _ _ _ _; unfold AllPost; rw [hsE.out]; exact ⟨rfl, rfl⟩⟩
        · have hnz : ((n : Int) == 0) = false := beq_eq_false_iff_ne.2 (by omega)
          have hjn : (j : Int) + n ≤ s.size := by omega
          have hjn7 : (j : Int) + n ≤ 70000 := by omega
          obtain ⟨X, hX⟩ : ∃ X : ByteArray, X = s.extract j (j + n) := ⟨_, rfl⟩
          have hsl : ∀ w : World, (Instr.slice 9 (.string s) (some (.int .i64 (j : Int))) (some (.int .i64 ((j : Int) + (n : Int)))) none).run Tryz.prog w = .ok (.string X) w := fun w => by
            rw [run_slice_string w 9 s .i64 .i64 (j : Int) ((j : Int) + (n : Int)) Tryz.underlying9 (by omega) (by omega) (by omega), hX]
            congr 3
          have hXl : X.data.toList = (s.data.toList.drop j).take n := by rw [hX, Lib.extract_eq]; show List.take (j + n - j) _ = _; rw [Nat.add_sub_cancel_left]
          have hXs : X.size = n := by rw [Lib.size_eq, hXl, List.length_take, List.length_drop, hlen]; omega
          have hTk := token_c (k0 + 1) X (by omega) (by omega)
          rw [hXl] at hTk
          have htl := mkTok_text (k0 + 1) ((s.data.toList.drop j).take n)
          rw [List.length_take] at htl
          have hnx := next_eq s.data.toList a i j l2 c2 last k0 n (l, c) Hi.out hj Hmv.out Hkn.out
          obtain ⟨⟨tk, tt, tn⟩, ht0⟩ : ∃ r, M.mkTok (k0 + 1) ((s.data.toList.drop j).take n) = r := ⟨_, rfl⟩
          rw [ht0] at hTk hnx htl
          simp only at hnx htl
          have HTk : Hid (∀ (w : World), GOK w → Calls Tryz.prog 34 #[.int .i64 ((k0 : Int) + 1), .string X] w fun e W' => e = .returned (.agg #[.int .i64 (tk : Int), .string (bs tt), .int .i64 (tn : Int), .int .i64 0, .int .i64 0, .int .i64 0, .bool false]) ∧ Below w.heap.size w W') := by
            intro w hw
            exact hTk w hw
          have hRs := reserved_c tk (bs tt) tn (by rw [bs_size]; omega) bw bg
          unfold tokV at hRs
          rw [bs_list] at hRs
          obtain ⟨kk, hkk⟩ : ∃ kk, resK tk tt = kk := ⟨_, rfl⟩
          rw [hkk] at hRs hnx
          have HRs : Hid (∀ (w : World), SetAt w bw M.wordL → SetAt w bg M.signL → Calls Tryz.prog 35 #[.agg #[.int .i64 (tk : Int), .string (bs tt), .int .i64 (tn : Int), .int .i64 0, .int .i64 0, .int .i64 0, .bool false], .map (some bw), .map (some bg)] w fun e W' => e = .returned (.int .i64 (kk : Int)) ∧ Below w.heap.size w W') := hRs
          have hNx : Hid (nextTk s.data.toList a (l, c) last = ⟨⟨kk, tt, tn⟩, j, l2, c2, decide (l2 ≠ last)⟩) := hnx
          have hbe := behind_c s j l2 c2 n hs (by omega)
          have hmb := mv_line ((s.data.toList.drop a).take i) (l, c)
          have hmc := mv_col ((s.data.toList.drop a).take i) (l, c) hc1
          rw [Hmv.out, List.length_take, List.length_drop, hlen] at hmb hmc
          simp only at hmb hmc
          have hl2 : l2 ≤ j + 1 := by omega
          have hc21 : 1 ≤ c2 := by omega
          have hc2 : c2 ≤ 8 * j + 1 := by omega
          have hbe2 := hbe (by omega) hc21 (by omega)
          unfold placeV at hbe2
          have hmb2 := mv_line ((s.data.toList.drop j).take n) (l2, c2)
          have hmc2 := mv_col ((s.data.toList.drop j).take n) (l2, c2) hc21
          rw [List.length_take, List.length_drop, hlen] at hmb2 hmc2
          have hsn := scanAt_next _ _ _ _ _ hsc.out (by rw [hj'.out]; omega) (by rw [hj'.out, Hkn.out]; exact hn)
          rw [hj'.out, Hkn.out, Hi.out, Hmv.out, hNx.out] at hsn
          obtain ⟨⟨l3, c3⟩, hm3⟩ : ∃ r, M.mv (l2, c2) ((s.data.toList.drop j).take n) = r := ⟨_, rfl⟩
          simp only at hsn
          rw [hm3] at hbe2 hmb2 hmc2 hsn
          simp only at hmb2 hmc2
          have HSn : Hid (ScanAt s.data.toList (pre ++ [⟨⟨kk, tt, tn⟩, j, l2, c2, decide (l2 ≠ last)⟩]) (j + n) (l3, c3) l2) := hsn
          have HBe : Hid (∀ (W : World), Calls Tryz.prog 31 #[.agg #[.int .i64 (j : Int), .int .i64 (l2 : Int), .int .i64 (c2 : Int)], .string s, .int .i64 (n : Int)] W fun e w' => e = .returned (.agg #[.int .i64 ((j + n : Nat) : Int), .int .i64 (l3 : Int), .int .i64 (c3 : Int)]) ∧ Below W.heap.size W w') := hbe2
          have hb3 : l3 ≤ (j + n) + 1 ∧ 1 ≤ c3 ∧ c3 ≤ 8 * (j + n) + 1 := by omega
          obtain ⟨fb, hfb⟩ : ∃ fb, decide (l2 ≠ last) = fb := ⟨_, rfl⟩
          have hfi : ((l2 : Int) != (last : Int)) = fb := by
            rw [← hfb]
            rw [Bool.eq_iff_iff]; simp; omega
          have Hfb : Hid (decide (l2 ≠ last) = fb) := hfb
          have HGV : Hid (GOK V) := (hinv.out V hBV.out).2.2.2.2.1
          have HSwV : Hid (SetAt V bw M.wordL ∧ SetAt V bg M.signL) := ⟨(hinv.out V hBV.out).2.2.1, (hinv.out V hBV.out).2.2.2.1⟩
          have HA : Hid (a ≤ s.size ∧ a + i = j ∧ j < s.size ∧ j + n ≤ s.size ∧ 0 < n ∧ l3 ≤ (j + n) + 1 ∧ 1 ≤ c3 ∧ c3 ≤ 8 * (j + n) + 1 ∧ pre.length ≤ a ∧ s.size ≤ 70000) := by
            obtain ⟨f, _, _, h3, _⟩ := hsc.out
            exact ⟨ha, hj, by omega, by omega, by omega, hb3.1, hb3.2.1, hb3.2.2, h3, hs⟩
          clear hl hc1 hc hai hile hj hji hjs hend hle htl hl2 hc21 hc2 hb3 hXs ha hn hs hlen
          clear hTk hRs hnx hbe hbe2 hmb hmc hmb2 hmc2 hsn hm3 hkk ht0 hX hXl hfb hRV hBwV
          go_wp2_with (go_at_call 33; fail)
          refine HT.out.mono ?_
          rintro r v3 ⟨rfl, hv3⟩
          have hP3 : Hid (Blk v3 P #[.int .i64 (j : Int), .int .i64 (l2 : Int), .int .i64 (c2 : Int)] 70) := hPV.out.below hv3
          have HV3 : Hid (Below V.heap.size V v3) := hv3
          clear hv3 pc0 pc1 pc2 pf0 pf1 pf2
          obtain ⟨pc0, pc1, pc2, pf0, pf1, pf2⟩ := hP3.out.all3
          go_wp2_with (go_at_call 34; fail)
          refine (HTk.out _ (HGV.out.below HV3.out)).mono ?_
          rintro r v4 ⟨rfl, hv4⟩
          have HV4 : Hid (Below V.heap.size V v4) := HV3.out.trans (hv4.mono HV3.out.size)
          clear hv4 pc0 pc1 pc2 pf0 pf1 pf2 hjz hjlt hnz hjn hjn7 hsl hk0
          go_wp2_with (go_at_call 35; fail)
          refine (HRs.out _ (set_below (set_below HSwV.out.1 HV4.out) ((Below.refl _ _).alloc (Nat.le_refl _) _)) (set_below (set_below HSwV.out.2 HV4.out) ((Below.refl _ _).alloc (Nat.le_refl _) _))).mono ?_
          rintro r v5 ⟨rfl, hv5⟩
          have hT5 : Hid (Blk v5 v4.heap.size #[.int .i64 (tk : Int), .string (bs tt), .int .i64 (tn : Int), .int .i64 0, .int .i64 0, .int .i64 0, .bool false] 39) := (Blk.new v4 _ _).below hv5
          have hP5 : Hid (Blk v5 P #[.int .i64 (j : Int), .int .i64 (l2 : Int), .int .i64 (c2 : Int)] 70) := (((hPV.out.below HV4.out).alloc _).below hv5)
          have hA4 : Below V.heap.size V (v4.alloc (.cells #[.int .i64 (tk : Int), .string (bs tt), .int .i64 (tn : Int), .int .i64 0, .int .i64 0, .int .i64 0, .bool false] 39)) := HV4.out.alloc HV4.out.size _
          have HV5 : Hid (Below V.heap.size V v5 ∧ V.heap.size ≤ v4.heap.size) := ⟨hA4.trans (hv5.mono hA4.size), HV4.out.size⟩
          have hPT : P < v4.heap.size := by have := hPV.out.lt; have := HV4.out.size; omega
          clear hv5 hA4 hP3
          generalize v4.heap.size = T at *
          obtain ⟨tc0, tc1, tc2, tc3, tc4, tc5, tc6, tf0, tf1, tf2, tf3, tf4, tf5, tf6⟩ := hT5.out.all7
          obtain ⟨pc0, pc1, pc2, pf0, pf1, pf2⟩ := hP5.out.all3
          go_wp2
          obtain ⟨V5, hV5⟩ : ∃ V5, V5 = v5.setCell ⟨T, 0, none⟩ (.int .i64 (kk : Int)) := ⟨_, rfl⟩
          have hT6 : Hid (Blk V5 T #[.int .i64 (kk : Int), .string (bs tt), .int .i64 (tn : Int), .int .i64 0, .int .i64 0, .int .i64 0, .bool false] 39) := by rw [hV5]; exact hT5.out.set 0 _
          have hP6 : Hid (Blk V5 P #[.int .i64 (j : Int), .int .i64 (l2 : Int), .int .i64 (c2 : Int)] 70) := by
            rw [hV5]; unfold Blk; rw [Below.heap_setCell v5 _ _ P (by show P ≠ T; omega)]; exact hP5.out
          have hQ6 : Hid (Below (P + 1) V V5) := by
            rw [hV5]
            exact (HV5.out.1.mono (by have := hPV.out.lt; omega)).setCell (by show P + 1 ≤ T; omega) _
          have hO6 : Hid (V5.ownsRow W6.heap.size 39 7 u5 pre.length (tksC pre) ∧ ∀ g, u5.ownBlock = some g → g ≠ T) := by
            have hlt : ∀ g, u5.ownBlock = some g → g ≠ T := fun g hg => by have := (hownV.out.lt g hg).2; have := HV5.out.2; omega
            rw [hV5]
            exact ⟨owns_set_ne (owns_below hownV.out HV5.out.1) hlt _, hlt⟩
          have hTl : T < V5.heap.size := hT6.out.lt
          rw [← hV5]
          clear hV5 tc0 tc1 tc2 tc3 tc4 tc5 tc6 tf0 tf1 tf2 tf3 tf4 tf5 tf6 pc0 pc1 pc2 pf0 pf1 pf2 hT5 hP5
          obtain ⟨tc0, tc1, tc2, tc3, tc4, tc5, tc6, tf0, tf1, tf2, tf3, tf4, tf5, tf6⟩ := hT6.out.all7
          obtain ⟨pc0, pc1, pc2, pf0, pf1, pf2⟩ := hP6.out.all3
          go_region
          obtain ⟨V7, hV7⟩ : ∃ V7, V7 = ((((V5.setCell ⟨T, 3, none⟩ (.int .i64 (j : Int))).setCell ⟨T, 4, none⟩ (.int .i64 (l2 : Int))).setCell ⟨T, 5, none⟩ (.int .i64 (c2 : Int))).setCell ⟨T, 6, none⟩ (.bool fb)).drew := ⟨_, rfl⟩
          have hT7 : Hid (Blk V7 T #[.int .i64 (kk : Int), .string (bs tt), .int .i64 (tn : Int), .int .i64 (j : Int), .int .i64 (l2 : Int), .int .i64 (c2 : Int), .bool fb] 39) := by rw [hV7]; exact ((((hT6.out.set 3 _).set 4 _).set 5 _).set 6 _).drew
          have hQ7 : Hid (Below (P + 1) V V7) := by
            rw [hV7]
            exact ((((hQ6.out.setCell (by show P + 1 ≤ T; omega) _).setCell (by show P + 1 ≤ T; omega) _).setCell (by show P + 1 ≤ T; omega) _).setCell (by show P + 1 ≤ T; omega) _).drew
          have hO7 : Hid (V7.ownsRow W6.heap.size 39 7 u5 pre.length (tksC pre)) := by
            rw [hV7]
            exact (owns_set_ne (owns_set_ne (owns_set_ne (owns_set_ne hO6.out.1 hO6.out.2 _) hO6.out.2 _) hO6.out.2 _) hO6.out.2 _).drew
          have hS7 : Hid (W6.heap.size ≤ V7.heap.size) := by
            have h1 := hQ7.out.size
            have h2 := hPV.out.lt
            show _ ≤ _
            omega
          rw [← hV7]
          clear hV7 tc0 tc1 tc2 tc3 tc4 tc5 tc6 tf0 tf1 tf2 tf3 tf4 tf5 tf6 pc0 pc1 pc2 pf0 pf1 pf2 hT6 hO6 hQ6 hTl hfi
          obtain ⟨tc0, tc1, tc2, tc3, tc4, tc5, tc6, tf0, tf1, tf2, tf3, tf4, tf5, tf6⟩ := hT7.out.all7
          clear tf0 tf1 tf2 tf3 tf4 tf5 tf6
          obtain ⟨i0, hi0, hz0, hz1, hz2⟩ := info_parts Tryz.infoTok
          go_wp2_with (first
            | (at_builtin; refine wpList_append_own _ rfl _ _ 29 rfl W6.heap.size 39 i0 _ 7 64 Tryz.underlying29 hi0 hz0 hz1 hz2 rfl (by decide) _ _ _ rfl (hO7.out.alloc _) ⟨V7.heap.size, 0, none⟩ 1 1 [.int .i64 (kk : Int), .string (bs tt), .int .i64 (tn : Int), .int .i64 (j : Int), .int .i64 (l2 : Int), .int .i64 (c2 : Int), .bool fb] rfl rfl (cells_new _ _ _) (by simp [Value.oneCell']) (by have := HA.out; unfold maxLen; omega) (by have := HA.out; omega) (by have := hS7.out; simp; omega) ?_; intro o' w8 hown8 hgrow8 _; have hQ8 : Hid (Below (P + 1) V w8) := ((hQ7.out.alloc (by have := hS7.out; omega) _).grown hgrow8 (by have := hS7.out; simp; omega) (fun k hk => by have := (hO7.out.lt k hk).1; omega)); have HO8 : Hid (w8.ownsRow W6.heap.size 39 7 o' (pre.length + 1) (tksC pre ++ [.int .i64 (kk : Int), .string (bs tt), .int .i64 (tn : Int), .int .i64 (j : Int), .int .i64 (l2 : Int), .int .i64 (c2 : Int), .bool fb])) := hown8; have hP8 : Hid (Blk w8 P #[.int .i64 (j : Int), .int .i64 (l2 : Int), .int .i64 (c2 : Int)] 70) := blk_belowB hPV.out (Nat.lt_succ_self P) hQ8.out; obtain ⟨pc0, pc1, pc2, pf0, pf1, pf2⟩ := hP8.out.all3; clear hown8 hgrow8 tc0 tc1 tc2 tc3 tc4 tc5 tc6)
            | (go_at_call 31; fail))
          refine (HBe.out _).mono ?_
          rintro r v9 ⟨rfl, hv9⟩
          have hP9 : Hid (Blk v9 P #[.int .i64 (j : Int), .int .i64 (l2 : Int), .int .i64 (c2 : Int)] 70) := hP8.out.below hv9
          have hQ9 : Hid (Below (P + 1) V v9) := hQ8.out.trans (hv9.mono (by have := hP8.out.lt; omega))
          have HV9 : Hid (Below w8.heap.size w8 v9) := hv9
          clear hv9 pc0 pc1 pc2 pf0 pf1 pf2
          obtain ⟨pc0, pc1, pc2, pf0, pf1, pf2⟩ := hP9.out.all3
          go_wp2
          have hj7 : ((j : Int) + (n : Int)) = ((j + n : Nat) : Int) := by omega
          have hA := HA.out
          have hPn := hP9.out.set3 (.int .i64 ((j : Int) + (n : Int))) (.int .i64 (l3 : Int)) (.int .i64 (c3 : Int))
          refine ⟨⟨j + n, l3, c3, l2, pre ++ [⟨⟨kk, tt, tn⟩, j, l2, c2, decide (l2 ≠ last)⟩], by omega, by omega, by omega, by omega, rfl, HSn, ?_, ?_, ?_⟩, ?_⟩
          · rw [hj7] at hPn ⊢
            exact hPn
          · show World.ownsRow _ _ _ _ _ _ _
            rw [tksC_snoc, List.length_append]
            have ht : tkC ⟨⟨kk, tt, tn⟩, j, l2, c2, decide (l2 ≠ last)⟩ = [.int .i64 (kk : Int), .string (bs tt), .int .i64 (tn : Int), .int .i64 (j : Int), .int .i64 (l2 : Int), .int .i64 (c2 : Int), .bool fb] := by rw [Hfb.out]; rfl
            rw [ht]
            exact ownsRow_setCell_below (ownsRow_setCell_below (ownsRow_setCell_below (owns_below HO8.out HV9.out) (by show P < _; omega) _) (by show P < _; omega) _) (by show P < _; omega) _
          · exact (((hBV.out.trans (hQ9.out.mono (Nat.le_succ P))).setCell (Nat.le_refl _) _).setCell (Nat.le_refl _) _).setCell (Nat.le_refl _) _
          · rw [hPn.all3.1, hP.out.all3.1]
            simp only [Option.getD_some, intOf]
            omega
    · clear pc0 pc1 pc2 pf0 pf1 pf2 rc0 rc1 rc2 rf0 rf1 rf2 tc0 tc1 tc2 tf0 tf1 tf2 HI HBe
      obtain ⟨j, hj⟩ : ∃ j, a + i = j := ⟨_, rfl⟩
      have hji : ((a : Int) + (i : Int)) = (j : Int) := by omega
      rw [hji]
      have hjs : j ≤ s.size := by omega
      obtain ⟨V, hV⟩ : ∃ V, V = ((v2.setCell ⟨P, 0, none⟩ (.int .i64 (j : Int))).setCell ⟨P, 1, none⟩ (.int .i64 (l2 : Int))).setCell ⟨P, 2, none⟩ (.int .i64 (c2 : Int)) := ⟨_, rfl⟩
      have hPV : Hid (Blk V P #[.int .i64 (j : Int), .int .i64 (l2 : Int), .int .i64 (c2 : Int)] 70) := by rw [hV]; exact hP2.out.set3 _ _ _
      have hBV : Hid (Below P W6 V) := by
        have h1 := hBr.out.trans (hv1'.out.mono (Nat.le_of_lt hP.out.lt))
        have h2 := h1.trans (hv2'.out.mono (Nat.le_of_lt hP1.out.lt))
        rw [hV]
        exact ((h2.setCell (Nat.le_refl _) _).setCell (Nat.le_refl _) _).setCell (Nat.le_refl _) _
      have hownV : Hid (V.ownsRow W6.heap.size 39 7 u5 pre.length (tksC pre)) := by
        have h1 := owns_below (owns_below hown.out hv1'.out) hv2'.out
        rw [hV]
        exact ownsRow_setCell_below (ownsRow_setCell_below (ownsRow_setCell_below h1 (by show P < _; omega) _) (by show P < _; omega) _) (by show P < _; omega) _
      rw [← hV]
      clear hV hv1' hv2' hP1 hP2 hBr hown
      obtain ⟨pc0, pc1, pc2, pf0, pf1, pf2⟩ := hPV.out.all3
      have hRV : Hid (Blk V w.heap.size #[.int .i64 0, .int .i64 0] 35) := (hinv.out V hBV.out).2.2.2.2.2.2.2.1
      have hwP : w.heap.size < P := (hinv.out V hBV.out).2.2.2.2.2.2.2.2.2
      have hBwV : Hid (Below w.heap.size w V) := (hinv.out V hBV.out).2.2.2.2.2.2.2.2.1
      by_cases hend : j = s.size
      · have hjz : ((j : Int) == (s.size : Int)) = true := beq_iff_eq.2 (by omega)
        obtain ⟨ra0, ra1, rf0, rf1⟩ := hRV.out.all2
        have hsE : Hid (M.scanAll s.data.toList = .inr pre) := scanAt_end _ _ _ _ _ hsc.out (by rw [Hi.out]; omega)
        have hpl : Hid (pre.length ≤ s.size) := by obtain ⟨f, _, _, h3, _⟩ := hsc.out; show _ ≤ _; omega
        go_wp2
        have z := ((hRV.out.set 0 (.int .i64 0)).set 1 (.int .i64 0)).all2
        exact bodyPost_ret (v := .tuple #[u5, faultV 0 0]) (by simp [results, Tryz.results10, go_sem, faultV, z.1, z.2.1]) rfl ⟨_, _, rfl, (hBwV.out.setCell (Nat.le_refl _) _).setCell (Nat.le_refl _) _, by show AllPost _ _ _ _ _; unfold AllPost; rw [hsE.out]; exact ⟨rfl, hpl.out, owns_mono (ownsRow_setCell_below (ownsRow_setCell_below hownV.out (by show w.heap.size < _; omega) _) (by show w.heap.size < _; omega) _) (by omega)⟩⟩
      · have hjz : ((j : Int) == (s.size : Int)) = false := beq_eq_false_iff_ne.2 (by omega)
        have hjlt : (j : Int) < s.size := by omega
        have hxe : (s.extract j s.size).data.toList = s.data.toList.drop j := ext_end s j
        have hT := longest_take gt (s.extract j s.size) (by rw [size_drop]; omega) V (hinv.out V hBV.out).2.2.2.2.2.2.1 (hinv.out V hBV.out).2.1 (hinv.out V hBV.out).2.2.2.2.1
        rw [hxe] at hT
        have hle := M.lex1_le (s.data.toList.drop j)
        rw [List.length_drop, hlen] at hle
        have hk0 := lex1_fst (s.data.toList.drop j)
        obtain ⟨⟨k0, n⟩, hkn⟩ : ∃ r, M.lex1 (s.data.toList.drop j) = r := ⟨_, rfl⟩
        rw [hkn] at hT hle hk0
        simp only at hT hle hk0
        have HT : Hid (Calls Tryz.prog 33 #[.slice (some ⟨gt, 0, none⟩) 8 8, .string (s.extract j s.size)] V fun e w' => e = .returned (.tuple #[.int .i64 (k0 : Int), .int .i64 (n : Int)]) ∧ Below V.heap.size V w') := hT
        have Hkn : Hid (M.lex1 (s.data.toList.drop j) = (k0, n)) := hkn
        have hj' : Hid (a + M.idleAll (s.data.toList.drop a) = j) := by show _ = _; rw [Hi.out]; exact hj
        clear hT hkn hxe
        by_cases hn : n = 0
        · subst hn
          have hsE : Hid (M.scanAll s.data.toList = .inl j) := by
            have := scanAt_bad _ _ _ _ _ hsc.out (by rw [hj'.out]; omega) (by rw [hj'.out, Hkn.out])
            rw [hj'.out] at this
            exact this
          go_wp2_with (go_at_call 33; fail)
          refine HT.out.mono ?_
          rintro r v3 ⟨rfl, hv3⟩
          have hP3 : Hid (Blk v3 P #[.int .i64 (j : Int), .int .i64 (l2 : Int), .int .i64 (c2 : Int)] 70) := hPV.out.below hv3
          have hR3 : Hid (Blk v3 w.heap.size #[.int .i64 0, .int .i64 0] 35) := hRV.out.below hv3
          have hB3 : Hid (Below w.heap.size w v3) := hBwV.out.trans (hv3.mono hBwV.out.size)
          clear hv3 pc0 pc1 pc2 pf0 pf1 pf2
          obtain ⟨pc0, pc1, pc2, pf0, pf1, pf2⟩ := hP3.out.all3
          obtain ⟨ra0, ra1, rf0, rf1⟩ := hR3.out.all2
          go_wp2
          go_region
          all_goals go_wp2
          all_goals have z := ((hR3.out.set 0 (.int .i64 4)).set 1 (.int .i64 (j : Int))).all2
          all_goals exact bodyPost_ret (v := .tuple #[.slice none 0 0, faultV 4 (j : Int)]) (by simp [results, Tryz.results10, go_sem, faultV, z.1, z.2.1]) rfl ⟨_, _, rfl, by first | exact ((hB3.out.setCell (Nat.le_refl _) _).setCell (Nat.le_refl _) _).drew | exact (hB3.out.setCell (Nat.le_refl _) _).setCell (Nat.le_refl _) _, by show AllPost _ _ _ _ _; unfold AllPost; rw [hsE.out]; exact ⟨rfl, rfl⟩⟩
        · have hnz : ((n : Int) == 0) = false := beq_eq_false_iff_ne.2 (by omega)
          have hjn : (j : Int) + n ≤ s.size := by omega
          have hjn7 : (j : Int) + n ≤ 70000 := by omega
          obtain ⟨X, hX⟩ : ∃ X : ByteArray, X = s.extract j (j + n) := ⟨_, rfl⟩
          have hsl : ∀ w : World, (Instr.slice 9 (.string s) (some (.int .i64 (j : Int))) (some (.int .i64 ((j : Int) + (n : Int)))) none).run Tryz.prog w = .ok (.string X) w := fun w => by
            rw [run_slice_string w 9 s .i64 .i64 (j : Int) ((j : Int) + (n : Int)) Tryz.underlying9 (by omega) (by omega) (by omega), hX]
            congr 3
          have hXl : X.data.toList = (s.data.toList.drop j).take n := by rw [hX, Lib.extract_eq]; show List.take (j + n - j) _ = _; rw [Nat.add_sub_cancel_left]
          have hXs : X.size = n := by rw [Lib.size_eq, hXl, List.length_take, List.length_drop, hlen]; omega
          have hTk := token_c (k0 + 1) X (by omega) (by omega)
          rw [hXl] at hTk
          have htl := mkTok_text (k0 + 1) ((s.data.toList.drop j).take n)
          rw [List.length_take] at htl
          have hnx := next_eq s.data.toList a i j l2 c2 last k0 n (l, c) Hi.out hj Hmv.out Hkn.out
          obtain ⟨⟨tk, tt, tn⟩, ht0⟩ : ∃ r, M.mkTok (k0 + 1) ((s.data.toList.drop j).take n) = r := ⟨_, rfl⟩
          rw [ht0] at hTk hnx htl
          simp only at hnx htl
          have HTk : Hid (∀ (w : World), GOK w → Calls Tryz.prog 34 #[.int .i64 ((k0 : Int) + 1), .string X] w fun e W' => e = .returned (.agg #[.int .i64 (tk : Int), .string (bs tt), .int .i64 (tn : Int), .int .i64 0, .int .i64 0, .int .i64 0, .bool false]) ∧ Below w.heap.size w W') := by
            intro w hw
            exact hTk w hw
          have hRs := reserved_c tk (bs tt) tn (by rw [bs_size]; omega) bw bg
          unfold tokV at hRs
          rw [bs_list] at hRs
          obtain ⟨kk, hkk⟩ : ∃ kk, resK tk tt = kk := ⟨_, rfl⟩
          rw [hkk] at hRs hnx
          have HRs : Hid (∀ (w : World), SetAt w bw M.wordL → SetAt w bg M.signL → Calls Tryz.prog 35 #[.agg #[.int .i64 (tk : Int), .string (bs tt), .int .i64 (tn : Int), .int .i64 0, .int .i64 0, .int .i64 0, .bool false], .map (some bw), .map (some bg)] w fun e W' => e = .returned (.int .i64 (kk : Int)) ∧ Below w.heap.size w W') := hRs
          have hNx : Hid (nextTk s.data.toList a (l, c) last = ⟨⟨kk, tt, tn⟩, j, l2, c2, decide (l2 ≠ last)⟩) := hnx
          have hbe := behind_c s j l2 c2 n hs (by omega)
          have hmb := mv_line ((s.data.toList.drop a).take i) (l, c)
          have hmc := mv_col ((s.data.toList.drop a).take i) (l, c) hc1
          rw [Hmv.out, List.length_take, List.length_drop, hlen] at hmb hmc
          simp only at hmb hmc
          have hl2 : l2 ≤ j + 1 := by omega
          have hc21 : 1 ≤ c2 := by omega
          have hc2 : c2 ≤ 8 * j + 1 := by omega
          have hbe2 := hbe (by omega) hc21 (by omega)
          unfold placeV at hbe2
          have hmb2 := mv_line ((s.data.toList.drop j).take n) (l2, c2)
          have hmc2 := mv_col ((s.data.toList.drop j).take n) (l2, c2) hc21
          rw [List.length_take, List.length_drop, hlen] at hmb2 hmc2
          have hsn := scanAt_next _ _ _ _ _ hsc.out (by rw [hj'.out]; omega) (by rw [hj'.out, Hkn.out]; exact hn)
          rw [hj'.out, Hkn.out, Hi.out, Hmv.out, hNx.out] at hsn
          obtain ⟨⟨l3, c3⟩, hm3⟩ : ∃ r, M.mv (l2, c2) ((s.data.toList.drop j).take n) = r := ⟨_, rfl⟩
          simp only at hsn
          rw [hm3] at hbe2 hmb2 hmc2 hsn
          simp only at hmb2 hmc2
          have HSn : Hid (ScanAt s.data.toList (pre ++ [⟨⟨kk, tt, tn⟩, j, l2, c2, decide (l2 ≠ last)⟩]) (j + n) (l3, c3) l2) := hsn
          have HBe : Hid (∀ (W : World), Calls Tryz.prog 31 #[.agg #[.int .i64 (j : Int), .int .i64 (l2 : Int), .int .i64 (c2 : Int)], .string s, .int .i64 (n : Int)] W fun e w' => e = .returned (.agg #[.int .i64 ((j + n : Nat) : Int), .int .i64 (l3 : Int), .int .i64 (c3 : Int)]) ∧ Below W.heap.size W w') := hbe2
          have hb3 : l3 ≤ (j + n) + 1 ∧ 1 ≤ c3 ∧ c3 ≤ 8 * (j + n) + 1 := by omega
          obtain ⟨fb, hfb⟩ : ∃ fb, decide (l2 ≠ last) = fb := ⟨_, rfl⟩
          have hfi : ((l2 : Int) != (last : Int)) = fb := by
            rw [← hfb]
            rw [Bool.eq_iff_iff]; simp; omega
          have Hfb : Hid (decide (l2 ≠ last) = fb) := hfb
          have HGV : Hid (GOK V) := (hinv.out V hBV.out).2.2.2.2.1
          have HSwV : Hid (SetAt V bw M.wordL ∧ SetAt V bg M.signL) := ⟨(hinv.out V hBV.out).2.2.1, (hinv.out V hBV.out).2.2.2.1⟩
          have HA : Hid (a ≤ s.size ∧ a + i = j ∧ j < s.size ∧ j + n ≤ s.size ∧ 0 < n ∧ l3 ≤ (j + n) + 1 ∧ 1 ≤ c3 ∧ c3 ≤ 8 * (j + n) + 1 ∧ pre.length ≤ a ∧ s.size ≤ 70000) := by
            obtain ⟨f, _, _, h3, _⟩ := hsc.out
            exact ⟨ha, hj, by omega, by omega, by omega, hb3.1, hb3.2.1, hb3.2.2, h3, hs⟩
          clear hl hc1 hc hai hile hj hji hjs hend hle htl hl2 hc21 hc2 hb3 hXs ha hn hs hlen
          clear hTk hRs hnx hbe hbe2 hmb hmc hmb2 hmc2 hsn hm3 hkk ht0 hX hXl hfb hRV hBwV
          go_wp2_with (go_at_call 33; fail)
          refine HT.out.mono ?_
          rintro r v3 ⟨rfl, hv3⟩
          have hP3 : Hid (Blk v3 P #[.int .i64 (j : Int), .int .i64 (l2 : Int), .int .i64 (c2 : Int)] 70) := hPV.out.below hv3
          have HV3 : Hid (Below V.heap.size V v3) := hv3
          clear hv3 pc0 pc1 pc2 pf0 pf1 pf2
          obtain ⟨pc0, pc1, pc2, pf0, pf1, pf2⟩ := hP3.out.all3
          go_wp2_with (go_at_call 34; fail)
          refine (HTk.out _ (HGV.out.below HV3.out)).mono ?_
          rintro r v4 ⟨rfl, hv4⟩
          have HV4 : Hid (Below V.heap.size V v4) := HV3.out.trans (hv4.mono HV3.out.size)
          clear hv4 pc0 pc1 pc2 pf0 pf1 pf2 hjz hjlt hnz hjn hjn7 hsl hk0
          go_wp2_with (go_at_call 35; fail)
          refine (HRs.out _ (set_below (set_below HSwV.out.1 HV4.out) ((Below.refl _ _).alloc (Nat.le_refl _) _)) (set_below (set_below HSwV.out.2 HV4.out) ((Below.refl _ _).alloc (Nat.le_refl _) _))).mono ?_
          rintro r v5 ⟨rfl, hv5⟩
          have hT5 : Hid (Blk v5 v4.heap.size #[.int .i64 (tk : Int), .string (bs tt), .int .i64 (tn : Int), .int .i64 0, .int .i64 0, .int .i64 0, .bool false] 39) := (Blk.new v4 _ _).below hv5
          have hP5 : Hid (Blk v5 P #[.int .i64 (j : Int), .int .i64 (l2 : Int), .int .i64 (c2 : Int)] 70) := (((hPV.out.below HV4.out).alloc _).below hv5)
          have hA4 : Below V.heap.size V (v4.alloc (.cells #[.int .i64 (tk : Int), .string (bs tt), .int .i64 (tn : Int), .int .i64 0, .int .i64 0, .int .i64 0, .bool false] 39)) := HV4.out.alloc HV4.out.size _
          have HV5 : Hid (Below V.heap.size V v5 ∧ V.heap.size ≤ v4.heap.size) := ⟨hA4.trans (hv5.mono hA4.size), HV4.out.size⟩
          have hPT : P < v4.heap.size := by have := hPV.out.lt; have := HV4.out.size; omega
          clear hv5 hA4 hP3
          generalize v4.heap.size = T at *
          obtain ⟨tc0, tc1, tc2, tc3, tc4, tc5, tc6, tf0, tf1, tf2, tf3, tf4, tf5, tf6⟩ := hT5.out.all7
          obtain ⟨pc0, pc1, pc2, pf0, pf1, pf2⟩ := hP5.out.all3
          go_wp2
          obtain ⟨V5, hV5⟩ : ∃ V5, V5 = v5.setCell ⟨T, 0, none⟩ (.int .i64 (kk : Int)) := ⟨_, rfl⟩
          have hT6 : Hid (Blk V5 T #[.int .i64 (kk : Int), .string (bs tt), .int .i64 (tn : Int), .int .i64 0, .int .i64 0, .int .i64 0, .bool false] 39) := by rw [hV5]; exact hT5.out.set 0 _
          have hP6 : Hid (Blk V5 P #[.int .i64 (j : Int), .int .i64 (l2 : Int), .int .i64 (c2 : Int)] 70) := by
            rw [hV5]; unfold Blk; rw [Below.heap_setCell v5 _ _ P (by show P ≠ T; omega)]; exact hP5.out
          have hQ6 : Hid (Below (P + 1) V V5) := by
            rw [hV5]
            exact (HV5.out.1.mono (by have := hPV.out.lt; omega)).setCell (by show P + 1 ≤ T; omega) _
          have hO6 : Hid (V5.ownsRow W6.heap.size 39 7 u5 pre.length (tksC pre) ∧ ∀ g, u5.ownBlock = some g → g ≠ T) := by
            have hlt : ∀ g, u5.ownBlock = some g → g ≠ T := fun g hg => by have := (hownV.out.lt g hg).2; have := HV5.out.2; omega
            rw [hV5]
            exact ⟨owns_set_ne (owns_below hownV.out HV5.out.1) hlt _, hlt⟩
          have hTl : T < V5.heap.size := hT6.out.lt
          rw [← hV5]
          clear hV5 tc0 tc1 tc2 tc3 tc4 tc5 tc6 tf0 tf1 tf2 tf3 tf4 tf5 tf6 pc0 pc1 pc2 pf0 pf1 pf2 hT5 hP5
          obtain ⟨tc0, tc1, tc2, tc3, tc4, tc5, tc6, tf0, tf1, tf2, tf3, tf4, tf5, tf6⟩ := hT6.out.all7
          obtain ⟨pc0, pc1, pc2, pf0, pf1, pf2⟩ := hP6.out.all3
          go_region
          obtain ⟨V7, hV7⟩ : ∃ V7, V7 = ((((V5.setCell ⟨T, 3, none⟩ (.int .i64 (j : Int))).setCell ⟨T, 4, none⟩ (.int .i64 (l2 : Int))).setCell ⟨T, 5, none⟩ (.int .i64 (c2 : Int))).setCell ⟨T, 6, none⟩ (.bool fb)).drew := ⟨_, rfl⟩
          have hT7 : Hid (Blk V7 T #[.int .i64 (kk : Int), .string (bs tt), .int .i64 (tn : Int), .int .i64 (j : Int), .int .i64 (l2 : Int), .int .i64 (c2 : Int), .bool fb] 39) := by rw [hV7]; exact ((((hT6.out.set 3 _).set 4 _).set 5 _).set 6 _).drew
          have hQ7 : Hid (Below (P + 1) V V7) := by
            rw [hV7]
            exact ((((hQ6.out.setCell (by show P + 1 ≤ T; omega) _).setCell (by show P + 1 ≤ T; omega) _).setCell (by show P + 1 ≤ T; omega) _).setCell (by show P + 1 ≤ T; omega) _).drew
          have hO7 : Hid (V7.ownsRow W6.heap.size 39 7 u5 pre.length (tksC pre)) := by
            rw [hV7]
            exact (owns_set_ne (owns_set_ne (owns_set_ne (owns_set_ne hO6.out.1 hO6.out.2 _) hO6.out.2 _) hO6.out.2 _) hO6.out.2 _).drew
          have hS7 : Hid (W6.heap.size ≤ V7.heap.size) := by
            have h1 := hQ7.out.size
            have h2 := hPV.out.lt
            show _ ≤ _
            omega
          rw [← hV7]
          clear hV7 tc0 tc1 tc2 tc3 tc4 tc5 tc6 tf0 tf1 tf2 tf3 tf4 tf5 tf6 pc0 pc1 pc2 pf0 pf1 pf2 hT6 hO6 hQ6 hTl hfi
          obtain ⟨tc0, tc1, tc2, tc3, tc4, tc5, tc6, tf0, tf1, tf2, tf3, tf4, tf5, tf6⟩ := hT7.out.all7
          clear tf0 tf1 tf2 tf3 tf4 tf5 tf6
          obtain ⟨i0, hi0, hz0, hz1, hz2⟩ := info_parts Tryz.infoTok
          go_wp2_with (first
            | (at_builtin; refine wpList_append_own _ rfl _ _ 29 rfl W6.heap.size 39 i0 _ 7 64 Tryz.underlying29 hi0 hz0 hz1 hz2 rfl (by decide) _ _ _ rfl (hO7.out.alloc _) ⟨V7.heap.size, 0, none⟩ 1 1 [.int .i64 (kk : Int), .string (bs tt), .int .i64 (tn : Int), .int .i64 (j : Int), .int .i64 (l2 : Int), .int .i64 (c2 : Int), .bool fb] rfl rfl (cells_new _ _ _) (by simp [Value.oneCell']) (by have := HA.out; unfold maxLen; omega) (by have := HA.out; omega) (by have := hS7.out; simp; omega) ?_; intro o' w8 hown8 hgrow8 _; have hQ8 : Hid (Below (P + 1) V w8) := ((hQ7.out.alloc (by have := hS7.out; omega) _).grown hgrow8 (by have := hS7.out; simp; omega) (fun k hk => by have := (hO7.out.lt k hk).1; omega)); have HO8 : Hid (w8.ownsRow W6.heap.size 39 7 o' (pre.length + 1) (tksC pre ++ [.int .i64 (kk : Int), .string (bs tt), .int .i64 (tn : Int), .int .i64 (j : Int), .int .i64 (l2 : Int), .int .i64 (c2 : Int), .bool fb])) := hown8; have hP8 : Hid (Blk w8 P #[.int .i64 (j : Int), .int .i64 (l2 : Int), .int .i64 (c2 : Int)] 70) := blk_belowB hPV.out (Nat.lt_succ_self P) hQ8.out; obtain ⟨pc0, pc1, pc2, pf0, pf1, pf2⟩ := hP8.out.all3; clear hown8 hgrow8 tc0 tc1 tc2 tc3 tc4 tc5 tc6)
            | (go_at_call 31; fail))
          refine (HBe.out _).mono ?_
          rintro r v9 ⟨rfl, hv9⟩
          have hP9 : Hid (Blk v9 P #[.int .i64 (j : Int), .int .i64 (l2 : Int), .int .i64 (c2 : Int)] 70) := hP8.out.below hv9
          have hQ9 : Hid (Below (P + 1) V v9) := hQ8.out.trans (hv9.mono (by have := hP8.out.lt; omega))
          have HV9 : Hid (Below w8.heap.size w8 v9) := hv9
          clear hv9 pc0 pc1 pc2 pf0 pf1 pf2
          obtain ⟨pc0, pc1, pc2, pf0, pf1, pf2⟩ := hP9.out.all3
          go_wp2
          have hj7 : ((j : Int) + (n : Int)) = ((j + n : Nat) : Int) := by omega
          have hA := HA.out
          have hPn := hP9.out.set3 (.int .i64 ((j : Int) + (n : Int))) (.int .i64 (l3 : Int)) (.int .i64 (c3 : Int))
          refine ⟨⟨j + n, l3, c3, l2, pre ++ [⟨⟨kk, tt, tn⟩, j, l2, c2, decide (l2 ≠ last)⟩], by omega, by omega, by omega, by omega, rfl, HSn, ?_, ?_, ?_⟩, ?_⟩
          · rw [hj7] at hPn ⊢
            exact hPn
          · show World.ownsRow _ _ _ _ _ _ _
            rw [tksC_snoc, List.length_append]
            have ht : tkC ⟨⟨kk, tt, tn⟩, j, l2, c2, decide (l2 ≠ last)⟩ = [.int .i64 (kk : Int), .string (bs tt), .int .i64 (tn : Int), .int .i64 (j : Int), .int .i64 (l2 : Int), .int .i64 (c2 : Int), .bool fb] := by rw [Hfb.out]; rfl
            rw [ht]
            exact ownsRow_setCell_below (ownsRow_setCell_below (ownsRow_setCell_below (owns_below HO8.out HV9.out) (by show P < _; omega) _) (by show P < _; omega) _) (by show P < _; omega) _
          · exact (((hBV.out.trans (hQ9.out.mono (Nat.le_succ P))).setCell (Nat.le_refl _) _).setCell (Nat.le_refl _) _).setCell (Nat.le_refl _) _
          · rw [hPn.all3.1, hP.out.all3.1]
            simp only [Option.getD_some, intOf]
            omega
    · clear pc0 pc1 pc2 pf0 pf1 pf2 rc0 rc1 rc2 rf0 rf1 rf2 tc0 tc1 tc2 tf0 tf1 tf2 HI HBe
      obtain ⟨j, hj⟩ : ∃ j, a + i = j := ⟨_, rfl⟩
      have hji : ((a : Int) + (i : Int)) = (j : Int) := by omega
      rw [hji]
      have hjs : j ≤ s.size := by omega
      obtain ⟨V, hV⟩ : ∃ V, V = ((v2.setCell ⟨P, 0, none⟩ (.int .i64 (j : Int))).setCell ⟨P, 1, none⟩ (.int .i64 (l2 : Int))).setCell ⟨P, 2, none⟩ (.int .i64 (c2 : Int)) := ⟨_, rfl⟩
      have hPV : Hid (Blk V P #[.int .i64 (j : Int), .int .i64 (l2 : Int), .int .i64 (c2 : Int)] 70) := by rw [hV]; exact hP2.out.set3 _ _ _
      have hBV : Hid (Below P W6 V) := by
        have h1 := hBr.out.trans (hv1'.out.mono (Nat.le_of_lt hP.out.lt))
        have h2 := h1.trans (hv2'.out.mono (Nat.le_of_lt hP1.out.lt))
        rw [hV]
        exact ((h2.setCell (Nat.le_refl _) _).setCell (Nat.le_refl _) _).setCell (Nat.le_refl _) _
      have hownV : Hid (V.ownsRow W6.heap.size 39 7 u5 pre.length (tksC pre)) := by
        have h1 := owns_below (owns_below hown.out hv1'.out) hv2'.out
        rw [hV]
        exact ownsRow_setCell_below (ownsRow_setCell_below (ownsRow_setCell_below h1 (by show P < _; omega) _) (by show P < _; omega) _) (by show P < _; omega) _
      rw [← hV]
      clear hV hv1' hv2' hP1 hP2 hBr hown
      obtain ⟨pc0, pc1, pc2, pf0, pf1, pf2⟩ := hPV.out.all3
      have hRV : Hid (Blk V w.heap.size #[.int .i64 0, .int .i64 0] 35) := (hinv.out V hBV.out).2.2.2.2.2.2.2.1
      have hwP : w.heap.size < P := (hinv.out V hBV.out).2.2.2.2.2.2.2.2.2
      have hBwV : Hid (Below w.heap.size w V) := (hinv.out V hBV.out).2.2.2.2.2.2.2.2.1
      by_cases hend : j = s.size
      · have hjz : ((j : Int) == (s.size : Int)) = true := beq_iff_eq.2 (by omega)
        obtain ⟨ra0, ra1, rf0, rf1⟩ := hRV.out.all2
        have hsE : Hid (M.scanAll s.data.toList = .inr pre) := scanAt_end _ _ _ _ _ hsc.out (by rw [Hi.out]; omega)
        have hpl : Hid (pre.length ≤ s.size) := by obtain ⟨f, _, _, h3, _⟩ := hsc.out; show _ ≤ _; omega
        go_wp2
        have z := ((hRV.out.set 0 (.int .i64 0)).set 1 (.int .i64 0)).all2
        exact bodyPost_ret (v := .tuple #[u5, faultV 0 0]) (by simp [results, Tryz.results10, go_sem, faultV, z.1, z.2.1]) rfl ⟨_, _, rfl, (hBwV.out.setCell (Nat.le_refl _) _).setCell (Nat.le_refl _) _, by show AllPost _ _ _ _ _; unfold AllPost; rw [hsE.out]; exact ⟨rfl, hpl.out, owns_mono (ownsRow_setCell_below (ownsRow_setCell_below hownV.out (by show w.heap.size < _; omega) _) (by show w.heap.size < _; omega) _) (by omega)⟩⟩
      · have hjz : ((j : Int) == (s.size : Int)) = false := beq_eq_false_iff_ne.2 (by omega)
        have hjlt : (j : Int) < s.size := by omega
        have hxe : (s.extract j s.size).data.toList = s.data.toList.drop j := ext_end s j
        have hT := longest_take gt (s.extract j s.size) (by rw [size_drop]; omega) V (hinv.out V hBV.out).2.2.2.2.2.2.1 (hinv.out V hBV.out).2.1 (hinv.out V hBV.out).2.2.2.2.1
        rw [hxe] at hT
        have hle := M.lex1_le (s.data.toList.drop j)
        rw [List.length_drop, hlen] at hle
        have hk0 := lex1_fst (s.data.toList.drop j)
        obtain ⟨⟨k0, n⟩, hkn⟩ : ∃ r, M.lex1 (s.data.toList.drop j) = r := ⟨_, rfl⟩
        rw [hkn] at hT hle hk0
        simp only at hT hle hk0
        have HT : Hid (Calls Tryz.prog 33 #[.slice (some ⟨gt, 0, none⟩) 8 8, .string (s.extract j s.size)] V fun e w' => e = .returned (.tuple #[.int .i64 (k0 : Int), .int .i64 (n : Int)]) ∧ Below V.heap.size V w') := hT
        have Hkn : Hid (M.lex1 (s.data.toList.drop j) = (k0, n)) := hkn
        have hj' : Hid (a + M.idleAll (s.data.toList.drop a) = j) := by show _ = _; rw [Hi.out]; exact hj
        clear hT hkn hxe
        by_cases hn : n = 0
        · subst hn
          have hsE : Hid (M.scanAll s.data.toList = .inl j) := by
            have := scanAt_bad _ _ _ _ _ hsc.out (by rw [hj'.out]; omega) (by rw [hj'.out, Hkn.out])
            rw [hj'.out] at this
            exact this
          go_wp2_with (go_at_call 33; fail)
          refine HT.out.mono ?_
          rintro r v3 ⟨rfl, hv3⟩
          have hP3 : Hid (Blk v3 P #[.int .i64 (j : Int), .int .i64 (l2 : Int), .int .i64 (c2 : Int)] 70) := hPV.out.below hv3
          have hR3 : Hid (Blk v3 w.heap.size #[.int .i64 0, .int .i64 0] 35) := hRV.out.below hv3
          have hB3 : Hid (Below w.heap.size w v3) := hBwV.out.trans (hv3.mono hBwV.out.size)
          clear hv3 pc0 pc1 pc2 pf0 pf1 pf2
          obtain ⟨pc0, pc1, pc2, pf0, pf1, pf2⟩ := hP3.out.all3
          obtain ⟨ra0, ra1, rf0, rf1⟩ := hR3.out.all2
          go_wp2
          go_region
          all_goals go_wp2
          all_goals have z := ((hR3.out.set 0 (.int .i64 4)).set 1 (.int .i64 (j : Int))).all2
          all_goals exact bodyPost_ret (v := .tuple #[.slice none 0 0, faultV 4 (j : Int)]) (by simp [results, Tryz.results10, go_sem, faultV, z.1, z.2.1]) rfl ⟨_, _, rfl, by first | exact ((hB3.out.setCell (Nat.le_refl _) _).setCell (Nat.le_refl _) _).drew | exact (hB3.out.setCell (Nat.le_refl _) _).setCell (Nat.le_refl _) _, by show AllPost _ _ _ _ _; unfold AllPost; rw [hsE.out]; exact ⟨rfl, rfl⟩⟩
        · have hnz : ((n : Int) == 0) = false := beq_eq_false_iff_ne.2 (by omega)
          have hjn : (j : Int) + n ≤ s.size := by omega
          have hjn7 : (j : Int) + n ≤ 70000 := by omega
          obtain ⟨X, hX⟩ : ∃ X : ByteArray, X = s.extract j (j + n) := ⟨_, rfl⟩
          have hsl : ∀ w : World, (Instr.slice 9 (.string s) (some (.int .i64 (j : Int))) (some (.int .i64 ((j : Int) + (n : Int)))) none).run Tryz.prog w = .ok (.string X) w := fun w => by
            rw [run_slice_string w 9 s .i64 .i64 (j : Int) ((j : Int) + (n : Int)) Tryz.underlying9 (by omega) (by omega) (by omega), hX]
            congr 3
          have hXl : X.data.toList = (s.data.toList.drop j).take n := by rw [hX, Lib.extract_eq]; show List.take (j + n - j) _ = _; rw [Nat.add_sub_cancel_left]
          have hXs : X.size = n := by rw [Lib.size_eq, hXl, List.length_take, List.length_drop, hlen]; omega
          have hTk := token_c (k0 + 1) X (by omega) (by omega)
          rw [hXl] at hTk
          have htl := mkTok_text (k0 + 1) ((s.data.toList.drop j).take n)
          rw [List.length_take] at htl
          have hnx := next_eq s.data.toList a i j l2 c2 last k0 n (l, c) Hi.out hj Hmv.out Hkn.out
          obtain ⟨⟨tk, tt, tn⟩, ht0⟩ : ∃ r, M.mkTok (k0 + 1) ((s.data.toList.drop j).take n) = r := ⟨_, rfl⟩
          rw [ht0] at hTk hnx htl
          simp only at hnx htl
          have HTk : Hid (∀ (w : World), GOK w → Calls Tryz.prog 34 #[.int .i64 ((k0 : Int) + 1), .string X] w fun e W' => e = .returned (.agg #[.int .i64 (tk : Int), .string (bs tt), .int .i64 (tn : Int), .int .i64 0, .int .i64 0, .int .i64 0, .bool false]) ∧ Below w.heap.size w W') := by
            intro w hw
            exact hTk w hw
          have hRs := reserved_c tk (bs tt) tn (by rw [bs_size]; omega) bw bg
          unfold tokV at hRs
          rw [bs_list] at hRs
          obtain ⟨kk, hkk⟩ : ∃ kk, resK tk tt = kk := ⟨_, rfl⟩
          rw [hkk] at hRs hnx
          have HRs : Hid (∀ (w : World), SetAt w bw M.wordL → SetAt w bg M.signL → Calls Tryz.prog 35 #[.agg #[.int .i64 (tk : Int), .string (bs tt), .int .i64 (tn : Int), .int .i64 0, .int .i64 0, .int .i64 0, .bool false], .map (some bw), .map (some bg)] w fun e W' => e = .returned (.int .i64 (kk : Int)) ∧ Below w.heap.size w W') := hRs
          have hNx : Hid (nextTk s.data.toList a (l, c) last = ⟨⟨kk, tt, tn⟩, j, l2, c2, decide (l2 ≠ last)⟩) := hnx
          have hbe := behind_c s j l2 c2 n hs (by omega)
          have hmb := mv_line ((s.data.toList.drop a).take i) (l, c)
          have hmc := mv_col ((s.data.toList.drop a).take i) (l, c) hc1
          rw [Hmv.out, List.length_take, List.length_drop, hlen] at hmb hmc
          simp only at hmb hmc
          have hl2 : l2 ≤ j + 1 := by omega
          have hc21 : 1 ≤ c2 := by omega
          have hc2 : c2 ≤ 8 * j + 1 := by omega
          have hbe2 := hbe (by omega) hc21 (by omega)
          unfold placeV at hbe2
          have hmb2 := mv_line ((s.data.toList.drop j).take n) (l2, c2)
          have hmc2 := mv_col ((s.data.toList.drop j).take n) (l2, c2) hc21
          rw [List.length_take, List.length_drop, hlen] at hmb2 hmc2
          have hsn := scanAt_next _ _ _ _ _ hsc.out (by rw [hj'.out]; omega) (by rw [hj'.out, Hkn.out]; exact hn)
          rw [hj'.out, Hkn.out, Hi.out, Hmv.out, hNx.out] at hsn
          obtain ⟨⟨l3, c3⟩, hm3⟩ : ∃ r, M.mv (l2, c2) ((s.data.toList.drop j).take n) = r := ⟨_, rfl⟩
          simp only at hsn
          rw [hm3] at hbe2 hmb2 hmc2 hsn
          simp only at hmb2 hmc2
          have HSn : Hid (ScanAt s.data.toList (pre ++ [⟨⟨kk, tt, tn⟩, j, l2, c2, decide (l2 ≠ last)⟩]) (j + n) (l3, c3) l2) := hsn
          have HBe : Hid (∀ (W : World), Calls Tryz.prog 31 #[.agg #[.int .i64 (j : Int), .int .i64 (l2 : Int), .int .i64 (c2 : Int)], .string s, .int .i64 (n : Int)] W fun e w' => e = .returned (.agg #[.int .i64 ((j + n : Nat) : Int), .int .i64 (l3 : Int), .int .i64 (c3 : Int)]) ∧ Below W.heap.size W w') := hbe2
          have hb3 : l3 ≤ (j + n) + 1 ∧ 1 ≤ c3 ∧ c3 ≤ 8 * (j + n) + 1 := by omega
          obtain ⟨fb, hfb⟩ : ∃ fb, decide (l2 ≠ last) = fb := ⟨_, rfl⟩
          have hfi : ((l2 : Int) != (last : Int)) = fb := by
            rw [← hfb]
            rw [Bool.eq_iff_iff]; simp; omega
          have Hfb : Hid (decide (l2 ≠ last) = fb) := hfb
          have HGV : Hid (GOK V) := (hinv.out V hBV.out).2.2.2.2.1
          have HSwV : Hid (SetAt V bw M.wordL ∧ SetAt V bg M.signL) := ⟨(hinv.out V hBV.out).2.2.1, (hinv.out V hBV.out).2.2.2.1⟩
          have HA : Hid (a ≤ s.size ∧ a + i = j ∧ j < s.size ∧ j + n ≤ s.size ∧ 0 < n ∧ l3 ≤ (j + n) + 1 ∧ 1 ≤ c3 ∧ c3 ≤ 8 * (j + n) + 1 ∧ pre.length ≤ a ∧ s.size ≤ 70000) := by
            obtain ⟨f, _, _, h3, _⟩ := hsc.out
            exact ⟨ha, hj, by omega, by omega, by omega, hb3.1, hb3.2.1, hb3.2.2, h3, hs⟩
          clear hl hc1 hc hai hile hj hji hjs hend hle htl hl2 hc21 hc2 hb3 hXs ha hn hs hlen
          clear hTk hRs hnx hbe hbe2 hmb hmc hmb2 hmc2 hsn hm3 hkk ht0 hX hXl hfb hRV hBwV
          go_wp2_with (go_at_call 33; fail)
          refine HT.out.mono ?_
          rintro r v3 ⟨rfl, hv3⟩
          have hP3 : Hid (Blk v3 P #[.int .i64 (j : Int), .int .i64 (l2 : Int), .int .i64 (c2 : Int)] 70) := hPV.out.below hv3
          have HV3 : Hid (Below V.heap.size V v3) := hv3
          clear hv3 pc0 pc1 pc2 pf0 pf1 pf2
          obtain ⟨pc0, pc1, pc2, pf0, pf1, pf2⟩ := hP3.out.all3
          go_wp2_with (go_at_call 34; fail)
          refine (HTk.out _ (HGV.out.below HV3.out)).mono ?_
          rintro r v4 ⟨rfl, hv4⟩
          have HV4 : Hid (Below V.heap.size V v4) := HV3.out.trans (hv4.mono HV3.out.size)
          clear hv4 pc0 pc1 pc2 pf0 pf1 pf2 hjz hjlt hnz hjn hjn7 hsl hk0
          go_wp2_with (go_at_call 35; fail)
          refine (HRs.out _ (set_below (set_below HSwV.out.1 HV4.out) ((Below.refl _ _).alloc (Nat.le_refl _) _)) (set_below (set_below HSwV.out.2 HV4.out) ((Below.refl _ _).alloc (Nat.le_refl _) _))).mono ?_
          rintro r v5 ⟨rfl, hv5⟩
          have hT5 : Hid (Blk v5 v4.heap.size #[.int .i64 (tk : Int), .string (bs tt), .int .i64 (tn : Int), .int .i64 0, .int .i64 0, .int .i64 0, .bool false] 39) := (Blk.new v4 _ _).below hv5
          have hP5 : Hid (Blk v5 P #[.int .i64 (j : Int), .int .i64 (l2 : Int), .int .i64 (c2 : Int)] 70) := (((hPV.out.below HV4.out).alloc _).below hv5)
          have hA4 : Below V.heap.size V (v4.alloc (.cells #[.int .i64 (tk : Int), .string (bs tt), .int .i64 (tn : Int), .int .i64 0, .int .i64 0, .int .i64 0, .bool false] 39)) := HV4.out.alloc HV4.out.size _
          have HV5 : Hid (Below V.heap.size V v5 ∧ V.heap.size ≤ v4.heap.size) := ⟨hA4.trans (hv5.mono hA4.size), HV4.out.size⟩
          have hPT : P < v4.heap.size := by have := hPV.out.lt; have := HV4.out.size; omega
          clear hv5 hA4 hP3
          generalize v4.heap.size = T at *
          obtain ⟨tc0, tc1, tc2, tc3, tc4, tc5, tc6, tf0, tf1, tf2, tf3, tf4, tf5, tf6⟩ := hT5.out.all7
          obtain ⟨pc0, pc1, pc2, pf0, pf1, pf2⟩ := hP5.out.all3
          go_wp2
          obtain ⟨V5, hV5⟩ : ∃ V5, V5 = v5.setCell ⟨T, 0, none⟩ (.int .i64 (kk : Int)) := ⟨_, rfl⟩
          have hT6 : Hid (Blk V5 T #[.int .i64 (kk : Int), .string (bs tt), .int .i64 (tn : Int), .int .i64 0, .int .i64 0, .int .i64 0, .bool false] 39) := by rw [hV5]; exact hT5.out.set 0 _
          have hP6 : Hid (Blk V5 P #[.int .i64 (j : Int), .int .i64 (l2 : Int), .int .i64 (c2 : Int)] 70) := by
            rw [hV5]; unfold Blk; rw [Below.heap_setCell v5 _ _ P (by show P ≠ T; omega)]; exact hP5.out
          have hQ6 : Hid (Below (P + 1) V V5) := by
            rw [hV5]
            exact (HV5.out.1.mono (by have := hPV.out.lt; omega)).setCell (by show P + 1 ≤ T; omega) _
          have hO6 : Hid (V5.ownsRow W6.heap.size 39 7 u5 pre.length (tksC pre) ∧ ∀ g, u5.ownBlock = some g → g ≠ T) := by
            have hlt : ∀ g, u5.ownBlock = some g → g ≠ T := fun g hg => by have := (hownV.out.lt g hg).2; have := HV5.out.2; omega
            rw [hV5]
            exact ⟨owns_set_ne (owns_below hownV.out HV5.out.1) hlt _, hlt⟩
          have hTl : T < V5.heap.size := hT6.out.lt
          rw [← hV5]
          clear hV5 tc0 tc1 tc2 tc3 tc4 tc5 tc6 tf0 tf1 tf2 tf3 tf4 tf5 tf6 pc0 pc1 pc2 pf0 pf1 pf2 hT5 hP5
          obtain ⟨tc0, tc1, tc2, tc3, tc4, tc5, tc6, tf0, tf1, tf2, tf3, tf4, tf5, tf6⟩ := hT6.out.all7
          obtain ⟨pc0, pc1, pc2, pf0, pf1, pf2⟩ := hP6.out.all3
          go_region
          obtain ⟨V7, hV7⟩ : ∃ V7, V7 = ((((V5.setCell ⟨T, 3, none⟩ (.int .i64 (j : Int))).setCell ⟨T, 4, none⟩ (.int .i64 (l2 : Int))).setCell ⟨T, 5, none⟩ (.int .i64 (c2 : Int))).setCell ⟨T, 6, none⟩ (.bool fb)).drew := ⟨_, rfl⟩
          have hT7 : Hid (Blk V7 T #[.int .i64 (kk : Int), .string (bs tt), .int .i64 (tn : Int), .int .i64 (j : Int), .int .i64 (l2 : Int), .int .i64 (c2 : Int), .bool fb] 39) := by rw [hV7]; exact ((((hT6.out.set 3 _).set 4 _).set 5 _).set 6 _).drew
          have hQ7 : Hid (Below (P + 1) V V7) := by
            rw [hV7]
            exact ((((hQ6.out.setCell (by show P + 1 ≤ T; omega) _).setCell (by show P + 1 ≤ T; omega) _).setCell (by show P + 1 ≤ T; omega) _).setCell (by show P + 1 ≤ T; omega) _).drew
          have hO7 : Hid (V7.ownsRow W6.heap.size 39 7 u5 pre.length (tksC pre)) := by
            rw [hV7]
            exact (owns_set_ne (owns_set_ne (owns_set_ne (owns_set_ne hO6.out.1 hO6.out.2 _) hO6.out.2 _) hO6.out.2 _) hO6.out.2 _).drew
          have hS7 : Hid (W6.heap.size ≤ V7.heap.size) := by
            have h1 := hQ7.out.size
            have h2 := hPV.out.lt
            show _ ≤ _
            omega
          rw [← hV7]
          clear hV7 tc0 tc1 tc2 tc3 tc4 tc5 tc6 tf0 tf1 tf2 tf3 tf4 tf5 tf6 pc0 pc1 pc2 pf0 pf1 pf2 hT6 hO6 hQ6 hTl hfi
          obtain ⟨tc0, tc1, tc2, tc3, tc4, tc5, tc6, tf0, tf1, tf2, tf3, tf4, tf5, tf6⟩ := hT7.out.all7
          clear tf0 tf1 tf2 tf3 tf4 tf5 tf6
          obtain ⟨i0, hi0, hz0, hz1, hz2⟩ := info_parts Tryz.infoTok
          go_wp2_with (first
            | (at_builtin; refine wpList_append_own _ rfl _ _ 29 rfl W6.heap.size 39 i0 _ 7 64 Tryz.underlying29 hi0 hz0 hz1 hz2 rfl (by decide) _ _ _ rfl (hO7.out.alloc _) ⟨V7.heap.size, 0, none⟩ 1 1 [.int .i64 (kk : Int), .string (bs tt), .int .i64 (tn : Int), .int .i64 (j : Int), .int .i64 (l2 : Int), .int .i64 (c2 : Int), .bool fb] rfl rfl (cells_new _ _ _) (by simp [Value.oneCell']) (by have := HA.out; unfold maxLen; omega) (by have := HA.out; omega) (by have := hS7.out; simp; omega) ?_; intro o' w8 hown8 hgrow8 _; have hQ8 : Hid (Below (P + 1) V w8) := ((hQ7.out.alloc (by have := hS7.out; omega) _).grown hgrow8 (by have := hS7.out; simp; omega) (fun k hk => by have := (hO7.out.lt k hk).1; omega)); have HO8 : Hid (w8.ownsRow W6.heap.size 39 7 o' (pre.length + 1) (tksC pre ++ [.int .i64 (kk : Int), .string (bs tt), .int .i64 (tn : Int), .int .i64 (j : Int), .int .i64 (l2 : Int), .int .i64 (c2 : Int), .bool fb])) := hown8; have hP8 : Hid (Blk w8 P #[.int .i64 (j : Int), .int .i64 (l2 : Int), .int .i64 (c2 : Int)] 70) := blk_belowB hPV.out (Nat.lt_succ_self P) hQ8.out; obtain ⟨pc0, pc1, pc2, pf0, pf1, pf2⟩ := hP8.out.all3; clear hown8 hgrow8 tc0 tc1 tc2 tc3 tc4 tc5 tc6)
            | (go_at_call 31; fail))
          refine (HBe.out _).mono ?_
          rintro r v9 ⟨rfl, hv9⟩
          have hP9 : Hid (Blk v9 P #[.int .i64 (j : Int), .int .i64 (l2 : Int), .int .i64 (c2 : Int)] 70) := hP8.out.below hv9
          have hQ9 : Hid (Below (P + 1) V v9) := hQ8.out.trans (hv9.mono (by have := hP8.out.lt; omega))
          have HV9 : Hid (Below w8.heap.size w8 v9) := hv9
          clear hv9 pc0 pc1 pc2 pf0 pf1 pf2
          obtain ⟨pc0, pc1, pc2, pf0, pf1, pf2⟩ := hP9.out.all3
          go_wp2
          have hj7 : ((j : Int) + (n : Int)) = ((j + n : Nat) : Int) := by omega
          have hA := HA.out
          have hPn := hP9.out.set3 (.int .i64 ((j : Int) + (n : Int))) (.int .i64 (l3 : Int)) (.int .i64 (c3 : Int))
          refine ⟨⟨j + n, l3, c3, l2, pre ++ [⟨⟨kk, tt, tn⟩, j, l2, c2, decide (l2 ≠ last)⟩], by omega, by omega, by omega, by omega, rfl, HSn, ?_, ?_, ?_⟩, ?_⟩
          · rw [hj7] at hPn ⊢
            exact hPn
          · show World.ownsRow _ _ _ _ _ _ _
            rw [tksC_snoc, List.length_append]
            have ht : tkC ⟨⟨kk, tt, tn⟩, j, l2, c2, decide (l2 ≠ last)⟩ = [.int .i64 (kk : Int), .string (bs tt), .int .i64 (tn : Int), .int .i64 (j : Int), .int .i64 (l2 : Int), .int .i64 (c2 : Int), .bool fb] := by rw [Hfb.out]; rfl
            rw [ht]
            exact ownsRow_setCell_below (ownsRow_setCell_below (ownsRow_setCell_below (owns_below HO8.out HV9.out) (by show P < _; omega) _) (by show P < _; omega) _) (by show P < _; omega) _
          · exact (((hBV.out.trans (hQ9.out.mono (Nat.le_succ P))).setCell (Nat.le_refl _) _).setCell (Nat.le_refl _) _).setCell (Nat.le_refl _) _
          · rw [hPn.all3.1, hP.out.all3.1]
            simp only [Option.getD_some, intOf]
            omega

end Go.Proofs.YtndpebkiiemfpaaGreatDoor
