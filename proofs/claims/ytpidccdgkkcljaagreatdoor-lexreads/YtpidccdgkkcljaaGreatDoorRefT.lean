/-
  The document's All, by a contract.
-/
import Derived.Test.YtpidccdgkkcljaaGreatDoorRefL
import Derived.Test.YtpidccdgkkcljaaGreatDoorRefM
import Derived.Test.YtpidccdgkkcljaaGreatDoorAll
import Derived.Test.YtpidccdgkkcljaaGreatDoorLives
namespace Go.Proofs.YtpidccdgkkcljaaGreatDoor
open Go.RowKit Go.Shelf Go.Maps
set_option linter.unusedVariables false

theorem scanAt_pass (l : List UInt8) (pre : List M.Tk) (a : Nat) (p : Nat × Nat) (last n : Nat) (h : ScanAt l pre a p last) (hp : M.passR (l.drop a) = some n) (hn : n ≠ 0) : ScanAt l pre (a + n) (M.mv p ((l.drop a).take n)) last := by
  obtain ⟨f, hf, ha, hpre, h⟩ := h
  obtain ⟨h1, h2⟩ := M.passR_some _ n hp hn
  rcases M.scan_pass f a p last (l.drop a) n h2 with h3 | h3
  · rw [List.length_drop] at h1 hf
    refine ⟨f, by rw [List.length_drop]; omega, by omega, by omega, ?_⟩
    rw [h, h3, List.drop_drop]
  · omega
theorem scanAt_fault (l : List UInt8) (pre : List M.Tk) (a : Nat) (p : Nat × Nat) (last : Nat) (h : ScanAt l pre a p last) (ha : a < l.length) (hp : M.passR (l.drop a) = none) : M.scanAll l = .inl a := by
  obtain ⟨h1, h2⟩ := M.passR_none _ hp
  have hi := M.idleAll_zero _ h1
  have := scanAt_bad l pre a p last h (by rw [hi]; exact ha) (by rw [hi]; exact h2)
  rw [hi] at this
  exact this
theorem scanAt_lex (l : List UInt8) (pre : List M.Tk) (a : Nat) (p : Nat × Nat) (last : Nat) (h : ScanAt l pre a p last) (ha : a < l.length) (hp : M.passR (l.drop a) = some 0) (hl : (M.lexR (l.drop a)).2 = 0) : M.scanAll l = .inl a := by
  obtain ⟨h1, h2⟩ := M.passR_zero _ hp
  have hi := M.idleAll_zero _ h1
  have h3 : (M.lex1 (l.drop a)).2 = 0 := by
    unfold M.lexR at hl
    split at hl
    · assumption
    · exact hl
  have := scanAt_bad l pre a p last h (by rw [hi]; exact ha) (by rw [hi]; exact h3)
  rw [hi] at this
  exact this
theorem scanAt_tok (l : List UInt8) (pre : List M.Tk) (a : Nat) (p : Nat × Nat) (last n : Nat) (h : ScanAt l pre a p last) (ha : a < l.length) (hp : M.passR (l.drop a) = some 0) (t : M.T0) (hl : M.lexR (l.drop a) = (t, n)) (hn : n ≠ 0) :
    ScanAt l (pre ++ [⟨t, a, p.1, p.2, decide (p.1 ≠ last)⟩]) (a + n) (M.mv p ((l.drop a).take n)) p.1 := by
  obtain ⟨h1, h2⟩ := M.passR_zero _ hp
  have hi := M.idleAll_zero _ h1
  have h3 : (M.lex1 (l.drop a)).2 = n ∧ M.resv (M.mkTok ((M.lex1 (l.drop a)).1 + 1) ((l.drop a).take (M.lex1 (l.drop a)).2)) = t := by
    unfold M.lexR at hl
    split at hl
    · simp only [Prod.mk.injEq] at hl; omega
    · simp only [Prod.mk.injEq] at hl; exact ⟨hl.2, hl.1⟩
  have := scanAt_next l pre a p last h (by rw [hi]; exact ha) (by rw [hi, Nat.add_zero, h3.1]; exact hn)
  unfold nextTk at this
  simp only [hi, Nat.add_zero, List.take_zero] at this
  rw [h3.2, h3.1] at this
  exact this
theorem scanAt_done (l : List UInt8) (pre : List M.Tk) (a : Nat) (p : Nat × Nat) (last : Nat) (h : ScanAt l pre a p last) (ha : a = l.length) : M.scanAll l = .inr pre := by
  refine scanAt_end l pre a p last h ?_
  rw [ha, List.drop_length]
  rfl

set_option maxRecDepth 100000 in
set_option maxHeartbeats 4000000 in
theorem rAfter_c (l c : Nat) (b : UInt8) (hl : l ≤ 100000) (hc : 1 ≤ c) (hc2 : c ≤ 1000000) (w : World) :
    Calls Tryz.prog 40 #[.int .i64 (l : Int), .int .i64 (c : Int), .int .u8 (b.toNat : Int)] w fun e w' => e = .returned (.tuple #[.int .i64 ((M.mv1 (l, c) b).1 : Int), .int .i64 ((M.mv1 (l, c) b).2 : Int)]) ∧ w' = w := by
  have hli : (l : Int) ≤ 100000 := by omega
  have hci : (c : Int) ≤ 1000000 := by omega
  have hci1 : (1 : Int) ≤ c := by omega
  clear hl hc2
  by_cases h10 : b.toNat = 10
  · have HM : Hid (M.mv1 (l, c) b = (l + 1, 1)) := by show _ = _; unfold M.mv1; rw [if_pos h10]
    have e10 : ((b.toNat : Int) == 10) = true := beq_iff_eq.2 (by omega)
    clear h10
    go_enter Tryz.func40, Tryz.ntmps40
    go_wp2
    go_ret2
    exact ⟨by rw [HM.out]; rfl, rfl⟩
  · have e10 : ((b.toNat : Int) == 10) = false := beq_eq_false_iff_ne.2 (by omega)
    by_cases h9 : b.toNat = 9
    · have HM : Hid (M.mv1 (l, c) b = (l, (c + 7) / 8 * 8 + 1)) := by
        show _ = _
        unfold M.mv1; rw [if_neg h10, if_pos h9]
        simp only [Prod.mk.injEq, true_and]
        omega
      have e9 : ((b.toNat : Int) == 9) = true := beq_iff_eq.2 (by omega)
      clear h10 h9
      go_enter Tryz.func40, Tryz.ntmps40
      go_wp2
      go_ret2
      exact ⟨by rw [HM.out]; rfl, rfl⟩
    · have HM : Hid (M.mv1 (l, c) b = (l, c + 1)) := by show _ = _; unfold M.mv1; rw [if_neg h10, if_neg h9]
      have e9 : ((b.toNat : Int) == 9) = false := beq_eq_false_iff_ne.2 (by omega)
      clear h10 h9
      go_enter Tryz.func40, Tryz.ntmps40
      go_wp2
      go_ret2
      exact ⟨by rw [HM.out]; rfl, rfl⟩

theorem cells_new' (W : World) (m : Nat) (h : W.heap.size = m) (vs : List Value) (T : TypeId) : ∀ (j : Nat) (u : Value), vs[j]? = some u → (W.alloc (.cells vs.toArray T)).cell? ((⟨m, 0, none⟩ : Addr).add j) = some u := by
  subst h; exact cells_new W vs T
theorem lexR_le (l : List UInt8) : (M.lexR l).2 ≤ l.length := by
  have := M.lex1_le l
  unfold M.lexR
  split
  · simp
  · exact this
theorem lexR_kind (l : List UInt8) (h : (M.lexR l).2 ≠ 0) : (M.lexR l).1.kind ≠ 0 := by
  unfold M.lexR at h ⊢
  split
  · rename_i h0; rw [if_pos h0] at h; exact absurd rfl h
  · simp only
    unfold M.resv
    have hk : ∀ k l, (M.mkTok (k + 1) l).kind ≠ 0 := by
      intro k l
      unfold M.mkTok
      repeat' split
      all_goals simp
    split
    · simp
    · split
      · simp
      · exact hk _ _
set_option maxRecDepth 100000 in
set_option maxHeartbeats 8000000 in
theorem rAll_c (s : ByteArray) (hs : s.size ≤ 70000) (hc : chk s = (0, 0)) (w : World) :
    Calls Tryz.prog 14 #[.string s] w fun e W' => ∃ v f, e = .returned (.tuple #[v, f]) ∧ Below w.heap.size w W' ∧ Hid (AllPost s w W' v f) := by
  have HC : Hid (∀ w : World, Calls Tryz.prog 37 #[.string s] w fun e W' => e = .returned (.agg #[.int .i64 0, .int .i64 0]) ∧ Below w.heap.size w W') := fun w => by
    have := refCheck_c s w
    rw [hc] at this
    exact this
  go_enter Tryz.func14, Tryz.ntmps14
  go_wp2_with (go_at_call 37; fail)
  refine (HC.out _).mono ?_
  rintro e w1 ⟨rfl, hb1⟩
  have HB1 : Hid (Below w.heap.size w w1) := ((Below.refl _ w).alloc (Nat.le_refl _) _).trans (hb1.mono (by simp))
  have HR1 : Hid (Blk w1 w.heap.size #[.int .i64 0, .int .i64 0] 26) := (Blk.new w _ _).below hb1
  have q := HR1.out.all2
  clear hb1 HC
  go_wp2
  obtain ⟨W6, hW6⟩ : ∃ W6, w1.alloc (.cells #[.int .i64 0, .int .i64 0] 26) = W6 := ⟨_, rfl⟩
  have HB6 : Hid (Below w.heap.size w W6) := by rw [← hW6]; exact HB1.out.alloc HB1.out.size _
  have HR6 : Hid (Blk W6 w.heap.size #[.int .i64 0, .int .i64 0] 26) := by rw [← hW6]; exact HR1.out.alloc _
  rw [hW6]
  clear hW6 q HR1 HB1
  have hlen : Hid (s.data.toList.length = s.size) := (Lib.size_eq s).symm
  have HS : Hid (s.size ≤ 70000) := hs
  have hsi : (s.size : Int) ≤ 70000 := by omega
  have hiT := info_parts Tryz.infoTok
  obtain ⟨i0, hi, hz0, hz1, hz2⟩ := hiT
  clear hs hc
  go_loopw [5, 6, 7, 8, 9] (fun ov la li co av wr => ∃ (a l c last : Nat) (pre : List M.Tk), a ≤ s.size ∧ l ≤ a + 1 ∧ 1 ≤ c ∧ c ≤ 8 * a + 1 ∧ la = .int .i64 (last : Int) ∧ li = .int .i64 (l : Int) ∧ co = .int .i64 (c : Int) ∧ av = .int .i64 (a : Int) ∧ Hid (ScanAt s.data.toList pre a (l, c) last) ∧ Hid (wr.ownsRow W6.heap.size 30 7 ov pre.length (tksC pre)) ∧ Hid (Below W6.heap.size W6 wr))
    (fun _ _ _ _ av _ => s.size - (intOf av).toNat)
  case atStart => exact ⟨0, 1, 1, 0, [], Nat.zero_le _, Nat.le_refl _, Nat.le_refl _, Nat.le_refl _, rfl, rfl, rfl, rfl, scanAt_start _, World.ownsRow_nil _ _ _ _, Below.refl _ _⟩
  case round =>
    obtain ⟨a, l, c, last, pre, ha, hl, hc1, hc2, rfl, rfl, rfl, rfl, hsc, hown, hB⟩ := hrel
    have HRr : Hid (Blk wr w.heap.size #[.int .i64 0, .int .i64 0] 26) := blk_belowB HR6.out HR6.out.lt hB.out
    have HBr : Hid (Below w.heap.size w wr) := HB6.out.trans (hB.out.mono HB6.out.size)
    have HA : Hid (a ≤ s.size ∧ l ≤ a + 1 ∧ 1 ≤ c ∧ c ≤ 8 * a + 1) := ⟨ha, hl, hc1, hc2⟩
    have hai : (a : Int) ≤ 70000 := by omega
    obtain ⟨rc0, rc1, rf0, rf1⟩ := HRr.out.all2
    have hRlt : w.heap.size < wr.heap.size := HRr.out.lt
    clear hl hc1 hc2
    by_cases hlt : a < s.size
    · have hlti : (a : Int) < s.size := by omega
      have HP := fun w => rPassed_c s a HS.out hlt w
      cases hp : M.passR (s.data.toList.drop a) with
      | none =>
        rw [hp] at HP
        have HP' : Hid (∀ w : World, Calls Tryz.prog 38 #[.string s, .int .i64 (a : Int)] w fun e w' => e = .returned (.int .i64 (-1)) ∧ w' = w) := HP
        have HE : Hid (M.scanAll s.data.toList = .inl a) := scanAt_fault _ pre a _ last hsc.out (by rw [hlen.out]; exact hlt) hp
        clear HP hp hsc hown
        go_wp2_with (go_at_call 38; refine (HP'.out _).mono ?_; rintro e w2 ⟨rfl, rfl⟩)
        have z := (((HRr.out.set 0 (.int .i64 4)).set 1 (.int .i64 (a : Int))).alloc (.cells #[.int .i64 0, .string ⟨#[]⟩, .int .i64 0, .int .i64 0, .int .i64 0, .int .i64 0, .bool false] 30)).all2
        exact bodyPost_ret (v := .tuple #[.slice none 0 0, faultV 4 (a : Int)]) (by simp [results, Tryz.results14, go_sem, faultV, z.1, z.2.1]) rfl ⟨_, _, rfl, ((HBr.out.setCell (Nat.le_refl _) _).setCell (Nat.le_refl _) _).alloc (by have := HBr.out.size; simp; omega) _, by show AllPost _ _ _ _ _; unfold AllPost; rw [HE.out]; exact ⟨rfl, rfl⟩⟩
      | some n =>
        rw [hp] at HP
        have HP' : Hid (∀ w : World, Calls Tryz.prog 38 #[.string s, .int .i64 (a : Int)] w fun e w' => e = .returned (.int .i64 (n : Int)) ∧ w' = w) := HP
        by_cases hn : n = 0
        · subst hn
          have hpz := (M.passR_zero _ hp).2
          have hLx := rLexeme_c s a HS.out hlt hpz
          obtain ⟨⟨⟨tk, tt, tn⟩, n⟩, hlx⟩ : ∃ r, M.lexR (s.data.toList.drop a) = r := ⟨_, rfl⟩
          rw [hlx] at hLx
          have HLx : Hid (∀ w : World, Calls Tryz.prog 39 #[.string s, .int .i64 (a : Int)] w fun e w' => e = .returned (.tuple #[.agg #[.int .i64 (tk : Int), .string (bs tt), .int .i64 (tn : Int), .int .i64 0, .int .i64 0, .int .i64 0, .bool false], .int .i64 (n : Int)]) ∧ Below w.heap.size w w') := hLx
          by_cases hn : n = 0
          · have HE : Hid (M.scanAll s.data.toList = .inl a) := scanAt_lex _ pre a _ last hsc.out (by rw [hlen.out]; exact hlt) hp (by rw [hlx]; exact hn)
            subst hn
            clear HP hp hsc hown hlx hLx hpz
            go_wp2_with (first
              | (go_at_call 38; refine (HP'.out _).mono ?_; rintro e w2 ⟨rfl, rfl⟩)
              | (go_at_call 39; fail))
            refine (HLx.out _).mono ?_
            rintro e w3 ⟨rfl, hb3⟩
            have HR3 : Hid (Blk w3 w.heap.size #[.int .i64 0, .int .i64 0] 26) := (HRr.out.alloc _).below hb3
            have HB3 : Hid (Below w.heap.size w w3) := (HBr.out.alloc HBr.out.size _).trans (hb3.mono (by have := HBr.out.size; simp; omega))
            obtain ⟨tc0, tc1, tc2, tc3, tc4, tc5, tc6, tf0, tf1, tf2, tf3, tf4, tf5, tf6⟩ := ((Blk.new w2 _ _).below hb3).all7
            obtain ⟨rc0', rc1', rf0', rf1'⟩ := HR3.out.all2
            clear hb3 rc0 rc1 rf0 rf1
            go_wp2
            exact bodyPost_ret (v := .tuple #[.slice none 0 0, faultV 4 (a : Int)]) (by simp [results, Tryz.results14, go_sem, faultV, rc0', rc1']) rfl ⟨_, _, rfl, by repeat (first | (refine Below.setCell ?_ (by first | exact Nat.le_refl _ | exact Nat.le_of_lt hRlt) _) | exact HB3.out), by show AllPost _ _ _ _ _; unfold AllPost; rw [HE.out]; exact ⟨rfl, rfl⟩⟩
          · have HAT : Hid (ScanAt s.data.toList (pre ++ [⟨⟨tk, tt, tn⟩, a, l, c, decide (l ≠ last)⟩]) (a + n) (M.mv (l, c) ((s.data.toList.drop a).take n)) l) := scanAt_tok _ pre a (l, c) last n hsc.out (by rw [hlen.out]; exact hlt) hp ⟨tk, tt, tn⟩ hlx hn
            have hle := lexR_le (s.data.toList.drop a)
            have htk := lexR_kind (s.data.toList.drop a) (by rw [hlx]; exact hn)
            rw [hlx] at hle htk
            rw [List.length_drop, hlen.out] at hle
            simp only at hle htk
            have en0 : ((n : Int) == 0) = false := beq_eq_false_iff_ne.2 (by omega)
            have etk : ((tk : Int) != 0) = true := by simp only [bne, beq_eq_false_iff_ne.2 (show (tk : Int) ≠ 0 by omega)]; rfl
            have hni : (a : Int) + n ≤ s.size := by omega
            have HK : Hid (0 < n) := by show _ < _; omega
            have hfb' : ((l : Int) != (last : Int)) = decide (l ≠ last) := by
              by_cases h : l = last
              · subst h; simp
              · rw [decide_eq_true h, bne_iff_ne]; omega
            obtain ⟨fb, hfb⟩ : ∃ fb, decide (l ≠ last) = fb := ⟨_, rfl⟩
            rw [hfb] at hfb' HAT
            have HPL : Hid (pre.length ≤ a) := by obtain ⟨f, _, _, h3, _⟩ := hsc.out; exact h3
            clear HP hp hsc hlx hLx hpz hfb htk
            go_wp2_with (first
              | (go_at_call 38; refine (HP'.out _).mono ?_; rintro e w2 ⟨rfl, rfl⟩)
              | (go_at_call 39; fail))
            refine (HLx.out _).mono ?_
            rintro e w3 ⟨rfl, hb3⟩
            have HB3 : Hid (Below w2.heap.size w2 w3) := ((Below.refl _ w2).alloc (Nat.le_refl _) _).trans (hb3.mono (by simp))
            have HT3 : Hid (Blk w3 w2.heap.size #[.int .i64 0, .string ⟨#[]⟩, .int .i64 0, .int .i64 0, .int .i64 0, .int .i64 0, .bool false] 30) := (Blk.new w2 _ _).below hb3
            obtain ⟨tc0, tc1, tc2, tc3, tc4, tc5, tc6, tf0, tf1, tf2, tf3, tf4, tf5, tf6⟩ := HT3.out.all7
            clear hb3 rc0 rc1 rf0 rf1
            rename_i K2 a2 K1 a1 K0 a0
            have HK2 : Hid _ := a2
            clear a2
            obtain ⟨T, hT⟩ : ∃ T, w2.heap.size = T := ⟨_, rfl⟩
            have HO3 : Hid (w3.ownsRow W6.heap.size 30 7 u5 pre.length (tksC pre)) := owns_below hown.out HB3.out
            have HNT : Hid (∀ g, u5.ownBlock = some g → g ≠ T) := fun g hg => by have := (hown.out.lt g hg).2; omega
            have HTW : Hid (W6.heap.size ≤ T ∧ T < w3.heap.size) := ⟨by rw [← hT]; exact hB.out.size, by rw [← hT]; exact HT3.out.lt⟩
            have HB36 : Hid (Below W6.heap.size W6 w3) := hB.out.trans (HB3.out.mono hB.out.size)
            rw [hT] at HT3 tc0 tc1 tc2 tc3 tc4 tc5 tc6 tf0 tf1 tf2 tf3 tf4 tf5 tf6 ⊢
            clear hT HB3 hRlt
            go_wp2
            obtain ⟨V, hV⟩ : ∃ V, V = ((((((((w3.setCell ⟨T, 0, none⟩ (.int .i64 (tk : Int))).setCell ⟨T, 1, none⟩ (.string (bs tt))).setCell ⟨T, 2, none⟩ (.int .i64 (tn : Int))).setCell ⟨T, 3, none⟩ (.int .i64 0)).setCell ⟨T, 4, none⟩ (.int .i64 0)).setCell ⟨T, 5, none⟩ (.int .i64 0)).setCell ⟨T, 6, none⟩ (.bool false))) := ⟨_, rfl⟩
            have HTV : Hid (Blk V T #[.int .i64 (tk : Int), .string (bs tt), .int .i64 (tn : Int), .int .i64 0, .int .i64 0, .int .i64 0, .bool false] 30) := by rw [hV]; exact ((((((HT3.out.set 0 _).set 1 _).set 2 _).set 3 _).set 4 _).set 5 _).set 6 _
            have HOV : Hid (V.ownsRow W6.heap.size 30 7 u5 pre.length (tksC pre)) := by rw [hV]; exact owns_set_ne (owns_set_ne (owns_set_ne (owns_set_ne (owns_set_ne (owns_set_ne (owns_set_ne HO3.out HNT.out _) HNT.out _) HNT.out _) HNT.out _) HNT.out _) HNT.out _) HNT.out _
            have HBV : Hid (Below W6.heap.size W6 V) := by rw [hV]; exact ((((((HB36.out.setCell HTW.out.1 _).setCell HTW.out.1 _).setCell HTW.out.1 _).setCell HTW.out.1 _).setCell HTW.out.1 _).setCell HTW.out.1 _).setCell HTW.out.1 _
            rw [← hV]
            clear hV tc0 tc1 tc2 tc3 tc4 tc5 tc6 tf0 tf1 tf2 tf3 tf4 tf5 tf6 HT3 HO3 HB36
            have HTl : Hid (W6.heap.size ≤ T ∧ T < V.heap.size) := ⟨HTW.out.1, HTV.out.lt⟩
            have hTl : T < V.heap.size := HTV.out.lt
            obtain ⟨tc0, tc1, tc2, tc3, tc4, tc5, tc6, tf0, tf1, tf2, tf3, tf4, tf5, tf6⟩ := HTV.out.all7
            clear HTW
            apply HK2.out
            go_wp2_with (at_builtin; refine wpList_append_own _ rfl _ _ 23 rfl W6.heap.size 30 i0 _ 7 64 Tryz.underlying23 hi hz0 hz1 hz2 rfl (by decide) _ _ _ rfl (World.ownsRow.alloc (owns_set_ne (owns_set_ne (owns_set_ne (owns_set_ne HOV.out HNT.out _) HNT.out _) HNT.out _) HNT.out _) _) ⟨V.heap.size, 0, none⟩ 1 1 [.int .i64 (tk : Int), .string (bs tt), .int .i64 (tn : Int), .int .i64 (a : Int), .int .i64 (l : Int), .int .i64 (c : Int), .bool fb] rfl rfl (cells_new' _ _ (by simp) _ _) (by simp [Value.oneCell']) (by have := HPL.out; have := HA.out.1; have := HS.out; unfold maxLen; omega) (by have := HPL.out; have := HA.out.1; have := HS.out; omega) (by have := HTl.out; simp; omega) ?_; intro o' w8 hown8 hgrow8 _; have HB8 : Hid (Below W6.heap.size W6 w8) := (Below.alloc ((((HBV.out.setCell HTl.out.1 _).setCell HTl.out.1 _).setCell HTl.out.1 _).setCell HTl.out.1 _) (by have := HTl.out; simp; omega) _).grown hgrow8 (by have := HTl.out; simp; omega) (fun k hk => (HOV.out.lt k hk).1); have HO8 : Hid (w8.ownsRow W6.heap.size 30 7 o' (pre.length + 1) (tksC pre ++ [.int .i64 (tk : Int), .string (bs tt), .int .i64 (tn : Int), .int .i64 (a : Int), .int .i64 (l : Int), .int .i64 (c : Int), .bool fb])) := hown8; clear hown8 hgrow8)
            clear tc0 tc1 tc2 tc3 tc4 tc5 tc6 tf0 tf1 tf2 tf3 tf4 tf5 tf6 HTV HOV HBV HTl hTl
            go_loop [7, 8, 12] (fun li co iv => ∃ k l' c' : Nat, k ≤ n ∧ li = .int .i64 (l' : Int) ∧ co = .int .i64 (c' : Int) ∧ iv = .int .i64 (k : Int) ∧ Hid (M.mv (l, c) ((s.data.toList.drop a).take k) = (l', c'))) (fun _ _ iv => n - (intOf iv).toNat)
            case atStart => exact ⟨0, l, c, Nat.zero_le _, rfl, rfl, rfl, rfl⟩
            case round =>
              obtain ⟨k, l', c', hk, rfl, rfl, rfl, HMV⟩ := hrel
              have hbl := mv_line ((s.data.toList.drop a).take k) (l, c)
              have hbc := mv_col ((s.data.toList.drop a).take k) (l, c) HA.out.2.2.1
              rw [HMV.out] at hbl hbc
              rw [List.length_take] at hbl hbc
              simp only at hbl hbc
              have hb1 : l' ≤ l + k ∧ 1 ≤ c' ∧ c' ≤ c + 8 * k := by have := HA.out; omega
              clear hbl hbc
              by_cases hkn : k < n
              · have hkni : (k : Int) < n := by omega
                have hak : a + k < s.size := by omega
                have haki : (a : Int) + k < s.size := by omega
                have haki2 : (a : Int) + k ≤ 70000 := by omega
                have hmv' : M.mv (l, c) ((s.data.toList.drop a).take (k + 1)) = M.mv1 (l', c') s[a + k] := by
                  rw [(M.take_snoc (s.data.toList.drop a) _ k s[a + k] (by rw [List.drop_drop]; exact drop_one s (a + k) hak)).1]
                  unfold M.mv at *
                  rw [List.foldl_append]
                  show M.mv1 (List.foldl M.mv1 (l, c) _) _ = _
                  rw [HMV.out]
                have hAf := rAfter_c l' c' s[a + k] (by have := HA.out; omega) hb1.2.1 (by have := HA.out; omega)
                obtain ⟨⟨l2, c2⟩, hlc⟩ : ∃ r, M.mv1 (l', c') s[a + k] = r := ⟨_, rfl⟩
                rw [hlc] at hmv' hAf
                have HAf : Hid (∀ w : World, Calls Tryz.prog 40 #[.int .i64 (l' : Int), .int .i64 (c' : Int), .int .u8 (s[a + k].toNat : Int)] w fun e w' => e = .returned (.tuple #[.int .i64 (l2 : Int), .int .i64 (c2 : Int)]) ∧ w' = w) := hAf
                have HMV' : Hid (M.mv (l, c) ((s.data.toList.drop a).take (k + 1)) = (l2, c2)) := hmv'
                clear hlc hmv' hAf HMV hb1
                go_wp2_with (go_at_call 40; refine (HAf.out _).mono ?_; rintro e w9 ⟨rfl, rfl⟩)
                go_round
                case rel => exact ⟨k + 1, l2, c2, by omega, rfl, rfl, by go_num, HMV'⟩
                case measure => simp [intOf]; omega
              · obtain rfl : k = n := by omega
                have HAT' := HAT.out
                rw [HMV.out] at HAT'
                have HAT2 : Hid (ScanAt s.data.toList (pre ++ [⟨⟨tk, tt, tn⟩, a, l, c, fb⟩]) (a + k) (l', c') l) := HAT'
                have hb2 : Hid (l' ≤ l + k ∧ 1 ≤ c' ∧ c' ≤ c + 8 * k) := hb1
                clear HAT' hkn hb1
                go_wp2
                go_roundw
                case rel => exact ⟨a + k, l', c', l, (pre ++ [⟨⟨tk, tt, tn⟩, a, l, c, fb⟩]), by omega, by have := HA.out; have := hb2.out; omega, hb2.out.2.1, by have := HA.out; have := hb2.out; omega, rfl, rfl, rfl, by go_num, HAT2, by show World.ownsRow _ _ _ _ _ _ _; rw [tksC_snoc, List.length_append]; exact HO8.out, HB8.out⟩
                case measure => have := HK.out; simp [intOf]; omega
        · have HAT : Hid (ScanAt s.data.toList pre (a + n) (M.mv (l, c) ((s.data.toList.drop a).take n)) last) := scanAt_pass _ pre a _ last n hsc.out hp hn
          have hle := (M.passR_some _ n hp hn).1
          rw [List.length_drop, hlen.out] at hle
          have en0 : ((n : Int) == 0) = false := beq_eq_false_iff_ne.2 (by omega)
          have hni : (a : Int) + n ≤ s.size := by omega
          have HK : Hid (0 < n) := by show _ < _; omega
          clear HP hp hsc
          go_wp2_with (go_at_call 38; refine (HP'.out _).mono ?_; rintro e w2 ⟨rfl, rfl⟩)
          go_loop [7, 8, 12] (fun li co iv => ∃ k l' c' : Nat, k ≤ n ∧ li = .int .i64 (l' : Int) ∧ co = .int .i64 (c' : Int) ∧ iv = .int .i64 (k : Int) ∧ Hid (M.mv (l, c) ((s.data.toList.drop a).take k) = (l', c'))) (fun _ _ iv => n - (intOf iv).toNat)
          case atStart => exact ⟨0, l, c, Nat.zero_le _, rfl, rfl, rfl, rfl⟩
          case round =>
            obtain ⟨k, l', c', hk, rfl, rfl, rfl, HMV⟩ := hrel
            have hbl := mv_line ((s.data.toList.drop a).take k) (l, c)
            have hbc := mv_col ((s.data.toList.drop a).take k) (l, c) HA.out.2.2.1
            rw [HMV.out] at hbl hbc
            rw [List.length_take] at hbl hbc
            simp only at hbl hbc
            have hb1 : l' ≤ l + k ∧ 1 ≤ c' ∧ c' ≤ c + 8 * k := by have := HA.out; omega
            clear hbl hbc
            by_cases hkn : k < n
            · have hkni : (k : Int) < n := by omega
              have hak : a + k < s.size := by omega
              have haki : (a : Int) + k < s.size := by omega
              have haki2 : (a : Int) + k ≤ 70000 := by omega
              have hmv' : M.mv (l, c) ((s.data.toList.drop a).take (k + 1)) = M.mv1 (l', c') s[a + k] := by
                rw [(M.take_snoc (s.data.toList.drop a) _ k s[a + k] (by rw [List.drop_drop]; exact drop_one s (a + k) hak)).1]
                unfold M.mv at *
                rw [List.foldl_append]
                show M.mv1 (List.foldl M.mv1 (l, c) _) _ = _
                rw [HMV.out]
              have hAf := rAfter_c l' c' s[a + k] (by have := HA.out; omega) hb1.2.1 (by have := HA.out; omega)
              obtain ⟨⟨l2, c2⟩, hlc⟩ : ∃ r, M.mv1 (l', c') s[a + k] = r := ⟨_, rfl⟩
              rw [hlc] at hmv' hAf
              have HAf : Hid (∀ w : World, Calls Tryz.prog 40 #[.int .i64 (l' : Int), .int .i64 (c' : Int), .int .u8 (s[a + k].toNat : Int)] w fun e w' => e = .returned (.tuple #[.int .i64 (l2 : Int), .int .i64 (c2 : Int)]) ∧ w' = w) := hAf
              have HMV' : Hid (M.mv (l, c) ((s.data.toList.drop a).take (k + 1)) = (l2, c2)) := hmv'
              clear hlc hmv' hAf HMV hb1
              go_wp2_with (go_at_call 40; refine (HAf.out _).mono ?_; rintro e w9 ⟨rfl, rfl⟩)
              go_round
              case rel => exact ⟨k + 1, l2, c2, by omega, rfl, rfl, by go_num, HMV'⟩
              case measure => simp [intOf]; omega
            · obtain rfl : k = n := by omega
              have HAT' := HAT.out
              rw [HMV.out] at HAT'
              have HAT2 : Hid (ScanAt s.data.toList pre (a + k) (l', c') last) := HAT'
              have hb2 : Hid (l' ≤ l + k ∧ 1 ≤ c' ∧ c' ≤ c + 8 * k) := hb1
              clear HAT' hkn hb1
              go_wp2
              go_roundw
              case rel => exact ⟨a + k, l', c', last, pre, by omega, by have := HA.out; have := hb2.out; omega, hb2.out.2.1, by have := HA.out; have := hb2.out; omega, rfl, rfl, rfl, by go_num, HAT2, hown.out.alloc _, hB.out.alloc hB.out.size _⟩
              case measure => have := HK.out; simp [intOf]; omega
    · have hae : a = s.size := by omega
      have hge : (s.size : Int) ≤ a := by omega
      have HE : Hid (M.scanAll s.data.toList = .inr pre) := scanAt_done _ pre a _ last hsc.out (by rw [hlen.out]; exact hae)
      have HPL : Hid (pre.length ≤ s.size) := by
        have := hsc.out
        obtain ⟨f, _, _, h3, _⟩ := this
        show _ ≤ _
        omega
      have HV : Hid (∀ u1 u2 : Value, ((wr.setCell ⟨w.heap.size, 0, none⟩ u1).setCell ⟨w.heap.size, 1, none⟩ u2).ownsRow w.heap.size 30 7 u5 pre.length (tksC pre)) := by
        intro u1 u2
        have hne : ∀ g, u5.ownBlock = some g → g ≠ w.heap.size := fun g hg => by
          have := (hown.out.lt g hg).1
          have := HR6.out.lt
          omega
        exact owns_set_ne (owns_set_ne (owns_mono hown.out HB6.out.size) (a := ⟨w.heap.size, 0, none⟩) hne u1) (a := ⟨w.heap.size, 1, none⟩) hne u2
      clear hsc hlt hae
      go_wp2
      exact bodyPost_ret (v := .tuple #[u5, faultV 0 0]) (by simp [results, Tryz.results14, go_sem, faultV, rc0, rc1]) rfl ⟨_, _, rfl, (HBr.out.setCell (Nat.le_refl _) _).setCell (Nat.le_refl _) _, by show AllPost _ _ _ _ _; unfold AllPost; rw [HE.out]; exact ⟨rfl, HPL.out, HV.out _ _⟩⟩

set_option maxRecDepth 100000 in
set_option maxHeartbeats 4000000 in
theorem rAll_bad (s : ByteArray) (e a : Int) (hc' : chk s = (e, a)) (he : e ≠ 0) (w : World) :
    Calls Tryz.prog 14 #[.string s] w fun r W' => r = .returned (.tuple #[.slice none 0 0, faultV e a]) ∧ Below w.heap.size w W' := by
  have hc : Hid (chk s = (e, a)) := hc'
  clear hc'
  have hdep : Tryz.prog.follows Departure.mixedOrders = true := by kernel_rfl
  have hez : (e == 0) = false := beq_eq_false_iff_ne.2 he
  have hB0 : Hid (Below w.heap.size w (w.alloc (.cells #[.int .i64 0, .int .i64 0] 26))) := (Below.refl _ w).alloc (Nat.le_refl _) _
  go_enter Tryz.func14, Tryz.ntmps14
  go_wp2_with (go_at_call 37; fail)
  refine (refCheck_c s _).mono ?_
  rintro r w1 ⟨rfl, hb⟩
  rw [hc.out]
  have q0 : Hid (Blk w1 w.heap.size #[.int .i64 0, .int .i64 0] 26) := (Blk.new w _ _).below hb
  obtain ⟨ac0, ac1, af0, af1⟩ := q0.out.all2
  have hB1 : Hid (Below w.heap.size w w1) := hB0.out.trans (hb.mono hB0.out.size)
  have hsz : w.heap.size < w1.heap.size := by have := hb.size; simp at this; omega
  have hne : w.heap.size ≠ w1.heap.size := by omega
  clear hb
  go_wp2
  go_region
  all_goals go_wp2
  all_goals have z := (((q0.out.set 0 (.int .i64 e)).set 1 (.int .i64 a)).alloc (.cells #[.int .i64 e, .int .i64 a] 26)).all2
  all_goals exact bodyPost_ret (v := .tuple #[.slice none 0 0, faultV e a]) (by simp [results, Tryz.results14, go_sem, faultV, z.1, z.2.1]) rfl ⟨rfl, by
    refine Below.drew ?_
    refine Below.alloc ?_ (by simp; omega) _
    refine Below.setCell ?_ (by simp) _
    refine Below.setCell ?_ (by simp) _
    exact hB1.out⟩

theorem rAll_inr (s : ByteArray) (ts : List M.Tk) (hs : s.size ≤ 70000) (hc : chk s = (0, 0)) (hts : M.scanAll s.data.toList = .inr ts) (w : World) :
    Calls Tryz.prog 14 #[.string s] w fun r W' => ∃ v, r = .returned (.tuple #[v, .agg #[.int .i64 0, .int .i64 0]]) ∧ ts.length ≤ s.size ∧ Hid (W'.ownsRow w.heap.size 30 7 v ts.length (tksC ts)) ∧ Below w.heap.size w W' := by
  refine (rAll_c s hs hc w).mono ?_
  rintro r W' ⟨v, f, rfl, hb, hp⟩
  have hp' : AllPost s w W' v f := hp
  unfold AllPost at hp'
  rw [hts] at hp'
  obtain ⟨rfl, h1, h2⟩ := hp'
  exact ⟨v, rfl, h1, h2, hb⟩
theorem rAll_inl (s : ByteArray) (a : Nat) (hs : s.size ≤ 70000) (hc : chk s = (0, 0)) (hts : M.scanAll s.data.toList = .inl a) (w : World) :
    Calls Tryz.prog 14 #[.string s] w fun r W' => r = .returned (.tuple #[.slice none 0 0, .agg #[.int .i64 4, .int .i64 (a : Int)]]) ∧ Below w.heap.size w W' := by
  refine (rAll_c s hs hc w).mono ?_
  rintro r W' ⟨v, f, rfl, hb, hp⟩
  have hp' : AllPost s w W' v f := hp
  unfold AllPost at hp'
  rw [hts] at hp'
  obtain ⟨rfl, rfl⟩ := hp'
  exact ⟨rfl, hb⟩

end Go.Proofs.YtpidccdgkkcljaaGreatDoor
