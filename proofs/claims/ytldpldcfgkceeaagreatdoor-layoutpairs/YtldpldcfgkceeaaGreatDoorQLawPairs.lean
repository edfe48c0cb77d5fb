/-
  The law LayoutPairs, walked.
-/
import Derived.Test.YtldpldcfgkceeaaGreatDoorQPairH
namespace Go.Proofs.YtldpldcfgkceeaaGreatDoor
open Go.RowKit Go.Shelf Go.Maps
set_option linter.unusedVariables false

set_option maxRecDepth 100000 in
set_option maxHeartbeats 4000000 in
theorem lawPairs_long (s : ByteArray) (hs : 1000 < s.size) (w : World) (hG : GOK w) :
    Calls Tryz.prog 7 #[.string s] w fun e W' => e = .returned (.bool true) ∧ Below w.heap.size w W' := by
  have HG : Hid (GOK w) := hG
  have hsi : (1000 : Int) < s.size := by omega
  clear hG
  go_enter Tryz.func7, Tryz.ntmps7
  go_wp2_with (go_at_call 10; refine (lives_c _ HG.out).mono ?_; rintro r w1 ⟨rfl, hb⟩)
  go_ret
  exact ⟨rfl, hb⟩

set_option maxRecDepth 100000 in
set_option maxHeartbeats 4000000 in
theorem lawPairs_fault (s : ByteArray) (hs : s.size ≤ 1000) (e a : Int) (he : e ≠ 0) (hA' : ∀ w : World, GOK w → Calls Tryz.prog 8 #[.string s] w fun r W' => r = .returned (.tuple #[.slice none 0 0, .agg #[.int .i64 e, .int .i64 a]]) ∧ Below w.heap.size w W') (w : World) (hG : GOK w) :
    Calls Tryz.prog 7 #[.string s] w fun e W' => e = .returned (.bool true) ∧ Below w.heap.size w W' := by
  have HG : Hid (GOK w) := hG
  have HA : Hid _ := hA'
  have hsi : (s.size : Int) ≤ 1000 := by omega
  have hez : (e == 0) = false := beq_eq_false_iff_ne.2 he
  clear hG hA'
  go_enter Tryz.func7, Tryz.ntmps7
  go_wp2_with (first
    | (go_at_call 10; refine (lives_c _ HG.out).mono ?_; rintro r w1 ⟨rfl, hb⟩; have HB1 : Hid (Below w.heap.size w w1) := hb; clear hb)
    | (go_at_call 8; refine (HA.out _ (HG.out.below HB1.out)).mono ?_; rintro r w2 ⟨rfl, hb2⟩; have HB2 : Hid (Below w.heap.size w w2) := HB1.out.trans (hb2.mono HB1.out.size); clear hb2))
  go_ret
  exact ⟨rfl, HB2.out.alloc HB2.out.size _⟩

set_option maxRecDepth 100000 in
set_option maxHeartbeats 4000000 in
theorem lawPairs_bad (s : ByteArray) (hs : s.size ≤ 1000) (hc : chk s = (0, 0)) (ts : List M.Tk) (hts : M.scanAll s.data.toList = .inr ts) (a : Nat) (hx : L.all ts s.size = .inl a) (w : World) (hG : GOK w) :
    Calls Tryz.prog 7 #[.string s] w fun e W' => e = .returned (.bool true) ∧ Below w.heap.size w W' := by
  have hdep : Tryz.prog.follows Departure.mixedOrders = true := by kernel_rfl
  have HG : Hid (GOK w) := hG
  have HP := all_placed _ _ hts
  rw [← Lib.size_eq] at HP
  have hlen : ts.length ≤ s.size := placed_len _ _ HP
  have hal : a ≤ s.size := L.all_place ts s.size a (fun t ht => by obtain ⟨i, hi, rfl⟩ := List.getElem_of_mem ht; have := (HP i hi).2.1; omega) hx
  have HA : Hid (∀ (w : World), GOK w → Calls Tryz.prog 8 #[.string s] w fun r W' => ∃ v, r = .returned (.tuple #[v, .agg #[.int .i64 0, .int .i64 0]]) ∧ Hid (W'.ownsRow w.heap.size 43 7 v ts.length (tksC ts)) ∧ Below w.heap.size w W') := fun w hG => all_inr s ts (by omega) hc hts w hG
  have HL : Hid (∀ (v : Value) (b : Nat) (w : World), w.ownsRow b 43 7 v ts.length (tksC ts) → Calls Tryz.prog 9 #[v, .int .i64 (s.size : Int)] w fun r W' => r = .returned (.tuple #[.slice none 0 0, .agg #[.int .i64 5, .int .i64 (a : Int)]]) ∧ Below w.heap.size w W') := fun v b w h => layAll_inl ts s.size b v a hx (by omega) w h
  have hsi : (s.size : Int) ≤ 1000 := by omega
  have hai : (a : Int) ≤ (s.size : Int) := by omega
  clear hG hc hts HP hx hlen
  go_enter Tryz.func7, Tryz.ntmps7
  go_wp2_with (first
    | (go_at_call 10; refine (lives_c _ HG.out).mono ?_; rintro r w1 ⟨rfl, hb⟩; have HB1 : Hid (Below w.heap.size w w1) := hb; clear hb)
    | (go_at_call 8; refine (HA.out _ (HG.out.below HB1.out)).mono ?_; rintro r w2 ⟨v, rfl, hrow, hb2⟩; have HB2 : Hid (Below w.heap.size w w2) := HB1.out.trans (hb2.mono HB1.out.size); clear hb2)
    | (go_at_call 9; fail))
  refine (HL.out v _ _ (hrow.out.alloc _)).mono ?_
  rintro r w3 ⟨rfl, hb3⟩
  have HB3 : Hid (Below w.heap.size w w3) := (HB2.out.alloc HB2.out.size _).trans (hb3.mono (by have := HB2.out.size; simp; omega))
  clear hb3 HA HL hrow
  go_wp2
  go_ret
  exact ⟨rfl, HB3.out.alloc HB3.out.size _⟩

theorem Tryz.infoBool : (Tryz.prog.info? 4).map (fun i => (i.zero, i.size, i.bytes)) = some (some (.bool false), 1, 1) := by kernel_rfl
theorem lays_some (ts : List M.Tk) (e : Nat) (xs : List L.Lx) (h : L.all ts e = .inr xs) : 0 < xs.length := by
  rcases Nat.eq_zero_or_pos xs.length with h0 | h0
  · obtain rfl : xs = [] := List.length_eq_zero_iff.1 h0
    have := (L.all_pairs ts e [] h).2.1
    simp at this
    subst this
    have h2 : L.all [] e = .inr [L.impl e [] [123], L.impl e [] [125]] := rfl
    rw [h2] at h
    simp at h
  · exact h0

set_option maxRecDepth 100000 in
set_option maxHeartbeats 8000000 in
theorem lawPairs_ok (s : ByteArray) (hs : s.size ≤ 1000) (hc : chk s = (0, 0)) (ts : List M.Tk) (hts : M.scanAll s.data.toList = .inr ts) (xs : List L.Lx) (hx : L.all ts s.size = .inr xs) (w : World) (hG : GOK w) :
    Calls Tryz.prog 7 #[.string s] w fun e W' => e = .returned (.bool true) ∧ Below w.heap.size w W' := by
  have hdep : Tryz.prog.follows Departure.mixedOrders = true := by kernel_rfl
  have HG : Hid (GOK w) := hG
  have HP := all_placed _ _ hts
  rw [← Lib.size_eq] at HP
  have hlen : ts.length ≤ s.size := placed_len _ _ HP
  have HA : Hid (∀ (w : World), GOK w → Calls Tryz.prog 8 #[.string s] w fun r W' => ∃ v, r = .returned (.tuple #[v, .agg #[.int .i64 0, .int .i64 0]]) ∧ Hid (W'.ownsRow w.heap.size 43 7 v ts.length (tksC ts)) ∧ Below w.heap.size w W') := fun w hG => all_inr s ts (by omega) hc hts w hG
  have HL : Hid (∀ (v : Value) (b : Nat) (w : World), w.ownsRow b 43 7 v ts.length (tksC ts) → Calls Tryz.prog 9 #[v, .int .i64 (s.size : Int)] w fun r W' => ∃ v', r = .returned (.tuple #[v', .agg #[.int .i64 0, .int .i64 0]]) ∧ Hid (W'.ownsRow w.heap.size 45 8 v' xs.length (lxsC xs)) ∧ Below w.heap.size w W') := fun v b w h => layAll_inr ts s.size b v xs hx (by omega) w h
  have hsi : (s.size : Int) ≤ 1000 := by omega
  obtain ⟨hpr, hot, hxl⟩ := L.all_pairs ts s.size xs hx
  obtain ⟨m, hm⟩ : ∃ m, xs.length = m + 1 := ⟨xs.length - 1, by have := lays_some ts s.size xs hx; omega⟩
  have HM : Hid (xs.length = m + 1) := hm
  have HM2 : Hid (m ≤ 5100 ∧ ts.length ≤ 5000) := ⟨by omega, by omega⟩
  have HPr : Hid (xs.foldl L.brStep (some []) = some []) := hpr
  have HOt : Hid (L.ownT xs (m + 1) = ts) := by show _ = _; unfold L.ownT; rw [← hm, List.take_length]; exact hot
  obtain ⟨it, hit0, hzt0, hzt1, hzt2⟩ := info_parts Tryz.infoTok
  obtain ⟨ib, hib0, hzb0, hzb1, hzb2⟩ := info_parts Tryz.infoBool
  clear hG hc hts HP hx hlen hpr hot hxl hm hs
  go_enter Tryz.func7, Tryz.ntmps7
  go_wp2_with (first
    | (go_at_call 10; refine (lives_c _ HG.out).mono ?_; rintro r w1 ⟨rfl, hb⟩; have HB1 : Hid (Below w.heap.size w w1) := hb; clear hb)
    | (go_at_call 8; refine (HA.out _ (HG.out.below HB1.out)).mono ?_; rintro r w2 ⟨v, rfl, hrow, hb2⟩; have HB2 : Hid (Below w.heap.size w w2) := HB1.out.trans (hb2.mono HB1.out.size); clear hb2)
    | (go_at_call 9; fail))
  refine (HL.out v _ _ (hrow.out.alloc _)).mono ?_
  rintro r w3 ⟨v', rfl, hrow3, hb3⟩
  have HB3 : Hid (Below w.heap.size w w3) := (HB2.out.alloc HB2.out.size _).trans (hb3.mono (by have := HB2.out.size; simp; omega))
  have hl3 : Hid (w3.ownsRow w1.heap.size 43 7 v ts.length (tksC ts)) := owns_below (hrow.out.alloc _) hb3
  have hr3 := hrow3.out
  rw [HM.out] at hr3
  obtain ⟨gt, capt, rfl⟩ := ownsRow_succ' hr3
  have hgt : gt < w3.heap.size := (hrow3.out.lt gt rfl).2
  clear hb3 HA HL hrow hr3 HB2 HB1
  go_wp2
  obtain ⟨W2, hW2⟩ : ∃ W2, W2 = w3.alloc (.cells #[.int .i64 0, .int .i64 0] 25) := ⟨_, rfl⟩
  have HBW : Hid (Below w.heap.size w W2) := by rw [hW2]; exact HB3.out.alloc HB3.out.size _
  have hrow4 : Hid (∃ b, W2.ownsRow b 45 8 (.slice (some ⟨gt, 0, none⟩) (m + 1) capt) xs.length (lxsC xs)) := by rw [hW2]; exact ⟨_, hrow3.out.alloc _⟩
  have hl4 : Hid (W2.ownsRow w1.heap.size 43 7 v ts.length (tksC ts)) := by rw [hW2]; exact hl3.out.alloc _
  have hgt2 : gt < W2.heap.size := by rw [hW2]; simp; omega
  rw [← hW2]
  clear hW2 hrow3 hl3 hgt HB3
  go_loopw [7, 8, 9] (fun ov pv i wr => ∃ (k : Nat) (ov' pv' : Value) (o : List Bool), k ≤ m + 1 ∧ i = .int .i64 k ∧ ov' = ov ∧ pv' = pv ∧ Hid (L.opn xs k = some o) ∧ Hid (o.length ≤ k) ∧ Hid ((L.ownT xs k).length ≤ k) ∧ Hid (P2 W2 wr (L.ownT xs k) o ov' pv')) (fun _ _ i _ => m + 1 - (intOf i).toNat)
  case atStart => exact ⟨0, _, _, [], Nat.zero_le _, rfl, rfl, rfl, rfl, Nat.le_refl _, Nat.le_refl _, World.ownsRow_nil _ _ _ _, World.ownsRow_nil _ _ _ _, .inl rfl, Below.refl _ _⟩
  case round =>
    obtain ⟨k, ov, pv, o, hk, rfl, hov, hpv, hop, hol, hwl, hP⟩ := hrel
    subst hov hpv
    by_cases hlt : k < m + 1
    · have hkL : k < xs.length := by rw [HM.out]; exact hlt
      have hki : (k : Int) < (m : Int) + 1 := by omega
      have hk5 : (k : Int) ≤ 5100 := by have := HM2.out; omega
      have hB : Hid (Below W2.heap.size W2 wr) := hP.out.2.2.2
      obtain ⟨br, hrow5⟩ := hrow4.out
      have hcell := fun q hq u hu => (hB.out.cell (p := ⟨gt, k * 8 + q, none⟩) hgt2).trans (lxs_cell HM.out hrow5 k hkL q hq u hu)
      have c0 := hcell 0 (by omega) _ rfl
      rw [Nat.add_zero] at c0
      have c1 := hcell 1 (by omega) _ rfl
      have c2 := hcell 2 (by omega) _ rfl
      have c3 := hcell 3 (by omega) _ rfl
      have c4 := hcell 4 (by omega) _ rfl
      have c5 := hcell 5 (by omega) _ rfl
      have c6 := hcell 6 (by omega) _ rfl
      have c7 := hcell 7 (by omega) _ rfl
      obtain ⟨o2, ho2⟩ := L.opn_some xs HPr.out (k + 1) (by rw [HM.out]; omega)
      have hst := L.opn_succ xs k hkL
      rw [ho2, hop.out] at hst
      have hcs := L.br_step_cases o o2 xs[k] hst.symm
      have hos := L.ownT_succ xs k hkL
      have HO2 : Hid (L.opn xs (k + 1) = some o2) := ho2
      generalize xs[k] = t at c0 c1 c2 c3 c4 c5 c6 c7 hcs hos
      obtain ⟨⟨⟨tk, tt, tn⟩, pos, line, col, first⟩, imp⟩ := t
      simp only at c0 c1 c2 c3 c4 c5 c6 c7 hcs hos
      have HOs : Hid (L.ownT xs (k + 1) = L.ownT xs k ++ (if imp = true then [] else [⟨⟨tk, tt, tn⟩, pos, line, col, first⟩])) := hos
      have hgr : gt < wr.heap.size := by have := hB.out.size; omega
      have hc7 : ∀ W : World, Below W2.heap.size W2 W → W.cell? ⟨gt, k * 8 + 7, none⟩ = some (.bool imp) := fun W hW => (hW.cell (p := ⟨gt, k * 8 + 7, none⟩) hgt2).trans ((hB.out.cell (p := ⟨gt, k * 8 + 7, none⟩) hgt2).symm.trans c7)
      clear hcell hrow5 hst ho2 hos hop hkL hB
      have HB2' : Hid (W2.heap.size ≤ wr.heap.size) := hP.out.2.2.2.size
      generalize L.ownT xs k = ow at hwl hP HOs
      have HC7 : Hid (∀ W : World, Below W2.heap.size W2 W → W.cell? ⟨gt, k * 8 + 7, none⟩ = some (.bool imp)) := hc7
      obtain ⟨oo0, oc0, hov0⟩ := owns_form hP.out.1
      obtain ⟨po, pc, hpv0⟩ := owns_form hP.out.2.1
      subst hov0 hpv0
      rcases hcs with ⟨h1, h2⟩ | ⟨h1, h2, h3⟩ | ⟨h1, h2, h3⟩ | ⟨h1, h2, h3, h4⟩
      · subst h2
        have hki8 : ((tk : Int) == 8) = false := beq_eq_false_iff_ne.2 (by omega)
        cases imp
        · go_wp2_with ((at_builtin; refine wpList_append_own_at _ rfl _ _ 22 rfl W2.heap.size 43 it _ 7 64 Tryz.underlying22 hit0 hzt0 hzt1 hzt2 rfl (by decide) _ _ _ rfl ((hP.out.1.alloc _).alloc _) ⟨wr.heap.size + 1, 0, none⟩ 1 1 [.int .i64 (tk : Int), .string (bs tt), .int .i64 (tn : Int), .int .i64 (pos : Int), .int .i64 (line : Int), .int .i64 (col : Int), .bool first] rfl rfl (cells_new1 _ _ _ _) (by simp [Value.oneCell']) (by have := hwl.out; unfold maxLen; omega) (by have := hwl.out; omega) (by have := HB2'.out; simp; omega) ?_; intro o' w4 hown4 hgrow4 hnil4 hat4; obtain ⟨oo, oc, hv'⟩ := owns_form hown4; subst hv'; have hP4 : Hid (P2 W2 w4 (ow ++ [⟨⟨tk, tt, tn⟩, pos, line, col, first⟩]) o2 (.slice oo (ow.length + 1) oc) (.slice po o2.length pc)) := hP.out.own (t := ⟨⟨tk, tt, tn⟩, pos, line, col, first⟩) (((Below.refl _ wr).alloc (Nat.le_refl _) _).alloc (by simp) _) hgrow4 hown4 hat4; have hT4 : Hid (Blk w4 wr.heap.size #[.int .i64 (tk : Int), .string (bs tt), .int .i64 (tn : Int), .int .i64 (pos : Int), .int .i64 (line : Int), .int .i64 (col : Int), .bool first] 43) := (by show Blk _ _ _ _; unfold Blk; rw [hgrow4.block wr.heap.size (by simp; omega) (fun e => by have := (hP.out.1.lt _ e.symm).2; omega)]; exact (Blk.new wr _ _).alloc _); have d7 := HC7.out w4 hP4.out.2.2.2; have hgr4 : gt < w4.heap.size := (by have := hP4.out.2.2.2.size; omega); obtain ⟨y0, y1, y2, y3, y4, y5, y6, -, -, -, -, -, -, -⟩ := hT4.out.all7; clear hown4 hgrow4 hnil4 hat4 c0 c1 c2 c3 c4 c5 c6 c7))
          go_roundw
          case rel => exact ⟨k + 1, _, _, _, by omega, by go_num, rfl, rfl, HO2, by have := hol.out; show _ ≤ _; omega, by rw [HOs.out]; have := hwl.out; show (ow ++ [_]).length ≤ _; rw [List.length_append]; exact Nat.succ_le_succ this, by rw [HOs.out]; show P2 _ _ (ow ++ [⟨⟨tk, tt, tn⟩, pos, line, col, first⟩]) _ _ _; exact hP4.out⟩
          case measure => simp [intOf]; omega
        · go_wp2_with (fail)
          go_roundw
          case rel => exact ⟨k + 1, _, _, _, by omega, by go_num, rfl, rfl, HO2, by have := hol.out; show _ ≤ _; omega, by rw [HOs.out]; have := hwl.out; show _ ≤ _; simp only [if_true, List.append_nil]; omega, by rw [HOs.out]; show P2 _ _ (ow ++ []) _ _ _; rw [List.append_nil]; exact hP.out.below ((Below.refl _ wr).alloc (Nat.le_refl _) _)⟩
          case measure => simp [intOf]; omega
      · subst h1 h2 h3
        have e1 : ((bs [123]).toList == [123]) = true := by rw [bs_beqL]; decide
        have e2 : ((bs [123]).toList == [125]) = false := by rw [bs_beqL]; decide
        cases imp
        · go_wp2_with (first
            | (at_builtin; refine wpList_append_own_at _ rfl _ _ 22 rfl W2.heap.size 43 it _ 7 64 Tryz.underlying22 hit0 hzt0 hzt1 hzt2 rfl (by decide) _ _ _ rfl ((hP.out.1.alloc _).alloc _) ⟨wr.heap.size + 1, 0, none⟩ 1 1 [.int .i64 8, .string (bs [123]), .int .i64 (tn : Int), .int .i64 (pos : Int), .int .i64 (line : Int), .int .i64 (col : Int), .bool first] rfl rfl (cells_new1 _ _ _ _) (by simp [Value.oneCell']) (by have := hwl.out; unfold maxLen; omega) (by have := hwl.out; omega) (by have := HB2'.out; simp; omega) ?_; intro o' w4 hown4 hgrow4 hnil4 hat4; obtain ⟨oo, oc, hv'⟩ := owns_form hown4; subst hv'; have hP4 : Hid (P2 W2 w4 (ow ++ [⟨⟨8, [123], tn⟩, pos, line, col, first⟩]) o (.slice oo (ow.length + 1) oc) (.slice po o.length pc)) := hP.out.own (t := ⟨⟨8, [123], tn⟩, pos, line, col, first⟩) (((Below.refl _ wr).alloc (Nat.le_refl _) _).alloc (by simp) _) hgrow4 hown4 hat4; have hT4 : Hid (Blk w4 wr.heap.size #[.int .i64 8, .string (bs [123]), .int .i64 (tn : Int), .int .i64 (pos : Int), .int .i64 (line : Int), .int .i64 (col : Int), .bool first] 43) := (by show Blk _ _ _ _; unfold Blk; rw [hgrow4.block wr.heap.size (by simp; omega) (fun e => by have := (hP.out.1.lt _ e.symm).2; omega)]; exact (Blk.new wr _ _).alloc _); have d7 := HC7.out w4 hP4.out.2.2.2; have hgr4 : gt < w4.heap.size := (by have := hP4.out.2.2.2.size; omega); obtain ⟨y0, y1, y2, y3, y4, y5, y6, -, -, -, -, -, -, -⟩ := hT4.out.all7; clear hown4 hgrow4 hnil4 hat4 c0 c1 c2 c3 c4 c5 c6 c7)
            | (at_builtin; refine wpList_append_own_at _ rfl _ _ 59 rfl W2.heap.size 4 ib (.bool false) 1 1 Tryz.underlying59 hib0 hzb0 hzb1 hzb2 rfl (by decide) _ _ _ rfl (hP4.out.2.1.alloc _) ⟨w4.heap.size, 0, none⟩ 1 1 [.bool false] rfl rfl (cell_one_new _ _ _) (by simp [Value.oneCell']) (by have := hol.out; unfold maxLen; omega) (by have := hol.out; omega) (by have := hP4.out.2.2.2.size; simp; omega) ?_; intro o' w5 hown5 hgrow5 hnil5 hat5; obtain ⟨oo5, oc5, hv'⟩ := owns_form hown5; subst hv'; have hP5 : Hid (P2 W2 w5 (ow ++ [⟨⟨8, [123], tn⟩, pos, line, col, first⟩]) (o ++ [false]) (.slice oo (ow.length + 1) oc) (.slice oo5 (o.length + 1) oc5)) := hP4.out.opn ((Below.refl _ w4).alloc (Nat.le_refl _) _) hgrow5 hown5 hat5; have hT5 : Hid (Blk w5 wr.heap.size #[.int .i64 8, .string (bs [123]), .int .i64 (tn : Int), .int .i64 (pos : Int), .int .i64 (line : Int), .int .i64 (col : Int), .bool first] 43) := (by show Blk _ _ _ _; unfold Blk; rw [hgrow5.block wr.heap.size (by have := hT4.out.lt; simp; omega) (fun e => by have := (hP.out.2.1.lt _ e.symm).2; omega)]; exact hT4.out.alloc _); obtain ⟨z0, z1, z2, z3, z4, z5, z6, -, -, -, -, -, -, -⟩ := hT5.out.all7; clear hown5 hgrow5 hnil5 hat5))
          go_roundw
          case rel => exact ⟨k + 1, _, _, _, by omega, by go_num, rfl, rfl, HO2, by have := hol.out; show (o ++ [_]).length ≤ _; rw [List.length_append]; exact Nat.succ_le_succ this, by rw [HOs.out]; have := hwl.out; show (ow ++ [_]).length ≤ _; rw [List.length_append]; exact Nat.succ_le_succ this, by rw [HOs.out]; show P2 _ _ (ow ++ [⟨⟨8, [123], tn⟩, pos, line, col, first⟩]) _ _ _; exact hP5.out⟩
          case measure => simp [intOf]; omega
        · go_wp2_with ((at_builtin; refine wpList_append_own_at _ rfl _ _ 59 rfl W2.heap.size 4 ib (.bool false) 1 1 Tryz.underlying59 hib0 hzb0 hzb1 hzb2 rfl (by decide) _ _ _ rfl ((hP.out.2.1.alloc _).alloc _) ⟨wr.heap.size + 1, 0, none⟩ 1 1 [.bool true] rfl rfl (cells_new1 _ _ _ _) (by simp [Value.oneCell']) (by have := hol.out; unfold maxLen; omega) (by have := hol.out; omega) (by have := HB2'.out; simp; omega) ?_; intro o' w5 hown5 hgrow5 hnil5 hat5; obtain ⟨oo5, oc5, hv'⟩ := owns_form hown5; subst hv'; have hP5 : Hid (P2 W2 w5 ow (o ++ [true]) (.slice oo0 ow.length oc0) (.slice oo5 (o.length + 1) oc5)) := hP.out.opn (((Below.refl _ wr).alloc (Nat.le_refl _) _).alloc (by simp) _) hgrow5 hown5 hat5; have hT5 : Hid (Blk w5 wr.heap.size #[.int .i64 8, .string (bs [123]), .int .i64 (tn : Int), .int .i64 (pos : Int), .int .i64 (line : Int), .int .i64 (col : Int), .bool first] 43) := (by show Blk _ _ _ _; unfold Blk; rw [hgrow5.block wr.heap.size (by simp; omega) (fun e => by have := (hP.out.2.1.lt _ e.symm).2; omega)]; exact (Blk.new wr _ _).alloc _); obtain ⟨z0, z1, z2, z3, z4, z5, z6, -, -, -, -, -, -, -⟩ := hT5.out.all7; clear hown5 hgrow5 hnil5 hat5))
          go_roundw
          case rel => exact ⟨k + 1, _, _, _, by omega, by go_num, rfl, rfl, HO2, by have := hol.out; show (o ++ [_]).length ≤ _; rw [List.length_append]; exact Nat.succ_le_succ this, by rw [HOs.out]; have := hwl.out; show _ ≤ _; simp only [if_true, List.append_nil]; omega, by rw [HOs.out]; show P2 _ _ (ow ++ []) _ _ _; rw [List.append_nil]; exact hP5.out⟩
          case measure => simp [intOf]; omega
      · subst h1 h2
        have e1 : ((bs [125]).toList == [123]) = false := by rw [bs_beqL]; decide
        have e2 : ((bs [125]).toList == [125]) = true := by rw [bs_beqL]; decide
        have hlen : o.length = o2.length + 1 := by rw [h3]; simp
        obtain ⟨n, hn⟩ : ∃ n, o2.length = n := ⟨_, rfl⟩
        have hq := hP.out.2.1
        rw [hlen, hn] at hq
        obtain ⟨g, cap, hh⟩ := ownsRow_succ' hq
        simp only [Value.slice.injEq] at hh
        obtain ⟨rfl, -, rfl⟩ := hh
        have hP' := hP.out
        rw [hlen, hn] at hP' ⊢
        have hOl : Hid (n ≤ k) := by have := hol.out; show _ ≤ _; omega
        have hpc : n + 1 ≤ pc := cap_ge hP'.2.1
        have q1 : (((n : Int) + 1) == 0) = false := beq_eq_false_iff_ne.2 (by omega)
        have q2 : (((n + 1 : Nat) : Int) == 0) = false := beq_eq_false_iff_ne.2 (by omega)
        have q3 : decide ((n : Int) + 1 = 0) = false := decide_eq_false (by omega)
        have q4 : ¬ ((n : Int) + 1 = 0) := by omega
        have hn5 : (n : Int) ≤ 5100 := by have := hOl.out; omega
        rw [h3] at hP'
        have HN : Hid (o2.length = n) := hn
        have hlast : wr.cell? ⟨g, n, none⟩ = some (.bool imp) := ownsRow_last hn hP'.2.1
        have hgl : g < wr.heap.size := (hP'.2.1.lt g rfl).2
        clear hP hq hlen hn
        have hP : Hid (P2 W2 wr ow (o2 ++ [imp]) (.slice oo0 ow.length oc0) (.slice (some ⟨g, 0, none⟩) (n + 1) pc)) := hP'
        clear hP' hol h3
        cases imp
        · go_wp2_with ((at_builtin; refine wpList_append_own_at _ rfl _ _ 22 rfl W2.heap.size 43 it _ 7 64 Tryz.underlying22 hit0 hzt0 hzt1 hzt2 rfl (by decide) _ _ _ rfl ((hP.out.1.alloc _).alloc _) ⟨wr.heap.size + 1, 0, none⟩ 1 1 [.int .i64 8, .string (bs [125]), .int .i64 (tn : Int), .int .i64 (pos : Int), .int .i64 (line : Int), .int .i64 (col : Int), .bool first] rfl rfl (cells_new1 _ _ _ _) (by simp [Value.oneCell']) (by have := hwl.out; unfold maxLen; omega) (by have := hwl.out; omega) (by have := HB2'.out; simp; omega) ?_; intro o' w4 hown4 hgrow4 hnil4 hat4; obtain ⟨oo, oc, hv'⟩ := owns_form hown4; subst hv'; have hP4 : Hid (P2 W2 w4 (ow ++ [⟨⟨8, [125], tn⟩, pos, line, col, first⟩]) (o2 ++ [false]) (.slice oo (ow.length + 1) oc) (.slice (some ⟨g, 0, none⟩) (n + 1) pc)) := hP.out.own (t := ⟨⟨8, [125], tn⟩, pos, line, col, first⟩) (((Below.refl _ wr).alloc (Nat.le_refl _) _).alloc (by simp) _) hgrow4 hown4 hat4; have hT4 : Hid (Blk w4 wr.heap.size #[.int .i64 8, .string (bs [125]), .int .i64 (tn : Int), .int .i64 (pos : Int), .int .i64 (line : Int), .int .i64 (col : Int), .bool first] 43) := (by show Blk _ _ _ _; unfold Blk; rw [hgrow4.block wr.heap.size (by simp; omega) (fun e => by have := (hP.out.1.lt _ e.symm).2; omega)]; exact (Blk.new wr _ _).alloc _); have d7 := HC7.out w4 hP4.out.2.2.2; have hgr4 : gt < w4.heap.size := (by have := hP4.out.2.2.2.size; omega); obtain ⟨y0, y1, y2, y3, y4, y5, y6, -, -, -, -, -, -, -⟩ := hT4.out.all7; clear hown4 hgrow4 hnil4 hat4 c0 c1 c2 c3 c4 c5 c6 c7))
          have hl4 : w4.cell? ⟨g, n, none⟩ = some (.bool false) := ownsRow_last HN.out hP4.out.2.1
          have hg4 : g < w4.heap.size := (hP4.out.2.1.lt g rfl).2
          go_big_quiet (fail)
          go_wp2
          go_roundw
          case rel => exact ⟨k + 1, _, _, _, by omega, by go_num, rfl, rfl, HO2, by have h1 := hOl.out; have h2 := HN.out; show _ ≤ _; omega, by rw [HOs.out]; have := hwl.out; show (ow ++ [_]).length ≤ _; rw [List.length_append]; exact Nat.succ_le_succ this, by rw [HOs.out]; show P2 _ _ (ow ++ [⟨⟨8, [125], tn⟩, pos, line, col, first⟩]) _ _ _; exact (P2.pop HN.out hP4.out).below ⟨rfl, rfl, rfl, Nat.le_refl _, fun _ _ => rfl⟩⟩
          case measure => simp [intOf]; omega
        · go_wp2_with (fail)
          go_big_quiet (fail)
          go_wp2
          go_roundw
          case rel => exact ⟨k + 1, _, _, _, by omega, by go_num, rfl, rfl, HO2, by have h1 := hOl.out; have h2 := HN.out; show _ ≤ _; omega, by rw [HOs.out]; have := hwl.out; show _ ≤ _; simp only [if_true, List.append_nil]; omega, by rw [HOs.out]; show P2 _ _ (ow ++ []) _ _ _; rw [List.append_nil]; exact ((P2.pop HN.out hP.out).below ((Below.refl _ wr).alloc (Nat.le_refl _) _)).below ⟨rfl, rfl, rfl, Nat.le_refl _, fun _ _ => rfl⟩⟩
          case measure => simp [intOf]; omega
      · subst h1 h4
        have e1 : ((bs tt).toList == [123]) = false := by rw [bs_beqL]; exact decide_eq_false h2
        have e2 : ((bs tt).toList == [125]) = false := by rw [bs_beqL]; exact decide_eq_false h3
        clear h2 h3
        cases imp
        · go_wp2_with ((at_builtin; refine wpList_append_own_at _ rfl _ _ 22 rfl W2.heap.size 43 it _ 7 64 Tryz.underlying22 hit0 hzt0 hzt1 hzt2 rfl (by decide) _ _ _ rfl ((hP.out.1.alloc _).alloc _) ⟨wr.heap.size + 1, 0, none⟩ 1 1 [.int .i64 8, .string (bs tt), .int .i64 (tn : Int), .int .i64 (pos : Int), .int .i64 (line : Int), .int .i64 (col : Int), .bool first] rfl rfl (cells_new1 _ _ _ _) (by simp [Value.oneCell']) (by have := hwl.out; unfold maxLen; omega) (by have := hwl.out; omega) (by have := HB2'.out; simp; omega) ?_; intro o' w4 hown4 hgrow4 hnil4 hat4; obtain ⟨oo, oc, hv'⟩ := owns_form hown4; subst hv'; have hP4 : Hid (P2 W2 w4 (ow ++ [⟨⟨8, tt, tn⟩, pos, line, col, first⟩]) o2 (.slice oo (ow.length + 1) oc) (.slice po o2.length pc)) := hP.out.own (t := ⟨⟨8, tt, tn⟩, pos, line, col, first⟩) (((Below.refl _ wr).alloc (Nat.le_refl _) _).alloc (by simp) _) hgrow4 hown4 hat4; have hT4 : Hid (Blk w4 wr.heap.size #[.int .i64 8, .string (bs tt), .int .i64 (tn : Int), .int .i64 (pos : Int), .int .i64 (line : Int), .int .i64 (col : Int), .bool first] 43) := (by show Blk _ _ _ _; unfold Blk; rw [hgrow4.block wr.heap.size (by simp; omega) (fun e => by have := (hP.out.1.lt _ e.symm).2; omega)]; exact (Blk.new wr _ _).alloc _); have d7 := HC7.out w4 hP4.out.2.2.2; have hgr4 : gt < w4.heap.size := (by have := hP4.out.2.2.2.size; omega); obtain ⟨y0, y1, y2, y3, y4, y5, y6, -, -, -, -, -, -, -⟩ := hT4.out.all7; clear hown4 hgrow4 hnil4 hat4 c0 c1 c2 c3 c4 c5 c6 c7))
          go_roundw
          case rel => exact ⟨k + 1, _, _, _, by omega, by go_num, rfl, rfl, HO2, by have := hol.out; show _ ≤ _; omega, by rw [HOs.out]; have := hwl.out; show (ow ++ [_]).length ≤ _; rw [List.length_append]; exact Nat.succ_le_succ this, by rw [HOs.out]; show P2 _ _ (ow ++ [⟨⟨8, tt, tn⟩, pos, line, col, first⟩]) _ _ _; exact hP4.out⟩
          case measure => simp [intOf]; omega
        · go_wp2_with (fail)
          go_roundw
          case rel => exact ⟨k + 1, _, _, _, by omega, by go_num, rfl, rfl, HO2, by have := hol.out; show _ ≤ _; omega, by rw [HOs.out]; have := hwl.out; show _ ≤ _; simp only [if_true, List.append_nil]; omega, by rw [HOs.out]; show P2 _ _ (ow ++ []) _ _ _; rw [List.append_nil]; exact hP.out.below ((Below.refl _ wr).alloc (Nat.le_refl _) _)⟩
          case measure => simp [intOf]; omega
    · obtain rfl : k = m + 1 := by omega
      have ho0 : o = [] := by
        have h1 := hop.out
        rw [← HM.out, L.opn_all, HPr.out] at h1
        exact (Option.some.inj h1).symm
      subst ho0
      obtain ⟨po, pc, hpv0⟩ := owns_form hP.out.2.1
      subst hpv0
      have hPf := hP.out
      rw [HOt.out] at hPf
      have hS : Hid (∀ W : World, Below wr.heap.size wr W → Calls Tryz.prog 15 #[ov, v] W fun r W' => r = .returned (.bool true) ∧ Below W.heap.size W W') := fun W hW => sameTok_c ts _ _ ov v HM2.out.2 W (owns_below hPf.1 hW) (owns_below (owns_below hl4.out hPf.2.2.2) hW)
      have HBf : Hid (Below w.heap.size w wr) := HBW.out.trans (hPf.2.2.2.mono HBW.out.size)
      clear hPf hP hop hol hwl
      go_wp2_with (go_at_call 15; fail)
      refine (hS.out _ (Below.refl _ _)).mono ?_
      rintro r w9 ⟨rfl, hb9⟩
      go_wp2
      go_ret
      exact ⟨rfl, HBf.out.trans (hb9.mono HBf.out.size)⟩

theorem lawPairs_c (s : ByteArray) (w : World) (hG : GOK w) : Calls Tryz.prog 7 #[.string s] w fun e W' => e = .returned (.bool true) ∧ Below w.heap.size w W' := by
  by_cases hs : 1000 < s.size
  · exact lawPairs_long s hs w hG
  · have hs' : s.size ≤ 1000 := by omega
    rcases chk_cases s with hc | hc
    · cases hts : M.scanAll s.data.toList with
      | inl a => exact lawPairs_fault s hs' 4 a (by decide) (fun w hG => all_inl s a (by omega) hc hts w hG) w hG
      | inr ts =>
        cases hx : L.all ts s.size with
        | inl a => exact lawPairs_bad s hs' hc ts hts a hx w hG
        | inr xs => exact lawPairs_ok s hs' hc ts hts xs hx w hG
    · exact lawPairs_fault s hs' (chk s).1 (chk s).2 hc (fun w _ => all_bad s _ _ rfl hc w) w hG

end Go.Proofs.YtldpldcfgkceeaaGreatDoor
