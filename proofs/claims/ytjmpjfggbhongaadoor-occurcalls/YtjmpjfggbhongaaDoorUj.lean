/-
  A walk in memory (stage 16): meet, by a contract.
-/
import Derived.Test.YtjmpjfggbhongaaDoorUi
namespace Go.Proofs.YtjmpjfggbhongaaDoor
open Go.RowKit Go.Shelf Go.Maps
set_option linter.unusedVariables false

/-- The tables lie in their places. -/
structure GT16 (w : World) : Prop where
  size : 2 ≤ w.heap.size
  ap : ∀ o one, 1 ≤ o → o ≤ 5 → (one = 2 ∨ one = 4) → w.cell? ⟨0, o * 5 + one, none⟩ = some (.int .i64 (eitherM o one : Nat))
  tg : ∀ o one, 1 ≤ o → o ≤ 5 → (one = 2 ∨ one = 4) → w.cell? ⟨1, o * 5 + one, none⟩ = some (.int .i64 (bothM o one : Nat))
theorem GT16.below {w w' : World} {F : Nat} (h : GT16 w) (hF : 2 ≤ F) (hb : Below F w w') : GT16 w' :=
  ⟨Nat.le_trans h.size hb.size, fun o one h1 h2 h3 => (hb.cell (p := ⟨0, o * 5 + one, none⟩) (by show 0 < F; omega)).trans (h.ap o one h1 h2 h3), fun o one h1 h2 h3 => (hb.cell (p := ⟨1, o * 5 + one, none⟩) (by show 1 < F; omega)).trans (h.tg o one h1 h2 h3)⟩
/-- What is left behind a place. -/
theorem meet_fin {w1 : World} {F P : Nat} {s : WS} {bl : Nat → Nat} {pv sv av : Value} {m c i K v pl mt : Nat} {bi : BdR} {nm : ByteArray} (h : WkS w1 F P s bl pv sv av m c) (hi : i < s.bs.length) (hbi : s.bs[i] = bi) (hK : bl i = K) (hpl : bi.places = pl) (hmt : s.met = mt) (hnm : s.named nm.data.toList = some i) (hv : comb (prt s.parts bi.last) bi.occ (if bi.lam < s.lam then 4 else 2) = v) :
    WkAt ((((w1.setCell ⟨K, 1, none⟩ (.int .i64 (v : Int))).setCell ⟨K, 2, none⟩ (.int .i64 ((pl : Int) + 1))).setCell ⟨K, 3, none⟩ (.int .i64 (mt : Int))).setCell ⟨P, 2, none⟩ (.int .i64 ((mt : Int) + 1))) F P (meetS nm s) ∧ Below F w1 ((((w1.setCell ⟨K, 1, none⟩ (.int .i64 (v : Int))).setCell ⟨K, 2, none⟩ (.int .i64 ((pl : Int) + 1))).setCell ⟨K, 3, none⟩ (.int .i64 (mt : Int))).setCell ⟨P, 2, none⟩ (.int .i64 ((mt : Int) + 1))) := by
  subst hbi hK hpl hmt hv
  have hbk := (h.bd i hi).1
  have hfm := (h.bd i hi).2.1
  obtain ⟨X1, h1⟩ : ∃ X1, w1.setCell ⟨bl i, 1, none⟩ (.int .i64 ((comb (prt s.parts s.bs[i].last) s.bs[i].occ (if s.bs[i].lam < s.lam then 4 else 2) : Nat) : Int)) = X1 := ⟨_, rfl⟩
  obtain ⟨X2, h2⟩ : ∃ X2, X1.setCell ⟨bl i, 2, none⟩ (.int .i64 ((s.bs[i].places : Int) + 1)) = X2 := ⟨_, rfl⟩
  obtain ⟨X3, h3⟩ : ∃ X3, X2.setCell ⟨bl i, 3, none⟩ (.int .i64 (s.met : Int)) = X3 := ⟨_, rfl⟩
  rw [h1, h2, h3]
  have b1 : But (bl i) w1 X3 := by rw [← h3, ← h2, ← h1]; exact ((But.set _ _ _ _).trans (But.set _ _ _ _)).trans (But.set _ _ _ _)
  have hB : Blk X3 (bl i) (bC bl (metB s s.bs[i])) 59 := by
    rw [← h3, ← h2, ← h1]
    have := ((hbk.set 1 (.int .i64 ((comb (prt s.parts s.bs[i].last) s.bs[i].occ (if s.bs[i].lam < s.lam then 4 else 2) : Nat) : Int))).set 2 (.int .i64 ((s.bs[i].places : Int) + 1))).set 3 (.int .i64 (s.met : Int))
    exact this
  have hx := h.setBd hi (metB s s.bs[i]) b1.size (fun g q1 q2 => b1.block g q1 q2) hB rfl rfl
  have hbs := But.set P X3 2 (.int .i64 ((s.met : Int) + 1))
  have hy := hx.setP (W' := X3.setCell ⟨P, 2, none⟩ (.int .i64 ((s.met : Int) + 1))) hbs.size (fun g q1 q2 => hbs.block g q1 q2) s.lam (s.met + 1) (by rw [show ((s.met + 1 : Nat) : Int) = (s.met : Int) + 1 by omega]; exact hx.blk.set 2 _)
  have e : meetS nm s = { s with bs := s.bs.set i (metB s s.bs[i]), met := s.met + 1 } := by unfold meetS; rw [hnm]; simp only; rw [WS.bd_lt hi]
  refine ⟨⟨bl, pv, sv, av, m, c, by rw [e]; exact hy⟩, ?_⟩
  have b2 : Below F w1 X3 := by rw [← h3, ← h2, ← h1]; exact (((Below.refl F w1).setCell (p := ⟨bl i, 1, none⟩) hfm _).setCell (p := ⟨bl i, 2, none⟩) hfm _).setCell (p := ⟨bl i, 3, none⟩) hfm _
  exact b2.setCell (p := ⟨P, 2, none⟩) h.FP _
set_option maxHeartbeats 8000000 in
set_option maxRecDepth 100000 in
theorem wkMeetNone_c (F P : Nat) (s : WS) (nm : ByteArray) (hs : nm.size ≤ maxLen) (w : World) (h : WkAt w F P s) (ht : tot s ≤ 3000000) (hnm : s.named nm.data.toList = none) :
    Calls Tryd.prog 48 #[.pointer (some ⟨P, 0, none⟩), .string nm] w fun e w' => e = .returned (.tuple #[]) ∧ WkAt w' F P (meetS nm s) ∧ Below F w w' := by
  obtain ⟨bl, pv, sv, av, m, c, h⟩ := h
  have HS : Hid (WkS w F P s bl pv sv av m c) := h
  obtain ⟨c0, c1, c2, c3, c4, c5, f0, f1, f2, f4, f5⟩ := h.blk.all6
  have lP := h.blk.lt
  have hl1 := h.mp.look nm hs
  rw [hnm] at hl1
  simp only [ptV] at hl1
  have HN : Hid (s.named nm.data.toList = none) := hnm
  obtain ⟨mt, hmt⟩ : ∃ mt, s.met = mt := ⟨_, rfl⟩
  have HM : Hid (s.met = mt) := hmt
  have hmI : (mt : Int) ≤ 3000000 := by unfold tot at ht; omega
  rw [hmt] at c2
  clear h ht hnm hmt hs
  go_enter Tryd.func48, Tryd.ntmps48
  go_wp2
  go_end0
  have hbs := But.set P w 2 (.int .i64 ((mt : Int) + 1))
  have hx := HS.out.setP (W' := w.setCell ⟨P, 2, none⟩ (.int .i64 ((mt : Int) + 1))) hbs.size (fun g h1 h2 => hbs.block g h1 h2) s.lam (s.met + 1) (by rw [show ((s.met + 1 : Nat) : Int) = (mt : Int) + 1 by rw [← HM.out]; omega]; exact HS.out.blk.set 2 _)
  refine ⟨rfl, ⟨bl, pv, sv, av, m, c, ?_⟩, (Below.refl F w).setCell (p := ⟨P, 2, none⟩) HS.out.FP _⟩
  have e : meetS nm s = { s with met := s.met + 1 } := by unfold meetS; rw [HN.out]
  rw [e]; exact hx
set_option maxHeartbeats 8000000 in
set_option maxRecDepth 100000 in
theorem wkMeetLam_c (F P : Nat) (s : WS) (nm : ByteArray) (hs : nm.size ≤ maxLen) (w : World) (h : WkAt w F P s) (hw : Wf s) (hne : s.parts ≠ []) (hG : GT16 w) (hF : 2 ≤ F) (ht : tot s ≤ 3000000) (i : Nat) (hnm : s.named nm.data.toList = some i) (hlf : (s.bd i).lam < s.lam) :
    Calls Tryd.prog 48 #[.pointer (some ⟨P, 0, none⟩), .string nm] w fun e w' => e = .returned (.tuple #[]) ∧ WkAt w' F P (meetS nm s) ∧ Below F w w' := by
  have hwk := h
  obtain ⟨bl, pv, sv, av, m, c, h⟩ := h
  have HS : Hid (WkS w F P s bl pv sv av m c) := h
  obtain ⟨c0, c1, c2, c3, c4, c5, f0, f1, f2, f4, f5⟩ := h.blk.all6
  have lP := h.blk.lt
  have hl1 := h.mp.look nm hs
  rw [hnm] at hl1
  simp only [ptV] at hl1
  obtain ⟨n1, n2, n3, n4, n5, n6, n7, n8⟩ := hw.nm _ i hnm
  have hbk := (h.bd i n1).1
  have hfm := (h.bd i n1).2.1
  obtain ⟨bi, hbi⟩ : ∃ bi, s.bs[i] = bi := ⟨_, rfl⟩
  rw [hbi] at hbk
  obtain ⟨b0, b1, b2, b3, b4, b5, b6, y1, y2, y3⟩ := hbk.all7
  have lB := hbk.lt
  have hPK : P ≠ bl i := neT h.tyP (h.tyb n1) (by decide)
  rw [WS.bd_lt n1] at n2 n3 n4 n5 n6 n7 n8 hlf
  rw [hbi] at n2 n3 n4 n5 n6 n7 n8 hlf
  have hlast : bi.last ≤ 3000000 := by
    have : s.met ≤ 3000000 := by unfold tot at ht; omega
    omega
  obtain ⟨q, hq⟩ : ∃ q, prt s.parts bi.last = q := ⟨_, rfl⟩
  have HP : Hid (Calls Tryd.prog 68 #[.pointer (some ⟨P, 0, none⟩), .int .i64 (bi.last : Int)] w.drew fun e w' => e = .returned (.bool q) ∧ Below w.heap.size w.drew w') := by
    rw [← hq]; exact wkParted_c F P s _ w.drew ⟨bl, pv, sv, av, m, c, h.drew⟩ hw hne ht hlast
  have HN : Hid (s.named nm.data.toList = some i ∧ i < s.bs.length ∧ F ≤ P ∧ F ≤ bl i ∧ s.bd i = bi ∧ (∀ hh : i < s.bs.length, s.bs[i] = bi)) := ⟨hnm, n1, h.FP, hfm, (WS.bd_lt n1).trans hbi, fun _ => hbi⟩
  have hpl : bi.places ≤ 3000000 := by
    have : s.met ≤ 3000000 := by unfold tot at ht; omega
    omega
  obtain ⟨K, hK⟩ : ∃ K, bl i = K := ⟨_, rfl⟩
  rw [hK] at hPK lB b0 b1 b2 b3 b4 b5 b6 y1 y2 y3 hl1
  obtain ⟨o, ho⟩ : ∃ o, bi.occ = o := ⟨_, rfl⟩
  rw [ho] at b1 n5 n6
  have ta : w.cell? ⟨0, o * 5 + 4, none⟩ = some (.int .i64 (eitherM o 4 : Nat)) := hG.ap o 4 n5 n6 (by decide)
  have tg : w.cell? ⟨1, o * 5 + 4, none⟩ = some (.int .i64 (bothM o 4 : Nat)) := hG.tg o 4 n5 n6 (by decide)
  have lG := hG.size
  obtain ⟨ve, hve⟩ : ∃ ve, eitherM o 4 = ve := ⟨_, rfl⟩
  obtain ⟨vb, hvb⟩ : ∃ vb, bothM o 4 = vb := ⟨_, rfl⟩
  rw [hve] at ta
  rw [hvb] at tg
  obtain ⟨mt, hmt⟩ : ∃ mt, s.met = mt := ⟨_, rfl⟩
  obtain ⟨lm, hlm⟩ : ∃ lm, s.lam = lm := ⟨_, rfl⟩
  obtain ⟨li, hli⟩ : ∃ li, bi.lam = li := ⟨_, rfl⟩
  obtain ⟨la, hla⟩ : ∃ la, bi.last = la := ⟨_, rfl⟩
  obtain ⟨pl, hpl2⟩ : ∃ pl, bi.places = pl := ⟨_, rfl⟩
  rw [hmt] at c2
  rw [hlm] at c1
  rw [hli] at b4
  rw [hla] at b3 HP
  rw [hpl2] at b2 hpl
  rw [hlm, hli] at hlf
  have HV : Hid (s.met = mt ∧ s.lam = lm ∧ bi.lam = li ∧ bi.last = la ∧ bi.places = pl ∧ bi.occ = o ∧ bl i = K ∧ eitherM o 4 = ve ∧ bothM o 4 = vb ∧ prt s.parts bi.last = q) := ⟨hmt, hlm, hli, hla, hpl2, ho, hK, hve, hvb, hq⟩
  have HL : Hid (li < lm) := hlf
  have hmI : (mt : Int) ≤ 3000000 := by unfold tot at ht; omega
  have hlI : (lm : Int) ≤ 3000000 := by unfold tot at ht; omega
  have hoI : (o : Int) < 6 := by omega
  have hpI : (pl : Int) ≤ 3000000 := by omega
  have hlfI : (li : Int) < (lm : Int) := by omega
  clear h ht hnm hs hwk hw hne hG hF n2 n3 n4 n5 n6 n7 n8 hbi n1 hbk hfm hlast hpl hK ho hve hvb hmt hlm hli hla hpl2 hq hlf
  go_enter Tryd.func48, Tryd.ntmps48
  go_wp2
  go_region
  all_goals (
    go_wp2_with (go_at_call 68; fail)
    refine HP.out.mono ?_
    rintro e w1 ⟨rfl, hb1⟩
    have hS1 := HS.out.drew.on hb1
    have HB1 : Hid (Below F w w1) := (Below.refl F w).drew.trans (hb1.mono HS.out.FW)
    have ta1 : w1.cell? ⟨0, o * 5 + 4, none⟩ = some (.int .i64 (ve : Int)) := (hb1.cell (p := ⟨0, o * 5 + 4, none⟩) (by show 0 < w.heap.size; omega)).trans ta
    have tg1 : w1.cell? ⟨1, o * 5 + 4, none⟩ = some (.int .i64 (vb : Int)) := (hb1.cell (p := ⟨1, o * 5 + 4, none⟩) (by show 1 < w.heap.size; omega)).trans tg
    have lG1 : 2 ≤ w1.heap.size := Nat.le_trans lG hb1.size
    have H1 : Hid (WkS w1 F P s bl pv sv av m c) := hS1
    have hbk := (H1.out.bd i HN.out.2.1).1
    rw [HN.out.2.2.2.2.2 HN.out.2.1, HV.out.2.2.2.2.2.2.1] at hbk
    clear c0 c1 c2 c3 c4 c5 f0 f1 f2 f4 f5 lP b0 b1 b2 b3 b4 b5 b6 y1 y2 y3 lB ta tg lG hl1 hS1 HP hb1
    obtain ⟨b0, b1, b2, b3, b4, b5, b6, y1, y2, y3⟩ := hbk.all7
    obtain ⟨c0, c1, c2, c3, c4, c5, f0, f1, f2, f4, f5⟩ := H1.out.blk.all6
    have lP := H1.out.blk.lt
    have lB := hbk.lt
    rw [HV.out.1] at c2
    rw [HV.out.2.2.2.2.2.1] at b1
    rw [HV.out.2.2.2.2.1] at b2
    clear hbk HS
    have hv : comb (prt s.parts bi.last) bi.occ (if bi.lam < s.lam then 4 else 2) = comb q o 4 := by
      have h := HV.out
      rw [h.2.2.2.2.2.2.2.2.2, h.2.2.2.2.2.1, h.2.1, h.2.2.1, if_pos HL.out]
    have HVv : Hid (comb (prt s.parts bi.last) bi.occ (if bi.lam < s.lam then 4 else 2) = comb q o 4) := hv
    clear hv
    cases q with
    | true =>
      go_wp2
      go_end0
      have hv : comb (prt s.parts bi.last) bi.occ (if bi.lam < s.lam then 4 else 2) = ve := HVv.out.trans HV.out.2.2.2.2.2.2.2.1
      obtain ⟨z1, z2⟩ := meet_fin H1.out HN.out.2.1 (HN.out.2.2.2.2.2 HN.out.2.1) HV.out.2.2.2.2.2.2.1 HV.out.2.2.2.2.1 HV.out.1 HN.out.1 hv
      exact ⟨rfl, z1, HB1.out.trans z2⟩
    | false =>
      go_wp2
      go_end0
      have hv : comb (prt s.parts bi.last) bi.occ (if bi.lam < s.lam then 4 else 2) = vb := HVv.out.trans HV.out.2.2.2.2.2.2.2.2.1
      obtain ⟨z1, z2⟩ := meet_fin H1.out HN.out.2.1 (HN.out.2.2.2.2.2 HN.out.2.1) HV.out.2.2.2.2.2.2.1 HV.out.2.2.2.2.1 HV.out.1 HN.out.1 hv
      exact ⟨rfl, z1, HB1.out.trans z2⟩)
set_option maxHeartbeats 8000000 in
set_option maxRecDepth 100000 in
theorem wkMeetOne_c (F P : Nat) (s : WS) (nm : ByteArray) (hs : nm.size ≤ maxLen) (w : World) (h : WkAt w F P s) (hw : Wf s) (hne : s.parts ≠ []) (hG : GT16 w) (hF : 2 ≤ F) (ht : tot s ≤ 3000000) (i : Nat) (hnm : s.named nm.data.toList = some i) (hlf : ¬ (s.bd i).lam < s.lam) :
    Calls Tryd.prog 48 #[.pointer (some ⟨P, 0, none⟩), .string nm] w fun e w' => e = .returned (.tuple #[]) ∧ WkAt w' F P (meetS nm s) ∧ Below F w w' := by
  have hwk := h
  obtain ⟨bl, pv, sv, av, m, c, h⟩ := h
  have HS : Hid (WkS w F P s bl pv sv av m c) := h
  obtain ⟨c0, c1, c2, c3, c4, c5, f0, f1, f2, f4, f5⟩ := h.blk.all6
  have lP := h.blk.lt
  have hl1 := h.mp.look nm hs
  rw [hnm] at hl1
  simp only [ptV] at hl1
  obtain ⟨n1, n2, n3, n4, n5, n6, n7, n8⟩ := hw.nm _ i hnm
  have hbk := (h.bd i n1).1
  have hfm := (h.bd i n1).2.1
  obtain ⟨bi, hbi⟩ : ∃ bi, s.bs[i] = bi := ⟨_, rfl⟩
  rw [hbi] at hbk
  obtain ⟨b0, b1, b2, b3, b4, b5, b6, y1, y2, y3⟩ := hbk.all7
  have lB := hbk.lt
  have hPK : P ≠ bl i := neT h.tyP (h.tyb n1) (by decide)
  rw [WS.bd_lt n1] at n2 n3 n4 n5 n6 n7 n8 hlf
  rw [hbi] at n2 n3 n4 n5 n6 n7 n8 hlf
  have hlast : bi.last ≤ 3000000 := by
    have : s.met ≤ 3000000 := by unfold tot at ht; omega
    omega
  obtain ⟨q, hq⟩ : ∃ q, prt s.parts bi.last = q := ⟨_, rfl⟩
  have HP : Hid (Calls Tryd.prog 68 #[.pointer (some ⟨P, 0, none⟩), .int .i64 (bi.last : Int)] w.drew fun e w' => e = .returned (.bool q) ∧ Below w.heap.size w.drew w') := by
    rw [← hq]; exact wkParted_c F P s _ w.drew ⟨bl, pv, sv, av, m, c, h.drew⟩ hw hne ht hlast
  have HN : Hid (s.named nm.data.toList = some i ∧ i < s.bs.length ∧ F ≤ P ∧ F ≤ bl i ∧ s.bd i = bi ∧ (∀ hh : i < s.bs.length, s.bs[i] = bi)) := ⟨hnm, n1, h.FP, hfm, (WS.bd_lt n1).trans hbi, fun _ => hbi⟩
  have hpl : bi.places ≤ 3000000 := by
    have : s.met ≤ 3000000 := by unfold tot at ht; omega
    omega
  obtain ⟨K, hK⟩ : ∃ K, bl i = K := ⟨_, rfl⟩
  rw [hK] at hPK lB b0 b1 b2 b3 b4 b5 b6 y1 y2 y3 hl1
  obtain ⟨o, ho⟩ : ∃ o, bi.occ = o := ⟨_, rfl⟩
  rw [ho] at b1 n5 n6
  have ta : w.cell? ⟨0, o * 5 + 2, none⟩ = some (.int .i64 (eitherM o 2 : Nat)) := hG.ap o 2 n5 n6 (by decide)
  have tg : w.cell? ⟨1, o * 5 + 2, none⟩ = some (.int .i64 (bothM o 2 : Nat)) := hG.tg o 2 n5 n6 (by decide)
  have lG := hG.size
  obtain ⟨ve, hve⟩ : ∃ ve, eitherM o 2 = ve := ⟨_, rfl⟩
  obtain ⟨vb, hvb⟩ : ∃ vb, bothM o 2 = vb := ⟨_, rfl⟩
  rw [hve] at ta
  rw [hvb] at tg
  obtain ⟨mt, hmt⟩ : ∃ mt, s.met = mt := ⟨_, rfl⟩
  obtain ⟨lm, hlm⟩ : ∃ lm, s.lam = lm := ⟨_, rfl⟩
  obtain ⟨li, hli⟩ : ∃ li, bi.lam = li := ⟨_, rfl⟩
  obtain ⟨la, hla⟩ : ∃ la, bi.last = la := ⟨_, rfl⟩
  obtain ⟨pl, hpl2⟩ : ∃ pl, bi.places = pl := ⟨_, rfl⟩
  rw [hmt] at c2
  rw [hlm] at c1
  rw [hli] at b4
  rw [hla] at b3 HP
  rw [hpl2] at b2 hpl
  rw [hlm, hli] at hlf
  have HV : Hid (s.met = mt ∧ s.lam = lm ∧ bi.lam = li ∧ bi.last = la ∧ bi.places = pl ∧ bi.occ = o ∧ bl i = K ∧ eitherM o 2 = ve ∧ bothM o 2 = vb ∧ prt s.parts bi.last = q) := ⟨hmt, hlm, hli, hla, hpl2, ho, hK, hve, hvb, hq⟩
  have HL : Hid (¬ li < lm) := hlf
  have hmI : (mt : Int) ≤ 3000000 := by unfold tot at ht; omega
  have hlI : (lm : Int) ≤ 3000000 := by unfold tot at ht; omega
  have hoI : (o : Int) < 6 := by omega
  have hpI : (pl : Int) ≤ 3000000 := by omega
  have hlfI : ¬ ((li : Int) < (lm : Int)) := by omega
  clear h ht hnm hs hwk hw hne hG hF n2 n3 n4 n5 n6 n7 n8 hbi n1 hbk hfm hlast hpl hK ho hve hvb hmt hlm hli hla hpl2 hq hlf
  go_enter Tryd.func48, Tryd.ntmps48
  go_wp2
  go_region
  all_goals (
    go_wp2_with (go_at_call 68; fail)
    refine HP.out.mono ?_
    rintro e w1 ⟨rfl, hb1⟩
    have hS1 := HS.out.drew.on hb1
    have HB1 : Hid (Below F w w1) := (Below.refl F w).drew.trans (hb1.mono HS.out.FW)
    have ta1 : w1.cell? ⟨0, o * 5 + 2, none⟩ = some (.int .i64 (ve : Int)) := (hb1.cell (p := ⟨0, o * 5 + 2, none⟩) (by show 0 < w.heap.size; omega)).trans ta
    have tg1 : w1.cell? ⟨1, o * 5 + 2, none⟩ = some (.int .i64 (vb : Int)) := (hb1.cell (p := ⟨1, o * 5 + 2, none⟩) (by show 1 < w.heap.size; omega)).trans tg
    have lG1 : 2 ≤ w1.heap.size := Nat.le_trans lG hb1.size
    have H1 : Hid (WkS w1 F P s bl pv sv av m c) := hS1
    have hbk := (H1.out.bd i HN.out.2.1).1
    rw [HN.out.2.2.2.2.2 HN.out.2.1, HV.out.2.2.2.2.2.2.1] at hbk
    clear c0 c1 c2 c3 c4 c5 f0 f1 f2 f4 f5 lP b0 b1 b2 b3 b4 b5 b6 y1 y2 y3 lB ta tg lG hl1 hS1 HP hb1
    obtain ⟨b0, b1, b2, b3, b4, b5, b6, y1, y2, y3⟩ := hbk.all7
    obtain ⟨c0, c1, c2, c3, c4, c5, f0, f1, f2, f4, f5⟩ := H1.out.blk.all6
    have lP := H1.out.blk.lt
    have lB := hbk.lt
    rw [HV.out.1] at c2
    rw [HV.out.2.2.2.2.2.1] at b1
    rw [HV.out.2.2.2.2.1] at b2
    clear hbk HS
    have hv : comb (prt s.parts bi.last) bi.occ (if bi.lam < s.lam then 4 else 2) = comb q o 2 := by
      have h := HV.out
      rw [h.2.2.2.2.2.2.2.2.2, h.2.2.2.2.2.1, h.2.1, h.2.2.1, if_neg HL.out]
    have HVv : Hid (comb (prt s.parts bi.last) bi.occ (if bi.lam < s.lam then 4 else 2) = comb q o 2) := hv
    clear hv
    cases q with
    | true =>
      go_wp2
      go_end0
      have hv : comb (prt s.parts bi.last) bi.occ (if bi.lam < s.lam then 4 else 2) = ve := HVv.out.trans HV.out.2.2.2.2.2.2.2.1
      obtain ⟨z1, z2⟩ := meet_fin H1.out HN.out.2.1 (HN.out.2.2.2.2.2 HN.out.2.1) HV.out.2.2.2.2.2.2.1 HV.out.2.2.2.2.1 HV.out.1 HN.out.1 hv
      exact ⟨rfl, z1, HB1.out.trans z2⟩
    | false =>
      go_wp2
      go_end0
      have hv : comb (prt s.parts bi.last) bi.occ (if bi.lam < s.lam then 4 else 2) = vb := HVv.out.trans HV.out.2.2.2.2.2.2.2.2.1
      obtain ⟨z1, z2⟩ := meet_fin H1.out HN.out.2.1 (HN.out.2.2.2.2.2 HN.out.2.1) HV.out.2.2.2.2.2.2.1 HV.out.2.2.2.2.1 HV.out.1 HN.out.1 hv
      exact ⟨rfl, z1, HB1.out.trans z2⟩)
theorem wkMeet_c (F P : Nat) (s : WS) (nm : ByteArray) (hs : nm.size ≤ maxLen) (w : World) (h : WkAt w F P s) (hw : Wf s) (hne : s.parts ≠ []) (hG : GT16 w) (hF : 2 ≤ F) (ht : tot s ≤ 3000000) :
    Calls Tryd.prog 48 #[.pointer (some ⟨P, 0, none⟩), .string nm] w fun e w' => e = .returned (.tuple #[]) ∧ WkAt w' F P (meetS nm s) ∧ Below F w w' := by
  cases hnm : s.named nm.data.toList with
  | none => exact wkMeetNone_c F P s nm hs w h ht hnm
  | some i =>
    by_cases hl : (s.bd i).lam < s.lam
    · exact wkMeetLam_c F P s nm hs w h hw hne hG hF ht i hnm hl
    · exact wkMeetOne_c F P s nm hs w h hw hne hG hF ht i hnm hl
end Go.Proofs.YtjmpjfggbhongaaDoor
