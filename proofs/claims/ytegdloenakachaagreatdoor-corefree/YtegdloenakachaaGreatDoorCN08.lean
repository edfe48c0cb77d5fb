/-
  Two expressions side by side: one step from the parts; every depth.
  Same: two expressions, up to names that they bind.
  Expressions as values; boxed; Same, Size by contracts.
  Size, by a contract.
  slices.AppendSeq and slices.Collect over texts, by contracts.
  Sorting nothing; rows of texts compared.
  Sorting texts, laid at this program.
  A set of names, told as a row that rises.
  Free, by a contract.
-/
import Derived.Test.YtegdloenakachaaGreatDoorCN07
import Derived.Maps.AppendAt
import Derived.RangeFuncNested
import Derived.RangeFuncBound
import Derived.RangeFuncCalls
import Derived.RangeFuncLeaves
import Derived.Shelf.Abstract
import Derived.Shelf.RegionOpen
import Derived.Shelf.SlIter.Stops
import Derived.WalkKit
import Derived.OwnWalkIn
import Derived.TacticsInMore
import Derived.LoopNIn
import Derived.LoopIn
import Derived.Lib.Tables
import Derived.BigQuiet
import Derived.Deep.LoopGhost
import Derived.Shelf.Sort.Plain
import Derived.Test.YtegdloenakachaaGreatDoorProg
import Derived.Shelf.SlIter.Keys
import Derived.Sort.OwnSorted
import Derived.Sort.KeysCollected
namespace Go.Proofs.YtegdloenakachaaGreatDoor
open Go.RowKit Go.Shelf Go.Maps
set_option linter.unusedVariables false

theorem pr_len {α : Type} (f : α → Nat) : ∀ (l : List α), (∀ x ∈ l, 0 < f x) → l.length ≤ (l.map f).sum
  | [], _ => Nat.zero_le _
  | a :: l, h => by
    have h1 := h a List.mem_cons_self
    have h2 := pr_len f l (fun x hx => h x (List.mem_cons_of_mem _ hx))
    simp only [List.length_cons, List.map_cons, List.sum_cons]
    omega
set_option maxRecDepth 100000 in
set_option maxHeartbeats 4000000 in
theorem pair_step (d : Nat) (ih : PairOK d) : PairOK (d + 1) := by
  intro a b B ga xa gb xb P ma mb ca cb sa sb w ha hb hP hma hmb hw h hN hM hca hcb hsa hsb hza hzb
  obtain ⟨hga, a0, a1, a2, ⟨o1, c1, a3, -⟩, ⟨o4, c4, a4, k4⟩, ⟨o5, c5, a5, k5⟩, ⟨o6, c6, a6, k6⟩⟩ := id ha
  obtain ⟨hgb, b0, b1, b2, ⟨o2, c2, b3, -⟩, ⟨p4, d4, b4, m4⟩, ⟨p5, d5, b5, m5⟩, ⟨p6, d6, b6, m6⟩⟩ := id hb
  have hbla : (bndM a).length = (TrN.params a).length + (TrN.binds a).length := by simp [bndM]
  have hblb : (bndM b).length = (TrN.params b).length + (TrN.binds b).length := by simp [bndM]
  have hcsa : costM (d + 1) a = (bndM a).length + ((TrN.binds a).map fun b => costM d b.2).sum + ((TrN.args a).map (fun e => costM d e)).sum + ((TrN.alts a).map fun a => a.1.vars.length + costM d a.2).sum := rfl
  have hcsb : costM (d + 1) b = (bndM b).length + ((TrN.binds b).map fun b => costM d b.2).sum + ((TrN.args b).map (fun e => costM d e)).sum + ((TrN.alts b).map fun a => a.1.vars.length + costM d a.2).sum := rfl
  have hsza : sizeM (d + 1) a = 1 + ((TrN.binds a).map fun b => sizeM d b.2).sum + ((TrN.args a).map (fun e => sizeM d e)).sum + ((TrN.alts a).map fun a => sizeM d a.2).sum := rfl
  have hszb : sizeM (d + 1) b = 1 + ((TrN.binds b).map fun b => sizeM d b.2).sum + ((TrN.args b).map (fun e => sizeM d e)).sum + ((TrN.alts b).map fun a => sizeM d a.2).sum := rfl
  have hl5 : (TrN.args a).length ≤ ((TrN.args a).map (fun e => sizeM d e)).sum := pr_len _ _ (fun x _ => size_pos d x)
  have hl6 : (TrN.alts a).length ≤ ((TrN.alts a).map fun a => sizeM d a.2).sum := pr_len _ _ (fun x _ => size_pos d x.2)
  obtain ⟨tpa, ta⟩ := top_ptr sa
  obtain ⟨tpb, tb⟩ := top_ptr sb
  have ia := h.a.inner
  have ib := h.b.inner
  rw [ta] at ia
  rw [tb] at ib
  refine pair_expr_walk (TrN.kind a) (TrN.kind b) (TrN.num a) (TrN.num b) (TrN.params a).length (TrN.params b).length (TrN.binds a).length (TrN.binds b).length ga xa gb xb P
    (nameM (TrN.kind a) (TrN.name a) (TrN.name b) (dl (bndM a).reverse ++ nms sa) (dl (bndM b).reverse ++ nms sb))
    (((TrN.binds a).zip (TrN.binds b)).all fun p => sameM d p.1.2 p.2.2 (dl (bndM a).reverse ++ nms sa) (dl (bndM b).reverse ++ nms sb))
    (((TrN.args a).length == (TrN.args b).length) && ((TrN.args a).zip (TrN.args b)).all fun p => sameM d p.1 p.2 (dl (bndM a).reverse ++ nms sa) (dl (bndM b).reverse ++ nms sb))
    (((TrN.alts a).length == (TrN.alts b).length) && ((TrN.alts a).zip (TrN.alts b)).all fun p => altM d p.1 p.2 (dl (bndM a).reverse ++ nms sa) (dl (bndM b).reverse ++ nms sb))
    tpa tpb (fun w5 => PrRes w w5 P ma mb (ca + 2 * costM (d + 1) a) (cb + 2 * costM (d + 1) b) sa sb) o1 o2 o4 p4 o5 p5 o6 p6 c1 c2 c4 d4 (TrN.args a).length c5 (TrN.args b).length d5 (TrN.alts a).length c6 (TrN.alts b).length d6 w (by omega) (by omega) (by omega) (by omega)
    a0 a2 a3 a4 b0 b2 b3 b4 ia ib h.a.lt (Nat.lt_of_lt_of_le hga hw) (Nat.lt_of_lt_of_le hgb hw) (fun n => ((PrRes.start h).le (by omega) (by omega)).drewN n) ?_
  intro hpp hbb n
  have p0 := h.drewN n
  refine (enter_c d a hN.2.1 B ga xa P 0 ma ca sa (w.drewN n) (ExAt.same (W := w) (W' := w.drewN n) (fun _ _ _ => rfl) (d + 1) a ga xa ha) hP hma hw p0.a (by omega) (by omega)).mono ?_
  rintro e w1 ⟨rfl, xa1, he1, hs1, hc1⟩
  have g1 : SkChg P ma mb w w1 := ((SkChg.refl P ma mb w).drewN n).trans (SkChg.ofSc hc1)
  have p1 := p0.stepA hs1 hc1
  have z1 := g1.size
  have q1 := g1.ex (d := d) hP hma hmb hw
  have l1 : xa1.length = (bndM a).length := by have := congrArg List.length he1; simpa using this
  refine ⟨rfl, ⟨p1.a.lt, by omega, by omega⟩, ?_⟩
  refine (enter_c d b hM.2.1 B gb xb P 2 mb cb sb w1 (ExAt.same q1 (d + 1) _ _ _ hb) hP hmb (Nat.le_trans hw z1) p1.b (by omega) (by omega)).mono ?_
  rintro e w2 ⟨rfl, xb1, he2, hs2, hc2⟩
  have g2 : SkChg P ma mb w w2 := g1.trans (SkChg.ofSc2 hc2)
  have p2 := p1.stepB hs2 hc2
  have l2 : xb1.length = (bndM b).length := by have := congrArg List.length he2; simpa using this
  have XSf : ∀ X : World, SkChg P ma mb w X → P < X.heap.size → XS P ga xa gb xb (.slice o4 (TrN.binds a).length c4) (.slice p4 (TrN.binds b).length d4) (.slice o5 (TrN.args a).length c5) (.slice p5 (TrN.args b).length d5) (.slice o6 (TrN.alts a).length c6) (.slice p6 (TrN.alts b).length d6) X := fun X hX hPX => by
    have qX := hX.ex (d := d) hP hma hmb hw
    have zX := hX.size
    exact ⟨⟨hPX, by omega, by omega⟩, (qX _ _ hga).trans a4, (qX _ _ hgb).trans b4, (qX _ _ hga).trans a5, (qX _ _ hgb).trans b5, (qX _ _ hga).trans a6, (qX _ _ hgb).trans b6⟩
  have Df : ∀ (X : World) (ca' cb' : Nat), SkChg P ma mb w X → PrSt X P ma mb ca' cb' (xa1 ++ sa) (xb1 ++ sb) → ca' + (bndM a).length ≤ ca + 2 * costM (d + 1) a → cb' + (bndM b).length ≤ cb + 2 * costM (d + 1) b → PaD P (.pointer tpa) (.pointer tpb) (fun w5 => PrRes w w5 P ma mb (ca + 2 * costM (d + 1) a) (cb + 2 * costM (d + 1) b) sa sb) X := fun X ca' cb' hX p3 e1 e2 => by
    rw [← ta, ← tb]
    refine ⟨p3.a.lt, ?_⟩
    refine (leave_c xa1 sa (grown_mem he1 hN.2.1) P 0 ma ca' X p3.a (by omega)).mono ?_
    rintro e w4 ⟨rfl, hs4, hc4⟩
    have p4 := p3.stepA hs4 hc4
    refine ⟨rfl, p4.a.lt, ?_⟩
    refine (leave_c xb1 sb (grown_mem he2 hM.2.1) P 2 mb cb' w4 p4.b (by omega)).mono ?_
    rintro e w5 ⟨rfl, hs5, hc5⟩
    have p5 := p4.stepB hs5 hc5
    exact ⟨rfl, ⟨_, _, by omega, by omega, p5⟩, (hX.trans (SkChg.ofSc hc4)).trans (SkChg.ofSc2 hc5)⟩
  refine ⟨rfl, XSf w2 g2 p2.a.lt, ?_⟩
  have q2 := g2.ex (d := d) hP hma hmb hw
  have z2 := g2.size
  have hname := pair_name_c (TrN.kind a) (TrN.name a) (TrN.name b) hN.1 hM.1 ga xa gb xb P ma mb _ _ (xa1 ++ sa) (xb1 ++ sb) (by rw [List.length_append]; omega) (by rw [List.length_append]; omega) w2.drew (p2.drewN 1) (by show ga < w2.heap.size; omega) (by show gb < w2.heap.size; omega) ((q2 _ _ hga).trans a0) ((q2 _ _ hga).trans a1) ((q2 _ _ hgb).trans b1)
  rw [nms_grown he1, nms_grown he2] at hname
  refine hname.mono ?_
  rintro e w3 ⟨rfl, n3, rfl⟩
  have g3 : SkChg P ma mb w (w2.drew.drewN n3) := (g2.drewN 1).drewN n3
  have p3 : PrSt (w2.drew.drewN n3) P ma mb (ca + (bndM a).length) (cb + (bndM b).length) (xa1 ++ sa) (xb1 ++ sb) := (p2.drewN 1).drewN n3
  generalize w2.drew.drewN n3 = x0 at g3 p3 ⊢
  refine ⟨rfl, XSf x0 g3 p3.a.lt, ?_⟩
  generalize nameM (TrN.kind a) (TrN.name a) (TrN.name b) (dl (bndM a).reverse ++ nms sa) (dl (bndM b).reverse ++ nms sb) = v1
  cases v1 with
  | false => exact Df x0 _ _ g3 p3 (by omega) (by omega)
  | true =>
    have y3 := g3.ex (d := d) hP hma hmb hw
    have hbinds := pair_binds_c d ih (TrN.binds a) (TrN.binds b) o4 p4 c4 d4 B P ma mb _ _ (xa1 ++ sa) (xb1 ++ sb) x0 (k4.mono (fun x g off hg hx => ExAt.same y3 d _ _ _ hx.2)) (m4.mono (fun x g off hg hx => ExAt.same y3 d _ _ _ hx.2)) hbb hP hma hmb (Nat.le_trans hw g3.size) p3 hN.2.2.1 hM.2.2.1 (by omega) (by omega) (by rw [List.length_append]; omega) (by rw [List.length_append]; omega) (by omega) (by omega) (by omega)
    rw [nms_grown he1, nms_grown he2] at hbinds
    refine hbinds.mono ?_
    rintro e x1 ⟨rfl, ⟨ca4, cb4, r1, r2, p4'⟩, g4'⟩
    have g4 := g3.trans g4'
    refine ⟨rfl, XSf x1 g4 p4'.a.lt, ?_⟩
    generalize (((TrN.binds a).zip (TrN.binds b)).all fun p => sameM d p.1.2 p.2.2 (dl (bndM a).reverse ++ nms sa) (dl (bndM b).reverse ++ nms sb)) = v2
    cases v2 with
    | false => exact Df x1 _ _ g4 p4' (by omega) (by omega)
    | true =>
      have y4 := g4.ex (d := d) hP hma hmb hw
      have hex := pair_exprs_c d ih (TrN.args a) (TrN.args b) o5 p5 c5 d5 B P ma mb _ _ (xa1 ++ sa) (xb1 ++ sb) x1 (k5.mono (fun x g off hg hx => ExAt.same y4 d _ _ _ hx)) (m5.mono (fun x g off hg hx => ExAt.same y4 d _ _ _ hx)) hP hma hmb (Nat.le_trans hw g4.size) p4' hN.2.2.2.1 hM.2.2.2.1 (by omega) (by omega) (by rw [List.length_append]; omega) (by rw [List.length_append]; omega) (by omega) (by omega) (by omega)
      rw [nms_grown he1, nms_grown he2] at hex
      refine hex.mono ?_
      rintro e x2 ⟨rfl, ⟨ca5, cb5, r3, r4, p5'⟩, g5'⟩
      have g5 := g4.trans g5'
      refine ⟨rfl, XSf x2 g5 p5'.a.lt, ?_⟩
      generalize (((TrN.args a).length == (TrN.args b).length) && ((TrN.args a).zip (TrN.args b)).all fun p => sameM d p.1 p.2 (dl (bndM a).reverse ++ nms sa) (dl (bndM b).reverse ++ nms sb)) = v3
      cases v3 with
      | false => exact Df x2 _ _ g5 p5' (by omega) (by omega)
      | true =>
        have y5 := g5.ex (d := d) hP hma hmb hw
        have hal := pair_alts_c d ih (TrN.alts a) (TrN.alts b) o6 p6 c6 d6 B P ma mb _ _ (xa1 ++ sa) (xb1 ++ sb) x2 (k6.mono (fun x g off hg hx => AltAt.same y5 (a := x) hx)) (m6.mono (fun x g off hg hx => AltAt.same y5 (a := x) hx)) hP hma hmb (Nat.le_trans hw g5.size) p5' hN.2.2.2.2 hM.2.2.2.2 (by omega) (by omega) (by rw [List.length_append]; omega) (by rw [List.length_append]; omega) (by omega) (by omega) (by omega)
        rw [nms_grown he1, nms_grown he2] at hal
        refine hal.mono ?_
        rintro e x3 ⟨rfl, ⟨ca6, cb6, r5, r6, p6'⟩, g6'⟩
        have g6 := g5.trans g6'
        exact ⟨rfl, XSf x3 g6 p6'.a.lt, Df x3 _ _ g6 p6' (by omega) (by omega)⟩
theorem pairOK : ∀ d, PairOK d
  | 0 => fun a => nomatch a
  | d + 1 => pair_step d (pairOK d)
end Go.Proofs.YtegdloenakachaaGreatDoor

namespace Go.Proofs.YtegdloenakachaaGreatDoor
open Go.RowKit Go.Shelf Go.Maps
set_option linter.unusedVariables false

set_option maxRecDepth 100000 in
set_option maxHeartbeats 4000000 in
theorem same0_c (d : Nat) (a b : Tr d) (B ga xa gb xb : Nat) (w : World) (ha : ExAt w B d a ga xa) (hb : ExAt w B d b gb xb) (hw : B ≤ w.heap.size) (hN : NmOK d a) (hM : NmOK d b) (hca : 2 * costM d a ≤ 2000000) (hcb : 2 * costM d b ≤ 2000000) (hza : sizeM d a ≤ 2000000) (hzb : sizeM d b ≤ 2000000) :
    Calls Tryz.prog 38 #[.pointer (some ⟨ga, xa, none⟩), .pointer (some ⟨gb, xb, none⟩)] w fun e w' => e = .returned (.bool (sameM d a b [] [])) ∧ Below w.heap.size w w' := by
  have HC : Hid (∀ (W : World) (P ma mb : Nat), Below w.heap.size w W → w.heap.size ≤ P → w.heap.size ≤ ma → w.heap.size ≤ mb → PrSt W P ma mb 0 0 [] [] → Calls Tryz.prog 76 #[.pointer (some ⟨P, 0, none⟩), .pointer (some ⟨ga, xa, none⟩), .pointer (some ⟨gb, xb, none⟩)] W fun e w' => e = .returned (.bool (sameM d a b [] [])) ∧ Below w.heap.size w w') := fun W P ma mb hB h1 h2 h3 h4 => by
    have hsz := hB.size
    refine (pairOK d a b B ga xa gb xb P ma mb 0 0 [] [] W (ExAt.same (fun g' off' hg' => cell_of_block (hB.block g' (by omega)) off') d _ _ _ ha) (ExAt.same (fun g' off' hg' => cell_of_block (hB.block g' (by omega)) off') d _ _ _ hb) (by omega) (by omega) (by omega) (by omega) h4 hN hM (by omega) (by omega) (by simp; omega) (by simp; omega) hza hzb).mono ?_
    rintro e w' ⟨rfl, -, q4⟩
    exact ⟨rfl, ⟨q4.os.trans hB.os, q4.tape.trans hB.tape, q4.output.trans hB.output, by have := q4.size; omega, fun k hk => (q4.block k (by omega) (by omega) (by omega) (by omega)).trans (hB.block k hk)⟩⟩
  have hga : ga < w.heap.size := Nat.lt_of_lt_of_le ha.lt hw
  have hgb : gb < w.heap.size := Nat.lt_of_lt_of_le hb.lt hw
  generalize sameM d a b [] [] = R at HC ⊢
  clear ha hb hw hN hM hca hcb hza hzb
  go_enter Tryz.func38, Tryz.ntmps38
  go_wp2_with (go_at_call 60; fail)
  refine (newScope_c w).mono ?_
  rintro e w1 ⟨m1, rfl, hm1, hF1, hB1⟩
  have H1 : Hid (FrMap w1 m1 0 (fnd []) ∧ Below w.heap.size w w1 ∧ w.heap.size ≤ m1) := ⟨hF1, hB1, hm1⟩
  clear hF1 hB1 hm1
  go_wp2_with (go_at_call 60; fail)
  refine (newScope_c w1).mono ?_
  rintro e w2 ⟨m2, rfl, hm2, hF2, hB2⟩
  have H2 : Hid (FrMap w2 m2 0 (fnd []) ∧ Below w1.heap.size w1 w2 ∧ w1.heap.size ≤ m2) := ⟨hF2, hB2, hm2⟩
  clear hF2 hB2 hm2
  obtain ⟨V, hV⟩ : ∃ V, w2.alloc (Obj.cells #[.pointer none, .map none, .pointer none, .map none] 123) = V := ⟨_, rfl⟩
  have k0 : Blk V w2.heap.size #[.pointer none, .map none, .pointer none, .map none] 123 := by rw [← hV]; exact Blk.new w2 _ _
  have b0 : Below w2.heap.size w2 V := by rw [← hV]; exact below1 w2 _
  have f1 : FrMap w2 m1 0 (fnd []) := H1.out.1.same (H2.out.2.1.block m1 H1.out.1.lt)
  have f2 : FrMap w2 m2 0 (fnd []) := H2.out.1
  obtain ⟨N, hN⟩ : ∃ N, w2.heap.size = N := ⟨_, rfl⟩
  have l1 : m1 < N := by rw [← hN]; exact f1.lt
  have l2 : m2 < N := by rw [← hN]; exact f2.lt
  rw [hN] at k0 b0
  obtain ⟨V1, hV1⟩ : ∃ V1, V.setCell ⟨N, 0, none⟩ (.pointer none) = V1 := ⟨_, rfl⟩
  have k1 : Blk V1 N #[.pointer none, .map none, .pointer none, .map none] 123 := by rw [← hV1]; exact k0.set 0 _
  obtain ⟨V2, hV2⟩ : ∃ V2, V1.setCell ⟨N, 1, none⟩ (.map (some m1)) = V2 := ⟨_, rfl⟩
  have k2 : Blk V2 N #[.pointer none, .map (some m1), .pointer none, .map none] 123 := by rw [← hV2]; exact k1.set 1 _
  obtain ⟨V3, hV3⟩ : ∃ V3, V2.setCell ⟨N, 2, none⟩ (.pointer none) = V3 := ⟨_, rfl⟩
  have k3 : Blk V3 N #[.pointer none, .map (some m1), .pointer none, .map none] 123 := by rw [← hV3]; exact k2.set 2 _
  obtain ⟨V4, hV4⟩ : ∃ V4, V3.setCell ⟨N, 3, none⟩ (.map (some m2)) = V4 := ⟨_, rfl⟩
  have k4 : Blk V4 N #[.pointer none, .map (some m1), .pointer none, .map (some m2)] 123 := by rw [← hV4]; exact k3.set 3 _
  have e0 : V.cell? ⟨N, 0, none⟩ = some (.pointer none) := k0.cell 0 _ rfl
  have e1 : V1.cell? ⟨N, 1, none⟩ = some (.map none) := k1.cell 1 _ rfl
  have e2 : V2.cell? ⟨N, 2, none⟩ = some (.pointer none) := k2.cell 2 _ rfl
  have e3 : V3.cell? ⟨N, 3, none⟩ = some (.map none) := k3.cell 3 _ rfl
  have g0 := k0.frozen 0
  have g1 := k1.frozen 1
  have g2 := k2.frozen 2
  have g3 := k3.frozen 3
  have HB4 : Below N w2 V4 := by
    rw [← hV4, ← hV3, ← hV2, ← hV1]
    exact (((b0.setCell (p := ⟨N, 0, none⟩) (Nat.le_refl _) _).setCell (p := ⟨N, 1, none⟩) (Nat.le_refl _) _).setCell (p := ⟨N, 2, none⟩) (Nat.le_refl _) _).setCell (p := ⟨N, 3, none⟩) (Nat.le_refl _) _
  have hsz : w.heap.size ≤ N := by have := H1.out.2.1.size; have := H2.out.2.1.size; omega
  have lga : ga < V4.heap.size := by have := HB4.size; omega
  have lgb : gb < V4.heap.size := by have := HB4.size; omega
  have lN : N < V4.heap.size := k4.lt
  have HP : Hid (Calls Tryz.prog 76 #[.pointer (some ⟨N, 0, none⟩), .pointer (some ⟨ga, xa, none⟩), .pointer (some ⟨gb, xb, none⟩)] V4 fun e w' => e = .returned (.bool R) ∧ Below w.heap.size w w') := by
    refine HC.out V4 N m1 m2 ?_ hsz H1.out.2.2 (by have := H2.out.2.2; have := H1.out.2.1.size; omega) ⟨⟨by omega, k4.cell 0 _ rfl, k4.frozen 0, k4.cell 1 _ rfl, f1.same (HB4.block m1 l1), trivial, k4.lt⟩, ⟨by omega, k4.cell 2 _ rfl, k4.frozen 2, k4.cell 3 _ rfl, f2.same (HB4.block m2 l2), trivial, k4.lt⟩, ?_⟩
    · exact (H1.out.2.1.trans (H2.out.2.1.mono H1.out.2.1.size)).trans (HB4.mono hsz)
    · have := H1.out.1.lt; have := H2.out.2.2; omega
  clear k0 k1 k2 k3 k4 b0 f1 f2 l1 l2 HB4 hsz HC H1 H2 hga hgb
  go_wp2_with (go_at_call 76; fail)
  refine HP.out.mono ?_
  rintro e w9 ⟨rfl, hb9⟩
  have HB9 : Hid (Below w.heap.size w w9) := hb9
  clear hb9 HP
  go_wp2
  go_ret
  exact ⟨rfl, HB9.out⟩
end Go.Proofs.YtegdloenakachaaGreatDoor

namespace Go.Proofs.YtegdloenakachaaGreatDoor
open Go.RowKit Go.Shelf Go.Maps
set_option linter.unusedVariables false

theorem TxIn.mono {W : World} {B B' : Nat} {o : Option Addr} {l : List ByteArray} (h : TxIn W B o l) (hB : B ≤ B') : TxIn W B' o l := by
  rcases h with h | ⟨g, off, e, hg, h⟩
  · exact .inl h
  · exact .inr ⟨g, off, e, by omega, h⟩
theorem RowIn.up {α : Type} {B B' n : Nat} {p q : α → Nat → Nat → Prop} {o : Option Addr} {l : List α} (h : RowIn B n p o l) (hB : B ≤ B') (hpq : ∀ x g off, g < B → p x g off → q x g off) : RowIn B' n q o l := by
  rcases h with h | ⟨g, off, e, hg, h⟩
  · exact .inl h
  · exact .inr ⟨g, off, e, by omega, fun k hk => hpq _ _ _ hg (h k hk)⟩
theorem ExAt.up {W : World} {B B' : Nat} (hB : B ≤ B') : ∀ (d : Nat) (t : Tr d) (g off : Nat), ExAt W B d t g off → ExAt W B' d t g off
  | 0, t, _, _, _ => nomatch t
  | d + 1, t, g, off, h => by
    obtain ⟨hg, h0, h1, h2, ⟨o3, c3, h3, k3⟩, ⟨o4, c4, h4, k4⟩, ⟨o5, c5, h5, k5⟩, ⟨o6, c6, h6, k6⟩⟩ := h
    refine ⟨by omega, h0, h1, h2, ⟨o3, c3, h3, k3.mono hB⟩, ⟨o4, c4, h4, k4.up hB ?_⟩, ⟨o5, c5, h5, k5.up hB ?_⟩, ⟨o6, c6, h6, k6.up hB ?_⟩⟩
    · rintro x g off hg ⟨e1, e2⟩
      exact ⟨e1, ExAt.up hB d _ _ _ e2⟩
    · intro x g off hg e
      exact ExAt.up hB d _ _ _ e
    · rintro x g off hg ⟨e1, e2, e3, ⟨o, c, e4, e5⟩, e6⟩
      exact ⟨e1, e2, e3, ⟨o, c, e4, e5.mono hB⟩, ExAt.up hB d _ _ _ e6⟩
/-- An expression as a value, its rows in memory. -/
def ExVal (W : World) (B d : Nat) (t : Tr (d + 1)) (v : Value) : Prop := ∃ o3 c3 o4 c4 o5 c5 o6 c6, v = .agg #[.int .i64 (TrN.kind t), .string (TrN.name t), .int .i64 (TrN.num t), .slice o3 (TrN.params t).length c3, .slice o4 (TrN.binds t).length c4, .slice o5 (TrN.args t).length c5, .slice o6 (TrN.alts t).length c6] ∧ TxIn W B o3 (TrN.params t) ∧
  RowIn B 8 (fun (b : ByteArray × Tr d) g off => W.cell? ⟨g, off, none⟩ = some (.string b.1) ∧ ExAt W B d b.2 g (off + 1)) o4 (TrN.binds t) ∧ RowIn B 7 (fun (x : Tr d) g off => ExAt W B d x g off) o5 (TrN.args t) ∧ RowIn B 11 (AltAt W B d) o6 (TrN.alts t)
theorem ExVal.same {W W' : World} {B d : Nat} {t : Tr (d + 1)} {v : Value} (h : ExVal W B d t v) (hb : ∀ g off, g < B → W'.cell? ⟨g, off, none⟩ = W.cell? ⟨g, off, none⟩) : ExVal W' B d t v := by
  obtain ⟨o3, c3, o4, c4, o5, c5, o6, c6, e, k3, k4, k5, k6⟩ := h
  exact ⟨o3, c3, o4, c4, o5, c5, o6, c6, e, k3.same hb, k4.mono (fun x g off hg h => ⟨(hb _ _ hg).trans h.1, ExAt.same hb d _ _ _ h.2⟩), k5.mono (fun x g off hg h => ExAt.same hb d _ _ _ h), k6.mono (fun x g off hg h => AltAt.same hb h)⟩
/-- A value whose cells lie in a block. -/
theorem ExVal.at {W : World} {B N d : Nat} {t : Tr (d + 1)} {cs : Array Value} {T : TypeId} (h : ExVal W B d t (.agg cs)) (hN : B ≤ N) (hk : Blk W N cs T) : ExAt W (N + 1) (d + 1) t N 0 := by
  obtain ⟨o3, c3, o4, c4, o5, c5, o6, c6, e, k3, k4, k5, k6⟩ := h
  cases e
  have hB : B ≤ N + 1 := by omega
  refine ⟨by omega, hk.cell 0 _ rfl, hk.cell 1 _ rfl, hk.cell 2 _ rfl, ⟨o3, c3, hk.cell 3 _ rfl, k3.mono hB⟩, ⟨o4, c4, hk.cell 4 _ rfl, k4.up hB ?_⟩, ⟨o5, c5, hk.cell 5 _ rfl, k5.up hB ?_⟩, ⟨o6, c6, hk.cell 6 _ rfl, k6.up hB ?_⟩⟩
  · rintro x g off hg ⟨e1, e2⟩
    exact ⟨e1, ExAt.up hB d _ _ _ e2⟩
  · intro x g off hg e
    exact ExAt.up hB d _ _ _ e
  · rintro x g off hg ⟨e1, e2, e3, ⟨o, c, e4, e5⟩, e6⟩
    exact ⟨e1, e2, e3, ⟨o, c, e4, e5.mono hB⟩, ExAt.up hB d _ _ _ e6⟩
set_option maxRecDepth 100000 in
set_option maxHeartbeats 4000000 in
theorem Same_c (d : Nat) (a b : Tr (d + 1)) (va vb : Value) (B : Nat) (w : World) (ha : ExVal w B d a va) (hb : ExVal w B d b vb) (hw : B ≤ w.heap.size) (hN : NmOK (d + 1) a) (hM : NmOK (d + 1) b) (hca : 2 * costM (d + 1) a ≤ 2000000) (hcb : 2 * costM (d + 1) b ≤ 2000000) (hza : sizeM (d + 1) a ≤ 1048576) (hzb : sizeM (d + 1) b ≤ 1048576) (hd : d + 1 ≤ 4096) :
    Calls Tryz.prog 16 #[va, vb] w fun e w' => e = .returned (.bool (sameM (d + 1) a b [] [])) ∧ Below w.heap.size w w' := by
  obtain ⟨o3, c3, o4, c4, o5, c5, o6, c6, ea, -⟩ := id ha
  obtain ⟨p3, d3, p4, d4, p5, d5, p6, d6, eb, -⟩ := id hb
  subst ea eb
  obtain ⟨V, hV⟩ : ∃ V, w.alloc (.cells #[.int .i64 (TrN.kind a), .string (TrN.name a), .int .i64 (TrN.num a), .slice o3 (TrN.params a).length c3, .slice o4 (TrN.binds a).length c4, .slice o5 (TrN.args a).length c5, .slice o6 (TrN.alts a).length c6] 31) = V := ⟨_, rfl⟩
  have k0 : Blk V w.heap.size #[.int .i64 (TrN.kind a), .string (TrN.name a), .int .i64 (TrN.num a), .slice o3 (TrN.params a).length c3, .slice o4 (TrN.binds a).length c4, .slice o5 (TrN.args a).length c5, .slice o6 (TrN.alts a).length c6] 31 := by rw [← hV]; exact Blk.new w _ _
  have b0 : Below w.heap.size w V := by rw [← hV]; exact below1 w _
  have hVs : V.heap.size = w.heap.size + 1 := by rw [← hV]; exact Array.size_push _
  obtain ⟨U, hU⟩ : ∃ U, V.alloc (.cells #[.int .i64 (TrN.kind b), .string (TrN.name b), .int .i64 (TrN.num b), .slice p3 (TrN.params b).length d3, .slice p4 (TrN.binds b).length d4, .slice p5 (TrN.args b).length d5, .slice p6 (TrN.alts b).length d6] 31) = U := ⟨_, rfl⟩
  have k1 : Blk U V.heap.size #[.int .i64 (TrN.kind b), .string (TrN.name b), .int .i64 (TrN.num b), .slice p3 (TrN.params b).length d3, .slice p4 (TrN.binds b).length d4, .slice p5 (TrN.args b).length d5, .slice p6 (TrN.alts b).length d6] 31 := by rw [← hU]; exact Blk.new V _ _
  have b1 : Below V.heap.size V U := by rw [← hU]; exact below1 V _
  have hUs : U.heap.size = w.heap.size + 1 + 1 := by rw [← hVs, ← hU]; exact Array.size_push _
  have b2 : Below w.heap.size w U := b0.trans (b1.mono (by omega))
  have k0' : Blk U w.heap.size #[.int .i64 (TrN.kind a), .string (TrN.name a), .int .i64 (TrN.num a), .slice o3 (TrN.params a).length c3, .slice o4 (TrN.binds a).length c4, .slice o5 (TrN.args a).length c5, .slice o6 (TrN.alts a).length c6] 31 := by unfold Blk; rw [b1.block _ (by omega)]; exact k0
  have hcell : ∀ g off, g < B → U.cell? ⟨g, off, none⟩ = w.cell? ⟨g, off, none⟩ := fun g off hg => cell_of_block (b2.block g (by omega)) off
  have xa : ExAt U (w.heap.size + 1 + 1) (d + 1) a w.heap.size 0 := ExAt.up (by omega) (d + 1) _ _ _ ((ha.same hcell).at hw k0')
  have xb : ExAt U (w.heap.size + 1 + 1) (d + 1) b (w.heap.size + 1) 0 := by rw [hVs] at k1; exact (hb.same hcell).at (by omega) k1
  have HB : Hid (Below w.heap.size w U) := b2
  have HA : Hid (∀ X : World, Below U.heap.size U X → Calls Tryz.prog 30 #[.pointer (some ⟨w.heap.size, 0, none⟩)] X fun e w' => e = .returned (.bool true) ∧ Below U.heap.size U w') := fun X hX => by
    refine (fits_c (d + 1) a (w.heap.size + 1 + 1) w.heap.size 0 X (xa.below (hX.mono (by omega))) (by have := hX.size; omega) hza hd).mono ?_
    rintro e w' ⟨rfl, h9⟩
    exact ⟨rfl, hX.trans (h9.mono hX.size)⟩
  have HBb : Hid (∀ X : World, Below U.heap.size U X → Calls Tryz.prog 30 #[.pointer (some ⟨w.heap.size + 1, 0, none⟩)] X fun e w' => e = .returned (.bool true) ∧ Below U.heap.size U w') := fun X hX => by
    refine (fits_c (d + 1) b (w.heap.size + 1 + 1) (w.heap.size + 1) 0 X (xb.below (hX.mono (by omega))) (by have := hX.size; omega) hzb hd).mono ?_
    rintro e w' ⟨rfl, h9⟩
    exact ⟨rfl, hX.trans (h9.mono hX.size)⟩
  have HS : Hid (∀ X : World, Below U.heap.size U X → Calls Tryz.prog 38 #[.pointer (some ⟨w.heap.size, 0, none⟩), .pointer (some ⟨w.heap.size + 1, 0, none⟩)] X fun e w' => e = .returned (.bool (sameM (d + 1) a b [] [])) ∧ Below U.heap.size U w') := fun X hX => by
    refine (same0_c (d + 1) a b (w.heap.size + 1 + 1) w.heap.size 0 (w.heap.size + 1) 0 X (xa.below (hX.mono (by omega))) (xb.below (hX.mono (by omega))) (by have := hX.size; omega) hN hM hca hcb (by omega) (by omega)).mono ?_
    rintro e w' ⟨rfl, h9⟩
    exact ⟨rfl, hX.trans (h9.mono hX.size)⟩
  generalize sameM (d + 1) a b [] [] = R at HS ⊢
  clear ha hb hN hM hca hcb hza hzb k0 k1 k0' b0 b1 b2 xa xb hcell
  go_enter Tryz.func16, Tryz.ntmps16
  go_wp2_with (go_at_call 30; fail)
  (try rw [hV])
  (try rw [hU])
  refine (HA.out U (Below.refl _ _)).mono ?_
  rintro e w1 ⟨rfl, h1⟩
  have H1 : Hid (Below U.heap.size U w1) := h1
  clear h1 HA
  go_wp2_with (go_at_call 30; fail)
  refine (HBb.out w1 H1.out).mono ?_
  rintro e w2 ⟨rfl, h2⟩
  have H2 : Hid (Below U.heap.size U w2) := h2
  clear h2 HBb H1
  go_wp2_with (go_at_call 38; fail)
  refine (HS.out w2 H2.out).mono ?_
  rintro e w3 ⟨rfl, h3⟩
  have H3 : Hid (Below w.heap.size w w3) := HB.out.trans (h3.mono HB.out.size)
  clear h3 HS H2
  go_wp2
  go_ret
  exact ⟨rfl, H3.out⟩
end Go.Proofs.YtegdloenakachaaGreatDoor

namespace Go.Proofs.YtegdloenakachaaGreatDoor
open Go.RowKit Go.Shelf Go.Maps
set_option linter.unusedVariables false

set_option maxRecDepth 100000 in
set_option maxHeartbeats 4000000 in
theorem Size_c (d : Nat) (a : Tr (d + 1)) (va : Value) (B : Nat) (w : World) (ha : ExVal w B d a va) (hw : B ≤ w.heap.size) (hza : sizeM (d + 1) a ≤ 1048576) (hd : d + 1 ≤ 4096) :
    Calls Tryz.prog 15 #[va] w fun e w' => e = .returned (.int .i64 (sizeM (d + 1) a : Int)) ∧ Below w.heap.size w w' := by
  obtain ⟨o3, c3, o4, c4, o5, c5, o6, c6, ea, -⟩ := id ha
  subst ea
  obtain ⟨V, hV⟩ : ∃ V, w.alloc (.cells #[.int .i64 (TrN.kind a), .string (TrN.name a), .int .i64 (TrN.num a), .slice o3 (TrN.params a).length c3, .slice o4 (TrN.binds a).length c4, .slice o5 (TrN.args a).length c5, .slice o6 (TrN.alts a).length c6] 31) = V := ⟨_, rfl⟩
  have k0 : Blk V w.heap.size #[.int .i64 (TrN.kind a), .string (TrN.name a), .int .i64 (TrN.num a), .slice o3 (TrN.params a).length c3, .slice o4 (TrN.binds a).length c4, .slice o5 (TrN.args a).length c5, .slice o6 (TrN.alts a).length c6] 31 := by rw [← hV]; exact Blk.new w _ _
  have b0 : Below w.heap.size w V := by rw [← hV]; exact below1 w _
  have hVs : V.heap.size = w.heap.size + 1 := by rw [← hV]; exact Array.size_push _
  obtain ⟨U0, hU0⟩ : ∃ U0, V.alloc (.cells #[.int .i64 0] 75) = U0 := ⟨_, rfl⟩
  have k1 : Blk U0 (w.heap.size + 1) #[.int .i64 0] 75 := by rw [← hVs, ← hU0]; exact Blk.new V _ _
  have b1 : Below V.heap.size V U0 := by rw [← hU0]; exact below1 V _
  obtain ⟨U, hU⟩ : ∃ U, U0.setCell ⟨w.heap.size + 1, 0, none⟩ (.int .i64 1048576) = U := ⟨_, rfl⟩
  have k2 : Blk U (w.heap.size + 1) #[.int .i64 1048576] 75 := by rw [← hU]; exact k1.set 0 _
  have b2 : Below (w.heap.size + 1) V U := by rw [← hU]; exact (b1.mono (show w.heap.size + 1 ≤ V.heap.size by omega)).setCell (p := ⟨w.heap.size + 1, 0, none⟩) (Nat.le_refl _) _
  have e0 : U0.cell? ⟨w.heap.size + 1, 0, none⟩ = some (.int .i64 0) := k1.cell 0 _ rfl
  have g0 := k1.frozen 0
  have lU : w.heap.size < U.heap.size := by have := b2.size; omega
  have lU1 : w.heap.size + 1 < U.heap.size := k2.lt
  have hcell : ∀ g off, g < B → V.cell? ⟨g, off, none⟩ = w.cell? ⟨g, off, none⟩ := fun g off hg => cell_of_block (b0.block g (by omega)) off
  have xa : ExAt U (w.heap.size + 1) (d + 1) a w.heap.size 0 := ((ha.same hcell).at hw k0).below b2
  have HB : Hid (Below w.heap.size w U) := b0.trans (b2.mono (by omega))
  obtain ⟨sz, hsz⟩ : ∃ sz, sizeM (d + 1) a = sz := ⟨_, rfl⟩
  rw [hsz]
  have hszi : (sz : Int) ≤ 1048576 := by omega
  have HC : Hid (Calls Tryz.prog 37 #[.pointer (some ⟨w.heap.size + 1, 0, none⟩), .pointer (some ⟨w.heap.size, 0, none⟩), .int .i64 4096] U fun e w' => e = .returned (.bool true) ∧ RmSt U w' (w.heap.size + 1) (1048576 - (sz : Int))) := by
    have h9 := roomOK (d + 1) a (w.heap.size + 1) w.heap.size 0 (w.heap.size + 1) 1048576 4096 U xa (Nat.le_refl _) (by omega) k2 (by omega) (by omega) (by omega) (by omega)
    rw [hsz] at h9
    exact h9
  clear ha hza k0 k1 k2 b0 b1 b2 xa hcell hsz
  go_enter Tryz.func15, Tryz.ntmps15
  go_wp2_with (go_at_call 37; fail)
  (try rw [hV])
  (try rw [hU0])
  (try rw [hU])
  refine HC.out.mono ?_
  rintro e w1 ⟨rfl, hr⟩
  have c1 : w1.cell? ⟨w.heap.size + 1, 0, none⟩ = some (.int .i64 (1048576 - (sz : Int))) := hr.1.cell 0 _ rfl
  have l1 : w.heap.size + 1 < w1.heap.size := hr.1.lt
  have HR : Hid (RmSt U w1 (w.heap.size + 1) (1048576 - (sz : Int))) := hr
  clear hr HC
  go_wp2
  go_ret
  have hes : (1048576 : Int) - (1048576 - (sz : Int)) = (sz : Int) := by omega
  refine ⟨by first | (show Ending.returned (.int .i64 (1048576 - (1048576 - (sz : Int)))) = _; rw [hes]) | rfl, ?_⟩
  obtain ⟨h1, h2⟩ := HR.out
  exact ⟨h2.os.trans HB.out.os, h2.tape.trans HB.out.tape, h2.output.trans HB.out.output, by have := HB.out.size; have := h2.size; omega, fun k hk => (h2.block k (by omega) (by omega)).trans (HB.out.block k hk)⟩
end Go.Proofs.YtegdloenakachaaGreatDoor

namespace Go.Proofs.YtegdloenakachaaGreatDoor
open Go.RowKit Go.Shelf Go.Maps Go.Sort
set_option linter.unusedVariables false

attribute [local go_sem] Oper.semAt_some

theorem info9 : (Tryz.prog.info? 9).map (fun i => (i.zero, i.size, i.bytes)) = some (some (.string ⟨#[]⟩), 1, 16) := by kernel_rfl
theorem owns_mono4 {W : World} {b b' : Nat} {e : TypeId} {z : Nat} {v : Value} {k : Nat} {xs : List Value} (h : W.ownsRow b e z v k xs) (hb : b' ≤ b) : W.ownsRow b' e z v k xs := by
  rcases h with ⟨hl, h | ⟨g, cap, cur, h1, h2, h3⟩⟩
  · exact ⟨hl, .inl h⟩
  · exact ⟨hl, .inr ⟨g, cap, cur, h1, Nat.le_trans hb h2, h3⟩⟩

set_option maxRecDepth 100000 in
set_option maxHeartbeats 2000000 in
theorem appendSeq_in (F : Fence) (n : Nat) (hF : ∀ k, F.fn k) (hro : F.round = none) (h1 : 1 ≤ n) (hn : 3 ≤ n) (B : Nat) (sv : Value) (k0 : Nat) (xs0 : List Value) (g : Nat) (lb : Array Value) (eg : ∀ args w, (callFunc g args).run Tryz.prog w = .ok (.enter g args) w)
    (S Sp : List (List UInt8) → Prop) (N : Nat) (hN : k0 + N ≤ 1000000) (w : World) (hB : B ≤ w.heap.size) (hrow0 : w.ownsRow B 9 1 sv k0 xs0) (hseq : SeqStops F (n - 1) Tryz.prog g lb encStr S Sp N w) :
    CallsIn F n Tryz.prog 114 #[sv, .func (.func g) #[] lb] w fun e W' => ∃ (v : Value) (ss : List (List UInt8)), e = .returned v ∧ S ss ∧ W'.ownsRow B 9 1 v (k0 + ss.length) (xs0 ++ ss.map encStr) ∧ Below B w W' := by
  obtain ⟨i0, hi, hz0, hz1, hz2⟩ := info_parts info9
  obtain ⟨so, sl, sc, rfl⟩ : ∃ so sl sc, sv = .slice so sl sc := by
    rcases hrow0.2 with ⟨rfl, _⟩ | ⟨gb, cap, cur, rfl, _⟩
    · exact ⟨_, _, _, rfl⟩
    · exact ⟨_, _, _, rfl⟩
  refine callsIn_of_wp_marks Tryz.func114 rfl (hF _) ?_ hro
  simp only [Tryz.ntmps114, List.size_toArray, List.length_cons, List.length_nil, Nat.reduceAdd, Nat.reduceSub, Array.replicate_succ, Array.replicate_zero, List.push_toArray, List.append_toArray, List.nil_append, List.cons_append]
  gi_wp2
  obtain ⟨W0, hW0⟩ : ∃ W0, w.alloc (.cells #[.slice so sl sc] 26) = W0 := ⟨_, rfl⟩
  have b0 : Boxed W0 w.heap.size 26 (.slice so sl sc) := by rw [← hW0]; exact Boxed.new w _ _
  have hB0 : Below B w W0 := by rw [← hW0]; exact (Below.refl _ _).alloc hB _
  have hB1 : Below w.heap.size w W0 := by rw [← hW0]; exact (Below.refl _ _).alloc (Nat.le_refl _) _
  have hr0 : W0.ownsRow B 9 1 (.slice so sl sc) k0 xs0 := by rw [← hW0]; exact hrow0.alloc _
  rw [hW0]
  have Hsz : Hid (W0.heap.size = w.heap.size + 1) := by show _ = _; rw [← hW0]; simp
  clear hW0
  refine wpIn_rangeFunc_ownG hro h1 (gf := g) (lb := lb) rfl (hF _) eg (w0 := w) (encs := fun x => #[encStr x]) (Kp := KeepsWalks) (S := S) (Sp := Sp) (N := N) hseq walksK_t (fun W l o o' hl => walksK_b (w := W0) W l o o' hl) hB1 (fun _ => rfl)
    (fun pre W => (∃ v, Boxed W w.heap.size 26 v ∧ W.ownsRow B 9 1 v (k0 + pre.length) (xs0 ++ pre.map encStr) ∧ True) ∧ Below B w W)
    (fun _ _ _ => False)
    (OwnFrom.and (Own.from (holdsRow_own B w.heap.size 26 9 1 (fun pre : List (List UInt8) => k0 + pre.length) (fun pre => xs0 ++ pre.map encStr) (fun pre v => True)) _) (ownFrom_below hB (by have := Hsz.out; omega)))
    (fun _ _ _ _ _ hs _ _ => hs)
    ⟨⟨_, b0, by simpa using hr0, trivial⟩, hB0⟩
    ?a1 ?assign ?body ?done ?stop
  case assign =>
    intro l x W K hK
    gi_wp2
    exact hK
  case body =>
    rintro l pre x W ⟨⟨v, hv, hrow, _⟩, hBW⟩ hlt
    have hc := hv.cell
    gi_wp2_with (gi_at_builtin; refine wpListIn_append_own _ rfl _ _ 26 rfl B 9 i0 (.string ⟨#[]⟩) 1 16 Tryz.underlying26 hi hz0 hz1 hz2 rfl (by decide) _ _ _ rfl (hrow.alloc _) ⟨W.heap.size, 0, none⟩ 1 1 [encStr x] rfl rfl (cell_one_new _ _ _) (by simp [Value.oneCell', encStr]) (by unfold maxLen; omega) (by omega) (by have := hBW.size; simp; omega) ?_; intro v' w1 hown' hgrow _; obtain ⟨g', cap', rfl⟩ := ownsRow_succ hown'; obtain ⟨hv1, hv2, hr2, hk2, hb2⟩ := hv.appended (n₀ := B) (by decide) hrow (Nat.le_trans hB hBW.size) hB hown' hgrow; have hc1 := hv1.cell; have hf1 := hv1.frozen)
    refine ⟨hk2.from _, hk2.walks, ⟨_, hv2, ?_, trivial⟩, hBW.trans hb2⟩
    have e1 : k0 + (pre ++ [x]).length = k0 + pre.length + 1 := by simp; omega
    have e2 : xs0 ++ (pre ++ [x]).map encStr = xs0 ++ pre.map encStr ++ [encStr x] := by simp
    rw [e1, e2]
    exact hr2
  case done =>
    rintro D ys W hD hS ⟨⟨v, hv, hrow, _⟩, hBW⟩ hK
    have hc := hv.cell
    gi_wp2
    refine ⟨by simp, .inl ⟨_, _, rfl, run_takeDeferred hK, ?_⟩⟩
    exact ⟨_, results_tmp rfl _ _ _, v, ys, rfl, hS, ownsRow_putObj hrow _ hK rfl, hBW.trans (belowK_b (w := w) hB W D _ _ (by have := Hsz.out; omega) hK rfl rfl)⟩
  case stop =>
    rintro D c pre W _ _ h _
    exact h.elim
end Go.Proofs.YtegdloenakachaaGreatDoor

namespace Go.Proofs.YtegdloenakachaaGreatDoor
open Go.RowKit Go.Shelf Go.Maps
set_option linter.unusedVariables false

set_option maxRecDepth 100000 in
set_option maxHeartbeats 4000000 in
theorem len64Z_c (w : World) : Calls Tryz.prog 153 #[.int .u64 0] w fun e w' => e = .returned (.int .i64 0) ∧ w' = w := by
  have hz : Lib.len8 0 = 0 := by decide
  go_enter Tryz.func153, Tryz.ntmps153
  go_wp2
  go_ret
  exact ⟨by first | (show Ending.returned (Value.int .i64 (wrap64 (wrap64 (Lib.len8 0)))) = _; rw [hz]; rfl) | rfl, rfl⟩
set_option maxRecDepth 100000 in
set_option maxHeartbeats 4000000 in
theorem lenZ_c (w : World) : Calls Tryz.prog 116 #[.int .u64 0] w fun e w' => e = .returned (.int .i64 0) ∧ w' = w := by
  have HC : Hid (Calls Tryz.prog 153 #[.int .u64 0] w fun e w' => e = .returned (.int .i64 0) ∧ w' = w) := len64Z_c w
  go_enter Tryz.func116, Tryz.ntmps116
  go_wp2_with (go_at_call 153; fail)
  refine HC.out.mono ?_
  rintro e w2 ⟨rfl, rfl⟩
  go_wp2
  go_ret
  exact ⟨rfl, rfl⟩
set_option maxRecDepth 100000 in
set_option maxHeartbeats 4000000 in
theorem insZ_c (w : World) : Calls Tryz.prog 143 #[.slice none 0 0, .int .i64 0, .int .i64 0] w fun e w' => e = .returned (.tuple #[]) ∧ w' = w := by
  go_enter Tryz.func143, Tryz.ntmps143
  go_wp2
  go_loopg [6, 7] 1 (fun g v6 v7 wr => v6 = .int .i64 1 ∧ wr = w)
  case atStart => exact ⟨rfl, rfl⟩
  case round =>
    obtain ⟨rfl, rfl⟩ := hrel
    go_wp2
    first
      | (go_end0; exact ⟨rfl, rfl⟩)
      | (go_ret; exact ⟨rfl, rfl⟩)
set_option maxRecDepth 100000 in
set_option maxHeartbeats 4000000 in
theorem pdqZ_c (w : World) : Calls Tryz.prog 115 #[.slice none 0 0, .int .i64 0, .int .i64 0, .int .i64 0] w fun e w' => e = .returned (.tuple #[]) ∧ w' = w := by
  have HC : Hid (Calls Tryz.prog 143 #[.slice none 0 0, .int .i64 0, .int .i64 0] w fun e w' => e = .returned (.tuple #[]) ∧ w' = w) := insZ_c w
  go_enter Tryz.func115, Tryz.ntmps115
  go_wp2
  go_loopg [1, 2] 1 (fun g v1 v2 wr => v1 = .int .i64 0 ∧ v2 = .int .i64 0 ∧ wr = w)
  case atStart => exact ⟨rfl, rfl, rfl⟩
  case round =>
    obtain ⟨rfl, rfl, rfl⟩ := hrel
    go_wp2_with (go_at_call 143; fail)
    refine HC.out.mono ?_
    rintro e w2 ⟨rfl, rfl⟩
    go_wp2
    first
      | (go_end0; exact ⟨rfl, rfl⟩)
      | (go_ret; exact ⟨rfl, rfl⟩)
      | exact bodyPost_ret (v := .tuple #[]) (by simp [results, Tryz.results115, go_sem]) rfl ⟨rfl, rfl⟩
set_option maxRecDepth 100000 in
set_option maxHeartbeats 4000000 in
theorem sortZ_c (w : World) : Calls Tryz.prog 71 #[.slice none 0 0] w fun e w' => e = .returned (.tuple #[]) ∧ w' = w := by
  have HL : Hid (Calls Tryz.prog 116 #[.int .u64 0] w fun e w' => e = .returned (.int .i64 0) ∧ w' = w) := lenZ_c w
  have HC : Hid (Calls Tryz.prog 115 #[.slice none 0 0, .int .i64 0, .int .i64 0, .int .i64 0] w fun e w' => e = .returned (.tuple #[]) ∧ w' = w) := pdqZ_c w
  go_enter Tryz.func71, Tryz.ntmps71
  go_wp2_with (go_at_call 116; fail)
  refine HL.out.mono ?_
  rintro e w2 ⟨rfl, rfl⟩
  go_wp2_with (go_at_call 115; fail)
  refine HC.out.mono ?_
  rintro e w3 ⟨rfl, rfl⟩
  go_wp2
  first
    | (go_end0; exact ⟨rfl, rfl⟩)
    | (go_ret; exact ⟨rfl, rfl⟩)
end Go.Proofs.YtegdloenakachaaGreatDoor

namespace Go.Proofs
open Go.Shelf
def Tryz.hLaysn190_ren : Go.Shelf.Ren := ⟨fun | 125 => 116 | 128 => 152 | 129 => 153 | 190 => 71 | 258 => 115 | 302 => 143 | 303 => 144 | 304 => 145 | 305 => 146 | 306 => 147 | 307 => 148 | 308 => 149 | 309 => 150 | 310 => 151 | 329 => 166 | 330 => 167 | 333 => 165 | 334 => 168 | 335 => 169 | 336 => 170 | 344 => 181 | n => n, fun | 0 => 0 | 3 => 3 | 4 => 4 | 5 => 5 | 9 => 9 | 31 => 26 | 46 => 153 | 51 => 187 | 53 => 189 | 131 => 184 | 182 => 178 | 183 => 179 | 218 => 197 | 222 => 165 | 228 => 213 | 229 => 214 | n => n, fun  | n => n⟩
theorem Tryz.hLaysn190 : Go.Proofs.Lays.n190 Tryz.prog Tryz.hLaysn190_ren := {
  mixed := by kernel_rfl
  f125 := Tryz.func116.trans (congrArg some (by kernel_rfl))
  f128 := Tryz.func152.trans (congrArg some (by kernel_rfl))
  f129 := Tryz.func153.trans (congrArg some (by kernel_rfl))
  f190 := Tryz.func71.trans (congrArg some (by kernel_rfl))
  f258 := Tryz.func115.trans (congrArg some (by kernel_rfl))
  f302 := Tryz.func143.trans (congrArg some (by kernel_rfl))
  f303 := Tryz.func144.trans (congrArg some (by kernel_rfl))
  f304 := Tryz.func145.trans (congrArg some (by kernel_rfl))
  f305 := Tryz.func146.trans (congrArg some (by kernel_rfl))
  f306 := Tryz.func147.trans (congrArg some (by kernel_rfl))
  f307 := Tryz.func148.trans (congrArg some (by kernel_rfl))
  f308 := Tryz.func149.trans (congrArg some (by kernel_rfl))
  f309 := Tryz.func150.trans (congrArg some (by kernel_rfl))
  f310 := Tryz.func151.trans (congrArg some (by kernel_rfl))
  f329 := Tryz.func166.trans (congrArg some (by kernel_rfl))
  f330 := Tryz.func167.trans (congrArg some (by kernel_rfl))
  f333 := Tryz.func165.trans (congrArg some (by kernel_rfl))
  f334 := Tryz.func168.trans (congrArg some (by kernel_rfl))
  f335 := Tryz.func169.trans (congrArg some (by kernel_rfl))
  f336 := Tryz.func170.trans (congrArg some (by kernel_rfl))
  f344 := Tryz.func181.trans (congrArg some (by kernel_rfl))
  t0 := Tryz.underlying0
  a0 := Tryz.isAgg0
  z0 := Tryz.sizeOf0
  v0 := Tryz.zeroValue0
  t3 := Tryz.underlying3
  a3 := Tryz.isAgg3
  z3 := Tryz.sizeOf3
  v3 := Tryz.zeroValue3
  t4 := Tryz.underlying4
  a4 := Tryz.isAgg4
  z4 := Tryz.sizeOf4
  v4 := Tryz.zeroValue4
  t5 := Tryz.underlying5
  a5 := Tryz.isAgg5
  z5 := Tryz.sizeOf5
  v5 := Tryz.zeroValue5
  t9 := Tryz.underlying9
  a9 := Tryz.isAgg9
  z9 := Tryz.sizeOf9
  v9 := Tryz.zeroValue9
  t31 := Tryz.underlying26
  a31 := Tryz.isAgg26
  z31 := Tryz.sizeOf26
  v31 := Tryz.zeroValue26
  t46 := Tryz.underlying153
  a46 := Tryz.isAgg153
  z46 := Tryz.sizeOf153
  v46 := Tryz.zeroValue153
  t51 := Tryz.underlying187
  a51 := Tryz.isAgg187
  z51 := Tryz.sizeOf187
  v51 := Tryz.zeroValue187
  t53 := Tryz.underlying189
  a53 := Tryz.isAgg189
  z53 := Tryz.sizeOf189
  v53 := Tryz.zeroValue189
  t131 := Tryz.underlying184
  a131 := Tryz.isAgg184
  z131 := Tryz.sizeOf184
  v131 := Tryz.zeroValue184
  t182 := Tryz.underlying178
  a182 := Tryz.isAgg178
  z182 := Tryz.sizeOf178
  v182 := Tryz.zeroValue178
  t183 := Tryz.underlying179
  a183 := Tryz.isAgg179
  z183 := Tryz.sizeOf179
  v183 := Tryz.zeroValue179
  t218 := Tryz.underlying197
  a218 := Tryz.isAgg197
  z218 := Tryz.sizeOf197
  v218 := Tryz.zeroValue197
  t222 := Tryz.underlying165
  a222 := Tryz.isAgg165
  z222 := Tryz.sizeOf165
  v222 := Tryz.zeroValue165
  t228 := Tryz.underlying213
  a228 := Tryz.isAgg213
  z228 := Tryz.sizeOf213
  v228 := Tryz.zeroValue213
  t229 := Tryz.underlying214
  a229 := Tryz.isAgg214
  z229 := Tryz.sizeOf214
  v229 := Tryz.zeroValue214 }
open Go.RowKit Go.Sort Go.Lib in
theorem Tryz.slices_Sort (blk off cap : Nat) (ss : List (List UInt8)) (w : World) (hH : Holds encStr w blk off ss.toArray) (hblk : blk < w.heap.size) (hsz : ss.length < 4611686018427387904) :
    Calls Tryz.prog 71 #[.slice (some ⟨blk, off, none⟩) ss.length cap] w fun e w' =>
      e = .returned (.tuple #[]) ∧ ∃ n os, w' = grow (putRow encStr (Sort.ahead w n) blk off (ss.mergeSort fun x y => decide (x ≤ y)).toArray) os := Any.slices_Sort_string Tryz.hLaysn190 blk off cap ss w hH hblk hsz
end Go.Proofs

namespace Go.Proofs.YtegdloenakachaaGreatDoor
open Go.RowKit Go.Shelf Go.Maps Go.Sort
set_option linter.unusedVariables false

def Tryz.keysS_ren : Go.Shelf.Ren := ⟨fun | 7 => 36 | 10 => 72 | n => n, fun | 0 => 0 | 3 => 63 | 4 => 4 | 23 => 65 | 26 => 9 | 27 => 71 | 28 => 72 | 33 => 117 | n => n, fun n => n⟩
theorem Tryz.keysS : Go.Proofs.SlLaysZ.n7 Tryz.prog Tryz.keysS_ren := {
  mixed := by kernel_rfl
  f7 := ⟨Tryz.f36.name, by kernel_rfl, Tryz.func36.trans (congrArg some (by kernel_rfl))⟩
  f10 := ⟨Tryz.f72.name, by kernel_rfl, Tryz.func72.trans (congrArg some (by kernel_rfl))⟩
  t0 := Tryz.underlying0
  a0 := Tryz.isAgg0
  z0 := Tryz.sizeOf0
  v0 := Tryz.zeroValue0
  t4 := Tryz.underlying4
  a4 := Tryz.isAgg4
  z4 := Tryz.sizeOf4
  v4 := Tryz.zeroValue4
  t23 := Tryz.underlying65
  a23 := Tryz.isAgg65
  z23 := Tryz.sizeOf65
  v23 := Tryz.zeroValue65
  t26 := Tryz.underlying9
  a26 := Tryz.isAgg9
  z26 := Tryz.sizeOf9
  v26 := Tryz.zeroValue9
  t27 := Tryz.underlying71
  a27 := Tryz.isAgg71
  z27 := Tryz.sizeOf71
  v27 := Tryz.zeroValue71
  t28 := Tryz.underlying72
  a28 := Tryz.isAgg72
  z28 := Tryz.sizeOf72
  v28 := Tryz.zeroValue72
  t33 := Tryz.underlying117
  a33 := Tryz.isAgg117
  z33 := Tryz.sizeOf117
  v33 := Tryz.zeroValue117 }


theorem keysS_in (F : Fence) (n : Nat) (hF : ∀ k, F.fn k) (hro : F.round = none) (b : Nat) (w : World) :
    CallsIn F n Tryz.prog 36 #[.map (some b)] w fun e w' => e = .returned (.func (.func 72) #[] #[.pointer (some ⟨w.heap.size, 0, none⟩)]) ∧ w' = w.alloc (.cells #[.map (some b)] 65) :=
  AnyZ.keys_in Tryz.keysS F n (hF _) hro (some b) w
theorem keysS_stops (F : Fence) (n : Nat) (hF : ∀ k, F.fn k) (hro : F.round = none) (hn : 1 ≤ n) (L : List (List UInt8)) (hnd : L.Nodup) (b c : Nat) (w : World) (h : SetIs w b c (fun x => decide (x ∈ L))) :
    SeqStops F n Tryz.prog 72 #[.pointer (some ⟨w.heap.size, 0, none⟩)] encStr (fun ss => ss.Perm L) (fun _ => True) c (w.alloc (.cells #[.map (some b)] 65)) := by
  obtain ⟨D, hown, hD, -, hall⟩ := h
  have hp : L.Perm (strKeys D) := by
    refine Collected.perm (left := fun _ => false) ⟨hnd, fun x => ?_⟩ hown (string_keyed Tryz.underlying9) Tryz.underlying9 (fun _ => rfl)
    rw [hall x]
    simp
  have hs := hown.size_le
  have hk := AnyZ.keys_stops (ρ := Tryz.keysS_ren) { Tryz.keysS with } F n (hF _) hro hn w.heap.size b c D (w.alloc (.cells #[.map (some b)] 65)) (by simp) (by simp) (hown.alloc _)
  intro l J Jx W hW hJ hJx hY h0
  refine (hk l J Jx W hW hJ hJx (fun pre x W1 hj hl => hY pre x W1 hj (Nat.lt_of_lt_of_le hl hs)) h0).mono ?_
  rintro e W' ⟨hv, h | h⟩
  · obtain ⟨xs, hS, hj⟩ := h
    exact ⟨hv, .inl ⟨xs, hS.1.trans hp.symm, hj⟩⟩
  · obtain ⟨pre, _, hj⟩ := h
    exact ⟨hv, .inr ⟨pre, trivial, hj⟩⟩
set_option maxRecDepth 100000 in
set_option maxHeartbeats 1000000 in
theorem collect_in (F : Fence) (n : Nat) (hF : ∀ k, F.fn k) (hro : F.round = none) (hn : 4 ≤ n) (g : Nat) (lb : Array Value) (eg : ∀ args w, (callFunc g args).run Tryz.prog w = .ok (.enter g args) w)
    (S Sp : List (List UInt8) → Prop) (N : Nat) (hN : N ≤ 1000000) (w : World) (hseq : SeqStops F (n - 1 - 1) Tryz.prog g lb encStr S Sp N w) :
    CallsIn F n Tryz.prog 70 #[.func (.func g) #[] lb] w fun e W' => ∃ (v : Value) (ss : List (List UInt8)), e = .returned v ∧ S ss ∧ W'.ownsRow w.heap.size 9 1 v ss.length (ss.map encStr) ∧ Below w.heap.size w W' := by
  have hfs : ∀ k, F.fn k := hF
  refine callsIn_of_wp Tryz.func70 rfl (hF _) ?_ hro
  simp only [Tryz.ntmps70, List.size_toArray, List.length_cons, List.length_nil, Nat.reduceAdd, Nat.reduceSub, Array.replicate_succ, Array.replicate_zero, List.push_toArray, List.append_toArray, List.nil_append, List.cons_append]
  have h1 : 1 ≤ n := by omega
  gi_wp2_with (gi_at_call 114; refine (appendSeq_in F (n - 1) hF hro (by omega) (by omega) w.heap.size (.slice none 0 0) 0 [] g lb eg S Sp N (by omega) w (Nat.le_refl _) (World.ownsRow_nil _ _ _ _) hseq).mono ?_; rintro e w' ⟨v, ss, rfl, hS, hrow, hb⟩)
  go_ret
  exact ⟨v, ss, rfl, hS, by simpa using hrow, hb⟩

theorem own_below4 {W W' : World} {b : Nat} {e : TypeId} {z : Nat} {v : Value} {k : Nat} {xs : List Value} (h : W.ownsRow b e z v k xs) (hb : Below W.heap.size W W') : W'.ownsRow b e z v k xs := by
  rcases h with ⟨hl, h | ⟨g, cap, cur, h1, h2, h3, h4⟩⟩
  · exact ⟨hl, .inl h⟩
  · exact ⟨hl, .inr ⟨g, cap, cur, h1, h2, (hb.block g (Array.getElem?_eq_some_iff.1 h3).1).trans h3, h4⟩⟩
set_option maxRecDepth 100000 in
set_option maxHeartbeats 4000000 in
theorem sort4_c (B : Nat) (ss : List (List UInt8)) (v : Value) (w : World) (hr : w.ownsRow B 9 1 v ss.length (ss.map encStr)) (hl : ss.length ≤ 1000000) (hB : B ≤ w.heap.size) : Calls Tryz.prog 71 #[v] w fun e w' => e = .returned (.tuple #[]) ∧ w'.ownsRow B 9 1 v ss.length ((ss.mergeSort leB).map encStr) ∧ Below B w w' := by
  rcases hr.2 with ⟨rfl, hz⟩ | ⟨gb, cap, cur, rfl, hbase, hgb, r1, r2, r3, r4⟩
  · have he : ss = [] := List.length_eq_zero_iff.1 hz
    subst he
    refine (sortZ_c w).mono ?_
    rintro e w' ⟨rfl, rfl⟩
    exact ⟨rfl, by simpa using hr, Below.refl _ _⟩
  · have hH : Holds encStr w gb 0 ss.toArray := holds_of_block hgb (by simpa using r4)
    have hgl : gb < w.heap.size := (Array.getElem?_eq_some_iff.1 hgb).1
    refine (Tryz.slices_Sort gb 0 cap ss w hH hgl (by omega)).mono ?_
    rintro e w7 ⟨rfl, n, os, rfl⟩
    refine ⟨rfl, ?_, (Below.refl B w).grown (grownBy_sorted _) hB (fun j hj => by cases hj; exact hbase)⟩
    exact ownsRow_sorted (w := w) (base := B) (g := gb) (cap := cap) (n := n) (e := 9) (os := os) (cur := cur) (ss := ss) (ts := ss.mergeSort leB) (by simp) hbase hgb r1 r2 r3
set_option maxRecDepth 100000 in
set_option maxHeartbeats 4000000 in
theorem sorted4_c (L : List (List UInt8)) (hL : L.length ≤ 1000000) (c : Nat) (hc : c ≤ 1000000) (lb : Array Value) (w : World) (hseq : SeqStops Fence.wide 3 Tryz.prog 72 lb encStr (fun ss => ss.Perm L) (fun _ => True) c w) :
    Calls Tryz.prog 35 #[.func (.func 72) #[] lb] w fun e W' => ∃ v, e = .returned v ∧ W'.ownsRow w.heap.size 9 1 v L.length ((L.mergeSort leB).map encStr) ∧ Below w.heap.size w W' := by
  have HC : Hid (Calls Tryz.prog 70 #[.func (.func 72) #[] lb] w fun e W' => ∃ (v : Value) (ss : List (List UInt8)), e = .returned v ∧ ss.Perm L ∧ W'.ownsRow w.heap.size 9 1 v ss.length (ss.map encStr) ∧ Below w.heap.size w W') := callsIn_wide.1 (collect_in Fence.wide 5 (fun _ => trivial) rfl (by omega) 72 _ (enters_of Tryz.func72 (by kernel_rfl) rfl) _ _ c hc w hseq)
  clear hseq hc
  go_enter Tryz.func35, Tryz.ntmps35
  go_wp2_with (go_at_call 70; fail)
  refine HC.out.mono ?_
  rintro e w1 ⟨v, ss, rfl, hp, hr, hb⟩
  have hlen : ss.length = L.length := hp.length_eq
  have HS : Hid (Calls Tryz.prog 71 #[v] w1 fun e w' => e = .returned (.tuple #[]) ∧ w'.ownsRow w.heap.size 9 1 v L.length ((L.mergeSort leB).map encStr) ∧ Below w.heap.size w1 w') := by
    have := sort4_c w.heap.size ss v w1 hr (by omega) hb.size
    rw [hlen, mergeSort_of_perm hp] at this
    exact this
  have HB : Hid (Below w.heap.size w w1) := hb
  clear hp hr hb hlen HC
  go_wp2_with (go_at_call 71; fail)
  refine HS.out.mono ?_
  rintro e w2 ⟨rfl, hr2, hb2⟩
  have HE : Hid (w2.ownsRow w.heap.size 9 1 v L.length ((L.mergeSort leB).map encStr) ∧ Below w.heap.size w w2) := ⟨hr2, HB.out.trans hb2⟩
  clear hr2 hb2 HS
  go_wp2
  go_ret
  exact ⟨_, rfl, HE.out⟩
/-- Each once. -/
def dd : List (List UInt8) → List (List UInt8)
  | [] => []
  | x :: l => if x ∈ dd l then dd l else x :: dd l
theorem dd_mem : ∀ (l : List (List UInt8)) (x : List UInt8), x ∈ dd l ↔ x ∈ l
  | [], x => Iff.rfl
  | y :: l, x => by
    have ih := dd_mem l
    unfold dd
    split
    · rename_i h
      rw [ih]
      constructor
      · intro hx; simp [hx]
      · intro hx
        rcases List.mem_cons.1 hx with rfl | hx
        · exact (ih _).1 h
        · exact hx
    · simp only [List.mem_cons, ih]
theorem dd_nodup : ∀ l : List (List UInt8), (dd l).Nodup
  | [] => List.nodup_nil
  | y :: l => by
    have ih := dd_nodup l
    unfold dd
    split
    · exact ih
    · rename_i h
      exact List.nodup_cons.2 ⟨h, ih⟩
theorem dd_len : ∀ l : List (List UInt8), (dd l).length ≤ l.length
  | [] => Nat.le_refl _
  | y :: l => by
    have ih := dd_len l
    unfold dd
    split
    · simp; omega
    · simp; omega
end Go.Proofs.YtegdloenakachaaGreatDoor

namespace Go.Proofs.YtegdloenakachaaGreatDoor
open Go.RowKit Go.Shelf Go.Maps Go.Sort
set_option linter.unusedVariables false

set_option maxRecDepth 100000 in
set_option maxHeartbeats 4000000 in
theorem Free_c (d : Nat) (a : Tr (d + 1)) (va : Value) (L : List (List UInt8)) (hnd : L.Nodup) (hLl : L.length ≤ 1000000) (hL : ∀ x, freeM (d + 1) a [] x = decide (x ∈ L)) (B : Nat) (w : World) (ha : ExVal w B d a va) (hw : B ≤ w.heap.size) (hN : NmOK (d + 1) a) (hca : 2 * costM (d + 1) a ≤ 2000000) (hza : sizeM (d + 1) a ≤ 900000) (hd : d + 1 ≤ 4096) :
    Calls Tryz.prog 14 #[va] w fun e w' => ∃ v, e = .returned v ∧ w'.ownsRow w.heap.size 9 1 v L.length ((L.mergeSort leB).map encStr) ∧ Below w.heap.size w w' := by
  obtain ⟨o3, c3, o4, c4, o5, c5, o6, c6, ea, -⟩ := id ha
  subst ea
  obtain ⟨V, hV⟩ : ∃ V, w.alloc (.cells #[.int .i64 (TrN.kind a), .string (TrN.name a), .int .i64 (TrN.num a), .slice o3 (TrN.params a).length c3, .slice o4 (TrN.binds a).length c4, .slice o5 (TrN.args a).length c5, .slice o6 (TrN.alts a).length c6] 31) = V := ⟨_, rfl⟩
  have k0 : Blk V w.heap.size #[.int .i64 (TrN.kind a), .string (TrN.name a), .int .i64 (TrN.num a), .slice o3 (TrN.params a).length c3, .slice o4 (TrN.binds a).length c4, .slice o5 (TrN.args a).length c5, .slice o6 (TrN.alts a).length c6] 31 := by rw [← hV]; exact Blk.new w _ _
  have b0 : Below w.heap.size w V := by rw [← hV]; exact below1 w _
  have hVs : V.heap.size = w.heap.size + 1 := by rw [← hV]; exact Array.size_push _
  have hcell : ∀ g off, g < B → V.cell? ⟨g, off, none⟩ = w.cell? ⟨g, off, none⟩ := fun g off hg => cell_of_block (b0.block g (by omega)) off
  have xa : ExAt V (w.heap.size + 1) (d + 1) a w.heap.size 0 := (ha.same hcell).at hw k0
  have HA : Hid (Calls Tryz.prog 30 #[.pointer (some ⟨w.heap.size, 0, none⟩)] V fun e w' => e = .returned (.bool true) ∧ Below V.heap.size V w') := fits_c (d + 1) a (w.heap.size + 1) w.heap.size 0 V xa (by omega) (by omega) hd
  have HF : Hid (∀ X : World, Below V.heap.size V X → Calls Tryz.prog 32 #[.pointer (some ⟨w.heap.size, 0, none⟩)] X fun e w' => ∃ f cf, e = .returned (.map (some f)) ∧ w.heap.size ≤ f ∧ cf ≤ 900000 ∧ SetIs w' f cf (fun x => decide (x ∈ L)) ∧ Below V.heap.size V w') := fun X hX => by
    refine (freeIn_c (d + 1) a hN hca (by omega) (w.heap.size + 1) w.heap.size 0 X (xa.below (hX.mono (by omega))) (by have := hX.size; omega) (by have := hX.size; omega)).mono ?_
    rintro e w' ⟨f, cf, rfl, h1, h2, h3, h4⟩
    have e9 : freeM (d + 1) a [] = fun x => decide (x ∈ L) := funext hL
    rw [e9] at h3
    exact ⟨f, cf, rfl, by omega, by omega, h3, hX.trans (h4.mono hX.size)⟩
  have HB : Hid (Below w.heap.size w V ∧ L.Nodup ∧ L.length ≤ 1000000 ∧ V.heap.size = w.heap.size + 1) := ⟨b0, hnd, hLl, hVs⟩
  clear ha hN hca hza k0 b0 xa hcell hnd hLl hL hVs
  go_enter Tryz.func14, Tryz.ntmps14
  go_wp2_with (go_at_call 30; fail)
  (try rw [hV])
  refine HA.out.mono ?_
  rintro e w1 ⟨rfl, h1⟩
  have H1 : Hid (Below V.heap.size V w1) := h1
  clear h1 HA
  go_wp2_with (go_at_call 32; fail)
  refine (HF.out w1 H1.out).mono ?_
  rintro e w2 ⟨f, cf, rfl, hf, hcf, hs, h2⟩
  have hst := keysS_stops Fence.wide 3 (fun _ => trivial) rfl (by omega) L HB.out.2.1 f cf w2 hs
  have HS := sorted4_c L HB.out.2.2.1 cf (by omega) _ _ hst
  have H2 : Hid (Below w.heap.size w w2 ∧ Below w2.heap.size w2 (w2.alloc (.cells #[.map (some f)] 65))) := ⟨HB.out.1.trans (h2.mono HB.out.1.size), below1 w2 _⟩
  have HSh : Hid (Calls Tryz.prog 35 #[.func (.func 72) #[] #[.pointer (some ⟨w2.heap.size, 0, none⟩)]] (w2.alloc (.cells #[.map (some f)] 65)) fun e W' => ∃ v, e = .returned v ∧ W'.ownsRow (w2.alloc (.cells #[.map (some f)] 65)).heap.size 9 1 v L.length ((L.mergeSort leB).map encStr) ∧ Below (w2.alloc (.cells #[.map (some f)] 65)).heap.size (w2.alloc (.cells #[.map (some f)] 65)) W') := HS
  have HK : Hid (Calls Tryz.prog 36 #[.map (some f)] w2 fun e w' => e = .returned (.func (.func 72) #[] #[.pointer (some ⟨w2.heap.size, 0, none⟩)]) ∧ w' = w2.alloc (.cells #[.map (some f)] 65)) := callsIn_wide.1 (keysS_in Fence.wide 3 (fun _ => trivial) rfl f w2)
  clear hst HS hf hcf hs h2 HF H1
  go_wp2_with (go_at_call 36; fail)
  refine HK.out.mono ?_
  rintro e w3 ⟨rfl, hw3⟩
  subst hw3
  clear HK
  go_wp2_with (go_at_call 35; fail)
  refine HSh.out.mono ?_
  rintro e w4 ⟨v, rfl, hr, hb4⟩
  have H4 : Hid (w4.ownsRow w.heap.size 9 1 v L.length ((L.mergeSort leB).map encStr) ∧ Below w.heap.size w w4) := by
    have h5 := H2.out
    have h6 := h5.1.trans (h5.2.mono h5.1.size)
    exact ⟨owns_mono4 hr h6.size, h6.trans (hb4.mono h6.size)⟩
  clear hr hb4 HSh
  go_wp2
  go_ret
  exact ⟨_, rfl, H4.out⟩
end Go.Proofs.YtegdloenakachaaGreatDoor
