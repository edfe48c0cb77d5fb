/-
  May a node be: by a contract.
-/
import Derived.Test.YtndpebkiiemfpaaGreatDoorMay0
import Derived.Deep.RegionHeld3
namespace Go.Proofs.YtndpebkiiemfpaaGreatDoor
open Go.RowKit Go.Shelf Go.Maps
set_option linter.unusedVariables false
variable {b0 : Nat}

/-- What holds whenever a node is looked at. -/
def MSt (b0 bl B c : Nat) (W : World) (n : Nd) (g off : Nat) : Prop := NdAt W B n g off ∧ g < W.heap.size ∧ KM b0 W ∧ GOK W ∧ LexSt W bl c
theorem MSt.below {bl B c : Nat} {W W' : World} {n : Nd} {g off : Nat} (h : MSt b0 bl B c W n g off) (hb : Below W.heap.size W W') (hB : B ≤ bl) (hgb : g ≠ bl) : MSt b0 bl B c W' n g off := by
  have hlt := h.2.2.2.2.lt
  exact ⟨NdAt.but (but_below hb bl) hB (by omega) n g off h.2.1 hgb h.1, Nat.lt_of_lt_of_le h.2.1 hb.size, h.2.2.1.below hb, h.2.2.2.1.below hb, h.2.2.2.2.below hb⟩
theorem MSt.but {bl B c c' : Nat} {W W' : World} {n : Nd} {g off : Nat} (h : MSt b0 bl B c W n g off) (hb : But bl W W') (hl : LexSt W' bl c') (hB : B ≤ bl) (hgb : g ≠ bl) (hbl : bl + 3 < b0) (hG : 6 ≤ bl) : MSt b0 bl B c' W' n g off := by
  have hlt := h.2.2.2.2.lt
  exact ⟨NdAt.but hb hB (by omega) n g off h.2.1 hgb h.1, Nat.lt_of_lt_of_le h.2.1 hb.size, h.2.2.1.but hb hbl, h.2.2.2.1.but hb hG, hl⟩

set_option maxRecDepth 100000 in
set_option maxHeartbeats 8000000 in
theorem nodeBe_c (bl B : Nat) (hB : B ≤ bl) (hbl : bl + 3 < b0) (hGs : 6 ≤ bl) : ∀ (d : Nat) (n : Nd) (g off c : Nat) (w : World), deepLe d n → g ≠ bl → MSt b0 bl B c w n g off → c + cntT d n ≤ 4611686018427387904 →
    Calls Tryz.prog 44 #[.agg #[.map (some b0), .map (some bl)], .pointer (some ⟨g, off, none⟩)] w fun e W' => e = .returned (.bool (mbM d n)) ∧ But bl w W' ∧ LexSt W' bl (c + cntT d n) := by
  intro d
  induction d with
  | zero => intro n g off c w h; cases h
  | succ d ih =>
    intro n g off c w hd hgb hM hcn
    have hdep : Tryz.prog.follows Departure.mixedOrders = true := by kernel_rfl
    have hd' : ∀ k ∈ n.kids, deepLe d k := hd
    have hlen := len_le_cnt d n.kids hd'
    have hcT : cntT (d + 1) n = 1 + (n.kids.map (cntT d)).sum := rfl
    have HI : Hid (∀ (n : Nd) (g off c : Nat) (w : World), deepLe d n → g ≠ bl → MSt b0 bl B c w n g off → c + cntT d n ≤ 4611686018427387904 → Calls Tryz.prog 44 #[.agg #[.map (some b0), .map (some bl)], .pointer (some ⟨g, off, none⟩)] w fun e W' => e = .returned (.bool (mbM d n)) ∧ But bl w W' ∧ LexSt W' bl (c + cntT d n)) := ih
    clear ih
    -- the world behind the box of the checker
    obtain ⟨V, hV⟩ : ∃ V, w.alloc (.cells #[.map (some b0), .map (some bl)] 93) = V := ⟨_, rfl⟩
    have hVb : Below w.heap.size w V := by rw [← hV]; exact (Below.refl _ w).alloc (Nat.le_refl _) _
    have hVs : V.heap.size = w.heap.size + 1 := by rw [← hV]; simp
    have hBx : Blk V w.heap.size #[.map (some b0), .map (some bl)] 93 := by rw [← hV]; exact Blk.new w _ _
    have hMV : MSt b0 bl B c V n g off := hM.below hVb hB hgb
    have hlt := hM.2.2.2.2.lt
    obtain ⟨o, cap, k0, k1, k2, k3, k4, hc1, hc2, hKI⟩ := hMV.1.cells
    obtain ⟨⟨wk1, wk2⟩, wn, wu1, wu2⟩ := hMV.1.wf
    obtain ⟨v, b, hlk, hkp⟩ := hMV.2.2.1.look n.kind ⟨wk1, wk2⟩
    have HBV : Hid (But bl w V) := but_below hVb bl
    have hbx : w.heap.size ≠ bl := by omega
    have j0 : V.cell? ⟨w.heap.size, 0, none⟩ = some (.map (some b0)) := hBx.cell 0 _ rfl
    have j1 : V.cell? ⟨w.heap.size, 1, none⟩ = some (.map (some bl)) := hBx.cell 1 _ rfl
    have hgV : g < V.heap.size := hMV.2.1
    have hlkD : ∀ m : Nat, (Instr.lookup 90 (.map (some b0)) (.int .i64 n.kind) true).run Tryz.prog (V.drewN m) = .ok (.tuple #[v, .bool b]) (V.drewN m) := fun m => hlk _ rfl
    rcases hkp with ⟨hkn, rfl, rfl⟩ | ⟨ps, ol, capl, hks, rfl, rfl, hPA⟩
    · have HR : Hid (mbM (d + 1) n = false) := by show _ = _; unfold mbM ownM; rw [hkn]; rfl
      have HLf : Hid (LexSt V bl (c + cntT (d + 1) n)) := hMV.2.2.2.2.mono (by omega)
      generalize n.kind = kd at k0 hlkD
      clear hM hMV hcn hd hd' hlen hcT HI hVb hVs hBx hlt k1 k2 k3 k4 hc1 hc2 hKI wk1 wk2 wn wu1 wu2 hlk hkn
      go_enter Tryz.func44, Tryz.ntmps44
      go_wp2
      go_big_quiet (fail)
      go_wp2
      go_ret
      exact ⟨by rw [HR.out]; rfl, HBV.out.trans ⟨rfl, rfl, rfl, Nat.le_refl _, fun _ _ _ => rfl⟩, HLf.out.below ⟨rfl, rfl, rfl, Nat.le_refl _, fun _ _ => rfl⟩⟩
    · obtain ⟨P, hP⟩ : ∃ P, ps.length = P := ⟨_, rfl⟩
      obtain ⟨L, hL⟩ : ∃ L, n.kids.length = L := ⟨_, rfl⟩
      have hp3 := kp_len _ _ hks
      have HLL : Hid (n.kids.length = L) := hL
      have HCnt : Hid (cntT (d + 1) n = 1 + (n.kids.map (cntT d)).sum) := hcT
      have HCN : Hid (c + cntT (d + 1) n ≤ 4611686018427387904) := hcn
      have HDk : Hid (∀ k ∈ n.kids, deepLe d k) := hd'
      have HO : Hid (ownM n = (nameM n.kind (bs n.name) n.kids.length && numM n.kind n.num && fitsB ps (kinds n.kids))) := by show _ = _; unfold ownM; rw [hks]
      -- all that is asked of a node in a world
      have HCell : Hid (∀ (X : World) (c' : Nat), MSt b0 bl B c' X n g off → But bl V X → X.cell? ⟨g, off, none⟩ = some (.int .i64 n.kind) ∧ X.cell? ⟨g, off + 1, none⟩ = some (.string (bs n.name)) ∧ X.cell? ⟨g, off + 2, none⟩ = some (.int .i64 n.num) ∧ X.cell? ⟨g, off + 3, none⟩ = some (.slice o L cap) ∧ KIn X B o n.kids) := by
        intro X c' hX hb
        have hk3 : X.cell? ⟨g, off + 3, none⟩ = some (.slice o L cap) := by rw [← hL]; exact (hb.cell g (off + 3) hgV hgb).trans k3
        exact ⟨(hb.cell g off hgV hgb).trans k0, (hb.cell g (off + 1) hgV hgb).trans k1, (hb.cell g (off + 2) hgV hgb).trans k2, hk3, hKI.below (hb.below hB (by omega))⟩
      have HNF : Hid (∀ (X : World), MSt b0 bl B c X n g off → But bl V X → Calls Tryz.prog 81 #[.agg #[.map (some b0), .map (some bl)], .pointer (some ⟨g, off, none⟩)] X fun e W' => e = .returned (.bool (nameM n.kind (bs n.name) n.kids.length)) ∧ But bl X W' ∧ LexSt W' bl (c + 1)) := by
        intro X hX hb
        have hcl := HCell.out X c hX hb
        rw [hL]
        exact nameFits_c n.kind (bs n.name) (by rw [bs_size]; exact wn) o L cap g off b0 bl c (by omega) X hX.2.2.2.1 hX.2.2.2.2 hcl.1 hcl.2.1 hcl.2.2.2.1 hX.2.1 hgb
      have HNU : Hid (∀ (X : World) (c' : Nat), MSt b0 bl B c' X n g off → But bl V X → Calls Tryz.prog 82 #[.pointer (some ⟨g, off, none⟩)] X fun e W' => e = .returned (.bool (numM n.kind n.num)) ∧ Below X.heap.size X W') := by
        intro X c' hX hb
        have hcl := HCell.out X c' hX hb
        exact numFits_c n.kind n.num g off X hcl.1 hcl.2.2.1 hX.2.1
      have HFT : Hid (∀ (X : World) (c' : Nat), MSt b0 bl B c' X n g off → But bl V X → Calls Tryz.prog 83 #[.slice ol P capl, .slice o L cap] X fun e W' => e = .returned (.bool (fitsB ps (kinds n.kids))) ∧ Below X.heap.size X W') := by
        intro X c' hX hb
        have hcl := HCell.out X c' hX hb
        have := fits_c ps ol capl X (hPA.agr (agr_but hb hbl)) (by omega) B o n.kids cap hcl.2.2.2.2 (by have := hX.2.2.2.2.lt; omega) hc1 (by omega)
        rw [hP, hL] at this
        exact this
      have HBox : Hid (∀ X : World, But bl V X → X.cell? ⟨w.heap.size, 0, none⟩ = some (.map (some b0)) ∧ X.cell? ⟨w.heap.size, 1, none⟩ = some (.map (some bl))) := fun X hb => ⟨(hb.cell w.heap.size 0 (by omega) hbx).trans j0, (hb.cell w.heap.size 1 (by omega) hbx).trans j1⟩
      have HMB : Hid (∀ (X X' : World) (c1 c2 : Nat), MSt b0 bl B c1 X n g off → But bl X X' → LexSt X' bl c2 → MSt b0 bl B c2 X' n g off) := fun X X' c1 c2 h1 h2 h3 => h1.but h2 h3 hB hgb hbl hGs
      have HMV : Hid (MSt b0 bl B c V n g off) := hMV
      have HKid : Hid (∀ (X : World) (c' k : Nat) (hk : k < n.kids.length), MSt b0 bl B c' X n g off → But bl V X → c' + cntT d n.kids[k] ≤ 4611686018427387904 → ∃ g2 off2, o = some ⟨g2, off2, none⟩ ∧ Calls Tryz.prog 44 #[.agg #[.map (some b0), .map (some bl)], .pointer (some ⟨g2, off2 + k * 5, none⟩)] X fun e W' => e = .returned (.bool (mbM d n.kids[k])) ∧ But bl X W' ∧ LexSt W' bl (c' + cntT d n.kids[k])) := by
        intro X c' k hk hX hb hcc
        have hcl := HCell.out X c' hX hb
        obtain ⟨g2, off2, e, hg2, hKA⟩ := hcl.2.2.2.2.at k hk
        refine ⟨g2, off2, e, HI.out n.kids[k] g2 (off2 + k * 5) c' X (hd' _ (List.getElem_mem hk)) (by omega) ⟨hKA.get n.kids g2 off2 k hk, by have := hX.2.2.2.2.lt; omega, hX.2.2.1, hX.2.2.2.1, hX.2.2.2.2⟩ hcc⟩
      have HMb : Hid (mbM (d + 1) n = (ownM n && n.kids.all (mbM d))) := rfl
      have hLi : (L : Int) ≤ 4611686018427387904 := by omega
      generalize nameM n.kind (bs n.name) n.kids.length = bN at HNF HO
      generalize numM n.kind n.num = bU at HNU HO
      generalize fitsB ps (kinds n.kids) = bF at HFT HO
      generalize n.kind = kd at k0 hlkD HCell
      rw [hP] at hlkD
      clear hM hMV hcn hd hd' hlen hcT HI hVb hBx hlt k1 k2 k3 k4 hc1 hc2 hKI wk1 wk2 wn wu1 wu2 hlk hks hp3 hP hL hPA
      go_enter Tryz.func44, Tryz.ntmps44
      go_wp2
      go_big_quiet (fail)
      obtain ⟨V1, hV1⟩ : ∃ V1, V.drewN nq = V1 := ⟨_, rfl⟩
      have hVV1 : Below V.heap.size V V1 := by rw [← hV1]; exact ⟨rfl, rfl, rfl, Nat.le_refl _, fun _ _ => rfl⟩
      have HM1 : Hid (MSt b0 bl B c V1 n g off) := HMV.out.below hVV1 hB hgb
      have HB1 : Hid (But bl V V1) := but_below hVV1 bl
      have hbx1 := HBox.out V1 HB1.out
      obtain ⟨i0, i1⟩ := hbx1
      have hwV1 : w.heap.size < V1.heap.size := by have := hVV1.size; omega
      clear hVV1 j0 j1 hlkD k0
      go_wp2_with (go_at_call 81; fail)
      refine (HNF.out V1 HM1.out HB1.out).mono ?_
      rintro e w1 ⟨rfl, hb1, hl1⟩
      have HM2 : Hid (MSt b0 bl B (c + 1) w1 n g off) := HMB.out _ _ _ _ HM1.out hb1 hl1
      have HB2 : Hid (But bl V w1) := HB1.out.trans hb1
      have HL2 : Hid (LexSt w1 bl (c + cntT (d + 1) n)) := hl1.mono (by have := HCnt.out; omega)
      clear hb1 hl1 i0 i1 HNF
      cases bN with
      | false =>
        go_wp2
        go_ret
        exact ⟨by rw [HMb.out, HO.out]; rfl, HBV.out.trans HB2.out, HL2.out⟩
      | true =>
        go_wp2_with (go_at_call 82; fail)
        refine (HNU.out w1 _ HM2.out HB2.out).mono ?_
        rintro e w2 ⟨rfl, hb2⟩
        have HM3 : Hid (MSt b0 bl B (c + 1) w2 n g off) := HM2.out.below hb2 hB hgb
        have HB3 : Hid (But bl V w2) := HB2.out.trans (but_below hb2 bl)
        have HL3 : Hid (LexSt w2 bl (c + cntT (d + 1) n)) := HL2.out.below hb2
        clear hb2 HL2 HM2 HNU
        cases bU with
        | false =>
          go_wp2
          go_ret
          exact ⟨by rw [HMb.out, HO.out]; rfl, HBV.out.trans HB3.out, HL3.out⟩
        | true =>
          have c3 := (HCell.out w2 _ HM3.out HB3.out).2.2.2.1
          have hg3 : g < w2.heap.size := HM3.out.2.1
          go_wp2_with (go_at_call 83; fail)
          refine (HFT.out w2 _ HM3.out HB3.out).mono ?_
          rintro e w3 ⟨rfl, hb3⟩
          have HM4 : Hid (MSt b0 bl B (c + 1) w3 n g off) := HM3.out.below hb3 hB hgb
          have HB4 : Hid (But bl V w3) := HB3.out.trans (but_below hb3 bl)
          have HL4 : Hid (LexSt w3 bl (c + cntT (d + 1) n)) := HL3.out.below hb3
          clear hb3 HL3 HM3 HFT c3 hg3
          cases bF with
          | false =>
            go_wp2
            go_ret
            exact ⟨by rw [HMb.out, HO.out]; rfl, HBV.out.trans HB4.out, HL4.out⟩
          | true =>
            have c4 := (HCell.out w3 _ HM4.out HB4.out).2.2.2.1
            have hg4 : g < w3.heap.size := HM4.out.2.1
            have HMb2 : Hid (mbM (d + 1) n = n.kids.all (mbM d)) := by show _ = _; rw [HMb.out, HO.out]; rfl
            go_wp2
            go_loopw [45] (fun i wr => ∃ (k c2 : Nat), k ≤ L ∧ i = .int .i64 k ∧ Hid (c2 = c + 1 + ((n.kids.take k).map (cntT d)).sum) ∧ Hid (MSt b0 bl B c2 wr n g off) ∧ Hid (But bl V wr) ∧ Hid ((n.kids.take k).all (mbM d) = true)) (fun i _ => L - (intOf i).toNat)
            case atStart => exact ⟨0, c + 1, Nat.zero_le _, rfl, rfl, HM4, HB4, rfl⟩
            case round =>
              obtain ⟨k, c2, hk, rfl, hc2, hMr, hBr, hAl⟩ := hrel
              clear c4 hg4 HM4 HB4 HL4 HB3 HB2 HM1 HB1
              by_cases hlt : k < L
              · have hkL : k < n.kids.length := by rw [HLL.out]; exact hlt
                have hki : (k : Int) < (L : Int) := by omega
                have hst := sum_take (cntT d) n.kids k hkL
                have hsl := sum_take_le (cntT d) n.kids (k + 1)
                have hcc : c2 + cntT d n.kids[k] ≤ 4611686018427387904 := by have h1 := hc2.out; have h2 := HCN.out; have h3 := HCnt.out; omega
                have hMd : MSt b0 bl B c2 wr.drew n g off := hMr.out.below ⟨rfl, rfl, rfl, Nat.le_refl _, fun _ _ => rfl⟩ hB hgb
                have hBd : But bl V wr.drew := hBr.out.trans ⟨rfl, rfl, rfl, Nat.le_refl _, fun _ _ _ => rfl⟩
                obtain ⟨g2, off2, ho2, -⟩ := HKid.out wr c2 k hkL hMr.out hBr.out hcc
                have HCk : Hid (∀ X : World, Hid (MSt b0 bl B c2 X n g off ∧ But bl V X) → Calls Tryz.prog 44 #[.agg #[.map (some b0), .map (some bl)], .pointer (some ⟨g2, off2 + k * 5, none⟩)] X fun e W' => e = .returned (.bool (mbM d n.kids[k])) ∧ But bl X W' ∧ LexSt W' bl (c2 + cntT d n.kids[k])) := by
                  intro X hX
                  obtain ⟨g3, off3, ho3, hcl⟩ := HKid.out X c2 k hkL hX.out.1 hX.out.2 hcc
                  rw [ho2] at ho3
                  simp only [Option.some.injEq, Addr.mk.injEq, and_true] at ho3
                  obtain ⟨rfl, rfl⟩ := ho3
                  exact hcl
                have HPre : Hid (MSt b0 bl B c2 wr n g off ∧ But bl V wr) := ⟨hMr.out, hBr.out⟩
                have HPreD : Hid (MSt b0 bl B c2 wr.drew n g off ∧ But bl V wr.drew) := ⟨hMd, hBd⟩
                have hS := fun (X : World) (c' : Nat) (h1 : MSt b0 bl B c' X n g off) (h2 : But bl V X) => (⟨(HBox.out X h2).1, (HBox.out X h2).2, (HCell.out X c' h1 h2).2.2.2.1⟩ : X.cell? ⟨w.heap.size, 0, none⟩ = some (.map (some b0)) ∧ X.cell? ⟨w.heap.size, 1, none⟩ = some (.map (some bl)) ∧ X.cell? ⟨g, off + 3, none⟩ = some (.slice o L cap))
                have hS0 := hS wr c2 hMr.out hBr.out
                have hS0d := hS wr.drew c2 hMd hBd
                subst ho2
                have HS0 : Hid (wr.cell? ⟨w.heap.size, 0, none⟩ = some (.map (some b0)) ∧ wr.cell? ⟨w.heap.size, 1, none⟩ = some (.map (some bl)) ∧ wr.cell? ⟨g, off + 3, none⟩ = some (.slice (some ⟨g2, off2, none⟩) L cap)) := hS0
                have HS0d : Hid (wr.drew.cell? ⟨w.heap.size, 0, none⟩ = some (.map (some b0)) ∧ wr.drew.cell? ⟨w.heap.size, 1, none⟩ = some (.map (some bl)) ∧ wr.drew.cell? ⟨g, off + 3, none⟩ = some (.slice (some ⟨g2, off2, none⟩) L cap)) := hS0d
                have HS2 : Hid (∀ (X X' : World), Hid (MSt b0 bl B c2 X n g off ∧ But bl V X) → But bl X X' → LexSt X' bl (c2 + cntT d n.kids[k]) → (X'.cell? ⟨w.heap.size, 0, none⟩ = some (.map (some b0)) ∧ X'.cell? ⟨w.heap.size, 1, none⟩ = some (.map (some bl)) ∧ X'.cell? ⟨g, off + 3, none⟩ = some (.slice (some ⟨g2, off2, none⟩) L cap)) ∧ Hid (MSt b0 bl B (c2 + cntT d n.kids[k]) X' n g off) ∧ Hid (But bl V X')) := fun X X' h1 h2 h3 => ⟨hS X' _ (HMB.out _ _ _ _ h1.out.1 h2 h3) (h1.out.2.trans h2), HMB.out _ _ _ _ h1.out.1 h2 h3, h1.out.2.trans h2⟩
                have Hc2 : Hid (c2 + cntT d n.kids[k] = c + 1 + ((n.kids.take (k + 1)).map (cntT d)).sum) := by show _ = _; rw [hst, hc2.out]; omega
                have HAl2 : Hid ((n.kids.take (k + 1)).all (mbM d) = mbM d n.kids[k]) := by show _ = _; rw [take_all_succ _ _ _ hkL, hAl.out]; rfl
                have HAlF : Hid (mbM d n.kids[k] = false → mbM (d + 1) n = false) := fun h => by rw [HMb2.out, all_take _ _ _ hkL hAl.out, h]; rfl
                have HcF : Hid (c2 + cntT d n.kids[k] ≤ c + cntT (d + 1) n) := by show _ ≤ _; have h1 := hc2.out; have h3 := HCnt.out; omega
                have hwr : w.heap.size < wr.heap.size := by have := hBr.out.size; omega
                have hgr : g < wr.heap.size := hMr.out.2.1
                generalize mbM d n.kids[k] = bk at HCk HAl2 HAlF
                generalize c2 + cntT d n.kids[k] = c3 at HCk HS2 Hc2 HcF
                clear hst hsl hcc hMd hBd hS hS0 hS0d hMr hBr hkL hAl hc2
                go_wp2
                go_region_held3 (fun X : World => X.cell? ⟨w.heap.size, 0, none⟩ = some (.map (some b0)) ∧ X.cell? ⟨w.heap.size, 1, none⟩ = some (.map (some bl)) ∧ X.cell? ⟨g, off + 3, none⟩ = some (.slice (some ⟨g2, off2, none⟩) L cap))
                  (first
                    | with_reducible exact HS0.out
                    | with_reducible exact HS0d.out
                    | with_reducible exact hS2)
                  (first
                    | (go_at_call 44; (with_reducible refine (HCk.out _ HPreD).mono ?_); rintro e w4 ⟨rfl, hb4, hl4⟩; have hQ := HS2.out _ _ HPreD hb4 hl4; have hS2 := hQ.1; have HM5 := hQ.2.1; have HB5 := hQ.2.2; have HL5 : Hid (LexSt w4 bl c3) := hl4; clear hb4 hl4 hQ))
                cases bk with
                | true =>
                  go_wp2
                  go_roundw
                  all_goals first | exact ⟨k + 1, c3, by omega, by go_num, Hc2, HM5, HB5, HAl2⟩ | (simp [intOf]; omega)
                | false =>
                  have HF2 : Hid (mbM (d + 1) n = false) := HAlF.out rfl
                  clear HAlF
                  go_wp2
                  go_ret
                  exact ⟨by rw [HF2.out]; rfl, HBV.out.trans HB5.out, HL5.out.mono HcF.out⟩
              · obtain rfl : k = L := by omega
                have HT : Hid (mbM (d + 1) n = true) := by
                  show _ = _
                  rw [HMb2.out]
                  have := hAl.out
                  rw [List.take_of_length_le (by rw [HLL.out]; exact Nat.le_refl _)] at this
                  exact this
                have HLf : Hid (LexSt wr bl (c + cntT (d + 1) n)) := by
                  have h1 := hc2.out
                  rw [List.take_of_length_le (by rw [HLL.out]; exact Nat.le_refl _)] at h1
                  exact hMr.out.2.2.2.2.mono (by have := HCnt.out; omega)
                go_wp2
                go_ret
                exact ⟨by rw [HT.out]; rfl, HBV.out.trans hBr.out, HLf.out⟩
end Go.Proofs.YtndpebkiiemfpaaGreatDoor
