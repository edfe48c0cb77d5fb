/-
  Of the core, what is wanted here: part 3.
-/
import Derived.Laws.Rows
import Derived.Maps.AppendAt
import Derived.RangeFuncNested
import Derived.RangeFuncBound
import Derived.RangeFuncCalls
import Derived.RangeFuncLeaves
import Derived.Shelf.Abstract
import Derived.Shelf.RegionOpen
import Derived.Shelf.SlIter.Stops
import Derived.WalkKit
import Derived.OwnWalkIn
import Derived.TacticsInMore
import Derived.LoopNIn
import Derived.LoopIn
import Derived.Lib.Tables
import Derived.BigQuiet
import Derived.Deep.LoopGhost
import Derived.Test.YtjmpjfggbhongaaDoorP02
namespace Go.Proofs.YtjmpjfggbhongaaDoor
open Go.RowKit Go.Shelf Go.Maps
set_option linter.unusedVariables false
set_option maxRecDepth 100000 in
set_option maxHeartbeats 4000000 in
theorem seek_step (d : Nat) (ih : SeekOK d) : SeekOK (d + 1) := by
  intro t B g off S m f c cf sc F w hE hS hm hf hw h hN hc hsc hcf
  have hE0 := hE
  obtain ⟨hg, h0, h1, h2, -, ⟨o4, c4, h4, k4⟩, ⟨o5, c5, h5, k5⟩, ⟨o6, c6, h6, k6⟩⟩ := hE
  obtain ⟨hN1, hN2, hN3, hN4, hN5⟩ := hN
  obtain ⟨nb, hnb⟩ : ∃ n, (bndM t).length = n := ⟨_, rfl⟩
  obtain ⟨cb, hcb⟩ : ∃ n, ((TrN.binds t).map fun b => costM d b.2).sum = n := ⟨_, rfl⟩
  obtain ⟨ca, hca⟩ : ∃ n, ((TrN.args t).map fun e => costM d e).sum = n := ⟨_, rfl⟩
  obtain ⟨cl, hcl⟩ : ∃ n, ((TrN.alts t).map fun a => a.1.vars.length + costM d a.2).sum = n := ⟨_, rfl⟩
  obtain ⟨zb, hzb⟩ : ∃ n, ((TrN.binds t).map fun b => sizeM d b.2).sum = n := ⟨_, rfl⟩
  obtain ⟨za, hza⟩ : ∃ n, ((TrN.args t).map fun e => sizeM d e).sum = n := ⟨_, rfl⟩
  obtain ⟨zl, hzl⟩ : ∃ n, ((TrN.alts t).map fun a => sizeM d a.2).sum = n := ⟨_, rfl⟩
  have hcost : costM (d + 1) t = nb + cb + ca + cl := by rw [← hnb, ← hcb, ← hca, ← hcl]; rfl
  have hsize : sizeM (d + 1) t = 1 + zb + za + zl := by rw [← hzb, ← hza, ← hzl]; rfl
  rw [hcost] at hc hsc
  rw [hsize] at hcf
  have lb := len_sum (fun b : ByteArray × Tr d => sizeM d b.2) (fun b => size_pos d b.2) (TrN.binds t)
  have la := len_sum (fun x : Tr d => sizeM d x) (fun x => size_pos d x) (TrN.args t)
  have ll := len_sum (fun a : AltH × Tr d => sizeM d a.2) (fun a => size_pos d a.2) (TrN.alts t)
  rw [hzb] at lb; rw [hza] at la; rw [hzl] at ll
  obtain ⟨tp, htp⟩ := top_ptr sc
  have HEn : Hid (Calls Tryd.prog 86 #[.pointer (some ⟨S, 0, none⟩), .pointer (some ⟨g, off, none⟩)] w fun e w' => e = .returned (.tuple #[]) ∧ ∃ ext : Sc, ext.map Prod.fst = (bndM t).reverse ∧ SkSt w' S m f (c + nb) cf (ext ++ sc) F ∧ SkChg S m f w w') := by
    refine (enter_c d t hN2 B g off S 0 m c sc w hE0 hS hm hw h.sc (by omega) (by omega)).mono ?_
    rintro e w' ⟨rfl, ext, he, hs1, hc1⟩
    rw [hnb] at hs1
    exact ⟨rfl, ext, he, h.step hs1 hc1, SkChg.ofSc hc1⟩
  have HEx : Hid (∀ W, SkChg S m f w W → (∀ o, W.cell? ⟨g, o, none⟩ = w.cell? ⟨g, o, none⟩) ∧ g < W.heap.size) := fun W hW => ⟨fun o => hW.ex (d := d) hS hm hf hw g o hg, by have := hW.size; omega⟩
  have HBi : Hid (∀ (W : World) (ext : Sc) (c' cf' : Nat) (G : List UInt8 → Bool), ext.length = nb → SkChg S m f w W → SkSt W S m f c' cf' (ext ++ sc) G → c' + 2 * cb ≤ 2000000 → cf' + zb ≤ 2000000 → Calls Tryd.prog 59 #[.pointer (some ⟨S, 0, none⟩), .slice o4 (TrN.binds t).length c4] W fun e w' => e = .returned (.tuple #[]) ∧ SkRes W w' S m f (c' + 2 * cb) (cf' + zb) (ext ++ sc) (fun x => G x || (TrN.binds t).any (fun b => freeM d b.2 (nms (ext ++ sc)) x))) := by
    intro W ext c' cf' G hl hW hG b1 b2
    have hb := hW.ex (d := d) hS hm hf hw
    have hr := seek_binds_c d ih (TrN.binds t) o4 c4 B S m f c' cf' (ext ++ sc) G W (k4.mono (fun x g off hg hx => ⟨(hb _ _ hg).trans hx.1, ExAt.same hb d _ _ _ hx.2⟩)) hS hm hf (Nat.le_trans hw hW.size) hG hN3 (by rw [hcb]; exact b1) (by rw [hcb, List.length_append]; omega) (by rw [hzb]; exact b2) (by omega)
    rw [hcb, hzb] at hr
    exact hr
  have HAl : Hid (∀ (W : World) (ext : Sc) (c' cf' : Nat) (G : List UInt8 → Bool), ext.length = nb → SkChg S m f w W → SkSt W S m f c' cf' (ext ++ sc) G → c' + 2 * cl ≤ 2000000 → cf' + zl ≤ 2000000 → Calls Tryd.prog 88 #[.pointer (some ⟨S, 0, none⟩), .slice o6 (TrN.alts t).length c6] W fun e w' => e = .returned (.tuple #[]) ∧ SkRes W w' S m f (c' + 2 * cl) (cf' + zl) (ext ++ sc) (fun x => G x || (TrN.alts t).any (fun a => freeM d a.2 (dl a.1.vars.reverse ++ nms (ext ++ sc)) x))) := by
    intro W ext c' cf' G hl hW hG b1 b2
    have hb := hW.ex (d := d) hS hm hf hw
    have hr := seek_alts_c d ih (TrN.alts t) o6 c6 B S m f c' cf' (ext ++ sc) G W (k6.mono (fun x g off hg hx => by
      obtain ⟨e1, e2, e3, ⟨o', cp, e4, e5⟩, e6⟩ := hx
      exact ⟨(hb _ _ hg).trans e1, (hb _ _ hg).trans e2, (hb _ _ hg).trans e3, ⟨o', cp, (hb _ _ hg).trans e4, e5.same hb⟩, ExAt.same hb d _ _ _ e6⟩)) hS hm hf (Nat.le_trans hw hW.size) hG hN5 (by rw [hcl]; exact b1) (by rw [hcl, List.length_append]; omega) (by rw [hzl]; exact b2) (by omega)
    rw [hcl, hzl] at hr
    exact hr
  have HAr : Hid (∀ k (hk : k < (TrN.args t).length), ∃ g' off', o5 = some ⟨g', off', none⟩ ∧ g' < B ∧ ∀ (W : World) (ext : Sc) (c' cf' : Nat) (G : List UInt8 → Bool), ext.length = nb → SkChg S m f w W → SkSt W S m f c' cf' (ext ++ sc) G → c' + 2 * costM d (TrN.args t)[k] ≤ 2000000 → cf' + sizeM d (TrN.args t)[k] ≤ 2000000 →
      Calls Tryd.prog 63 #[.pointer (some ⟨S, 0, none⟩), .pointer (some ⟨g', off' + k * 7, none⟩)] W fun e w' => e = .returned (.tuple #[]) ∧ SkRes W w' S m f (c' + 2 * costM d (TrN.args t)[k]) (cf' + sizeM d (TrN.args t)[k]) (ext ++ sc) (fun x => G x || freeM d (TrN.args t)[k] (nms (ext ++ sc)) x)) := by
    intro k hk
    rcases k5 with h9 | ⟨g', off', e, hg', hE'⟩
    · rw [h9] at hk; cases hk
    · refine ⟨g', off', e, hg', fun W ext c' cf' G hl hW hG b1 b2 => ih _ B g' _ S m f c' cf' (ext ++ sc) G W ?_ hS hm hf (Nat.le_trans hw hW.size) hG (hN4 _ (List.getElem_mem _)) b1 ?_ b2⟩
      · exact ExAt.same (hW.ex (d := d) hS hm hf hw) d _ _ _ (hE' k hk)
      · have q1 := take_le (fun e : Tr d => costM d e) (TrN.args t) (k + 1)
        have q2 := take_sum (fun e : Tr d => costM d e) (TrN.args t) k hk
        rw [List.length_append]
        omega
  have HLe : Hid (∀ (W : World) (ext : Sc) (c' cf' : Nat) (G : List UInt8 → Bool), ext.map Prod.fst = (bndM t).reverse → SkSt W S m f c' cf' (ext ++ sc) G → c' + nb ≤ 2000000 → Calls Tryd.prog 89 #[.pointer (some ⟨S, 0, none⟩), .pointer tp] W fun e w' => e = .returned (.tuple #[]) ∧ SkRes W w' S m f (c' + nb) cf' sc G) := by
    intro W ext c' cf' G he hG b1
    have hlen : ext.length = nb := by have := congrArg List.length he; simp at this; omega
    rw [← htp]
    refine (leave_c ext sc (fun p hp => hN2 p.1 ?_) S 0 m c' W hG.sc (by omega)).mono ?_
    · have : p.1 ∈ ext.map Prod.fst := List.mem_map.2 ⟨p, hp, rfl⟩
      rw [he] at this
      exact List.mem_reverse.1 this
    · rintro e w3 ⟨rfl, hs3, hc3⟩
      exact ⟨rfl, ⟨c' + ext.length, cf', by omega, Nat.le_refl _, hG.step hs3 hc3⟩, SkChg.ofSc hc3⟩
  have HFr : Hid (∀ (ext : Sc), ext.map Prod.fst = (bndM t).reverse → ∀ x, ((((F x || ((TrN.kind t == 1) && (!(nms (ext ++ sc)).contains (TrN.name t).data.toList) && (x == (TrN.name t).data.toList))) || (TrN.binds t).any (fun b => freeM d b.2 (nms (ext ++ sc)) x)) || (TrN.args t).any (fun e => freeM d e (nms (ext ++ sc)) x)) || (TrN.alts t).any (fun a => freeM d a.2 (dl a.1.vars.reverse ++ nms (ext ++ sc)) x)) = (F x || freeM (d + 1) t (nms sc) x)) := by
    intro ext he x
    have e : freeM (d + 1) t (nms sc) x = (((TrN.kind t == 1) && (!(dl (bndM t).reverse ++ nms sc).contains (TrN.name t).data.toList) && (x == (TrN.name t).data.toList)) || (TrN.binds t).any (fun b => freeM d b.2 (dl (bndM t).reverse ++ nms sc) x) || (TrN.args t).any (fun e => freeM d e (dl (bndM t).reverse ++ nms sc) x) || (TrN.alts t).any (fun a => freeM d a.2 (dl a.1.vars.reverse ++ (dl (bndM t).reverse ++ nms sc)) x)) := rfl
    rw [e, nms_grown he]
    simp only [Bool.or_assoc]
  have HBd : Hid (c + 2 * (nb + cb + ca + cl) ≤ 2000000 ∧ cf + (1 + zb + za + zl) ≤ 2000000 ∧ B ≤ w.heap.size) := ⟨hc, hcf, hw⟩
  have HSum : Hid (((TrN.args t).map fun e => costM d e).sum = ca ∧ ((TrN.args t).map fun e => sizeM d e).sum = za) := ⟨hca, hza⟩
  have HNb : Hid ((bndM t).length = nb) := hnb
  rw [hcost, hsize]
  have hi : w.cell? ⟨S, 0, none⟩ = some (.pointer tp) := by rw [← htp]; exact h.sc.inner
  have hSl := h.sc.lt
  have HN1 : Hid ((TrN.name t).size ≤ maxLen) := hN1
  obtain ⟨lenb, hlb⟩ : ∃ n, (TrN.binds t).length = n := ⟨_, rfl⟩
  obtain ⟨lena, hla⟩ : ∃ n, (TrN.args t).length = n := ⟨_, rfl⟩
  obtain ⟨lenl, hll⟩ : ∃ n, (TrN.alts t).length = n := ⟨_, rfl⟩
  have HLa : Hid ((TrN.args t).length = lena) := hla
  have hlai : (lena : Int) ≤ 2000000 := by rw [← hla]; omega
  rw [hlb] at HBi h4
  rw [hll] at HAl h6
  rw [hla] at h5
  have H0 : Hid (w.cell? ⟨g, off, none⟩ = some (.int .i64 (TrN.kind t))) := h0
  have H1 : Hid (w.cell? ⟨g, off + 1, none⟩ = some (.string (TrN.name t))) := h1
  have H4 : Hid (w.cell? ⟨g, off + 4, none⟩ = some (.slice o4 lenb c4)) := h4
  have H5 : Hid (w.cell? ⟨g, off + 5, none⟩ = some (.slice o5 lena c5)) := h5
  have H6 : Hid (w.cell? ⟨g, off + 6, none⟩ = some (.slice o6 lenl c6)) := h6
  have hgw : g < w.heap.size := by omega
  clear hE0 hg h0 h1 h2 h4 k4 h5 k5 h6 k6 hN1 hN2 hN3 hN4 hN5 hnb hcb hca hcl hzb hza hzl hcost hsize hc hsc hcf lb la ll htp hS hm hf hw h ih hlb hla hll
  go_enter Tryd.func63, Tryd.ntmps63
  go_wp2_with (go_at_call 86; fail)
  refine HEn.out.mono ?_
  rintro e w1 ⟨rfl, ext, he0, hs1, hc1⟩
  have he : Hid (ext.map Prod.fst = (bndM t).reverse) := he0
  have HS1 : Hid (SkSt w1 S m f (c + nb) cf (ext ++ sc) F ∧ SkChg S m f w w1) := ⟨hs1, hc1⟩
  have hlen : Hid (ext.length = nb) := by have := congrArg List.length he0; rw [List.length_map, List.length_reverse, HNb.out] at this; exact this
  have r0 : w1.cell? ⟨g, off, none⟩ = some (.int .i64 (TrN.kind t)) := ((HEx.out _ hc1).1 _).trans H0.out
  have r1 : w1.cell? ⟨g, off + 1, none⟩ = some (.string (TrN.name t)) := ((HEx.out _ hc1).1 _).trans H1.out
  have l1 := (HEx.out _ hc1).2
  have lS1 := hs1.sc.lt
  have HHas : Hid (∀ n : Nat, Calls Tryd.prog 87 #[.pointer (some ⟨S, 0, none⟩), .string (TrN.name t)] (w1.drewN n) fun e w' => e = .returned (.bool ((nms (ext ++ sc)).contains (TrN.name t).data.toList)) ∧ w' = w1.drewN n) := fun n => by
    have hh := has_c (TrN.name t) HN1.out S 0 m (c + nb) (ext ++ sc) (w1.drewN n) (hs1.sc.drewN n)
    rw [lvl_pos] at hh
    exact hh
  clear he0 hs1 hc1 HEn
  obtain ⟨G1, hG1⟩ : ∃ G1 : List UInt8 → Bool, G1 = fun x => F x || ((TrN.kind t == 1) && (!(nms (ext ++ sc)).contains (TrN.name t).data.toList) && (x == (TrN.name t).data.toList)) := ⟨_, rfl⟩
  have HG1 : Hid (∀ x, G1 x = (F x || ((TrN.kind t == 1) && (!(nms (ext ++ sc)).contains (TrN.name t).data.toList) && (x == (TrN.name t).data.toList)))) := fun x => by rw [hG1]
  by_cases hkd : TrN.kind t = 1
  · have hkb : (TrN.kind t == 1) = true := by simpa using hkd
    cases hin : (nms (ext ++ sc)).contains (TrN.name t).data.toList
    · have HHf : Hid (∀ n : Nat, Calls Tryd.prog 87 #[.pointer (some ⟨S, 0, none⟩), .string (TrN.name t)] (w1.drewN n) fun e w' => e = .returned (.bool false) ∧ w' = w1.drewN n) := fun n => by
        have := HHas.out n
        rw [hin] at this
        exact this
      have HKd : Hid (TrN.kind t = 1) := hkd
      have HIn : Hid ((nms (ext ++ sc)).contains (TrN.name t).data.toList = false) := hin
      clear HHas hin hkb
      rw [hkd] at r0
      clear hkd
      go_wp2
      go_big_quiet ((go_at_call 87; exact Calls.quiet_of_same (HHf.out _)))
      obtain ⟨wq, hwq⟩ : ∃ W, w1.drewN nq = W := ⟨_, rfl⟩
      have HQ : Hid (SkSt wq S m f (c + nb) cf (ext ++ sc) F ∧ SkChg S m f w wq) := by rw [← hwq]; exact ⟨HS1.out.1.drewN nq, HS1.out.2.drewN nq⟩
      rw [hwq]
      clear hwq HHf HS1 r0 r1
      have lSq := HQ.out.1.sc.lt
      have lgq := (HEx.out _ HQ.out.2).2
      have hfo : wq.cell? ⟨S, 2, none⟩ = some (.map (some f)) := HQ.out.1.found
      have r1 : wq.cell? ⟨g, off + 1, none⟩ = some (.string (TrN.name t)) := ((HEx.out _ HQ.out.2).1 _).trans H1.out
      have hfo' : wq.drew.cell? ⟨S, 2, none⟩ = some (.map (some f)) := hfo
      have r1' : wq.drew.cell? ⟨g, off + 1, none⟩ = some (.string (TrN.name t)) := r1
      obtain ⟨W2, hrun, hset, hbut⟩ := ((HQ.out.1.set).same (W' := wq.drew) rfl).put (by have := HBd.out; omega) (TrN.name t) HN1.out
      have HR : Hid (SkRes w W2 S m f (c + nb) (cf + 1) (ext ++ sc) G1) := by
        have h1 : SkSt wq.drew S m f (c + nb) cf (ext ++ sc) F := HQ.out.1.drewN 1
        have h2 : SkChg S m f w wq.drew := HQ.out.2.drewN 1
        refine SkRes.eqG (G := fun x => (x == (TrN.name t).data.toList) || F x) ⟨⟨_, _, Nat.le_refl _, Nat.le_refl _, h1.put hset hbut⟩, h2.trans (SkChg.ofBut hbut)⟩ (Nat.le_refl _) (Nat.le_refl _) (fun x => ?_)
        rw [HG1.out x, HKd.out, HIn.out]
        simp [Bool.or_comm]
      clear hset hbut
      go_wp2
      go_region
      have HSt : Hid (SkRes w W2 S m f (c + nb) (cf + 1) (ext ++ sc) G1) := HR.out
      clear HR hrun hfo hfo' r1 r1' HQ HKd HIn lSq lgq hG1
      generalize W2 = w2 at HSt ⊢
      obtain ⟨⟨cX, cfX, bX1, bX2, sX⟩, chX⟩ := HSt.out
      have q4 : w2.cell? ⟨g, off + 4, none⟩ = some (.slice o4 lenb c4) := ((HEx.out _ chX).1 _).trans H4.out
      have lX := (HEx.out _ chX).2
      have lSX := sX.sc.lt
      have HC3 : Hid (Calls Tryd.prog 59 #[.pointer (some ⟨S, 0, none⟩), .slice o4 lenb c4] w2 fun e w' => e = .returned (.tuple #[]) ∧ SkRes w w' S m f (c + nb + 2 * cb) (cf + 1 + zb) (ext ++ sc) (fun x => G1 x || (TrN.binds t).any (fun b => freeM d b.2 (nms (ext ++ sc)) x))) := by
        refine (HBi.out _ ext cX cfX G1 hlen.out chX sX (by have := HBd.out; omega) (by have := HBd.out; omega)).mono ?_
        rintro e w' ⟨rfl, hr⟩
        exact ⟨rfl, SkRes.trans HSt.out (hr.eqG (by omega) (by omega) (fun _ => rfl))⟩
      clear sX chX bX1 bX2
      go_wp2_with (go_at_call 59; fail)
      refine HC3.out.mono ?_
      rintro e w3 ⟨rfl, hr⟩
      have HR3 : Hid (SkRes w w3 S m f (c + nb + 2 * cb) (cf + 1 + zb) (ext ++ sc) (fun x => G1 x || (TrN.binds t).any (fun b => freeM d b.2 (nms (ext ++ sc)) x))) := hr
      have q5 : w3.cell? ⟨g, off + 5, none⟩ = some (.slice o5 lena c5) := ((HEx.out _ hr.2).1 _).trans H5.out
      have l3 := (HEx.out _ hr.2).2
      clear hr HC3 q4
      go_wp2
      go_loopw [52] (fun i wr => ∃ k : Nat, k ≤ lena ∧ i = .int .i64 k ∧ Hid (SkRes w wr S m f (c + nb + 2 * cb + 2 * (((TrN.args t).take k).map fun e => costM d e).sum) (cf + 1 + zb + (((TrN.args t).take k).map fun e => sizeM d e).sum) (ext ++ sc) (fun x => (G1 x || (TrN.binds t).any (fun b => freeM d b.2 (nms (ext ++ sc)) x)) || ((TrN.args t).take k).any (fun e => freeM d e (nms (ext ++ sc)) x)))) (fun i _ => lena - (intOf i).toNat)
      case atStart => exact ⟨0, Nat.zero_le _, rfl, HR3.out.eqG (by simp) (by simp) (fun x => by simp)⟩
      case round =>
        obtain ⟨k, hk, rfl, hL⟩ := hrel
        have q5r : wr.cell? ⟨g, off + 5, none⟩ = some (.slice o5 lena c5) := ((HEx.out _ hL.out.2).1 _).trans H5.out
        have q6r : wr.cell? ⟨g, off + 6, none⟩ = some (.slice o6 lenl c6) := ((HEx.out _ hL.out.2).1 _).trans H6.out
        have lr := (HEx.out _ hL.out.2).2
        have lSr : S < wr.heap.size := by obtain ⟨⟨_, _, _, _, hs⟩, _⟩ := hL.out; exact hs.sc.lt
        by_cases hkn : k < lena
        · have hkl : k < (TrN.args t).length := by rw [HLa.out]; exact hkn
          obtain ⟨g', off', ho5, hg', hC⟩ := HAr.out k hkl
          subst ho5
          have hg2 : g' < wr.heap.size := by have := HBd.out.2.2; have := hL.out.2.size; omega
          have HC : Hid (Calls Tryd.prog 63 #[.pointer (some ⟨S, 0, none⟩), .pointer (some ⟨g', off' + k * 7, none⟩)] wr fun e w' => e = .returned (.tuple #[]) ∧ SkRes w w' S m f (c + nb + 2 * cb + 2 * (((TrN.args t).take (k + 1)).map fun e => costM d e).sum) (cf + 1 + zb + (((TrN.args t).take (k + 1)).map fun e => sizeM d e).sum) (ext ++ sc) (fun x => (G1 x || (TrN.binds t).any (fun b => freeM d b.2 (nms (ext ++ sc)) x)) || ((TrN.args t).take (k + 1)).any (fun e => freeM d e (nms (ext ++ sc)) x))) := by
            obtain ⟨⟨c', cf', a1, a2, a3⟩, a4⟩ := hL.out
            have t1 := take_sum (fun e : Tr d => costM d e) (TrN.args t) k hkl
            have t2 := take_le (fun e : Tr d => costM d e) (TrN.args t) (k + 1)
            have t3 := take_sum (fun e : Tr d => sizeM d e) (TrN.args t) k hkl
            have t4 := take_le (fun e : Tr d => sizeM d e) (TrN.args t) (k + 1)
            have hb1 := HBd.out
            have hb2 := HSum.out
            refine (hC wr ext c' cf' _ hlen.out a4 a3 (by omega) (by omega)).mono ?_
            rintro e w' ⟨rfl, hr⟩
            refine ⟨rfl, SkRes.trans hL.out (hr.eqG (by omega) (by omega) (fun x => ?_))⟩
            rw [any_snoc _ (TrN.args t) k hkl]
            simp only [Bool.or_assoc]
          clear hC hk hkl hL
          go_wp2_with (go_at_call 63; fail)
          refine HC.out.mono ?_
          rintro e w4 ⟨rfl, hr⟩
          have HR4 : Hid (_) := hr
          clear HC
          go_wp2
          go_roundw
          case rel => exact ⟨k + 1, hkn, by go_num, hr⟩
          case measure => simp [intOf]; omega
        · have HF : Hid (SkRes w wr S m f (c + nb + 2 * cb + 2 * ca) (cf + 1 + zb + za) (ext ++ sc) (fun x => (G1 x || (TrN.binds t).any (fun b => freeM d b.2 (nms (ext ++ sc)) x)) || (TrN.args t).any (fun e => freeM d e (nms (ext ++ sc)) x))) := by
            have e : (TrN.args t).take k = TrN.args t := List.take_of_length_le (by rw [HLa.out]; omega)
            have h3 := hL.out
            rw [e, HSum.out.1, HSum.out.2] at h3
            exact h3
          have HC5 : Hid (Calls Tryd.prog 88 #[.pointer (some ⟨S, 0, none⟩), .slice o6 lenl c6] wr fun e w' => e = .returned (.tuple #[]) ∧ SkRes w w' S m f (c + nb + 2 * cb + 2 * ca + 2 * cl) (cf + 1 + zb + za + zl) (ext ++ sc) (fun x => F x || freeM (d + 1) t (nms sc) x)) := by
            obtain ⟨⟨c', cf', a1, a2, a3⟩, a4⟩ := HF.out
            have hb1 := HBd.out
            refine (HAl.out wr ext c' cf' _ hlen.out a4 a3 (by omega) (by omega)).mono ?_
            rintro e w' ⟨rfl, hr⟩
            refine ⟨rfl, SkRes.trans HF.out (hr.eqG (by omega) (by omega) (fun x => ?_))⟩
            rw [← HFr.out ext he.out x, HG1.out x]
          clear hL hk HF
          go_wp2_with (go_at_call 88; fail)
          refine HC5.out.mono ?_
          rintro e w5 ⟨rfl, hr⟩
          have HR5 : Hid (SkRes w w5 S m f (c + nb + 2 * cb + 2 * ca + 2 * cl) (cf + 1 + zb + za + zl) (ext ++ sc) (fun x => F x || freeM (d + 1) t (nms sc) x)) := hr
          have l5 : S < w5.heap.size := by obtain ⟨⟨_, _, _, _, hs⟩, _⟩ := hr; exact hs.sc.lt
          have HC6 : Hid (Calls Tryd.prog 89 #[.pointer (some ⟨S, 0, none⟩), .pointer tp] w5 fun e w' => e = .returned (.tuple #[]) ∧ SkRes w w' S m f (c + 2 * (nb + cb + ca + cl)) (cf + (1 + zb + za + zl)) sc (fun x => F x || freeM (d + 1) t (nms sc) x)) := by
            obtain ⟨⟨c', cf', a1, a2, a3⟩, a4⟩ := HR5.out
            have hb1 := HBd.out
            refine (HLe.out w5 ext c' cf' _ he.out a3 (by omega)).mono ?_
            rintro e w' ⟨rfl, hr⟩
            exact ⟨rfl, SkRes.trans HR5.out (hr.eqG (by omega) (by omega) (fun _ => rfl))⟩
          clear hr HC5
          go_wp2_with (go_at_call 89; fail)
          refine HC6.out.mono ?_
          rintro e w6 ⟨rfl, hr⟩
          have HR6 : Hid (SkRes w w6 S m f (c + 2 * (nb + cb + ca + cl)) (cf + (1 + zb + za + zl)) sc (fun x => F x || freeM (d + 1) t (nms sc) x)) := hr
          clear hr HC6
          go_wp2
          go_end0
          exact ⟨rfl, HR6.out⟩
    · have HHf : Hid (∀ n : Nat, Calls Tryd.prog 87 #[.pointer (some ⟨S, 0, none⟩), .string (TrN.name t)] (w1.drewN n) fun e w' => e = .returned (.bool true) ∧ w' = w1.drewN n) := fun n => by
        have := HHas.out n
        rw [hin] at this
        exact this
      have HSt0 : Hid (∀ n, SkRes w (w1.drewN n) S m f (c + nb) (cf + 1) (ext ++ sc) G1) := fun n => by
        refine SkRes.eqG (G := F) ⟨⟨_, _, Nat.le_refl _, Nat.le_succ _, HS1.out.1.drewN n⟩, HS1.out.2.drewN n⟩ (Nat.le_refl _) (Nat.le_refl _) (fun x => ?_)
        rw [HG1.out x, hin]
        simp
      clear HHas hin hkb
      rw [hkd] at r0
      clear hkd
      go_wp2
      go_big_quiet ((go_at_call 87; exact Calls.quiet_of_same (HHf.out _)))
      have HSt : Hid (SkRes w (w1.drewN nq) S m f (c + nb) (cf + 1) (ext ++ sc) G1) := HSt0.out nq
      generalize w1.drewN nq = w2 at HSt ⊢
      clear HSt0 r0 r1 HHf HS1 hG1
      obtain ⟨⟨cX, cfX, bX1, bX2, sX⟩, chX⟩ := HSt.out
      have q4 : w2.cell? ⟨g, off + 4, none⟩ = some (.slice o4 lenb c4) := ((HEx.out _ chX).1 _).trans H4.out
      have lX := (HEx.out _ chX).2
      have lSX := sX.sc.lt
      have HC3 : Hid (Calls Tryd.prog 59 #[.pointer (some ⟨S, 0, none⟩), .slice o4 lenb c4] w2 fun e w' => e = .returned (.tuple #[]) ∧ SkRes w w' S m f (c + nb + 2 * cb) (cf + 1 + zb) (ext ++ sc) (fun x => G1 x || (TrN.binds t).any (fun b => freeM d b.2 (nms (ext ++ sc)) x))) := by
        refine (HBi.out _ ext cX cfX G1 hlen.out chX sX (by have := HBd.out; omega) (by have := HBd.out; omega)).mono ?_
        rintro e w' ⟨rfl, hr⟩
        exact ⟨rfl, SkRes.trans HSt.out (hr.eqG (by omega) (by omega) (fun _ => rfl))⟩
      clear sX chX bX1 bX2
      go_wp2_with (go_at_call 59; fail)
      refine HC3.out.mono ?_
      rintro e w3 ⟨rfl, hr⟩
      have HR3 : Hid (SkRes w w3 S m f (c + nb + 2 * cb) (cf + 1 + zb) (ext ++ sc) (fun x => G1 x || (TrN.binds t).any (fun b => freeM d b.2 (nms (ext ++ sc)) x))) := hr
      have q5 : w3.cell? ⟨g, off + 5, none⟩ = some (.slice o5 lena c5) := ((HEx.out _ hr.2).1 _).trans H5.out
      have l3 := (HEx.out _ hr.2).2
      clear hr HC3 q4
      go_wp2
      go_loopw [52] (fun i wr => ∃ k : Nat, k ≤ lena ∧ i = .int .i64 k ∧ Hid (SkRes w wr S m f (c + nb + 2 * cb + 2 * (((TrN.args t).take k).map fun e => costM d e).sum) (cf + 1 + zb + (((TrN.args t).take k).map fun e => sizeM d e).sum) (ext ++ sc) (fun x => (G1 x || (TrN.binds t).any (fun b => freeM d b.2 (nms (ext ++ sc)) x)) || ((TrN.args t).take k).any (fun e => freeM d e (nms (ext ++ sc)) x)))) (fun i _ => lena - (intOf i).toNat)
      case atStart => exact ⟨0, Nat.zero_le _, rfl, HR3.out.eqG (by simp) (by simp) (fun x => by simp)⟩
      case round =>
        obtain ⟨k, hk, rfl, hL⟩ := hrel
        have q5r : wr.cell? ⟨g, off + 5, none⟩ = some (.slice o5 lena c5) := ((HEx.out _ hL.out.2).1 _).trans H5.out
        have q6r : wr.cell? ⟨g, off + 6, none⟩ = some (.slice o6 lenl c6) := ((HEx.out _ hL.out.2).1 _).trans H6.out
        have lr := (HEx.out _ hL.out.2).2
        have lSr : S < wr.heap.size := by obtain ⟨⟨_, _, _, _, hs⟩, _⟩ := hL.out; exact hs.sc.lt
        by_cases hkn : k < lena
        · have hkl : k < (TrN.args t).length := by rw [HLa.out]; exact hkn
          obtain ⟨g', off', ho5, hg', hC⟩ := HAr.out k hkl
          subst ho5
          have hg2 : g' < wr.heap.size := by have := HBd.out.2.2; have := hL.out.2.size; omega
          have HC : Hid (Calls Tryd.prog 63 #[.pointer (some ⟨S, 0, none⟩), .pointer (some ⟨g', off' + k * 7, none⟩)] wr fun e w' => e = .returned (.tuple #[]) ∧ SkRes w w' S m f (c + nb + 2 * cb + 2 * (((TrN.args t).take (k + 1)).map fun e => costM d e).sum) (cf + 1 + zb + (((TrN.args t).take (k + 1)).map fun e => sizeM d e).sum) (ext ++ sc) (fun x => (G1 x || (TrN.binds t).any (fun b => freeM d b.2 (nms (ext ++ sc)) x)) || ((TrN.args t).take (k + 1)).any (fun e => freeM d e (nms (ext ++ sc)) x))) := by
            obtain ⟨⟨c', cf', a1, a2, a3⟩, a4⟩ := hL.out
            have t1 := take_sum (fun e : Tr d => costM d e) (TrN.args t) k hkl
            have t2 := take_le (fun e : Tr d => costM d e) (TrN.args t) (k + 1)
            have t3 := take_sum (fun e : Tr d => sizeM d e) (TrN.args t) k hkl
            have t4 := take_le (fun e : Tr d => sizeM d e) (TrN.args t) (k + 1)
            have hb1 := HBd.out
            have hb2 := HSum.out
            refine (hC wr ext c' cf' _ hlen.out a4 a3 (by omega) (by omega)).mono ?_
            rintro e w' ⟨rfl, hr⟩
            refine ⟨rfl, SkRes.trans hL.out (hr.eqG (by omega) (by omega) (fun x => ?_))⟩
            rw [any_snoc _ (TrN.args t) k hkl]
            simp only [Bool.or_assoc]
          clear hC hk hkl hL
          go_wp2_with (go_at_call 63; fail)
          refine HC.out.mono ?_
          rintro e w4 ⟨rfl, hr⟩
          have HR4 : Hid (_) := hr
          clear HC
          go_wp2
          go_roundw
          case rel => exact ⟨k + 1, hkn, by go_num, hr⟩
          case measure => simp [intOf]; omega
        · have HF : Hid (SkRes w wr S m f (c + nb + 2 * cb + 2 * ca) (cf + 1 + zb + za) (ext ++ sc) (fun x => (G1 x || (TrN.binds t).any (fun b => freeM d b.2 (nms (ext ++ sc)) x)) || (TrN.args t).any (fun e => freeM d e (nms (ext ++ sc)) x))) := by
            have e : (TrN.args t).take k = TrN.args t := List.take_of_length_le (by rw [HLa.out]; omega)
            have h3 := hL.out
            rw [e, HSum.out.1, HSum.out.2] at h3
            exact h3
          have HC5 : Hid (Calls Tryd.prog 88 #[.pointer (some ⟨S, 0, none⟩), .slice o6 lenl c6] wr fun e w' => e = .returned (.tuple #[]) ∧ SkRes w w' S m f (c + nb + 2 * cb + 2 * ca + 2 * cl) (cf + 1 + zb + za + zl) (ext ++ sc) (fun x => F x || freeM (d + 1) t (nms sc) x)) := by
            obtain ⟨⟨c', cf', a1, a2, a3⟩, a4⟩ := HF.out
            have hb1 := HBd.out
            refine (HAl.out wr ext c' cf' _ hlen.out a4 a3 (by omega) (by omega)).mono ?_
            rintro e w' ⟨rfl, hr⟩
            refine ⟨rfl, SkRes.trans HF.out (hr.eqG (by omega) (by omega) (fun x => ?_))⟩
            rw [← HFr.out ext he.out x, HG1.out x]
          clear hL hk HF
          go_wp2_with (go_at_call 88; fail)
          refine HC5.out.mono ?_
          rintro e w5 ⟨rfl, hr⟩
          have HR5 : Hid (SkRes w w5 S m f (c + nb + 2 * cb + 2 * ca + 2 * cl) (cf + 1 + zb + za + zl) (ext ++ sc) (fun x => F x || freeM (d + 1) t (nms sc) x)) := hr
          have l5 : S < w5.heap.size := by obtain ⟨⟨_, _, _, _, hs⟩, _⟩ := hr; exact hs.sc.lt
          have HC6 : Hid (Calls Tryd.prog 89 #[.pointer (some ⟨S, 0, none⟩), .pointer tp] w5 fun e w' => e = .returned (.tuple #[]) ∧ SkRes w w' S m f (c + 2 * (nb + cb + ca + cl)) (cf + (1 + zb + za + zl)) sc (fun x => F x || freeM (d + 1) t (nms sc) x)) := by
            obtain ⟨⟨c', cf', a1, a2, a3⟩, a4⟩ := HR5.out
            have hb1 := HBd.out
            refine (HLe.out w5 ext c' cf' _ he.out a3 (by omega)).mono ?_
            rintro e w' ⟨rfl, hr⟩
            exact ⟨rfl, SkRes.trans HR5.out (hr.eqG (by omega) (by omega) (fun _ => rfl))⟩
          clear hr HC5
          go_wp2_with (go_at_call 89; fail)
          refine HC6.out.mono ?_
          rintro e w6 ⟨rfl, hr⟩
          have HR6 : Hid (SkRes w w6 S m f (c + 2 * (nb + cb + ca + cl)) (cf + (1 + zb + za + zl)) sc (fun x => F x || freeM (d + 1) t (nms sc) x)) := hr
          clear hr HC6
          go_wp2
          go_end0
          exact ⟨rfl, HR6.out⟩
  · have hkb : (TrN.kind t == 1) = false := by simpa using hkd
    have HSt0 : Hid (∀ n, SkRes w (w1.drewN n) S m f (c + nb) (cf + 1) (ext ++ sc) G1) := fun n => by
      refine SkRes.eqG (G := F) ⟨⟨_, _, Nat.le_refl _, Nat.le_succ _, HS1.out.1.drewN n⟩, HS1.out.2.drewN n⟩ (Nat.le_refl _) (Nat.le_refl _) (fun x => ?_)
      rw [HG1.out x, hkb]
      simp
    generalize TrN.kind t = kd at *
    clear hkd
    go_wp2
    go_big_quiet (fail)
    have HSt : Hid (SkRes w (w1.drewN nq) S m f (c + nb) (cf + 1) (ext ++ sc) G1) := HSt0.out nq
    generalize w1.drewN nq = w2 at HSt ⊢
    clear HSt0 r0 r1 HHas HS1 hG1
    obtain ⟨⟨cX, cfX, bX1, bX2, sX⟩, chX⟩ := HSt.out
    have q4 : w2.cell? ⟨g, off + 4, none⟩ = some (.slice o4 lenb c4) := ((HEx.out _ chX).1 _).trans H4.out
    have lX := (HEx.out _ chX).2
    have lSX := sX.sc.lt
    have HC3 : Hid (Calls Tryd.prog 59 #[.pointer (some ⟨S, 0, none⟩), .slice o4 lenb c4] w2 fun e w' => e = .returned (.tuple #[]) ∧ SkRes w w' S m f (c + nb + 2 * cb) (cf + 1 + zb) (ext ++ sc) (fun x => G1 x || (TrN.binds t).any (fun b => freeM d b.2 (nms (ext ++ sc)) x))) := by
      refine (HBi.out _ ext cX cfX G1 hlen.out chX sX (by have := HBd.out; omega) (by have := HBd.out; omega)).mono ?_
      rintro e w' ⟨rfl, hr⟩
      exact ⟨rfl, SkRes.trans HSt.out (hr.eqG (by omega) (by omega) (fun _ => rfl))⟩
    clear sX chX bX1 bX2
    go_wp2_with (go_at_call 59; fail)
    refine HC3.out.mono ?_
    rintro e w3 ⟨rfl, hr⟩
    have HR3 : Hid (SkRes w w3 S m f (c + nb + 2 * cb) (cf + 1 + zb) (ext ++ sc) (fun x => G1 x || (TrN.binds t).any (fun b => freeM d b.2 (nms (ext ++ sc)) x))) := hr
    have q5 : w3.cell? ⟨g, off + 5, none⟩ = some (.slice o5 lena c5) := ((HEx.out _ hr.2).1 _).trans H5.out
    have l3 := (HEx.out _ hr.2).2
    clear hr HC3 q4
    go_wp2
    go_loopw [52] (fun i wr => ∃ k : Nat, k ≤ lena ∧ i = .int .i64 k ∧ Hid (SkRes w wr S m f (c + nb + 2 * cb + 2 * (((TrN.args t).take k).map fun e => costM d e).sum) (cf + 1 + zb + (((TrN.args t).take k).map fun e => sizeM d e).sum) (ext ++ sc) (fun x => (G1 x || (TrN.binds t).any (fun b => freeM d b.2 (nms (ext ++ sc)) x)) || ((TrN.args t).take k).any (fun e => freeM d e (nms (ext ++ sc)) x)))) (fun i _ => lena - (intOf i).toNat)
    case atStart => exact ⟨0, Nat.zero_le _, rfl, HR3.out.eqG (by simp) (by simp) (fun x => by simp)⟩
    case round =>
      obtain ⟨k, hk, rfl, hL⟩ := hrel
      have q5r : wr.cell? ⟨g, off + 5, none⟩ = some (.slice o5 lena c5) := ((HEx.out _ hL.out.2).1 _).trans H5.out
      have q6r : wr.cell? ⟨g, off + 6, none⟩ = some (.slice o6 lenl c6) := ((HEx.out _ hL.out.2).1 _).trans H6.out
      have lr := (HEx.out _ hL.out.2).2
      have lSr : S < wr.heap.size := by obtain ⟨⟨_, _, _, _, hs⟩, _⟩ := hL.out; exact hs.sc.lt
      by_cases hkn : k < lena
      · have hkl : k < (TrN.args t).length := by rw [HLa.out]; exact hkn
        obtain ⟨g', off', ho5, hg', hC⟩ := HAr.out k hkl
        subst ho5
        have hg2 : g' < wr.heap.size := by have := HBd.out.2.2; have := hL.out.2.size; omega
        have HC : Hid (Calls Tryd.prog 63 #[.pointer (some ⟨S, 0, none⟩), .pointer (some ⟨g', off' + k * 7, none⟩)] wr fun e w' => e = .returned (.tuple #[]) ∧ SkRes w w' S m f (c + nb + 2 * cb + 2 * (((TrN.args t).take (k + 1)).map fun e => costM d e).sum) (cf + 1 + zb + (((TrN.args t).take (k + 1)).map fun e => sizeM d e).sum) (ext ++ sc) (fun x => (G1 x || (TrN.binds t).any (fun b => freeM d b.2 (nms (ext ++ sc)) x)) || ((TrN.args t).take (k + 1)).any (fun e => freeM d e (nms (ext ++ sc)) x))) := by
          obtain ⟨⟨c', cf', a1, a2, a3⟩, a4⟩ := hL.out
          have t1 := take_sum (fun e : Tr d => costM d e) (TrN.args t) k hkl
          have t2 := take_le (fun e : Tr d => costM d e) (TrN.args t) (k + 1)
          have t3 := take_sum (fun e : Tr d => sizeM d e) (TrN.args t) k hkl
          have t4 := take_le (fun e : Tr d => sizeM d e) (TrN.args t) (k + 1)
          have hb1 := HBd.out
          have hb2 := HSum.out
          refine (hC wr ext c' cf' _ hlen.out a4 a3 (by omega) (by omega)).mono ?_
          rintro e w' ⟨rfl, hr⟩
          refine ⟨rfl, SkRes.trans hL.out (hr.eqG (by omega) (by omega) (fun x => ?_))⟩
          rw [any_snoc _ (TrN.args t) k hkl]
          simp only [Bool.or_assoc]
        clear hC hk hkl hL
        go_wp2_with (go_at_call 63; fail)
        refine HC.out.mono ?_
        rintro e w4 ⟨rfl, hr⟩
        have HR4 : Hid (_) := hr
        clear HC
        go_wp2
        go_roundw
        case rel => exact ⟨k + 1, hkn, by go_num, hr⟩
        case measure => simp [intOf]; omega
      · have HF : Hid (SkRes w wr S m f (c + nb + 2 * cb + 2 * ca) (cf + 1 + zb + za) (ext ++ sc) (fun x => (G1 x || (TrN.binds t).any (fun b => freeM d b.2 (nms (ext ++ sc)) x)) || (TrN.args t).any (fun e => freeM d e (nms (ext ++ sc)) x))) := by
          have e : (TrN.args t).take k = TrN.args t := List.take_of_length_le (by rw [HLa.out]; omega)
          have h3 := hL.out
          rw [e, HSum.out.1, HSum.out.2] at h3
          exact h3
        have HC5 : Hid (Calls Tryd.prog 88 #[.pointer (some ⟨S, 0, none⟩), .slice o6 lenl c6] wr fun e w' => e = .returned (.tuple #[]) ∧ SkRes w w' S m f (c + nb + 2 * cb + 2 * ca + 2 * cl) (cf + 1 + zb + za + zl) (ext ++ sc) (fun x => F x || freeM (d + 1) t (nms sc) x)) := by
          obtain ⟨⟨c', cf', a1, a2, a3⟩, a4⟩ := HF.out
          have hb1 := HBd.out
          refine (HAl.out wr ext c' cf' _ hlen.out a4 a3 (by omega) (by omega)).mono ?_
          rintro e w' ⟨rfl, hr⟩
          refine ⟨rfl, SkRes.trans HF.out (hr.eqG (by omega) (by omega) (fun x => ?_))⟩
          rw [← HFr.out ext he.out x, HG1.out x]
        clear hL hk HF
        go_wp2_with (go_at_call 88; fail)
        refine HC5.out.mono ?_
        rintro e w5 ⟨rfl, hr⟩
        have HR5 : Hid (SkRes w w5 S m f (c + nb + 2 * cb + 2 * ca + 2 * cl) (cf + 1 + zb + za + zl) (ext ++ sc) (fun x => F x || freeM (d + 1) t (nms sc) x)) := hr
        have l5 : S < w5.heap.size := by obtain ⟨⟨_, _, _, _, hs⟩, _⟩ := hr; exact hs.sc.lt
        have HC6 : Hid (Calls Tryd.prog 89 #[.pointer (some ⟨S, 0, none⟩), .pointer tp] w5 fun e w' => e = .returned (.tuple #[]) ∧ SkRes w w' S m f (c + 2 * (nb + cb + ca + cl)) (cf + (1 + zb + za + zl)) sc (fun x => F x || freeM (d + 1) t (nms sc) x)) := by
          obtain ⟨⟨c', cf', a1, a2, a3⟩, a4⟩ := HR5.out
          have hb1 := HBd.out
          refine (HLe.out w5 ext c' cf' _ he.out a3 (by omega)).mono ?_
          rintro e w' ⟨rfl, hr⟩
          exact ⟨rfl, SkRes.trans HR5.out (hr.eqG (by omega) (by omega) (fun _ => rfl))⟩
        clear hr HC5
        go_wp2_with (go_at_call 89; fail)
        refine HC6.out.mono ?_
        rintro e w6 ⟨rfl, hr⟩
        have HR6 : Hid (SkRes w w6 S m f (c + 2 * (nb + cb + ca + cl)) (cf + (1 + zb + za + zl)) sc (fun x => F x || freeM (d + 1) t (nms sc) x)) := hr
        clear hr HC6
        go_wp2
        go_end0
        exact ⟨rfl, HR6.out⟩
theorem seekOK : ∀ d, SeekOK d
  | 0 => fun t => nomatch t
  | d + 1 => seek_step d (seekOK d)
end Go.Proofs.YtjmpjfggbhongaaDoor
namespace Go.Proofs.YtjmpjfggbhongaaDoor
open Go.RowKit Go.Shelf Go.Maps
set_option linter.unusedVariables false
set_option maxRecDepth 100000 in
set_option maxHeartbeats 2000000 in
theorem newScope_c (w : World) : Calls Tryd.prog 81 #[] w fun e w' => ∃ m, e = .returned (.agg #[.pointer none, .map (some m)]) ∧ w.heap.size ≤ m ∧ FrMap w' m 0 (fnd []) ∧ Below w.heap.size w w' := by
  have hmm : ∀ W : World, (Instr.makeMap 104 none).run Tryd.prog W = .ok (.map (some W.heap.size)) (W.alloc (.map #[] 0)) := fun W => rfl
  obtain ⟨V, hV⟩ : ∃ V, w.alloc (Obj.cells #[Value.pointer none, Value.map none] 106) = V := ⟨_, rfl⟩
  have k0 : Blk V w.heap.size #[.pointer none, .map none] 106 := by rw [← hV]; exact Blk.new w _ _
  have b0 : Below w.heap.size w V := by rw [← hV]; exact below1 w _
  obtain ⟨N, hN⟩ : ∃ N, w.heap.size = N := ⟨_, rfl⟩
  rw [hN] at k0
  obtain ⟨M, hM⟩ : ∃ M, V.heap.size = M := ⟨_, rfl⟩
  obtain ⟨U, hU⟩ : ∃ U, V.alloc (.map #[] 0) = U := ⟨_, rfl⟩
  have b1 : Below V.heap.size V U := by rw [← hU]; exact below1 V _
  have k1 : Blk U N #[.pointer none, .map none] 106 := by unfold Blk; rw [b1.block N k0.lt]; exact k0
  have f1 : FrMap U M 0 (fnd []) := by rw [← hU, ← hM]; exact frMap_new V
  obtain ⟨T, hT⟩ : ∃ T, U.setCell ⟨N, 0, none⟩ (.pointer none) = T := ⟨_, rfl⟩
  have k2 : Blk T N #[.pointer none, .map none] 106 := by rw [← hT]; exact k1.set 0 _
  obtain ⟨R, hR⟩ : ∃ R, T.setCell ⟨N, 1, none⟩ (.map (some M)) = R := ⟨_, rfl⟩
  have k3 : Blk R N #[.pointer none, .map (some M)] 106 := by rw [← hR]; exact k2.set 1 _
  have hNM : N < M := by rw [← hM]; exact k0.lt
  have HEnd : Hid (N ≤ M ∧ FrMap R M 0 (fnd []) ∧ Below w.heap.size w R) := by
    have c1 := But.set N U 0 (.pointer none)
    have c2 := But.set N T 1 (.map (some M))
    rw [hT] at c1
    rw [hR] at c2
    have l1 : M < U.heap.size := f1.lt
    refine ⟨by omega, f1.same ((c2.block M (by have := c1.size; omega) (by omega)).trans (c1.block M l1 (by omega))), ?_⟩
    have d0 : Below w.heap.size w U := b0.trans (b1.mono (by have := b0.size; omega))
    have d1 : Below w.heap.size w T := by rw [← hT]; exact d0.setCell (p := ⟨N, 0, none⟩) (by rw [← hN]; exact Nat.le_refl _) _
    rw [← hR]; exact d1.setCell (p := ⟨N, 1, none⟩) (by rw [← hN]; exact Nat.le_refl _) _
  have e0 : U.cell? ⟨N, 0, none⟩ = some (.pointer none) := k1.cell 0 _ rfl
  have e1 : T.cell? ⟨N, 1, none⟩ = some (.map none) := k2.cell 1 _ rfl
  have g0 := k1.frozen 0
  have g1 := k2.frozen 1
  have e2 : R.cell? ⟨N, 0, none⟩ = some (.pointer none) := k3.cell 0 _ rfl
  have e3 : R.cell? ⟨N, 1, none⟩ = some (.map (some M)) := k3.cell 1 _ rfl
  have HK : Hid (Blk R N #[.pointer none, .map (some M)] 106) := k3
  clear k0 k1 k2 k3 b0 b1 f1
  go_enter Tryd.func81, Tryd.ntmps81
  go_wp2
  (try simp only [Exit.inBlock, Exit.then])
  refine bodyPost_ret (results_cell_row rfl _ _ N 106 _ _ _ rfl HK.out Tryd.underlying106 rfl rfl) rfl ?_
  exact ⟨M, rfl, by rw [hN]; exact HEnd.out.1, HEnd.out.2⟩
set_option maxRecDepth 100000 in
set_option maxHeartbeats 2000000 in
theorem newSeeker_c (w : World) : Calls Tryd.prog 57 #[] w fun e w' => ∃ S m f, e = .returned (.pointer (some ⟨S, 0, none⟩)) ∧ w.heap.size ≤ S ∧ w.heap.size ≤ m ∧ w.heap.size ≤ f ∧ SkSt w' S m f 0 0 [] (fun _ => false) ∧ Below w.heap.size w w' := by
  have hmm : ∀ W : World, (Instr.makeMap 84 none).run Tryd.prog W = .ok (.map (some W.heap.size)) (W.alloc (.map #[] 0)) := fun W => rfl
  go_enter Tryd.func57, Tryd.ntmps57
  go_wp2_with (go_at_call 81; fail)
  refine (newScope_c w).mono ?_
  rintro e w1 ⟨m, rfl, hm, hF, hB⟩
  have HF : Hid (FrMap w1 m 0 (fnd [])) := hF
  have HB : Hid (Below w.heap.size w w1) := hB
  clear hF hB
  go_wp2
  go_ret
  obtain ⟨V, hV⟩ : ∃ V, w1.alloc (.map #[] 0) = V := ⟨_, rfl⟩
  have hVs : V.heap.size = w1.heap.size + 1 := by rw [← hV]; exact Array.size_push _
  have b1 : Below w1.heap.size w1 V := by rw [← hV]; exact below1 w1 _
  have s1 : SetIs V w1.heap.size 0 (fun _ => false) := by rw [← hV]; exact setIs_new w1
  rw [hV]
  obtain ⟨U, hU⟩ : ∃ U, V.alloc (.cells #[.pointer none, .map (some m), .map (some w1.heap.size)] 108) = U := ⟨_, rfl⟩
  have b2 : Below V.heap.size V U := by rw [← hU]; exact below1 V _
  have k2 : Blk U V.heap.size #[.pointer none, .map (some m), .map (some w1.heap.size)] 108 := by rw [← hU]; exact Blk.new V _ _
  rw [hU]
  rw [hVs] at k2
  have hmw := HF.out.lt
  have hws := HB.out.size
  refine ⟨w1.heap.size + 1, m, w1.heap.size, rfl, by omega, hm, hws, ⟨⟨by omega, k2.cell 0 _ rfl, k2.frozen 0, k2.cell 1 _ rfl, HF.out.same ?_, trivial, k2.lt⟩, k2.cell 2 _ rfl, s1.same (b2.block _ (by omega)), by omega, by omega⟩, ?_⟩
  · exact (b2.block m (by omega)).trans (b1.block m hmw)
  · exact (HB.out.trans (b1.mono hws)).trans (b2.mono (by omega))
/-- What is free in an expression: a set. -/
theorem freeIn_c (d : Nat) (t : Tr d) (hN : NmOK d t) (hc : 2 * costM d t ≤ 2000000) (hs : sizeM d t ≤ 2000000) (B g off : Nat) (w : World) (hE : ExAt w B d t g off) (hw : B ≤ w.heap.size) (hg : g < w.heap.size) :
    Calls Tryd.prog 39 #[.pointer (some ⟨g, off, none⟩)] w fun e w' => ∃ f cf, e = .returned (.map (some f)) ∧ B ≤ f ∧ cf ≤ sizeM d t ∧ SetIs w' f cf (freeM d t []) ∧ Below w.heap.size w w' := by
  have HC : Hid (∀ W S m f, Below w.heap.size w W → SkSt W S m f 0 0 [] (fun _ => false) → w.heap.size ≤ S → w.heap.size ≤ m → w.heap.size ≤ f → Calls Tryd.prog 63 #[.pointer (some ⟨S, 0, none⟩), .pointer (some ⟨g, off, none⟩)] W fun e w' => e = .returned (.tuple #[]) ∧ (w'.cell? ⟨S, 2, none⟩ = some (.map (some f)) ∧ S < w'.heap.size) ∧ ∃ cf, B ≤ f ∧ cf ≤ sizeM d t ∧ SetIs w' f cf (freeM d t []) ∧ Below w.heap.size w w') := by
    intro W S m f hB hS h1 h2 h3
    have hsz := hB.size
    refine (seekOK d t B g off S m f 0 0 [] (fun _ => false) W (ExAt.same (fun g' off' hg' => cell_of_block (hB.block g' (by omega)) off') d _ _ _ hE) (by omega) (by omega) (by omega) (by omega) hS hN (by omega) (by simp; omega) (by omega)).mono ?_
    rintro e w' ⟨rfl, ⟨c', cf', q1, q2, q3⟩, q4⟩
    have e : (fun x => false || freeM d t (nms []) x) = freeM d t [] := by funext x; rw [Bool.false_or]; rfl
    have q5 := q3.set
    rw [e] at q5
    exact ⟨rfl, ⟨q3.found, q3.sc.lt⟩, cf', by omega, by omega, q5, ⟨q4.os.trans hB.os, q4.tape.trans hB.tape, q4.output.trans hB.output, by have := q4.size; omega, fun k hk => (q4.block k (by omega) (by omega) (by omega) (by omega)).trans (hB.block k hk)⟩⟩
  clear hN hc hs hE hw
  go_enter Tryd.func39, Tryd.ntmps39
  go_wp2_with (go_at_call 57; fail)
  refine (newSeeker_c w).mono ?_
  rintro e w1 ⟨S, m, f, rfl, h1, h2, h3, h4, h5⟩
  have HC1 : Hid (_) := HC.out w1 S m f h5 h4 h1 h2 h3
  have l1 : S < w1.heap.size := h4.sc.lt
  have l2 : g < w1.heap.size := by have := h5.size; omega
  clear HC h1 h2 h3 h4 h5
  go_wp2_with (go_at_call 63; fail)
  refine Calls.mono HC1.out ?_
  rintro e w2 ⟨rfl, ⟨h6, h7⟩, hr⟩
  have HR : Hid (_) := hr
  clear HC1 hr
  go_wp2
  go_ret
  obtain ⟨cf, q⟩ := HR.out
  exact ⟨f, cf, rfl, q⟩
end Go.Proofs.YtjmpjfggbhongaaDoor
namespace Go.Proofs.YtjmpjfggbhongaaDoor
open Go.RowKit Go.Shelf Go.Maps
set_option linter.unusedVariables false
/-- A pairing in memory: four cells of block P. -/
structure PrSt (W : World) (P ma mb ca cb : Nat) (sa sb : Sc) : Prop where
  a : ScAt W P 0 ma ca sa
  b : ScAt W P 2 mb cb sb
  ne : ma ≠ mb
theorem PrSt.drewN {W : World} {P ma mb ca cb : Nat} {sa sb : Sc} (h : PrSt W P ma mb ca cb sa sb) (n : Nat) : PrSt (W.drewN n) P ma mb ca cb sa sb := ⟨h.a.drewN n, h.b.drewN n, h.ne⟩
/-- What a pairing has come to. -/
def PrRes (w w' : World) (P ma mb CA CB : Nat) (sa sb : Sc) : Prop := (∃ ca cb, ca ≤ CA ∧ cb ≤ CB ∧ PrSt w' P ma mb ca cb sa sb) ∧ SkChg P ma mb w w'
theorem PrRes.le {w w' : World} {P ma mb CA CB CA' CB' : Nat} {sa sb : Sc} (h : PrRes w w' P ma mb CA CB sa sb) (h1 : CA ≤ CA') (h2 : CB ≤ CB') : PrRes w w' P ma mb CA' CB' sa sb := by
  obtain ⟨⟨ca, cb, e1, e2, e3⟩, e4⟩ := h
  exact ⟨⟨ca, cb, by omega, by omega, e3⟩, e4⟩
theorem PrRes.trans {w w' w'' : World} {P ma mb CA CB CA' CB' : Nat} {sa sb sa' sb' : Sc} (h : PrRes w w' P ma mb CA CB sa sb) (k : PrRes w' w'' P ma mb CA' CB' sa' sb') : PrRes w w'' P ma mb CA' CB' sa' sb' := ⟨k.1, h.2.trans k.2⟩
theorem PrRes.drewN {w w' : World} {P ma mb CA CB : Nat} {sa sb : Sc} (h : PrRes w w' P ma mb CA CB sa sb) (n : Nat) : PrRes w (w'.drewN n) P ma mb CA CB sa sb := by
  obtain ⟨⟨ca, cb, e1, e2, e3⟩, e4⟩ := h
  exact ⟨⟨ca, cb, e1, e2, e3.drewN n⟩, e4.drewN n⟩
end Go.Proofs.YtjmpjfggbhongaaDoor
namespace Go.Proofs.YtjmpjfggbhongaaDoor
open Go.RowKit Go.Shelf Go.Maps
set_option linter.unusedVariables false
theorem AltAt.same {W W' : World} {B d : Nat} (hb : ∀ g off, g < B → W'.cell? ⟨g, off, none⟩ = W.cell? ⟨g, off, none⟩) {a : AltH × Tr d} {g off : Nat} (h : AltAt W B d a g off) : AltAt W' B d a g off := by
  obtain ⟨e1, e2, e3, ⟨o, c, e4, e5⟩, e6⟩ := h
  have hg := e6.lt
  exact ⟨(hb _ _ hg).trans e1, (hb _ _ hg).trans e2, (hb _ _ hg).trans e3, ⟨o, c, (hb _ _ hg).trans e4, e5.same hb⟩, ExAt.same hb d _ _ _ e6⟩
end Go.Proofs.YtjmpjfggbhongaaDoor
namespace Go.Proofs.YtjmpjfggbhongaaDoor
open Go.RowKit Go.Shelf Go.Maps
set_option linter.unusedVariables false
theorem TxIn.mono {W : World} {B B' : Nat} {o : Option Addr} {l : List ByteArray} (h : TxIn W B o l) (hB : B ≤ B') : TxIn W B' o l := by
  rcases h with h | ⟨g, off, e, hg, h⟩
  · exact .inl h
  · exact .inr ⟨g, off, e, by omega, h⟩
theorem RowIn.up {α : Type} {B B' n : Nat} {p q : α → Nat → Nat → Prop} {o : Option Addr} {l : List α} (h : RowIn B n p o l) (hB : B ≤ B') (hpq : ∀ x g off, g < B → p x g off → q x g off) : RowIn B' n q o l := by
  rcases h with h | ⟨g, off, e, hg, h⟩
  · exact .inl h
  · exact .inr ⟨g, off, e, by omega, fun k hk => hpq _ _ _ hg (h k hk)⟩
theorem ExAt.up {W : World} {B B' : Nat} (hB : B ≤ B') : ∀ (d : Nat) (t : Tr d) (g off : Nat), ExAt W B d t g off → ExAt W B' d t g off
  | 0, t, _, _, _ => nomatch t
  | d + 1, t, g, off, h => by
    obtain ⟨hg, h0, h1, h2, ⟨o3, c3, h3, k3⟩, ⟨o4, c4, h4, k4⟩, ⟨o5, c5, h5, k5⟩, ⟨o6, c6, h6, k6⟩⟩ := h
    refine ⟨by omega, h0, h1, h2, ⟨o3, c3, h3, k3.mono hB⟩, ⟨o4, c4, h4, k4.up hB ?_⟩, ⟨o5, c5, h5, k5.up hB ?_⟩, ⟨o6, c6, h6, k6.up hB ?_⟩⟩
    · rintro x g off hg ⟨e1, e2⟩
      exact ⟨e1, ExAt.up hB d _ _ _ e2⟩
    · intro x g off hg e
      exact ExAt.up hB d _ _ _ e
    · rintro x g off hg ⟨e1, e2, e3, ⟨o, c, e4, e5⟩, e6⟩
      exact ⟨e1, e2, e3, ⟨o, c, e4, e5.mono hB⟩, ExAt.up hB d _ _ _ e6⟩
/-- An expression as a value, its rows in memory. -/
def ExVal (W : World) (B d : Nat) (t : Tr (d + 1)) (v : Value) : Prop := ∃ o3 c3 o4 c4 o5 c5 o6 c6, v = .agg #[.int .i64 (TrN.kind t), .string (TrN.name t), .int .i64 (TrN.num t), .slice o3 (TrN.params t).length c3, .slice o4 (TrN.binds t).length c4, .slice o5 (TrN.args t).length c5, .slice o6 (TrN.alts t).length c6] ∧ TxIn W B o3 (TrN.params t) ∧
  RowIn B 8 (fun (b : ByteArray × Tr d) g off => W.cell? ⟨g, off, none⟩ = some (.string b.1) ∧ ExAt W B d b.2 g (off + 1)) o4 (TrN.binds t) ∧ RowIn B 7 (fun (x : Tr d) g off => ExAt W B d x g off) o5 (TrN.args t) ∧ RowIn B 11 (AltAt W B d) o6 (TrN.alts t)
theorem ExVal.same {W W' : World} {B d : Nat} {t : Tr (d + 1)} {v : Value} (h : ExVal W B d t v) (hb : ∀ g off, g < B → W'.cell? ⟨g, off, none⟩ = W.cell? ⟨g, off, none⟩) : ExVal W' B d t v := by
  obtain ⟨o3, c3, o4, c4, o5, c5, o6, c6, e, k3, k4, k5, k6⟩ := h
  exact ⟨o3, c3, o4, c4, o5, c5, o6, c6, e, k3.same hb, k4.mono (fun x g off hg h => ⟨(hb _ _ hg).trans h.1, ExAt.same hb d _ _ _ h.2⟩), k5.mono (fun x g off hg h => ExAt.same hb d _ _ _ h), k6.mono (fun x g off hg h => AltAt.same hb h)⟩
/-- A value whose cells lie in a block. -/
theorem ExVal.at {W : World} {B N d : Nat} {t : Tr (d + 1)} {cs : Array Value} {T : TypeId} (h : ExVal W B d t (.agg cs)) (hN : B ≤ N) (hk : Blk W N cs T) : ExAt W (N + 1) (d + 1) t N 0 := by
  obtain ⟨o3, c3, o4, c4, o5, c5, o6, c6, e, k3, k4, k5, k6⟩ := h
  cases e
  have hB : B ≤ N + 1 := by omega
  refine ⟨by omega, hk.cell 0 _ rfl, hk.cell 1 _ rfl, hk.cell 2 _ rfl, ⟨o3, c3, hk.cell 3 _ rfl, k3.mono hB⟩, ⟨o4, c4, hk.cell 4 _ rfl, k4.up hB ?_⟩, ⟨o5, c5, hk.cell 5 _ rfl, k5.up hB ?_⟩, ⟨o6, c6, hk.cell 6 _ rfl, k6.up hB ?_⟩⟩
  · rintro x g off hg ⟨e1, e2⟩
    exact ⟨e1, ExAt.up hB d _ _ _ e2⟩
  · intro x g off hg e
    exact ExAt.up hB d _ _ _ e
  · rintro x g off hg ⟨e1, e2, e3, ⟨o, c, e4, e5⟩, e6⟩
    exact ⟨e1, e2, e3, ⟨o, c, e4, e5.mono hB⟩, ExAt.up hB d _ _ _ e6⟩
end Go.Proofs.YtjmpjfggbhongaaDoor
namespace Go.Proofs.YtjmpjfggbhongaaDoor
open Go.RowKit Go.Shelf Go.Maps
set_option linter.unusedVariables false
set_option maxRecDepth 100000 in
set_option maxHeartbeats 4000000 in
theorem Size_c (d : Nat) (a : Tr (d + 1)) (va : Value) (B : Nat) (w : World) (ha : ExVal w B d a va) (hw : B ≤ w.heap.size) (hza : sizeM (d + 1) a ≤ 1048576) (hd : d + 1 ≤ 4096) :
    Calls Tryd.prog 46 #[va] w fun e w' => e = .returned (.int .i64 (sizeM (d + 1) a : Int)) ∧ Below w.heap.size w w' := by
  obtain ⟨o3, c3, o4, c4, o5, c5, o6, c6, ea, -⟩ := id ha
  subst ea
  obtain ⟨V, hV⟩ : ∃ V, w.alloc (.cells #[.int .i64 (TrN.kind a), .string (TrN.name a), .int .i64 (TrN.num a), .slice o3 (TrN.params a).length c3, .slice o4 (TrN.binds a).length c4, .slice o5 (TrN.args a).length c5, .slice o6 (TrN.alts a).length c6] 29) = V := ⟨_, rfl⟩
  have k0 : Blk V w.heap.size #[.int .i64 (TrN.kind a), .string (TrN.name a), .int .i64 (TrN.num a), .slice o3 (TrN.params a).length c3, .slice o4 (TrN.binds a).length c4, .slice o5 (TrN.args a).length c5, .slice o6 (TrN.alts a).length c6] 29 := by rw [← hV]; exact Blk.new w _ _
  have b0 : Below w.heap.size w V := by rw [← hV]; exact below1 w _
  have hVs : V.heap.size = w.heap.size + 1 := by rw [← hV]; exact Array.size_push _
  obtain ⟨U0, hU0⟩ : ∃ U0, V.alloc (.cells #[.int .i64 0] 95) = U0 := ⟨_, rfl⟩
  have k1 : Blk U0 (w.heap.size + 1) #[.int .i64 0] 95 := by rw [← hVs, ← hU0]; exact Blk.new V _ _
  have b1 : Below V.heap.size V U0 := by rw [← hU0]; exact below1 V _
  obtain ⟨U, hU⟩ : ∃ U, U0.setCell ⟨w.heap.size + 1, 0, none⟩ (.int .i64 1048576) = U := ⟨_, rfl⟩
  have k2 : Blk U (w.heap.size + 1) #[.int .i64 1048576] 95 := by rw [← hU]; exact k1.set 0 _
  have b2 : Below (w.heap.size + 1) V U := by rw [← hU]; exact (b1.mono (show w.heap.size + 1 ≤ V.heap.size by omega)).setCell (p := ⟨w.heap.size + 1, 0, none⟩) (Nat.le_refl _) _
  have e0 : U0.cell? ⟨w.heap.size + 1, 0, none⟩ = some (.int .i64 0) := k1.cell 0 _ rfl
  have g0 := k1.frozen 0
  have lU : w.heap.size < U.heap.size := by have := b2.size; omega
  have lU1 : w.heap.size + 1 < U.heap.size := k2.lt
  have hcell : ∀ g off, g < B → V.cell? ⟨g, off, none⟩ = w.cell? ⟨g, off, none⟩ := fun g off hg => cell_of_block (b0.block g (by omega)) off
  have xa : ExAt U (w.heap.size + 1) (d + 1) a w.heap.size 0 := ((ha.same hcell).at hw k0).below b2
  have HB : Hid (Below w.heap.size w U) := b0.trans (b2.mono (by omega))
  obtain ⟨sz, hsz⟩ : ∃ sz, sizeM (d + 1) a = sz := ⟨_, rfl⟩
  rw [hsz]
  have hszi : (sz : Int) ≤ 1048576 := by omega
  have HC : Hid (Calls Tryd.prog 52 #[.pointer (some ⟨w.heap.size + 1, 0, none⟩), .pointer (some ⟨w.heap.size, 0, none⟩), .int .i64 4096] U fun e w' => e = .returned (.bool true) ∧ RmSt U w' (w.heap.size + 1) (1048576 - (sz : Int))) := by
    have h9 := roomOK (d + 1) a (w.heap.size + 1) w.heap.size 0 (w.heap.size + 1) 1048576 4096 U xa (Nat.le_refl _) (by omega) k2 (by omega) (by omega) (by omega) (by omega)
    rw [hsz] at h9
    exact h9
  clear ha hza k0 k1 k2 b0 b1 b2 xa hcell hsz
  go_enter Tryd.func46, Tryd.ntmps46
  go_wp2_with (go_at_call 52; fail)
  (try rw [hV])
  (try rw [hU0])
  (try rw [hU])
  refine HC.out.mono ?_
  rintro e w1 ⟨rfl, hr⟩
  have c1 : w1.cell? ⟨w.heap.size + 1, 0, none⟩ = some (.int .i64 (1048576 - (sz : Int))) := hr.1.cell 0 _ rfl
  have l1 : w.heap.size + 1 < w1.heap.size := hr.1.lt
  have HR : Hid (RmSt U w1 (w.heap.size + 1) (1048576 - (sz : Int))) := hr
  clear hr HC
  go_wp2
  go_ret
  have hes : (1048576 : Int) - (1048576 - (sz : Int)) = (sz : Int) := by omega
  refine ⟨by first | (show Ending.returned (.int .i64 (1048576 - (1048576 - (sz : Int)))) = _; rw [hes]) | rfl, ?_⟩
  obtain ⟨h1, h2⟩ := HR.out
  exact ⟨h2.os.trans HB.out.os, h2.tape.trans HB.out.tape, h2.output.trans HB.out.output, by have := HB.out.size; have := h2.size; omega, fun k hk => (h2.block k (by omega) (by omega)).trans (HB.out.block k hk)⟩
end Go.Proofs.YtjmpjfggbhongaaDoor
namespace Go.Proofs.YtjmpjfggbhongaaDoor
open Go.RowKit Go.Shelf Go.Maps Go.Sort
set_option linter.unusedVariables false
attribute [local go_sem] Oper.semAt_some
theorem info9 : (Tryd.prog.info? 9).map (fun i => (i.zero, i.size, i.bytes)) = some (some (.string ⟨#[]⟩), 1, 16) := by kernel_rfl
theorem owns_mono4 {W : World} {b b' : Nat} {e : TypeId} {z : Nat} {v : Value} {k : Nat} {xs : List Value} (h : W.ownsRow b e z v k xs) (hb : b' ≤ b) : W.ownsRow b' e z v k xs := by
  rcases h with ⟨hl, h | ⟨g, cap, cur, h1, h2, h3⟩⟩
  · exact ⟨hl, .inl h⟩
  · exact ⟨hl, .inr ⟨g, cap, cur, h1, Nat.le_trans hb h2, h3⟩⟩

set_option maxRecDepth 100000 in
set_option maxHeartbeats 2000000 in
theorem appendSeq_in (F : Fence) (n : Nat) (hF : ∀ k, F.fn k) (hro : F.round = none) (h1 : 1 ≤ n) (hn : 3 ≤ n) (B : Nat) (sv : Value) (k0 : Nat) (xs0 : List Value) (g : Nat) (lb : Array Value) (eg : ∀ args w, (callFunc g args).run Tryd.prog w = .ok (.enter g args) w)
    (S Sp : List (List UInt8) → Prop) (N : Nat) (hN : k0 + N ≤ 1000000) (w : World) (hB : B ≤ w.heap.size) (hrow0 : w.ownsRow B 9 1 sv k0 xs0) (hseq : SeqStops F (n - 1) Tryd.prog g lb encStr S Sp N w) :
    CallsIn F n Tryd.prog 83 #[sv, .func (.func g) #[] lb] w fun e W' => ∃ (v : Value) (ss : List (List UInt8)), e = .returned v ∧ S ss ∧ W'.ownsRow B 9 1 v (k0 + ss.length) (xs0 ++ ss.map encStr) ∧ Below B w W' := by
  obtain ⟨i0, hi, hz0, hz1, hz2⟩ := info_parts info9
  obtain ⟨so, sl, sc, rfl⟩ : ∃ so sl sc, sv = .slice so sl sc := by
    rcases hrow0.2 with ⟨rfl, _⟩ | ⟨gb, cap, cur, rfl, _⟩
    · exact ⟨_, _, _, rfl⟩
    · exact ⟨_, _, _, rfl⟩
  refine callsIn_of_wp_marks Tryd.func83 rfl (hF _) ?_ hro
  simp only [Tryd.ntmps83, List.size_toArray, List.length_cons, List.length_nil, Nat.reduceAdd, Nat.reduceSub, Array.replicate_succ, Array.replicate_zero, List.push_toArray, List.append_toArray, List.nil_append, List.cons_append]
  gi_wp2
  obtain ⟨W0, hW0⟩ : ∃ W0, w.alloc (.cells #[.slice so sl sc] 24) = W0 := ⟨_, rfl⟩
  have b0 : Boxed W0 w.heap.size 24 (.slice so sl sc) := by rw [← hW0]; exact Boxed.new w _ _
  have hB0 : Below B w W0 := by rw [← hW0]; exact (Below.refl _ _).alloc hB _
  have hB1 : Below w.heap.size w W0 := by rw [← hW0]; exact (Below.refl _ _).alloc (Nat.le_refl _) _
  have hr0 : W0.ownsRow B 9 1 (.slice so sl sc) k0 xs0 := by rw [← hW0]; exact hrow0.alloc _
  rw [hW0]
  have Hsz : Hid (W0.heap.size = w.heap.size + 1) := by show _ = _; rw [← hW0]; simp
  clear hW0
  refine wpIn_rangeFunc_ownG hro h1 (gf := g) (lb := lb) rfl (hF _) eg (w0 := w) (encs := fun x => #[encStr x]) (Kp := KeepsWalks) (S := S) (Sp := Sp) (N := N) hseq walksK_t (fun W l o o' hl => walksK_b (w := W0) W l o o' hl) hB1 (fun _ => rfl)
    (fun pre W => (∃ v, Boxed W w.heap.size 24 v ∧ W.ownsRow B 9 1 v (k0 + pre.length) (xs0 ++ pre.map encStr) ∧ True) ∧ Below B w W)
    (fun _ _ _ => False)
    (OwnFrom.and (Own.from (holdsRow_own B w.heap.size 24 9 1 (fun pre : List (List UInt8) => k0 + pre.length) (fun pre => xs0 ++ pre.map encStr) (fun pre v => True)) _) (ownFrom_below hB (by have := Hsz.out; omega)))
    (fun _ _ _ _ _ hs _ _ => hs)
    ⟨⟨_, b0, by simpa using hr0, trivial⟩, hB0⟩
    ?a1 ?assign ?body ?done ?stop
  case assign =>
    intro l x W K hK
    gi_wp2
    exact hK
  case body =>
    rintro l pre x W ⟨⟨v, hv, hrow, _⟩, hBW⟩ hlt
    have hc := hv.cell
    gi_wp2_with (gi_at_builtin; refine wpListIn_append_own _ rfl _ _ 24 rfl B 9 i0 (.string ⟨#[]⟩) 1 16 Tryd.underlying24 hi hz0 hz1 hz2 rfl (by decide) _ _ _ rfl (hrow.alloc _) ⟨W.heap.size, 0, none⟩ 1 1 [encStr x] rfl rfl (cell_one_new _ _ _) (by simp [Value.oneCell', encStr]) (by unfold maxLen; omega) (by omega) (by have := hBW.size; simp; omega) ?_; intro v' w1 hown' hgrow _; obtain ⟨g', cap', rfl⟩ := ownsRow_succ hown'; obtain ⟨hv1, hv2, hr2, hk2, hb2⟩ := hv.appended (n₀ := B) (by decide) hrow (Nat.le_trans hB hBW.size) hB hown' hgrow; have hc1 := hv1.cell; have hf1 := hv1.frozen)
    refine ⟨hk2.from _, hk2.walks, ⟨_, hv2, ?_, trivial⟩, hBW.trans hb2⟩
    have e1 : k0 + (pre ++ [x]).length = k0 + pre.length + 1 := by simp; omega
    have e2 : xs0 ++ (pre ++ [x]).map encStr = xs0 ++ pre.map encStr ++ [encStr x] := by simp
    rw [e1, e2]
    exact hr2
  case done =>
    rintro D ys W hD hS ⟨⟨v, hv, hrow, _⟩, hBW⟩ hK
    have hc := hv.cell
    gi_wp2
    refine ⟨by simp, .inl ⟨_, _, rfl, run_takeDeferred hK, ?_⟩⟩
    exact ⟨_, results_tmp rfl _ _ _, v, ys, rfl, hS, ownsRow_putObj hrow _ hK rfl, hBW.trans (belowK_b (w := w) hB W D _ _ (by have := Hsz.out; omega) hK rfl rfl)⟩
  case stop =>
    rintro D c pre W _ _ h _
    exact h.elim
end Go.Proofs.YtjmpjfggbhongaaDoor
namespace Go.Proofs.YtjmpjfggbhongaaDoor
open Go.RowKit Go.Shelf Go.Maps
set_option linter.unusedVariables false
set_option maxRecDepth 100000 in
set_option maxHeartbeats 4000000 in
theorem len64Z_c (w : World) : Calls Tryd.prog 108 #[.int .u64 0] w fun e w' => e = .returned (.int .i64 0) ∧ w' = w := by
  have hz : Lib.len8 0 = 0 := by decide
  go_enter Tryd.func108, Tryd.ntmps108
  go_wp2
  go_ret
  exact ⟨by first | (show Ending.returned (Value.int .i64 (wrap64 (wrap64 (Lib.len8 0)))) = _; rw [hz]; rfl) | rfl, rfl⟩
set_option maxRecDepth 100000 in
set_option maxHeartbeats 4000000 in
theorem lenZ_c (w : World) : Calls Tryd.prog 85 #[.int .u64 0] w fun e w' => e = .returned (.int .i64 0) ∧ w' = w := by
  have HC : Hid (Calls Tryd.prog 108 #[.int .u64 0] w fun e w' => e = .returned (.int .i64 0) ∧ w' = w) := len64Z_c w
  go_enter Tryd.func85, Tryd.ntmps85
  go_wp2_with (go_at_call 108; fail)
  refine HC.out.mono ?_
  rintro e w2 ⟨rfl, rfl⟩
  go_wp2
  go_ret
  exact ⟨rfl, rfl⟩
set_option maxRecDepth 100000 in
set_option maxHeartbeats 4000000 in
theorem insZ_c (w : World) : Calls Tryd.prog 98 #[.slice none 0 0, .int .i64 0, .int .i64 0] w fun e w' => e = .returned (.tuple #[]) ∧ w' = w := by
  go_enter Tryd.func98, Tryd.ntmps98
  go_wp2
  go_loopg [6, 7] 1 (fun g v6 v7 wr => v6 = .int .i64 1 ∧ wr = w)
  case atStart => exact ⟨rfl, rfl⟩
  case round =>
    obtain ⟨rfl, rfl⟩ := hrel
    go_wp2
    first
      | (go_end0; exact ⟨rfl, rfl⟩)
      | (go_ret; exact ⟨rfl, rfl⟩)
set_option maxRecDepth 100000 in
set_option maxHeartbeats 4000000 in
theorem pdqZ_c (w : World) : Calls Tryd.prog 84 #[.slice none 0 0, .int .i64 0, .int .i64 0, .int .i64 0] w fun e w' => e = .returned (.tuple #[]) ∧ w' = w := by
  have HC : Hid (Calls Tryd.prog 98 #[.slice none 0 0, .int .i64 0, .int .i64 0] w fun e w' => e = .returned (.tuple #[]) ∧ w' = w) := insZ_c w
  go_enter Tryd.func84, Tryd.ntmps84
  go_wp2
  go_loopg [1, 2] 1 (fun g v1 v2 wr => v1 = .int .i64 0 ∧ v2 = .int .i64 0 ∧ wr = w)
  case atStart => exact ⟨rfl, rfl, rfl⟩
  case round =>
    obtain ⟨rfl, rfl, rfl⟩ := hrel
    go_wp2_with (go_at_call 98; fail)
    refine HC.out.mono ?_
    rintro e w2 ⟨rfl, rfl⟩
    go_wp2
    first
      | (go_end0; exact ⟨rfl, rfl⟩)
      | (go_ret; exact ⟨rfl, rfl⟩)
      | exact bodyPost_ret (v := .tuple #[]) (by simp [results, Tryd.results84, go_sem]) rfl ⟨rfl, rfl⟩
set_option maxRecDepth 100000 in
set_option maxHeartbeats 4000000 in
theorem sortZ_c (w : World) : Calls Tryd.prog 61 #[.slice none 0 0] w fun e w' => e = .returned (.tuple #[]) ∧ w' = w := by
  have HL : Hid (Calls Tryd.prog 85 #[.int .u64 0] w fun e w' => e = .returned (.int .i64 0) ∧ w' = w) := lenZ_c w
  have HC : Hid (Calls Tryd.prog 84 #[.slice none 0 0, .int .i64 0, .int .i64 0, .int .i64 0] w fun e w' => e = .returned (.tuple #[]) ∧ w' = w) := pdqZ_c w
  go_enter Tryd.func61, Tryd.ntmps61
  go_wp2_with (go_at_call 85; fail)
  refine HL.out.mono ?_
  rintro e w2 ⟨rfl, rfl⟩
  go_wp2_with (go_at_call 84; fail)
  refine HC.out.mono ?_
  rintro e w3 ⟨rfl, rfl⟩
  go_wp2
  first
    | (go_end0; exact ⟨rfl, rfl⟩)
    | (go_ret; exact ⟨rfl, rfl⟩)
end Go.Proofs.YtjmpjfggbhongaaDoor
