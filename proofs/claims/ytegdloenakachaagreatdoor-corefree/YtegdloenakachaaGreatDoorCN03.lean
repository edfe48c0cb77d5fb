/-
  What is free in an expression, by a contract.
  A scope, a seeker made; what is free, by contracts.
  Two expressions side by side: the pairing in memory, and the mathematics.
-/
import Derived.Test.YtegdloenakachaaGreatDoorCN02
import Derived.Laws.Rows
namespace Go.Proofs.YtegdloenakachaaGreatDoor
open Go.RowKit Go.Shelf Go.Maps
set_option linter.unusedVariables false

set_option maxRecDepth 100000 in
set_option maxHeartbeats 4000000 in
theorem seek_step (d : Nat) (ih : SeekOK d) : SeekOK (d + 1) := by
  intro t B g off S m f c cf sc F w hE hS hm hf hw h hN hc hsc hcf
  have hE0 := hE
  obtain ⟨hg, h0, h1, h2, -, ⟨o4, c4, h4, k4⟩, ⟨o5, c5, h5, k5⟩, ⟨o6, c6, h6, k6⟩⟩ := hE
  obtain ⟨hN1, hN2, hN3, hN4, hN5⟩ := hN
  obtain ⟨nb, hnb⟩ : ∃ n, (bndM t).length = n := ⟨_, rfl⟩
  obtain ⟨cb, hcb⟩ : ∃ n, ((TrN.binds t).map fun b => costM d b.2).sum = n := ⟨_, rfl⟩
  obtain ⟨ca, hca⟩ : ∃ n, ((TrN.args t).map fun e => costM d e).sum = n := ⟨_, rfl⟩
  obtain ⟨cl, hcl⟩ : ∃ n, ((TrN.alts t).map fun a => a.1.vars.length + costM d a.2).sum = n := ⟨_, rfl⟩
  obtain ⟨zb, hzb⟩ : ∃ n, ((TrN.binds t).map fun b => sizeM d b.2).sum = n := ⟨_, rfl⟩
  obtain ⟨za, hza⟩ : ∃ n, ((TrN.args t).map fun e => sizeM d e).sum = n := ⟨_, rfl⟩
  obtain ⟨zl, hzl⟩ : ∃ n, ((TrN.alts t).map fun a => sizeM d a.2).sum = n := ⟨_, rfl⟩
  have hcost : costM (d + 1) t = nb + cb + ca + cl := by rw [← hnb, ← hcb, ← hca, ← hcl]; rfl
  have hsize : sizeM (d + 1) t = 1 + zb + za + zl := by rw [← hzb, ← hza, ← hzl]; rfl
  rw [hcost] at hc hsc
  rw [hsize] at hcf
  have lb := len_sum (fun b : ByteArray × Tr d => sizeM d b.2) (fun b => size_pos d b.2) (TrN.binds t)
  have la := len_sum (fun x : Tr d => sizeM d x) (fun x => size_pos d x) (TrN.args t)
  have ll := len_sum (fun a : AltH × Tr d => sizeM d a.2) (fun a => size_pos d a.2) (TrN.alts t)
  rw [hzb] at lb; rw [hza] at la; rw [hzl] at ll
  obtain ⟨tp, htp⟩ := top_ptr sc
  have HEn : Hid (Calls Tryz.prog 63 #[.pointer (some ⟨S, 0, none⟩), .pointer (some ⟨g, off, none⟩)] w fun e w' => e = .returned (.tuple #[]) ∧ ∃ ext : Sc, ext.map Prod.fst = (bndM t).reverse ∧ SkSt w' S m f (c + nb) cf (ext ++ sc) F ∧ SkChg S m f w w') := by
    refine (enter_c d t hN2 B g off S 0 m c sc w hE0 hS hm hw h.sc (by omega) (by omega)).mono ?_
    rintro e w' ⟨rfl, ext, he, hs1, hc1⟩
    rw [hnb] at hs1
    exact ⟨rfl, ext, he, h.step hs1 hc1, SkChg.ofSc hc1⟩
  have HEx : Hid (∀ W, SkChg S m f w W → (∀ o, W.cell? ⟨g, o, none⟩ = w.cell? ⟨g, o, none⟩) ∧ g < W.heap.size) := fun W hW => ⟨fun o => hW.ex (d := d) hS hm hf hw g o hg, by have := hW.size; omega⟩
  have HBi : Hid (∀ (W : World) (ext : Sc) (c' cf' : Nat) (G : List UInt8 → Bool), ext.length = nb → SkChg S m f w W → SkSt W S m f c' cf' (ext ++ sc) G → c' + 2 * cb ≤ 2000000 → cf' + zb ≤ 2000000 → Calls Tryz.prog 87 #[.pointer (some ⟨S, 0, none⟩), .slice o4 (TrN.binds t).length c4] W fun e w' => e = .returned (.tuple #[]) ∧ SkRes W w' S m f (c' + 2 * cb) (cf' + zb) (ext ++ sc) (fun x => G x || (TrN.binds t).any (fun b => freeM d b.2 (nms (ext ++ sc)) x))) := by
    intro W ext c' cf' G hl hW hG b1 b2
    have hb := hW.ex (d := d) hS hm hf hw
    have hr := seek_binds_c d ih (TrN.binds t) o4 c4 B S m f c' cf' (ext ++ sc) G W (k4.mono (fun x g off hg hx => ⟨(hb _ _ hg).trans hx.1, ExAt.same hb d _ _ _ hx.2⟩)) hS hm hf (Nat.le_trans hw hW.size) hG hN3 (by rw [hcb]; exact b1) (by rw [hcb, List.length_append]; omega) (by rw [hzb]; exact b2) (by omega)
    rw [hcb, hzb] at hr
    exact hr
  have HAl : Hid (∀ (W : World) (ext : Sc) (c' cf' : Nat) (G : List UInt8 → Bool), ext.length = nb → SkChg S m f w W → SkSt W S m f c' cf' (ext ++ sc) G → c' + 2 * cl ≤ 2000000 → cf' + zl ≤ 2000000 → Calls Tryz.prog 107 #[.pointer (some ⟨S, 0, none⟩), .slice o6 (TrN.alts t).length c6] W fun e w' => e = .returned (.tuple #[]) ∧ SkRes W w' S m f (c' + 2 * cl) (cf' + zl) (ext ++ sc) (fun x => G x || (TrN.alts t).any (fun a => freeM d a.2 (dl a.1.vars.reverse ++ nms (ext ++ sc)) x))) := by
    intro W ext c' cf' G hl hW hG b1 b2
    have hb := hW.ex (d := d) hS hm hf hw
    have hr := seek_alts_c d ih (TrN.alts t) o6 c6 B S m f c' cf' (ext ++ sc) G W (k6.mono (fun x g off hg hx => by
      obtain ⟨e1, e2, e3, ⟨o', cp, e4, e5⟩, e6⟩ := hx
      exact ⟨(hb _ _ hg).trans e1, (hb _ _ hg).trans e2, (hb _ _ hg).trans e3, ⟨o', cp, (hb _ _ hg).trans e4, e5.same hb⟩, ExAt.same hb d _ _ _ e6⟩)) hS hm hf (Nat.le_trans hw hW.size) hG hN5 (by rw [hcl]; exact b1) (by rw [hcl, List.length_append]; omega) (by rw [hzl]; exact b2) (by omega)
    rw [hcl, hzl] at hr
    exact hr
  have HAr : Hid (∀ k (hk : k < (TrN.args t).length), ∃ g' off', o5 = some ⟨g', off', none⟩ ∧ g' < B ∧ ∀ (W : World) (ext : Sc) (c' cf' : Nat) (G : List UInt8 → Bool), ext.length = nb → SkChg S m f w W → SkSt W S m f c' cf' (ext ++ sc) G → c' + 2 * costM d (TrN.args t)[k] ≤ 2000000 → cf' + sizeM d (TrN.args t)[k] ≤ 2000000 →
      Calls Tryz.prog 59 #[.pointer (some ⟨S, 0, none⟩), .pointer (some ⟨g', off' + k * 7, none⟩)] W fun e w' => e = .returned (.tuple #[]) ∧ SkRes W w' S m f (c' + 2 * costM d (TrN.args t)[k]) (cf' + sizeM d (TrN.args t)[k]) (ext ++ sc) (fun x => G x || freeM d (TrN.args t)[k] (nms (ext ++ sc)) x)) := by
    intro k hk
    rcases k5 with h9 | ⟨g', off', e, hg', hE'⟩
    · rw [h9] at hk; cases hk
    · refine ⟨g', off', e, hg', fun W ext c' cf' G hl hW hG b1 b2 => ih _ B g' _ S m f c' cf' (ext ++ sc) G W ?_ hS hm hf (Nat.le_trans hw hW.size) hG (hN4 _ (List.getElem_mem _)) b1 ?_ b2⟩
      · exact ExAt.same (hW.ex (d := d) hS hm hf hw) d _ _ _ (hE' k hk)
      · have q1 := take_le (fun e : Tr d => costM d e) (TrN.args t) (k + 1)
        have q2 := take_sum (fun e : Tr d => costM d e) (TrN.args t) k hk
        rw [List.length_append]
        omega
  have HLe : Hid (∀ (W : World) (ext : Sc) (c' cf' : Nat) (G : List UInt8 → Bool), ext.map Prod.fst = (bndM t).reverse → SkSt W S m f c' cf' (ext ++ sc) G → c' + nb ≤ 2000000 → Calls Tryz.prog 69 #[.pointer (some ⟨S, 0, none⟩), .pointer tp] W fun e w' => e = .returned (.tuple #[]) ∧ SkRes W w' S m f (c' + nb) cf' sc G) := by
    intro W ext c' cf' G he hG b1
    have hlen : ext.length = nb := by have := congrArg List.length he; simp at this; omega
    rw [← htp]
    refine (leave_c ext sc (fun p hp => hN2 p.1 ?_) S 0 m c' W hG.sc (by omega)).mono ?_
    · have : p.1 ∈ ext.map Prod.fst := List.mem_map.2 ⟨p, hp, rfl⟩
      rw [he] at this
      exact List.mem_reverse.1 this
    · rintro e w3 ⟨rfl, hs3, hc3⟩
      exact ⟨rfl, ⟨c' + ext.length, cf', by omega, Nat.le_refl _, hG.step hs3 hc3⟩, SkChg.ofSc hc3⟩
  have HFr : Hid (∀ (ext : Sc), ext.map Prod.fst = (bndM t).reverse → ∀ x, ((((F x || ((TrN.kind t == 1) && (!(nms (ext ++ sc)).contains (TrN.name t).data.toList) && (x == (TrN.name t).data.toList))) || (TrN.binds t).any (fun b => freeM d b.2 (nms (ext ++ sc)) x)) || (TrN.args t).any (fun e => freeM d e (nms (ext ++ sc)) x)) || (TrN.alts t).any (fun a => freeM d a.2 (dl a.1.vars.reverse ++ nms (ext ++ sc)) x)) = (F x || freeM (d + 1) t (nms sc) x)) := by
    intro ext he x
    have e : freeM (d + 1) t (nms sc) x = (((TrN.kind t == 1) && (!(dl (bndM t).reverse ++ nms sc).contains (TrN.name t).data.toList) && (x == (TrN.name t).data.toList)) || (TrN.binds t).any (fun b => freeM d b.2 (dl (bndM t).reverse ++ nms sc) x) || (TrN.args t).any (fun e => freeM d e (dl (bndM t).reverse ++ nms sc) x) || (TrN.alts t).any (fun a => freeM d a.2 (dl a.1.vars.reverse ++ (dl (bndM t).reverse ++ nms sc)) x)) := rfl
    rw [e, nms_grown he]
    simp only [Bool.or_assoc]
  have HBd : Hid (c + 2 * (nb + cb + ca + cl) ≤ 2000000 ∧ cf + (1 + zb + za + zl) ≤ 2000000 ∧ B ≤ w.heap.size) := ⟨hc, hcf, hw⟩
  have HSum : Hid (((TrN.args t).map fun e => costM d e).sum = ca ∧ ((TrN.args t).map fun e => sizeM d e).sum = za) := ⟨hca, hza⟩
  have HNb : Hid ((bndM t).length = nb) := hnb
  rw [hcost, hsize]
  have hi : w.cell? ⟨S, 0, none⟩ = some (.pointer tp) := by rw [← htp]; exact h.sc.inner
  have hSl := h.sc.lt
  have HN1 : Hid ((TrN.name t).size ≤ maxLen) := hN1
  obtain ⟨lenb, hlb⟩ : ∃ n, (TrN.binds t).length = n := ⟨_, rfl⟩
  obtain ⟨lena, hla⟩ : ∃ n, (TrN.args t).length = n := ⟨_, rfl⟩
  obtain ⟨lenl, hll⟩ : ∃ n, (TrN.alts t).length = n := ⟨_, rfl⟩
  have HLa : Hid ((TrN.args t).length = lena) := hla
  have hlai : (lena : Int) ≤ 2000000 := by rw [← hla]; omega
  rw [hlb] at HBi h4
  rw [hll] at HAl h6
  rw [hla] at h5
  have H0 : Hid (w.cell? ⟨g, off, none⟩ = some (.int .i64 (TrN.kind t))) := h0
  have H1 : Hid (w.cell? ⟨g, off + 1, none⟩ = some (.string (TrN.name t))) := h1
  have H4 : Hid (w.cell? ⟨g, off + 4, none⟩ = some (.slice o4 lenb c4)) := h4
  have H5 : Hid (w.cell? ⟨g, off + 5, none⟩ = some (.slice o5 lena c5)) := h5
  have H6 : Hid (w.cell? ⟨g, off + 6, none⟩ = some (.slice o6 lenl c6)) := h6
  have hgw : g < w.heap.size := by omega
  clear hE0 hg h0 h1 h2 h4 k4 h5 k5 h6 k6 hN1 hN2 hN3 hN4 hN5 hnb hcb hca hcl hzb hza hzl hcost hsize hc hsc hcf lb la ll htp hS hm hf hw h ih hlb hla hll
  go_enter Tryz.func59, Tryz.ntmps59
  go_wp2_with (go_at_call 63; fail)
  refine HEn.out.mono ?_
  rintro e w1 ⟨rfl, ext, he0, hs1, hc1⟩
  have he : Hid (ext.map Prod.fst = (bndM t).reverse) := he0
  have HS1 : Hid (SkSt w1 S m f (c + nb) cf (ext ++ sc) F ∧ SkChg S m f w w1) := ⟨hs1, hc1⟩
  have hlen : Hid (ext.length = nb) := by have := congrArg List.length he0; rw [List.length_map, List.length_reverse, HNb.out] at this; exact this
  have r0 : w1.cell? ⟨g, off, none⟩ = some (.int .i64 (TrN.kind t)) := ((HEx.out _ hc1).1 _).trans H0.out
  have r1 : w1.cell? ⟨g, off + 1, none⟩ = some (.string (TrN.name t)) := ((HEx.out _ hc1).1 _).trans H1.out
  have l1 := (HEx.out _ hc1).2
  have lS1 := hs1.sc.lt
  have HHas : Hid (∀ n : Nat, Calls Tryz.prog 106 #[.pointer (some ⟨S, 0, none⟩), .string (TrN.name t)] (w1.drewN n) fun e w' => e = .returned (.bool ((nms (ext ++ sc)).contains (TrN.name t).data.toList)) ∧ w' = w1.drewN n) := fun n => by
    have hh := has_c (TrN.name t) HN1.out S 0 m (c + nb) (ext ++ sc) (w1.drewN n) (hs1.sc.drewN n)
    rw [lvl_pos] at hh
    exact hh
  clear he0 hs1 hc1 HEn
  obtain ⟨G1, hG1⟩ : ∃ G1 : List UInt8 → Bool, G1 = fun x => F x || ((TrN.kind t == 1) && (!(nms (ext ++ sc)).contains (TrN.name t).data.toList) && (x == (TrN.name t).data.toList)) := ⟨_, rfl⟩
  have HG1 : Hid (∀ x, G1 x = (F x || ((TrN.kind t == 1) && (!(nms (ext ++ sc)).contains (TrN.name t).data.toList) && (x == (TrN.name t).data.toList)))) := fun x => by rw [hG1]
  by_cases hkd : TrN.kind t = 1
  · have hkb : (TrN.kind t == 1) = true := by simpa using hkd
    cases hin : (nms (ext ++ sc)).contains (TrN.name t).data.toList
    · have HHf : Hid (∀ n : Nat, Calls Tryz.prog 106 #[.pointer (some ⟨S, 0, none⟩), .string (TrN.name t)] (w1.drewN n) fun e w' => e = .returned (.bool false) ∧ w' = w1.drewN n) := fun n => by
        have := HHas.out n
        rw [hin] at this
        exact this
      have HKd : Hid (TrN.kind t = 1) := hkd
      have HIn : Hid ((nms (ext ++ sc)).contains (TrN.name t).data.toList = false) := hin
      clear HHas hin hkb
      rw [hkd] at r0
      clear hkd
      go_wp2
      go_big_quiet ((go_at_call 106; exact Calls.quiet_of_same (HHf.out _)))
      obtain ⟨wq, hwq⟩ : ∃ W, w1.drewN nq = W := ⟨_, rfl⟩
      have HQ : Hid (SkSt wq S m f (c + nb) cf (ext ++ sc) F ∧ SkChg S m f w wq) := by rw [← hwq]; exact ⟨HS1.out.1.drewN nq, HS1.out.2.drewN nq⟩
      rw [hwq]
      clear hwq HHf HS1 r0 r1
      have lSq := HQ.out.1.sc.lt
      have lgq := (HEx.out _ HQ.out.2).2
      have hfo : wq.cell? ⟨S, 2, none⟩ = some (.map (some f)) := HQ.out.1.found
      have r1 : wq.cell? ⟨g, off + 1, none⟩ = some (.string (TrN.name t)) := ((HEx.out _ HQ.out.2).1 _).trans H1.out
      have hfo' : wq.drew.cell? ⟨S, 2, none⟩ = some (.map (some f)) := hfo
      have r1' : wq.drew.cell? ⟨g, off + 1, none⟩ = some (.string (TrN.name t)) := r1
      obtain ⟨W2, hrun, hset, hbut⟩ := ((HQ.out.1.set).same (W' := wq.drew) rfl).put (by have := HBd.out; omega) (TrN.name t) HN1.out
      have HR : Hid (SkRes w W2 S m f (c + nb) (cf + 1) (ext ++ sc) G1) := by
        have h1 : SkSt wq.drew S m f (c + nb) cf (ext ++ sc) F := HQ.out.1.drewN 1
        have h2 : SkChg S m f w wq.drew := HQ.out.2.drewN 1
        refine SkRes.eqG (G := fun x => (x == (TrN.name t).data.toList) || F x) ⟨⟨_, _, Nat.le_refl _, Nat.le_refl _, h1.put hset hbut⟩, h2.trans (SkChg.ofBut hbut)⟩ (Nat.le_refl _) (Nat.le_refl _) (fun x => ?_)
        rw [HG1.out x, HKd.out, HIn.out]
        simp [Bool.or_comm]
      clear hset hbut
      go_wp2
      go_region
      have HSt : Hid (SkRes w W2 S m f (c + nb) (cf + 1) (ext ++ sc) G1) := HR.out
      clear HR hrun hfo hfo' r1 r1' HQ HKd HIn lSq lgq hG1
      generalize W2 = w2 at HSt ⊢
      obtain ⟨⟨cX, cfX, bX1, bX2, sX⟩, chX⟩ := HSt.out
      have q4 : w2.cell? ⟨g, off + 4, none⟩ = some (.slice o4 lenb c4) := ((HEx.out _ chX).1 _).trans H4.out
      have lX := (HEx.out _ chX).2
      have lSX := sX.sc.lt
      have HC3 : Hid (Calls Tryz.prog 87 #[.pointer (some ⟨S, 0, none⟩), .slice o4 lenb c4] w2 fun e w' => e = .returned (.tuple #[]) ∧ SkRes w w' S m f (c + nb + 2 * cb) (cf + 1 + zb) (ext ++ sc) (fun x => G1 x || (TrN.binds t).any (fun b => freeM d b.2 (nms (ext ++ sc)) x))) := by
        refine (HBi.out _ ext cX cfX G1 hlen.out chX sX (by have := HBd.out; omega) (by have := HBd.out; omega)).mono ?_
        rintro e w' ⟨rfl, hr⟩
        exact ⟨rfl, SkRes.trans HSt.out (hr.eqG (by omega) (by omega) (fun _ => rfl))⟩
      clear sX chX bX1 bX2
      go_wp2_with (go_at_call 87; fail)
      refine HC3.out.mono ?_
      rintro e w3 ⟨rfl, hr⟩
      have HR3 : Hid (SkRes w w3 S m f (c + nb + 2 * cb) (cf + 1 + zb) (ext ++ sc) (fun x => G1 x || (TrN.binds t).any (fun b => freeM d b.2 (nms (ext ++ sc)) x))) := hr
      have q5 : w3.cell? ⟨g, off + 5, none⟩ = some (.slice o5 lena c5) := ((HEx.out _ hr.2).1 _).trans H5.out
      have l3 := (HEx.out _ hr.2).2
      clear hr HC3 q4
      go_wp2
      go_loopw [52] (fun i wr => ∃ k : Nat, k ≤ lena ∧ i = .int .i64 k ∧ Hid (SkRes w wr S m f (c + nb + 2 * cb + 2 * (((TrN.args t).take k).map fun e => costM d e).sum) (cf + 1 + zb + (((TrN.args t).take k).map fun e => sizeM d e).sum) (ext ++ sc) (fun x => (G1 x || (TrN.binds t).any (fun b => freeM d b.2 (nms (ext ++ sc)) x)) || ((TrN.args t).take k).any (fun e => freeM d e (nms (ext ++ sc)) x)))) (fun i _ => lena - (intOf i).toNat)
      case atStart => exact ⟨0, Nat.zero_le _, rfl, HR3.out.eqG (by simp) (by simp) (fun x => by simp)⟩
      case round =>
        obtain ⟨k, hk, rfl, hL⟩ := hrel
        have q5r : wr.cell? ⟨g, off + 5, none⟩ = some (.slice o5 lena c5) := ((HEx.out _ hL.out.2).1 _).trans H5.out
        have q6r : wr.cell? ⟨g, off + 6, none⟩ = some (.slice o6 lenl c6) := ((HEx.out _ hL.out.2).1 _).trans H6.out
        have lr := (HEx.out _ hL.out.2).2
        have lSr : S < wr.heap.size := by obtain ⟨⟨_, _, _, _, hs⟩, _⟩ := hL.out; exact hs.sc.lt
        by_cases hkn : k < lena
        · have hkl : k < (TrN.args t).length := by rw [HLa.out]; exact hkn
          obtain ⟨g', off', ho5, hg', hC⟩ := HAr.out k hkl
          subst ho5
          have hg2 : g' < wr.heap.size := by have := HBd.out.2.2; have := hL.out.2.size; omega
          have HC : Hid (Calls Tryz.prog 59 #[.pointer (some ⟨S, 0, none⟩), .pointer (some ⟨g', off' + k * 7, none⟩)] wr fun e w' => e = .returned (.tuple #[]) ∧ SkRes w w' S m f (c + nb + 2 * cb + 2 * (((TrN.args t).take (k + 1)).map fun e => costM d e).sum) (cf + 1 + zb + (((TrN.args t).take (k + 1)).map fun e => sizeM d e).sum) (ext ++ sc) (fun x => (G1 x || (TrN.binds t).any (fun b => freeM d b.2 (nms (ext ++ sc)) x)) || ((TrN.args t).take (k + 1)).any (fun e => freeM d e (nms (ext ++ sc)) x))) := by
            obtain ⟨⟨c', cf', a1, a2, a3⟩, a4⟩ := hL.out
            have t1 := take_sum (fun e : Tr d => costM d e) (TrN.args t) k hkl
            have t2 := take_le (fun e : Tr d => costM d e) (TrN.args t) (k + 1)
            have t3 := take_sum (fun e : Tr d => sizeM d e) (TrN.args t) k hkl
            have t4 := take_le (fun e : Tr d => sizeM d e) (TrN.args t) (k + 1)
            have hb1 := HBd.out
            have hb2 := HSum.out
            refine (hC wr ext c' cf' _ hlen.out a4 a3 (by omega) (by omega)).mono ?_
            rintro e w' ⟨rfl, hr⟩
            refine ⟨rfl, SkRes.trans hL.out (hr.eqG (by omega) (by omega) (fun x => ?_))⟩
            rw [any_snoc _ (TrN.args t) k hkl]
            simp only [Bool.or_assoc]
          clear hC hk hkl hL
          go_wp2_with (go_at_call 59; fail)
          refine HC.out.mono ?_
          rintro e w4 ⟨rfl, hr⟩
          have HR4 : Hid (_) := hr
          clear HC
          go_wp2
          go_roundw
          case rel => exact ⟨k + 1, hkn, by go_num, hr⟩
          case measure => simp [intOf]; omega
        · have HF : Hid (SkRes w wr S m f (c + nb + 2 * cb + 2 * ca) (cf + 1 + zb + za) (ext ++ sc) (fun x => (G1 x || (TrN.binds t).any (fun b => freeM d b.2 (nms (ext ++ sc)) x)) || (TrN.args t).any (fun e => freeM d e (nms (ext ++ sc)) x))) := by
            have e : (TrN.args t).take k = TrN.args t := List.take_of_length_le (by rw [HLa.out]; omega)
            have h3 := hL.out
            rw [e, HSum.out.1, HSum.out.2] at h3
            exact h3
          have HC5 : Hid (Calls Tryz.prog 107 #[.pointer (some ⟨S, 0, none⟩), .slice o6 lenl c6] wr fun e w' => e = .returned (.tuple #[]) ∧ SkRes w w' S m f (c + nb + 2 * cb + 2 * ca + 2 * cl) (cf + 1 + zb + za + zl) (ext ++ sc) (fun x => F x || freeM (d + 1) t (nms sc) x)) := by
            obtain ⟨⟨c', cf', a1, a2, a3⟩, a4⟩ := HF.out
            have hb1 := HBd.out
            refine (HAl.out wr ext c' cf' _ hlen.out a4 a3 (by omega) (by omega)).mono ?_
            rintro e w' ⟨rfl, hr⟩
            refine ⟨rfl, SkRes.trans HF.out (hr.eqG (by omega) (by omega) (fun x => ?_))⟩
            rw [← HFr.out ext he.out x, HG1.out x]
          clear hL hk HF
          go_wp2_with (go_at_call 107; fail)
          refine HC5.out.mono ?_
          rintro e w5 ⟨rfl, hr⟩
          have HR5 : Hid (SkRes w w5 S m f (c + nb + 2 * cb + 2 * ca + 2 * cl) (cf + 1 + zb + za + zl) (ext ++ sc) (fun x => F x || freeM (d + 1) t (nms sc) x)) := hr
          have l5 : S < w5.heap.size := by obtain ⟨⟨_, _, _, _, hs⟩, _⟩ := hr; exact hs.sc.lt
          have HC6 : Hid (Calls Tryz.prog 69 #[.pointer (some ⟨S, 0, none⟩), .pointer tp] w5 fun e w' => e = .returned (.tuple #[]) ∧ SkRes w w' S m f (c + 2 * (nb + cb + ca + cl)) (cf + (1 + zb + za + zl)) sc (fun x => F x || freeM (d + 1) t (nms sc) x)) := by
            obtain ⟨⟨c', cf', a1, a2, a3⟩, a4⟩ := HR5.out
            have hb1 := HBd.out
            refine (HLe.out w5 ext c' cf' _ he.out a3 (by omega)).mono ?_
            rintro e w' ⟨rfl, hr⟩
            exact ⟨rfl, SkRes.trans HR5.out (hr.eqG (by omega) (by omega) (fun _ => rfl))⟩
          clear hr HC5
          go_wp2_with (go_at_call 69; fail)
          refine HC6.out.mono ?_
          rintro e w6 ⟨rfl, hr⟩
          have HR6 : Hid (SkRes w w6 S m f (c + 2 * (nb + cb + ca + cl)) (cf + (1 + zb + za + zl)) sc (fun x => F x || freeM (d + 1) t (nms sc) x)) := hr
          clear hr HC6
          go_wp2
          go_end0
          exact ⟨rfl, HR6.out⟩
    · have HHf : Hid (∀ n : Nat, Calls Tryz.prog 106 #[.pointer (some ⟨S, 0, none⟩), .string (TrN.name t)] (w1.drewN n) fun e w' => e = .returned (.bool true) ∧ w' = w1.drewN n) := fun n => by
        have := HHas.out n
        rw [hin] at this
        exact this
      have HSt0 : Hid (∀ n, SkRes w (w1.drewN n) S m f (c + nb) (cf + 1) (ext ++ sc) G1) := fun n => by
        refine SkRes.eqG (G := F) ⟨⟨_, _, Nat.le_refl _, Nat.le_succ _, HS1.out.1.drewN n⟩, HS1.out.2.drewN n⟩ (Nat.le_refl _) (Nat.le_refl _) (fun x => ?_)
        rw [HG1.out x, hin]
        simp
      clear HHas hin hkb
      rw [hkd] at r0
      clear hkd
      go_wp2
      go_big_quiet ((go_at_call 106; exact Calls.quiet_of_same (HHf.out _)))
      have HSt : Hid (SkRes w (w1.drewN nq) S m f (c + nb) (cf + 1) (ext ++ sc) G1) := HSt0.out nq
      generalize w1.drewN nq = w2 at HSt ⊢
      clear HSt0 r0 r1 HHf HS1 hG1
      obtain ⟨⟨cX, cfX, bX1, bX2, sX⟩, chX⟩ := HSt.out
      have q4 : w2.cell? ⟨g, off + 4, none⟩ = some (.slice o4 lenb c4) := ((HEx.out _ chX).1 _).trans H4.out
      have lX := (HEx.out _ chX).2
      have lSX := sX.sc.lt
      have HC3 : Hid (Calls Tryz.prog 87 #[.pointer (some ⟨S, 0, none⟩), .slice o4 lenb c4] w2 fun e w' => e = .returned (.tuple #[]) ∧ SkRes w w' S m f (c + nb + 2 * cb) (cf + 1 + zb) (ext ++ sc) (fun x => G1 x || (TrN.binds t).any (fun b => freeM d b.2 (nms (ext ++ sc)) x))) := by
        refine (HBi.out _ ext cX cfX G1 hlen.out chX sX (by have := HBd.out; omega) (by have := HBd.out; omega)).mono ?_
        rintro e w' ⟨rfl, hr⟩
        exact ⟨rfl, SkRes.trans HSt.out (hr.eqG (by omega) (by omega) (fun _ => rfl))⟩
      clear sX chX bX1 bX2
      go_wp2_with (go_at_call 87; fail)
      refine HC3.out.mono ?_
      rintro e w3 ⟨rfl, hr⟩
      have HR3 : Hid (SkRes w w3 S m f (c + nb + 2 * cb) (cf + 1 + zb) (ext ++ sc) (fun x => G1 x || (TrN.binds t).any (fun b => freeM d b.2 (nms (ext ++ sc)) x))) := hr
      have q5 : w3.cell? ⟨g, off + 5, none⟩ = some (.slice o5 lena c5) := ((HEx.out _ hr.2).1 _).trans H5.out
      have l3 := (HEx.out _ hr.2).2
      clear hr HC3 q4
      go_wp2
      go_loopw [52] (fun i wr => ∃ k : Nat, k ≤ lena ∧ i = .int .i64 k ∧ Hid (SkRes w wr S m f (c + nb + 2 * cb + 2 * (((TrN.args t).take k).map fun e => costM d e).sum) (cf + 1 + zb + (((TrN.args t).take k).map fun e => sizeM d e).sum) (ext ++ sc) (fun x => (G1 x || (TrN.binds t).any (fun b => freeM d b.2 (nms (ext ++ sc)) x)) || ((TrN.args t).take k).any (fun e => freeM d e (nms (ext ++ sc)) x)))) (fun i _ => lena - (intOf i).toNat)
      case atStart => exact ⟨0, Nat.zero_le _, rfl, HR3.out.eqG (by simp) (by simp) (fun x => by simp)⟩
      case round =>
        obtain ⟨k, hk, rfl, hL⟩ := hrel
        have q5r : wr.cell? ⟨g, off + 5, none⟩ = some (.slice o5 lena c5) := ((HEx.out _ hL.out.2).1 _).trans H5.out
        have q6r : wr.cell? ⟨g, off + 6, none⟩ = some (.slice o6 lenl c6) := ((HEx.out _ hL.out.2).1 _).trans H6.out
        have lr := (HEx.out _ hL.out.2).2
        have lSr : S < wr.heap.size := by obtain ⟨⟨_, _, _, _, hs⟩, _⟩ := hL.out; exact hs.sc.lt
        by_cases hkn : k < lena
        · have hkl : k < (TrN.args t).length := by rw [HLa.out]; exact hkn
          obtain ⟨g', off', ho5, hg', hC⟩ := HAr.out k hkl
          subst ho5
          have hg2 : g' < wr.heap.size := by have := HBd.out.2.2; have := hL.out.2.size; omega
          have HC : Hid (Calls Tryz.prog 59 #[.pointer (some ⟨S, 0, none⟩), .pointer (some ⟨g', off' + k * 7, none⟩)] wr fun e w' => e = .returned (.tuple #[]) ∧ SkRes w w' S m f (c + nb + 2 * cb + 2 * (((TrN.args t).take (k + 1)).map fun e => costM d e).sum) (cf + 1 + zb + (((TrN.args t).take (k + 1)).map fun e => sizeM d e).sum) (ext ++ sc) (fun x => (G1 x || (TrN.binds t).any (fun b => freeM d b.2 (nms (ext ++ sc)) x)) || ((TrN.args t).take (k + 1)).any (fun e => freeM d e (nms (ext ++ sc)) x))) := by
            obtain ⟨⟨c', cf', a1, a2, a3⟩, a4⟩ := hL.out
            have t1 := take_sum (fun e : Tr d => costM d e) (TrN.args t) k hkl
            have t2 := take_le (fun e : Tr d => costM d e) (TrN.args t) (k + 1)
            have t3 := take_sum (fun e : Tr d => sizeM d e) (TrN.args t) k hkl
            have t4 := take_le (fun e : Tr d => sizeM d e) (TrN.args t) (k + 1)
            have hb1 := HBd.out
            have hb2 := HSum.out
            refine (hC wr ext c' cf' _ hlen.out a4 a3 (by omega) (by omega)).mono ?_
            rintro e w' ⟨rfl, hr⟩
            refine ⟨rfl, SkRes.trans hL.out (hr.eqG (by omega) (by omega) (fun x => ?_))⟩
            rw [any_snoc _ (TrN.args t) k hkl]
            simp only [Bool.or_assoc]
          clear hC hk hkl hL
          go_wp2_with (go_at_call 59; fail)
          refine HC.out.mono ?_
          rintro e w4 ⟨rfl, hr⟩
          have HR4 : Hid (_) := hr
          clear HC
          go_wp2
          go_roundw
          case rel => exact ⟨k + 1, hkn, by go_num, hr⟩
          case measure => simp [intOf]; omega
        · have HF : Hid (SkRes w wr S m f (c + nb + 2 * cb + 2 * ca) (cf + 1 + zb + za) (ext ++ sc) (fun x => (G1 x || (TrN.binds t).any (fun b => freeM d b.2 (nms (ext ++ sc)) x)) || (TrN.args t).any (fun e => freeM d e (nms (ext ++ sc)) x))) := by
            have e : (TrN.args t).take k = TrN.args t := List.take_of_length_le (by rw [HLa.out]; omega)
            have h3 := hL.out
            rw [e, HSum.out.1, HSum.out.2] at h3
            exact h3
          have HC5 : Hid (Calls Tryz.prog 107 #[.pointer (some ⟨S, 0, none⟩), .slice o6 lenl c6] wr fun e w' => e = .returned (.tuple #[]) ∧ SkRes w w' S m f (c + nb + 2 * cb + 2 * ca + 2 * cl) (cf + 1 + zb + za + zl) (ext ++ sc) (fun x => F x || freeM (d + 1) t (nms sc) x)) := by
            obtain ⟨⟨c', cf', a1, a2, a3⟩, a4⟩ := HF.out
            have hb1 := HBd.out
            refine (HAl.out wr ext c' cf' _ hlen.out a4 a3 (by omega) (by omega)).mono ?_
            rintro e w' ⟨rfl, hr⟩
            refine ⟨rfl, SkRes.trans HF.out (hr.eqG (by omega) (by omega) (fun x => ?_))⟩
            rw [← HFr.out ext he.out x, HG1.out x]
          clear hL hk HF
          go_wp2_with (go_at_call 107; fail)
          refine HC5.out.mono ?_
          rintro e w5 ⟨rfl, hr⟩
          have HR5 : Hid (SkRes w w5 S m f (c + nb + 2 * cb + 2 * ca + 2 * cl) (cf + 1 + zb + za + zl) (ext ++ sc) (fun x => F x || freeM (d + 1) t (nms sc) x)) := hr
          have l5 : S < w5.heap.size := by obtain ⟨⟨_, _, _, _, hs⟩, _⟩ := hr; exact hs.sc.lt
          have HC6 : Hid (Calls Tryz.prog 69 #[.pointer (some ⟨S, 0, none⟩), .pointer tp] w5 fun e w' => e = .returned (.tuple #[]) ∧ SkRes w w' S m f (c + 2 * (nb + cb + ca + cl)) (cf + (1 + zb + za + zl)) sc (fun x => F x || freeM (d + 1) t (nms sc) x)) := by
            obtain ⟨⟨c', cf', a1, a2, a3⟩, a4⟩ := HR5.out
            have hb1 := HBd.out
            refine (HLe.out w5 ext c' cf' _ he.out a3 (by omega)).mono ?_
            rintro e w' ⟨rfl, hr⟩
            exact ⟨rfl, SkRes.trans HR5.out (hr.eqG (by omega) (by omega) (fun _ => rfl))⟩
          clear hr HC5
          go_wp2_with (go_at_call 69; fail)
          refine HC6.out.mono ?_
          rintro e w6 ⟨rfl, hr⟩
          have HR6 : Hid (SkRes w w6 S m f (c + 2 * (nb + cb + ca + cl)) (cf + (1 + zb + za + zl)) sc (fun x => F x || freeM (d + 1) t (nms sc) x)) := hr
          clear hr HC6
          go_wp2
          go_end0
          exact ⟨rfl, HR6.out⟩
  · have hkb : (TrN.kind t == 1) = false := by simpa using hkd
    have HSt0 : Hid (∀ n, SkRes w (w1.drewN n) S m f (c + nb) (cf + 1) (ext ++ sc) G1) := fun n => by
      refine SkRes.eqG (G := F) ⟨⟨_, _, Nat.le_refl _, Nat.le_succ _, HS1.out.1.drewN n⟩, HS1.out.2.drewN n⟩ (Nat.le_refl _) (Nat.le_refl _) (fun x => ?_)
      rw [HG1.out x, hkb]
      simp
    generalize TrN.kind t = kd at *
    clear hkd
    go_wp2
    go_big_quiet (fail)
    have HSt : Hid (SkRes w (w1.drewN nq) S m f (c + nb) (cf + 1) (ext ++ sc) G1) := HSt0.out nq
    generalize w1.drewN nq = w2 at HSt ⊢
    clear HSt0 r0 r1 HHas HS1 hG1
    obtain ⟨⟨cX, cfX, bX1, bX2, sX⟩, chX⟩ := HSt.out
    have q4 : w2.cell? ⟨g, off + 4, none⟩ = some (.slice o4 lenb c4) := ((HEx.out _ chX).1 _).trans H4.out
    have lX := (HEx.out _ chX).2
    have lSX := sX.sc.lt
    have HC3 : Hid (Calls Tryz.prog 87 #[.pointer (some ⟨S, 0, none⟩), .slice o4 lenb c4] w2 fun e w' => e = .returned (.tuple #[]) ∧ SkRes w w' S m f (c + nb + 2 * cb) (cf + 1 + zb) (ext ++ sc) (fun x => G1 x || (TrN.binds t).any (fun b => freeM d b.2 (nms (ext ++ sc)) x))) := by
      refine (HBi.out _ ext cX cfX G1 hlen.out chX sX (by have := HBd.out; omega) (by have := HBd.out; omega)).mono ?_
      rintro e w' ⟨rfl, hr⟩
      exact ⟨rfl, SkRes.trans HSt.out (hr.eqG (by omega) (by omega) (fun _ => rfl))⟩
    clear sX chX bX1 bX2
    go_wp2_with (go_at_call 87; fail)
    refine HC3.out.mono ?_
    rintro e w3 ⟨rfl, hr⟩
    have HR3 : Hid (SkRes w w3 S m f (c + nb + 2 * cb) (cf + 1 + zb) (ext ++ sc) (fun x => G1 x || (TrN.binds t).any (fun b => freeM d b.2 (nms (ext ++ sc)) x))) := hr
    have q5 : w3.cell? ⟨g, off + 5, none⟩ = some (.slice o5 lena c5) := ((HEx.out _ hr.2).1 _).trans H5.out
    have l3 := (HEx.out _ hr.2).2
    clear hr HC3 q4
    go_wp2
    go_loopw [52] (fun i wr => ∃ k : Nat, k ≤ lena ∧ i = .int .i64 k ∧ Hid (SkRes w wr S m f (c + nb + 2 * cb + 2 * (((TrN.args t).take k).map fun e => costM d e).sum) (cf + 1 + zb + (((TrN.args t).take k).map fun e => sizeM d e).sum) (ext ++ sc) (fun x => (G1 x || (TrN.binds t).any (fun b => freeM d b.2 (nms (ext ++ sc)) x)) || ((TrN.args t).take k).any (fun e => freeM d e (nms (ext ++ sc)) x)))) (fun i _ => lena - (intOf i).toNat)
    case atStart => exact ⟨0, Nat.zero_le _, rfl, HR3.out.eqG (by simp) (by simp) (fun x => by simp)⟩
    case round =>
      obtain ⟨k, hk, rfl, hL⟩ := hrel
      have q5r : wr.cell? ⟨g, off + 5, none⟩ = some (.slice o5 lena c5) := ((HEx.out _ hL.out.2).1 _).trans H5.out
      have q6r : wr.cell? ⟨g, off + 6, none⟩ = some (.slice o6 lenl c6) := ((HEx.out _ hL.out.2).1 _).trans H6.out
      have lr := (HEx.out _ hL.out.2).2
      have lSr : S < wr.heap.size := by obtain ⟨⟨_, _, _, _, hs⟩, _⟩ := hL.out; exact hs.sc.lt
      by_cases hkn : k < lena
      · have hkl : k < (TrN.args t).length := by rw [HLa.out]; exact hkn
        obtain ⟨g', off', ho5, hg', hC⟩ := HAr.out k hkl
        subst ho5
        have hg2 : g' < wr.heap.size := by have := HBd.out.2.2; have := hL.out.2.size; omega
        have HC : Hid (Calls Tryz.prog 59 #[.pointer (some ⟨S, 0, none⟩), .pointer (some ⟨g', off' + k * 7, none⟩)] wr fun e w' => e = .returned (.tuple #[]) ∧ SkRes w w' S m f (c + nb + 2 * cb + 2 * (((TrN.args t).take (k + 1)).map fun e => costM d e).sum) (cf + 1 + zb + (((TrN.args t).take (k + 1)).map fun e => sizeM d e).sum) (ext ++ sc) (fun x => (G1 x || (TrN.binds t).any (fun b => freeM d b.2 (nms (ext ++ sc)) x)) || ((TrN.args t).take (k + 1)).any (fun e => freeM d e (nms (ext ++ sc)) x))) := by
          obtain ⟨⟨c', cf', a1, a2, a3⟩, a4⟩ := hL.out
          have t1 := take_sum (fun e : Tr d => costM d e) (TrN.args t) k hkl
          have t2 := take_le (fun e : Tr d => costM d e) (TrN.args t) (k + 1)
          have t3 := take_sum (fun e : Tr d => sizeM d e) (TrN.args t) k hkl
          have t4 := take_le (fun e : Tr d => sizeM d e) (TrN.args t) (k + 1)
          have hb1 := HBd.out
          have hb2 := HSum.out
          refine (hC wr ext c' cf' _ hlen.out a4 a3 (by omega) (by omega)).mono ?_
          rintro e w' ⟨rfl, hr⟩
          refine ⟨rfl, SkRes.trans hL.out (hr.eqG (by omega) (by omega) (fun x => ?_))⟩
          rw [any_snoc _ (TrN.args t) k hkl]
          simp only [Bool.or_assoc]
        clear hC hk hkl hL
        go_wp2_with (go_at_call 59; fail)
        refine HC.out.mono ?_
        rintro e w4 ⟨rfl, hr⟩
        have HR4 : Hid (_) := hr
        clear HC
        go_wp2
        go_roundw
        case rel => exact ⟨k + 1, hkn, by go_num, hr⟩
        case measure => simp [intOf]; omega
      · have HF : Hid (SkRes w wr S m f (c + nb + 2 * cb + 2 * ca) (cf + 1 + zb + za) (ext ++ sc) (fun x => (G1 x || (TrN.binds t).any (fun b => freeM d b.2 (nms (ext ++ sc)) x)) || (TrN.args t).any (fun e => freeM d e (nms (ext ++ sc)) x))) := by
          have e : (TrN.args t).take k = TrN.args t := List.take_of_length_le (by rw [HLa.out]; omega)
          have h3 := hL.out
          rw [e, HSum.out.1, HSum.out.2] at h3
          exact h3
        have HC5 : Hid (Calls Tryz.prog 107 #[.pointer (some ⟨S, 0, none⟩), .slice o6 lenl c6] wr fun e w' => e = .returned (.tuple #[]) ∧ SkRes w w' S m f (c + nb + 2 * cb + 2 * ca + 2 * cl) (cf + 1 + zb + za + zl) (ext ++ sc) (fun x => F x || freeM (d + 1) t (nms sc) x)) := by
          obtain ⟨⟨c', cf', a1, a2, a3⟩, a4⟩ := HF.out
          have hb1 := HBd.out
          refine (HAl.out wr ext c' cf' _ hlen.out a4 a3 (by omega) (by omega)).mono ?_
          rintro e w' ⟨rfl, hr⟩
          refine ⟨rfl, SkRes.trans HF.out (hr.eqG (by omega) (by omega) (fun x => ?_))⟩
          rw [← HFr.out ext he.out x, HG1.out x]
        clear hL hk HF
        go_wp2_with (go_at_call 107; fail)
        refine HC5.out.mono ?_
        rintro e w5 ⟨rfl, hr⟩
        have HR5 : Hid (SkRes w w5 S m f (c + nb + 2 * cb + 2 * ca + 2 * cl) (cf + 1 + zb + za + zl) (ext ++ sc) (fun x => F x || freeM (d + 1) t (nms sc) x)) := hr
        have l5 : S < w5.heap.size := by obtain ⟨⟨_, _, _, _, hs⟩, _⟩ := hr; exact hs.sc.lt
        have HC6 : Hid (Calls Tryz.prog 69 #[.pointer (some ⟨S, 0, none⟩), .pointer tp] w5 fun e w' => e = .returned (.tuple #[]) ∧ SkRes w w' S m f (c + 2 * (nb + cb + ca + cl)) (cf + (1 + zb + za + zl)) sc (fun x => F x || freeM (d + 1) t (nms sc) x)) := by
          obtain ⟨⟨c', cf', a1, a2, a3⟩, a4⟩ := HR5.out
          have hb1 := HBd.out
          refine (HLe.out w5 ext c' cf' _ he.out a3 (by omega)).mono ?_
          rintro e w' ⟨rfl, hr⟩
          exact ⟨rfl, SkRes.trans HR5.out (hr.eqG (by omega) (by omega) (fun _ => rfl))⟩
        clear hr HC5
        go_wp2_with (go_at_call 69; fail)
        refine HC6.out.mono ?_
        rintro e w6 ⟨rfl, hr⟩
        have HR6 : Hid (SkRes w w6 S m f (c + 2 * (nb + cb + ca + cl)) (cf + (1 + zb + za + zl)) sc (fun x => F x || freeM (d + 1) t (nms sc) x)) := hr
        clear hr HC6
        go_wp2
        go_end0
        exact ⟨rfl, HR6.out⟩
theorem seekOK : ∀ d, SeekOK d
  | 0 => fun t => nomatch t
  | d + 1 => seek_step d (seekOK d)
end Go.Proofs.YtegdloenakachaaGreatDoor

namespace Go.Proofs.YtegdloenakachaaGreatDoor
open Go.RowKit Go.Shelf Go.Maps
set_option linter.unusedVariables false

set_option maxRecDepth 100000 in
set_option maxHeartbeats 2000000 in
theorem newScope_c (w : World) : Calls Tryz.prog 60 #[] w fun e w' => ∃ m, e = .returned (.agg #[.pointer none, .map (some m)]) ∧ w.heap.size ≤ m ∧ FrMap w' m 0 (fnd []) ∧ Below w.heap.size w w' := by
  have hmm : ∀ W : World, (Instr.makeMap 102 none).run Tryz.prog W = .ok (.map (some W.heap.size)) (W.alloc (.map #[] 0)) := fun W => rfl
  obtain ⟨V, hV⟩ : ∃ V, w.alloc (Obj.cells #[Value.pointer none, Value.map none] 104) = V := ⟨_, rfl⟩
  have k0 : Blk V w.heap.size #[.pointer none, .map none] 104 := by rw [← hV]; exact Blk.new w _ _
  have b0 : Below w.heap.size w V := by rw [← hV]; exact below1 w _
  obtain ⟨N, hN⟩ : ∃ N, w.heap.size = N := ⟨_, rfl⟩
  rw [hN] at k0
  obtain ⟨M, hM⟩ : ∃ M, V.heap.size = M := ⟨_, rfl⟩
  obtain ⟨U, hU⟩ : ∃ U, V.alloc (.map #[] 0) = U := ⟨_, rfl⟩
  have b1 : Below V.heap.size V U := by rw [← hU]; exact below1 V _
  have k1 : Blk U N #[.pointer none, .map none] 104 := by unfold Blk; rw [b1.block N k0.lt]; exact k0
  have f1 : FrMap U M 0 (fnd []) := by rw [← hU, ← hM]; exact frMap_new V
  obtain ⟨T, hT⟩ : ∃ T, U.setCell ⟨N, 0, none⟩ (.pointer none) = T := ⟨_, rfl⟩
  have k2 : Blk T N #[.pointer none, .map none] 104 := by rw [← hT]; exact k1.set 0 _
  obtain ⟨R, hR⟩ : ∃ R, T.setCell ⟨N, 1, none⟩ (.map (some M)) = R := ⟨_, rfl⟩
  have k3 : Blk R N #[.pointer none, .map (some M)] 104 := by rw [← hR]; exact k2.set 1 _
  have hNM : N < M := by rw [← hM]; exact k0.lt
  have HEnd : Hid (N ≤ M ∧ FrMap R M 0 (fnd []) ∧ Below w.heap.size w R) := by
    have c1 := But.set N U 0 (.pointer none)
    have c2 := But.set N T 1 (.map (some M))
    rw [hT] at c1
    rw [hR] at c2
    have l1 : M < U.heap.size := f1.lt
    refine ⟨by omega, f1.same ((c2.block M (by have := c1.size; omega) (by omega)).trans (c1.block M l1 (by omega))), ?_⟩
    have d0 : Below w.heap.size w U := b0.trans (b1.mono (by have := b0.size; omega))
    have d1 : Below w.heap.size w T := by rw [← hT]; exact d0.setCell (p := ⟨N, 0, none⟩) (by rw [← hN]; exact Nat.le_refl _) _
    rw [← hR]; exact d1.setCell (p := ⟨N, 1, none⟩) (by rw [← hN]; exact Nat.le_refl _) _
  have e0 : U.cell? ⟨N, 0, none⟩ = some (.pointer none) := k1.cell 0 _ rfl
  have e1 : T.cell? ⟨N, 1, none⟩ = some (.map none) := k2.cell 1 _ rfl
  have g0 := k1.frozen 0
  have g1 := k2.frozen 1
  have e2 : R.cell? ⟨N, 0, none⟩ = some (.pointer none) := k3.cell 0 _ rfl
  have e3 : R.cell? ⟨N, 1, none⟩ = some (.map (some M)) := k3.cell 1 _ rfl
  have HK : Hid (Blk R N #[.pointer none, .map (some M)] 104) := k3
  clear k0 k1 k2 k3 b0 b1 f1
  go_enter Tryz.func60, Tryz.ntmps60
  go_wp2
  (try simp only [Exit.inBlock, Exit.then])
  refine bodyPost_ret (results_cell_row rfl _ _ N 104 _ _ _ rfl HK.out Tryz.underlying104 rfl rfl) rfl ?_
  exact ⟨M, rfl, by rw [hN]; exact HEnd.out.1, HEnd.out.2⟩
set_option maxRecDepth 100000 in
set_option maxHeartbeats 2000000 in
theorem newSeeker_c (w : World) : Calls Tryz.prog 58 #[] w fun e w' => ∃ S m f, e = .returned (.pointer (some ⟨S, 0, none⟩)) ∧ w.heap.size ≤ S ∧ w.heap.size ≤ m ∧ w.heap.size ≤ f ∧ SkSt w' S m f 0 0 [] (fun _ => false) ∧ Below w.heap.size w w' := by
  have hmm : ∀ W : World, (Instr.makeMap 65 none).run Tryz.prog W = .ok (.map (some W.heap.size)) (W.alloc (.map #[] 0)) := fun W => rfl
  go_enter Tryz.func58, Tryz.ntmps58
  go_wp2_with (go_at_call 60; fail)
  refine (newScope_c w).mono ?_
  rintro e w1 ⟨m, rfl, hm, hF, hB⟩
  have HF : Hid (FrMap w1 m 0 (fnd [])) := hF
  have HB : Hid (Below w.heap.size w w1) := hB
  clear hF hB
  go_wp2
  go_ret
  obtain ⟨V, hV⟩ : ∃ V, w1.alloc (.map #[] 0) = V := ⟨_, rfl⟩
  have hVs : V.heap.size = w1.heap.size + 1 := by rw [← hV]; exact Array.size_push _
  have b1 : Below w1.heap.size w1 V := by rw [← hV]; exact below1 w1 _
  have s1 : SetIs V w1.heap.size 0 (fun _ => false) := by rw [← hV]; exact setIs_new w1
  rw [hV]
  obtain ⟨U, hU⟩ : ∃ U, V.alloc (.cells #[.pointer none, .map (some m), .map (some w1.heap.size)] 106) = U := ⟨_, rfl⟩
  have b2 : Below V.heap.size V U := by rw [← hU]; exact below1 V _
  have k2 : Blk U V.heap.size #[.pointer none, .map (some m), .map (some w1.heap.size)] 106 := by rw [← hU]; exact Blk.new V _ _
  rw [hU]
  rw [hVs] at k2
  have hmw := HF.out.lt
  have hws := HB.out.size
  refine ⟨w1.heap.size + 1, m, w1.heap.size, rfl, by omega, hm, hws, ⟨⟨by omega, k2.cell 0 _ rfl, k2.frozen 0, k2.cell 1 _ rfl, HF.out.same ?_, trivial, k2.lt⟩, k2.cell 2 _ rfl, s1.same (b2.block _ (by omega)), by omega, by omega⟩, ?_⟩
  · exact (b2.block m (by omega)).trans (b1.block m hmw)
  · exact (HB.out.trans (b1.mono hws)).trans (b2.mono (by omega))
/-- What is free in an expression: a set. -/
theorem freeIn_c (d : Nat) (t : Tr d) (hN : NmOK d t) (hc : 2 * costM d t ≤ 2000000) (hs : sizeM d t ≤ 2000000) (B g off : Nat) (w : World) (hE : ExAt w B d t g off) (hw : B ≤ w.heap.size) (hg : g < w.heap.size) :
    Calls Tryz.prog 32 #[.pointer (some ⟨g, off, none⟩)] w fun e w' => ∃ f cf, e = .returned (.map (some f)) ∧ B ≤ f ∧ cf ≤ sizeM d t ∧ SetIs w' f cf (freeM d t []) ∧ Below w.heap.size w w' := by
  have HC : Hid (∀ W S m f, Below w.heap.size w W → SkSt W S m f 0 0 [] (fun _ => false) → w.heap.size ≤ S → w.heap.size ≤ m → w.heap.size ≤ f → Calls Tryz.prog 59 #[.pointer (some ⟨S, 0, none⟩), .pointer (some ⟨g, off, none⟩)] W fun e w' => e = .returned (.tuple #[]) ∧ (w'.cell? ⟨S, 2, none⟩ = some (.map (some f)) ∧ S < w'.heap.size) ∧ ∃ cf, B ≤ f ∧ cf ≤ sizeM d t ∧ SetIs w' f cf (freeM d t []) ∧ Below w.heap.size w w') := by
    intro W S m f hB hS h1 h2 h3
    have hsz := hB.size
    refine (seekOK d t B g off S m f 0 0 [] (fun _ => false) W (ExAt.same (fun g' off' hg' => cell_of_block (hB.block g' (by omega)) off') d _ _ _ hE) (by omega) (by omega) (by omega) (by omega) hS hN (by omega) (by simp; omega) (by omega)).mono ?_
    rintro e w' ⟨rfl, ⟨c', cf', q1, q2, q3⟩, q4⟩
    have e : (fun x => false || freeM d t (nms []) x) = freeM d t [] := by funext x; rw [Bool.false_or]; rfl
    have q5 := q3.set
    rw [e] at q5
    exact ⟨rfl, ⟨q3.found, q3.sc.lt⟩, cf', by omega, by omega, q5, ⟨q4.os.trans hB.os, q4.tape.trans hB.tape, q4.output.trans hB.output, by have := q4.size; omega, fun k hk => (q4.block k (by omega) (by omega) (by omega) (by omega)).trans (hB.block k hk)⟩⟩
  clear hN hc hs hE hw
  go_enter Tryz.func32, Tryz.ntmps32
  go_wp2_with (go_at_call 58; fail)
  refine (newSeeker_c w).mono ?_
  rintro e w1 ⟨S, m, f, rfl, h1, h2, h3, h4, h5⟩
  have HC1 : Hid (_) := HC.out w1 S m f h5 h4 h1 h2 h3
  have l1 : S < w1.heap.size := h4.sc.lt
  have l2 : g < w1.heap.size := by have := h5.size; omega
  clear HC h1 h2 h3 h4 h5
  go_wp2_with (go_at_call 59; fail)
  refine Calls.mono HC1.out ?_
  rintro e w2 ⟨rfl, ⟨h6, h7⟩, hr⟩
  have HR : Hid (_) := hr
  clear HC1 hr
  go_wp2
  go_ret
  obtain ⟨cf, q⟩ := HR.out
  exact ⟨f, cf, rfl, q⟩
end Go.Proofs.YtegdloenakachaaGreatDoor

namespace Go.Proofs.YtegdloenakachaaGreatDoor
open Go.RowKit Go.Shelf Go.Maps
set_option linter.unusedVariables false

theorem FrAt.keep {W W' : World} {S m : Nat} : ∀ {sc : Sc}, FrAt W S m sc → (∀ q ∈ sc, W'.heap[q.2]? = W.heap[q.2]?) → FrAt W' S m sc
  | [], _, _ => trivial
  | p :: r, ⟨h1, h2, h3, h4⟩, h => ⟨h1, h2, by unfold Blk; rw [h p (List.mem_cons_self ..)]; exact h3, FrAt.keep h4 (fun q hq => h q (List.mem_cons_of_mem _ hq))⟩
theorem FrAt.not_frmap {W : World} {S m : Nat} {f c : Nat} {F : List UInt8 → Value} (hf : FrMap W f c F) : ∀ {sc : Sc}, FrAt W S m sc → ∀ q ∈ sc, q.2 ≠ f
  | [], _, _, h => by cases h
  | p :: r, ⟨h1, h2, h3, h4⟩, q, h => by
    rcases List.mem_cons.1 h with rfl | h
    · intro e
      obtain ⟨D, ⟨es, clock, k1, k2⟩, _⟩ := hf
      rw [← e] at k1
      have h5 : W.heap[q.2]? = _ := h3
      rw [k1] at h5
      cases h5
    · exact FrAt.not_frmap hf h4 q h
theorem FrAt.neS {W : World} {S m : Nat} : ∀ {sc : Sc}, FrAt W S m sc → ∀ q ∈ sc, q.2 ≠ S
  | [], _, _, h => by cases h
  | p :: r, ⟨h1, h2, h3, h4⟩, q, h => by
    rcases List.mem_cons.1 h with rfl | h
    · exact h1.1
    · exact FrAt.neS h4 q h
/-- A pairing in memory: four cells of block P. -/
structure PrSt (W : World) (P ma mb ca cb : Nat) (sa sb : Sc) : Prop where
  a : ScAt W P 0 ma ca sa
  b : ScAt W P 2 mb cb sb
  ne : ma ≠ mb
/-- A scope stays where another one beside it changes. -/
theorem ScAt.beside {W W' : World} {P so to m n c c2 : Nat} {sc sd : Sc} (h : ScAt W P so m c sc) (k : ScAt W P to n c2 sd) (hc : ScChg P to n W W') (h0 : so ≠ to) (h1 : so + 1 ≠ to) (hn : m ≠ n) : ScAt W' P so m c sc :=
  ⟨h.ne, (hc.cells so h0).trans h.inner, (hc.frozen so).trans h.innerF, (hc.cells (so + 1) h1).trans h.named, h.map.same (hc.block m h.map.lt h.ne.symm hn), h.frames.keep (fun q hq => hc.block q.2 (h.frames.lt q hq) (h.frames.neS q hq) (h.frames.not_frmap k.map q hq)), Nat.lt_of_lt_of_le h.lt hc.size⟩
theorem PrSt.stepA {W W' : World} {P ma mb ca ca' cb : Nat} {sa sa' sb : Sc} (h : PrSt W P ma mb ca cb sa sb) (hs : ScAt W' P 0 ma ca' sa') (hc : ScChg P 0 ma W W') : PrSt W' P ma mb ca' cb sa' sb :=
  ⟨hs, h.b.beside h.a hc (by omega) (by omega) h.ne.symm, h.ne⟩
theorem PrSt.stepB {W W' : World} {P ma mb ca cb cb' : Nat} {sa sb sb' : Sc} (h : PrSt W P ma mb ca cb sa sb) (hs : ScAt W' P 2 mb cb' sb') (hc : ScChg P 2 mb W W') : PrSt W' P ma mb ca cb' sa sb' :=
  ⟨h.a.beside h.b hc (by omega) (by omega) h.ne, hs, h.ne⟩
theorem PrSt.drewN {W : World} {P ma mb ca cb : Nat} {sa sb : Sc} (h : PrSt W P ma mb ca cb sa sb) (n : Nat) : PrSt (W.drewN n) P ma mb ca cb sa sb := ⟨h.a.drewN n, h.b.drewN n, h.ne⟩
theorem SkChg.ofSc2 {S m f : Nat} {W W' : World} (h : ScChg S 2 f W W') : SkChg S m f W W' := ⟨h.os, h.tape, h.output, h.size, fun k hk h1 _ h3 => h.block k hk h1 h3⟩
/-- What a pairing has come to. -/
def PrRes (w w' : World) (P ma mb CA CB : Nat) (sa sb : Sc) : Prop := (∃ ca cb, ca ≤ CA ∧ cb ≤ CB ∧ PrSt w' P ma mb ca cb sa sb) ∧ SkChg P ma mb w w'
theorem PrRes.start {w : World} {P ma mb ca cb : Nat} {sa sb : Sc} (h : PrSt w P ma mb ca cb sa sb) : PrRes w w P ma mb ca cb sa sb := ⟨⟨ca, cb, Nat.le_refl _, Nat.le_refl _, h⟩, SkChg.refl _ _ _ _⟩
theorem PrRes.le {w w' : World} {P ma mb CA CB CA' CB' : Nat} {sa sb : Sc} (h : PrRes w w' P ma mb CA CB sa sb) (h1 : CA ≤ CA') (h2 : CB ≤ CB') : PrRes w w' P ma mb CA' CB' sa sb := by
  obtain ⟨⟨ca, cb, e1, e2, e3⟩, e4⟩ := h
  exact ⟨⟨ca, cb, by omega, by omega, e3⟩, e4⟩
theorem PrRes.trans {w w' w'' : World} {P ma mb CA CB CA' CB' : Nat} {sa sb sa' sb' : Sc} (h : PrRes w w' P ma mb CA CB sa sb) (k : PrRes w' w'' P ma mb CA' CB' sa' sb') : PrRes w w'' P ma mb CA' CB' sa' sb' := ⟨k.1, h.2.trans k.2⟩
theorem PrRes.drewN {w w' : World} {P ma mb CA CB : Nat} {sa sb : Sc} (h : PrRes w w' P ma mb CA CB sa sb) (n : Nat) : PrRes w (w'.drewN n) P ma mb CA CB sa sb := by
  obtain ⟨⟨ca, cb, e1, e2, e3⟩, e4⟩ := h
  exact ⟨⟨ca, cb, e1, e2, e3.drewN n⟩, e4.drewN n⟩
/-- The level of a name among names. -/
def lvlN : List (List UInt8) → List UInt8 → Nat
  | [], _ => 0
  | p :: r, x => if x = p then r.length + 1 else lvlN r x
theorem lvl_nms : ∀ (sc : Sc) (x : List UInt8), lvlM sc x = lvlN (nms sc) x
  | [], _ => rfl
  | p :: r, x => by
    have e1 : lvlM (p :: r) x = if x = p.1.data.toList then r.length + 1 else lvlM r x := rfl
    have e2 : lvlN (nms (p :: r)) x = if x = p.1.data.toList then (nms r).length + 1 else lvlN (nms r) x := rfl
    rw [e1, e2, lvl_nms r x]
    simp [nms]
/-- Names that stand for the same. -/
def nameM (k : Int) (a b : ByteArray) (na nb : List (List UInt8)) : Bool := if k = 1 then (lvlN na a.data.toList == lvlN nb b.data.toList) && (decide (0 < lvlN na a.data.toList) || (a.toList == b.toList)) else (a.toList == b.toList)
/-- Expressions that differ in bound names alone. -/
def sameM : (d : Nat) → Tr d → Tr d → List (List UInt8) → List (List UInt8) → Bool
  | 0, t, _, _, _ => nomatch t
  | d + 1, a, b, na, nb => (((TrN.kind a == TrN.kind b) && (TrN.num a == TrN.num b)) && (((TrN.params a).length == (TrN.params b).length) && ((TrN.binds a).length == (TrN.binds b).length))) &&
      (nameM (TrN.kind a) (TrN.name a) (TrN.name b) (dl (bndM a).reverse ++ na) (dl (bndM b).reverse ++ nb) &&
      ((((TrN.binds a).zip (TrN.binds b)).all fun p => sameM d p.1.2 p.2.2 (dl (bndM a).reverse ++ na) (dl (bndM b).reverse ++ nb)) &&
      ((((TrN.args a).length == (TrN.args b).length) && (((TrN.args a).zip (TrN.args b)).all fun p => sameM d p.1 p.2 (dl (bndM a).reverse ++ na) (dl (bndM b).reverse ++ nb))) &&
      (((TrN.alts a).length == (TrN.alts b).length) && (((TrN.alts a).zip (TrN.alts b)).all fun p =>
        (((p.1.1.kind == p.2.1.kind) && (p.1.1.name.toList == p.2.1.name.toList)) && ((p.1.1.num == p.2.1.num) && (p.1.1.vars.length == p.2.1.vars.length))) &&
        sameM d p.1.2 p.2.2 (dl p.1.1.vars.reverse ++ (dl (bndM a).reverse ++ na)) (dl p.2.1.vars.reverse ++ (dl (bndM b).reverse ++ nb)))))))
/-- What pairing.expr does with expressions of a depth. -/
def PairOK (d : Nat) : Prop := ∀ (a b : Tr d) (B ga oa gb ob P ma mb ca cb : Nat) (sa sb : Sc) (w : World), ExAt w B d a ga oa → ExAt w B d b gb ob → B ≤ P → B ≤ ma → B ≤ mb → B ≤ w.heap.size → PrSt w P ma mb ca cb sa sb → NmOK d a → NmOK d b → ca + 2 * costM d a ≤ 2000000 → cb + 2 * costM d b ≤ 2000000 → sa.length + costM d a ≤ 2000000 → sb.length + costM d b ≤ 2000000 → sizeM d a ≤ 2000000 → sizeM d b ≤ 2000000 →
  Calls Tryz.prog 76 #[.pointer (some ⟨P, 0, none⟩), .pointer (some ⟨ga, oa, none⟩), .pointer (some ⟨gb, ob, none⟩)] w fun e w' => e = .returned (.bool (sameM d a b (nms sa) (nms sb))) ∧ PrRes w w' P ma mb (ca + 2 * costM d a) (cb + 2 * costM d b) sa sb
set_option maxRecDepth 100000 in
set_option maxHeartbeats 2000000 in
/-- Two names, by a contract. -/
theorem pair_name_c (ka : Int) (a b : ByteArray) (ha : a.size ≤ maxLen) (hb : b.size ≤ maxLen) (ga oa gb ob P ma mb ca cb : Nat) (sa sb : Sc) (hl : sa.length ≤ 2000000) (hl2 : sb.length ≤ 2000000) (w : World) (h : PrSt w P ma mb ca cb sa sb) (hga : ga < w.heap.size) (hgb : gb < w.heap.size)
    (h0 : w.cell? ⟨ga, oa, none⟩ = some (.int .i64 ka)) (h1 : w.cell? ⟨ga, oa + 1, none⟩ = some (.string a)) (h2 : w.cell? ⟨gb, ob + 1, none⟩ = some (.string b)) :
    Calls Tryz.prog 117 #[.pointer (some ⟨P, 0, none⟩), .pointer (some ⟨ga, oa, none⟩), .pointer (some ⟨gb, ob, none⟩)] w fun e w' => e = .returned (.bool (nameM ka a b (nms sa) (nms sb))) ∧ ∃ n, w' = w.drewN n := by
  have hP := h.a.lt
  have HA : Hid (∀ n, Calls Tryz.prog 154 #[.pointer (some ⟨P, 0, none⟩), .string a] (w.drewN n) fun e w' => e = .returned (.int .i64 (lvlN (nms sa) a.data.toList : Nat)) ∧ w' = w.drewN n) := fun n => by
    rw [← lvl_nms]; exact level_c a ha P 0 ma ca sa _ (h.a.drewN n)
  have HB : Hid (∀ n, Calls Tryz.prog 154 #[.pointer (some ⟨P, 2, none⟩), .string b] (w.drewN n) fun e w' => e = .returned (.int .i64 (lvlN (nms sb) b.data.toList : Nat)) ∧ w' = w.drewN n) := fun n => by
    rw [← lvl_nms]; exact level_c b hb P 2 mb cb sb _ (h.b.drewN n)
  unfold nameM
  generalize lvlN (nms sa) a.data.toList = la at *
  generalize lvlN (nms sb) b.data.toList = lb at *
  clear h ha hb
  by_cases hk : ka = 1
  · subst hk
    rw [if_pos rfl]
    by_cases hll : la = lb
    · subst hll
      rw [beq_self_eq_true, Bool.true_and]
      by_cases h0l : 0 < la
      · have hd : decide (0 < (la : Int)) = true := by simpa using h0l
        rw [decide_eq_true h0l, Bool.true_or]
        go_enter Tryz.func117, Tryz.ntmps117
        go_wp2
        go_big_quiet ((go_at_call 154; exact Calls.quiet_of_same (HA.out _)))
        have HB2 : Hid (∀ n, Calls Tryz.prog 154 #[.pointer (some ⟨P, 2, none⟩), .string b] ((w.drewN nq).drewN n) fun e w' => e = .returned (.int .i64 (la : Nat)) ∧ w' = (w.drewN nq).drewN n) := fun n => by rw [World.drewN_drewN]; exact HB.out _
        have h1q : (w.drewN nq).cell? ⟨ga, oa + 1, none⟩ = some (.string a) := h1
        have h2q : (w.drewN nq).cell? ⟨gb, ob + 1, none⟩ = some (.string b) := h2
        have gaq : ga < (w.drewN nq).heap.size := hga
        have gbq : gb < (w.drewN nq).heap.size := hgb
        have hPq : P < (w.drewN nq).heap.size := hP
        have HW : Hid (∃ n, w.drewN nq = w.drewN n) := ⟨nq, rfl⟩
        generalize w.drewN nq = w2 at HB2 h1q h2q gaq gbq hPq HW ⊢
        clear h0 h1 h2 hga hgb hP HA HB
        go_wp2
        go_big_quiet ((go_at_call 154; exact Calls.quiet_of_same (HB2.out _)))
        go_wp2
        go_big_quiet (fail)
        go_wp2
        go_ret
        obtain ⟨n, rfl⟩ := HW.out
        exact ⟨rfl, _, by simp only [World.drewN_drewN]; rfl⟩
      · have h00 : la = 0 := by omega
        subst h00
        rw [decide_eq_false h0l, Bool.false_or]
        go_enter Tryz.func117, Tryz.ntmps117
        go_wp2
        go_big_quiet ((go_at_call 154; exact Calls.quiet_of_same (HA.out _)))
        have HB2 : Hid (∀ n, Calls Tryz.prog 154 #[.pointer (some ⟨P, 2, none⟩), .string b] ((w.drewN nq).drewN n) fun e w' => e = .returned (.int .i64 (0 : Nat)) ∧ w' = (w.drewN nq).drewN n) := fun n => by rw [World.drewN_drewN]; exact HB.out _
        have h1q : (w.drewN nq).cell? ⟨ga, oa + 1, none⟩ = some (.string a) := h1
        have h2q : (w.drewN nq).cell? ⟨gb, ob + 1, none⟩ = some (.string b) := h2
        have gaq : ga < (w.drewN nq).heap.size := hga
        have gbq : gb < (w.drewN nq).heap.size := hgb
        have hPq : P < (w.drewN nq).heap.size := hP
        have HW : Hid (∃ n, w.drewN nq = w.drewN n) := ⟨nq, rfl⟩
        generalize w.drewN nq = w2 at HB2 h1q h2q gaq gbq hPq HW ⊢
        clear h0 h1 h2 hga hgb hP HA HB
        go_wp2
        go_big_quiet ((go_at_call 154; exact Calls.quiet_of_same (HB2.out _)))
        go_wp2
        go_big_quiet (fail)
        go_wp2
        go_ret
        obtain ⟨n, rfl⟩ := HW.out
        exact ⟨rfl, _, by simp only [World.drewN_drewN]; rfl⟩
    · have hd : decide ((la : Int) = (lb : Int)) = false := decide_eq_false (by omega)
      have hd2 : ((la : Int) == (lb : Int)) = false := beq_eq_false_iff_ne.2 (by omega)
      have hd3 : decide (la = lb) = false := by simpa using hll
      rw [beq_eq_false_iff_ne.2 hll, Bool.false_and]
      go_enter Tryz.func117, Tryz.ntmps117
      go_wp2
      go_big_quiet ((go_at_call 154; exact Calls.quiet_of_same (HA.out _)))
      have HB2 : Hid (∀ n, Calls Tryz.prog 154 #[.pointer (some ⟨P, 2, none⟩), .string b] ((w.drewN nq).drewN n) fun e w' => e = .returned (.int .i64 (lb : Nat)) ∧ w' = (w.drewN nq).drewN n) := fun n => by rw [World.drewN_drewN]; exact HB.out _
      have h1q : (w.drewN nq).cell? ⟨ga, oa + 1, none⟩ = some (.string a) := h1
      have h2q : (w.drewN nq).cell? ⟨gb, ob + 1, none⟩ = some (.string b) := h2
      have gaq : ga < (w.drewN nq).heap.size := hga
      have gbq : gb < (w.drewN nq).heap.size := hgb
      have hPq : P < (w.drewN nq).heap.size := hP
      have HW : Hid (∃ n, w.drewN nq = w.drewN n) := ⟨nq, rfl⟩
      generalize w.drewN nq = w2 at HB2 h1q h2q gaq gbq hPq HW ⊢
      clear h0 h1 h2 hga hgb hP HA HB
      go_wp2
      go_big_quiet ((go_at_call 154; exact Calls.quiet_of_same (HB2.out _)))
      go_wp2
      go_ret
      obtain ⟨n, rfl⟩ := HW.out
      exact ⟨rfl, _, by simp only [World.drewN_drewN]; rfl⟩
  · rw [if_neg hk]
    go_enter Tryz.func117, Tryz.ntmps117
    go_wp2
    go_big_quiet (fail)
    go_wp2
    go_ret
    exact ⟨rfl, _, rfl⟩
end Go.Proofs.YtegdloenakachaaGreatDoor
