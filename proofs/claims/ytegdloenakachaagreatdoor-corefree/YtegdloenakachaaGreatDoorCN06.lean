/-
  Two expressions side by side: rows of alternatives, by contracts.
-/
import Derived.Test.YtegdloenakachaaGreatDoorCN05
namespace Go.Proofs.YtegdloenakachaaGreatDoor
open Go.RowKit Go.Shelf Go.Maps
set_option linter.unusedVariables false

/-- Alternatives that differ in bound names alone. -/
def altM (d : Nat) (a b : AltH × Tr d) (na nb : List (List UInt8)) : Bool := headM a.1 b.1 && sameM d a.2 b.2 (dl a.1.vars.reverse ++ na) (dl b.1.vars.reverse ++ nb)
theorem pair_alt_c (d : Nat) (ih : PairOK d) (a b : AltH × Tr d) (B ga xa gb xb P ma mb ca cb : Nat) (sa sb : Sc) (w : World) (ha : AltAt w B d a ga xa) (hb : AltAt w B d b gb xb) (hP : B ≤ P) (hma : B ≤ ma) (hmb : B ≤ mb) (hw : B ≤ w.heap.size) (h : PrSt w P ma mb ca cb sa sb)
    (hN : (∀ x ∈ a.1.vars, x.size ≤ maxLen) ∧ NmOK d a.2) (hM : (∀ x ∈ b.1.vars, x.size ≤ maxLen) ∧ NmOK d b.2) (hca : ca + 2 * (a.1.vars.length + costM d a.2) ≤ 2000000) (hcb : cb + 2 * (b.1.vars.length + costM d b.2) ≤ 2000000) (hsa : sa.length + (a.1.vars.length + costM d a.2) ≤ 2000000) (hsb : sb.length + (b.1.vars.length + costM d b.2) ≤ 2000000) (hza : sizeM d a.2 ≤ 2000000) (hzb : sizeM d b.2 ≤ 2000000) :
    Calls Tryz.prog 155 #[.pointer (some ⟨P, 0, none⟩), .pointer (some ⟨ga, xa, none⟩), .pointer (some ⟨gb, xb, none⟩)] w fun e w' => e = .returned (.bool (altM d a b (nms sa) (nms sb))) ∧ PrRes w w' P ma mb (ca + 2 * (a.1.vars.length + costM d a.2)) (cb + 2 * (b.1.vars.length + costM d b.2)) sa sb := by
  obtain ⟨o1, c1, o2, c2, e1, e2, hC⟩ := pair_alt_chain d ih a b B ga xa gb xb P ma mb ca cb sa sb w ha hb hP hma hmb hw h hN hM hca hcb hsa hsb hza hzb
  obtain ⟨a0, a1, a2, -, hEa⟩ := ha
  obtain ⟨b0, b1, b2, -, hEb⟩ := hb
  obtain ⟨tpa, ta⟩ := top_ptr sa
  obtain ⟨tpb, tb⟩ := top_ptr sb
  have ia := h.a.inner
  have ib := h.b.inner
  rw [ta] at ia hC
  rw [tb] at ib hC
  exact pair_alt_walk _ _ _ _ _ _ _ _ ga xa gb xb P _ tpa tpb _ o1 o2 c1 c2 w (by omega) (by omega) a0 a1 a2 e1 b0 b1 b2 e2 ia ib h.a.lt (Nat.lt_of_lt_of_le hEa.lt hw) (Nat.lt_of_lt_of_le hEb.lt hw) (fun n => ((PrRes.start h).le (by omega) (by omega)).drewN n) hC
set_option maxRecDepth 100000 in
set_option maxHeartbeats 2000000 in
theorem pair_alts_eq (d : Nat) (ih : PairOK d) (l r : List ((AltH × Tr d))) (oa ob : Option Addr) (na nb : Nat) (B P ma mb ca cb : Nat) (sa sb : Sc) (w : World)
    (hl : RowIn B 11 (fun (x : (AltH × Tr d)) g off => AltAt w B d x g off) oa l) (hr : RowIn B 11 (fun (x : (AltH × Tr d)) g off => AltAt w B d x g off) ob r) (hlr : l.length = r.length) (hP : B ≤ P) (hma : B ≤ ma) (hmb : B ≤ mb) (hw : B ≤ w.heap.size) (h : PrSt w P ma mb ca cb sa sb) (hN : ∀ x ∈ l, ((∀ y ∈ x.1.vars, y.size ≤ maxLen) ∧ NmOK d x.2)) (hM : ∀ x ∈ r, ((∀ y ∈ x.1.vars, y.size ≤ maxLen) ∧ NmOK d x.2))
    (hca : ca + 2 * (l.map fun x => (x.1.vars.length + costM d x.2)).sum ≤ 2000000) (hcb : cb + 2 * (r.map fun x => (x.1.vars.length + costM d x.2)).sum ≤ 2000000) (hsa : sa.length + (l.map fun x => (x.1.vars.length + costM d x.2)).sum ≤ 2000000) (hsb : sb.length + (r.map fun x => (x.1.vars.length + costM d x.2)).sum ≤ 2000000) (hza : (l.map fun x => sizeM d x.2).sum ≤ 2000000) (hzb : (r.map fun x => sizeM d x.2).sum ≤ 2000000) (hln : l.length ≤ 2000000) :
    Calls Tryz.prog 120 #[.pointer (some ⟨P, 0, none⟩), .slice oa l.length na, .slice ob r.length nb] w fun e w' => e = .returned (.bool ((l.zip r).all fun p => altM d p.1 p.2 (nms sa) (nms sb))) ∧ PrRes w w' P ma mb (ca + 2 * (l.map fun x => (x.1.vars.length + costM d x.2)).sum) (cb + 2 * (r.map fun x => (x.1.vars.length + costM d x.2)).sum) sa sb := by
  have HA : Hid (∀ k (hk : k < l.length) (hk2 : k < r.length), ∃ ga xa gb xb, oa = some ⟨ga, xa, none⟩ ∧ ga < B ∧ ob = some ⟨gb, xb, none⟩ ∧ gb < B ∧ ∀ (W : World) (ca' cb' : Nat), SkChg P ma mb w W → PrSt W P ma mb ca' cb' sa sb → ca' + 2 * (l[k].1.vars.length + costM d l[k].2) ≤ 2000000 → cb' + 2 * (r[k].1.vars.length + costM d r[k].2) ≤ 2000000 →
      Calls Tryz.prog 155 #[.pointer (some ⟨P, 0, none⟩), .pointer (some ⟨ga, xa + k * 11, none⟩), .pointer (some ⟨gb, xb + k * 11, none⟩)] W fun e w' => e = .returned (.bool (altM d l[k] r[k] (nms sa) (nms sb))) ∧ PrRes W w' P ma mb (ca' + 2 * (l[k].1.vars.length + costM d l[k].2)) (cb' + 2 * (r[k].1.vars.length + costM d r[k].2)) sa sb) := by
    intro k hk hk2
    rcases hl with h0 | ⟨ga, xa, ea, hga, hEa⟩
    · subst h0; cases hk
    rcases hr with h0 | ⟨gb, xb, eb, hgb, hEb⟩
    · subst h0; cases hk2
    refine ⟨ga, xa, gb, xb, ea, hga, eb, hgb, fun W ca' cb' hW hG h1 h2 => ?_⟩
    have hb := hW.ex (d := d) hP hma hmb hw
    have q1 := take_le (fun x : (AltH × Tr d) => (x.1.vars.length + costM d x.2)) l (k + 1)
    have q2 := take_sum (fun x : (AltH × Tr d) => (x.1.vars.length + costM d x.2)) l k hk
    have q3 := take_le (fun x : (AltH × Tr d) => (x.1.vars.length + costM d x.2)) r (k + 1)
    have q4 := take_sum (fun x : (AltH × Tr d) => (x.1.vars.length + costM d x.2)) r k hk2
    have q5 := take_le (fun x : (AltH × Tr d) => sizeM d x.2) l (k + 1)
    have q6 := take_sum (fun x : (AltH × Tr d) => sizeM d x.2) l k hk
    have q7 := take_le (fun x : (AltH × Tr d) => sizeM d x.2) r (k + 1)
    have q8 := take_sum (fun x : (AltH × Tr d) => sizeM d x.2) r k hk2
    exact pair_alt_c d ih l[k] r[k] B ga _ gb _ P ma mb ca' cb' sa sb W (AltAt.same hb (hEa k hk)) (AltAt.same hb (hEb k hk2)) hP hma hmb (Nat.le_trans hw hW.size) hG (hN _ (List.getElem_mem _)) (hM _ (List.getElem_mem _)) h1 h2 (by omega) (by omega) (by omega) (by omega)
  have HX : Hid (ca + 2 * (l.map fun x => (x.1.vars.length + costM d x.2)).sum ≤ 2000000 ∧ cb + 2 * (r.map fun x => (x.1.vars.length + costM d x.2)).sum ≤ 2000000 ∧ B ≤ w.heap.size) := ⟨hca, hcb, hw⟩
  have HR : Hid (PrRes w w P ma mb ca cb sa sb) := PrRes.start h
  obtain ⟨n, hn⟩ : ∃ n, l.length = n := ⟨_, rfl⟩
  have hn3 : r.length = n := by omega
  have HN : Hid (l.length = n ∧ r.length = n) := ⟨hn, hn3⟩
  have HZ : Hid ((l.zip r).length = n) := by show (l.zip r).length = n; rw [List.length_zip]; omega
  rw [hn, hn3]
  have hn2 : (n : Int) ≤ 2000000 := by rw [← hn]; omega
  obtain ⟨F, hF⟩ : ∃ F : ((AltH × Tr d) × (AltH × Tr d)) → Bool, F = fun p => altM d p.1 p.2 (nms sa) (nms sb) := ⟨_, rfl⟩
  have HFk : Hid (∀ k (hk : k < l.length) (hk2 : k < r.length) (hz : k < (l.zip r).length), F (l.zip r)[k] = altM d l[k] r[k] (nms sa) (nms sb)) := fun k hk hk2 hz => by rw [hF, List.getElem_zip]
  rw [← hF]
  obtain ⟨R, hR⟩ : ∃ R, (l.zip r).all F = R := ⟨_, rfl⟩
  have HRr : Hid ((l.zip r).all F = R) := hR
  rw [hR]
  clear hl hr hlr hP hma hmb hw h hN hM hca hcb hsa hsb hza hzb hln hn hn3 ih hF hR
  go_enter Tryz.func120, Tryz.ntmps120
  go_wp2
  go_loopw [15] (fun i wr => ∃ k : Nat, k ≤ n ∧ i = .int .i64 k ∧ Hid (((l.zip r).take k).all F = true) ∧ Hid (PrRes w wr P ma mb (ca + 2 * ((l.take k).map fun x => (x.1.vars.length + costM d x.2)).sum) (cb + 2 * ((r.take k).map fun x => (x.1.vars.length + costM d x.2)).sum) sa sb)) (fun i _ => n - (intOf i).toNat)
  case atStart => exact ⟨0, Nat.zero_le _, rfl, by show ((l.zip r).take 0).all F = true; simp, HR.out.le (by simp) (by simp)⟩
  case round =>
    obtain ⟨k, hk, rfl, hT, hL⟩ := hrel
    by_cases hkn : k < n
    · have hkl : k < l.length := by rw [HN.out.1]; exact hkn
      have hkr : k < r.length := by rw [HN.out.2]; exact hkn
      have hkz : k < (l.zip r).length := by rw [HZ.out]; exact hkn
      obtain ⟨ga, xa, gb, xb, rfl, hga, rfl, hgb, hC⟩ := HA.out k hkl hkr
      have hgw : ga < wr.heap.size := by have := HX.out.2.2; have := hL.out.2.size; omega
      have hgw2 : gb < wr.heap.size := by have := HX.out.2.2; have := hL.out.2.size; omega
      have HFin : Hid (∀ w', PrRes w w' P ma mb (ca + 2 * ((l.take (k + 1)).map fun x => (x.1.vars.length + costM d x.2)).sum) (cb + 2 * ((r.take (k + 1)).map fun x => (x.1.vars.length + costM d x.2)).sum) sa sb → PrRes w w' P ma mb (ca + 2 * (l.map fun x => (x.1.vars.length + costM d x.2)).sum) (cb + 2 * (r.map fun x => (x.1.vars.length + costM d x.2)).sum) sa sb) := fun w' h => by
        have t2 := take_le (fun x : (AltH × Tr d) => (x.1.vars.length + costM d x.2)) l (k + 1)
        have t4 := take_le (fun x : (AltH × Tr d) => (x.1.vars.length + costM d x.2)) r (k + 1)
        exact h.le (by omega) (by omega)
      obtain ⟨Rs, hRs⟩ : ∃ Rs : World → Prop, Rs = fun w' => PrRes w w' P ma mb (ca + 2 * ((l.take (k + 1)).map fun x => (x.1.vars.length + costM d x.2)).sum) (cb + 2 * ((r.take (k + 1)).map fun x => (x.1.vars.length + costM d x.2)).sum) sa sb := ⟨_, rfl⟩
      have HRs : Hid (∀ w', Rs w' → PrRes w w' P ma mb (ca + 2 * ((l.take (k + 1)).map fun x => (x.1.vars.length + costM d x.2)).sum) (cb + 2 * ((r.take (k + 1)).map fun x => (x.1.vars.length + costM d x.2)).sum) sa sb) := fun w' h => by rw [hRs] at h; exact h
      have HC : Hid (Calls Tryz.prog 155 #[.pointer (some ⟨P, 0, none⟩), .pointer (some ⟨ga, xa + k * 11, none⟩), .pointer (some ⟨gb, xb + k * 11, none⟩)] wr.drew fun e w' => e = .returned (.bool (altM d l[k] r[k] (nms sa) (nms sb))) ∧ Rs w') := by
        obtain ⟨⟨ca', cb', a1, a2, a3⟩, a4⟩ := hL.out
        have t1 := take_sum (fun x : (AltH × Tr d) => (x.1.vars.length + costM d x.2)) l k hkl
        have t2 := take_le (fun x : (AltH × Tr d) => (x.1.vars.length + costM d x.2)) l (k + 1)
        have t3 := take_sum (fun x : (AltH × Tr d) => (x.1.vars.length + costM d x.2)) r k hkr
        have t4 := take_le (fun x : (AltH × Tr d) => (x.1.vars.length + costM d x.2)) r (k + 1)
        obtain ⟨x1, x2, x3⟩ := HX.out
        refine (hC wr.drew ca' cb' (a4.drewN 1) (a3.drewN 1) (by omega) (by omega)).mono ?_
        rintro e w' ⟨rfl, hr⟩
        refine ⟨rfl, ?_⟩
        rw [hRs]
        exact PrRes.trans (hL.out.drewN 1) (hr.le (by omega) (by omega))
      clear hC HA HX HR hL hRs hk
      cases hb : altM d l[k] r[k] (nms sa) (nms sb) with
      | false =>
        rw [hb] at HC
        have HF : Hid (R = false) := by
          have h9 := all_miss F (l.zip r) k hkz (by rw [HFk.out k hkl hkr hkz]; exact hb)
          rw [HRr.out] at h9
          exact h9
        clear hb hT hkl hkr hkz HFk
        go_wp2
        go_region_with ((go_at_call 155; (with_reducible refine HC.out.mono ?_); rintro e w1 ⟨rfl, hk1⟩; have HK1 : Hid (Rs w1) := hk1; clear hk1))
        all_goals
          go_wp2
          go_ret
          exact ⟨by rw [HF.out]; rfl, HFin.out _ (HRs.out _ HK1.out)⟩
      | true =>
        rw [hb] at HC
        have HT2 : Hid (((l.zip r).take (k + 1)).all F = true) := by
          show _ = _
          rw [all_snoc F (l.zip r) k hkz, hT.out, HFk.out k hkl hkr hkz, hb]
          rfl
        clear hb hT hkl hkr hkz HFk
        go_wp2
        go_region_with ((go_at_call 155; (with_reducible refine HC.out.mono ?_); rintro e w1 ⟨rfl, hk1⟩; have HK1 : Hid (Rs w1) := hk1; clear hk1))
        all_goals
          go_wp2
          go_roundw
          case rel => exact ⟨k + 1, hkn, by go_num, HT2, HRs.out _ HK1.out⟩
          case measure => simp [intOf]; omega
    · have HF : Hid (R = true) := by
        have e : (l.zip r).take k = l.zip r := List.take_of_length_le (by rw [HZ.out]; omega)
        have h3 := hT.out
        rw [e, HRr.out] at h3
        exact h3
      have HE : Hid (PrRes w wr P ma mb (ca + 2 * (l.map fun x => (x.1.vars.length + costM d x.2)).sum) (cb + 2 * (r.map fun x => (x.1.vars.length + costM d x.2)).sum) sa sb) := by
        have e1 : l.take k = l := List.take_of_length_le (by rw [HN.out.1]; omega)
        have e2 : r.take k = r := List.take_of_length_le (by rw [HN.out.2]; omega)
        have h3 := hL.out
        rw [e1, e2] at h3
        exact h3
      clear hT hL HA HX HR HFk
      go_wp2
      go_ret
      exact ⟨by rw [HF.out]; rfl, HE.out⟩
set_option maxRecDepth 100000 in
set_option maxHeartbeats 2000000 in
theorem pair_alts_c (d : Nat) (ih : PairOK d) (l r : List (AltH × Tr d)) (oa ob : Option Addr) (na nb : Nat) (B P ma mb ca cb : Nat) (sa sb : Sc) (w : World)
    (hl : RowIn B 11 (AltAt w B d) oa l) (hr : RowIn B 11 (AltAt w B d) ob r) (hP : B ≤ P) (hma : B ≤ ma) (hmb : B ≤ mb) (hw : B ≤ w.heap.size) (h : PrSt w P ma mb ca cb sa sb) (hN : ∀ x ∈ l, ((∀ y ∈ x.1.vars, y.size ≤ maxLen) ∧ NmOK d x.2)) (hM : ∀ x ∈ r, ((∀ y ∈ x.1.vars, y.size ≤ maxLen) ∧ NmOK d x.2))
    (hca : ca + 2 * (l.map fun x => (x.1.vars.length + costM d x.2)).sum ≤ 2000000) (hcb : cb + 2 * (r.map fun x => (x.1.vars.length + costM d x.2)).sum ≤ 2000000) (hsa : sa.length + (l.map fun x => (x.1.vars.length + costM d x.2)).sum ≤ 2000000) (hsb : sb.length + (r.map fun x => (x.1.vars.length + costM d x.2)).sum ≤ 2000000) (hza : (l.map fun x => sizeM d x.2).sum ≤ 2000000) (hzb : (r.map fun x => sizeM d x.2).sum ≤ 2000000) (hln : l.length ≤ 2000000) :
    Calls Tryz.prog 120 #[.pointer (some ⟨P, 0, none⟩), .slice oa l.length na, .slice ob r.length nb] w fun e w' => e = .returned (.bool ((l.length == r.length) && (l.zip r).all fun p => altM d p.1 p.2 (nms sa) (nms sb))) ∧ PrRes w w' P ma mb (ca + 2 * (l.map fun x => (x.1.vars.length + costM d x.2)).sum) (cb + 2 * (r.map fun x => (x.1.vars.length + costM d x.2)).sum) sa sb := by
  by_cases hlr : l.length = r.length
  · have e : (l.length == r.length) = true := by rw [hlr]; exact beq_self_eq_true _
    rw [e, Bool.true_and]
    exact pair_alts_eq d ih l r oa ob na nb B P ma mb ca cb sa sb w hl hr hlr hP hma hmb hw h hN hM hca hcb hsa hsb hza hzb hln
  · have e : (l.length == r.length) = false := beq_eq_false_iff_ne.2 hlr
    rw [e, Bool.false_and]
    have HR : Hid (PrRes w w P ma mb (ca + 2 * (l.map fun x => (x.1.vars.length + costM d x.2)).sum) (cb + 2 * (r.map fun x => (x.1.vars.length + costM d x.2)).sum) sa sb) := (PrRes.start h).le (by omega) (by omega)
    generalize l.length = n at *
    generalize r.length = k at *
    have hd : decide ((n : Int) = (k : Int)) = false := decide_eq_false (by omega)
    have hd2 : ((n : Int) == (k : Int)) = false := beq_eq_false_iff_ne.2 (by omega)
    have hd3 : decide (n = k) = false := decide_eq_false hlr
    clear hl hr hP hma hmb hw h hN hM hca hcb hsa hsb hza hzb hln e
    go_enter Tryz.func120, Tryz.ntmps120
    go_wp2
    go_ret
    exact ⟨rfl, HR.out⟩
end Go.Proofs.YtegdloenakachaaGreatDoor
