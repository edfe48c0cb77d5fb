/-
  Two expressions side by side: rows of parts, by contracts.
  Two expressions side by side: alternatives, by contracts.
-/
import Derived.Test.YtegdloenakachaaGreatDoorCN03
import Derived.Test.YtegdloenakachaaGreatDoorCN02
namespace Go.Proofs.YtegdloenakachaaGreatDoor
open Go.RowKit Go.Shelf Go.Maps
set_option linter.unusedVariables false

theorem all_snoc {α : Type} (p : α → Bool) (l : List α) (k : Nat) (h : k < l.length) : (l.take (k + 1)).all p = ((l.take k).all p && p l[k]) := by
  rw [List.take_succ_eq_append_getElem h, List.all_append]
  simp
theorem all_miss {α : Type} (p : α → Bool) (l : List α) (k : Nat) (h : k < l.length) (hp : p l[k] = false) : l.all p = false :=
  List.all_eq_false.2 ⟨l[k], List.getElem_mem _, by rw [hp]; exact Bool.false_ne_true⟩
set_option maxRecDepth 100000 in
set_option maxHeartbeats 2000000 in
theorem pair_binds_c (d : Nat) (ih : PairOK d) (l r : List ((ByteArray × Tr d))) (oa ob : Option Addr) (na nb : Nat) (B P ma mb ca cb : Nat) (sa sb : Sc) (w : World)
    (hl : RowIn B 8 (fun (x : (ByteArray × Tr d)) g off => ExAt w B d x.2 g (off + 1)) oa l) (hr : RowIn B 8 (fun (x : (ByteArray × Tr d)) g off => ExAt w B d x.2 g (off + 1)) ob r) (hlr : l.length = r.length) (hP : B ≤ P) (hma : B ≤ ma) (hmb : B ≤ mb) (hw : B ≤ w.heap.size) (h : PrSt w P ma mb ca cb sa sb) (hN : ∀ x ∈ l, NmOK d x.2) (hM : ∀ x ∈ r, NmOK d x.2)
    (hca : ca + 2 * (l.map fun x => costM d x.2).sum ≤ 2000000) (hcb : cb + 2 * (r.map fun x => costM d x.2).sum ≤ 2000000) (hsa : sa.length + (l.map fun x => costM d x.2).sum ≤ 2000000) (hsb : sb.length + (r.map fun x => costM d x.2).sum ≤ 2000000) (hza : (l.map fun x => sizeM d x.2).sum ≤ 2000000) (hzb : (r.map fun x => sizeM d x.2).sum ≤ 2000000) (hln : l.length ≤ 2000000) :
    Calls Tryz.prog 118 #[.pointer (some ⟨P, 0, none⟩), .slice oa l.length na, .slice ob r.length nb] w fun e w' => e = .returned (.bool ((l.zip r).all fun p => sameM d p.1.2 p.2.2 (nms sa) (nms sb))) ∧ PrRes w w' P ma mb (ca + 2 * (l.map fun x => costM d x.2).sum) (cb + 2 * (r.map fun x => costM d x.2).sum) sa sb := by
  have HA : Hid (∀ k (hk : k < l.length) (hk2 : k < r.length), ∃ ga xa gb xb, oa = some ⟨ga, xa, none⟩ ∧ ga < B ∧ ob = some ⟨gb, xb, none⟩ ∧ gb < B ∧ ∀ (W : World) (ca' cb' : Nat), SkChg P ma mb w W → PrSt W P ma mb ca' cb' sa sb → ca' + 2 * costM d l[k].2 ≤ 2000000 → cb' + 2 * costM d r[k].2 ≤ 2000000 →
      Calls Tryz.prog 76 #[.pointer (some ⟨P, 0, none⟩), .pointer (some ⟨ga, xa + k * 8 + 1, none⟩), .pointer (some ⟨gb, xb + k * 8 + 1, none⟩)] W fun e w' => e = .returned (.bool (sameM d l[k].2 r[k].2 (nms sa) (nms sb))) ∧ PrRes W w' P ma mb (ca' + 2 * costM d l[k].2) (cb' + 2 * costM d r[k].2) sa sb) := by
    intro k hk hk2
    rcases hl with h0 | ⟨ga, xa, ea, hga, hEa⟩
    · subst h0; cases hk
    rcases hr with h0 | ⟨gb, xb, eb, hgb, hEb⟩
    · subst h0; cases hk2
    refine ⟨ga, xa, gb, xb, ea, hga, eb, hgb, fun W ca' cb' hW hG h1 h2 => ?_⟩
    have hb := hW.ex (d := d) hP hma hmb hw
    have q1 := take_le (fun x : (ByteArray × Tr d) => costM d x.2) l (k + 1)
    have q2 := take_sum (fun x : (ByteArray × Tr d) => costM d x.2) l k hk
    have q3 := take_le (fun x : (ByteArray × Tr d) => costM d x.2) r (k + 1)
    have q4 := take_sum (fun x : (ByteArray × Tr d) => costM d x.2) r k hk2
    have q5 := take_le (fun x : (ByteArray × Tr d) => sizeM d x.2) l (k + 1)
    have q6 := take_sum (fun x : (ByteArray × Tr d) => sizeM d x.2) l k hk
    have q7 := take_le (fun x : (ByteArray × Tr d) => sizeM d x.2) r (k + 1)
    have q8 := take_sum (fun x : (ByteArray × Tr d) => sizeM d x.2) r k hk2
    exact ih l[k].2 r[k].2 B ga _ gb _ P ma mb ca' cb' sa sb W (ExAt.same hb d _ _ _ (hEa k hk)) (ExAt.same hb d _ _ _ (hEb k hk2)) hP hma hmb (Nat.le_trans hw hW.size) hG (hN _ (List.getElem_mem _)) (hM _ (List.getElem_mem _)) h1 h2 (by omega) (by omega) (by omega) (by omega)
  have HX : Hid (ca + 2 * (l.map fun x => costM d x.2).sum ≤ 2000000 ∧ cb + 2 * (r.map fun x => costM d x.2).sum ≤ 2000000 ∧ B ≤ w.heap.size) := ⟨hca, hcb, hw⟩
  have HR : Hid (PrRes w w P ma mb ca cb sa sb) := PrRes.start h
  obtain ⟨n, hn⟩ : ∃ n, l.length = n := ⟨_, rfl⟩
  have hn3 : r.length = n := by omega
  have HN : Hid (l.length = n ∧ r.length = n) := ⟨hn, hn3⟩
  have HZ : Hid ((l.zip r).length = n) := by show (l.zip r).length = n; rw [List.length_zip]; omega
  rw [hn, hn3]
  have hn2 : (n : Int) ≤ 2000000 := by rw [← hn]; omega
  obtain ⟨F, hF⟩ : ∃ F : ((ByteArray × Tr d) × (ByteArray × Tr d)) → Bool, F = fun p => sameM d p.1.2 p.2.2 (nms sa) (nms sb) := ⟨_, rfl⟩
  have HFk : Hid (∀ k (hk : k < l.length) (hk2 : k < r.length) (hz : k < (l.zip r).length), F (l.zip r)[k] = sameM d l[k].2 r[k].2 (nms sa) (nms sb)) := fun k hk hk2 hz => by rw [hF, List.getElem_zip]
  rw [← hF]
  obtain ⟨R, hR⟩ : ∃ R, (l.zip r).all F = R := ⟨_, rfl⟩
  have HRr : Hid ((l.zip r).all F = R) := hR
  rw [hR]
  clear hl hr hlr hP hma hmb hw h hN hM hca hcb hsa hsb hza hzb hln hn hn3 ih hF hR
  go_enter Tryz.func118, Tryz.ntmps118
  go_wp2
  go_loopw [10] (fun i wr => ∃ k : Nat, k ≤ n ∧ i = .int .i64 k ∧ Hid (((l.zip r).take k).all F = true) ∧ Hid (PrRes w wr P ma mb (ca + 2 * ((l.take k).map fun x => costM d x.2).sum) (cb + 2 * ((r.take k).map fun x => costM d x.2).sum) sa sb)) (fun i _ => n - (intOf i).toNat)
  case atStart => exact ⟨0, Nat.zero_le _, rfl, by show ((l.zip r).take 0).all F = true; simp, HR.out.le (by simp) (by simp)⟩
  case round =>
    obtain ⟨k, hk, rfl, hT, hL⟩ := hrel
    by_cases hkn : k < n
    · have hkl : k < l.length := by rw [HN.out.1]; exact hkn
      have hkr : k < r.length := by rw [HN.out.2]; exact hkn
      have hkz : k < (l.zip r).length := by rw [HZ.out]; exact hkn
      obtain ⟨ga, xa, gb, xb, rfl, hga, rfl, hgb, hC⟩ := HA.out k hkl hkr
      have hgw : ga < wr.heap.size := by have := HX.out.2.2; have := hL.out.2.size; omega
      have hgw2 : gb < wr.heap.size := by have := HX.out.2.2; have := hL.out.2.size; omega
      have HFin : Hid (∀ w', PrRes w w' P ma mb (ca + 2 * ((l.take (k + 1)).map fun x => costM d x.2).sum) (cb + 2 * ((r.take (k + 1)).map fun x => costM d x.2).sum) sa sb → PrRes w w' P ma mb (ca + 2 * (l.map fun x => costM d x.2).sum) (cb + 2 * (r.map fun x => costM d x.2).sum) sa sb) := fun w' h => by
        have t2 := take_le (fun x : (ByteArray × Tr d) => costM d x.2) l (k + 1)
        have t4 := take_le (fun x : (ByteArray × Tr d) => costM d x.2) r (k + 1)
        exact h.le (by omega) (by omega)
      obtain ⟨Rs, hRs⟩ : ∃ Rs : World → Prop, Rs = fun w' => PrRes w w' P ma mb (ca + 2 * ((l.take (k + 1)).map fun x => costM d x.2).sum) (cb + 2 * ((r.take (k + 1)).map fun x => costM d x.2).sum) sa sb := ⟨_, rfl⟩
      have HRs : Hid (∀ w', Rs w' → PrRes w w' P ma mb (ca + 2 * ((l.take (k + 1)).map fun x => costM d x.2).sum) (cb + 2 * ((r.take (k + 1)).map fun x => costM d x.2).sum) sa sb) := fun w' h => by rw [hRs] at h; exact h
      have HC : Hid (Calls Tryz.prog 76 #[.pointer (some ⟨P, 0, none⟩), .pointer (some ⟨ga, xa + k * 8 + 1, none⟩), .pointer (some ⟨gb, xb + k * 8 + 1, none⟩)] wr.drew fun e w' => e = .returned (.bool (sameM d l[k].2 r[k].2 (nms sa) (nms sb))) ∧ Rs w') := by
        obtain ⟨⟨ca', cb', a1, a2, a3⟩, a4⟩ := hL.out
        have t1 := take_sum (fun x : (ByteArray × Tr d) => costM d x.2) l k hkl
        have t2 := take_le (fun x : (ByteArray × Tr d) => costM d x.2) l (k + 1)
        have t3 := take_sum (fun x : (ByteArray × Tr d) => costM d x.2) r k hkr
        have t4 := take_le (fun x : (ByteArray × Tr d) => costM d x.2) r (k + 1)
        obtain ⟨x1, x2, x3⟩ := HX.out
        refine (hC wr.drew ca' cb' (a4.drewN 1) (a3.drewN 1) (by omega) (by omega)).mono ?_
        rintro e w' ⟨rfl, hr⟩
        refine ⟨rfl, ?_⟩
        rw [hRs]
        exact PrRes.trans (hL.out.drewN 1) (hr.le (by omega) (by omega))
      clear hC HA HX HR hL hRs hk
      cases hb : sameM d l[k].2 r[k].2 (nms sa) (nms sb) with
      | false =>
        rw [hb] at HC
        have HF : Hid (R = false) := by
          have h9 := all_miss F (l.zip r) k hkz (by rw [HFk.out k hkl hkr hkz]; exact hb)
          rw [HRr.out] at h9
          exact h9
        clear hb hT hkl hkr hkz HFk
        go_wp2
        go_region_with ((go_at_call 76; (with_reducible refine HC.out.mono ?_); rintro e w1 ⟨rfl, hk1⟩; have HK1 : Hid (Rs w1) := hk1; clear hk1))
        all_goals
          go_wp2
          go_ret
          exact ⟨by rw [HF.out]; rfl, HFin.out _ (HRs.out _ HK1.out)⟩
      | true =>
        rw [hb] at HC
        have HT2 : Hid (((l.zip r).take (k + 1)).all F = true) := by
          show _ = _
          rw [all_snoc F (l.zip r) k hkz, hT.out, HFk.out k hkl hkr hkz, hb]
          rfl
        clear hb hT hkl hkr hkz HFk
        go_wp2
        go_region_with ((go_at_call 76; (with_reducible refine HC.out.mono ?_); rintro e w1 ⟨rfl, hk1⟩; have HK1 : Hid (Rs w1) := hk1; clear hk1))
        all_goals
          go_wp2
          go_roundw
          case rel => exact ⟨k + 1, hkn, by go_num, HT2, HRs.out _ HK1.out⟩
          case measure => simp [intOf]; omega
    · have HF : Hid (R = true) := by
        have e : (l.zip r).take k = l.zip r := List.take_of_length_le (by rw [HZ.out]; omega)
        have h3 := hT.out
        rw [e, HRr.out] at h3
        exact h3
      have HE : Hid (PrRes w wr P ma mb (ca + 2 * (l.map fun x => costM d x.2).sum) (cb + 2 * (r.map fun x => costM d x.2).sum) sa sb) := by
        have e1 : l.take k = l := List.take_of_length_le (by rw [HN.out.1]; omega)
        have e2 : r.take k = r := List.take_of_length_le (by rw [HN.out.2]; omega)
        have h3 := hL.out
        rw [e1, e2] at h3
        exact h3
      clear hT hL HA HX HR HFk
      go_wp2
      go_ret
      exact ⟨by rw [HF.out]; rfl, HE.out⟩
set_option maxRecDepth 100000 in
set_option maxHeartbeats 2000000 in
theorem pair_exprs_eq (d : Nat) (ih : PairOK d) (l r : List (Tr d)) (oa ob : Option Addr) (na nb : Nat) (B P ma mb ca cb : Nat) (sa sb : Sc) (w : World)
    (hl : RowIn B 7 (fun (x : Tr d) g off => ExAt w B d x g (off)) oa l) (hr : RowIn B 7 (fun (x : Tr d) g off => ExAt w B d x g (off)) ob r) (hlr : l.length = r.length) (hP : B ≤ P) (hma : B ≤ ma) (hmb : B ≤ mb) (hw : B ≤ w.heap.size) (h : PrSt w P ma mb ca cb sa sb) (hN : ∀ x ∈ l, NmOK d x) (hM : ∀ x ∈ r, NmOK d x)
    (hca : ca + 2 * (l.map fun x => costM d x).sum ≤ 2000000) (hcb : cb + 2 * (r.map fun x => costM d x).sum ≤ 2000000) (hsa : sa.length + (l.map fun x => costM d x).sum ≤ 2000000) (hsb : sb.length + (r.map fun x => costM d x).sum ≤ 2000000) (hza : (l.map fun x => sizeM d x).sum ≤ 2000000) (hzb : (r.map fun x => sizeM d x).sum ≤ 2000000) (hln : l.length ≤ 2000000) :
    Calls Tryz.prog 119 #[.pointer (some ⟨P, 0, none⟩), .slice oa l.length na, .slice ob r.length nb] w fun e w' => e = .returned (.bool ((l.zip r).all fun p => sameM d p.1 p.2 (nms sa) (nms sb))) ∧ PrRes w w' P ma mb (ca + 2 * (l.map fun x => costM d x).sum) (cb + 2 * (r.map fun x => costM d x).sum) sa sb := by
  have HA : Hid (∀ k (hk : k < l.length) (hk2 : k < r.length), ∃ ga xa gb xb, oa = some ⟨ga, xa, none⟩ ∧ ga < B ∧ ob = some ⟨gb, xb, none⟩ ∧ gb < B ∧ ∀ (W : World) (ca' cb' : Nat), SkChg P ma mb w W → PrSt W P ma mb ca' cb' sa sb → ca' + 2 * costM d l[k] ≤ 2000000 → cb' + 2 * costM d r[k] ≤ 2000000 →
      Calls Tryz.prog 76 #[.pointer (some ⟨P, 0, none⟩), .pointer (some ⟨ga, xa + k * 7, none⟩), .pointer (some ⟨gb, xb + k * 7, none⟩)] W fun e w' => e = .returned (.bool (sameM d l[k] r[k] (nms sa) (nms sb))) ∧ PrRes W w' P ma mb (ca' + 2 * costM d l[k]) (cb' + 2 * costM d r[k]) sa sb) := by
    intro k hk hk2
    rcases hl with h0 | ⟨ga, xa, ea, hga, hEa⟩
    · subst h0; cases hk
    rcases hr with h0 | ⟨gb, xb, eb, hgb, hEb⟩
    · subst h0; cases hk2
    refine ⟨ga, xa, gb, xb, ea, hga, eb, hgb, fun W ca' cb' hW hG h1 h2 => ?_⟩
    have hb := hW.ex (d := d) hP hma hmb hw
    have q1 := take_le (fun x : Tr d => costM d x) l (k + 1)
    have q2 := take_sum (fun x : Tr d => costM d x) l k hk
    have q3 := take_le (fun x : Tr d => costM d x) r (k + 1)
    have q4 := take_sum (fun x : Tr d => costM d x) r k hk2
    have q5 := take_le (fun x : Tr d => sizeM d x) l (k + 1)
    have q6 := take_sum (fun x : Tr d => sizeM d x) l k hk
    have q7 := take_le (fun x : Tr d => sizeM d x) r (k + 1)
    have q8 := take_sum (fun x : Tr d => sizeM d x) r k hk2
    exact ih l[k] r[k] B ga _ gb _ P ma mb ca' cb' sa sb W (ExAt.same hb d _ _ _ (hEa k hk)) (ExAt.same hb d _ _ _ (hEb k hk2)) hP hma hmb (Nat.le_trans hw hW.size) hG (hN _ (List.getElem_mem _)) (hM _ (List.getElem_mem _)) h1 h2 (by omega) (by omega) (by omega) (by omega)
  have HX : Hid (ca + 2 * (l.map fun x => costM d x).sum ≤ 2000000 ∧ cb + 2 * (r.map fun x => costM d x).sum ≤ 2000000 ∧ B ≤ w.heap.size) := ⟨hca, hcb, hw⟩
  have HR : Hid (PrRes w w P ma mb ca cb sa sb) := PrRes.start h
  obtain ⟨n, hn⟩ : ∃ n, l.length = n := ⟨_, rfl⟩
  have hn3 : r.length = n := by omega
  have HN : Hid (l.length = n ∧ r.length = n) := ⟨hn, hn3⟩
  have HZ : Hid ((l.zip r).length = n) := by show (l.zip r).length = n; rw [List.length_zip]; omega
  rw [hn, hn3]
  have hn2 : (n : Int) ≤ 2000000 := by rw [← hn]; omega
  obtain ⟨F, hF⟩ : ∃ F : (Tr d × Tr d) → Bool, F = fun p => sameM d p.1 p.2 (nms sa) (nms sb) := ⟨_, rfl⟩
  have HFk : Hid (∀ k (hk : k < l.length) (hk2 : k < r.length) (hz : k < (l.zip r).length), F (l.zip r)[k] = sameM d l[k] r[k] (nms sa) (nms sb)) := fun k hk hk2 hz => by rw [hF, List.getElem_zip]
  rw [← hF]
  obtain ⟨R, hR⟩ : ∃ R, (l.zip r).all F = R := ⟨_, rfl⟩
  have HRr : Hid ((l.zip r).all F = R) := hR
  rw [hR]
  clear hl hr hlr hP hma hmb hw h hN hM hca hcb hsa hsb hza hzb hln hn hn3 ih hF hR
  go_enter Tryz.func119, Tryz.ntmps119
  go_wp2
  go_loopw [15] (fun i wr => ∃ k : Nat, k ≤ n ∧ i = .int .i64 k ∧ Hid (((l.zip r).take k).all F = true) ∧ Hid (PrRes w wr P ma mb (ca + 2 * ((l.take k).map fun x => costM d x).sum) (cb + 2 * ((r.take k).map fun x => costM d x).sum) sa sb)) (fun i _ => n - (intOf i).toNat)
  case atStart => exact ⟨0, Nat.zero_le _, rfl, by show ((l.zip r).take 0).all F = true; simp, HR.out.le (by simp) (by simp)⟩
  case round =>
    obtain ⟨k, hk, rfl, hT, hL⟩ := hrel
    by_cases hkn : k < n
    · have hkl : k < l.length := by rw [HN.out.1]; exact hkn
      have hkr : k < r.length := by rw [HN.out.2]; exact hkn
      have hkz : k < (l.zip r).length := by rw [HZ.out]; exact hkn
      obtain ⟨ga, xa, gb, xb, rfl, hga, rfl, hgb, hC⟩ := HA.out k hkl hkr
      have hgw : ga < wr.heap.size := by have := HX.out.2.2; have := hL.out.2.size; omega
      have hgw2 : gb < wr.heap.size := by have := HX.out.2.2; have := hL.out.2.size; omega
      have HFin : Hid (∀ w', PrRes w w' P ma mb (ca + 2 * ((l.take (k + 1)).map fun x => costM d x).sum) (cb + 2 * ((r.take (k + 1)).map fun x => costM d x).sum) sa sb → PrRes w w' P ma mb (ca + 2 * (l.map fun x => costM d x).sum) (cb + 2 * (r.map fun x => costM d x).sum) sa sb) := fun w' h => by
        have t2 := take_le (fun x : Tr d => costM d x) l (k + 1)
        have t4 := take_le (fun x : Tr d => costM d x) r (k + 1)
        exact h.le (by omega) (by omega)
      obtain ⟨Rs, hRs⟩ : ∃ Rs : World → Prop, Rs = fun w' => PrRes w w' P ma mb (ca + 2 * ((l.take (k + 1)).map fun x => costM d x).sum) (cb + 2 * ((r.take (k + 1)).map fun x => costM d x).sum) sa sb := ⟨_, rfl⟩
      have HRs : Hid (∀ w', Rs w' → PrRes w w' P ma mb (ca + 2 * ((l.take (k + 1)).map fun x => costM d x).sum) (cb + 2 * ((r.take (k + 1)).map fun x => costM d x).sum) sa sb) := fun w' h => by rw [hRs] at h; exact h
      have HC : Hid (Calls Tryz.prog 76 #[.pointer (some ⟨P, 0, none⟩), .pointer (some ⟨ga, xa + k * 7, none⟩), .pointer (some ⟨gb, xb + k * 7, none⟩)] wr.drew fun e w' => e = .returned (.bool (sameM d l[k] r[k] (nms sa) (nms sb))) ∧ Rs w') := by
        obtain ⟨⟨ca', cb', a1, a2, a3⟩, a4⟩ := hL.out
        have t1 := take_sum (fun x : Tr d => costM d x) l k hkl
        have t2 := take_le (fun x : Tr d => costM d x) l (k + 1)
        have t3 := take_sum (fun x : Tr d => costM d x) r k hkr
        have t4 := take_le (fun x : Tr d => costM d x) r (k + 1)
        obtain ⟨x1, x2, x3⟩ := HX.out
        refine (hC wr.drew ca' cb' (a4.drewN 1) (a3.drewN 1) (by omega) (by omega)).mono ?_
        rintro e w' ⟨rfl, hr⟩
        refine ⟨rfl, ?_⟩
        rw [hRs]
        exact PrRes.trans (hL.out.drewN 1) (hr.le (by omega) (by omega))
      clear hC HA HX HR hL hRs hk
      cases hb : sameM d l[k] r[k] (nms sa) (nms sb) with
      | false =>
        rw [hb] at HC
        have HF : Hid (R = false) := by
          have h9 := all_miss F (l.zip r) k hkz (by rw [HFk.out k hkl hkr hkz]; exact hb)
          rw [HRr.out] at h9
          exact h9
        clear hb hT hkl hkr hkz HFk
        go_wp2
        go_region_with ((go_at_call 76; (with_reducible refine HC.out.mono ?_); rintro e w1 ⟨rfl, hk1⟩; have HK1 : Hid (Rs w1) := hk1; clear hk1))
        all_goals
          go_wp2
          go_ret
          exact ⟨by rw [HF.out]; rfl, HFin.out _ (HRs.out _ HK1.out)⟩
      | true =>
        rw [hb] at HC
        have HT2 : Hid (((l.zip r).take (k + 1)).all F = true) := by
          show _ = _
          rw [all_snoc F (l.zip r) k hkz, hT.out, HFk.out k hkl hkr hkz, hb]
          rfl
        clear hb hT hkl hkr hkz HFk
        go_wp2
        go_region_with ((go_at_call 76; (with_reducible refine HC.out.mono ?_); rintro e w1 ⟨rfl, hk1⟩; have HK1 : Hid (Rs w1) := hk1; clear hk1))
        all_goals
          go_wp2
          go_roundw
          case rel => exact ⟨k + 1, hkn, by go_num, HT2, HRs.out _ HK1.out⟩
          case measure => simp [intOf]; omega
    · have HF : Hid (R = true) := by
        have e : (l.zip r).take k = l.zip r := List.take_of_length_le (by rw [HZ.out]; omega)
        have h3 := hT.out
        rw [e, HRr.out] at h3
        exact h3
      have HE : Hid (PrRes w wr P ma mb (ca + 2 * (l.map fun x => costM d x).sum) (cb + 2 * (r.map fun x => costM d x).sum) sa sb) := by
        have e1 : l.take k = l := List.take_of_length_le (by rw [HN.out.1]; omega)
        have e2 : r.take k = r := List.take_of_length_le (by rw [HN.out.2]; omega)
        have h3 := hL.out
        rw [e1, e2] at h3
        exact h3
      clear hT hL HA HX HR HFk
      go_wp2
      go_ret
      exact ⟨by rw [HF.out]; rfl, HE.out⟩
end Go.Proofs.YtegdloenakachaaGreatDoor

namespace Go.Proofs.YtegdloenakachaaGreatDoor
open Go.RowKit Go.Shelf Go.Maps
set_option linter.unusedVariables false

set_option maxRecDepth 100000 in
set_option maxHeartbeats 2000000 in
theorem pair_exprs_c (d : Nat) (ih : PairOK d) (l r : List (Tr d)) (oa ob : Option Addr) (na nb : Nat) (B P ma mb ca cb : Nat) (sa sb : Sc) (w : World)
    (hl : RowIn B 7 (fun (x : Tr d) g off => ExAt w B d x g off) oa l) (hr : RowIn B 7 (fun (x : Tr d) g off => ExAt w B d x g off) ob r) (hP : B ≤ P) (hma : B ≤ ma) (hmb : B ≤ mb) (hw : B ≤ w.heap.size) (h : PrSt w P ma mb ca cb sa sb) (hN : ∀ x ∈ l, NmOK d x) (hM : ∀ x ∈ r, NmOK d x)
    (hca : ca + 2 * (l.map fun x => costM d x).sum ≤ 2000000) (hcb : cb + 2 * (r.map fun x => costM d x).sum ≤ 2000000) (hsa : sa.length + (l.map fun x => costM d x).sum ≤ 2000000) (hsb : sb.length + (r.map fun x => costM d x).sum ≤ 2000000) (hza : (l.map fun x => sizeM d x).sum ≤ 2000000) (hzb : (r.map fun x => sizeM d x).sum ≤ 2000000) (hln : l.length ≤ 2000000) :
    Calls Tryz.prog 119 #[.pointer (some ⟨P, 0, none⟩), .slice oa l.length na, .slice ob r.length nb] w fun e w' => e = .returned (.bool ((l.length == r.length) && (l.zip r).all fun p => sameM d p.1 p.2 (nms sa) (nms sb))) ∧ PrRes w w' P ma mb (ca + 2 * (l.map fun x => costM d x).sum) (cb + 2 * (r.map fun x => costM d x).sum) sa sb := by
  by_cases hlr : l.length = r.length
  · have e : (l.length == r.length) = true := by rw [hlr]; exact beq_self_eq_true _
    rw [e, Bool.true_and]
    exact pair_exprs_eq d ih l r oa ob na nb B P ma mb ca cb sa sb w hl hr hlr hP hma hmb hw h hN hM hca hcb hsa hsb hza hzb hln
  · have e : (l.length == r.length) = false := beq_eq_false_iff_ne.2 hlr
    rw [e, Bool.false_and]
    have HR : Hid (PrRes w w P ma mb (ca + 2 * (l.map fun x => costM d x).sum) (cb + 2 * (r.map fun x => costM d x).sum) sa sb) := (PrRes.start h).le (by omega) (by omega)
    generalize l.length = n at *
    generalize r.length = k at *
    have hd : decide ((n : Int) = (k : Int)) = false := decide_eq_false (by omega)
    have hd2 : ((n : Int) == (k : Int)) = false := beq_eq_false_iff_ne.2 (by omega)
    have hd3 : decide (n = k) = false := decide_eq_false hlr
    clear hl hr hP hma hmb hw h hN hM hca hcb hsa hsb hza hzb hln e
    go_enter Tryz.func119, Tryz.ntmps119
    go_wp2
    go_ret
    exact ⟨rfl, HR.out⟩
theorem AltAt.same {W W' : World} {B d : Nat} (hb : ∀ g off, g < B → W'.cell? ⟨g, off, none⟩ = W.cell? ⟨g, off, none⟩) {a : AltH × Tr d} {g off : Nat} (h : AltAt W B d a g off) : AltAt W' B d a g off := by
  obtain ⟨e1, e2, e3, ⟨o, c, e4, e5⟩, e6⟩ := h
  have hg := e6.lt
  exact ⟨(hb _ _ hg).trans e1, (hb _ _ hg).trans e2, (hb _ _ hg).trans e3, ⟨o, c, (hb _ _ hg).trans e4, e5.same hb⟩, ExAt.same hb d _ _ _ e6⟩
/-- What is left to do of two alternatives: the second's names are left. -/
def PaE (P : Nat) (tb : Value) (R : World → Prop) (w4 : World) : Prop := P < w4.heap.size ∧ Calls Tryz.prog 69 #[.pointer (some ⟨P, 2, none⟩), tb] w4 fun e w5 => e = .returned (.tuple #[]) ∧ R w5
/-- .. the first's names are left. -/
def PaD (P : Nat) (ta tb : Value) (R : World → Prop) (w3 : World) : Prop := P < w3.heap.size ∧ Calls Tryz.prog 69 #[.pointer (some ⟨P, 0, none⟩), ta] w3 fun e w4 => e = .returned (.tuple #[]) ∧ PaE P tb R w4
/-- .. their expressions are held side by side. -/
def PaC (P ga xa gb xb : Nat) (v : Bool) (ta tb : Value) (R : World → Prop) (w2 : World) : Prop := (P < w2.heap.size ∧ ga < w2.heap.size ∧ gb < w2.heap.size) ∧ ∀ n, Calls Tryz.prog 76 #[.pointer (some ⟨P, 0, none⟩), .pointer (some ⟨ga, xa, none⟩), .pointer (some ⟨gb, xb, none⟩)] (w2.drewN n) fun e w3 => e = .returned (.bool v) ∧ PaD P ta tb R w3
/-- .. the second's names are bound. -/
def PaB (P ga xa gb xb : Nat) (sl : Value) (v : Bool) (ta tb : Value) (R : World → Prop) (w1 : World) : Prop := (P < w1.heap.size ∧ ga < w1.heap.size ∧ gb < w1.heap.size) ∧ w1.cell? ⟨gb, xb + 3, none⟩ = some sl ∧ ∀ n, Calls Tryz.prog 86 #[.pointer (some ⟨P, 2, none⟩), sl] (w1.drewN n) fun e w2 => e = .returned (.tuple #[]) ∧ PaC P ga (xa + 4) gb (xb + 4) v ta tb R w2
theorem grown_mem {ext : Sc} {l : List ByteArray} (he : ext.map Prod.fst = l.reverse) (hl : ∀ x ∈ l, x.size ≤ maxLen) : ∀ p ∈ ext, p.1.size ≤ maxLen := fun p hp => hl p.1 (by
  have : p.1 ∈ ext.map Prod.fst := List.mem_map.2 ⟨p, hp, rfl⟩
  rw [he] at this
  exact List.mem_reverse.1 this)
theorem pair_alt_chain (d : Nat) (ih : PairOK d) (a b : AltH × Tr d) (B ga xa gb xb P ma mb ca cb : Nat) (sa sb : Sc) (w : World) (ha : AltAt w B d a ga xa) (hb : AltAt w B d b gb xb) (hP : B ≤ P) (hma : B ≤ ma) (hmb : B ≤ mb) (hw : B ≤ w.heap.size) (h : PrSt w P ma mb ca cb sa sb)
    (hN : (∀ x ∈ a.1.vars, x.size ≤ maxLen) ∧ NmOK d a.2) (hM : (∀ x ∈ b.1.vars, x.size ≤ maxLen) ∧ NmOK d b.2) (hca : ca + 2 * (a.1.vars.length + costM d a.2) ≤ 2000000) (hcb : cb + 2 * (b.1.vars.length + costM d b.2) ≤ 2000000) (hsa : sa.length + (a.1.vars.length + costM d a.2) ≤ 2000000) (hsb : sb.length + (b.1.vars.length + costM d b.2) ≤ 2000000) (hza : sizeM d a.2 ≤ 2000000) (hzb : sizeM d b.2 ≤ 2000000) :
    ∃ o1 c1 o2 c2, w.cell? ⟨ga, xa + 3, none⟩ = some (.slice o1 a.1.vars.length c1) ∧ w.cell? ⟨gb, xb + 3, none⟩ = some (.slice o2 b.1.vars.length c2) ∧ ∀ n, Calls Tryz.prog 86 #[.pointer (some ⟨P, 0, none⟩), .slice o1 a.1.vars.length c1] (w.drewN n) fun e w1 => e = .returned (.tuple #[]) ∧
      PaB P ga xa gb xb (.slice o2 b.1.vars.length c2) (sameM d a.2 b.2 (dl a.1.vars.reverse ++ nms sa) (dl b.1.vars.reverse ++ nms sb)) (top sa) (top sb) (fun w5 => PrRes w w5 P ma mb (ca + 2 * (a.1.vars.length + costM d a.2)) (cb + 2 * (b.1.vars.length + costM d b.2)) sa sb) w1 := by
  obtain ⟨-, -, -, ⟨o1, c1, h3a, k3a⟩, hEa⟩ := ha
  obtain ⟨-, -, -, ⟨o2, c2, h3b, k3b⟩, hEb⟩ := hb
  have hga := hEa.lt
  have hgb := hEb.lt
  refine ⟨o1, c1, o2, c2, h3a, h3b, fun n => ?_⟩
  have p0 := h.drewN n
  refine (bindAll_c a.1.vars hN.1 o1 c1 B P 0 ma ca sa (w.drewN n) (k3a.same (fun _ _ _ => rfl)) hP hma hw p0.a (by omega) (by omega)).mono ?_
  rintro e w1 ⟨rfl, xa1, he1, hs1, hc1⟩
  have g1 : SkChg P ma mb w w1 := ((SkChg.refl P ma mb w).drewN n).trans (SkChg.ofSc hc1)
  have p1 := p0.stepA hs1 hc1
  have z1 := g1.size
  have b1 := g1.ex (d := d) hP hma hmb hw
  have l1 : xa1.length = a.1.vars.length := by have := congrArg List.length he1; simpa using this
  refine ⟨rfl, ⟨p1.a.lt, by omega, by omega⟩, (b1 _ _ hgb).trans h3b, fun n1 => ?_⟩
  have p1n := p1.drewN n1
  refine (bindAll_c b.1.vars hM.1 o2 c2 B P 2 mb cb sb (w1.drewN n1) ((k3b.same b1).same (fun _ _ _ => rfl)) hP hmb (Nat.le_trans hw z1) p1n.b (by omega) (by omega)).mono ?_
  rintro e w2 ⟨rfl, xb1, he2, hs2, hc2⟩
  have g2 : SkChg P ma mb w w2 := (g1.drewN n1).trans (SkChg.ofSc2 hc2)
  have p2 := p1n.stepB hs2 hc2
  have z2 := g2.size
  have b2 := g2.ex (d := d) hP hma hmb hw
  have l2 : xb1.length = b.1.vars.length := by have := congrArg List.length he2; simpa using this
  refine ⟨rfl, ⟨p2.a.lt, by omega, by omega⟩, fun n2 => ?_⟩
  have p2n := p2.drewN n2
  have hcall := ih a.2 b.2 B ga (xa + 4) gb (xb + 4) P ma mb _ _ _ _ (w2.drewN n2) (ExAt.same (W' := w2.drewN n2) (fun g o hg => b2 g o hg) d _ _ _ hEa) (ExAt.same (W' := w2.drewN n2) (fun g o hg => b2 g o hg) d _ _ _ hEb) hP hma hmb (Nat.le_trans hw z2) p2n hN.2 hM.2 (by omega) (by omega) (by rw [List.length_append]; omega) (by rw [List.length_append]; omega) hza hzb
  rw [nms_grown he1, nms_grown he2] at hcall
  refine hcall.mono ?_
  rintro e w3 ⟨rfl, ⟨ca3, cb3, q1, q2, p3⟩, g3⟩
  refine ⟨rfl, p3.a.lt, ?_⟩
  refine (leave_c xa1 sa (grown_mem he1 hN.1) P 0 ma ca3 w3 p3.a (by omega)).mono ?_
  rintro e w4 ⟨rfl, hs4, hc4⟩
  have p4 := p3.stepA hs4 hc4
  refine ⟨rfl, p4.a.lt, ?_⟩
  refine (leave_c xb1 sb (grown_mem he2 hM.1) P 2 mb cb3 w4 p4.b (by omega)).mono ?_
  rintro e w5 ⟨rfl, hs5, hc5⟩
  have p5 := p4.stepB hs5 hc5
  exact ⟨rfl, ⟨_, _, by omega, by omega, p5⟩, (((g2.drewN n2).trans g3).trans (SkChg.ofSc hc4)).trans (SkChg.ofSc2 hc5)⟩
end Go.Proofs.YtegdloenakachaaGreatDoor
