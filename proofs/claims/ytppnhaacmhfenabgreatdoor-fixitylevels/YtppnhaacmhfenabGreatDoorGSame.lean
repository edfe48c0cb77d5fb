/-
  Are two trees the same but for places: by a contract.
  Is a tree no deeper than told (package fixity): by a contract.
-/
import Derived.Test.YtppnhaacmhfenabGreatDoorGLexi
import Derived.BigQuiet
namespace Go.Proofs.YtppnhaacmhfenabGreatDoor
open Go.RowKit Go.Shelf Go.Maps
set_option linter.unusedVariables false

theorem bsList (l : List UInt8) : (bs l).toList = l := by rw [ByteArray.toList_eq]; rfl

def all2 (f : Nd → Nd → Bool) : List Nd → List Nd → Bool
  | a :: l, b :: m => if f a b = true then all2 f l m else false
  | _, _ => true
/-- Are trees the same, places aside, no deeper than told. -/
def sameM : Nat → Nd → Nd → Bool
  | 0, _, _ => false
  | d + 1, a, b => if a.kind = b.kind ∧ a.name = b.name ∧ a.num = b.num ∧ a.kids.length = b.kids.length then all2 (sameM d) a.kids b.kids else false
theorem drew2 (w : World) (n m : Nat) : (w.drewN n).drewN m = w.drewN (n + m) := by simp
theorem below_drewN (n : Nat) (w : World) (m : Nat) : Below n w (w.drewN m) := ⟨rfl, rfl, rfl, Nat.le_refl _, fun _ _ => rfl⟩

set_option maxRecDepth 100000 in
set_option maxHeartbeats 4000000 in
theorem same_c : ∀ (d : Nat) (a b : Nd) (g off g' off' B : Nat) (w : World), NdAt w B a g off → NdAt w B b g' off' → g < B → g' < B → B ≤ w.heap.size → d ≤ 1000 →
    Calls Tryz.prog 24 #[.pointer (some ⟨g, off, none⟩), .pointer (some ⟨g', off', none⟩), .int .i64 (d : Int)] w fun e w' => e = .returned (.bool (sameM d a b)) ∧ ∃ m, w' = w.drewN m := by
  intro d
  induction d with
  | zero =>
    intro a b g off g' off' B w ha hb hg hg' hB hd
    have HR : Hid (sameM 0 a b = false) := rfl
    have hdep : Tryz.prog.follows Departure.mixedOrders = true := by kernel_rfl
    clear ha hb hg hg' hB hd
    go_enter Tryz.func24, Tryz.ntmps24
    go_wp2_with fail
    go_big_quiet (fail)
    go_wp2
    go_ret
    exact ⟨by rw [HR.out]; rfl, _, rfl⟩
  | succ d ih =>
    intro a b g off g' off' B w ha hb hg hg' hB hd
    have hdep : Tryz.prog.follows Departure.mixedOrders = true := by kernel_rfl
    have HI : Hid (∀ (a b : Nd) (g off g' off' : Nat) (n : Nat), NdAt w B a g off → NdAt w B b g' off' → g < B → g' < B → Calls Tryz.prog 24 #[.pointer (some ⟨g, off, none⟩), .pointer (some ⟨g', off', none⟩), .int .i64 (d : Int)] (w.drewN n) fun e w' => e = .returned (.bool (sameM d a b)) ∧ ∃ m, w' = (w.drewN n).drewN m) := fun a b g off g' off' n h1 h2 h3 h4 => ih a b g off g' off' B (w.drewN n) (h1.below (below_drewN _ _ _) _ _ _ h3) (h2.below (below_drewN _ _ _) _ _ _ h4) h3 h4 hB (by omega)
    have HD0 : Hid (sameM (d + 1) a b = if a.kind = b.kind ∧ a.name = b.name ∧ a.num = b.num ∧ a.kids.length = b.kids.length then all2 (sameM d) a.kids b.kids else false) := rfl
    obtain ⟨D, hD⟩ : ∃ D, D = d + 1 := ⟨_, rfl⟩
    rw [← hD] at HD0 ⊢
    have e1 : ((D : Int) == 0) = false := beq_eq_false_iff_ne.2 (by omega)
    have e3 : (D : Int) - 1 = (d : Int) := by omega
    have hDi : (D : Int) ≤ 1000 := by omega
    obtain ⟨o, cap, k0, k1, k2, k3, k4, hc, hc2, hk⟩ := ha.cells
    obtain ⟨o', cap', j0, j1, j2, j3, j4, hc', hc2', hj⟩ := hb.cells
    have HK : Hid (KIn w B o a.kids) := hk
    have HJ : Hid (KIn w B o' b.kids) := hj
    have hgw : g < w.heap.size := by omega
    have hgw' : g' < w.heap.size := by omega
    have HDd : Hid (D = d + 1) := hD
    clear ih ha hb hg hg' hB hd hk hj hD k4 j4
    by_cases q1 : a.kind = b.kind
    case neg =>
      have HR : Hid (sameM D a b = false) := by show _ = _; rw [HD0.out, if_neg (fun h => q1 h.1)]
      have t1 : (a.kind != b.kind) = true := bne_iff_ne.2 q1
      clear HI HD0 HK HJ hc hc2 hc' hc2' q1
      generalize a.kind = ak at *
      generalize b.kind = bk at *
      go_enter Tryz.func24, Tryz.ntmps24
      go_wp2_with fail
      go_big_quiet (fail)
      go_wp2
      go_ret
      exact ⟨by rw [HR.out]; rfl, _, rfl⟩
    have t1 : (b.kind != b.kind) = false := by simp
    rw [q1] at k0
    by_cases q2 : a.name = b.name
    case neg =>
      have HR : Hid (sameM D a b = false) := by show _ = _; rw [HD0.out, if_neg (fun h => q2 h.2.1)]
      have t2 : ((bs a.name).toList == (bs b.name).toList) = false := beq_eq_false_iff_ne.2 (fun h => q2 (by rw [bsList, bsList] at h; exact h))
      clear HI HD0 HK HJ hc hc2 hc' hc2' q1 q2
      generalize b.kind = bk at *
      generalize bs a.name = an at *
      generalize bs b.name = bn at *
      go_enter Tryz.func24, Tryz.ntmps24
      go_wp2_with fail
      go_big_quiet (fail)
      go_wp2
      go_ret
      exact ⟨by rw [HR.out]; rfl, _, rfl⟩
    rw [q2] at k1
    by_cases q3 : a.num = b.num
    case neg =>
      have HR : Hid (sameM D a b = false) := by show _ = _; rw [HD0.out, if_neg (fun h => q3 h.2.2.1)]
      have t3 : (a.num != b.num) = true := bne_iff_ne.2 q3
      have t2 : ((bs b.name).toList != (bs b.name).toList) = false := by simp
      clear HI HD0 HK HJ hc hc2 hc' hc2' q1 q2 q3
      generalize b.kind = bk at *
      generalize bs b.name = bn at *
      generalize a.num = au at *
      generalize b.num = bu at *
      go_enter Tryz.func24, Tryz.ntmps24
      go_wp2_with fail
      go_big_quiet (fail)
      go_wp2
      go_ret
      exact ⟨by rw [HR.out]; rfl, _, rfl⟩
    rw [q3] at k2
    by_cases q4 : a.kids.length = b.kids.length
    case neg =>
      have HR : Hid (sameM D a b = false) := by show _ = _; rw [HD0.out, if_neg (fun h => q4 h.2.2.2)]
      have t4 : ((a.kids.length : Int) != (b.kids.length : Int)) = true := bne_iff_ne.2 (by omega)
      have t2 : ((bs b.name).toList != (bs b.name).toList) = false := by simp
      have t3 : (b.num != b.num) = false := by simp
      have hli : (a.kids.length : Int) ≤ 9223372036854775807 := by omega
      have hlj : (b.kids.length : Int) ≤ 9223372036854775807 := by omega
      clear HI HD0 HK HJ hc hc2 hc' hc2' q1 q2 q3 q4
      generalize b.kind = bk at *
      generalize bs b.name = bn at *
      generalize b.num = bu at *
      generalize a.kids.length = al at *
      generalize b.kids.length = bl at *
      go_enter Tryz.func24, Tryz.ntmps24
      go_wp2_with fail
      go_big_quiet (fail)
      go_wp2
      go_ret
      exact ⟨by rw [HR.out]; rfl, _, rfl⟩
    have HR : Hid (sameM D a b = all2 (sameM d) a.kids b.kids) := by show _ = _; rw [HD0.out, if_pos ⟨q1, q2, q3, q4⟩]
    have t2 : ((bs b.name).toList == (bs b.name).toList) = true := by simp
    have t3 : (b.num != b.num) = false := by simp
    rw [q4] at k3
    obtain ⟨L, hL⟩ : ∃ L, b.kids.length = L := ⟨_, rfl⟩
    have HLb : Hid (b.kids.length = L) := hL
    have HLa : Hid (a.kids.length = L) := q4.trans hL
    rw [hL] at k3 j3
    have t4 : ((L : Int) != (L : Int)) = false := by simp
    have hLi : (L : Int) ≤ 9223372036854775807 := by omega
    have HC3 : Hid (∀ n, (w.drewN n).cell? ⟨g, off + 3, none⟩ = some (.slice o L cap) ∧ (w.drewN n).cell? ⟨g', off' + 3, none⟩ = some (.slice o' L cap')) := fun n => ⟨k3, j3⟩
    clear HD0 hc hc2 hc' hc2' q1 q2 q3 q4 hL
    generalize b.kind = bk at *
    generalize bs b.name = bn at *
    generalize b.num = bu at *
    go_enter Tryz.func24, Tryz.ntmps24
    go_wp2_with fail
    go_big_quiet (fail)
    go_wp2
    go_loopw [61] (fun i wr => ∃ (k n : Nat), k ≤ L ∧ i = .int .i64 k ∧ Hid (wr = w.drewN n) ∧ Hid (all2 (sameM d) a.kids b.kids = all2 (sameM d) (a.kids.drop k) (b.kids.drop k))) (fun i _ => L - (intOf i).toNat)
    case atStart => exact ⟨0, _, Nat.zero_le _, rfl, (rfl : _ = _), rfl⟩
    case round =>
      obtain ⟨k, n, hk, rfl, hW, hEq⟩ := hrel
      by_cases hlt : k < L
      · have hka : k < a.kids.length := by rw [HLa.out]; exact hlt
        have hkb : k < b.kids.length := by rw [HLb.out]; exact hlt
        have hki : (k : Int) < (L : Int) := by omega
        obtain ⟨g2, off2, rfl, hg2, hKA⟩ := HK.out.at k hka
        obtain ⟨g3, off3, rfl, hg3, hKB⟩ := HJ.out.at k hkb
        have c1 : wr.cell? ⟨g, off + 3, none⟩ = some (.slice (some ⟨g2, off2, none⟩) L cap) := by rw [hW.out]; exact (HC3.out n).1
        have c2 : wr.cell? ⟨g', off' + 3, none⟩ = some (.slice (some ⟨g3, off3, none⟩) L cap') := by rw [hW.out]; exact (HC3.out n).2
        have HC : Hid (∀ m, Calls Tryz.prog 24 #[.pointer (some ⟨g2, off2 + k * 5, none⟩), .pointer (some ⟨g3, off3 + k * 5, none⟩), .int .i64 (d : Int)] (wr.drewN m) fun e w' => e = .returned (.bool (sameM d a.kids[k] b.kids[k])) ∧ ∃ m', w' = (wr.drewN m).drewN m') := fun m => by rw [hW.out, drew2]; exact HI.out a.kids[k] b.kids[k] g2 (off2 + k * 5) g3 (off3 + k * 5) (n + m) (hKA.get a.kids g2 off2 k hka) (hKB.get b.kids g3 off3 k hkb) hg2 hg3
        have HD : Hid (all2 (sameM d) (a.kids.drop k) (b.kids.drop k) = if sameM d a.kids[k] b.kids[k] = true then all2 (sameM d) (a.kids.drop (k + 1)) (b.kids.drop (k + 1)) else false) := by
          show _ = _
          rw [List.drop_eq_getElem_cons hka, List.drop_eq_getElem_cons hkb]; rfl
        obtain ⟨r, hr⟩ : ∃ r, sameM d a.kids[k] b.kids[k] = r := ⟨_, rfl⟩
        rw [hr] at HC HD
        have hgr : g < wr.heap.size := by rw [hW.out]; exact hgw
        have hgr' : g' < wr.heap.size := by rw [hW.out]; exact hgw'
        clear hKA hKB hka hkb hr hg2 hg3 HK HJ HI k0 k1 k2 k3 j0 j1 j2 j3 hgw hgw'
        cases r with
        | true =>
          rw [if_pos rfl] at HD
          go_wp2_with fail
          go_big_quiet ((go_at_call 24; exact Calls.quiet_of (HC.out _)))
          go_wp2
          go_roundw
          case rel => exact ⟨k + 1, _, by omega, by go_num, (by show _ = _; rw [hW.out, drew2]), (hEq.out.trans HD.out : all2 (sameM d) a.kids b.kids = all2 (sameM d) (a.kids.drop (k + 1)) (b.kids.drop (k + 1)))⟩
          case measure => simp [intOf]; omega
        | false =>
          rw [if_neg (by simp)] at HD
          go_wp2_with fail
          go_big_quiet ((go_at_call 24; exact Calls.quiet_of (HC.out _)))
          go_wp2
          go_ret
          exact ⟨by rw [HR.out, hEq.out, HD.out]; rfl, _, by rw [hW.out, drew2]⟩
      · obtain rfl : k = L := by omega
        have HD : Hid (all2 (sameM d) (a.kids.drop k) (b.kids.drop k) = true) := by
          show _ = _
          rw [List.drop_eq_nil_of_le (by rw [HLa.out]; exact Nat.le_refl _)]; rfl
        go_wp2
        go_ret
        exact ⟨by rw [HR.out, hEq.out, HD.out]; rfl, n, hW.out⟩
end Go.Proofs.YtppnhaacmhfenabGreatDoor

namespace Go.Proofs.YtppnhaacmhfenabGreatDoor
open Go.RowKit Go.Shelf Go.Maps
set_option linter.unusedVariables false

def allK (f : Nd → Bool) : List Nd → Bool
  | [] => true
  | n :: l => if f n = true then allK f l else false
/-- Is a tree no deeper than told. -/
def nst : Nat → Nd → Bool
  | 0, _ => false
  | d + 1, n => allK (nst d) n.kids

set_option maxRecDepth 100000 in
set_option maxHeartbeats 4000000 in
theorem nests_c : ∀ (d : Nat) (a : Nd) (g off B : Nat) (w : World), NdAt w B a g off → g < B → B ≤ w.heap.size → d ≤ 1000 →
    Calls Tryz.prog 23 #[.pointer (some ⟨g, off, none⟩), .int .i64 (d : Int)] w fun e w' => e = .returned (.bool (nst d a)) ∧ w' = w := by
  intro d
  induction d with
  | zero =>
    intro a g off B w ha hg hB hd
    have HR : Hid (nst 0 a = false) := rfl
    clear ha hg hB hd
    go_enter Tryz.func23, Tryz.ntmps23
    go_wp2
    go_ret
    exact ⟨by rw [HR.out]; rfl, rfl⟩
  | succ d ih =>
    intro a g off B w ha hg hB hd
    have HI : Hid (∀ (a : Nd) (g off : Nat), NdAt w B a g off → g < B → Calls Tryz.prog 23 #[.pointer (some ⟨g, off, none⟩), .int .i64 (d : Int)] w fun e w' => e = .returned (.bool (nst d a)) ∧ w' = w) := fun a g off h1 h3 => ih a g off B w h1 h3 hB (by omega)
    have HR : Hid (nst (d + 1) a = allK (nst d) a.kids) := rfl
    obtain ⟨D, hD⟩ : ∃ D, D = d + 1 := ⟨_, rfl⟩
    rw [← hD] at HR ⊢
    have e1 : ((D : Int) == 0) = false := beq_eq_false_iff_ne.2 (by omega)
    have e3 : (D : Int) - 1 = (d : Int) := by omega
    have hDi : (D : Int) ≤ 1000 := by omega
    obtain ⟨o, cap, k0, k1, k2, k3, k4, hc, hc2, hk⟩ := ha.cells
    have HK : Hid (KIn w B o a.kids) := hk
    have hgw : g < w.heap.size := by omega
    obtain ⟨L, hL⟩ : ∃ L, a.kids.length = L := ⟨_, rfl⟩
    have HLa : Hid (a.kids.length = L) := hL
    rw [hL] at k3
    have hLi : (L : Int) ≤ 9223372036854775807 := by omega
    clear ih ha hg hB hd hk hD k4 k0 k1 k2 hc hc2 hL
    go_enter Tryz.func23, Tryz.ntmps23
    go_wp2
    go_loopw [13] (fun i wr => ∃ (k : Nat), k ≤ L ∧ i = .int .i64 k ∧ Hid (wr = w) ∧ Hid (allK (nst d) a.kids = allK (nst d) (a.kids.drop k))) (fun i _ => L - (intOf i).toNat)
    case atStart => exact ⟨0, Nat.zero_le _, rfl, (rfl : _ = _), rfl⟩
    case round =>
      obtain ⟨k, hk, rfl, hW, hEq⟩ := hrel
      have hWr := hW.out
      subst hWr
      by_cases hlt : k < L
      · have hka : k < a.kids.length := by rw [HLa.out]; exact hlt
        have hki : (k : Int) < (L : Int) := by omega
        obtain ⟨g2, off2, rfl, hg2, hKA⟩ := HK.out.at k hka
        have HC : Hid (Calls Tryz.prog 23 #[.pointer (some ⟨g2, off2 + k * 5, none⟩), .int .i64 (d : Int)] wr fun e w' => e = .returned (.bool (nst d a.kids[k])) ∧ w' = wr) := HI.out a.kids[k] g2 (off2 + k * 5) (hKA.get a.kids g2 off2 k hka) hg2
        have HD : Hid (allK (nst d) (a.kids.drop k) = if nst d a.kids[k] = true then allK (nst d) (a.kids.drop (k + 1)) else false) := by
          show _ = _
          rw [List.drop_eq_getElem_cons hka]; rfl
        obtain ⟨r, hr⟩ : ∃ r, nst d a.kids[k] = r := ⟨_, rfl⟩
        rw [hr] at HC HD
        clear hKA hka hr hg2 hW HK HI
        cases r with
        | true =>
          rw [if_pos rfl] at HD
          go_wp2_with (go_at_call 23; refine HC.out.mono ?_; rintro e w1 ⟨rfl, rfl⟩)
          go_roundw
          case rel => exact ⟨k + 1, by omega, by go_num, True.intro, (hEq.out.trans HD.out : allK (nst d) a.kids = allK (nst d) (a.kids.drop (k + 1)))⟩
          case measure => simp [intOf]; omega
        | false =>
          rw [if_neg (by simp)] at HD
          go_wp2_with (go_at_call 23; refine HC.out.mono ?_; rintro e w1 ⟨rfl, rfl⟩)
          go_ret
          exact ⟨by rw [HR.out, hEq.out, HD.out]; rfl, rfl⟩
      · obtain rfl : k = L := by omega
        have HD : Hid (allK (nst d) (a.kids.drop k) = true) := by
          show _ = _
          rw [List.drop_eq_nil_of_le (by rw [HLa.out]; exact Nat.le_refl _)]; rfl
        go_wp2
        go_ret
        exact ⟨by rw [HR.out, hEq.out, HD.out]; rfl, rfl⟩
end Go.Proofs.YtppnhaacmhfenabGreatDoor
