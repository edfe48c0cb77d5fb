/-
  Are two trees the same but for places: by a contract.
  tooDeep, Strip, Same, parenless.
  Strip, of a tree that becomes one.
  Stripping, as mathematics.
  The kit's SmallNode: how many nodes there are.
  gather: the names of a tree's variables, put into a set.
  Sorting nothing; rows of texts compared.
-/
import Derived.Test.YtndpebkiiemfpaaGreatDoorHolds
import Derived.BigQuiet
import Derived.Test.YtndpebkiiemfpaaGreatDoorJAv
import Derived.Deep.LoopGhost
import Derived.Test.YtndpebkiiemfpaaGreatDoorLexi
namespace Go.Proofs.YtndpebkiiemfpaaGreatDoor
open Go.RowKit Go.Shelf Go.Maps
set_option linter.unusedVariables false

theorem bsList (l : List UInt8) : (bs l).toList = l := by rw [ByteArray.toList_eq]; rfl

def all2 (f : Nd → Nd → Bool) : List Nd → List Nd → Bool
  | a :: l, b :: m => if f a b = true then all2 f l m else false
  | _, _ => true
/-- Are trees the same, places aside, no deeper than told. -/
def sameM : Nat → Nd → Nd → Bool
  | 0, _, _ => false
  | d + 1, a, b => if a.kind = b.kind ∧ a.name = b.name ∧ a.num = b.num ∧ a.kids.length = b.kids.length then all2 (sameM d) a.kids b.kids else false
theorem drew2 (w : World) (n m : Nat) : (w.drewN n).drewN m = w.drewN (n + m) := by simp
theorem below_drewN (n : Nat) (w : World) (m : Nat) : Below n w (w.drewN m) := ⟨rfl, rfl, rfl, Nat.le_refl _, fun _ _ => rfl⟩

set_option maxRecDepth 100000 in
set_option maxHeartbeats 4000000 in
theorem same_c : ∀ (d : Nat) (a b : Nd) (g off g' off' B : Nat) (w : World), NdAt w B a g off → NdAt w B b g' off' → g < B → g' < B → B ≤ w.heap.size → d ≤ 1000 →
    Calls Tryz.prog 38 #[.pointer (some ⟨g, off, none⟩), .pointer (some ⟨g', off', none⟩), .int .i64 (d : Int)] w fun e w' => e = .returned (.bool (sameM d a b)) ∧ ∃ m, w' = w.drewN m := by
  intro d
  induction d with
  | zero =>
    intro a b g off g' off' B w ha hb hg hg' hB hd
    have HR : Hid (sameM 0 a b = false) := rfl
    have hdep : Tryz.prog.follows Departure.mixedOrders = true := by kernel_rfl
    clear ha hb hg hg' hB hd
    go_enter Tryz.func38, Tryz.ntmps38
    go_wp2_with fail
    go_big_quiet (fail)
    go_wp2
    go_ret
    exact ⟨by rw [HR.out]; rfl, _, rfl⟩
  | succ d ih =>
    intro a b g off g' off' B w ha hb hg hg' hB hd
    have hdep : Tryz.prog.follows Departure.mixedOrders = true := by kernel_rfl
    have HI : Hid (∀ (a b : Nd) (g off g' off' : Nat) (n : Nat), NdAt w B a g off → NdAt w B b g' off' → g < B → g' < B → Calls Tryz.prog 38 #[.pointer (some ⟨g, off, none⟩), .pointer (some ⟨g', off', none⟩), .int .i64 (d : Int)] (w.drewN n) fun e w' => e = .returned (.bool (sameM d a b)) ∧ ∃ m, w' = (w.drewN n).drewN m) := fun a b g off g' off' n h1 h2 h3 h4 => ih a b g off g' off' B (w.drewN n) (h1.below (below_drewN _ _ _) _ _ _ h3) (h2.below (below_drewN _ _ _) _ _ _ h4) h3 h4 hB (by omega)
    have HD0 : Hid (sameM (d + 1) a b = if a.kind = b.kind ∧ a.name = b.name ∧ a.num = b.num ∧ a.kids.length = b.kids.length then all2 (sameM d) a.kids b.kids else false) := rfl
    obtain ⟨D, hD⟩ : ∃ D, D = d + 1 := ⟨_, rfl⟩
    rw [← hD] at HD0 ⊢
    have e1 : ((D : Int) == 0) = false := beq_eq_false_iff_ne.2 (by omega)
    have e3 : (D : Int) - 1 = (d : Int) := by omega
    have hDi : (D : Int) ≤ 1000 := by omega
    obtain ⟨o, cap, k0, k1, k2, k3, k4, hc, hc2, hk⟩ := ha.cells
    obtain ⟨o', cap', j0, j1, j2, j3, j4, hc', hc2', hj⟩ := hb.cells
    have HK : Hid (KIn w B o a.kids) := hk
    have HJ : Hid (KIn w B o' b.kids) := hj
    have hgw : g < w.heap.size := by omega
    have hgw' : g' < w.heap.size := by omega
    have HDd : Hid (D = d + 1) := hD
    clear ih ha hb hg hg' hB hd hk hj hD k4 j4
    by_cases q1 : a.kind = b.kind
    case neg =>
      have HR : Hid (sameM D a b = false) := by show _ = _; rw [HD0.out, if_neg (fun h => q1 h.1)]
      have t1 : (a.kind != b.kind) = true := bne_iff_ne.2 q1
      clear HI HD0 HK HJ hc hc2 hc' hc2' q1
      generalize a.kind = ak at *
      generalize b.kind = bk at *
      go_enter Tryz.func38, Tryz.ntmps38
      go_wp2_with fail
      go_big_quiet (fail)
      go_wp2
      go_ret
      exact ⟨by rw [HR.out]; rfl, _, rfl⟩
    have t1 : (b.kind != b.kind) = false := by simp
    rw [q1] at k0
    by_cases q2 : a.name = b.name
    case neg =>
      have HR : Hid (sameM D a b = false) := by show _ = _; rw [HD0.out, if_neg (fun h => q2 h.2.1)]
      have t2 : ((bs a.name).toList == (bs b.name).toList) = false := beq_eq_false_iff_ne.2 (fun h => q2 (by rw [bsList, bsList] at h; exact h))
      clear HI HD0 HK HJ hc hc2 hc' hc2' q1 q2
      generalize b.kind = bk at *
      generalize bs a.name = an at *
      generalize bs b.name = bn at *
      go_enter Tryz.func38, Tryz.ntmps38
      go_wp2_with fail
      go_big_quiet (fail)
      go_wp2
      go_ret
      exact ⟨by rw [HR.out]; rfl, _, rfl⟩
    rw [q2] at k1
    by_cases q3 : a.num = b.num
    case neg =>
      have HR : Hid (sameM D a b = false) := by show _ = _; rw [HD0.out, if_neg (fun h => q3 h.2.2.1)]
      have t3 : (a.num != b.num) = true := bne_iff_ne.2 q3
      have t2 : ((bs b.name).toList != (bs b.name).toList) = false := by simp
      clear HI HD0 HK HJ hc hc2 hc' hc2' q1 q2 q3
      generalize b.kind = bk at *
      generalize bs b.name = bn at *
      generalize a.num = au at *
      generalize b.num = bu at *
      go_enter Tryz.func38, Tryz.ntmps38
      go_wp2_with fail
      go_big_quiet (fail)
      go_wp2
      go_ret
      exact ⟨by rw [HR.out]; rfl, _, rfl⟩
    rw [q3] at k2
    by_cases q4 : a.kids.length = b.kids.length
    case neg =>
      have HR : Hid (sameM D a b = false) := by show _ = _; rw [HD0.out, if_neg (fun h => q4 h.2.2.2)]
      have t4 : ((a.kids.length : Int) != (b.kids.length : Int)) = true := bne_iff_ne.2 (by omega)
      have t2 : ((bs b.name).toList != (bs b.name).toList) = false := by simp
      have t3 : (b.num != b.num) = false := by simp
      have hli : (a.kids.length : Int) ≤ 9223372036854775807 := by omega
      have hlj : (b.kids.length : Int) ≤ 9223372036854775807 := by omega
      clear HI HD0 HK HJ hc hc2 hc' hc2' q1 q2 q3 q4
      generalize b.kind = bk at *
      generalize bs b.name = bn at *
      generalize b.num = bu at *
      generalize a.kids.length = al at *
      generalize b.kids.length = bl at *
      go_enter Tryz.func38, Tryz.ntmps38
      go_wp2_with fail
      go_big_quiet (fail)
      go_wp2
      go_ret
      exact ⟨by rw [HR.out]; rfl, _, rfl⟩
    have HR : Hid (sameM D a b = all2 (sameM d) a.kids b.kids) := by show _ = _; rw [HD0.out, if_pos ⟨q1, q2, q3, q4⟩]
    have t2 : ((bs b.name).toList == (bs b.name).toList) = true := by simp
    have t3 : (b.num != b.num) = false := by simp
    rw [q4] at k3
    obtain ⟨L, hL⟩ : ∃ L, b.kids.length = L := ⟨_, rfl⟩
    have HLb : Hid (b.kids.length = L) := hL
    have HLa : Hid (a.kids.length = L) := q4.trans hL
    rw [hL] at k3 j3
    have t4 : ((L : Int) != (L : Int)) = false := by simp
    have hLi : (L : Int) ≤ 9223372036854775807 := by omega
    have HC3 : Hid (∀ n, (w.drewN n).cell? ⟨g, off + 3, none⟩ = some (.slice o L cap) ∧ (w.drewN n).cell? ⟨g', off' + 3, none⟩ = some (.slice o' L cap')) := fun n => ⟨k3, j3⟩
    clear HD0 hc hc2 hc' hc2' q1 q2 q3 q4 hL
    generalize b.kind = bk at *
    generalize bs b.name = bn at *
    generalize b.num = bu at *
    go_enter Tryz.func38, Tryz.ntmps38
    go_wp2_with fail
    go_big_quiet (fail)
    go_wp2
    go_loopw [61] (fun i wr => ∃ (k n : Nat), k ≤ L ∧ i = .int .i64 k ∧ Hid (wr = w.drewN n) ∧ Hid (all2 (sameM d) a.kids b.kids = all2 (sameM d) (a.kids.drop k) (b.kids.drop k))) (fun i _ => L - (intOf i).toNat)
    case atStart => exact ⟨0, _, Nat.zero_le _, rfl, (rfl : _ = _), rfl⟩
    case round =>
      obtain ⟨k, n, hk, rfl, hW, hEq⟩ := hrel
      by_cases hlt : k < L
      · have hka : k < a.kids.length := by rw [HLa.out]; exact hlt
        have hkb : k < b.kids.length := by rw [HLb.out]; exact hlt
        have hki : (k : Int) < (L : Int) := by omega
        obtain ⟨g2, off2, rfl, hg2, hKA⟩ := HK.out.at k hka
        obtain ⟨g3, off3, rfl, hg3, hKB⟩ := HJ.out.at k hkb
        have c1 : wr.cell? ⟨g, off + 3, none⟩ = some (.slice (some ⟨g2, off2, none⟩) L cap) := by rw [hW.out]; exact (HC3.out n).1
        have c2 : wr.cell? ⟨g', off' + 3, none⟩ = some (.slice (some ⟨g3, off3, none⟩) L cap') := by rw [hW.out]; exact (HC3.out n).2
        have HC : Hid (∀ m, Calls Tryz.prog 38 #[.pointer (some ⟨g2, off2 + k * 5, none⟩), .pointer (some ⟨g3, off3 + k * 5, none⟩), .int .i64 (d : Int)] (wr.drewN m) fun e w' => e = .returned (.bool (sameM d a.kids[k] b.kids[k])) ∧ ∃ m', w' = (wr.drewN m).drewN m') := fun m => by rw [hW.out, drew2]; exact HI.out a.kids[k] b.kids[k] g2 (off2 + k * 5) g3 (off3 + k * 5) (n + m) (hKA.get a.kids g2 off2 k hka) (hKB.get b.kids g3 off3 k hkb) hg2 hg3
        have HD : Hid (all2 (sameM d) (a.kids.drop k) (b.kids.drop k) = if sameM d a.kids[k] b.kids[k] = true then all2 (sameM d) (a.kids.drop (k + 1)) (b.kids.drop (k + 1)) else false) := by
          show _ = _
          rw [List.drop_eq_getElem_cons hka, List.drop_eq_getElem_cons hkb]; rfl
        obtain ⟨r, hr⟩ : ∃ r, sameM d a.kids[k] b.kids[k] = r := ⟨_, rfl⟩
        rw [hr] at HC HD
        have hgr : g < wr.heap.size := by rw [hW.out]; exact hgw
        have hgr' : g' < wr.heap.size := by rw [hW.out]; exact hgw'
        clear hKA hKB hka hkb hr hg2 hg3 HK HJ HI k0 k1 k2 k3 j0 j1 j2 j3 hgw hgw'
        cases r with
        | true =>
          rw [if_pos rfl] at HD
          go_wp2_with fail
          go_big_quiet ((go_at_call 38; exact Calls.quiet_of (HC.out _)))
          go_wp2
          go_roundw
          case rel => exact ⟨k + 1, _, by omega, by go_num, (by show _ = _; rw [hW.out, drew2]), (hEq.out.trans HD.out : all2 (sameM d) a.kids b.kids = all2 (sameM d) (a.kids.drop (k + 1)) (b.kids.drop (k + 1)))⟩
          case measure => simp [intOf]; omega
        | false =>
          rw [if_neg (by simp)] at HD
          go_wp2_with fail
          go_big_quiet ((go_at_call 38; exact Calls.quiet_of (HC.out _)))
          go_wp2
          go_ret
          exact ⟨by rw [HR.out, hEq.out, HD.out]; rfl, _, by rw [hW.out, drew2]⟩
      · obtain rfl : k = L := by omega
        have HD : Hid (all2 (sameM d) (a.kids.drop k) (b.kids.drop k) = true) := by
          show _ = _
          rw [List.drop_eq_nil_of_le (by rw [HLa.out]; exact Nat.le_refl _)]; rfl
        go_wp2
        go_ret
        exact ⟨by rw [HR.out, hEq.out, HD.out]; rfl, n, hW.out⟩
end Go.Proofs.YtndpebkiiemfpaaGreatDoor

namespace Go.Proofs.YtndpebkiiemfpaaGreatDoor
open Go.RowKit Go.Shelf Go.Maps
set_option linter.unusedVariables false

theorem hK_of (d : Nat) (ih : ∀ (m : Nat) (n : Nd), deepLe d n → cntT d n ≤ m → (hN d m n).1 = true) : ∀ (l : List Nd) (m : Nat), (∀ k ∈ l, deepLe d k) → (l.map (cntT d)).sum ≤ m → (hK (hN d) m l).1 = true
  | [], m, _, _ => rfl
  | n :: ns, m, h, hs => by
    rw [List.map_cons, List.sum_cons] at hs
    have h1 := ih m n (h n (by simp)) (by omega)
    have h2 := (hNall d m n h1).2
    unfold hK
    rw [if_pos h1]
    exact hK_of d ih ns _ (fun k hk => h k (by simp [hk])) (by omega)
theorem hNof : ∀ (d m : Nat) (n : Nd), deepLe d n → cntT d n ≤ m → (hN d m n).1 = true
  | 0, m, n, h, _ => h.elim
  | d + 1, m, n, h, hs => by
    unfold cntT at hs
    unfold hN
    rw [if_neg (by omega)]
    exact hK_of d (hNof d) n.kids (m - 1) h (by omega)
theorem cnt_sum (d : Nat) (ih : ∀ n, cntT d n ≤ szA n) : ∀ l : List Nd, (l.map (cntT d)).sum ≤ szL l
  | [] => Nat.le_refl _
  | x :: l => by
    have h1 := ih x
    have h2 := cnt_sum d ih l
    simp only [List.map_cons, List.sum_cons, szL]; omega
theorem cnt_sz : ∀ (d : Nat) (n : Nd), cntT d n ≤ szA n
  | 0, n => Nat.zero_le _
  | d + 1, n => by
    have h := cnt_sum d (cnt_sz d) n.kids
    rw [szA_eq]
    unfold cntT
    omega
set_option maxRecDepth 100000 in
set_option maxHeartbeats 4000000 in
theorem tooDeep_c (n : Nd) (g off B : Nat) (w : World) (h : NdAt w B n g off) (hg : g < B) (hB : B ≤ w.heap.size) (hd : deepLe 256 n) (hz : szA n ≤ 1000000) : Calls Tryz.prog 36 #[.pointer (some ⟨g, off, none⟩)] w fun e W' => e = .returned (.bool false) ∧ Below w.heap.size w W' := by
  have hh : (hN 256 9223372036854775807 n).1 = true := hNof 256 _ n hd (by have := cnt_sz 256 n; omega)
  have hb : Below w.heap.size w (w.alloc (.cells #[.int .i64 9223372036854775807] 88)) := (Below.refl _ w).alloc (Nat.le_refl _) _
  have HC : Hid (Calls Tryz.prog 42 #[.pointer (some ⟨w.heap.size, 0, none⟩), .pointer (some ⟨g, off, none⟩), .int .i64 256] (w.alloc (.cells #[.int .i64 9223372036854775807] 88)) fun e w' => e = .returned (.bool true) ∧ Below w.heap.size (w.alloc (.cells #[.int .i64 9223372036854775807] 88)) w') := by
    have := holds_c 256 9223372036854775807 n g off w.heap.size B (w.alloc (.cells #[.int .i64 9223372036854775807] 88)) (NdAt.below (hb.mono hB) n g off hg h) hg hB (Blk.new _ _ _) (by omega) (by omega)
    rw [hh] at this
    exact this.mono (fun e w' ⟨h1, _, h3, _⟩ => ⟨h1, h3⟩)
  have HB : Hid (Below w.heap.size w (w.alloc (.cells #[.int .i64 9223372036854775807] 88))) := hb
  clear h hg hB hd hz hh hb
  go_enter Tryz.func36, Tryz.ntmps36
  go_wp2_with (go_at_call 42; fail)
  refine HC.out.mono ?_
  rintro e w2 ⟨rfl, hb2⟩
  have HF : Hid (Below w.heap.size w w2) := HB.out.trans hb2
  clear hb2 HC
  go_wp2
  go_ret
  exact ⟨rfl, HF.out⟩
set_option maxRecDepth 100000 in
set_option maxHeartbeats 4000000 in
theorem sameT_c (a b : Nd) (oa : Option Addr) (ca : Nat) (ob : Option Addr) (cb : Nat) (w : World) (ha : NdIn w w.heap.size a oa ca) (hb : NdIn w w.heap.size b ob cb) : Calls Tryz.prog 14 #[.agg #[.int .i64 a.kind, .string (bs a.name), .int .i64 a.num, .slice oa a.kids.length ca, .int .i64 a.pos], .agg #[.int .i64 b.kind, .string (bs b.name), .int .i64 b.num, .slice ob b.kids.length cb, .int .i64 b.pos]] w fun e W' => e = .returned (.bool (sameM 256 a b)) ∧ Below w.heap.size w W' := by
  have hb1 : Below w.heap.size w ((w.alloc (.cells #[.int .i64 a.kind, .string (bs a.name), .int .i64 a.num, .slice oa a.kids.length ca, .int .i64 a.pos] 24)).alloc (.cells #[.int .i64 b.kind, .string (bs b.name), .int .i64 b.num, .slice ob b.kids.length cb, .int .i64 b.pos] 24)) := ((Below.refl _ w).alloc (Nat.le_refl _) _).alloc (by simp) _
  have k1 : Blk ((w.alloc (.cells #[.int .i64 a.kind, .string (bs a.name), .int .i64 a.num, .slice oa a.kids.length ca, .int .i64 a.pos] 24)).alloc (.cells #[.int .i64 b.kind, .string (bs b.name), .int .i64 b.num, .slice ob b.kids.length cb, .int .i64 b.pos] 24)) w.heap.size #[.int .i64 a.kind, .string (bs a.name), .int .i64 a.num, .slice oa a.kids.length ca, .int .i64 a.pos] 24 := (Blk.new _ _ _).alloc _
  have k2 : Blk ((w.alloc (.cells #[.int .i64 a.kind, .string (bs a.name), .int .i64 a.num, .slice oa a.kids.length ca, .int .i64 a.pos] 24)).alloc (.cells #[.int .i64 b.kind, .string (bs b.name), .int .i64 b.num, .slice ob b.kids.length cb, .int .i64 b.pos] 24)) (w.heap.size + 1) #[.int .i64 b.kind, .string (bs b.name), .int .i64 b.num, .slice ob b.kids.length cb, .int .i64 b.pos] 24 := Blk.new2 _ _ _ _
  obtain ⟨V, hV⟩ : ∃ V, ((w.alloc (.cells #[.int .i64 a.kind, .string (bs a.name), .int .i64 a.num, .slice oa a.kids.length ca, .int .i64 a.pos] 24)).alloc (.cells #[.int .i64 b.kind, .string (bs b.name), .int .i64 b.num, .slice ob b.kids.length cb, .int .i64 b.pos] 24)) = V := ⟨_, rfl⟩
  have HV : Hid (((w.alloc (.cells #[.int .i64 a.kind, .string (bs a.name), .int .i64 a.num, .slice oa a.kids.length ca, .int .i64 a.pos] 24)).alloc (.cells #[.int .i64 b.kind, .string (bs b.name), .int .i64 b.num, .slice ob b.kids.length cb, .int .i64 b.pos] 24)) = V) := hV
  rw [hV] at hb1 k1 k2
  have n1 : NdAt V V.heap.size a w.heap.size 0 := ndAt_cells ((ha.below hb1).mono hb1.size) (fun j u hu => by
    have := k1.cell j u (by simpa [ndL] using hu)
    simpa using this)
  have n2 : NdAt V V.heap.size b (w.heap.size + 1) 0 := ndAt_cells ((hb.below hb1).mono hb1.size) (fun j u hu => by
    have := k2.cell j u (by simpa [ndL] using hu)
    simpa using this)
  have HC : Hid (Calls Tryz.prog 38 #[.pointer (some ⟨w.heap.size, 0, none⟩), .pointer (some ⟨w.heap.size + 1, 0, none⟩), .int .i64 256] V fun e w' => e = .returned (.bool (sameM 256 a b)) ∧ ∃ m, w' = V.drewN m) := same_c 256 a b w.heap.size 0 (w.heap.size + 1) 0 V.heap.size V n1 n2 k1.lt k2.lt (Nat.le_refl _) (by omega)
  have HB : Hid (Below w.heap.size w V) := hb1
  generalize sameM 256 a b = r at HC
  clear ha hb hb1 k1 k2 n1 n2 hV
  go_enter Tryz.func14, Tryz.ntmps14
  go_wp2_with (go_at_call 38; fail)
  rw [HV.out]
  refine HC.out.mono ?_
  rintro e w2 ⟨rfl, m, rfl⟩
  have HF : Hid (Below w.heap.size w (V.drewN m)) := HB.out.trans (below_drewN _ V m)
  generalize V.drewN m = w2 at HF
  go_wp2
  go_ret
  exact ⟨rfl, HF.out⟩
mutual
/-- No parentheses. -/
def plA : Nd → Prop
  | .mk k _ _ l _ => k ≠ 30 ∧ plL l
def plL : List Nd → Prop
  | [] => True
  | x :: l => plA x ∧ plL l
end
theorem plA_of {n : Nd} (h : plA n) : n.kind ≠ 30 ∧ plL n.kids := by cases n; simp only [plA] at h; exact h
theorem pl_mem : ∀ (l : List Nd) (x : Nd), plL l → x ∈ l → plA x
  | y :: l, x, h, hx => by
    simp only [plL] at h
    rcases List.mem_cons.1 hx with rfl | hx
    · exact h.1
    · exact pl_mem l x h.2 hx
set_option maxRecDepth 100000 in
set_option maxHeartbeats 4000000 in
theorem parenless_c : ∀ (d : Nat) (n : Nd) (o : Option Addr) (cap : Nat) (w : World), deepLe d n → plA n → NdIn w w.heap.size n o cap →
    Calls Tryz.prog 13 #[.agg #[.int .i64 n.kind, .string (bs n.name), .int .i64 n.num, .slice o n.kids.length cap, .int .i64 n.pos]] w fun e W' => e = .returned (.bool true) ∧ Below w.heap.size w W'
  | 0, n, o, cap, w, hd, hp, hn => hd.elim
  | d + 1, n, o, cap, w, hd, hp, hn => by
    obtain ⟨hp1, hp2⟩ := plA_of hp
    have hp3 : (n.kind != 30) = true := by simpa using hp1
    have HIH : Hid (∀ k (hk : k < n.kids.length) (o : Option Addr) (cap : Nat) (w : World), NdIn w w.heap.size n.kids[k] o cap → Calls Tryz.prog 13 #[.agg #[.int .i64 n.kids[k].kind, .string (bs n.kids[k].name), .int .i64 n.kids[k].num, .slice o n.kids[k].kids.length cap, .int .i64 n.kids[k].pos]] w fun e W' => e = .returned (.bool true) ∧ Below w.heap.size w W') := fun k hk o cap w h => parenless_c d n.kids[k] o cap w (hd _ (List.getElem_mem hk)) (pl_mem _ _ hp2 (List.getElem_mem hk)) h
    have HN : Hid (NdIn w w.heap.size n o cap) := hn
    obtain ⟨m, hm⟩ : ∃ m, n.kids.length = m := ⟨_, rfl⟩
    have HM : Hid (n.kids.length = m) := hm
    have hcap : n.kids.length ≤ cap ∧ cap ≤ 9223372036854775807 := ⟨hn.2.1, hn.2.2.1⟩
    rw [hm] at hcap
    have hmi : (m : Int) ≤ 9223372036854775807 := by omega
    have HB0 : Hid (Below w.heap.size w (w.alloc (.cells #[.int .i64 n.kind, .string (bs n.name), .int .i64 n.num, .slice o m cap, .int .i64 n.pos] 24)) ∧ Blk (w.alloc (.cells #[.int .i64 n.kind, .string (bs n.name), .int .i64 n.num, .slice o m cap, .int .i64 n.pos] 24)) w.heap.size #[.int .i64 n.kind, .string (bs n.name), .int .i64 n.num, .slice o m cap, .int .i64 n.pos] 24) := ⟨(Below.refl _ w).alloc (Nat.le_refl _) _, Blk.new _ _ _⟩
    rw [hm]
    clear hd hp hn hm hp2
    go_enter Tryz.func13, Tryz.ntmps13
    go_wp2
    go_loopg [3] m (fun g v3 wr => ∃ (k : Nat), v3 = .int .i64 k ∧ k ≤ m ∧ m - k ≤ g ∧ Hid (Below w.heap.size w wr ∧ Blk wr w.heap.size #[.int .i64 n.kind, .string (bs n.name), .int .i64 n.num, .slice o m cap, .int .i64 n.pos] 24))
    case atStart => exact ⟨0, rfl, Nat.zero_le _, Nat.le_refl _, HB0⟩
    case round =>
      clear HB0
      obtain ⟨k, rfl, hk, hg, HI⟩ := hrel
      have hBk := HI.out.2
      have hlt := hBk.lt
      have b3 := hBk.cell 3 _ rfl
      have b0 := hBk.cell 0 _ rfl
      by_cases hkl : k < m
      · have hkL : k < n.kids.length := by rw [HM.out]; exact hkl
        have hkz : (k : Int) < (m : Int) := by omega
        obtain ⟨g1, off1, ho, hg1, hKA⟩ := HN.out.1.at k hkL
        have hnk := KidsAt.get n.kids g1 off1 k hkL hKA
        obtain ⟨o2, cap2, c0, c1, c2, c3, c4, hni⟩ := ndIn_of hnk
        have e0 := (HI.out.1.cell (p := ⟨g1, off1 + k * 5, none⟩) hg1).trans c0
        have e1 := (HI.out.1.cell (p := ⟨g1, off1 + k * 5 + 1, none⟩) hg1).trans c1
        have e2 := (HI.out.1.cell (p := ⟨g1, off1 + k * 5 + 2, none⟩) hg1).trans c2
        have e3 := (HI.out.1.cell (p := ⟨g1, off1 + k * 5 + 3, none⟩) hg1).trans c3
        have e4 := (HI.out.1.cell (p := ⟨g1, off1 + k * 5 + 4, none⟩) hg1).trans c4
        have HC : Hid (Calls Tryz.prog 13 #[.agg #[.int .i64 n.kids[k].kind, .string (bs n.kids[k].name), .int .i64 n.kids[k].num, .slice o2 n.kids[k].kids.length cap2, .int .i64 n.kids[k].pos]] wr fun e W' => e = .returned (.bool true) ∧ Below wr.heap.size wr W') := HIH.out k hkL o2 cap2 wr ((hni.below HI.out.1).mono HI.out.1.size)
        generalize n.kids[k] = kd at e0 e1 e2 e3 e4 HC
        subst ho
        clear c0 c1 c2 c3 c4 hni hnk hKA hBk HIH
        go_wp2_with (go_at_call 13; fail)
        refine HC.out.mono ?_
        rintro e w2 ⟨rfl, hb2⟩
        have HF : Hid (Below w.heap.size w w2 ∧ Blk w2 w.heap.size #[.int .i64 n.kind, .string (bs n.name), .int .i64 n.num, .slice (some ⟨g1, off1, none⟩) m cap, .int .i64 n.pos] 24) := ⟨HI.out.1.trans (hb2.mono HI.out.1.size), HI.out.2.below hb2⟩
        clear hb2 HC e0 e1 e2 e3 e4 b3 b0 hlt
        go_wp2
        go_roundg (m - (k + 1))
        case measure => omega
        case rel => exact ⟨k + 1, by go_num, by omega, Nat.le_refl _, HF⟩
      · have hkz : ¬ (k : Int) < (m : Int) := by omega
        go_wp2
        go_ret
        exact ⟨by first | rfl | simp [hp3] | simp [hp1], HI.out.1⟩
end Go.Proofs.YtndpebkiiemfpaaGreatDoor

namespace Go.Proofs.YtndpebkiiemfpaaGreatDoor
open Go.RowKit Go.Shelf Go.Maps
set_option linter.unusedVariables false

set_option maxRecDepth 100000 in
set_option maxHeartbeats 4000000 in
theorem strip_c (n y : Nd) (o : Option Addr) (cap : Nat) (w : World) (hn : NdIn w w.heap.size n o cap) (hd : deepLe 256 n) (hz : szA n ≤ 900000) (hy : bareN n = [y]) :
    Calls Tryz.prog 11 #[.agg #[.int .i64 n.kind, .string (bs n.name), .int .i64 n.num, .slice o n.kids.length cap, .int .i64 n.pos]] w fun e W' => ∃ o' cap', e = .returned (.agg #[.int .i64 y.kind, .string (bs y.name), .int .i64 y.num, .slice o' y.kids.length cap', .int .i64 y.pos]) ∧ NdIn W' W'.heap.size y o' cap' ∧ Below w.heap.size w W' := by
  have hb0 : Below w.heap.size w ((w.alloc (.cells #[.int .i64 n.kind, .string (bs n.name), .int .i64 n.num, .slice o n.kids.length cap, .int .i64 n.pos] 24)).alloc (.cells #[.int .i64 0, .string ⟨#[]⟩, .int .i64 0, .slice none 0 0, .int .i64 0] 24)) := ((Below.refl _ w).alloc (Nat.le_refl _) _).alloc (by simp) _
  have k1 : Blk ((w.alloc (.cells #[.int .i64 n.kind, .string (bs n.name), .int .i64 n.num, .slice o n.kids.length cap, .int .i64 n.pos] 24)).alloc (.cells #[.int .i64 0, .string ⟨#[]⟩, .int .i64 0, .slice none 0 0, .int .i64 0] 24)) w.heap.size #[.int .i64 n.kind, .string (bs n.name), .int .i64 n.num, .slice o n.kids.length cap, .int .i64 n.pos] 24 := (Blk.new _ _ _).alloc _
  have k2 : Blk ((w.alloc (.cells #[.int .i64 n.kind, .string (bs n.name), .int .i64 n.num, .slice o n.kids.length cap, .int .i64 n.pos] 24)).alloc (.cells #[.int .i64 0, .string ⟨#[]⟩, .int .i64 0, .slice none 0 0, .int .i64 0] 24)) (w.heap.size + 1) #[.int .i64 0, .string ⟨#[]⟩, .int .i64 0, .slice none 0 0, .int .i64 0] 24 := Blk.new2 _ _ _ _
  obtain ⟨V, hV⟩ : ∃ V, ((w.alloc (.cells #[.int .i64 n.kind, .string (bs n.name), .int .i64 n.num, .slice o n.kids.length cap, .int .i64 n.pos] 24)).alloc (.cells #[.int .i64 0, .string ⟨#[]⟩, .int .i64 0, .slice none 0 0, .int .i64 0] 24)) = V := ⟨_, rfl⟩
  have HV : Hid (((w.alloc (.cells #[.int .i64 n.kind, .string (bs n.name), .int .i64 n.num, .slice o n.kids.length cap, .int .i64 n.pos] 24)).alloc (.cells #[.int .i64 0, .string ⟨#[]⟩, .int .i64 0, .slice none 0 0, .int .i64 0] 24)) = V) := hV
  have hVs : V.heap.size = w.heap.size + 2 := by rw [← hV]; simp
  rw [hV] at hb0 k1 k2
  have n1 : NdAt V V.heap.size n w.heap.size 0 := ndAt_cells ((hn.below hb0).mono hb0.size) (fun j u hu => by
    have := k1.cell j u (by simpa [ndL] using hu)
    simpa using this)
  have HT : Hid (Calls Tryz.prog 36 #[.pointer (some ⟨w.heap.size, 0, none⟩)] V fun e W' => e = .returned (.bool false) ∧ Below V.heap.size V W') := tooDeep_c n w.heap.size 0 V.heap.size V n1 k1.lt (Nat.le_refl _) hd (by omega)
  have HS : Hid (Below w.heap.size w V ∧ Blk V w.heap.size #[.int .i64 n.kind, .string (bs n.name), .int .i64 n.num, .slice o n.kids.length cap, .int .i64 n.pos] 24 ∧ Blk V (w.heap.size + 1) #[.int .i64 0, .string ⟨#[]⟩, .int .i64 0, .slice none 0 0, .int .i64 0] 24 ∧ V.heap.size = w.heap.size + 2) := ⟨hb0, k1, k2, hVs⟩
  have HN : Hid (NdIn w w.heap.size n o cap ∧ deepLe 256 n ∧ szA n ≤ 900000 ∧ bareN n = [y]) := ⟨hn, hd, hz, hy⟩
  clear hn hd hz hy hb0 k1 k2 hV hVs n1
  go_enter Tryz.func11, Tryz.ntmps11
  go_wp2_with (go_at_call 36; fail)
  rw [HV.out]
  refine HT.out.mono ?_
  rintro e w1 ⟨rfl, hb1⟩
  have hw1 : Below w.heap.size w w1 := HS.out.1.trans (hb1.mono HS.out.1.size)
  have hk1 := HS.out.2.1.below hb1
  have hk2 := HS.out.2.2.1.below hb1
  have hs1 : w.heap.size + 2 ≤ w1.heap.size := by have := hb1.size; have := HS.out.2.2.2; omega
  obtain ⟨U, hU⟩ : ∃ U, w1.alloc (.cells #[.int .i64 n.kind, .string (bs n.name), .int .i64 n.num, .slice o n.kids.length cap, .int .i64 n.pos] 24) = U := ⟨_, rfl⟩
  have HU : Hid (w1.alloc (.cells #[.int .i64 n.kind, .string (bs n.name), .int .i64 n.num, .slice o n.kids.length cap, .int .i64 n.pos] 24) = U) := hU
  have hbU : Below w1.heap.size w1 U := by rw [← hU]; exact (Below.refl _ _).alloc (Nat.le_refl _) _
  have hUs : U.heap.size = w1.heap.size + 1 := by rw [← hU]; simp
  have hwU : Below w.heap.size w U := hw1.trans (hbU.mono hw1.size)
  have hkU : Blk U w1.heap.size #[.int .i64 n.kind, .string (bs n.name), .int .i64 n.num, .slice o n.kids.length cap, .int .i64 n.pos] 24 := by rw [← hU]; exact Blk.new _ _ _
  have hkin : KIn U U.heap.size (some ⟨w1.heap.size, 0, none⟩) [n] := by
    refine .inr ⟨w1.heap.size, 0, rfl, by omega, ?_⟩
    simp only [KidsAt, and_true]
    exact ndAt_cells ((HN.out.1.below hwU).mono hwU.size) (fun j u hu => by
      have := hkU.cell j u (by simpa [ndL] using hu)
      simpa using this)
  have HB : Hid (Calls Tryz.prog 37 #[.slice none 0 0, .slice (some ⟨w1.heap.size, 0, none⟩) 1 1] U fun e W' => ∃ v' ts', e = .returned v' ∧ RwN U.heap.size W' v' ts' ∧ ts'.map (·.1) = [y] ∧ Below U.heap.size U W') := by
    have := bareOK 256 [n] (some ⟨w1.heap.size, 0, none⟩) 1 U.heap.size (.slice none 0 0) [] U (fun x hx => (List.mem_singleton.1 hx) ▸ HN.out.2.1) (by have := HN.out.2.2.1; simp only [szL, List.length_nil]; omega) hkin (Nat.le_refl _) (by omega) (rwNil _ _) (Nat.le_refl _)
    refine this.mono ?_
    rintro e W' ⟨v', ts', h1, h2, h3, h4, _⟩
    refine ⟨v', ts', h1, h2, ?_, ⟨h4.os, h4.tape, h4.output, h4.size, fun j hj => h4.block j hj (by simp [Value.ownBlock])⟩⟩
    rw [h3]
    simp [bareL, HN.out.2.2.2]
  have HS2 : Hid (Below w.heap.size w U ∧ Blk U (w.heap.size + 1) #[.int .i64 0, .string ⟨#[]⟩, .int .i64 0, .slice none 0 0, .int .i64 0] 24 ∧ w.heap.size + 2 ≤ U.heap.size) := ⟨hwU, hk2.below hbU, by omega⟩
  have c0 := hk1.cell 0 _ rfl
  have c1 := hk1.cell 1 _ rfl
  have c2 := hk1.cell 2 _ rfl
  have c3 := hk1.cell 3 _ rfl
  have c4 := hk1.cell 4 _ rfl
  have cl := hk1.lt
  clear hw1 hk1 hk2 hs1 hU hbU hUs hwU hkU hkin hb1 HT HV HS
  go_wp2_with (go_at_call 37; fail)
  rw [HU.out]
  refine HB.out.mono ?_
  rintro e w2 ⟨v2, its2, rfl, hR2, hm2, hb2⟩
  obtain ⟨o', cap', rfl⟩ : ∃ o' cap', its2 = [(y, o', cap')] := by
    match its2, hm2 with
    | [(y2, o2, c2)], h => 
      have : y2 = y := by simpa using h
      subst this
      exact ⟨o2, c2, rfl⟩
  obtain ⟨g, cap2, hv2, hgU, hcp⟩ : ∃ g cap2, v2 = .slice (some ⟨g, 0, none⟩) 1 cap2 ∧ U.heap.size ≤ g ∧ 1 ≤ cap2 := by
    obtain ⟨h1, ⟨_, h2⟩ | ⟨g, cap2, cur, e, hg, hb, h3, h4, _⟩⟩ := hR2.row
    · cases h2
    · exact ⟨g, cap2, e, hg, h3⟩
  subst hv2
  have hcell : ∀ j u, (itC (y, o', cap'))[j]? = some u → w2.cell? ⟨g, j, none⟩ = some u := fun j u hu => by
    have := hR2.row.cells (g := g) rfl j u (by simpa using hu)
    rw [Addr.add_lit, Nat.zero_add] at this
    exact this
  have d0 := hcell 0 _ rfl
  have d1 := hcell 1 _ rfl
  have d2 := hcell 2 _ rfl
  have d3 := hcell 3 _ rfl
  have d4 := hcell 4 _ rfl
  simp only [] at d0 d1 d2 d3 d4
  have hav : Av (lowS U.heap.size) w2 y o' cap' := (hR2.av (y, o', cap') (by simp)).move (fun j hj hS => ⟨rfl, lowS_no.2 (rowS_no.1 hS).1⟩) (Nat.le_refl _)
  have hk2 := HS2.out.2.1.below hb2
  have r0 := hk2.cell 0 _ rfl
  have r1 := hk2.cell 1 _ rfl
  have r2 := hk2.cell 2 _ rfl
  have r3 := hk2.cell 3 _ rfl
  have r4 := hk2.cell 4 _ rfl
  have s0 := hk2.frozen 0
  have s1 := hk2.frozen 1
  have s2 := hk2.frozen 2
  have s3 := hk2.frozen 3
  have s4 := hk2.frozen 4
  have hrl := hk2.lt
  have hgl : g < w2.heap.size := (hR2.row.lt g rfl).2
  have HE : Hid (Av (lowS U.heap.size) w2 y o' cap' ∧ Blk w2 (w.heap.size + 1) #[.int .i64 0, .string ⟨#[]⟩, .int .i64 0, .slice none 0 0, .int .i64 0] 24 ∧ Below w.heap.size w w2 ∧ w.heap.size + 2 ≤ U.heap.size) := ⟨hav, hk2, HS2.out.1.trans (hb2.mono HS2.out.1.size), HS2.out.2.2⟩
  have hgne : g ≠ w.heap.size + 1 := by have := HS2.out.2.2; omega
  clear hav hk2 hR2 hm2 hb2 hcell HB HS2 c0 c1 c2 c3 c4 cl HU hgU
  go_wp2
  have hK := HE.out.2.1.sets5N (.int .i64 y.kind) (.string (bs y.name)) (.int .i64 y.num) (.slice o' y.kids.length cap') (.int .i64 y.pos)
  have hblk : ∀ j, j < w2.heap.size → U.heap.size ≤ j → (((((w2.setCell ⟨w.heap.size + 1, 0, none⟩ (.int .i64 y.kind)).setCell ⟨w.heap.size + 1, 1, none⟩ (.string (bs y.name))).setCell ⟨w.heap.size + 1, 2, none⟩ (.int .i64 y.num)).setCell ⟨w.heap.size + 1, 3, none⟩ (.slice o' y.kids.length cap')).setCell ⟨w.heap.size + 1, 4, none⟩ (.int .i64 y.pos)).heap[j]? = w2.heap[j]? := fun j hj hl => by
    have hne : j ≠ w.heap.size + 1 := by have := HE.out.2.2.2; omega
    rw [heap_setCell_other _ _ _ _ hne, heap_setCell_other _ _ _ _ hne, heap_setCell_other _ _ _ _ hne, heap_setCell_other _ _ _ _ hne, heap_setCell_other _ _ _ _ hne]
  have hBW : Below w.heap.size w (((((w2.setCell ⟨w.heap.size + 1, 0, none⟩ (.int .i64 y.kind)).setCell ⟨w.heap.size + 1, 1, none⟩ (.string (bs y.name))).setCell ⟨w.heap.size + 1, 2, none⟩ (.int .i64 y.num)).setCell ⟨w.heap.size + 1, 3, none⟩ (.slice o' y.kids.length cap')).setCell ⟨w.heap.size + 1, 4, none⟩ (.int .i64 y.pos)) :=
    Below.setCell (p := ⟨w.heap.size + 1, 4, none⟩) (Below.setCell (p := ⟨w.heap.size + 1, 3, none⟩) (Below.setCell (p := ⟨w.heap.size + 1, 2, none⟩) (Below.setCell (p := ⟨w.heap.size + 1, 1, none⟩) (Below.setCell (p := ⟨w.heap.size + 1, 0, none⟩) HE.out.2.2.1 (Nat.le_succ _) _) (Nat.le_succ _) _) (Nat.le_succ _) _) (Nat.le_succ _) _) (Nat.le_succ _) _
  have hsz : w2.heap.size ≤ (((((w2.setCell ⟨w.heap.size + 1, 0, none⟩ (.int .i64 y.kind)).setCell ⟨w.heap.size + 1, 1, none⟩ (.string (bs y.name))).setCell ⟨w.heap.size + 1, 2, none⟩ (.int .i64 y.num)).setCell ⟨w.heap.size + 1, 3, none⟩ (.slice o' y.kids.length cap')).setCell ⟨w.heap.size + 1, 4, none⟩ (.int .i64 y.pos)).heap.size := by simp
  generalize (((((w2.setCell ⟨w.heap.size + 1, 0, none⟩ (.int .i64 y.kind)).setCell ⟨w.heap.size + 1, 1, none⟩ (.string (bs y.name))).setCell ⟨w.heap.size + 1, 2, none⟩ (.int .i64 y.num)).setCell ⟨w.heap.size + 1, 3, none⟩ (.slice o' y.kids.length cap')).setCell ⟨w.heap.size + 1, 4, none⟩ (.int .i64 y.pos)) = WF at hK hblk hBW hsz ⊢
  have g0 := hK.cell 0 _ rfl
  have g1 := hK.cell 1 _ rfl
  have g2 := hK.cell 2 _ rfl
  have g3 := hK.cell 3 _ rfl
  have g4 := hK.cell 4 _ rfl
  have hav2 : Av (lowS U.heap.size) WF y o' cap' := HE.out.1.move (fun j hj hS => ⟨hblk j hj (lowS_no.1 hS), hS⟩) hsz
  exact bodyPost_ret (v := .agg #[.int .i64 y.kind, .string (bs y.name), .int .i64 y.num, .slice o' y.kids.length cap', .int .i64 y.pos]) (by simp [results, Tryz.results11, go_sem, g0, g1, g2, g3, g4]) rfl ⟨o', cap', rfl, hav2.nin, hBW⟩
end Go.Proofs.YtndpebkiiemfpaaGreatDoor

namespace Go.Proofs.YtndpebkiiemfpaaGreatDoor
set_option linter.unusedVariables false

mutual
theorem bareNidem : ∀ n : Nd, bareL (bareN n) = bareN n
  | .mk k nm nu kids ps => by
    have h := bareLidem kids
    by_cases hk : k = 30
    · simp only [bareN, if_pos hk]; exact h
    · simp only [bareN, if_neg hk, bareL, h, List.append_nil]
theorem bareLidem : ∀ l : List Nd, bareL (bareL l) = bareL l
  | [] => rfl
  | x :: l => by
    simp only [bareL, bareL_app, bareNidem x, bareLidem l]
end
theorem plL_app : ∀ a b : List Nd, plL a → plL b → plL (a ++ b)
  | [], b, _, hb => hb
  | x :: a, b, ha, hb => by
    simp only [plL, List.cons_append] at ha ⊢
    exact ⟨ha.1, plL_app a b ha.2 hb⟩
mutual
theorem bareNpl : ∀ n : Nd, plL (bareN n)
  | .mk k nm nu kids ps => by
    have h := bareLpl kids
    by_cases hk : k = 30
    · simp only [bareN, if_pos hk]; exact h
    · simp only [bareN, if_neg hk, plL, plA, and_true]; exact ⟨hk, h⟩
theorem bareLpl : ∀ l : List Nd, plL (bareL l)
  | [] => trivial
  | x :: l => by
    simp only [bareL]
    exact plL_app _ _ (bareNpl x) (bareLpl l)
end
theorem szL_app : ∀ a b : List Nd, szL (a ++ b) = szL a + szL b
  | [], b => by simp [szL]
  | x :: a, b => by simp only [List.cons_append, szL, szL_app a b]; omega
mutual
theorem bareNsz : ∀ n : Nd, szL (bareN n) ≤ szA n
  | .mk k nm nu kids ps => by
    have h := bareLsz kids
    by_cases hk : k = 30
    · simp only [bareN, if_pos hk, szA]; omega
    · simp only [bareN, if_neg hk, szL, szA]; omega
theorem bareLsz : ∀ l : List Nd, szL (bareL l) ≤ szL l
  | [] => Nat.le_refl _
  | x :: l => by
    have h1 := bareNsz x
    have h2 := bareLsz l
    simp only [bareL, szL_app, szL]; omega
end
theorem deep_succ : ∀ (d : Nat) (n : Nd), deepLe d n → deepLe (d + 1) n
  | 0, n, h => h.elim
  | d + 1, n, h => fun k hk => deep_succ d k (h k hk)
theorem bareLmem : ∀ (l : List Nd) (y : Nd), y ∈ bareL l → ∃ x ∈ l, y ∈ bareN x
  | x :: l, y, h => by
    simp only [bareL] at h
    rcases List.mem_append.1 h with h | h
    · exact ⟨x, by simp, h⟩
    · obtain ⟨z, hz, hy⟩ := bareLmem l y h
      exact ⟨z, by simp [hz], hy⟩
theorem bareNdeep : ∀ (d : Nat) (n : Nd), deepLe d n → ∀ y ∈ bareN n, deepLe d y
  | 0, n, h, _, _ => h.elim
  | d + 1, n, h, y, hy => by
    rw [bareNeq] at hy
    by_cases hk : n.kind = 30
    · rw [if_pos hk] at hy
      obtain ⟨x, hx, hyx⟩ := bareLmem _ _ hy
      exact deep_succ d y (bareNdeep d x (h x hx) y hyx)
    · rw [if_neg hk] at hy
      obtain rfl : y = _ := by simpa using hy
      intro z hz
      obtain ⟨x, hx, hzx⟩ := bareLmem n.kids z hz
      exact bareNdeep d x (h x hx) z hzx
mutual
/-- The names of a tree's variables. -/
def vsN : Nd → List (List UInt8)
  | .mk k nm _ kids _ => (if k = 11 then [nm] else []) ++ vsL kids
def vsL : List Nd → List (List UInt8)
  | [] => []
  | x :: l => vsN x ++ vsL l
end
theorem vsL_app : ∀ a b : List Nd, vsL (a ++ b) = vsL a ++ vsL b
  | [], b => rfl
  | x :: a, b => by simp only [List.cons_append, vsL, vsL_app a b, List.append_assoc]
mutual
theorem bareNvs : ∀ n : Nd, vsL (bareN n) = vsN n
  | .mk k nm nu kids ps => by
    have h := bareLvs kids
    by_cases hk : k = 30
    · have h11 : ¬ k = 11 := by omega
      simp only [bareN, if_pos hk, vsN, if_neg h11, List.nil_append]; exact h
    · simp only [bareN, if_neg hk, vsL, vsN, h, List.append_nil]
theorem bareLvs : ∀ l : List Nd, vsL (bareL l) = vsL l
  | [] => rfl
  | x :: l => by simp only [bareL, vsL_app, bareNvs x, bareLvs l, vsL]
end
theorem bareOne : ∀ (d : Nat) (n : Nd), mbM d n = true → ∃ y, bareN n = [y]
  | 0, n, h => by cases h
  | d + 1, n, h => by
    unfold mbM at h
    simp only [Bool.and_eq_true, List.all_eq_true] at h
    rw [bareNeq]
    by_cases hk : n.kind = 30
    · rw [if_pos hk]
      have ho := h.1
      unfold ownM at ho
      rw [hk] at ho
      have hf : fitsB [oneP isExpB] (kinds n.kids) = true := by
        simp only [show kp 30 = some [oneP isExpB] from rfl, Bool.and_eq_true] at ho
        exact ho.2
      cases hl : n.kids with
      | nil => rw [hl] at hf; simp [kinds, fitsB, oneP] at hf
      | cons a r =>
        rw [hl] at hf
        have hr : r = [] := by
          have e : kinds (a :: r) = a.kind :: kinds r := rfl
          rw [e] at hf
          unfold fitsB at hf
          cases hc : isExpB a.kind
          · have e1 : oneP isExpB (a.kind :: kinds r) = -1 := by simp [oneP, hc]
            rw [e1] at hf; simp at hf
          · have e1 : oneP isExpB (a.kind :: kinds r) = 1 := by simp [oneP, hc]
            rw [e1] at hf
            cases r with
            | nil => rfl
            | cons b r => simp [kinds, fitsB] at hf
        subst hr
        obtain ⟨y, hy⟩ := bareOne d a (h.2 a (by rw [hl]; simp))
        exact ⟨y, by simp [bareL, hy]⟩
    · rw [if_neg hk]; exact ⟨_, rfl⟩
theorem all2_refl (f : Nd → Nd → Bool) : ∀ l : List Nd, (∀ x ∈ l, f x x = true) → all2 f l l = true
  | [], _ => rfl
  | x :: l, h => by
    unfold all2
    rw [if_pos (h x (by simp))]
    exact all2_refl f l (fun y hy => h y (by simp [hy]))
theorem same_refl : ∀ (d : Nat) (n : Nd), deepLe d n → sameM d n n = true
  | 0, n, h => h.elim
  | d + 1, n, h => by
    unfold sameM
    rw [if_pos ⟨rfl, rfl, rfl, rfl⟩]
    exact all2_refl _ _ (fun x hx => same_refl d x (h x hx))
theorem same_pos (d : Nat) (n : Nd) (p : Int) (h : deepLe d n) : sameM d (.mk n.kind n.name n.num n.kids p) n = true := by
  cases d with
  | zero => exact h.elim
  | succ d =>
    unfold sameM
    rw [if_pos ⟨rfl, rfl, rfl, rfl⟩]
    exact all2_refl _ _ (fun x hx => same_refl d x (h x hx))
theorem bare_pos (n : Nd) (p : Int) : bareN (.mk n.kind n.name n.num n.kids p) = bareN n := by
  rw [bareNeq, bareNeq]; rfl
end Go.Proofs.YtndpebkiiemfpaaGreatDoor

namespace Go.Proofs.YtndpebkiiemfpaaGreatDoor
open Go.RowKit Go.Shelf Go.Maps
set_option linter.unusedVariables false

theorem szLtk : ∀ (l : List Nd) (k : Nat) (h : k < l.length), szL (l.take (k + 1)) = szL (l.take k) + szA l[k]
  | x :: l, 0, h => by simp [szL]
  | x :: l, k + 1, h => by
    have := szLtk l k (by simpa using h)
    simp only [List.take_succ_cons, szL, List.getElem_cons_succ]
    omega
set_option maxRecDepth 100000 in
set_option maxHeartbeats 4000000 in
theorem nodes5_c (most : Int) (hm : 0 ≤ most ∧ most ≤ 1000000) : ∀ (d : Nat) (hd : d ≤ 1000) (n : Nd) (o : Option Addr) (cap : Nat) (w : World), NdIn w w.heap.size n o cap →
    Calls Tryz.prog 21 #[.agg #[.int .i64 n.kind, .string (bs n.name), .int .i64 n.num, .slice o n.kids.length cap, .int .i64 n.pos], .int .i64 most, .int .i64 d] w fun e W' => ∃ x : Int, e = .returned (.int .i64 x) ∧ (1 ≤ x ∧ x ≤ 200000000000000000 + 2000000 * (d : Int) ∧ (x ≤ most → (szA n : Int) ≤ x)) ∧ Below w.heap.size w W'
  | 0, hd, n, o, cap, w, hn => by
    have hl : (bs n.name).size ≤ 9223372036854775807 := hn.2.2.2.2.1
    have hl2 : ((bs n.name).size : Int) ≤ 9223372036854775807 := by omega
    have HB : Hid (∀ a, Below w.heap.size w (w.alloc a)) := fun a => (Below.refl _ w).alloc (Nat.le_refl _) _
    clear hn
    generalize bs n.name = nm at *
    go_enter Tryz.func21, Tryz.ntmps21
    go_wp2
    go_ret
    exact ⟨_, rfl, ⟨by omega, by omega, fun h => by omega⟩, HB.out _⟩
  | d + 1, hd, n, o, cap, w, hn => by
    have hl : (bs n.name).size ≤ 9223372036854775807 := hn.2.2.2.2.1
    have hl2 : ((bs n.name).size : Int) ≤ 9223372036854775807 := by omega
    have HN : Hid (NdIn w w.heap.size n o cap) := hn
    have HSZ : Hid ((bs n.name).size = n.name.length) := rfl
    obtain ⟨nl, hnl⟩ : ∃ nl : Int, nl = (n.name.length : Int) := ⟨_, rfl⟩
    have HNL : Hid (nl = (n.name.length : Int)) := hnl
    have hnz : ((bs n.name).size : Int) = nl := hnl.symm
    clear hnl
    have hdB : (d : Int) ≤ 1000 := by omega
    have hdB0 : 0 ≤ (d : Int) := by omega
    have HIH : Hid (∀ (n : Nd) (o : Option Addr) (cap : Nat) (w : World), NdIn w w.heap.size n o cap → Calls Tryz.prog 21 #[.agg #[.int .i64 n.kind, .string (bs n.name), .int .i64 n.num, .slice o n.kids.length cap, .int .i64 n.pos], .int .i64 most, .int .i64 d] w fun e W' => ∃ x : Int, e = .returned (.int .i64 x) ∧ (1 ≤ x ∧ x ≤ 200000000000000000 + 2000000 * (d : Int) ∧ (x ≤ most → (szA n : Int) ≤ x)) ∧ Below w.heap.size w W') := fun n o cap w h => nodes5_c most hm d (by omega) n o cap w h
    have hd0 : ¬ ((d + 1 : Nat) : Int) = 0 := by omega
    have hd1 : (((d + 1 : Nat) : Int) == 0) = false := by simpa using hd0
    have hdw : ((d + 1 : Nat) : Int) - 1 = (d : Int) := by omega
    have hcap : n.kids.length ≤ cap ∧ cap ≤ 9223372036854775807 := ⟨hn.2.1, hn.2.2.1⟩
    have hLi : (n.kids.length : Int) ≤ 9223372036854775807 := by omega
    obtain ⟨dd, hdd⟩ : ∃ dd : Int, dd = ((d + 1 : Nat) : Int) := ⟨_, rfl⟩
    have HDD : Hid (dd - 1 = (d : Int)) := by show _ = _; omega
    have hdw2 : IntKind.i64.wrap (dd - 1) = dd - 1 := by rw [IntKind.wrap_i64]; omega
    rw [← hdd] at hd0 hd1 ⊢
    have HV : Hid (∀ W : World, Below w.heap.size w W → Blk W w.heap.size #[.int .i64 n.kind, .string (bs n.name), .int .i64 n.num, .slice o n.kids.length cap, .int .i64 n.pos] 24 → True) := fun _ _ _ => trivial
    have HB0 : Hid (Below w.heap.size w (w.alloc (.cells #[.int .i64 n.kind, .string (bs n.name), .int .i64 n.num, .slice o n.kids.length cap, .int .i64 n.pos] 24)) ∧ Blk (w.alloc (.cells #[.int .i64 n.kind, .string (bs n.name), .int .i64 n.num, .slice o n.kids.length cap, .int .i64 n.pos] 24)) w.heap.size #[.int .i64 n.kind, .string (bs n.name), .int .i64 n.num, .slice o n.kids.length cap, .int .i64 n.pos] 24) := ⟨(Below.refl _ w).alloc (Nat.le_refl _) _, Blk.new w _ _⟩
    clear hn hdw hdd HV hd
    generalize hnm : bs n.name = nm at *
    have HNM : Hid (bs n.name = nm) := hnm
    clear hnm
    go_enter Tryz.func21, Tryz.ntmps21
    go_wp2
    go_loopg [7, 8] n.kids.length (fun g v7 v8 wr => ∃ (x : Int) (k : Nat), v7 = .int .i64 x ∧ v8 = .int .i64 k ∧ k ≤ n.kids.length ∧ n.kids.length - k ≤ g ∧ (1 ≤ x ∧ x ≤ 200000000000000000 + 2000000 * ((d : Int) + 1)) ∧ Hid (x ≤ most → 1 + (szL (n.kids.take k) : Int) ≤ x) ∧ Hid (Below w.heap.size w wr ∧ Blk wr w.heap.size #[.int .i64 n.kind, .string nm, .int .i64 n.num, .slice o n.kids.length cap, .int .i64 n.pos] 24))
    case atStart => exact ⟨_, 0, rfl, rfl, Nat.zero_le _, Nat.le_refl _, ⟨by omega, by omega⟩, (fun _ => by simp [szL]; omega), HB0⟩
    case round =>
      clear HB0
      obtain ⟨x, k, rfl, rfl, hk, hg, ⟨hx1, hx2⟩, HX, HI⟩ := hrel
      have hBk := HI.out.2
      have hlt := hBk.lt
      have b3 := hBk.cell 3 _ rfl
      by_cases hkl : k < n.kids.length
      · have hkz : (k : Int) < (n.kids.length : Int) := by omega
        by_cases hx : x ≤ most
        · obtain ⟨g1, off1, ho, hg1, hKA⟩ := HN.out.1.at k hkl
          have hnk := KidsAt.get n.kids g1 off1 k hkl hKA
          obtain ⟨o2, cap2, c0, c1, c2, c3, c4, hni⟩ := ndIn_of hnk
          have e0 := (HI.out.1.cell (p := ⟨g1, off1 + k * 5, none⟩) hg1).trans c0
          have e1 := (HI.out.1.cell (p := ⟨g1, off1 + k * 5 + 1, none⟩) hg1).trans c1
          have e2 := (HI.out.1.cell (p := ⟨g1, off1 + k * 5 + 2, none⟩) hg1).trans c2
          have e3 := (HI.out.1.cell (p := ⟨g1, off1 + k * 5 + 3, none⟩) hg1).trans c3
          have e4 := (HI.out.1.cell (p := ⟨g1, off1 + k * 5 + 4, none⟩) hg1).trans c4
          have HC : Hid (Calls Tryz.prog 21 #[.agg #[.int .i64 n.kids[k].kind, .string (bs n.kids[k].name), .int .i64 n.kids[k].num, .slice o2 n.kids[k].kids.length cap2, .int .i64 n.kids[k].pos], .int .i64 most, .int .i64 d] wr fun e W' => ∃ x : Int, e = .returned (.int .i64 x) ∧ (1 ≤ x ∧ x ≤ 200000000000000000 + 2000000 * (d : Int) ∧ (x ≤ most → (szA n.kids[k] : Int) ≤ x)) ∧ Below wr.heap.size wr W') := HIH.out n.kids[k] o2 cap2 wr ((hni.below HI.out.1).mono HI.out.1.size)
          have HTK : Hid (szL (n.kids.take (k + 1)) = szL (n.kids.take k) + szA n.kids[k]) := szLtk _ _ hkl
          generalize n.kids[k] = kd at e0 e1 e2 e3 e4 HC HTK
          subst ho
          clear c0 c1 c2 c3 c4 hni hnk hKA hBk
          go_wp2_with (go_at_call 21; fail)
          rw [HDD.out]
          refine HC.out.mono ?_
          rintro e w2 ⟨y, rfl, ⟨hy1, hy2, hy3⟩, hb2⟩
          have HY : Hid (y ≤ most → (szA kd : Int) ≤ y) := hy3
          clear hy3
          have HF : Hid (Below w.heap.size w w2 ∧ Blk w2 w.heap.size #[.int .i64 n.kind, .string nm, .int .i64 n.num, .slice (some ⟨g1, off1, none⟩) n.kids.length cap, .int .i64 n.pos] 24) := ⟨HI.out.1.trans (hb2.mono HI.out.1.size), HI.out.2.below hb2⟩
          rw [← HDD.out]
          clear hb2 HC
          go_wp2
          go_roundg (n.kids.length - (k + 1))
          case measure => omega
          case rel =>
            refine ⟨_, k + 1, rfl, by go_num, by omega, Nat.le_refl _, ⟨by omega, by omega⟩, ?_, HF⟩
            intro hxy
            have h1 := HX.out hx
            have h2 := HY.out (by omega)
            rw [HTK.out]
            omega
        · go_wp2
          go_ret
          exact ⟨x, rfl, ⟨hx1, by have := HDD.out; omega, fun h => by omega⟩, HI.out.1⟩
      · have hkz : ¬ (k : Int) < (n.kids.length : Int) := by omega
        go_wp2
        go_ret
        refine ⟨x, rfl, ⟨hx1, by have := HDD.out; omega, fun h => ?_⟩, HI.out.1⟩
        have h1 := HX.out h
        have h2 : n.kids.take k = n.kids := List.take_of_length_le (by omega)
        rw [h2] at h1
        rw [szA_eq]
        have h3 := HNL.out
        omega
set_option maxRecDepth 100000 in
set_option maxHeartbeats 4000000 in
theorem smallNode5_c (most : Int) (hm : 0 ≤ most ∧ most ≤ 1000000) (d : Nat) (hd : d ≤ 1000) (n : Nd) (o : Option Addr) (cap : Nat) (w : World) (hn : NdIn w w.heap.size n o cap) :
    Calls Tryz.prog 6 #[.agg #[.int .i64 n.kind, .string (bs n.name), .int .i64 n.num, .slice o n.kids.length cap, .int .i64 n.pos], .int .i64 most, .int .i64 d] w fun e W' => ∃ b : Bool, e = .returned (.bool b) ∧ (b = true → (szA n : Int) ≤ most) ∧ Below w.heap.size w W' := by
  have hb0 : Below w.heap.size w (w.alloc (.cells #[.int .i64 n.kind, .string (bs n.name), .int .i64 n.num, .slice o n.kids.length cap, .int .i64 n.pos] 24)) := (Below.refl _ w).alloc (Nat.le_refl _) _
  have HC : Hid (Calls Tryz.prog 21 #[.agg #[.int .i64 n.kind, .string (bs n.name), .int .i64 n.num, .slice o n.kids.length cap, .int .i64 n.pos], .int .i64 most, .int .i64 d] (w.alloc (.cells #[.int .i64 n.kind, .string (bs n.name), .int .i64 n.num, .slice o n.kids.length cap, .int .i64 n.pos] 24)) fun e W' => ∃ x : Int, e = .returned (.int .i64 x) ∧ (1 ≤ x ∧ x ≤ 200000000000000000 + 2000000 * (d : Int) ∧ (x ≤ most → (szA n : Int) ≤ x)) ∧ Below (w.alloc (.cells #[.int .i64 n.kind, .string (bs n.name), .int .i64 n.num, .slice o n.kids.length cap, .int .i64 n.pos] 24)).heap.size (w.alloc (.cells #[.int .i64 n.kind, .string (bs n.name), .int .i64 n.num, .slice o n.kids.length cap, .int .i64 n.pos] 24)) W') := nodes5_c most hm d hd n o cap _ ((hn.below hb0).mono hb0.size)
  have HB : Hid (Below w.heap.size w (w.alloc (.cells #[.int .i64 n.kind, .string (bs n.name), .int .i64 n.num, .slice o n.kids.length cap, .int .i64 n.pos] 24))) := hb0
  clear hn hb0
  go_enter Tryz.func6, Tryz.ntmps6
  go_wp2_with (go_at_call 21; fail)
  refine HC.out.mono ?_
  rintro e w2 ⟨x, rfl, ⟨hx1, hx2, hx3⟩, hb2⟩
  have HX : Hid (x ≤ most → (szA n : Int) ≤ x) := hx3
  clear hx3 hx1 hx2
  have HF : Hid (Below w.heap.size w w2) := HB.out.trans (hb2.mono HB.out.size)
  clear hb2 HC
  go_wp2
  go_ret
  refine ⟨_, rfl, fun hb => ?_, HF.out⟩
  have h1 : x ≤ most := by simpa using hb
  have := HX.out h1
  omega
end Go.Proofs.YtndpebkiiemfpaaGreatDoor

namespace Go.Proofs.YtndpebkiiemfpaaGreatDoor
open Go.RowKit Go.Shelf Go.Maps
set_option linter.unusedVariables false

/-- A set of names in memory. -/
def SetIs (W : World) (f c : Nat) (F : List UInt8 → Bool) : Prop := ∃ D : DataW Value, W.ownsMap Tryz.prog 9 heldElem f c D ∧ Maps.IsMap D ∧ ∀ x, Maps.has D (.string x) = F x
theorem SetIs.lt {W : World} {f c : Nat} {F : List UInt8 → Bool} (h : SetIs W f c F) : f < W.heap.size := by
  obtain ⟨D, h1, _⟩ := h
  exact h1.lt
theorem SetIs.same {W W' : World} {f c : Nat} {F : List UInt8 → Bool} (h : SetIs W f c F) (hb : W'.heap[f]? = W.heap[f]?) : SetIs W' f c F := by
  obtain ⟨D, ⟨es, clock, k1, k2⟩, h2⟩ := h
  exact ⟨D, ⟨es, clock, by rw [hb]; exact k1, k2⟩, h2⟩
theorem setIs_new (W : World) : SetIs (W.alloc (.map #[] 0)) W.heap.size 0 (fun _ => false) := ⟨.map [], World.ownsMap_made W Tryz.prog 9 heldElem, ⟨_, rfl⟩, fun x => rfl⟩
theorem SetIs.put {W : World} {f c : Nat} {F : List UInt8 → Bool} (h : SetIs W f c F) (hc : c < 4000000) (s : ByteArray) (hs : s.size ≤ maxLen) :
    ∃ W', (Instr.mapUpdate 67 (.map (some f)) (.string s) (.agg #[])).run Tryz.prog W = .ok () W' ∧ SetIs W' f (c + 1) (fun x => (x == s.data.toList) || F x) ∧ But f W W' := by
  obtain ⟨D, hown, hD, hall⟩ := h
  obtain ⟨w', h5, h6, h7⟩ := hown.store (string_keyed Tryz.underlying9) Tryz.underlying67 (by unfold maxLen; omega) (key_str s hs) (d := .held (.agg #[])) (ps := []) rfl
  refine ⟨w', h5, ⟨_, h6, ?_, fun x => ?_⟩, ?_⟩
  · obtain ⟨es2, rfl⟩ := hD
    exact ⟨_, rfl⟩
  · show Maps.has _ _ = ((x == s.data.toList) || F x)
    by_cases hx : x = s.data.toList
    · subst hx
      rw [Maps.has_put_same hD (by constructor)]
      simp
    · rw [Maps.has_put_other (by simpa using hx), hall x]
      simp [hx]
  · obtain ⟨es, clock, es', clock', hb, rfl⟩ := h7
    refine ⟨rfl, rfl, rfl, ?_, fun k hk hn => Go.ChangeMaps.heap_setBlock_other hb _ hn⟩
    show _ ≤ (W.heap.setIfInBounds f _).size
    simp

theorem vsNeq (n : Nd) : vsN n = (if n.kind = 11 then [n.name] else []) ++ vsL n.kids := by cases n; simp only [vsN, Nd.kind, Nd.name, Nd.kids]; rfl
theorem vsLtk (l : List Nd) (k : Nat) (h : k < l.length) : vsL (l.take (k + 1)) = vsL (l.take k) ++ vsN l[k] := by
  rw [List.take_succ_eq_append_getElem h, vsL_app]
  simp [vsL]
theorem szLtk2 : ∀ (l : List Nd) (k : Nat) (h : k < l.length), szL (l.take (k + 1)) = szL (l.take k) + szA l[k]
  | x :: l, 0, h => by simp [szL]
  | x :: l, k + 1, h => by
    have := szLtk2 l k (by simpa using h)
    simp only [List.take_succ_cons, szL, List.getElem_cons_succ]
    omega
def GatOK (d : Nat) : Prop := ∀ (n : Nd) (g off B f c : Nat) (F : List UInt8 → Bool) (w : World), NdAt w B n g off → g < B → B ≤ f → deepLe d n → c + szA n ≤ 2000000 → SetIs w f c F →
  Calls Tryz.prog 39 #[.pointer (some ⟨g, off, none⟩), .map (some f)] w fun e W' => e = .returned (.tuple #[]) ∧ ∃ c', c' ≤ c + szA n ∧ SetIs W' f c' (fun x => decide (x ∈ vsN n) || F x) ∧ But f w W'
set_option maxRecDepth 100000 in
set_option maxHeartbeats 4000000 in
/-- What comes behind the node's own name. -/
theorem gat_step (d : Nat) (ih : GatOK d) : GatOK (d + 1) := by
  intro n g off B f c F w h hg hB hd hz hS
  obtain ⟨o, cap, q0, q1, q2, q3, q4, hc1, hc2, hK⟩ := h.cells
  have hwf := h.wf
  have hl : (bs n.name).size ≤ maxLen := by have := hwf.2.1; rw [bs_size]; unfold maxLen; omega
  obtain ⟨m, hm⟩ : ∃ m, n.kids.length = m := ⟨_, rfl⟩
  have HM : Hid (n.kids.length = m) := hm
  have hmi : (m : Int) ≤ 9223372036854775807 := by omega
  have hsz := szA_eq n
  have HIH : Hid (∀ k (hk : k < n.kids.length) (g off B f c : Nat) (F : List UInt8 → Bool) (w : World), NdAt w B n.kids[k] g off → g < B → B ≤ f → c + szA n.kids[k] ≤ 2000000 → SetIs w f c F → Calls Tryz.prog 39 #[.pointer (some ⟨g, off, none⟩), .map (some f)] w fun e W' => e = .returned (.tuple #[]) ∧ ∃ c', c' ≤ c + szA n.kids[k] ∧ SetIs W' f c' (fun x => decide (x ∈ vsN n.kids[k]) || F x) ∧ But f w W') := fun k hk g off B f c F w h1 h2 h3 h4 h5 => ih n.kids[k] g off B f c F w h1 h2 h3 (hd _ (List.getElem_mem hk)) h4 h5
  have HK : Hid (KIn w B o n.kids ∧ B ≤ f ∧ g < B ∧ B ≤ w.heap.size) := ⟨hK, hB, hg, Nat.le_trans hB (Nat.le_of_lt hS.lt)⟩
  have HZ : Hid (c + 1 + szL n.kids ≤ 2000000 ∧ szA n = 1 + szL n.kids) := ⟨by omega, hsz⟩
  have hlt := hS.lt
  have hgne : g ≠ f := by omega
  have hgl : g < w.heap.size := by omega
  rw [hm] at q3 hc1
  clear h hd hz hsz hwf hK
  by_cases h11 : n.kind = 11
  · have h11b : (n.kind == 11) = true := by simp [h11]
    obtain ⟨W1, hrun, hS1, hb1⟩ := hS.put (by have := HZ.out.1; omega) (bs n.name) hl
    have hV : Hid (∀ x, decide (x ∈ vsN n) = (decide (x ∈ vsL n.kids) || (x == n.name))) := fun x => by
      rw [vsNeq, if_pos h11]
      by_cases hx : x = n.name <;> by_cases hy : x ∈ vsL n.kids <;> simp [hx, hy]
    have HS1 : Hid (SetIs W1 f (c + 1) (fun x => (x == n.name) || F x) ∧ But f w W1) := ⟨hS1, hb1⟩
    have p3 := (hb1.cell g (off + 3) hgl hgne).trans q3
    clear hS hS1 hb1
    go_enter Tryz.func39, Tryz.ntmps39
    go_wp2
    go_loopg [4, 21] m (fun g v4 v21 wr => ∃ (k : Nat), v21 = .int .i64 k ∧ k ≤ m ∧ m - k ≤ g ∧ Hid (∃ c', c' ≤ (c + 1) + szL (n.kids.take k) ∧ SetIs wr f c' (fun x => decide (x ∈ vsL (n.kids.take k)) || (fun x => (x == n.name) || F x) x) ∧ But f W1 wr))
    case atStart => exact ⟨0, rfl, Nat.zero_le _, Nat.le_refl _, ⟨(c + 1), Nat.le_refl _, by simpa [vsL] using HS1.out.1, But.refl _ _⟩⟩
    case round =>
      obtain ⟨k, rfl, hk, hgk, HJ⟩ := hrel
      obtain ⟨c', hc', hS', hb'⟩ := HJ.out
      have r3 := (hb'.cell g (off + 3) (Nat.lt_of_lt_of_le hgl HS1.out.2.size) hgne).trans p3
      have hgl2 : g < wr.heap.size := Nat.lt_of_lt_of_le hgl (Nat.le_trans HS1.out.2.size hb'.size)
      by_cases hkl : k < m
      · have hkL : k < n.kids.length := by rw [HM.out]; exact hkl
        have hkz : (k : Int) < (m : Int) := by omega
        obtain ⟨g1, off1, ho, hg1, hKA⟩ := HK.out.1.at k hkL
        have hnk := KidsAt.get n.kids g1 off1 k hkL hKA
        have hbw : But f w wr := HS1.out.2.trans hb'
        have hnk2 : NdAt wr B n.kids[k] g1 (off1 + k * 5) := NdAt.but hbw HK.out.2.1 HK.out.2.2.2 _ g1 _ (Nat.lt_of_lt_of_le hg1 HK.out.2.2.2) (by have := HK.out.2.1; omega) hnk
        have hsk := szLtk2 n.kids k hkL
        have hst : szL (n.kids.take k) + szA n.kids[k] ≤ szL n.kids := szL_take n.kids k hkL
        have HC := HIH.out k hkL g1 (off1 + k * 5) B f c' _ wr hnk2 hg1 HK.out.2.1 (by have := HZ.out.1; omega) hS'
        have HC2 : Hid (Calls Tryz.prog 39 #[.pointer (some ⟨g1, off1 + k * 5, none⟩), .map (some f)] wr fun e W' => e = .returned (.tuple #[]) ∧ (∃ c', c' ≤ (c + 1) + szL (n.kids.take (k + 1)) ∧ SetIs W' f c' (fun x => decide (x ∈ vsL (n.kids.take (k + 1))) || (fun x => (x == n.name) || F x) x) ∧ But f W1 W')) := HC.mono (fun e W' ⟨h1, c2, h2, h3, h4⟩ => ⟨h1, c2, by omega, by
          have e : (fun x => decide (x ∈ vsL (n.kids.take (k + 1))) || (fun x => (x == n.name) || F x) x) = (fun x => decide (x ∈ vsN n.kids[k]) || (decide (x ∈ vsL (n.kids.take k)) || (fun x => (x == n.name) || F x) x)) := by
            funext x
            rw [vsLtk n.kids k hkL]
            by_cases h5 : x ∈ vsL (n.kids.take k) <;> by_cases h6 : x ∈ vsN n.kids[k] <;> simp [h5, h6]
          rw [e]; exact h3, hb'.trans h4⟩)
        subst ho
        clear hnk hnk2 hKA HC hS' hb' hbw HIH hsk hst
        go_wp2_with (go_at_call 39; fail)
        refine HC2.out.mono ?_
        rintro e w2 ⟨rfl, hE⟩
        have HE : Hid (∃ c', c' ≤ (c + 1) + szL (n.kids.take (k + 1)) ∧ SetIs w2 f c' (fun x => decide (x ∈ vsL (n.kids.take (k + 1))) || (fun x => (x == n.name) || F x) x) ∧ But f W1 w2) := hE
        clear hE HC2 r3
        go_wp2
        go_roundg (m - (k + 1))
        case measure => omega
        case rel => exact ⟨k + 1, by go_num, by omega, Nat.le_refl _, HE⟩
      · have hkz : ¬ (k : Int) < (m : Int) := by omega
        have hkd : n.kids.take k = n.kids := List.take_of_length_le (by rw [HM.out]; omega)
        rw [hkd] at hc' hS'
        have HE : Hid (∃ c', c' ≤ c + szA n ∧ SetIs wr f c' (fun x => decide (x ∈ vsN n) || F x) ∧ But f w wr) := ⟨c', by have := HZ.out.2; omega, by
          have e : (fun x => decide (x ∈ vsN n) || F x) = (fun x => decide (x ∈ vsL n.kids) || (fun x => (x == n.name) || F x) x) := by
            funext x
            rw [hV.out x]
            simp only [Bool.or_assoc]
          rw [e]; exact hS', HS1.out.2.trans hb'⟩
        clear hS' hb' hc' HJ
        go_wp2
        first
          | (go_end0; exact ⟨rfl, HE.out⟩)
          | (go_ret; exact ⟨rfl, HE.out⟩)
          | exact bodyPost_ret (v := .tuple #[]) (by simp [results, Tryz.results39, go_sem]) rfl ⟨rfl, HE.out⟩
  · have h11b : (n.kind == 11) = false := by simpa using h11
    have hV : Hid (∀ x, decide (x ∈ vsN n) = decide (x ∈ vsL n.kids)) := fun x => by
      rw [vsNeq, if_neg h11, List.nil_append]
    have HS1 : Hid (SetIs w f c F ∧ But f w w) := ⟨hS, But.refl _ _⟩
    clear hS
    go_enter Tryz.func39, Tryz.ntmps39
    go_wp2
    go_loopg [4, 21] m (fun g v4 v21 wr => ∃ (k : Nat), v21 = .int .i64 k ∧ k ≤ m ∧ m - k ≤ g ∧ Hid (∃ c', c' ≤ c + szL (n.kids.take k) ∧ SetIs wr f c' (fun x => decide (x ∈ vsL (n.kids.take k)) || (F) x) ∧ But f w wr))
    case atStart => exact ⟨0, rfl, Nat.zero_le _, Nat.le_refl _, ⟨c, Nat.le_refl _, by simpa [vsL] using HS1.out.1, But.refl _ _⟩⟩
    case round =>
      obtain ⟨k, rfl, hk, hgk, HJ⟩ := hrel
      obtain ⟨c', hc', hS', hb'⟩ := HJ.out
      have r3 := (hb'.cell g (off + 3) (Nat.lt_of_lt_of_le hgl HS1.out.2.size) hgne).trans q3
      have hgl2 : g < wr.heap.size := Nat.lt_of_lt_of_le hgl (Nat.le_trans HS1.out.2.size hb'.size)
      by_cases hkl : k < m
      · have hkL : k < n.kids.length := by rw [HM.out]; exact hkl
        have hkz : (k : Int) < (m : Int) := by omega
        obtain ⟨g1, off1, ho, hg1, hKA⟩ := HK.out.1.at k hkL
        have hnk := KidsAt.get n.kids g1 off1 k hkL hKA
        have hbw : But f w wr := HS1.out.2.trans hb'
        have hnk2 : NdAt wr B n.kids[k] g1 (off1 + k * 5) := NdAt.but hbw HK.out.2.1 HK.out.2.2.2 _ g1 _ (Nat.lt_of_lt_of_le hg1 HK.out.2.2.2) (by have := HK.out.2.1; omega) hnk
        have hsk := szLtk2 n.kids k hkL
        have hst : szL (n.kids.take k) + szA n.kids[k] ≤ szL n.kids := szL_take n.kids k hkL
        have HC := HIH.out k hkL g1 (off1 + k * 5) B f c' _ wr hnk2 hg1 HK.out.2.1 (by have := HZ.out.1; omega) hS'
        have HC2 : Hid (Calls Tryz.prog 39 #[.pointer (some ⟨g1, off1 + k * 5, none⟩), .map (some f)] wr fun e W' => e = .returned (.tuple #[]) ∧ (∃ c', c' ≤ c + szL (n.kids.take (k + 1)) ∧ SetIs W' f c' (fun x => decide (x ∈ vsL (n.kids.take (k + 1))) || (F) x) ∧ But f w W')) := HC.mono (fun e W' ⟨h1, c2, h2, h3, h4⟩ => ⟨h1, c2, by omega, by
          have e : (fun x => decide (x ∈ vsL (n.kids.take (k + 1))) || (F) x) = (fun x => decide (x ∈ vsN n.kids[k]) || (decide (x ∈ vsL (n.kids.take k)) || (F) x)) := by
            funext x
            rw [vsLtk n.kids k hkL]
            by_cases h5 : x ∈ vsL (n.kids.take k) <;> by_cases h6 : x ∈ vsN n.kids[k] <;> simp [h5, h6]
          rw [e]; exact h3, hb'.trans h4⟩)
        subst ho
        clear hnk hnk2 hKA HC hS' hb' hbw HIH hsk hst
        go_wp2_with (go_at_call 39; fail)
        refine HC2.out.mono ?_
        rintro e w2 ⟨rfl, hE⟩
        have HE : Hid (∃ c', c' ≤ c + szL (n.kids.take (k + 1)) ∧ SetIs w2 f c' (fun x => decide (x ∈ vsL (n.kids.take (k + 1))) || (F) x) ∧ But f w w2) := hE
        clear hE HC2 r3
        go_wp2
        go_roundg (m - (k + 1))
        case measure => omega
        case rel => exact ⟨k + 1, by go_num, by omega, Nat.le_refl _, HE⟩
      · have hkz : ¬ (k : Int) < (m : Int) := by omega
        have hkd : n.kids.take k = n.kids := List.take_of_length_le (by rw [HM.out]; omega)
        rw [hkd] at hc' hS'
        have HE : Hid (∃ c', c' ≤ c + szA n ∧ SetIs wr f c' (fun x => decide (x ∈ vsN n) || F x) ∧ But f w wr) := ⟨c', by have := HZ.out.2; omega, by
          have e : (fun x => decide (x ∈ vsN n) || F x) = (fun x => decide (x ∈ vsL n.kids) || (F) x) := by
            funext x
            rw [hV.out x]
            skip
          rw [e]; exact hS', HS1.out.2.trans hb'⟩
        clear hS' hb' hc' HJ
        go_wp2
        first
          | (go_end0; exact ⟨rfl, HE.out⟩)
          | (go_ret; exact ⟨rfl, HE.out⟩)
          | exact bodyPost_ret (v := .tuple #[]) (by simp [results, Tryz.results39, go_sem]) rfl ⟨rfl, HE.out⟩
theorem gatOK : ∀ d, GatOK d
  | 0 => fun n g off B f c F w h hg hB hd hz hS => hd.elim
  | d + 1 => gat_step d (gatOK d)
end Go.Proofs.YtndpebkiiemfpaaGreatDoor

namespace Go.Proofs.YtndpebkiiemfpaaGreatDoor
open Go.RowKit Go.Shelf Go.Maps
set_option linter.unusedVariables false

set_option maxRecDepth 100000 in
set_option maxHeartbeats 4000000 in
theorem len64Z_c (w : World) : Calls Tryz.prog 166 #[.int .u64 0] w fun e w' => e = .returned (.int .i64 0) ∧ w' = w := by
  have hz : Lib.len8 0 = 0 := by decide
  go_enter Tryz.func166, Tryz.ntmps166
  go_wp2
  go_ret
  exact ⟨by first | (show Ending.returned (Value.int .i64 (wrap64 (wrap64 (Lib.len8 0)))) = _; rw [hz]; rfl) | rfl, rfl⟩
set_option maxRecDepth 100000 in
set_option maxHeartbeats 4000000 in
theorem lenZ_c (w : World) : Calls Tryz.prog 123 #[.int .u64 0] w fun e w' => e = .returned (.int .i64 0) ∧ w' = w := by
  have HC : Hid (Calls Tryz.prog 166 #[.int .u64 0] w fun e w' => e = .returned (.int .i64 0) ∧ w' = w) := len64Z_c w
  go_enter Tryz.func123, Tryz.ntmps123
  go_wp2_with (go_at_call 166; fail)
  refine HC.out.mono ?_
  rintro e w2 ⟨rfl, rfl⟩
  go_wp2
  go_ret
  exact ⟨rfl, rfl⟩
set_option maxRecDepth 100000 in
set_option maxHeartbeats 4000000 in
theorem insZ_c (w : World) : Calls Tryz.prog 156 #[.slice none 0 0, .int .i64 0, .int .i64 0] w fun e w' => e = .returned (.tuple #[]) ∧ w' = w := by
  go_enter Tryz.func156, Tryz.ntmps156
  go_wp2
  go_loopg [6, 7] 1 (fun g v6 v7 wr => v6 = .int .i64 1 ∧ wr = w)
  case atStart => exact ⟨rfl, rfl⟩
  case round =>
    obtain ⟨rfl, rfl⟩ := hrel
    go_wp2
    first
      | (go_end0; exact ⟨rfl, rfl⟩)
      | (go_ret; exact ⟨rfl, rfl⟩)
set_option maxRecDepth 100000 in
set_option maxHeartbeats 4000000 in
theorem pdqZ_c (w : World) : Calls Tryz.prog 122 #[.slice none 0 0, .int .i64 0, .int .i64 0, .int .i64 0] w fun e w' => e = .returned (.tuple #[]) ∧ w' = w := by
  have HC : Hid (Calls Tryz.prog 156 #[.slice none 0 0, .int .i64 0, .int .i64 0] w fun e w' => e = .returned (.tuple #[]) ∧ w' = w) := insZ_c w
  go_enter Tryz.func122, Tryz.ntmps122
  go_wp2
  go_loopg [1, 2] 1 (fun g v1 v2 wr => v1 = .int .i64 0 ∧ v2 = .int .i64 0 ∧ wr = w)
  case atStart => exact ⟨rfl, rfl, rfl⟩
  case round =>
    obtain ⟨rfl, rfl, rfl⟩ := hrel
    go_wp2_with (go_at_call 156; fail)
    refine HC.out.mono ?_
    rintro e w2 ⟨rfl, rfl⟩
    go_wp2
    first
      | (go_end0; exact ⟨rfl, rfl⟩)
      | (go_ret; exact ⟨rfl, rfl⟩)
      | exact bodyPost_ret (v := .tuple #[]) (by simp [results, Tryz.results122, go_sem]) rfl ⟨rfl, rfl⟩
set_option maxRecDepth 100000 in
set_option maxHeartbeats 4000000 in
theorem sortZ_c (w : World) : Calls Tryz.prog 66 #[.slice none 0 0] w fun e w' => e = .returned (.tuple #[]) ∧ w' = w := by
  have HL : Hid (Calls Tryz.prog 123 #[.int .u64 0] w fun e w' => e = .returned (.int .i64 0) ∧ w' = w) := lenZ_c w
  have HC : Hid (Calls Tryz.prog 122 #[.slice none 0 0, .int .i64 0, .int .i64 0, .int .i64 0] w fun e w' => e = .returned (.tuple #[]) ∧ w' = w) := pdqZ_c w
  go_enter Tryz.func66, Tryz.ntmps66
  go_wp2_with (go_at_call 123; fail)
  refine HL.out.mono ?_
  rintro e w2 ⟨rfl, rfl⟩
  go_wp2_with (go_at_call 122; fail)
  refine HC.out.mono ?_
  rintro e w3 ⟨rfl, rfl⟩
  go_wp2
  first
    | (go_end0; exact ⟨rfl, rfl⟩)
    | (go_ret; exact ⟨rfl, rfl⟩)
end Go.Proofs.YtndpebkiiemfpaaGreatDoor
