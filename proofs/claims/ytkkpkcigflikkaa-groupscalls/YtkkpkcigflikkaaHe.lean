/-
  Package groups: group, by a contract.
-/
import Derived.Test.YtkkpkcigflikkaaHd
import Derived.Test.YtkkpkcigflikkaaShelfG1
import Derived.Test.YtkkpkcigflikkaaShelfG2
namespace Go.Proofs.Ytkkpkcigflikkaa
open Go.RowKit Go.Shelf Go.Maps G
set_option linter.unusedVariables false

/-- Numbers sorted, as numbers from 0 on. -/
theorem sorted_nat (l : List Nat) (hn : l.Nodup) (hl : l ≠ []) : ∃ (m : Nat) (L : List Nat), (l.map (fun (x : Nat) => (x : Int))).mergeSort (fun x y => decide (x ≤ y)) = (m :: L).map (fun (x : Nat) => (x : Int)) ∧ (m :: L).Pairwise (· < ·) ∧ (∀ x, x ∈ m :: L ↔ x ∈ l) ∧ (m :: L).length = l.length := by
  have hp := List.mergeSort_perm (l.map (fun (x : Nat) => (x : Int))) (fun x y => decide (x ≤ y))
  have hs : ((l.map (fun (x : Nat) => (x : Int))).mergeSort (fun x y => decide (x ≤ y))).Pairwise (fun a b => decide (a ≤ b) = true) := List.pairwise_mergeSort (fun a b c h1 h2 => by simp at *; omega) (fun a b => by simp; omega) _
  generalize (l.map (fun (x : Nat) => (x : Int))).mergeSort (fun x y => decide (x ≤ y)) = zs at hp hs
  have hnn : ∀ z ∈ zs, ∃ k : Nat, z = (k : Int) := fun z hz => by
    obtain ⟨k, _, rfl⟩ := List.mem_map.1 (hp.mem_iff.1 hz); exact ⟨k, rfl⟩
  have hz : zs = (zs.map Int.toNat).map (fun (x : Nat) => (x : Int)) := by
    rw [List.map_map]
    conv => lhs; rw [← List.map_id zs]
    refine List.map_congr_left (fun z hz => ?_)
    obtain ⟨k, rfl⟩ := hnn z hz
    simp
  have hp2 : (zs.map Int.toNat).Perm l := by
    have := hp.map Int.toNat
    rw [List.map_map] at this
    simpa [Function.comp_def] using this
  have hlen := hp2.length_eq
  cases hc : zs.map Int.toNat with
  | nil => rw [hc] at hlen; exact absurd (List.eq_nil_of_length_eq_zero hlen.symm) hl
  | cons m L =>
    rw [hc] at hz hp2 hlen
    refine ⟨m, L, hz, ?_, fun x => hp2.mem_iff, hlen⟩
    have hnd : (m :: L).Nodup := hp2.nodup_iff.2 hn
    rw [hz, List.pairwise_map] at hs
    rw [List.nodup_iff_pairwise_ne] at hnd
    exact (hs.and hnd).imp (fun {a b} ⟨h1, h2⟩ => by simp at h1; omega)

open Go.Sort in
theorem holds_ints {w : World} {g : Nat} {cur : Array Value} {e : TypeId} {zs : List Int} (hb : w.heap[g]? = some (.cells cur e (0, 0))) (ht : cur.toList.take zs.length = zs.map (Value.int .i64)) : Holds (Value.int .i64) w g 0 zs.toArray := by
  intro j hj
  have hj' : j < zs.length := by simpa using hj
  refine ⟨?_, by simp [World.frozen?, hb]⟩
  have h1 : (cur.toList.take zs.length)[j]? = (zs.map (Value.int .i64))[j]? := by rw [ht]
  rw [List.getElem?_take_of_lt hj'] at h1
  simp only [World.cell?, hb, Nat.zero_add]
  simp only [Array.getElem?_toList] at h1
  simp [h1, hj']
open Go.Sort in
theorem heap_ints {w : World} {g n : Nat} {os : Array Obj} {cur : Array Value} {e : TypeId} {fr : Nat × Nat} (d : Array Int) (hb : w.heap[g]? = some (.cells cur e fr)) :
    (grow (putRow (Value.int .i64) (Sort.ahead w n) g 0 d) os).heap[g]? = some (.cells (putCells (Value.int .i64) 0 d cur) e fr) := by
  have hg : g < w.heap.size := (Array.getElem?_eq_some_iff.1 hb).1
  rw [heap_grow_old _ _ (by simpa using hg)]
  simp [putRow, mapBlock, Sort.ahead, Array.getElem?_modify, hb, onCells]
open Go.Sort in
theorem grown_ints {w : World} {g n : Nat} {os : Array Obj} (d : Array Int) : w.grownBy (grow (putRow (Value.int .i64) (Sort.ahead w n) g 0 d) os) (some g) := by
  refine ⟨rfl, rfl, rfl, by simp, fun k hk hne => ?_⟩
  rw [heap_grow_old _ _ (by simpa using hk)]
  have : g ≠ k := fun e => hne (by rw [e])
  simp [putRow, mapBlock, Sort.ahead, Array.getElem?_modify, this]
open Go.Sort in
theorem take_ints (cur : Array Value) (ts : List Int) (h : ts.length ≤ cur.size) : (putCells (Value.int .i64) 0 ts.toArray cur).toList.take ts.length = ts.map (Value.int .i64) := by
  apply List.ext_getElem?
  intro j
  by_cases hj : j < ts.length
  · rw [List.getElem?_take_of_lt hj, Array.getElem?_toList]
    simp [putCells, hj, show j < cur.size by omega]
  · rw [List.getElem?_take_eq_none (by omega), List.getElem?_eq_none (by simp; omega)]
theorem map_nv (l : List Nat) : l.map nv = (l.map (fun (x : Nat) => (x : Int))).map (Value.int .i64) := by rw [List.map_map]; rfl
/-- A row of numbers of one's own, sorted. -/
theorem sort_c {w : World} {base : Nat} {v : Value} {l : List Nat} (h : w.ownsRow base 3 1 v l.length (l.map nv)) (hn : l.Nodup) (hl : l ≠ []) (hb : l.length ≤ 20000) :
    Calls Try.prog 51 #[v] w fun e w' => e = .returned (.tuple #[]) ∧ ∃ m L, (m :: L).Pairwise (· < ·) ∧ (∀ x, x ∈ m :: L ↔ x ∈ l) ∧ (m :: L).length = l.length ∧ w'.ownsRow base 3 1 v l.length ((m :: L).map nv) ∧ w.grownBy w' v.ownBlock := by
  rcases h with ⟨_, ⟨_, h0⟩ | ⟨g, cap, cur, rfl, h2, h3, h4, h5, h6, h7⟩⟩
  · exact absurd (List.eq_nil_of_length_eq_zero h0) hl
  · obtain ⟨m, L, e1, e2, e3, e4⟩ := sorted_nat l hn hl
    have hH := holds_ints (zs := l.map (fun (x : Nat) => (x : Int))) h3 (by rw [← map_nv]; simpa using h7)
    have hc := Try.slices_Sort_int g 0 cap (l.map (fun (x : Nat) => (x : Int))) w hH (Array.getElem?_eq_some_iff.1 h3).1 (by simp; omega)
    rw [List.length_map, e1] at hc
    refine hc.mono ?_
    rintro e w' ⟨rfl, n, os, rfl⟩
    refine ⟨rfl, m, L, e2, e3, e4, ⟨by rw [List.length_map]; omega, .inr ⟨g, cap, _, rfl, h2, heap_ints _ h3, h4, h5, by simp [Go.Sort.putCells, h6], ?_⟩⟩, grown_ints _⟩
    have ht := take_ints cur ((m :: L).map (fun (x : Nat) => (x : Int))) (by rw [List.length_map]; omega)
    rw [← map_nv, List.length_map, e4] at ht
    rw [Nat.mul_one]
    exact ht

set_option maxHeartbeats 8000000 in
set_option maxRecDepth 100000 in
theorem group_c (Y : Lay) (n : Nat) (adj : Nat → List Nat) (wv ov : Value) (met : Nat → Nat) (low : Nat → Option Nat) (grp : Nat → List Nat) (way : List V) (os xs : List Nat) (now p : Nat) (hn : n ≤ 20000) (hall : ∀ x ∈ p :: xs, x < n) (hnd : (p :: xs).Nodup) (hlen : (os ++ p :: xs).length ≤ 20000) (w : World) (h : SrAt w Y n adj wv ov met low grp way (os ++ p :: xs) now) :
    Calls Try.prog 49 #[.pointer (some ⟨Y.P, 0, none⟩), .int .i64 (p : Int)] w fun r W' => r = .returned (.tuple #[]) ∧ ∃ m L ov', (m :: L).Pairwise (· < ·) ∧ (∀ x, x ∈ m :: L ↔ x ∈ p :: xs) ∧ SrAt W' Y n adj wv ov' met (fun x => if x ∈ m :: L then some m else low x) (upd grp m (m :: L)) way os now ∧ Below Y.b w W' := by
  have hdep : Try.prog.follows Departure.mixedOrders = true := by kernel_rfl
  obtain ⟨N, hN⟩ : ∃ N, (os ++ p :: xs).length = N := ⟨_, rfl⟩
  have hpos : 0 < (os ++ p :: xs).length := by rw [List.length_append, List.length_cons]; omega
  obtain ⟨og, cap, hov, hFg, hog⟩ := h.op.form hpos
  subst hov
  have hop := h.op
  rw [hN] at h hop hlen hpos
  have hcap : N ≤ cap ∧ cap ≤ 9223372036854775807 := by obtain ⟨o, c, e, h1, h2⟩ := owns_form hop; cases e; exact ⟨h1, h2⟩
  have hcell : ∀ j, j < N → w.cell? ⟨og, j, none⟩ = some (.int .i64 (((os ++ p :: xs).getD j 0 : Nat) : Int)) := by
    intro j hj
    have hr := owns_row (b' := w.heap.size) (l := os ++ p :: xs) (by rw [hN]; exact hop) (fun g hg => (owns_lt hop hg).2)
    obtain ⟨g1, c1, e, _, _, _, _, h1⟩ := hr.at (j := j) (by omega)
    cases e; rw [List.getD_eq_getElem?_getD, List.getElem?_eq_getElem (by omega)]; exact h1
  have HS : Hid (SrAt w Y n adj wv (.slice (some ⟨og, 0, none⟩) N cap) met low grp way (os ++ p :: xs) now) := h
  have HC : Hid (∀ j, j < N → w.cell? ⟨og, j, none⟩ = some (.int .i64 (((os ++ p :: xs).getD j 0 : Nat) : Int))) := hcell
  have HA : Hid ((∀ x ∈ p :: xs, x < n) ∧ (p :: xs).Nodup ∧ (os ++ p :: xs).length = N ∧ Y.F ≤ og) := ⟨hall, hnd, hN, hFg⟩
  obtain ⟨c0, c1, c2, c3, c4, c5, c6, f4, f5, f6, lP⟩ := h.cells
  have hNi : (N : Int) ≤ 20000 := by omega
  have hN0 : (1 : Int) ≤ (N : Int) := by omega
  have hni : (n : Int) ≤ 20000 := by omega
  have hci : (N : Int) ≤ (cap : Int) := by omega
  have hcm : (cap : Int) ≤ 9223372036854775807 := by omega
  have hw1 : IntKind.i64.wrap ((N : Int) - 1) = (N : Int) - 1 := by rw [IntKind.wrap_i64]; omega
  obtain ⟨N1, hN1⟩ : ∃ N1 : Nat, N = N1 + 1 := ⟨N - 1, by omega⟩
  have hN1i : (N : Int) - 1 = (N1 : Int) := by omega
  have HN : Hid (N = N1 + 1 ∧ n ≤ 20000 ∧ N ≤ 20000 ∧ N ≤ cap) := ⟨hN1, by omega, by omega, hcap.1⟩
  clear h hop hcell hall hnd hN hn hlen hcap hFg hN1 hpos
  go_enter Try.func49, Try.ntmps49
  go_wp2
  first | rw [hN1i] | skip
  go_loopw [4] (fun v4 wr => ∃ k : Nat, v4 = .int .i64 (k : Int) ∧ Hid (os.length ≤ k ∧ k < N) ∧ wr = w) (fun v _ => (intOf v).toNat)
  case atStart => exact ⟨N1, rfl, ⟨by have := HA.out.2.2.1; have := HN.out.1; simp at *; omega, by have := HN.out.1; omega⟩, rfl⟩
  case round =>
    obtain ⟨k, rfl, HK, hwr⟩ := hrel
    have hwr := hwr.symm
    subst hwr
    have ck := HC.out k HK.out.2
    have hkN : (k : Int) < (N : Int) := by have := HK.out.2; omega
    by_cases hke : k = os.length
    · have hq : (os ++ p :: xs).getD k 0 = p := by rw [hke, List.getD_eq_getElem?_getD, List.getElem?_append_right (Nat.le_refl _)]; simp
      rw [hq] at ck
      have hq1 : ((p : Int) != (p : Int)) = false := by simp
      have HKE : Hid (k = os.length) := hke
      have hkc : (k : Int) ≤ (cap : Int) := by omega
      clear hke hq
      obtain ⟨LL, hLL⟩ : ∃ LL, (p :: xs).length = LL := ⟨_, rfl⟩
      have HLL : Hid ((p :: xs).length = LL) := hLL
      have HN2 : Hid (N - k = LL) := by show _ = _; have := HA.out.2.2.1; have := HKE.out; simp at *; omega
      have HCl : Hid (Calls Try.prog 50 #[.slice (some ⟨og, k, none⟩) (N - k) (cap - k)] w fun e w' => ∃ gb capg, e = .returned (.slice (some ⟨gb, 0, none⟩) LL capg) ∧ w'.ownsRow w.heap.size 3 1 (.slice (some ⟨gb, 0, none⟩) LL capg) LL ((p :: xs).map nv) ∧ Below w.heap.size w w') := by
        have hc := Try.slices_Clone_int og k (N - k) (cap - k) ((p :: xs).map (fun (x : Nat) => (x : Int))) w (by rw [List.length_map, HN2.out, HLL.out]; exact Nat.le_refl _) (by have := HN.out; omega) (fun j hj => by
          rw [List.length_map] at hj
          have h1 := HC.out (k + j) (by have := HN2.out; have := HK.out; omega)
          rw [h1]
          congr 2
          rw [HKE.out, List.getD_eq_getElem?_getD, List.getElem?_append_right (by omega), show os.length + j - os.length = j by omega, List.getD_eq_getElem?_getD, List.getElem?_map, List.getElem?_eq_getElem hj]
          rfl)
        refine hc.mono ?_
        rintro e w' ⟨v', rfl, h1, _, h2⟩
        rw [HN2.out] at h1
        have e1 : ((p :: xs).map (fun (x : Nat) => (x : Int))).take LL = (p :: xs).map (fun (x : Nat) => (x : Int)) := List.take_of_length_le (by rw [List.length_map, HLL.out]; exact Nat.le_refl _)
        rw [e1, ← map_nv] at h1
        obtain ⟨gb, capg, hv1, hgb, hgl⟩ := h1.form (by rw [← HLL.out, List.length_cons]; omega)
        subst hv1
        exact ⟨gb, capg, rfl, h1, h2⟩
      have HU : Hid (SrAt (w.setCell ⟨Y.P, 5, none⟩ (.slice (some ⟨og, 0, none⟩) k cap)) Y n adj wv (.slice (some ⟨og, 0, none⟩) k cap) met low grp way os now) := by
        have h1 := HS.out
        rw [← HA.out.2.2.1] at h1
        have h2 := h1.cutOpn
        rw [← HKE.out] at h2
        exact h2
      have HSo : Hid (∀ (W : World) (gb capg : Nat), W.ownsRow w.heap.size 3 1 (.slice (some ⟨gb, 0, none⟩) LL capg) LL ((p :: xs).map nv) → Calls Try.prog 51 #[.slice (some ⟨gb, 0, none⟩) LL capg] W fun e w' => e = .returned (.tuple #[]) ∧ ∃ m L, (m :: L).Pairwise (· < ·) ∧ (∀ x, x ∈ m :: L ↔ x ∈ p :: xs) ∧ (m :: L).length = LL ∧ w'.ownsRow w.heap.size 3 1 (.slice (some ⟨gb, 0, none⟩) LL capg) LL ((m :: L).map nv) ∧ W.grownBy w' (some gb)) := fun W gb capg h => by
        have h1 := h
        rw [← HLL.out] at h1 ⊢
        exact sort_c h1 HA.out.2.1 (by simp) (by have := HN2.out; have := HLL.out; have := HN.out; omega)
      clear hLL
      go_wp2_with (go_at_call 50; fail)
      refine HCl.out.mono ?_
      rintro e w1 ⟨gb, capg, rfl, hr1, hb1⟩
      have HR1 : Hid (w1.ownsRow w.heap.size 3 1 (.slice (some ⟨gb, 0, none⟩) LL capg) LL ((p :: xs).map nv)) := hr1
      have HB1 : Hid (Below w.heap.size w w1) := hb1
      have HGB : Hid (w.heap.size ≤ gb ∧ gb < w1.heap.size ∧ Y.P < w.heap.size ∧ Y.b ≤ Y.P ∧ Y.b ≤ w.heap.size) := ⟨(owns_lt hr1 rfl).1, (owns_lt hr1 rfl).2, lP, HS.out.ok.bP, by have := HS.out.ok.bP; omega⟩
      have d5 : w1.cell? ⟨Y.P, 5, none⟩ = some (.slice (some ⟨og, 0, none⟩) N cap) := (hb1.cell (p := ⟨Y.P, 5, none⟩) lP).trans c5
      have g5 : w1.frozen? ⟨Y.P, 5, none⟩ = false := (World.frozen?_of_block (a := ⟨Y.P, 5, none⟩) (hb1.block Y.P lP)).trans f5
      have l1 : Y.P < w1.heap.size := Nat.lt_of_lt_of_le lP hb1.size
      clear HCl hb1 hr1
      obtain ⟨W2, hW2⟩ : ∃ W2, w1.setCell ⟨Y.P, 5, none⟩ (.slice (some ⟨og, 0, none⟩) k cap) = W2 := ⟨_, rfl⟩
      have HW2 : Hid (w1.setCell ⟨Y.P, 5, none⟩ (.slice (some ⟨og, 0, none⟩) k cap) = W2) := hW2
      have HR2 : Hid (W2.ownsRow w.heap.size 3 1 (.slice (some ⟨gb, 0, none⟩) LL capg) LL ((p :: xs).map nv)) := by
        show World.ownsRow _ _ _ _ _ _ _
        rw [← hW2]
        exact owns_same HR1.out (fun g hg => heap_set_other _ _ _ _ _ (by obtain rfl : gb = g := (by simpa [Value.ownBlock] using hg); have := HGB.out; omega))
      have HA2 : Hid (W2.heap.size = w1.heap.size ∧ (∀ t, t < w.heap.size → W2.heap[t]? = (w.setCell ⟨Y.P, 5, none⟩ (.slice (some ⟨og, 0, none⟩) k cap)).heap[t]?) ∧ Below Y.b w W2) := by
        show _ ∧ _
        rw [← hW2]
        refine ⟨size_set _ _ _ _, fun t ht => ?_, (HB1.out.mono HGB.out.2.2.2.2).setCell (p := ⟨Y.P, 5, none⟩) HGB.out.2.2.2.1 _⟩
        by_cases e : t = Y.P
        · subst e
          have h1 := heap_set_at w Y.P 5 (.slice (some ⟨og, 0, none⟩) k cap) _ _ HS.out.blk
          rw [h1]
          exact heap_set_at w1 Y.P 5 (.slice (some ⟨og, 0, none⟩) k cap) _ _ ((HB1.out.block Y.P HGB.out.2.2.1).trans HS.out.blk)
        · rw [heap_set_other _ _ _ _ _ e, heap_set_other _ _ _ _ _ e]
          exact HB1.out.block t ht
      clear hW2
      go_wp2_with (go_at_call 51; fail)
      rw [HW2.out]
      refine (HSo.out W2 gb capg HR2.out).mono ?_
      rintro e w3 ⟨rfl, m, L, s1, s2, s3, s4, s5⟩
      have HM : Hid ((m :: L).Pairwise (· < ·) ∧ (∀ x, x ∈ m :: L ↔ x ∈ p :: xs) ∧ (m :: L).length = LL) := ⟨s1, s2, s3⟩
      have h3 : SrAt w3 Y n adj wv (.slice (some ⟨og, 0, none⟩) k cap) met low grp way os now := HU.out.far (by rw [size_set]; have := HA2.out.1; have := HB1.out.size; have := s5.size; omega) (fun t ht => by
        rw [size_set] at ht
        rw [grown_block s5 (by have := HA2.out.1; have := HB1.out.size; omega) (fun e => by cases e; have := HGB.out; omega)]
        exact HA2.out.2.1 t ht)
      have HB3 : Hid (Below Y.b w w3) := HA2.out.2.2.grown s5 (by have := HA2.out.1; have := HB1.out.size; have := HGB.out; omega) (fun g hg => by cases hg; have := HGB.out; omega)
      have hr3 : RowAt w3 w3.heap.size (.slice (some ⟨gb, 0, none⟩) LL capg) (m :: L) := owns_row (b := w.heap.size) (e := 3) (by rw [s3]; exact s4) (fun g hg => (owns_lt s4 hg).2)
      have H3 : Hid (SrAt w3 Y n adj wv (.slice (some ⟨og, 0, none⟩) k cap) met low grp way os now) := h3
      have HR3 : Hid (RowAt w3 w3.heap.size (.slice (some ⟨gb, 0, none⟩) LL capg) (m :: L)) := hr3
      have HX : Hid (Y.F ≤ gb ∧ wv.ownBlock ≠ some gb ∧ og ≠ gb ∧ LL ≤ 20000 ∧ Y.L ≠ gb) := ⟨by have := HS.out.Fs; have := HGB.out; omega, fun e => by have := (owns_lt HS.out.wr e).2; have := HGB.out; omega, by have := HGB.out; omega, by have := HN2.out; have := HN.out; omega, by have := HGB.out; have := HS.out.lw.lt; omega⟩
      have hLLi : (LL : Int) ≤ 20000 := by have := HX.out; omega
      have hLL1 : (1 : Int) ≤ (LL : Int) := by have := HLL.out; rw [List.length_cons] at this; omega
      clear s1 s2 s3 s4 s5 d5 g5 l1 c0 c1 c2 c3 c4 c5 c6 f4 f5 f6 lP ck HC HU HSo HR1 HR2 HA2 HW2 HB1 HS h3 hr3
      go_wp2
      go_loopw [45] (fun v wq => ∃ j : Nat, v = .int .i64 (j : Int) ∧ Hid (j ≤ LL ∧ SrAt wq Y n adj wv (.slice (some ⟨og, 0, none⟩) k cap) met (fun x => if x ∈ (m :: L).take j then some m else low x) grp way os now ∧ RowAt wq wq.heap.size (.slice (some ⟨gb, 0, none⟩) LL capg) (m :: L) ∧ Below Y.b w wq)) (fun v _ => LL - (intOf v).toNat)
      case atStart => exact ⟨0, rfl, ⟨Nat.zero_le _, H3.out.congrLow (fun x => by simp), HR3.out, HB3.out⟩⟩
      case round =>
        obtain ⟨j, rfl, HJ⟩ := hrel
        obtain ⟨c0, c1, c2, c3, c4, c5, c6, f4, f5, f6, lP⟩ := HJ.out.2.1.cells
        obtain ⟨g0, cp0, e0, _, _, _, lg, k0⟩ := HJ.out.2.2.1.at (j := 0) (by simp)
        have k0 : wr.cell? ⟨gb, 0, none⟩ = some (.int .i64 (m : Int)) := by cases e0; exact k0
        have lg : gb < wr.heap.size := by cases e0; exact lg
        clear e0
        by_cases hj : j < LL
        · have hjL : j < (m :: L).length := by rw [HM.out.2.2]; exact hj
          obtain ⟨g1, cp1, e1, _, _, _, _, k1⟩ := HJ.out.2.2.1.at (j := j) hjL
          obtain ⟨q, hq⟩ : ∃ q, (m :: L)[j] = q := ⟨_, rfl⟩
          have kj : wr.cell? ⟨gb, j, none⟩ = some (.int .i64 (q : Int)) := by cases e1; rw [hq] at k1; exact k1
          have hqn : q < n := HA.out.1 q ((HM.out.2.1 q).1 (hq ▸ List.getElem_mem hjL))
          have hqi : (q : Int) < (n : Int) := by omega
          have hji : (j : Int) < (LL : Int) := by omega
          have HQ : Hid ((m :: L)[j]? = some q ∧ j < LL) := ⟨by rw [List.getElem?_eq_getElem hjL, hq], hj⟩
          have fq := HJ.out.2.1.lw.frozen q
          have lq : wr.cell? ⟨Y.L, q, none⟩ = some _ := HJ.out.2.1.lw.cell hqn
          have lL := HJ.out.2.1.lw.lt
          clear e1 k1 hq hj hqn hjL
          go_wp2
          go_region
          all_goals (
            go_wp2
            refine ⟨⟨j + 1, by congr 1, ⟨HQ.out.2, ?_, ?_, ?_⟩⟩, by show LL - ((j : Int) + 1).toNat < LL - ((j : Int)).toNat; have := HQ.out.2; omega⟩
            · refine ((HJ.out.2.1.setLow q m).drew).congrLow (fun x => ?_)
              rw [List.take_add_one, HQ.out.1]
              unfold upd
              by_cases e : x = q
              · subst e; simp
              · simp [e]
            · exact HJ.out.2.2.1.move (fun g hg h1 h2 => by
                have h3 : (wr.setCell ⟨Y.L, q, none⟩ (.int .i64 (m : Int))).heap.size = wr.heap.size := size_set _ _ _ _
                obtain rfl : gb = g := by simpa [Value.ownBlock] using hg
                refine ⟨?_, ?_, heap_set_other _ _ _ _ _ (fun e => HX.out.2.2.2.2 e.symm)⟩
                · show _ < (wr.setCell ⟨Y.L, q, none⟩ (.int .i64 (m : Int))).heap.size; omega
                · show _ < (wr.setCell ⟨Y.L, q, none⟩ (.int .i64 (m : Int))).heap.size; omega)
            · exact (HJ.out.2.2.2.setCell (p := ⟨Y.L, q, none⟩) HJ.out.2.1.ok.bL _).drew)
        · have hjl : ¬ ((j : Int) < (LL : Int)) := by omega
          have HJL : Hid (j = LL) := by show _ = _; have := HJ.out.1; omega
          have hmn : m < n := HA.out.1 m ((HM.out.2.1 m).1 (by simp))
          have hmi : (m : Int) < (n : Int) := by omega
          obtain ⟨gv, hgv, -⟩ := HJ.out.2.1.gr
          have fm := hgv.frozen m
          have cm := hgv.cell hmn
          have lG := hgv.lt
          clear hj hgv hmn
          go_wp2
          go_region
          all_goals (
            go_end0
            have hfin : SrAt wr Y n adj wv (.slice (some ⟨og, 0, none⟩) k cap) met (fun x => if x ∈ m :: L then some m else low x) grp way os now := HJ.out.2.1.congrLow (fun x => by rw [HJL.out, List.take_of_length_le (by rw [HM.out.2.2]; exact Nat.le_refl _)])
            have hrw := HJ.out.2.2.1
            have hl3 := HM.out.2.2
            rw [← hl3] at hrw
            have hset := (hfin.setGrp (m := m) hrw (by simp) HX.out.1 HX.out.2.1 (fun e => by have h1 : og = gb := by simpa [Value.ownBlock] using e
                                                                                              exact HX.out.2.2.1 h1)).drew
            rw [hl3] at hset
            exact ⟨rfl, m, L, _, HM.out.1, HM.out.2.1, hset, (HJ.out.2.2.2.setCell (p := ⟨Y.G, m, none⟩) HJ.out.2.1.ok.bG _).drew⟩)
    · have hq : ∃ q : Nat, (os ++ p :: xs).getD k 0 = q ∧ q ≠ p := by
        refine ⟨_, rfl, ?_⟩
        obtain ⟨t, ht⟩ : ∃ t, k = os.length + (t + 1) := ⟨k - os.length - 1, by have := HK.out.1; omega⟩
        have hl := HA.out.2.2.1
        have hkN := HK.out.2
        have ht2 : t < xs.length := by simp at hl; omega
        rw [ht, List.getD_eq_getElem?_getD, List.getElem?_append_right (by omega), show os.length + (t + 1) - os.length = t + 1 by omega, List.getElem?_cons_succ, List.getElem?_eq_getElem ht2]
        intro e
        have := (List.nodup_cons.1 HA.out.2.1).1
        exact this (e ▸ List.getElem_mem ht2)
      obtain ⟨q, hq, hqp⟩ := hq
      rw [hq] at ck
      have hq1 : ((q : Int) != (p : Int)) = true := by simp; omega
      have hq2 : ¬ ((q : Int) = (p : Int)) := by omega
      have hk1 : (1 : Int) ≤ (k : Int) := by have := HK.out.1; omega
      have HKE : Hid (¬ k = os.length) := hke
      clear hke hqp
      go_wp2
      exact ⟨⟨k - 1, by congr 1; omega, ⟨by have := HK.out.1; have := HKE.out; omega, by have := HK.out.2; omega⟩, (by first | rfl | trivial)⟩, by show ((k : Int) - 1).toNat < ((k : Int)).toNat; omega⟩
end Go.Proofs.Ytkkpkcigflikkaa
