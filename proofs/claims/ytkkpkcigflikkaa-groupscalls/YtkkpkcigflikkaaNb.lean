/-
  The laws' comparing of rows, by contracts.
-/
import Derived.Test.YtkkpkcigflikkaaMc
import Derived.Test.YtkkpkcigflikkaaNa
namespace Go.Proofs.Ytkkpkcigflikkaa
open Go.RowKit Go.Shelf Go.Maps G
set_option linter.unusedVariables false

set_option maxHeartbeats 4000000 in
set_option maxRecDepth 100000 in
theorem sameInts_c (va vb : Value) (la lb : List Nat) (ha1 : la.length ≤ 1000000) (hb1 : lb.length ≤ 1000000) (hab : (∀ x ∈ la, x ≤ 1000000) ∧ (∀ x ∈ lb, x ≤ 1000000)) (w : World) (ha : RowAt w w.heap.size va la) (hb : RowAt w w.heap.size vb lb) : Calls Try.prog 28 #[va, vb] w fun r W' => r = .returned (.bool (decide (la = lb))) ∧ Below w.heap.size w W' := by
  have hdep : Try.prog.follows Departure.mixedOrders = true := by kernel_rfl
  obtain ⟨oa, ca, ea, hca, hca2⟩ := ha.slice
  obtain ⟨ob, cb, eb, hcb, hcb2⟩ := hb.slice
  have HA : Hid (RowAt w w.heap.size va la ∧ RowAt w w.heap.size vb lb ∧ (∀ x ∈ la, x ≤ 1000000) ∧ (∀ x ∈ lb, x ≤ 1000000)) := ⟨ha, hb, hab⟩
  obtain ⟨n, hn⟩ : ∃ n, la.length = n := ⟨_, rfl⟩
  obtain ⟨m, hm⟩ : ∃ m, lb.length = m := ⟨_, rfl⟩
  have HL : Hid (la.length = n ∧ lb.length = m) := ⟨hn, hm⟩
  rw [hn] at ea
  rw [hm] at eb
  subst ea eb
  have hni : (n : Int) ≤ 1000000 := by omega
  have hmi : (m : Int) ≤ 1000000 := by omega
  clear ha hb hca hca2 hcb hcb2 hn hm ha1 hb1 hab
  by_cases hnm : n = m
  · subst hnm
    go_enter Try.func28, Try.ntmps28
    go_wp2
    go_loopw [5] (fun v5 wr => ∃ k : Nat, v5 = .int .i64 (k : Int) ∧ Hid (k ≤ n ∧ la.take k = lb.take k ∧ Below w.heap.size w wr)) (fun v _ => n - (intOf v).toNat)
    case atStart => exact ⟨0, rfl, ⟨Nat.zero_le _, rfl, Below.refl _ _⟩⟩
    case round =>
      obtain ⟨k, rfl, HI⟩ := hrel
      by_cases hk : k < n
      · have hka : k < la.length := by rw [HL.out.1]; exact hk
        have hkb : k < lb.length := by rw [HL.out.2]; exact hk
        obtain ⟨g1, c1, e1, -, -, -, l1, r1⟩ := HA.out.1.at hka
        obtain ⟨g2, c2, e2, -, -, -, l2, r2⟩ := HA.out.2.1.at hkb
        obtain ⟨rfl, -⟩ : oa = some ⟨g1, 0, none⟩ ∧ True := by cases e1; exact ⟨rfl, trivial⟩
        obtain ⟨rfl, -⟩ : ob = some ⟨g2, 0, none⟩ ∧ True := by cases e2; exact ⟨rfl, trivial⟩
        obtain ⟨x, hx⟩ : ∃ x, la[k] = x := ⟨_, rfl⟩
        obtain ⟨y, hy⟩ : ∃ y, lb[k] = y := ⟨_, rfl⟩
        have x1 : wr.cell? ⟨g1, k, none⟩ = some (.int .i64 (x : Int)) := (HI.out.2.2.cell (p := ⟨g1, k, none⟩) l1).trans (by rw [r1, hx]; rfl)
        have y1 : wr.cell? ⟨g2, k, none⟩ = some (.int .i64 (y : Int)) := (HI.out.2.2.cell (p := ⟨g2, k, none⟩) l2).trans (by rw [r2, hy]; rfl)
        have lx : g1 < wr.heap.size := Nat.lt_of_lt_of_le l1 HI.out.2.2.size
        have ly : g2 < wr.heap.size := Nat.lt_of_lt_of_le l2 HI.out.2.2.size
        have HT : Hid (la.take (k + 1) = la.take k ++ [x] ∧ lb.take (k + 1) = lb.take k ++ [y] ∧ k < n ∧ la[k]? = some x ∧ lb[k]? = some y) := ⟨by rw [List.take_succ_eq_append_getElem hka, hx], by rw [List.take_succ_eq_append_getElem hkb, hy], hk, by rw [List.getElem?_eq_getElem hka, hx], by rw [List.getElem?_eq_getElem hkb, hy]⟩
        have hki : (k : Int) < (n : Int) := by omega
        clear e1 e2 r1 r2 l1 l2 hx hy hk hka hkb
        by_cases hxy : x = y
        · subst hxy
          go_wp2
          go_region
          go_wp2
          refine ⟨⟨k + 1, by congr 1, ⟨HT.out.2.2.1, by rw [HT.out.1, HT.out.2.1, HI.out.2.1], HI.out.2.2.drew⟩⟩, ?_⟩
          show n - ((k : Int) + 1).toNat < n - ((k : Int)).toNat
          have := HT.out.2.2.1; omega
        · have hne : ((x : Int) != (y : Int)) = true := by simp; omega
          have hne2 : ¬ (x : Int) = (y : Int) := by omega
          have HX : Hid (¬ la = lb) := fun e => hxy (by have h1 := HT.out.2.2.2; rw [e] at h1; exact Option.some.inj (h1.1.symm.trans h1.2))
          clear hxy
          go_wp2
          go_region
          go_wp2
          go_ret
          exact ⟨by simp [HX.out], HI.out.2.2.drew⟩
      · have hki : ¬ (k : Int) < (n : Int) := by omega
        have HX : Hid (la = lb) := by
          have h1 := HI.out.2.1
          have h2 := HL.out
          rw [List.take_of_length_le (by omega), List.take_of_length_le (by omega)] at h1
          exact h1
        clear hk
        go_wp2
        go_ret
        exact ⟨by simp [HX.out], HI.out.2.2⟩
  · have hne : ((n : Int) != (m : Int)) = true := by simp; omega
    have hne2 : ¬ (n : Int) = (m : Int) := by omega
    have HX : Hid (¬ la = lb) := fun e => by have h1 := HL.out; rw [e] at h1; exact hnm (by omega)
    clear hnm
    go_enter Try.func28, Try.ntmps28
    go_wp2
    go_ret
    exact ⟨by simp [HX.out], Below.refl _ _⟩
/-- Rows of numbers that can be read. -/
def IntsAt (W : World) (v : Value) (ll : List (List Nat)) : Prop := ∃ o cap, v = .slice o ll.length cap ∧ ll.length ≤ 1000000 ∧ (ll = [] ∨ ∃ g, o = some ⟨g, 0, none⟩ ∧ g < W.heap.size ∧ ∀ j (h : j < ll.length), ∃ vj, W.cell? ⟨g, j, none⟩ = some vj ∧ RowAt W W.heap.size vj ll[j]) ∧ ∀ l ∈ ll, l.length ≤ 1000000 ∧ ∀ x ∈ l, x ≤ 1000000
theorem IntsAt.at {W : World} {v : Value} {ll : List (List Nat)} (h : IntsAt W v ll) {j : Nat} (hj : j < ll.length) : ∃ g cap vj, v = .slice (some ⟨g, 0, none⟩) ll.length cap ∧ g < W.heap.size ∧ W.cell? ⟨g, j, none⟩ = some vj ∧ RowAt W W.heap.size vj ll[j] ∧ ll[j].length ≤ 1000000 ∧ ∀ x ∈ ll[j], x ≤ 1000000 := by
  obtain ⟨o, cap, h1, h2, h3, h4⟩ := h
  rcases h3 with rfl | ⟨g, e, hg, h5⟩
  · exact absurd hj (Nat.not_lt_zero _)
  · subst e
    obtain ⟨vj, h6, h7⟩ := h5 j hj
    exact ⟨g, cap, vj, h1, hg, h6, h7, h4 _ (List.getElem_mem hj)⟩
theorem RowAt.on {W W' : World} {v : Value} {l : List Nat} (h : RowAt W W.heap.size v l) {n : Nat} (hb : Below n W W') (hn : W.heap.size ≤ n) : RowAt W' W'.heap.size v l := h.move (fun g _ h1 h2 => ⟨by have := hb.size; omega, by have := hb.size; omega, hb.block g (by omega)⟩)
set_option maxHeartbeats 4000000 in
set_option maxRecDepth 100000 in
theorem same_c (va vb : Value) (la lb : List (List Nat)) (w : World) (ha : IntsAt w va la) (hb : IntsAt w vb lb) : Calls Try.prog 13 #[va, vb] w fun r W' => r = .returned (.bool (decide (la = lb))) ∧ Below w.heap.size w W' := by
  have hdep : Try.prog.follows Departure.mixedOrders = true := by kernel_rfl
  obtain ⟨oa, ca, ea, hla, -⟩ := id ha
  obtain ⟨ob, cb, eb, hlb, -⟩ := id hb
  have HA : Hid (IntsAt w va la ∧ IntsAt w vb lb) := ⟨ha, hb⟩
  obtain ⟨n, hn⟩ : ∃ n, la.length = n := ⟨_, rfl⟩
  obtain ⟨m, hm⟩ : ∃ m, lb.length = m := ⟨_, rfl⟩
  have HL : Hid (la.length = n ∧ lb.length = m) := ⟨hn, hm⟩
  rw [hn] at ea
  rw [hm] at eb
  subst ea eb
  have hni : (n : Int) ≤ 1000000 := by omega
  have hmi : (m : Int) ≤ 1000000 := by omega
  clear ha hb hn hm hla hlb
  by_cases hnm : n = m
  · subst hnm
    go_enter Try.func13, Try.ntmps13
    go_wp2
    go_loopw [5] (fun v5 wr => ∃ k : Nat, v5 = .int .i64 (k : Int) ∧ Hid (k ≤ n ∧ la.take k = lb.take k ∧ Below w.heap.size w wr)) (fun v _ => n - (intOf v).toNat)
    case atStart => exact ⟨0, rfl, ⟨Nat.zero_le _, rfl, Below.refl _ _⟩⟩
    case round =>
      obtain ⟨k, rfl, HI⟩ := hrel
      by_cases hk : k < n
      · have hka : k < la.length := by rw [HL.out.1]; exact hk
        have hkb : k < lb.length := by rw [HL.out.2]; exact hk
        obtain ⟨g1, c1, v1, e1, l1, r1, s1, t1⟩ := HA.out.1.at hka
        obtain ⟨g2, c2, v2, e2, l2, r2, s2, t2⟩ := HA.out.2.at hkb
        obtain ⟨rfl, -⟩ : oa = some ⟨g1, 0, none⟩ ∧ True := by cases e1; exact ⟨rfl, trivial⟩
        obtain ⟨rfl, -⟩ : ob = some ⟨g2, 0, none⟩ ∧ True := by cases e2; exact ⟨rfl, trivial⟩
        have x1 : wr.cell? ⟨g1, k, none⟩ = some v1 := (HI.out.2.2.cell (p := ⟨g1, k, none⟩) l1).trans r1
        have y1 : wr.cell? ⟨g2, k, none⟩ = some v2 := (HI.out.2.2.cell (p := ⟨g2, k, none⟩) l2).trans r2
        have lx : g1 < wr.heap.size := Nat.lt_of_lt_of_le l1 HI.out.2.2.size
        have ly : g2 < wr.heap.size := Nat.lt_of_lt_of_le l2 HI.out.2.2.size
        have HC : Hid (∀ X : World, Below wr.heap.size wr X → Calls Try.prog 28 #[v1, v2] X fun r W' => r = .returned (.bool (decide (la[k] = lb[k]))) ∧ Below w.heap.size w W') := fun X hX => by
          have hwX : Below w.heap.size w X := HI.out.2.2.trans (hX.mono HI.out.2.2.size)
          refine (sameInts_c v1 v2 la[k] lb[k] t1.1 t2.1 ⟨t1.2, t2.2⟩ X (s1.on hwX (Nat.le_refl _)) (s2.on hwX (Nat.le_refl _))).mono ?_
          rintro e W' ⟨rfl, h9⟩
          exact ⟨rfl, hwX.trans (h9.mono hwX.size)⟩
        obtain ⟨o1, d1, rfl, -, -⟩ := s1.slice
        obtain ⟨o2, d2, rfl, -, -⟩ := s2.slice
        have HT : Hid (la.take (k + 1) = la.take k ++ [la[k]] ∧ lb.take (k + 1) = lb.take k ++ [lb[k]] ∧ k < n ∧ la[k]? = some la[k] ∧ lb[k]? = some lb[k]) := ⟨List.take_succ_eq_append_getElem hka, List.take_succ_eq_append_getElem hkb, hk, List.getElem?_eq_getElem hka, List.getElem?_eq_getElem hkb⟩
        have hki : (k : Int) < (n : Int) := by omega
        generalize la[k] = x at HC HT x1
        generalize lb[k] = y at HC HT y1
        clear e1 e2 r1 r2 l1 l2 s1 s2 t1 t2 hk hka hkb
        go_wp2
        go_region_with (go_at_call 28; refine (HC.out _ (by first | exact Below.refl _ _ | exact (Below.refl _ _).drew)).mono ?_; rintro e w2 ⟨rfl, hb2⟩; have HB2 : Hid (Below w.heap.size w w2) := hb2; clear hb2)
        all_goals (
          by_cases hxy : x = y
          · have hd : decide (x = y) = true := by simpa using hxy
            have HX : Hid (x = y) := hxy
            rw [hd]
            clear hxy hd
            go_wp2
            refine ⟨⟨k + 1, by congr 1, ⟨HT.out.2.2.1, by rw [HT.out.1, HT.out.2.1, HI.out.2.1, HX.out], by first | exact HB2.out | exact HB2.out.drew⟩⟩, ?_⟩
            show n - ((k : Int) + 1).toNat < n - ((k : Int)).toNat
            have := HT.out.2.2.1; omega
          · have hd : decide (x = y) = false := by simpa using hxy
            have HX : Hid (¬ la = lb) := fun e => hxy (by have h1 := HT.out.2.2.2; rw [e] at h1; exact Option.some.inj (h1.1.symm.trans h1.2))
            rw [hd]
            clear hxy hd
            go_wp2
            go_ret
            exact ⟨by simp [HX.out], by first | exact HB2.out | exact HB2.out.drew⟩)
      · have hki : ¬ (k : Int) < (n : Int) := by omega
        have HX : Hid (la = lb) := by
          have h1 := HI.out.2.1
          have h2 := HL.out
          rw [List.take_of_length_le (by omega), List.take_of_length_le (by omega)] at h1
          exact h1
        clear hk
        go_wp2
        go_ret
        exact ⟨by simp [HX.out], HI.out.2.2⟩
  · have hne : ((n : Int) != (m : Int)) = true := by simp; omega
    have hne2 : ¬ (n : Int) = (m : Int) := by omega
    have HX : Hid (¬ la = lb) := fun e => by have h1 := HL.out; rw [e] at h1; exact hnm (by omega)
    clear hnm
    go_enter Try.func13, Try.ntmps13
    go_wp2
    go_ret
    exact ⟨by simp [HX.out], Below.refl _ _⟩
end Go.Proofs.Ytkkpkcigflikkaa
