/-
  A walk in memory (stage 16): parted, by contracts.
-/
import Derived.Test.YtjmpjfggbhongaaDoorUg
import Derived.BigQuiet
namespace Go.Proofs.YtjmpjfggbhongaaDoor
open Go.RowKit Go.Shelf Go.Maps
set_option linter.unusedVariables false

theorem pL_at (l : List (Nat × Option Nat)) (k : Nat) (h : k < l.length) : (pL l)[k * 2]? = some (.int .i64 ((l.reverse[k]'(by simpa using h)).1 : Int)) ∧ (pL l)[k * 2 + 1]? = some (.int .i64 (aV (l.reverse[k]'(by simpa using h)).2)) := by
  have : ∀ (r : List (Nat × Option Nat)) (k : Nat) (h : k < r.length), (r.flatMap pC)[k * 2]? = some (.int .i64 (r[k].1 : Int)) ∧ (r.flatMap pC)[k * 2 + 1]? = some (.int .i64 (aV r[k].2)) := by
    intro r
    induction r with
    | nil => intro k h; cases h
    | cons q r ih =>
      intro k h
      cases k with
      | zero => exact ⟨rfl, rfl⟩
      | succ k =>
        have h1 := ih k (by simpa using h)
        have e1 : (k + 1) * 2 = k * 2 + 2 := by omega
        rw [List.flatMap_cons, e1]
        exact ⟨by rw [List.getElem?_append_right (by show 2 ≤ _; omega)]; exact h1.1, by rw [show k * 2 + 2 + 1 = (k * 2 + 1) + 2 by omega, List.getElem?_append_right (by show 2 ≤ _; omega)]; exact h1.2⟩
  exact this l.reverse k (by simpa using h)
theorem owns_cell2 {W : World} {b e n : Nat} {o : Option Addr} {cap : Nat} {xs : List Value} (h : W.ownsRow b e 2 (.slice o n cap) n xs) {k : Nat} (hk : k < n) : ∃ g, o = some ⟨g, 0, none⟩ ∧ g < W.heap.size ∧ n ≤ cap ∧ W.cell? ⟨g, k * 2, none⟩ = xs[k * 2]? ∧ W.cell? ⟨g, k * 2 + 1, none⟩ = xs[k * 2 + 1]? := by
  rcases h with ⟨hl, ⟨h1, h2⟩ | ⟨g, cp, cur, h1, h2, h3, h4, h5, h6, h7⟩⟩
  · omega
  · cases h1
    refine ⟨g, rfl, (Array.getElem?_eq_some_iff.1 h3).1, h4, ?_, ?_⟩
    · have h8 : (cur.toList.take (n * 2))[k * 2]? = xs[k * 2]? := by rw [h7]
      rw [List.getElem?_take_of_lt (by omega), Array.getElem?_toList] at h8
      rw [← h8]
      simp [World.cell?, h3]
    · have h8 : (cur.toList.take (n * 2))[k * 2 + 1]? = xs[k * 2 + 1]? := by rw [h7]
      rw [List.getElem?_take_of_lt (by omega), Array.getElem?_toList] at h8
      rw [← h8]
      simp [World.cell?, h3]
/-- What parted reads. -/
structure PtR (w : World) (a1 a2 P g n cap : Nat) (l : List (Nat × Option Nat)) (p : Nat) : Prop where
  b1 : w.cell? ⟨a1, 0, none⟩ = some (.pointer (some ⟨P, 0, none⟩))
  b2 : w.cell? ⟨a2, 0, none⟩ = some (.int .i64 (p : Int))
  l1 : a1 < w.heap.size
  l2 : a2 < w.heap.size
  lP : P < w.heap.size
  lg : g < w.heap.size
  c0 : w.cell? ⟨P, 0, none⟩ = some (.slice (some ⟨g, 0, none⟩) n cap)
  len : l.length = n
  nc : n ≤ cap
  at0 : ∀ k (h : k < l.length), w.cell? ⟨g, k * 2, none⟩ = some (.int .i64 (l[k].1 : Int)) ∧ w.cell? ⟨g, k * 2 + 1, none⟩ = some (.int .i64 (aV l[k].2))
theorem PtR.below {w W : World} {a1 a2 P g n cap : Nat} {l : List (Nat × Option Nat)} {p : Nat} (h : PtR w a1 a2 P g n cap l p) (hb : Below w.heap.size w W) : PtR W a1 a2 P g n cap l p := by
  have hs := hb.size
  have c : ∀ b o, b < w.heap.size → W.cell? ⟨b, o, none⟩ = w.cell? ⟨b, o, none⟩ := fun b o hlt => cell_of_block (hb.block b hlt) o
  exact ⟨(c _ _ h.l1).trans h.b1, (c _ _ h.l2).trans h.b2, by have := h.l1; omega, by have := h.l2; omega, by have := h.lP; omega, by have := h.lg; omega, (c _ _ h.lP).trans h.c0, h.len, h.nc, fun k hk => ⟨(c _ _ h.lg).trans (h.at0 k hk).1, (c _ _ h.lg).trans (h.at0 k hk).2⟩⟩
set_option maxHeartbeats 8000000 in
set_option maxRecDepth 100000 in
theorem parted1_c (w : World) (a1 a2 P g n cap : Nat) (l : List (Nat × Option Nat)) (p : Nat) (h : PtR w a1 a2 P g n cap l p) (i : Nat) (hi : i < l.length) (hn : n ≤ 3000000) :
    Calls Tryd.prog 92 #[.int .i64 (i : Int), .pointer (some ⟨a1, 0, none⟩), .pointer (some ⟨a2, 0, none⟩)] w fun e w' => e = .returned (.bool (decide (p < l[i].1))) ∧ Below w.heap.size w w' := by
  obtain ⟨b1, b2, l1, l2, lP, lg, c0, len, nc, at0⟩ := h
  obtain ⟨e1, -⟩ := at0 i hi
  obtain ⟨x, hx⟩ : ∃ x, l[i].1 = x := ⟨_, rfl⟩
  rw [hx] at e1 ⊢
  have hin : (i : Int) < (n : Int) := by omega
  have hni : (n : Int) ≤ 3000000 := by omega
  have hnc : (n : Int) ≤ (cap : Int) := by omega
  have ed : decide ((p : Int) < (x : Int)) = decide (p < x) := by
    by_cases h : p < x
    · rw [decide_eq_true h, decide_eq_true (by omega)]
    · rw [decide_eq_false h, decide_eq_false (by omega)]
  clear at0 hx hi
  go_enter Tryd.func92, Tryd.ntmps92
  go_wp2
  go_region
  all_goals (
    go_wp2
    go_ret
    exact ⟨rfl, (Below.refl _ w).drew⟩)
set_option maxHeartbeats 8000000 in
set_option maxRecDepth 100000 in
/-- sort.Search over a question that turns once. -/
theorem search_c (w : World) (a1 a2 n : Nat) (hn : n ≤ 3000000) (q : Nat → Bool)
    (hF : ∀ (W : World) (i : Nat), Below w.heap.size w W → i < n → Calls Tryd.prog 92 #[.int .i64 (i : Int), .pointer (some ⟨a1, 0, none⟩), .pointer (some ⟨a2, 0, none⟩)] W fun e W' => e = .returned (.bool (q i)) ∧ Below w.heap.size w W') (hq : ∀ a b, a ≤ b → b < n → q a = true → q b = true) :
    Calls Tryd.prog 91 #[.int .i64 (n : Int), .func (.func 92) #[] #[.pointer (some ⟨a1, 0, none⟩), .pointer (some ⟨a2, 0, none⟩)]] w fun e w' => ∃ r : Nat, e = .returned (.int .i64 (r : Int)) ∧ r ≤ n ∧ (∀ k, k < r → q k = false) ∧ (∀ k, r ≤ k → k < n → q k = true) ∧ Below w.heap.size w w' := by
  have HF : Hid (∀ (W : World) (i : Nat), Below w.heap.size w W → i < n → Calls Tryd.prog 92 #[.int .i64 (i : Int), .pointer (some ⟨a1, 0, none⟩), .pointer (some ⟨a2, 0, none⟩)] W fun e W' => e = .returned (.bool (q i)) ∧ Below w.heap.size w W') := hF
  have HQ : Hid (∀ a b, a ≤ b → b < n → q a = true → q b = true) := hq
  have H0 : Hid (0 ≤ n ∧ n ≤ n ∧ (∀ k, k < 0 → q k = false) ∧ (∀ k, n ≤ k → k < n → q k = true) ∧ Below w.heap.size w w) := ⟨by omega, by omega, fun k hk => by omega, fun k h1 h2 => by omega, Below.refl _ _⟩
  have hni : (n : Int) ≤ 3000000 := by omega
  have hNn : Hid (n ≤ 3000000) := hn
  clear hF hq hn
  go_enter Tryd.func91, Tryd.ntmps91
  go_wp2
  go_loopw [5, 6] (fun i j wr => ∃ lo hi : Nat, i = .int .i64 lo ∧ j = .int .i64 hi ∧ Hid (lo ≤ hi ∧ hi ≤ n ∧ (∀ k, k < lo → q k = false) ∧ (∀ k, hi ≤ k → k < n → q k = true) ∧ Below w.heap.size w wr)) (fun i j _ => (intOf j).toNat - (intOf i).toNat)
  case atStart => exact ⟨0, n, rfl, rfl, H0⟩
  case round =>
    obtain ⟨lo, hi, rfl, rfl, hS⟩ := hrel
    clear H0
    by_cases hlh : lo < hi
    · have h1 := hS.out.2.1
      have hlhI : (lo : Int) < (hi : Int) := by omega
      have hhiI : (hi : Int) ≤ 3000000 := by have := hNn.out; omega
      clear h1
      go_wp2_with (go_at_fn 92; fail)
      obtain ⟨md, hmd⟩ : ∃ md : Nat, md = (lo + hi) / 2 := ⟨_, rfl⟩
      have hmdI : ((lo : Int) + (hi : Int)) / 2 = (md : Int) := by omega
      rw [hmdI]
      have HM : Hid (lo ≤ md ∧ md < hi ∧ hi ≤ n) := ⟨by omega, by omega, hS.out.2.1⟩
      have hmI : (md : Int) ≤ 3000000 := by omega
      clear hmd hmdI hlhI hlh hhiI
      refine (HF.out wr md hS.out.2.2.2.2 (by have := HM.out; omega)).mono ?_
      rintro e w1 ⟨rfl, hb1⟩
      have HB1 : Hid (Below w.heap.size w w1) := hb1
      clear hb1
      cases hqm : q md with
      | false =>
        have HR : Hid (md + 1 ≤ hi ∧ hi ≤ n ∧ (∀ k, k < md + 1 → q k = false) ∧ (∀ k, hi ≤ k → k < n → q k = true) ∧ Below w.heap.size w w1) := by
          have h := hS.out; have h2 := HM.out
          refine ⟨by omega, by omega, fun k hk => ?_, h.2.2.2.1, HB1.out⟩
          cases hk2 : q k with
          | false => rfl
          | true =>
            have := HQ.out k md (by omega) (by omega) hk2
            rw [hqm] at this; exact this.symm
        have HMe : Hid (lo ≤ md ∧ md < hi) := ⟨HM.out.1, HM.out.2.1⟩
        clear hqm hS HB1
        go_wp2
        go_roundw
        case rel => exact ⟨md + 1, hi, by go_num, rfl, HR⟩
        case measure => have := HMe.out; simp [intOf]; omega
      | true =>
        have HR : Hid (lo ≤ md ∧ md ≤ n ∧ (∀ k, k < lo → q k = false) ∧ (∀ k, md ≤ k → k < n → q k = true) ∧ Below w.heap.size w w1) := by
          have h := hS.out; have h2 := HM.out
          exact ⟨by omega, by omega, h.2.2.1, fun k h1 h3 => HQ.out md k h1 h3 hqm, HB1.out⟩
        have HMe : Hid (lo ≤ md ∧ md < hi) := ⟨HM.out.1, HM.out.2.1⟩
        clear hqm hS HB1
        go_wp2
        go_roundw
        case rel => exact ⟨lo, md, rfl, rfl, HR⟩
        case measure => have := HMe.out; simp [intOf]; omega
    · have hlhI : ¬ (lo : Int) < (hi : Int) := by omega
      have HE : Hid (lo = hi) := by have := hS.out.1; show lo = hi; omega
      clear hlh
      go_wp2
      go_ret
      have h := hS.out
      exact ⟨lo, rfl, by omega, h.2.2.1, by rw [HE.out]; exact h.2.2.2.1, h.2.2.2.2⟩
end Go.Proofs.YtjmpjfggbhongaaDoor
