/-
  A walk in memory (stage 16): parted, by a contract.
-/
import Derived.Test.YtjmpjfggbhongaaDoorUh
namespace Go.Proofs.YtjmpjfggbhongaaDoor
open Go.RowKit Go.Shelf Go.Maps
set_option linter.unusedVariables false

theorem altsIn_app {p : Nat} {Y : List (Nat × Option Nat)} : ∀ {X : List (Nat × Option Nat)}, (∀ q ∈ X, p < q.1) → altsIn (X ++ Y) p = altsIn Y p
  | [], _ => rfl
  | q :: X, h => by
    show (if q.1 ≤ p then q.2 else altsIn (X ++ Y) p) = _
    rw [if_neg (by have := h q List.mem_cons_self; omega)]
    exact altsIn_app (fun a ha => h a (List.mem_cons_of_mem _ ha))
theorem altsIn_rev {p : Nat} (L : List (Nat × Option Nat)) (r : Nat) (hr : r < L.length) (h1 : L[r].1 ≤ p) (h2 : ∀ k (hk : k < L.length), r < k → p < L[k].1) : altsIn L.reverse p = L[r].2 := by
  have e : L = L.take r ++ L[r] :: L.drop (r + 1) := by
    rw [← List.drop_eq_getElem_cons hr, List.take_append_drop]
  have e2 : L.reverse = (L.drop (r + 1)).reverse ++ (L[r] :: (L.take r).reverse) := by
    conv => lhs; rw [e]
    rw [List.reverse_append, List.reverse_cons, List.append_assoc]; rfl
  rw [e2, altsIn_app]
  · exact if_pos h1
  · intro q hq
    rw [List.mem_reverse] at hq
    obtain ⟨k, hk, rfl⟩ := List.mem_iff_getElem.1 hq
    rw [List.getElem_drop]
    exact h2 _ _ (by omega)
theorem prt_rev {p : Nat} (hp : p < 9223372036854775807) (l : List (Nat × Option Nat)) (r : Nat) (hr : r < l.reverse.length) (h1 : l.reverse[r].1 ≤ p) (h2 : ∀ k (hk : k < l.reverse.length), r < k → p < l.reverse[k].1) : prt l p = decide (aV l.reverse[r].2 ≤ (p : Int)) := by
  have := altsIn_rev l.reverse r hr h1 h2
  rw [List.reverse_reverse] at this
  unfold prt
  rw [this]
  cases l.reverse[r].2 with
  | none => exact (decide_eq_false (by show ¬ (9223372036854775807 : Int) ≤ p; omega)).symm
  | some a =>
    show decide (a ≤ p) = decide ((a : Int) ≤ (p : Int))
    by_cases h : a ≤ p
    · rw [decide_eq_true h, decide_eq_true (by omega)]
    · rw [decide_eq_false h, decide_eq_false (by omega)]
set_option maxHeartbeats 8000000 in
set_option maxRecDepth 100000 in
theorem wkParted_c (F P : Nat) (s : WS) (p : Nat) (w : World) (h : WkAt w F P s) (hw : Wf s) (hne : s.parts ≠ []) (ht : tot s ≤ 3000000) (hp : p ≤ 3000000) :
    Calls Tryd.prog 68 #[.pointer (some ⟨P, 0, none⟩), .int .i64 (p : Int)] w fun e w' => e = .returned (.bool (prt s.parts p)) ∧ Below w.heap.size w w' := by
  obtain ⟨bl, pv, sv, av, m, c, h⟩ := h
  obtain ⟨o, cap, rfl, hn, hcap⟩ := owns_form h.pr
  have hlen : 0 < s.parts.length := List.length_pos_iff.2 hne
  obtain ⟨g, rfl, lg, -, -, -⟩ := owns_cell2 h.pr hlen
  obtain ⟨V, hV⟩ : ∃ V, w.alloc (.cells #[.pointer (some ⟨P, 0, none⟩)] 66) = V := ⟨_, rfl⟩
  have k0 : Blk V w.heap.size #[.pointer (some ⟨P, 0, none⟩)] 66 := by rw [← hV]; exact Blk.new w _ _
  have b0 : Below w.heap.size w V := by rw [← hV]; exact below1 w _
  have hVs : V.heap.size = w.heap.size + 1 := by rw [← hV]; exact Array.size_push _
  obtain ⟨U, hU⟩ : ∃ U, V.alloc (.cells #[.int .i64 (p : Int)] 3) = U := ⟨_, rfl⟩
  have k1 : Blk U V.heap.size #[.int .i64 (p : Int)] 3 := by rw [← hU]; exact Blk.new V _ _
  have b1 : Below V.heap.size V U := by rw [← hU]; exact below1 V _
  have k0' : Blk U w.heap.size #[.pointer (some ⟨P, 0, none⟩)] 66 := by unfold Blk; rw [b1.block _ (by omega)]; exact k0
  have bU : Below w.heap.size w U := b0.trans (b1.mono (by omega))
  have hsU := bU.size
  have hUs : U.heap.size = w.heap.size + 2 := by rw [← hU]; show (V.heap.push _).size = _; rw [Array.size_push, hVs]
  have hU1 := h.on bU
  obtain ⟨n, hnn⟩ : ∃ n, s.parts.length = n := ⟨_, rfl⟩
  have hPt : PtR U w.heap.size V.heap.size P g n cap s.parts.reverse p := by
    refine ⟨k0'.cell 0 _ rfl, k1.cell 0 _ rfl, by omega, by omega, hU1.blk.lt, by omega, by rw [← hnn]; exact hU1.blk.cell 0 _ rfl, by rw [List.length_reverse, hnn], by omega, fun k hk => ?_⟩
    have hk' : k < s.parts.length := by rw [List.length_reverse] at hk; exact hk
    obtain ⟨g', eg, -, -, q1, q2⟩ := owns_cell2 hU1.pr hk'
    cases eg
    obtain ⟨e1, e2⟩ := pL_at s.parts k hk'
    exact ⟨q1.trans e1, q2.trans e2⟩
  have hn3 : n ≤ 3000000 := by unfold tot at ht; omega
  have HP : Hid (PtR U w.heap.size V.heap.size P g n cap s.parts.reverse p ∧ n ≤ 3000000 ∧ s.parts.length = n) := ⟨hPt, hn3, hnn⟩
  have hz : s.parts.reverse[0]'(by rw [List.length_reverse]; exact hlen) = s.parts.getLast hne := by
    rw [List.getElem_reverse, List.getLast_eq_getElem]; congr 1
  have HS : Hid (Calls Tryd.prog 91 #[.int .i64 (n : Int), .func (.func 92) #[] #[.pointer (some ⟨w.heap.size, 0, none⟩), .pointer (some ⟨V.heap.size, 0, none⟩)]] U fun e w' => ∃ r : Nat, ∃ hr : r < s.parts.reverse.length, e = .returned (.int .i64 ((r : Int) + 1)) ∧ r < n ∧ prt s.parts p = decide (aV s.parts.reverse[r].2 ≤ (p : Int)) ∧ Below U.heap.size U w') := by
    have hl : s.parts.reverse.length = n := by rw [List.length_reverse, hnn]
    refine (search_c U w.heap.size V.heap.size n hn3 (fun i => if h : i < s.parts.reverse.length then decide (p < s.parts.reverse[i].1) else false) (fun W i hW hi => ?_) (fun a b hab hb ha => ?_)).mono ?_
    · have hi' : i < s.parts.reverse.length := by omega
      refine (parted1_c W _ _ _ _ _ _ _ _ (HP.out.1.below hW) i hi' HP.out.2.1).mono ?_
      rintro e w' ⟨rfl, hb⟩
      simp only [hi', dif_pos]
      exact ⟨trivial, hW.trans (hb.mono hW.size)⟩
    · have ha' : a < s.parts.reverse.length := by omega
      have hb' : b < s.parts.reverse.length := by omega
      simp only [ha', hb', dif_pos, decide_eq_true_eq] at ha ⊢
      rcases Nat.lt_or_eq_of_le hab with h9 | h9
      · have hp9 : (s.parts.reverse).Pairwise (fun x y => x.1 ≤ y.1) := List.pairwise_reverse.2 hw.srt
        have := List.pairwise_iff_getElem.1 hp9 a b ha' hb' h9
        omega
      · subst h9; exact ha
    · rintro e w' ⟨r, rfl, h1, h2, h3, hb⟩
      have hr0 : 0 < r := by
        rcases Nat.eq_zero_or_pos r with h0 | h0
        · have h4 := h3 0 (by omega) (by omega)
          have hl0 : 0 < s.parts.reverse.length := by omega
          simp only [hl0, dif_pos, decide_eq_true_eq] at h4
          rw [hz, hw.zero (s.parts.getLast hne) (List.getLast?_eq_some_getLast hne)] at h4
          omega
        · exact h0
      have hr1 : r - 1 < s.parts.reverse.length := by omega
      refine ⟨r - 1, hr1, by congr 2; omega, by omega, ?_, hb⟩
      refine prt_rev (by omega) s.parts (r - 1) hr1 ?_ (fun k hk hlt => ?_)
      · have h4 := h2 (r - 1) (by omega)
        simp only [hr1, dif_pos, decide_eq_false_iff_not] at h4
        omega
      · have h4 := h3 k (by omega) (by omega)
        simp only [hk, dif_pos, decide_eq_true_eq] at h4
        exact h4
  have HB : Hid (Below w.heap.size w U) := bU
  obtain ⟨b1', b2', l1, l2, lP, lg', c0, len, nc, at0⟩ := hPt
  have hnI : (n : Int) ≤ 3000000 := by omega
  have hncI : (n : Int) ≤ (cap : Int) := by omega
  clear k0 b0 hVs k1 b1 k0' bU hsU hUs hU1 hnn hn3 hz hlen h hn hcap lg at0 len ht hw hne hp
  go_enter Tryd.func68, Tryd.ntmps68
  go_upto_region 1 with fail
  (try rw [hV])
  (try rw [hU])
  go_wp2_with (go_at_call 91; fail)
  refine HS.out.mono ?_
  rintro e w1 ⟨r, hr, rfl, hrn, hprt, hb1⟩
  have H1 : Hid (PtR w1 w.heap.size V.heap.size P g n cap s.parts.reverse p ∧ Below w.heap.size w w1 ∧ prt s.parts p = decide (aV s.parts.reverse[r].2 ≤ (p : Int))) := ⟨HP.out.1.below hb1, HB.out.trans (hb1.mono HB.out.size), hprt⟩
  have hrI : (r : Int) < (n : Int) := by omega
  have hr0 : (0 : Int) ≤ (r : Int) := by omega
  clear hb1 hprt HS b1' b2' l1 l2 lP lg' c0
  go_upto_region 2 with fail
  have hx := H1.out.1
  obtain ⟨z1, z2, y1, y2, yP, yg, zc, zl, -, zat⟩ := hx
  have za := (zat r hr).2
  obtain ⟨x, hxx⟩ : ∃ x, aV s.parts.reverse[r].2 = x := ⟨_, rfl⟩
  have HX : Hid (aV s.parts.reverse[r].2 = x) := hxx
  rw [hxx] at za
  clear zat hxx zl
  go_region
  all_goals (
    go_wp2
    go_ret
    have h9 := H1.out.2
    rw [HX.out] at h9
    exact ⟨by rw [h9.2]; rfl, h9.1.drew⟩)
end Go.Proofs.YtjmpjfggbhongaaDoor
