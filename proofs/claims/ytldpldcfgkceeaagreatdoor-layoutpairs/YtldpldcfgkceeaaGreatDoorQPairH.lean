/-
  Two rows that grow side by side; tokens held against one another, by a contract.
-/
import Derived.Test.YtldpldcfgkceeaaGreatDoorQIs
import Derived.Test.YtldpldcfgkceeaaGreatDoorQPlacesM
import Derived.BigQuiet
namespace Go.Proofs.YtldpldcfgkceeaaGreatDoor
open Go.RowKit Go.Shelf Go.Maps
set_option linter.unusedVariables false

/-- Two rows of the call's own: tokens, and bools. -/
def P2 (W2 W : World) (ow : List M.Tk) (op : List Bool) (ov pv : Value) : Prop :=
  W.ownsRow W2.heap.size 43 7 ov ow.length (tksC ow) ∧ W.ownsRow W2.heap.size 4 1 pv op.length (op.map Value.bool) ∧ (ov.ownBlock = none ∨ ov.ownBlock ≠ pv.ownBlock) ∧ Below W2.heap.size W2 W
theorem P2.below {W2 W X : World} {ow : List M.Tk} {op : List Bool} {ov pv : Value} (h : P2 W2 W ow op ov pv) (hb : Below W.heap.size W X) : P2 W2 X ow op ov pv :=
  ⟨owns_below h.1 hb, owns_below h.2.1 hb, h.2.2.1, h.2.2.2.trans (hb.mono h.2.2.2.size)⟩
theorem owns_grown {X U : World} {b e z n : Nat} {v : Value} {xs : List Value} {rb : Option Nat} (h : X.ownsRow b e z v n xs) (hg : X.grownBy U rb) (hd : v.ownBlock = none ∨ rb = none ∨ v.ownBlock ≠ rb) : U.ownsRow b e z v n xs := by
  rcases h with ⟨hl, ⟨rfl, h0⟩ | ⟨g, cap, cur, rfl, hb, hgg, h3, h4, h5, h6⟩⟩
  · exact ⟨hl, .inl ⟨rfl, h0⟩⟩
  · refine ⟨hl, .inr ⟨g, cap, cur, rfl, hb, ?_, h3, h4, h5, h6⟩⟩
    have hlt : g < X.heap.size := (Array.getElem?_eq_some_iff.1 hgg).1
    have hne : some g ≠ rb := by
      rcases hd with h | h | h
      · simp [Value.ownBlock] at h
      · rw [h]; simp
      · simpa [Value.ownBlock] using h
    rw [hg.block g hlt hne]
    exact hgg
theorem P2.own {W2 W X U : World} {ow : List M.Tk} {op : List Bool} {ov pv ov' : Value} {t : M.Tk} (h : P2 W2 W ow op ov pv) (hX : Below W.heap.size W X) (hg : X.grownBy U ov.ownBlock) (ho : U.ownsRow W2.heap.size 43 7 ov' (ow.length + 1) (tksC ow ++ tkC t)) (hat : ov'.ownBlock = ov.ownBlock ∨ ov'.ownBlock = some X.heap.size) : P2 W2 U (ow ++ [t]) op ov' pv := by
  have hx := h.below hX
  have hd : pv.ownBlock = none ∨ ov.ownBlock = none ∨ pv.ownBlock ≠ ov.ownBlock := by
    rcases h.2.2.1 with h | h
    · exact .inr (.inl h)
    · exact .inr (.inr (fun e => h e.symm))
  refine ⟨by rw [tksC_snoc, List.length_append]; exact ho, owns_grown hx.2.1 hg hd, ?_, hx.2.2.2.grown hg hx.2.2.2.size (fun k hk => (hx.1.lt k hk).1)⟩
  rcases hat with e | e
  · rw [e]; exact h.2.2.1
  · refine .inr (fun e2 => ?_)
    have := (hx.2.1.lt _ (e2.symm.trans e)).2
    omega
theorem P2.opn {W2 W X U : World} {ow : List M.Tk} {op : List Bool} {ov pv pv' : Value} {b : Bool} (h : P2 W2 W ow op ov pv) (hX : Below W.heap.size W X) (hg : X.grownBy U pv.ownBlock) (ho : U.ownsRow W2.heap.size 4 1 pv' (op.length + 1) (op.map Value.bool ++ [.bool b])) (hat : pv'.ownBlock = pv.ownBlock ∨ pv'.ownBlock = some X.heap.size) : P2 W2 U ow (op ++ [b]) ov pv' := by
  have hx := h.below hX
  have hd : ov.ownBlock = none ∨ pv.ownBlock = none ∨ ov.ownBlock ≠ pv.ownBlock := by
    rcases h.2.2.1 with h | h
    · exact .inl h
    · exact .inr (.inr h)
  refine ⟨owns_grown hx.1 hg hd, by rw [List.map_append, List.length_append]; exact ho, ?_, hx.2.2.2.grown hg hx.2.2.2.size (fun k hk => (hx.2.1.lt k hk).1)⟩
  rcases hat with e | e
  · rw [e]; exact h.2.2.1
  · cases hk : ov.ownBlock with
    | none => exact .inl rfl
    | some k =>
      refine .inr (fun e2 => ?_)
      rw [e, Option.some.injEq] at e2
      have := (hx.1.lt k hk).2
      omega
theorem P2.pop {W2 W : World} {ow : List M.Tk} {op : List Bool} {b : Bool} {ov : Value} {g n cap : Nat} (hn : op.length = n) (h : P2 W2 W ow (op ++ [b]) ov (.slice (some ⟨g, 0, none⟩) (n + 1) cap)) : P2 W2 W ow op ov (.slice (some ⟨g, 0, none⟩) n cap) := by
  refine ⟨h.1, ?_, h.2.2.1, h.2.2.2⟩
  have h1 := h.2.1
  rcases h1 with ⟨hl, ⟨h, _⟩ | ⟨g', cap', cur, h, hb, hg, h3, h4, h5, h6⟩⟩
  · simp at h
  · simp only [Value.slice.injEq, Option.some.injEq, Addr.mk.injEq] at h
    obtain ⟨⟨rfl, -, -⟩, -, rfl⟩ := h
    subst hn
    simp only [List.length_append, List.length_singleton] at h3 h6
    refine ⟨by simp, .inr ⟨g, cap, cur, rfl, hb, hg, by omega, h4, h5, ?_⟩⟩
    have e1 : cur.toList.take (op.length * 1) = (cur.toList.take ((op.length + 1) * 1)).take op.length := by rw [List.take_take]; congr 1; omega
    rw [e1, h6, List.map_append]
    have : (op.map Value.bool).length = op.length := by simp
    rw [← this, List.take_left]
theorem ownsRow_last {W : World} {b g n cap : Nat} {op : List Bool} {x : Bool} (hn : op.length = n) (h : W.ownsRow b 4 1 (.slice (some ⟨g, 0, none⟩) (n + 1) cap) (op ++ [x]).length ((op ++ [x]).map Value.bool)) : W.cell? ⟨g, n, none⟩ = some (.bool x) := by
  have h' : W.ownsRow b 4 1 (.slice (some ⟨g, 0, none⟩) (n + 1) cap) (n + 1) ((op ++ [x]).map Value.bool) := by
    have e : (op ++ [x]).length = n + 1 := by simp [hn]
    rw [e] at h; exact h
  have h1 := h'.cellAt n (by omega)
  rw [h1, List.map_append, List.getElem?_append_right (by simp [hn])]
  simp [hn]
theorem cap_ge {W : World} {b e z g n cap m : Nat} {xs : List Value} (h : W.ownsRow b e z (.slice (some ⟨g, 0, none⟩) n cap) m xs) : n ≤ cap := by
  rcases h with ⟨hl, ⟨h, _⟩ | ⟨g', cap', cur, h, hb, hg, h3, h4, h5, h6⟩⟩
  · simp at h
  · simp only [Value.slice.injEq, Option.some.injEq, Addr.mk.injEq] at h
    obtain ⟨⟨rfl, -, -⟩, rfl, rfl⟩ := h
    exact h3

set_option maxRecDepth 100000 in
set_option maxHeartbeats 4000000 in
theorem sameTok_c (ts : List M.Tk) (b b' : Nat) (v v' : Value) (hn : ts.length ≤ 5000) (w : World) (h : w.ownsRow b 43 7 v ts.length (tksC ts)) (h' : w.ownsRow b' 43 7 v' ts.length (tksC ts)) :
    Calls Tryz.prog 15 #[v, v'] w fun r W' => r = .returned (.bool true) ∧ Below w.heap.size w W' := by
  have hdep : Tryz.prog.follows Departure.mixedOrders = true := by kernel_rfl
  obtain ⟨m, hm⟩ : ∃ m, ts.length = m := ⟨_, rfl⟩
  have HN : Hid (m ≤ 5000) := by rw [← hm]; exact hn
  obtain ⟨o, c, hv⟩ := owns_form h
  obtain ⟨o', c', hv'⟩ := owns_form h'
  subst hv hv'
  have H : Hid (w.ownsRow b 43 7 (.slice o m c) ts.length (tksC ts)) := by rw [← hm]; exact h
  have H' : Hid (w.ownsRow b' 43 7 (.slice o' m c') ts.length (tksC ts)) := by rw [← hm]; exact h'
  have HM : Hid (ts.length = m) := hm
  rw [hm]
  clear h h' hn hm
  rcases Nat.eq_zero_or_pos m with h0 | h0
  · subst h0
    clear H H' HM HN
    go_enter Tryz.func15, Tryz.ntmps15
    go_wp2
    go_loopw [5] (fun i wr => i = .int .i64 0 ∧ Hid (Below w.heap.size w wr)) (fun _ _ => 0)
    all_goals first | exact ⟨rfl, Below.refl _ _⟩ | (obtain ⟨rfl, hB⟩ := hrel; go_wp2; go_ret; exact ⟨rfl, hB.out⟩)
  · obtain ⟨m', hm'⟩ : ∃ m', m = m' + 1 := ⟨m - 1, by omega⟩
    subst hm'
    have e1 : ∃ g, o = some ⟨g, 0, none⟩ := by
      have h := H.out
      rw [HM.out] at h
      obtain ⟨g, cap, hh⟩ := ownsRow_succ' h
      simp only [Value.slice.injEq] at hh
      exact ⟨g, hh.1⟩
    have e2 : ∃ g, o' = some ⟨g, 0, none⟩ := by
      have h := H'.out
      rw [HM.out] at h
      obtain ⟨g, cap, hh⟩ := ownsRow_succ' h
      simp only [Value.slice.injEq] at hh
      exact ⟨g, hh.1⟩
    obtain ⟨g, rfl⟩ := e1
    obtain ⟨g', rfl⟩ := e2
    have hg : g < w.heap.size := (H.out.lt g rfl).2
    have hg' : g' < w.heap.size := (H'.out.lt g' rfl).2
    clear h0
    go_enter Tryz.func15, Tryz.ntmps15
    go_wp2
    go_loopw [5] (fun i wr => ∃ k : Nat, k ≤ m' + 1 ∧ i = .int .i64 k ∧ Hid (Below w.heap.size w wr)) (fun i _ => m' + 1 - (intOf i).toNat)
    case atStart => exact ⟨0, Nat.zero_le _, rfl, Below.refl _ _⟩
    case round =>
      obtain ⟨k, hk, rfl, hB⟩ := hrel
      by_cases hlt : k < m' + 1
      · have hkL : k < ts.length := by rw [HM.out]; exact hlt
        have hki : (k : Int) < (m' : Int) + 1 := by omega
        have hk5 : (k : Int) ≤ 5000 := by have := HN.out; omega
        have hcell := fun q hq u hu => (hB.out.cell (p := ⟨g, k * 7 + q, none⟩) hg).trans (tks_cell HM.out H.out k hkL q hq u hu)
        have hcell' := fun q hq u hu => (hB.out.cell (p := ⟨g', k * 7 + q, none⟩) hg').trans (tks_cell HM.out H'.out k hkL q hq u hu)
        have c0 := hcell 0 (by omega) _ rfl
        have d0 := hcell' 0 (by omega) _ rfl
        rw [Nat.add_zero] at c0 d0
        have c1 := hcell 1 (by omega) _ rfl
        have c2 := hcell 2 (by omega) _ rfl
        have c3 := hcell 3 (by omega) _ rfl
        have c4 := hcell 4 (by omega) _ rfl
        have c5 := hcell 5 (by omega) _ rfl
        have c6 := hcell 6 (by omega) _ rfl
        have d1 := hcell' 1 (by omega) _ rfl
        have d2 := hcell' 2 (by omega) _ rfl
        have d3 := hcell' 3 (by omega) _ rfl
        have d4 := hcell' 4 (by omega) _ rfl
        have d5 := hcell' 5 (by omega) _ rfl
        have d6 := hcell' 6 (by omega) _ rfl
        generalize ts[k] = t at c0 c1 c2 c3 c4 c5 c6 d0 d1 d2 d3 d4 d5 d6
        obtain ⟨⟨tk, tt, tn⟩, pos, line, col, first⟩ := t
        simp only at c0 c1 c2 c3 c4 c5 c6 d0 d1 d2 d3 d4 d5 d6
        clear hcell hcell' hkL H H' HM HN
        have jf : (first != first) = false := by cases first <;> rfl
        go_wp2_with fail
        go_big_quiet (fail)
        go_wp2
        go_roundw
        case rel =>
          refine ⟨k + 1, by omega, by go_num, ?_⟩
          show Below _ _ _
          refine Below.trans hB.out ⟨rfl, rfl, rfl, Nat.le_refl _, fun _ _ => rfl⟩
        case measure => simp [intOf]; omega
      · obtain rfl : k = m' + 1 := by omega
        go_wp2
        go_ret
        exact ⟨rfl, hB.out⟩

end Go.Proofs.YtldpldcfgkceeaaGreatDoor
