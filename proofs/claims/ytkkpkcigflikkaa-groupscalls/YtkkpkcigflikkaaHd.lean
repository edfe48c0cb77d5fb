/-
  Package groups: what a group's making changes in the search.
-/
import Derived.Test.YtkkpkcigflikkaaHb
namespace Go.Proofs.Ytkkpkcigflikkaa
open Go.RowKit Go.Shelf Go.Maps G
set_option linter.unusedVariables false
section
variable {W W' : World} {Y : Lay} {n : Nat} {adj : Nat → List Nat} {wv ov : Value} {met : Nat → Nat} {low : Nat → Option Nat} {grp : Nat → List Nat} {way : List V} {opn : List Nat} {now : Nat}
theorem SrAt.far (h : SrAt W Y n adj wv ov met low grp way opn now) (hs : W.heap.size ≤ W'.heap.size) (hk : ∀ k, k < W.heap.size → W'.heap[k]? = W.heap[k]?) : SrAt W' Y n adj wv ov met low grp way opn now := by
  have hF := h.Fs
  have ho := h.ok
  refine ⟨h.blk.same (hk _ h.blk.lt), h.lw.same (hk _ h.lw.lt), h.mt.same (hk _ h.mt.lt), ?_, ?_, owns_same h.wr (fun g hg => hk g (owns_lt h.wr hg).2), owns_same h.op (fun g hg => hk g (owns_lt h.op hg).2), h.wo, ho, by omega⟩
  · obtain ⟨h0, u, h1, h2⟩ := h.us
    exact ⟨h0, u, h1.same (hk _ h1.lt), fun i hi => (h2 i hi).move (fun g _ h3 h4 => ⟨h3, by omega, hk g h4⟩)⟩
  · obtain ⟨gv, g1, g2⟩ := h.gr
    refine ⟨gv, g1.same (hk _ g1.lt), fun i hi => ?_⟩
    obtain ⟨g3, g4, g5⟩ := g2 i hi
    exact ⟨g3.move (fun g _ h1 h2 => ⟨by omega, by omega, hk g h2⟩), g4, g5⟩
theorem owns_cut {W : World} {b e z n m g cap : Nat} {xs ys : List Value} (h : W.ownsRow b e z (.slice (some ⟨g, 0, none⟩) n cap) n (xs ++ ys)) (hx : xs.length = m * z) (hm : m ≤ n) : W.ownsRow b e z (.slice (some ⟨g, 0, none⟩) m cap) m xs := by
  rcases h with ⟨hl, ⟨h1, h2⟩ | ⟨g', cap', cur, h1, h2, h3, h4, h5, h6, h7⟩⟩
  · cases h1
  · cases h1
    refine ⟨hx, .inr ⟨g, cap, cur, rfl, h2, h3, by omega, h5, h6, ?_⟩⟩
    have e : cur.toList.take (m * z) = (cur.toList.take (n * z)).take (m * z) := by rw [List.take_take, Nat.min_eq_left (Nat.mul_le_mul_right z hm)]
    rw [e, h7, ← hx, List.take_left]
theorem grownBy_refl (W : World) (o : Option Nat) : W.grownBy W o := ⟨rfl, rfl, rfl, Nat.le_refl _, fun _ _ _ => rfl⟩
/-- The open places, cut off. -/
theorem SrAt.cutOpn {og cap : Nat} {os ys : List Nat} (h : SrAt W Y n adj wv (.slice (some ⟨og, 0, none⟩) (os ++ ys).length cap) met low grp way (os ++ ys) now) : SrAt (W.setCell ⟨Y.P, 5, none⟩ (.slice (some ⟨og, 0, none⟩) os.length cap)) Y n adj wv (.slice (some ⟨og, 0, none⟩) os.length cap) met low grp way os now := by
  have h1 := h.op
  rw [List.map_append] at h1
  exact h.newOpn (grownBy_refl _ _) (owns_cut h1 (by simp) (by simp)) (fun g hg => .inl hg)
/-- The way, cut off. -/
theorem SrAt.cutWay {wg cap : Nat} {ws ys : List V} (h : SrAt W Y n adj (.slice (some ⟨wg, 0, none⟩) (ws ++ ys).length cap) ov met low grp (ws ++ ys) opn now) : SrAt (W.setCell ⟨Y.P, 4, none⟩ (.slice (some ⟨wg, 0, none⟩) ws.length cap)) Y n adj (.slice (some ⟨wg, 0, none⟩) ws.length cap) ov met low grp ws opn now := by
  have h1 := h.wr
  rw [List.flatMap_append] at h1
  exact h.newWay (grownBy_refl _ _) (owns_cut h1 (vC_len ws) (by simp)) (fun g hg => .inl hg)
theorem SrAt.setLow (h : SrAt W Y n adj wv ov met low grp way opn now) (q m : Nat) : SrAt (W.setCell ⟨Y.L, q, none⟩ (nv m)) Y n adj wv ov met (upd low q (some m)) grp way opn now := by
  have ho := h.ok
  have hF := h.Fs
  have hLF := ho.LF
  have oth : ∀ g, g ≠ Y.L → (W.setCell ⟨Y.L, q, none⟩ (nv m)).heap[g]? = W.heap[g]? := fun g hg => heap_set_other _ _ _ _ _ hg
  have sz := size_set W Y.L q (nv m)
  refine ⟨h.blk.same (oth _ ho.PL), h.lw.setEq _ (fun j hj => ?_), h.mt.same (oth _ ho.LM.symm), ?_, ?_, owns_same h.wr (fun g hg => oth g (by have := (owns_lt h.wr hg).1; omega)), owns_same h.op (fun g hg => oth g (by have := (owns_lt h.op hg).1; omega)), h.wo, ho, by omega⟩
  · unfold upd; split <;> rfl
  · obtain ⟨h0, u, h1, h2⟩ := h.us
    have := ho.bL
    exact ⟨h0, u, h1.same (oth _ (by omega)), fun i hi => (h2 i hi).move (fun g _ h3 h4 => ⟨h3, by omega, oth g (by omega)⟩)⟩
  · obtain ⟨gv, g1, g2⟩ := h.gr
    refine ⟨gv, g1.same (oth _ ho.LG.symm), fun i hi => ?_⟩
    obtain ⟨g3, g4, g5⟩ := g2 i hi
    exact ⟨g3.move (fun g hg h1 h2 => ⟨by omega, by omega, oth g (by have := (g4 g hg).1; omega)⟩), g4, g5⟩
theorem SrAt.congrLow (h : SrAt W Y n adj wv ov met low grp way opn now) {low' : Nat → Option Nat} (hl : ∀ x, low' x = low x) : SrAt W Y n adj wv ov met low' grp way opn now := by
  have e : low' = low := funext hl
  rw [e]; exact h
/-- A group laid at its lowest place. -/
theorem SrAt.setGrp (h : SrAt W Y n adj wv ov met low grp way opn now) {m gb cap : Nat} {S : List Nat} (hr : RowAt W W.heap.size (.slice (some ⟨gb, 0, none⟩) S.length cap) S) (hS : S ≠ []) (hg : Y.F ≤ gb) (hw : wv.ownBlock ≠ some gb) (ho2 : ov.ownBlock ≠ some gb) : SrAt (W.setCell ⟨Y.G, m, none⟩ (.slice (some ⟨gb, 0, none⟩) S.length cap)) Y n adj wv ov met low (upd grp m S) way opn now := by
  have ho := h.ok
  have hF := h.Fs
  have hGF := ho.GF
  have oth : ∀ g, g ≠ Y.G → (W.setCell ⟨Y.G, m, none⟩ (.slice (some ⟨gb, 0, none⟩) S.length cap)).heap[g]? = W.heap[g]? := fun g hg => heap_set_other _ _ _ _ _ hg
  have sz := size_set W Y.G m (.slice (some ⟨gb, 0, none⟩) S.length cap)
  refine ⟨h.blk.same (oth _ ho.PG), h.lw.same (oth _ ho.LG), h.mt.same (oth _ ho.GM.symm), ?_, ?_, owns_same h.wr (fun g hg => oth g (by have := (owns_lt h.wr hg).1; omega)), owns_same h.op (fun g hg => oth g (by have := (owns_lt h.op hg).1; omega)), h.wo, ho, by omega⟩
  · obtain ⟨h0, u, h1, h2⟩ := h.us
    have := ho.bG
    exact ⟨h0, u, h1.same (oth _ (by omega)), fun i hi => (h2 i hi).move (fun g _ h3 h4 => ⟨h3, by omega, oth g (by omega)⟩)⟩
  · obtain ⟨gv, g1, g2⟩ := h.gr
    refine ⟨upd gv m (.slice (some ⟨gb, 0, none⟩) S.length cap), g1.set _, fun i hi => ?_⟩
    by_cases e : i = m
    · subst e
      rw [upd_at, upd_at]
      refine ⟨hr.move (fun g hg2 h1 h2 => ⟨by omega, by omega, oth g ?_⟩), fun g hg2 => ?_, ⟨fun e => (by cases e), fun e => absurd e hS⟩⟩
      · obtain rfl : gb = g := by simpa [Value.ownBlock] using hg2
        omega
      · obtain rfl : gb = g := by simpa [Value.ownBlock] using hg2
        exact ⟨hg, hw, ho2⟩
    · rw [upd_ne _ _ e, upd_ne _ _ e]
      obtain ⟨g3, g4, g5⟩ := g2 i hi
      exact ⟨g3.move (fun g hg h1 h2 => ⟨by omega, by omega, oth g (by have := (g4 g hg).1; omega)⟩), g4, g5⟩
/-- A visit of the way is written anew, in its place. -/
theorem flat_set (l : List V) (i j : Nat) (v : V) (x : Value) (hi : i < l.length) (hj : j < 3) (hv : vC v = (vC l[i]).set j x) : (l.flatMap vC).set (i * 3 + j) x = (l.set i v).flatMap vC := by
  induction l generalizing i with
  | nil => exact absurd hi (Nat.not_lt_zero _)
  | cons a l ih =>
    cases i with
    | zero =>
      simp only [List.flatMap_cons, List.set_cons_zero, Nat.zero_mul, Nat.zero_add]
      rw [List.set_append_left _ _ (by show j < 3; exact hj)]
      rw [hv]; rfl
    | succ i =>
      simp only [List.flatMap_cons, List.set_cons_succ]
      have e : (vC a).length = 3 := rfl
      rw [List.set_append_right _ _ (by rw [e]; omega), e, show (i + 1) * 3 + j - 3 = i * 3 + j by omega]
      rw [ih i (by simpa using hi) (by simpa using hv)]
theorem take_set_lt {α : Type} (l : List α) (n i : Nat) (x : α) : (l.set i x).take n = (l.take n).set i x := by
  apply List.ext_getElem?
  intro j
  by_cases hj : j < n
  · rw [List.getElem?_take_of_lt hj, List.getElem?_set, List.getElem?_set, List.getElem?_take_of_lt hj, List.length_take]
    by_cases e : i = j
    · subst e; simp only [if_true]
      by_cases h : i < l.length
      · rw [if_pos h, if_pos (by omega)]
      · rw [if_neg h, if_neg (by omega)]
    · rw [if_neg e, if_neg e]
  · rw [List.getElem?_eq_none (by rw [List.length_take]; omega), List.getElem?_eq_none (by rw [List.length_set, List.length_take]; omega)]
theorem owns_set {W : World} {b e z n g cap : Nat} {xs : List Value} {i : Nat} (x : Value) (h : W.ownsRow b e z (.slice (some ⟨g, 0, none⟩) n cap) n xs) : (W.setCell ⟨g, i, none⟩ x).ownsRow b e z (.slice (some ⟨g, 0, none⟩) n cap) n (xs.set i x) := by
  rcases h with ⟨hl, ⟨h1, h2⟩ | ⟨g', cap', cur, h1, h2, h3, h4, h5, h6, h7⟩⟩
  · cases h1
  · cases h1
    refine ⟨by simpa using hl, .inr ⟨g, cap, cur.setIfInBounds i x, rfl, h2, heap_set_at W g i x cur e h3, h4, h5, by simpa using h6, ?_⟩⟩
    rw [← h7, Array.toList_setIfInBounds, take_set_lt]
theorem SrAt.setWay {wg cap : Nat} {way : List V} (h : SrAt W Y n adj (.slice (some ⟨wg, 0, none⟩) way.length cap) ov met low grp way opn now) (i j : Nat) (v : V) (x : Value) (hi : i < way.length) (hj : j < 3) (hv : vC v = (vC way[i]).set j x) : SrAt (W.setCell ⟨wg, i * 3 + j, none⟩ x) Y n adj (.slice (some ⟨wg, 0, none⟩) way.length cap) ov met low grp (way.set i v) opn now := by
  have ho := h.ok
  have hF := h.Fs
  have hwg : Y.F ≤ wg := (owns_lt h.wr rfl).1
  have hPF := ho.PF; have hLF := ho.LF; have hGF := ho.GF; have hMF := ho.MF; have hbP := ho.bP
  have oth : ∀ g, g ≠ wg → (W.setCell ⟨wg, i * 3 + j, none⟩ x).heap[g]? = W.heap[g]? := fun g hg => heap_set_other _ _ _ _ _ hg
  have sz := size_set W wg (i * 3 + j) x
  refine ⟨h.blk.same (oth _ (by omega)), h.lw.same (oth _ (by omega)), h.mt.same (oth _ (by omega)), ?_, ?_, ?_, owns_same h.op (fun g hg => oth g (fun e => by subst e; exact h.wo g rfl hg)), h.wo, ho, by omega⟩
  · obtain ⟨h0, u, h1, h2⟩ := h.us
    exact ⟨h0, u, h1.same (oth _ (by omega)), fun i hi => (h2 i hi).move (fun g _ h3 h4 => ⟨h3, by omega, oth g (by omega)⟩)⟩
  · obtain ⟨gv, g1, g2⟩ := h.gr
    refine ⟨gv, g1.same (oth _ (by omega)), fun i hi => ?_⟩
    obtain ⟨g3, g4, g5⟩ := g2 i hi
    exact ⟨g3.move (fun g hg h1 h2 => ⟨by omega, by omega, oth g (fun e => by subst e; exact (g4 g hg).2.1 rfl)⟩), g4, g5⟩
  · have := owns_set (i := i * 3 + j) x h.wr
    rw [flat_set way i j v x hi hj hv] at this
    simpa using this
/-- A visit's cells. -/
theorem SrAt.visit {wg cap : Nat} {way : List V} (h : SrAt W Y n adj (.slice (some ⟨wg, 0, none⟩) way.length cap) ov met low grp way opn now) {i : Nat} (hi : i < way.length) : W.cell? ⟨wg, i * 3, none⟩ = some (.int .i64 (way[i].p : Int)) ∧ W.cell? ⟨wg, i * 3 + 1, none⟩ = some (.int .i64 (way[i].k : Int)) ∧ W.cell? ⟨wg, i * 3 + 2, none⟩ = some (.int .i64 (way[i].b : Int)) ∧ (∀ t, W.frozen? ⟨wg, t, none⟩ = false) ∧ wg < W.heap.size ∧ way.length ≤ cap ∧ cap ≤ 9223372036854775807 := by
  rcases h.wr with ⟨hl, ⟨h1, h2⟩ | ⟨g', cap', cur, h1, h2, h3, h4, h5, h6, h7⟩⟩
  · cases h1
  · cases h1
    have get : ∀ (l : List V) (i : Nat) (hi : i < l.length) (j : Nat), j < 3 → (l.flatMap vC)[i * 3 + j]? = (vC l[i])[j]? := by
      intro l
      induction l with
      | nil => intro i hi; exact absurd hi (Nat.not_lt_zero _)
      | cons a l ih =>
        intro i hi j hj
        cases i with
        | zero => rw [List.flatMap_cons, Nat.zero_mul, Nat.zero_add, List.getElem?_append_left (by show j < 3; exact hj)]; rfl
        | succ i =>
          have e : (vC a).length = 3 := rfl
          rw [List.flatMap_cons, List.getElem?_append_right (by rw [e]; omega), e, show (i + 1) * 3 + j - 3 = i * 3 + j by omega]
          exact ih i (by simpa using hi) j hj
    have cell : ∀ j, j < 3 → ∀ u, (vC way[i])[j]? = some u → W.cell? ⟨wg, i * 3 + j, none⟩ = some u := by
      intro j hj u hu
      have e : (cur.toList.take (way.length * 3))[i * 3 + j]? = some u := by rw [h7, get way i hi j hj, hu]
      rw [List.getElem?_take_of_lt (by omega), Array.getElem?_toList] at e
      exact Blk.cell (vs := cur) h3 _ _ e
    exact ⟨cell 0 (by decide) _ rfl, cell 1 (by decide) _ rfl, cell 2 (by decide) _ rfl, fun t => Blk.frozen (vs := cur) h3 t, (Array.getElem?_eq_some_iff.1 h3).1, h4, by unfold maxLen at h5; omega⟩
end
end Go.Proofs.Ytkkpkcigflikkaa
