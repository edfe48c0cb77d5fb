/-
  The document's Of, where nothing is wrong: what it has in memory.
-/
import Derived.Test.YtkkpkcigflikkaaQe
namespace Go.Proofs.Ytkkpkcigflikkaa
open Go.RowKit Go.Shelf Go.Maps G
set_option linter.unusedVariables false

theorem infoBools : (Try.prog.info? 49).map (fun i => (i.zero, i.size, i.bytes)) = some (some (.slice none 0 0), 1, 24) := by kernel_rfl
/-- Who leans on whom, row by row: one more. -/
theorem LnAt.next {W W' : World} {B n k : Nat} {R : Nat → Nat} {lv : Nat → Nat → Bool} {O : Nat → Bool} {r : Nat} (h : LnAt W B n k R lv) (hR : ∀ i, i < k → W'.heap[R i]? = W.heap[R i]?) (hB : W'.heap[B]? = W.heap[B]?) (ho : FB W' r n (fun i => .bool (O i)) 4) (hne : r ≠ B) (hRn : ∀ i, i < k → R i ≠ r) : LnAt (W'.setCell ⟨B, k, none⟩ (.slice (some ⟨r, 0, none⟩) n n)) B n (k + 1) (upd R k r) (fun i => if i = k then O else lv i) := by
  have h' := h.same hB hR
  obtain ⟨⟨u, h1, h2⟩, h3⟩ := h'
  refine ⟨⟨upd u k (.slice (some ⟨r, 0, none⟩) n n), h1.set _, fun i hi => ?_⟩, fun i hi => ?_⟩
  · by_cases e : i = k
    · subst e; rw [upd_at, upd_at]
    · rw [upd_ne _ _ e, upd_ne _ _ e]; exact h2 i (by omega)
  · by_cases e : i = k
    · subst e
      rw [upd_at]
      simp only [if_true]
      exact ⟨ho.setOther _ hne, hne⟩
    · rw [upd_ne _ _ e]
      simp only [e, if_false]
      have := h3 i (by omega)
      exact ⟨this.1.setOther _ this.2, this.2⟩
/-- The groups that stand, in memory. -/
structure OfI (w0 W : World) (n Sb : Nat) (low : Nat → Nat) (grp : Nat → List Nat) (S : List Nat) (r : Nat) (ov : Value) (gvs : List Value) : Prop where
  st : FB W Sb n (fun k => .bool (decide (pos low S k < r))) 4
  own : W.ownsRow (Sb + 1) 30 1 ov gvs.length gvs
  ln : gvs.length = r
  rows : ∀ j (h : j < gvs.length) (hS : j < S.length), RowAt W W.heap.size gvs[j] (grp S[j]) ∧ ∀ b, gvs[j].ownBlock = some b → Sb < b ∧ ov.ownBlock ≠ some b
  bl : Below Sb w0 W
/-- One group more is gathered, in memory. -/
structure OfJ (w1 W : World) (n Sb : Nat) (low : Nat → Nat) (G : List Nat) (S : List Nat) (r k : Nat) (v : Value) : Prop where
  st : FB W Sb n (fun x => .bool (decide (pos low S x < r) || (decide (x < k) && decide (x ∈ G)))) 4
  own : W.ownsRow w1.heap.size 3 1 v ((List.range k).filter (fun x => decide (x ∈ G))).length (((List.range k).filter (fun x => decide (x ∈ G))).map nv)
  sz : w1.heap.size ≤ W.heap.size
  kp : ∀ b, b < w1.heap.size → b ≠ Sb → W.heap[b]? = w1.heap[b]?
  bl : Below Sb w1 W
theorem OfJ.skip {w1 W : World} {n Sb : Nat} {low : Nat → Nat} {G : List Nat} {S : List Nat} {r k : Nat} {v : Value} (h : OfJ w1 W n Sb low G S r k v) (hk : k ∉ G) : OfJ w1 W n Sb low G S r (k + 1) v := by
  have e : (List.range (k + 1)).filter (fun x => decide (x ∈ G)) = (List.range k).filter (fun x => decide (x ∈ G)) := by
    rw [List.range_succ, List.filter_append]; simp [hk]
  refine ⟨h.st.congr (fun x _ => ?_), by rw [e]; exact h.own, h.sz, h.kp, h.bl⟩
  congr 2
  by_cases e1 : x = k
  · subst e1; simp [hk]
  · have : (x < k + 1) ↔ (x < k) := by omega
    simp only [this]
theorem OfJ.push {w1 W W' : World} {n Sb : Nat} {low : Nat → Nat} {G : List Nat} {S : List Nat} {r k m : Nat} {v : Value} {o8 c8 : Nat} (h : OfJ w1 W n Sb low G S r k v) (hk : k ∈ G) (hkn : k < n) (hSb : Sb < w1.heap.size) (hm : ((List.range k).filter (fun x => decide (x ∈ G))).length = m)
    (hg : (W.alloc (.cells #[.int .i64 (k : Int)] 3)).grownBy W' v.ownBlock) (ho : W'.ownsRow w1.heap.size 3 1 (.slice (some ⟨o8, 0, none⟩) (m + 1) c8) (m + 1) (((List.range k).filter (fun x => decide (x ∈ G))).map nv ++ [.int .i64 (k : Int)])) :
    OfJ w1 (W'.setCell ⟨Sb, k, none⟩ (.bool true)) n Sb low G S r (k + 1) (.slice (some ⟨o8, 0, none⟩) (m + 1) c8) := by
  have e : (List.range (k + 1)).filter (fun x => decide (x ∈ G)) = (List.range k).filter (fun x => decide (x ∈ G)) ++ [k] := by
    rw [List.range_succ, List.filter_append]; simp [hk]
  have hne : ∀ b, b < w1.heap.size → v.ownBlock ≠ some b := fun b hb e => by have := (owns_lt h.own e).1; omega
  have hst : FB W' Sb n (fun x => .bool (decide (pos low S x < r) || (decide (x < k) && decide (x ∈ G)))) 4 := (h.st.alloc _).same (grown_block hg (by have := h.sz; simp; omega) (hne Sb hSb))
  refine ⟨hst.setEq (.bool true) (fun x hx => ?_), ?_, ?_, fun b hb hbS => ?_, ((h.bl.alloc (by have := h.sz; omega) _).grown hg (by have := h.sz; simp; omega) (fun g hg9 => by have := (owns_lt h.own hg9).1; omega)).setCell (p := ⟨Sb, k, none⟩) (Nat.le_refl _) _⟩
  · unfold upd
    by_cases e1 : x = k
    · subst e1; simp [hk]
    · rw [if_neg e1]
      congr 2
      have : (x < k + 1) ↔ (x < k) := by omega
      simp only [this]
  · rw [e, List.length_append, List.map_append, hm]
    exact owns_same ho (fun g hg9 => heap_set_other _ _ _ _ _ (by have := (owns_lt ho hg9).1; omega))
  · rw [size_set]
    have := hg.size
    have := h.sz
    simp at this ⊢
    have h9 := hg.size
    simp at h9
    omega
  · refine (heap_set_other _ _ _ _ _ hbS).trans ((grown_block hg (by have := h.sz; simp; omega) (hne b hb)).trans ((Below.heap_alloc W _ b (by have := h.sz; omega)).trans (h.kp b hb hbS)))
/-- The group stands. -/
theorem OfI.next {w0 w1 W W' : World} {n Sb : Nat} {low : Nat → Nat} {grp : Nat → List Nat} {S : List Nat} {r : Nat} {ov : Value} {gvs : List Value} {go gm gc o8 c8 : Nat} {adj : Nat → List Nat} (hP : Parted n adj low grp) (hO : Ordered n adj low S) (h : OfI w0 w1 n Sb low grp S r ov gvs) (hr : r < S.length) (hSb : Sb < w1.heap.size) (h0 : w0.heap.size ≤ Sb)
    (hJ : OfJ w1 W n Sb low (grp S[r]) S r n (.slice (some ⟨go, 0, none⟩) gm gc)) (hgm : gm = (grp S[r]).length)
    (hg : (W.alloc (.cells #[.slice (some ⟨go, 0, none⟩) gm gc] 30)).grownBy W' ov.ownBlock) (ho : W'.ownsRow (Sb + 1) 30 1 (.slice (some ⟨o8, 0, none⟩) (r + 1) c8) (r + 1) (gvs ++ [.slice (some ⟨go, 0, none⟩) gm gc])) (hat : ov.ownBlock = some o8 ∨ o8 = W.heap.size + 1) :
    OfI w0 W' n Sb low grp S (r + 1) (.slice (some ⟨o8, 0, none⟩) (r + 1) c8) (gvs ++ [.slice (some ⟨go, 0, none⟩) gm gc]) := by
  have hov : ∀ b, ov.ownBlock = some b → Sb < b ∧ b < w1.heap.size := fun b hb => by have := owns_lt h.own hb; omega
  have hfil := grp_filter hP hO hr
  have hsz := hJ.sz
  have hgo : w1.heap.size ≤ go ∧ go < W.heap.size := owns_lt hJ.own rfl
  have hsame : ∀ b, b < W.heap.size → ov.ownBlock ≠ some b → W'.heap[b]? = W.heap[b]? := fun b hb hn => (grown_block hg (by simp; omega) hn).trans (Below.heap_alloc W _ b hb)
  have hgs := hg.size
  simp at hgs
  refine ⟨?_, by simpa [h.ln] using ho, by simp [h.ln], fun j hj hS => ?_, ?_⟩
  · refine (hJ.st.same (hsame Sb (by omega) (fun e => by have := hov Sb e; omega))).congr (fun x hx => ?_)
    congr 1
    have h1 := turn_mem hP hO hr hx
    by_cases e : x ∈ grp S[r]
    · have := h1.1 e
      simp [e, hx, this]
    · have h2 : pos low S x ≠ r := fun e2 => e (h1.2 e2)
      have h3 : (pos low S x < r + 1) ↔ (pos low S x < r) := by omega
      simp [e, h3]
  · rw [List.length_append] at hj
    simp only [List.length_cons, List.length_nil] at hj
    by_cases e : j < gvs.length
    · rw [List.getElem_append_left e]
      obtain ⟨r1, r2⟩ := h.rows j e hS
      refine ⟨r1.move (fun g hgb h1 h2 => ⟨by omega, by omega, (hsame g (by omega) (r2 g hgb).2).trans (hJ.kp g h2 (by have := (r2 g hgb).1; omega))⟩), fun b hb => ⟨(r2 b hb).1, fun e2 => ?_⟩⟩
      have e3 : o8 = b := by simpa [Value.ownBlock] using e2
      subst e3
      rcases hat with h9 | h9
      · exact (r2 _ hb).2 h9
      · rcases r1 with ⟨r3, _⟩ | ⟨g, c, r3, _, _, _, r4, _⟩
        · rw [r3] at hb; cases hb
        · rw [r3] at hb
          have : g = o8 := by simpa [Value.ownBlock] using hb
          omega
    · have e1 : j = gvs.length := by omega
      subst e1
      have e2 : gvs.length = r := h.ln
      rw [List.getElem_append_right (Nat.le_refl _)]
      simp only [Nat.sub_self, List.getElem_cons_zero]
      have hrow : RowAt W W.heap.size (.slice (some ⟨go, 0, none⟩) gm gc) (grp S[r]) := by
        have h9 := hJ.own
        rw [hfil] at h9
        exact owns_row h9 (fun g hg9 => (owns_lt h9 hg9).2)
      have e3 : S[gvs.length] = S[r] := by congr 1
      rw [e3]
      refine ⟨hrow.move (fun g hgb h1 h2 => ⟨by omega, by omega, hsame g h2 (fun e9 => ?_)⟩), fun b hb => ?_⟩
      · have e5 : go = g := by simpa [Value.ownBlock] using hgb
        have := hov g e9
        omega
      · have e5 : go = b := by simpa [Value.ownBlock] using hb
        subst e5
        refine ⟨by omega, fun e9 => ?_⟩
        have e6 : o8 = go := by simpa [Value.ownBlock] using e9
        rcases hat with h9 | h9
        · have := hov o8 h9; omega
        · omega
  · have h1 := h.bl
    have h2 : Below Sb w1 W' := (hJ.bl.alloc (by omega) _).grown hg (by simp; omega) (fun g hg9 => by have := hov g hg9; omega)
    exact h1.trans h2
end Go.Proofs.Ytkkpkcigflikkaa
