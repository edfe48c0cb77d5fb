/-
  Package groups in memory: blocks told by functions, rows.
-/
import Derived.WalkKit
import Derived.Shelf.Abstract
import Derived.Maps.OwnSet
import Derived.Maps.OwnOps
import Derived.Maps.AppendAt
import Derived.Deep.AppendLies
import Derived.Deep.RegionLaw
import Derived.Deep.RegionHeld3
import Derived.Deep.RegionWith
import Derived.Deep.Cut
import Derived.Deep.LoopGhost
import Derived.BigQuiet
import Derived.Deep.QuietTactic
import Derived.Test.YtkkpkcigflikkaaChecked
import Derived.Test.YtkkpkcigflikkaaGb
namespace Go.Proofs.Ytkkpkcigflikkaa
open Go.RowKit Go.Shelf Go.Maps G
set_option linter.unusedVariables false

def Blk (W : World) (B : Nat) (vs : Array Value) (T : TypeId) : Prop := W.heap[B]? = some (.cells vs T (0, 0))
theorem Blk.lt {W : World} {B : Nat} {vs : Array Value} {T : TypeId} (h : Blk W B vs T) : B < W.heap.size := (Array.getElem?_eq_some_iff.1 h).1
theorem Blk.cell {W : World} {B : Nat} {vs : Array Value} {T : TypeId} (h : Blk W B vs T) (j : Nat) (v : Value) (hv : vs[j]? = some v) : W.cell? ⟨B, j, none⟩ = some v := by
  simp [World.cell?, show W.heap[B]? = _ from h, hv]
theorem Blk.frozen {W : World} {B : Nat} {vs : Array Value} {T : TypeId} (h : Blk W B vs T) (j : Nat) : W.frozen? ⟨B, j, none⟩ = false := by
  simp [World.frozen?, show W.heap[B]? = _ from h]
theorem Blk.below {W W' : World} {B : Nat} {vs : Array Value} {T : TypeId} (h : Blk W B vs T) (hb : Below W.heap.size W W') : Blk W' B vs T := by
  unfold Blk; rw [hb.block B h.lt]; exact h
theorem Blk.same {W W' : World} {B : Nat} {vs : Array Value} {T : TypeId} (h : Blk W B vs T) (hb : W'.heap[B]? = W.heap[B]?) : Blk W' B vs T := by unfold Blk; rw [hb]; exact h
theorem Blk.new (W : World) (vs : Array Value) (T : TypeId) : Blk (W.alloc (.cells vs T)) W.heap.size vs T := by
  show (W.heap.push _)[W.heap.size]? = _
  exact Array.getElem?_push_size
theorem Blk.alloc {W : World} {B : Nat} {vs : Array Value} {T : TypeId} (h : Blk W B vs T) (o : Obj) : Blk (W.alloc o) B vs T := by
  unfold Blk; rw [Below.heap_alloc W o B h.lt]; exact h
theorem Blk.drew {W : World} {B : Nat} {vs : Array Value} {T : TypeId} (h : Blk W B vs T) : Blk W.drew B vs T := h
theorem heap_set_at (W : World) (B i : Nat) (v : Value) (a : Array Value) (T : TypeId) (h : W.heap[B]? = some (.cells a T (0, 0))) : (W.setCell ⟨B, i, none⟩ v).heap[B]? = some (.cells (a.setIfInBounds i v) T (0, 0)) := by
  simp [World.setCell, Array.getElem?_modify, h]
theorem heap_set_other (W : World) (R i r : Nat) (v : Value) (h : r ≠ R) : (W.setCell ⟨R, i, none⟩ v).heap[r]? = W.heap[r]? := Below.heap_setCell W ⟨R, i, none⟩ v r h
theorem Blk.set {W : World} {B : Nat} {vs : Array Value} {T : TypeId} (h : Blk W B vs T) (i : Nat) (v : Value) : Blk (W.setCell ⟨B, i, none⟩ v) B (vs.setIfInBounds i v) T := heap_set_at W B i v vs T h
theorem size_set (W : World) (B i : Nat) (v : Value) : (W.setCell ⟨B, i, none⟩ v).heap.size = W.heap.size := by simp [World.setCell]

/-- A block of n cells, told by a function. -/
def FB (W : World) (B n : Nat) (f : Nat → Value) (e : TypeId) : Prop := ∃ a : Array Value, W.heap[B]? = some (.cells a e (0, 0)) ∧ a.size = n ∧ ∀ i, i < n → a[i]? = some (f i)
section
variable {W W' : World} {B n : Nat} {f : Nat → Value} {e : TypeId}
theorem FB.lt (h : FB W B n f e) : B < W.heap.size := by obtain ⟨a, h, _⟩ := h; exact (Array.getElem?_eq_some_iff.1 h).1
theorem FB.cell (h : FB W B n f e) {i : Nat} (hi : i < n) : W.cell? ⟨B, i, none⟩ = some (f i) := by obtain ⟨a, h1, h2, h3⟩ := h; exact Blk.cell (vs := a) h1 i _ (h3 i hi)
theorem FB.frozen (h : FB W B n f e) (i : Nat) : W.frozen? ⟨B, i, none⟩ = false := by obtain ⟨a, h1, h2, h3⟩ := h; exact Blk.frozen (vs := a) h1 i
theorem FB.same (h : FB W B n f e) (hb : W'.heap[B]? = W.heap[B]?) : FB W' B n f e := by obtain ⟨a, h1, h2⟩ := h; exact ⟨a, hb.trans h1, h2⟩
theorem FB.below (h : FB W B n f e) {m : Nat} (hb : Below m W W') (hm : B < m) : FB W' B n f e := h.same (hb.block B hm)
theorem FB.set (h : FB W B n f e) {i : Nat} (v : Value) : FB (W.setCell ⟨B, i, none⟩ v) B n (upd f i v) e := by
  obtain ⟨a, h1, h2, h3⟩ := h
  refine ⟨a.setIfInBounds i v, heap_set_at W B i v a e h1, by simpa using h2, fun j hj => ?_⟩
  by_cases c : j = i
  · subst c; rw [upd_at]; simp [h2, hj]
  · rw [upd_ne _ _ c, Array.getElem?_setIfInBounds_ne (Ne.symm c)]; exact h3 j hj
theorem FB.setEq (h : FB W B n f e) {i : Nat} (v : Value) {f' : Nat → Value} (hf : ∀ j, j < n → f' j = upd f i v j) : FB (W.setCell ⟨B, i, none⟩ v) B n f' e := by
  obtain ⟨a, h1, h2, h3⟩ := h.set (i := i) v
  exact ⟨a, h1, h2, fun j hj => by rw [hf j hj]; exact h3 j hj⟩
theorem FB.congr (h : FB W B n f e) {f' : Nat → Value} (hf : ∀ j, j < n → f' j = f j) : FB W B n f' e := by
  obtain ⟨a, h1, h2, h3⟩ := h
  exact ⟨a, h1, h2, fun j hj => by rw [hf j hj]; exact h3 j hj⟩
theorem FB.drew (h : FB W B n f e) : FB W.drew B n f e := h
theorem FB.alloc (h : FB W B n f e) (o : Obj) : FB (W.alloc o) B n f e := h.same (Below.heap_alloc W o B h.lt)
theorem FB.setOther (h : FB W B n f e) {R i : Nat} (v : Value) (hr : B ≠ R) : FB (W.setCell ⟨R, i, none⟩ v) B n f e := h.same (heap_set_other W R i B v hr)
end
theorem fb_made (W : World) (z : Value) (n : Nat) (e : TypeId) : FB (W.alloc (.cells (madeCells #[z] n) e)) W.heap.size n (fun _ => z) e := by
  refine ⟨madeCells #[z] n, Blk.new W _ _, size_madeCells _ _, fun i hi => ?_⟩
  have h : i < (madeCells #[z] n).size := by rw [size_madeCells]; exact hi
  rw [Array.getElem?_eq_getElem h]
  simp [madeCells, Nat.mod_one]

/-- A number as a cell. -/
def nv (i : Nat) : Value := .int .i64 (i : Int)
/-- A row of numbers that can be read, its block below a number. -/
def RowAt (W : World) (b : Nat) (v : Value) (l : List Nat) : Prop := (v = .slice none 0 0 ∧ l = []) ∨ ∃ g cap, v = .slice (some ⟨g, 0, none⟩) l.length cap ∧ l.length ≤ cap ∧ cap ≤ 9223372036854775807 ∧ g < b ∧ g < W.heap.size ∧ ∀ j (h : j < l.length), W.cell? ⟨g, j, none⟩ = some (nv l[j])
theorem RowAt.slice {W : World} {b : Nat} {v : Value} {l : List Nat} (h : RowAt W b v l) : ∃ o cap, v = .slice o l.length cap ∧ l.length ≤ cap ∧ cap ≤ 9223372036854775807 := by
  rcases h with ⟨rfl, rfl⟩ | ⟨g, cap, rfl, h1, h2, _⟩
  · exact ⟨none, 0, rfl, Nat.le_refl _, by decide⟩
  · exact ⟨_, cap, rfl, h1, h2⟩
theorem RowAt.at {W : World} {b : Nat} {v : Value} {l : List Nat} (h : RowAt W b v l) {j : Nat} (hj : j < l.length) : ∃ g cap, v = .slice (some ⟨g, 0, none⟩) l.length cap ∧ l.length ≤ cap ∧ cap ≤ 9223372036854775807 ∧ g < b ∧ g < W.heap.size ∧ W.cell? ⟨g, j, none⟩ = some (nv l[j]) := by
  rcases h with ⟨rfl, rfl⟩ | ⟨g, cap, h0, h1, h2, h3, h4, h5⟩
  · exact absurd hj (Nat.not_lt_zero _)
  · exact ⟨g, cap, h0, h1, h2, h3, h4, h5 j hj⟩
theorem RowAt.move {W W' : World} {b b' : Nat} {v : Value} {l : List Nat} (h : RowAt W b v l) (hs : ∀ g, v.ownBlock = some g → g < b → g < W.heap.size → g < b' ∧ g < W'.heap.size ∧ W'.heap[g]? = W.heap[g]?) : RowAt W' b' v l := by
  rcases h with h | ⟨g, cap, rfl, h1, h2, h3, h4, h5⟩
  · exact .inl h
  · obtain ⟨g1, g2, g3⟩ := hs g rfl h3 h4
    exact .inr ⟨g, cap, rfl, h1, h2, g1, g2, fun j hj => by rw [World.cell?_of_block (a := ⟨g, j, none⟩) g3]; exact h5 j hj⟩
theorem RowAt.below {W W' : World} {b : Nat} {v : Value} {l : List Nat} (h : RowAt W b v l) {m : Nat} (hb : Below m W W') (hm : b ≤ m) : RowAt W' b v l := h.move (fun g _ h1 h2 => ⟨h1, Nat.lt_of_lt_of_le h2 hb.size, hb.block g (by omega)⟩)
/-- Rows of numbers, all below a number. -/
def RowsAt (W : World) (b B n : Nat) (adj : Nat → List Nat) : Prop := B < b ∧ ∃ u : Nat → Value, FB W B n u 30 ∧ ∀ i, i < n → RowAt W b (u i) (adj i)
theorem RowsAt.below {W W' : World} {b B n : Nat} {adj : Nat → List Nat} (h : RowsAt W b B n adj) {m : Nat} (hb : Below m W W') (hm : b ≤ m) : RowsAt W' b B n adj := by
  obtain ⟨h0, u, h1, h2⟩ := h
  exact ⟨h0, u, h1.below hb (by omega), fun i hi => (h2 i hi).below hb hm⟩
theorem RowsAt.len {W : World} {b B n : Nat} {adj : Nat → List Nat} (h : RowsAt W b B n adj) {i : Nat} (hi : i < n) : ∃ o cap, W.cell? ⟨B, i, none⟩ = some (.slice o (adj i).length cap) ∧ (adj i).length ≤ cap ∧ cap ≤ 9223372036854775807 := by
  obtain ⟨h0, u, h1, h2⟩ := h
  obtain ⟨o, cap, e, h3⟩ := (h2 i hi).slice
  exact ⟨o, cap, by rw [h1.cell hi, e], h3⟩
theorem RowsAt.at {W : World} {b B n : Nat} {adj : Nat → List Nat} (h : RowsAt W b B n adj) {i : Nat} (hi : i < n) {j : Nat} (hj : j < (adj i).length) : ∃ g cap, W.cell? ⟨B, i, none⟩ = some (.slice (some ⟨g, 0, none⟩) (adj i).length cap) ∧ (adj i).length ≤ cap ∧ cap ≤ 9223372036854775807 ∧ g < b ∧ g < W.heap.size ∧ W.cell? ⟨g, j, none⟩ = some (nv (adj i)[j]) := by
  obtain ⟨h0, u, h1, h2⟩ := h
  obtain ⟨g, cap, e, h3⟩ := (h2 i hi).at hj
  exact ⟨g, cap, by rw [h1.cell hi, e], h3⟩

/-- A row of one's own is where it was. -/
theorem owns_same {W W' : World} {b e z n : Nat} {v : Value} {xs : List Value} (h : W.ownsRow b e z v n xs) (hb : ∀ g, v.ownBlock = some g → W'.heap[g]? = W.heap[g]?) : W'.ownsRow b e z v n xs := by
  rcases h with ⟨hl, h | ⟨g, cap, cur, h1, h2, h3, h4⟩⟩
  · exact ⟨hl, .inl h⟩
  · refine ⟨hl, .inr ⟨g, cap, cur, h1, h2, ?_, h4⟩⟩
    rw [hb g (by rw [h1]; rfl)]; exact h3
theorem owns_form {W : World} {b e z n : Nat} {v : Value} {xs : List Value} (h : W.ownsRow b e z v n xs) : ∃ (o : Option Addr) (c : Nat), v = .slice o n c ∧ n ≤ c ∧ c ≤ 9223372036854775807 := by
  rcases h with ⟨_, ⟨rfl, rfl⟩ | ⟨g, cap, cur, h, _, _, h1, h2, _⟩⟩
  · exact ⟨none, 0, rfl, Nat.le_refl _, by decide⟩
  · exact ⟨_, cap, h, h1, by unfold maxLen at h2; omega⟩
theorem owns_lt {W : World} {b e z n : Nat} {v : Value} {xs : List Value} (h : W.ownsRow b e z v n xs) {g : Nat} (hg : v.ownBlock = some g) : b ≤ g ∧ g < W.heap.size := by
  rcases h with ⟨_, ⟨rfl, rfl⟩ | ⟨g', cap, cur, rfl, h1, h2, _⟩⟩
  · cases hg
  · cases hg; exact ⟨h1, (Array.getElem?_eq_some_iff.1 h2).1⟩
theorem owns_mono {W : World} {b b' e z n : Nat} {v : Value} {xs : List Value} (h : W.ownsRow b e z v n xs) (hb : b' ≤ b) : W.ownsRow b' e z v n xs := by
  rcases h with ⟨hl, h | ⟨g, cap, cur, h1, h2, h3, h4⟩⟩
  · exact ⟨hl, .inl h⟩
  · exact ⟨hl, .inr ⟨g, cap, cur, h1, Nat.le_trans hb h2, h3, h4⟩⟩
theorem owns_nil (W : World) (b e z : Nat) : W.ownsRow b e z (.slice none 0 0) 0 [] := ⟨by simp, .inl ⟨rfl, rfl⟩⟩
/-- A row of numbers of one's own can be read. -/
theorem owns_row {W : World} {b b' e : Nat} {v : Value} {l : List Nat} (h : W.ownsRow b e 1 v l.length (l.map nv)) (hb : ∀ g, v.ownBlock = some g → g < b') : RowAt W b' v l := by
  rcases h with ⟨hl, ⟨h1, h2⟩ | ⟨g, cap, cur, h1, h2, h3, h4, h5, h6, h7⟩⟩
  · exact .inl ⟨h1, List.length_eq_zero_iff.1 h2⟩
  · refine .inr ⟨g, cap, h1, h4, by unfold maxLen at h5; omega, hb g (by rw [h1]; rfl), (Array.getElem?_eq_some_iff.1 h3).1, fun j hj => ?_⟩
    have h8 : (cur.toList.take (l.length * 1))[j]? = (l.map nv)[j]? := by rw [h7]
    rw [List.getElem?_take_of_lt (by omega), Array.getElem?_toList, List.getElem?_map, List.getElem?_eq_getElem hj] at h8
    exact Blk.cell (vs := cur) h3 j _ h8
theorem nv_one (l : List Nat) : ∀ u ∈ l.map nv, u.oneCell' = true := by
  intro u hu; obtain ⟨x, _, rfl⟩ := List.mem_map.1 hu; rfl
theorem info_parts {P : Program} {T : TypeId} {z : Value} {s by' : Nat} (h : (P.info? T).map (fun i => (i.zero, i.size, i.bytes)) = some (some z, s, by')) : ∃ i, P.info? T = some i ∧ i.zero = some z ∧ i.size = s ∧ i.bytes = by' := by
  obtain ⟨i, h1, h2⟩ := Option.map_eq_some_iff.1 h
  simp only [Prod.mk.injEq] at h2
  exact ⟨i, h1, h2.1, h2.2.1, h2.2.2⟩
theorem infoInt : (Try.prog.info? 3).map (fun i => (i.zero, i.size, i.bytes)) = some (some (.int .i64 0), 1, 8) := by kernel_rfl
theorem infoInts : (Try.prog.info? 30).map (fun i => (i.zero, i.size, i.bytes)) = some (some (.slice none 0 0), 1, 24) := by kernel_rfl
theorem infoVisit : (Try.prog.info? 78).map (fun i => (i.zero, i.size, i.bytes)) = some (some (.agg #[.int .i64 0, .int .i64 0, .int .i64 0]), 3, 24) := by kernel_rfl
theorem below1 (w : World) (a : Obj) : Below w.heap.size w (w.alloc a) := (Below.refl _ w).alloc (Nat.le_refl _) _
/-- What a row's growth leaves. -/
theorem grown_block {W W' : World} {ob : Option Nat} (h : W.grownBy W' ob) {k : Nat} (hk : k < W.heap.size) (hn : ob ≠ some k) : W'.heap[k]? = W.heap[k]? := h.block k hk (fun e => hn e.symm)
end Go.Proofs.Ytkkpkcigflikkaa
