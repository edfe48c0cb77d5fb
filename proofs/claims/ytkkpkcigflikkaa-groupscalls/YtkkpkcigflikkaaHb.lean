/-
  Package groups: the search in memory; enter, by a contract.
-/
import Derived.Test.YtkkpkcigflikkaaHa
namespace Go.Proofs.Ytkkpkcigflikkaa
open Go.RowKit Go.Shelf Go.Maps G
set_option linter.unusedVariables false

/-- A visit's cells. -/
def vC (v : V) : List Value := [nv v.p, nv v.k, nv v.b]
theorem vC_len (l : List V) : (l.flatMap vC).length = l.length * 3 := by
  induction l with
  | nil => rfl
  | cons v l ih => rw [List.flatMap_cons, List.length_append, ih, List.length_cons]; show 3 + _ = _; omega
/-- A group's number as a cell. -/
def lv : Option Nat → Value
  | none => .int .i64 (-1)
  | some g => nv g
/-- Where the search keeps what. -/
structure Lay where
  b : Nat
  F : Nat
  P : Nat
  L : Nat
  G : Nat
  U : Nat
  M : Nat
structure LayOK (Y : Lay) : Prop where
  bP : Y.b ≤ Y.P
  bL : Y.b ≤ Y.L
  bG : Y.b ≤ Y.G
  bM : Y.b ≤ Y.M
  PF : Y.P < Y.F
  LF : Y.L < Y.F
  GF : Y.G < Y.F
  MF : Y.M < Y.F
  PL : Y.P ≠ Y.L
  PG : Y.P ≠ Y.G
  PM : Y.P ≠ Y.M
  LG : Y.L ≠ Y.G
  LM : Y.L ≠ Y.M
  GM : Y.G ≠ Y.M
def srC (Y : Lay) (n now : Nat) (wv ov : Value) : Array Value := #[.slice (some ⟨Y.L, 0, none⟩) n n, .slice (some ⟨Y.G, 0, none⟩) n n, .slice (some ⟨Y.U, 0, none⟩) n n, .slice (some ⟨Y.M, 0, none⟩) n n, wv, ov, nv now]
structure SrAt (W : World) (Y : Lay) (n : Nat) (adj : Nat → List Nat) (wv ov : Value) (met : Nat → Nat) (low : Nat → Option Nat) (grp : Nat → List Nat) (way : List V) (opn : List Nat) (now : Nat) : Prop where
  blk : Blk W Y.P (srC Y n now wv ov) 65
  lw : FB W Y.L n (fun i => lv (low i)) 3
  mt : FB W Y.M n (fun i => nv (met i)) 3
  us : RowsAt W Y.b Y.U n adj
  gr : ∃ gv : Nat → Value, FB W Y.G n gv 30 ∧ ∀ i, i < n → RowAt W W.heap.size (gv i) (grp i) ∧ (∀ g, (gv i).ownBlock = some g → Y.F ≤ g ∧ wv.ownBlock ≠ some g ∧ ov.ownBlock ≠ some g) ∧ (gv i = .slice none 0 0 ↔ grp i = [])
  wr : W.ownsRow Y.F 78 3 wv way.length (way.flatMap vC)
  op : W.ownsRow Y.F 3 1 ov opn.length (opn.map nv)
  wo : ∀ g, wv.ownBlock = some g → ov.ownBlock ≠ some g
  ok : LayOK Y
  Fs : Y.F ≤ W.heap.size
section
variable {W W' : World} {Y : Lay} {n : Nat} {adj : Nat → List Nat} {wv ov : Value} {met : Nat → Nat} {low : Nat → Option Nat} {grp : Nat → List Nat} {way : List V} {opn : List Nat} {now : Nat}
theorem SrAt.drew (h : SrAt W Y n adj wv ov met low grp way opn now) : SrAt W.drew Y n adj wv ov met low grp way opn now := ⟨h.blk, h.lw, h.mt, h.us, h.gr, h.wr, h.op, h.wo, h.ok, h.Fs⟩
/-- All that lies there stays, and blocks are made. -/
theorem SrAt.on (h : SrAt W Y n adj wv ov met low grp way opn now) (hb : Below W.heap.size W W') : SrAt W' Y n adj wv ov met low grp way opn now := by
  have hs := hb.size
  have hF := h.Fs
  have ho := h.ok
  refine ⟨h.blk.below hb, h.lw.below hb h.lw.lt, h.mt.below hb h.mt.lt, h.us.below hb (by have := ho.bP; have := ho.PF; omega), ?_, owns_same h.wr (fun g hg => hb.block g (owns_lt h.wr hg).2), owns_same h.op (fun g hg => hb.block g (owns_lt h.op hg).2), h.wo, ho, by omega⟩
  obtain ⟨gv, g1, g2⟩ := h.gr
  refine ⟨gv, g1.below hb g1.lt, fun i hi => ?_⟩
  obtain ⟨g3, g4, g5⟩ := g2 i hi
  exact ⟨g3.move (fun g _ h1 h2 => ⟨by omega, by omega, hb.block g h2⟩), g4, g5⟩
/-- A store into the search's own fields, but the rows. -/
theorem SrAt.setNow (h : SrAt W Y n adj wv ov met low grp way opn now) (k : Nat) : SrAt (W.setCell ⟨Y.P, 6, none⟩ (nv k)) Y n adj wv ov met low grp way opn k := by
  have ho := h.ok
  have hF := h.Fs
  have hPF := ho.PF
  have oth : ∀ g, g ≠ Y.P → (W.setCell ⟨Y.P, 6, none⟩ (nv k)).heap[g]? = W.heap[g]? := fun g hg => heap_set_other _ _ _ _ _ hg
  have sz := size_set W Y.P 6 (nv k)
  refine ⟨h.blk.set 6 _, h.lw.same (oth _ ho.PL.symm), h.mt.same (oth _ ho.PM.symm), ?_, ?_, owns_same h.wr (fun g hg => oth g (by have := (owns_lt h.wr hg).1; omega)), owns_same h.op (fun g hg => oth g (by have := (owns_lt h.op hg).1; omega)), h.wo, ho, by omega⟩
  · obtain ⟨h0, u, h1, h2⟩ := h.us
    have := ho.bP
    exact ⟨h0, u, h1.same (oth _ (by omega)), fun i hi => (h2 i hi).move (fun g _ h3 h4 => ⟨h3, by omega, oth g (by omega)⟩)⟩
  · obtain ⟨gv, g1, g2⟩ := h.gr
    refine ⟨gv, g1.same (oth _ ho.PG.symm), fun i hi => ?_⟩
    obtain ⟨g3, g4, g5⟩ := g2 i hi
    exact ⟨g3.move (fun g hg h1 h2 => ⟨by omega, by omega, oth g (by have := (g4 g hg).1; omega)⟩), g4, g5⟩
theorem SrAt.setMet (h : SrAt W Y n adj wv ov met low grp way opn now) (p k : Nat) : SrAt (W.setCell ⟨Y.M, p, none⟩ (nv k)) Y n adj wv ov (upd met p k) low grp way opn now := by
  have ho := h.ok
  have hF := h.Fs
  have hMF := ho.MF
  have oth : ∀ g, g ≠ Y.M → (W.setCell ⟨Y.M, p, none⟩ (nv k)).heap[g]? = W.heap[g]? := fun g hg => heap_set_other _ _ _ _ _ hg
  have sz := size_set W Y.M p (nv k)
  refine ⟨h.blk.same (oth _ ho.PM), h.lw.same (oth _ ho.LM), h.mt.setEq _ (fun j hj => ?_), ?_, ?_, owns_same h.wr (fun g hg => oth g (by have := (owns_lt h.wr hg).1; omega)), owns_same h.op (fun g hg => oth g (by have := (owns_lt h.op hg).1; omega)), h.wo, ho, by omega⟩
  · unfold upd; split <;> rfl
  · obtain ⟨h0, u, h1, h2⟩ := h.us
    have := ho.bM
    exact ⟨h0, u, h1.same (oth _ (by omega)), fun i hi => (h2 i hi).move (fun g _ h3 h4 => ⟨h3, by omega, oth g (by omega)⟩)⟩
  · obtain ⟨gv, g1, g2⟩ := h.gr
    refine ⟨gv, g1.same (oth _ ho.GM), fun i hi => ?_⟩
    obtain ⟨g3, g4, g5⟩ := g2 i hi
    exact ⟨g3.move (fun g hg h1 h2 => ⟨by omega, by omega, oth g (by have := (g4 g hg).1; omega)⟩), g4, g5⟩
/-- What the search owns stays where a row grew that is its way's, but for that row. -/
theorem SrAt.newWay (h : SrAt W Y n adj wv ov met low grp way opn now) {wv' : Value} {way' : List V} (hg : W.grownBy W' wv.ownBlock) (hw : W'.ownsRow Y.F 78 3 wv' way'.length (way'.flatMap vC)) (hn : ∀ g, wv'.ownBlock = some g → wv.ownBlock = some g ∨ W.heap.size ≤ g) : SrAt (W'.setCell ⟨Y.P, 4, none⟩ wv') Y n adj wv' ov met low grp way' opn now := by
  have ho := h.ok
  have hF := h.Fs
  have hPF := ho.PF
  have hsz := hg.size
  have o1 : ∀ g, g < W.heap.size → wv.ownBlock ≠ some g → W'.heap[g]? = W.heap[g]? := fun g h1 h2 => grown_block hg h1 h2
  have lw : ∀ g, wv.ownBlock = some g → Y.F ≤ g := fun g hg => (owns_lt h.wr hg).1
  have oth : ∀ g, g < W.heap.size → wv.ownBlock ≠ some g → g ≠ Y.P → (W'.setCell ⟨Y.P, 4, none⟩ wv').heap[g]? = W.heap[g]? := fun g h1 h2 h3 => (heap_set_other _ _ _ _ _ h3).trans (o1 g h1 h2)
  have sz := size_set W' Y.P 4 wv'
  have hLF := ho.LF; have hGF := ho.GF; have hMF := ho.MF
  refine ⟨?_, h.lw.same (oth _ h.lw.lt (fun e => by have := lw _ e; omega) ho.PL.symm), h.mt.same (oth _ h.mt.lt (fun e => by have := lw _ e; omega) ho.PM.symm), ?_, ?_, ?_, owns_same h.op (fun g hg => oth g (owns_lt h.op hg).2 (fun e => h.wo g e hg) (by have := (owns_lt h.op hg).1; omega)), ?_, ho, by omega⟩
  · exact (h.blk.same (o1 _ h.blk.lt (fun e => by have := lw _ e; omega))).set 4 _
  · obtain ⟨h0, u, h1, h2⟩ := h.us
    have := ho.bP
    exact ⟨h0, u, h1.same (oth _ h1.lt (fun e => by have := lw _ e; omega) (by omega)), fun i hi => (h2 i hi).move (fun g _ h3 h4 => ⟨h3, by omega, oth g h4 (fun e => by have := lw _ e; omega) (by omega)⟩)⟩
  · obtain ⟨gv, g1, g2⟩ := h.gr
    refine ⟨gv, g1.same (oth _ g1.lt (fun e => by have := lw _ e; omega) ho.PG.symm), fun i hi => ?_⟩
    obtain ⟨g3, g4, g5⟩ := g2 i hi
    have g3' : RowAt (W'.setCell ⟨Y.P, 4, none⟩ wv') (W'.setCell ⟨Y.P, 4, none⟩ wv').heap.size (gv i) (grp i) := g3.move (fun g hg h1 h2 => ⟨by omega, by omega, oth g h2 (g4 g hg).2.1 (by have := (g4 g hg).1; omega)⟩)
    refine ⟨g3', fun g hgg => ⟨(g4 g hgg).1, fun e => ?_, (g4 g hgg).2.2⟩, g5⟩
    have hlt : g < W.heap.size := by
      rcases g3 with ⟨e1, _⟩ | ⟨g', cap, e1, _, _, _, e2, _⟩
      · rw [e1] at hgg; cases hgg
      · rw [e1] at hgg; cases hgg; exact e2
    rcases hn g e with h5 | h5
    · exact (g4 g hgg).2.1 h5
    · omega
  · exact owns_same hw (fun g hg => heap_set_other _ _ _ _ _ (by have := (owns_lt hw hg).1; omega))
  · intro g hgg e
    rcases hn g hgg with h5 | h5
    · exact h.wo g h5 e
    · have := (owns_lt h.op e).2; omega
theorem SrAt.newOpn (h : SrAt W Y n adj wv ov met low grp way opn now) {ov' : Value} {opn' : List Nat} (hg : W.grownBy W' ov.ownBlock) (hw : W'.ownsRow Y.F 3 1 ov' opn'.length (opn'.map nv)) (hn : ∀ g, ov'.ownBlock = some g → ov.ownBlock = some g ∨ W.heap.size ≤ g) : SrAt (W'.setCell ⟨Y.P, 5, none⟩ ov') Y n adj wv ov' met low grp way opn' now := by
  have ho := h.ok
  have hF := h.Fs
  have hPF := ho.PF
  have hsz := hg.size
  have o1 : ∀ g, g < W.heap.size → ov.ownBlock ≠ some g → W'.heap[g]? = W.heap[g]? := fun g h1 h2 => grown_block hg h1 h2
  have lw : ∀ g, ov.ownBlock = some g → Y.F ≤ g := fun g hg => (owns_lt h.op hg).1
  have oth : ∀ g, g < W.heap.size → ov.ownBlock ≠ some g → g ≠ Y.P → (W'.setCell ⟨Y.P, 5, none⟩ ov').heap[g]? = W.heap[g]? := fun g h1 h2 h3 => (heap_set_other _ _ _ _ _ h3).trans (o1 g h1 h2)
  have sz := size_set W' Y.P 5 ov'
  have hLF := ho.LF; have hGF := ho.GF; have hMF := ho.MF
  refine ⟨?_, h.lw.same (oth _ h.lw.lt (fun e => by have := lw _ e; omega) ho.PL.symm), h.mt.same (oth _ h.mt.lt (fun e => by have := lw _ e; omega) ho.PM.symm), ?_, ?_, owns_same h.wr (fun g hg => oth g (owns_lt h.wr hg).2 (fun e => h.wo g hg e) (by have := (owns_lt h.wr hg).1; omega)), ?_, ?_, ho, by omega⟩
  · exact (h.blk.same (o1 _ h.blk.lt (fun e => by have := lw _ e; omega))).set 5 _
  · obtain ⟨h0, u, h1, h2⟩ := h.us
    have := ho.bP
    exact ⟨h0, u, h1.same (oth _ h1.lt (fun e => by have := lw _ e; omega) (by omega)), fun i hi => (h2 i hi).move (fun g _ h3 h4 => ⟨h3, by omega, oth g h4 (fun e => by have := lw _ e; omega) (by omega)⟩)⟩
  · obtain ⟨gv, g1, g2⟩ := h.gr
    refine ⟨gv, g1.same (oth _ g1.lt (fun e => by have := lw _ e; omega) ho.PG.symm), fun i hi => ?_⟩
    obtain ⟨g3, g4, g5⟩ := g2 i hi
    have g3' : RowAt (W'.setCell ⟨Y.P, 5, none⟩ ov') (W'.setCell ⟨Y.P, 5, none⟩ ov').heap.size (gv i) (grp i) := g3.move (fun g hg h1 h2 => ⟨by omega, by omega, oth g h2 (g4 g hg).2.2 (by have := (g4 g hg).1; omega)⟩)
    refine ⟨g3', fun g hgg => ⟨(g4 g hgg).1, (g4 g hgg).2.1, fun e => ?_⟩, g5⟩
    have hlt : g < W.heap.size := by
      rcases g3 with ⟨e1, _⟩ | ⟨g', cap, e1, _, _, _, e2, _⟩
      · rw [e1] at hgg; cases hgg
      · rw [e1] at hgg; cases hgg; exact e2
    rcases hn g e with h5 | h5
    · exact (g4 g hgg).2.2 h5
    · omega
  · exact owns_same hw (fun g hg => heap_set_other _ _ _ _ _ (by have := (owns_lt hw hg).1; omega))
  · intro g hgg e
    rcases hn g e with h5 | h5
    · exact h.wo g hgg h5
    · have := (owns_lt h.wr hgg).2; omega
end
theorem Blk.all7 {W : World} {B : Nat} {v0 v1 v2 v3 v4 v5 v6 : Value} {T : TypeId} (h : Blk W B #[v0, v1, v2, v3, v4, v5, v6] T) : W.cell? ⟨B, 0, none⟩ = some v0 ∧ W.cell? ⟨B, 1, none⟩ = some v1 ∧ W.cell? ⟨B, 2, none⟩ = some v2 ∧ W.cell? ⟨B, 3, none⟩ = some v3 ∧ W.cell? ⟨B, 4, none⟩ = some v4 ∧ W.cell? ⟨B, 5, none⟩ = some v5 ∧ W.cell? ⟨B, 6, none⟩ = some v6 ∧ W.frozen? ⟨B, 4, none⟩ = false ∧ W.frozen? ⟨B, 5, none⟩ = false ∧ W.frozen? ⟨B, 6, none⟩ = false := ⟨h.cell 0 _ rfl, h.cell 1 _ rfl, h.cell 2 _ rfl, h.cell 3 _ rfl, h.cell 4 _ rfl, h.cell 5 _ rfl, h.cell 6 _ rfl, h.frozen 4, h.frozen 5, h.frozen 6⟩
theorem SrAt.cells {W : World} {Y : Lay} {n : Nat} {adj : Nat → List Nat} {wv ov : Value} {met : Nat → Nat} {low : Nat → Option Nat} {grp : Nat → List Nat} {way : List V} {opn : List Nat} {now : Nat} (h : SrAt W Y n adj wv ov met low grp way opn now) : W.cell? ⟨Y.P, 0, none⟩ = some (.slice (some ⟨Y.L, 0, none⟩) n n) ∧ W.cell? ⟨Y.P, 1, none⟩ = some (.slice (some ⟨Y.G, 0, none⟩) n n) ∧ W.cell? ⟨Y.P, 2, none⟩ = some (.slice (some ⟨Y.U, 0, none⟩) n n) ∧ W.cell? ⟨Y.P, 3, none⟩ = some (.slice (some ⟨Y.M, 0, none⟩) n n) ∧ W.cell? ⟨Y.P, 4, none⟩ = some wv ∧ W.cell? ⟨Y.P, 5, none⟩ = some ov ∧ W.cell? ⟨Y.P, 6, none⟩ = some (.int .i64 (now : Int)) ∧ W.frozen? ⟨Y.P, 4, none⟩ = false ∧ W.frozen? ⟨Y.P, 5, none⟩ = false ∧ W.frozen? ⟨Y.P, 6, none⟩ = false ∧ Y.P < W.heap.size := by
  obtain ⟨c0, c1, c2, c3, c4, c5, c6, f4, f5, f6⟩ := h.blk.all7
  exact ⟨c0, c1, c2, c3, c4, c5, c6, f4, f5, f6, h.blk.lt⟩
end Go.Proofs.Ytkkpkcigflikkaa
