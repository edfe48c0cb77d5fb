/-
  Reading on (order's second function), by a contract.
-/
import Derived.Test.YtppnhaacmhfenabGreatDoorGFxB
namespace Go.Proofs.YtppnhaacmhfenabGreatDoor
open Go.RowKit Go.Shelf Go.Maps
set_option linter.unusedVariables false
attribute [local go_sem] Oper.semAt_some

def rdStep (R : Rw) (rd : Fx → List It → RR) (m : Nat) (f : Fx) (l : List It) : RR := (opdM rd f l).on fun left r => loopM rd R.kind (holdM R.fs) f m left [] r

theorem Blk.cells5F {W : World} {B : Nat} {v0 v1 v2 v3 v4 : Value} {T : TypeId} (h : Blk W B #[v0, v1, v2, v3, v4] T) : W.cell? ⟨B, 0, none⟩ = some v0 ∧ W.cell? ⟨B, 1, none⟩ = some v1 ∧ W.cell? ⟨B, 2, none⟩ = some v2 ∧ W.cell? ⟨B, 3, none⟩ = some v3 ∧ W.cell? ⟨B, 4, none⟩ = some v4 ∧ W.frozen? ⟨B, 0, none⟩ = false ∧ W.frozen? ⟨B, 1, none⟩ = false ∧ W.frozen? ⟨B, 2, none⟩ = false ∧ W.frozen? ⟨B, 3, none⟩ = false ∧ W.frozen? ⟨B, 4, none⟩ = false := ⟨h.cell 0 _ rfl, h.cell 1 _ rfl, h.cell 2 _ rfl, h.cell 3 _ rfl, h.cell 4 _ rfl, h.frozen 0, h.frozen 1, h.frozen 2, h.frozen 3, h.frozen 4⟩
theorem Blk.sets5F {W : World} {E : Nat} {v0 v1 v2 v3 v4 : Value} {T : TypeId} (h : Blk W E #[v0, v1, v2, v3, v4] T) (a0 a1 a2 a3 a4 : Value) : Blk (((((W.setCell ⟨E, 0, none⟩ a0).setCell ⟨E, 1, none⟩ a1).setCell ⟨E, 2, none⟩ a2).setCell ⟨E, 3, none⟩ a3).setCell ⟨E, 4, none⟩ a4) E #[a0, a1, a2, a3, a4] T := by
  have h0 : Blk (W.setCell ⟨E, 0, none⟩ a0) E #[a0, v1, v2, v3, v4] T := h.set 0 a0
  have h1 : Blk ((W.setCell ⟨E, 0, none⟩ a0).setCell ⟨E, 1, none⟩ a1) E #[a0, a1, v2, v3, v4] T := h0.set 1 a1
  have h2 : Blk (((W.setCell ⟨E, 0, none⟩ a0).setCell ⟨E, 1, none⟩ a1).setCell ⟨E, 2, none⟩ a2) E #[a0, a1, a2, v3, v4] T := h1.set 2 a2
  have h3 : Blk ((((W.setCell ⟨E, 0, none⟩ a0).setCell ⟨E, 1, none⟩ a1).setCell ⟨E, 2, none⟩ a2).setCell ⟨E, 3, none⟩ a3) E #[a0, a1, a2, a3, v4] T := h2.set 3 a3
  exact h3.set 4 a4
theorem but_sets5 (W : World) (E : Nat) (a0 a1 a2 a3 a4 : Value) : But E W (((((W.setCell ⟨E, 0, none⟩ a0).setCell ⟨E, 1, none⟩ a1).setCell ⟨E, 2, none⟩ a2).setCell ⟨E, 3, none⟩ a3).setCell ⟨E, 4, none⟩ a4) := ((((but_set W E 0 a0).trans (but_set _ E 1 a1)).trans (but_set _ E 2 a2)).trans (but_set _ E 3 a3)).trans (but_set _ E 4 a4)
theorem But.trans2 {b e : Nat} {W W1 W2 : World} (h : But b W W1) (k : But e W1 W2) (he : W.heap.size ≤ e) : But b W W2 := ⟨k.os.trans h.os, k.tape.trans h.tape, k.output.trans h.output, Nat.le_trans h.size k.size, fun j hj hne => (k.block j (Nat.lt_of_lt_of_le hj h.size) (by omega)).trans (h.block j hj hne)⟩
/-- Where the place stands. -/
def plOf (b : Nat) (W : World) : Nat := match W.cell? ⟨b, 0, none⟩ with | some (.int _ v) => v.toNat | _ => 0
def measR (R : Rw) (s12 : Value) (W : World) : Nat := match s12 with | .pointer none => 1 + (R.its.length - plOf R.bP W) | _ => 0

theorem opd_leaf {R : Rw} {W : World} {p : Nat} {rd : Fx → List It → RR} {f : Fx} {n : Nd} {r : List It} (h : RwOK R W p) (e : opdM rd f (R.its.drop p) = .ok n r) : n.kids = [] := by
  by_cases hp : p < R.its.length
  · rw [List.drop_eq_getElem_cons hp] at e
    simp only [opdM] at e
    rw [if_pos (h.nm p hp).1] at e
    cases e
    exact (h.nm p hp).2
  · rw [List.drop_eq_nil_of_le (by omega)] at e
    cases e
/-- What waits is a pair of leaves. -/
def PdOK (x : Pd) : Prop := x.l.kids = [] ∧ x.op.kids = [] ∧ x.op.name ≠ [] ∧ ∀ (W : World) (B : Nat), NdIn W B x.l x.ol x.cl ∧ NdIn W B x.op x.oo x.co
def WaitOK (base : Nat) (W : World) (ps : List Pd) (ow : Option Addr) (cw : Nat) : Prop := W.ownsRow base 103 10 (.slice ow ps.length cw) ps.length (ps.flatMap Pd.vals) ∧ ∀ x ∈ ps, PdOK x
structure LBase (R : Rw) (W : World) (f : Fx) (bL : Nat) (wr : World) (q : Nat) : Prop where
  ok : RwOK R wr q
  fb : Blk wr W.heap.size #[.string (bs f.name), .int .i64 f.side, .int .i64 f.level] 42
  zb : Blk wr (W.heap.size + 1) #[.int .i64 0, .string ⟨#[]⟩, .int .i64 0, .slice none 0 0, .int .i64 0] 28
  but : But R.bP W wr
  lo : W.heap.size + 2 ≤ bL
  hi : bL < wr.heap.size
theorem LBase.below {R : Rw} {W : World} {f : Fx} {bL : Nat} {wr X : World} {q : Nat} (h : LBase R W f bL wr q) (hb : Below wr.heap.size wr X) : LBase R W f bL X q := ⟨h.ok.below hb, h.fb.below hb, h.zb.below hb, h.but.trans (but_below hb _), h.lo, Nat.lt_of_lt_of_le h.hi hb.size⟩
/-- Where the loop stands: reading on, or at a fault. -/
def LInv (R : Rw) (rd : Fx → List It → RR) (m : Nat) (f : Fx) (p : Nat) (W : World) (bL : Nat) (s10 s12 : Value) (wr : World) : Prop :=
  (∃ mm left o cap ps ow cw q, s12 = .pointer none ∧ s10 = .slice ow ps.length cw ∧ LBase R W f bL wr q ∧ Blk wr bL #[.int .i64 left.kind, .string (bs left.name), .int .i64 left.num, .slice o left.kids.length cap, .int .i64 left.pos] 28 ∧ Fr (bL + 1) wr left o cap ∧ WaitOK (bL + 1) wr ps ow cw ∧ ps.length ≤ q ∧ p < q ∧ rdStep R rd m f (R.its.drop p) = loopM rd R.kind (holdM R.fs) f mm left (ps.reverse.map (fun x => (x.l, x.op))) (R.its.drop q)) ∨
  (∃ g pos q ow nw cw, s12 = .pointer (some ⟨g, 0, none⟩) ∧ s10 = .slice ow nw cw ∧ LBase R W f bL wr q ∧ Blk wr g #[.int .i64 7, .int .i64 pos] 33 ∧ rdStep R rd m f (R.its.drop p) = .bad pos)

theorem ownsB {W W' : World} {b e z n : Nat} {v : Value} {xs : List Value} (h : W.ownsRow b e z v n xs) (hb : ∀ g, v.ownBlock = some g → W'.heap[g]? = W.heap[g]?) : W'.ownsRow b e z v n xs := by
  rcases h with ⟨hl, h | ⟨g, cap, cur, h1, h2, h3, h4⟩⟩
  · exact ⟨hl, .inl h⟩
  · exact ⟨hl, .inr ⟨g, cap, cur, h1, h2, by rw [hb g (by rw [h1]; rfl)]; exact h3, h4⟩⟩

def pdZero : Value := .agg #[.int .i64 0, .string ⟨#[]⟩, .int .i64 0, .slice none 0 0, .int .i64 0, .int .i64 0, .string ⟨#[]⟩, .int .i64 0, .slice none 0 0, .int .i64 0]
theorem infoPd : (Tryz.prog.info? 103).map (fun i => (i.zero, i.size, i.bytes)) = some (some pdZero, 10, 128) := by kernel_rfl
theorem pc_one {k1 n1 p1 k2 n2 p2 : Int} {s1 s2 : ByteArray} {o1 o2 : Option Addr} {l1 c1 l2 c2 : Nat} : ∀ u ∈ (#[.int .i64 k1, .string s1, .int .i64 n1, .slice o1 l1 c1, .int .i64 p1, .int .i64 k2, .string s2, .int .i64 n2, .slice o2 l2 c2, .int .i64 p2] : Array Value).toList, u.oneCell' = true := by
  intro u hu
  simp only [List.mem_cons, List.not_mem_nil, or_false] at hu
  rcases hu with rfl | rfl | rfl | rfl | rfl | rfl | rfl | rfl | rfl | rfl <;> rfl
theorem LBase.butP {R : Rw} {W : World} {f : Fx} {bL : Nat} {X X' : World} {q q' : Nat} (h : LBase R W f bL X q) (hPW : R.bP < W.heap.size) (hb : But R.bP X X') (hk : RwOK R X' q') : LBase R W f bL X' q' := ⟨hk, h.fb.but (by omega) hb, h.zb.but (by omega) hb, h.but.trans hb, h.lo, Nat.lt_of_lt_of_le h.hi hb.size⟩
theorem Blk.gr {W W' : World} {row : Option Nat} {B : Nat} {vs : Array Value} {T : TypeId} (h : Blk W B vs T) (hg : W.grownBy W' row) (hne : ∀ r, row = some r → B ≠ r) : Blk W' B vs T := by
  unfold Blk at h ⊢
  rw [hg.block B (Array.getElem?_eq_some_iff.1 h).1 (fun e => hne B e.symm rfl), h]
theorem LBase.gr {R : Rw} {W : World} {f : Fx} {bL : Nat} {X X' : World} {q : Nat} {row : Option Nat} (h : LBase R W f bL X q) (hRn : R.n ≤ W.heap.size) (hg : X.grownBy X' row) (hr : ∀ r, row = some r → W.heap.size + 2 ≤ r) : LBase R W f bL X' q := by
  have hs := hg.size
  have hn := h.ok.hn
  have h1 := h.but.size
  refine ⟨h.ok.belowN ⟨hg.os, hg.tape, hg.output, hs, fun k hk => hg.block k (by omega) (fun e => by have := hr k e.symm; omega)⟩, h.fb.gr hg (fun r e => by have := hr r e; omega), h.zb.gr hg (fun r e => by have := hr r e; omega), ?_, h.lo, Nat.lt_of_lt_of_le h.hi hs⟩
  exact ⟨hg.os.trans h.but.os, hg.tape.trans h.but.tape, hg.output.trans h.but.output, Nat.le_trans h1 hs, fun j hj hne => (hg.block j (by omega) (fun e => by have := hr j e.symm; omega)).trans (h.but.block j hj hne)⟩
theorem LBase.set5 {R : Rw} {W : World} {f : Fx} {bL : Nat} {X : World} {q : Nat} (h : LBase R W f bL X q) (hRn : R.n ≤ W.heap.size) (E : Nat) (hE : W.heap.size + 2 ≤ E) (a0 a1 a2 a3 a4 : Value) : LBase R W f bL (((((X.setCell ⟨E, 0, none⟩ a0).setCell ⟨E, 1, none⟩ a1).setCell ⟨E, 2, none⟩ a2).setCell ⟨E, 3, none⟩ a3).setCell ⟨E, 4, none⟩ a4) q := by
  have hb := but_sets5 X E a0 a1 a2 a3 a4
  exact h.gr hRn (row := some E) ⟨hb.os, hb.tape, hb.output, hb.size, fun k hk hne => hb.block k hk (fun e => hne (by rw [e]))⟩ (fun r e => by cases e; exact hE)
theorem blk_ne25 {W : World} {g g' : Nat} {a b v0 v1 v2 v3 v4 : Value} {T T' : TypeId} (h1 : Blk W g #[a, b] T) (h2 : Blk W g' #[v0, v1, v2, v3, v4] T') : g ≠ g' := by
  rintro rfl
  unfold Blk at h1 h2
  rw [h1] at h2
  have := congrArg (fun o : Option Obj => match o with | some (.cells vs _ _) => vs.size | _ => 0) h2
  simp at this
/-- The way out at a fault. -/
theorem retBad {R : Rw} {rd : Fx → List It → RR} {m : Nat} {f : Fx} {p : Nat} {W : World} {bL : Nat} {X : World} {q g : Nat} {pos : Int} (hL : LBase R W f bL X q) (hg : Blk X g #[.int .i64 7, .int .i64 pos] 33) (hRn : R.n ≤ W.heap.size) (hEq : rdStep R rd m f (R.its.drop p) = .bad pos) (V : World) (hb : But (W.heap.size + 1) X V) :
    RdRes R p W V (.returned (.tuple #[.agg #[.int .i64 0, .string ⟨#[]⟩, .int .i64 0, .slice none 0 0, .int .i64 0], .pointer (some ⟨g, 0, none⟩)])) (rdStep R rd m f (R.its.drop p)) := by
  have hne1 : g ≠ W.heap.size + 1 := by
    rintro rfl
    have e1 := hL.zb
    unfold Blk at e1 hg
    rw [hg] at e1
    cases e1
  rw [hEq]
  exact ⟨g, q, rfl, hg.but hne1 hb, hL.ok.belowN (hb.below (by omega) hL.ok.hn), hL.but.trans2 hb (by omega)⟩
theorem plOf_is {R : Rw} {W : World} {q : Nat} (h : RwOK R W q) : plOf R.bP W = q := by
  unfold plOf
  rw [show W.cell? ⟨R.bP, 0, none⟩ = some (.int .i64 (q : Int)) from h.pl.cell 0 _ rfl]
  simp
theorem measR_none {R : Rw} {W : World} {q : Nat} (h : RwOK R W q) : measR R (.pointer none) W = 1 + (R.its.length - q) := by
  unfold measR; rw [plOf_is h]

theorem pd_get : ∀ (ts : List Pd) (k : Nat) (h : k < ts.length) (q : Nat), q < 10 → (ts.flatMap Pd.vals)[k * 10 + q]? = (ts[k].vals)[q]?
  | t :: ts, 0, h, q, hq => by
    rw [List.flatMap_cons, Nat.zero_mul, Nat.zero_add, List.getElem?_append_left (by show q < 10; exact hq)]; rfl
  | t :: ts, k + 1, h, q, hq => by
    have hf : (t.vals).length = 10 := rfl
    rw [List.flatMap_cons, List.getElem?_append_right (by rw [hf]; omega), hf, show (k + 1) * 10 + q - 10 = k * 10 + q by omega]
    exact pd_get ts k (by simpa using h) q hq
theorem own_pd {W : World} {b : Nat} {ps : List Pd} {ow : Option Addr} {cw : Nat} (h : W.ownsRow b 103 10 (.slice ow ps.length cw) ps.length (ps.flatMap Pd.vals)) : ps = [] ∨ ∃ g, ow = some ⟨g, 0, none⟩ ∧ g < W.heap.size ∧ PdAt W ps g 0 := by
  have h0 := h
  rcases h with ⟨hl, ⟨hv, hz⟩ | ⟨g, cap, cur, hv, hb, hg, hr⟩⟩
  · exact .inl (List.length_eq_zero_iff.1 hz)
  · right
    cases hv
    refine ⟨g, rfl, (Array.getElem?_eq_some_iff.1 hg).1, fun k hk => ?_⟩
    have f : ∀ q u, q < 10 → (ps[k].vals)[q]? = some u → W.cell? ⟨g, 0 + k * 10 + q, none⟩ = some u := fun q u hq hu => by
      have := h0.cells (g := g) rfl (k * 10 + q) u (by rw [pd_get ps k hk q hq]; exact hu)
      rw [Addr.add_lit, ← Nat.add_assoc] at this
      exact this
    exact ⟨f 0 _ (by decide) rfl, f 1 _ (by decide) rfl, f 2 _ (by decide) rfl, f 3 _ (by decide) rfl, f 4 _ (by decide) rfl, f 5 _ (by decide) rfl, f 6 _ (by decide) rfl, f 7 _ (by decide) rfl, f 8 _ (by decide) rfl, f 9 _ (by decide) rfl⟩
theorem Fr.kept {lo : Nat} {A B : World} {n : Nd} {o : Option Addr} {cap : Nat} {row : Option Nat} (h : Fr lo A n o cap) (hg : A.grownBy B row) (hr : ∀ r, row = some r → ∃ o : Obj, A.heap[r]? = some o ∧ o.isCells = false) : Fr lo B n o cap := nin_mono (NdIn.sub h (fun g off v e => by
  by_cases hl : lo ≤ g
  · rw [msk_cell lo B g off hl]
    rw [msk_cell lo A g off hl] at e
    exact cell_kept e hg hr
  · exact absurd e (msk_low lo A g off (by omega) v))) hg.size
/-- Between two rounds of unwinding. -/
def UInv (R : Rw) (W : World) (bL q : Nat) (left : Nd) (l : List Pd) (X : World) : Prop := ∃ o cap, Blk X bL #[.int .i64 (l.foldl (fun acc x => appM R.kind x.op x.l acc) left).kind, .string (bs (l.foldl (fun acc x => appM R.kind x.op x.l acc) left).name), .int .i64 (l.foldl (fun acc x => appM R.kind x.op x.l acc) left).num, .slice o (l.foldl (fun acc x => appM R.kind x.op x.l acc) left).kids.length cap, .int .i64 (l.foldl (fun acc x => appM R.kind x.op x.l acc) left).pos] 28 ∧ Fr (bL + 1) X (l.foldl (fun acc x => appM R.kind x.op x.l acc) left) o cap ∧ RwOK R X q ∧ Blk X (W.heap.size + 1) #[.int .i64 0, .string ⟨#[]⟩, .int .i64 0, .slice none 0 0, .int .i64 0] 28 ∧ But R.bP W X
theorem UInv.kept {R : Rw} {W : World} {bL q : Nat} {left : Nd} {l : List Pd} {A B : World} {row : Option Nat} {N : Nat} (h : UInv R W bL q left l A) (hN : R.n ≤ N) (hW : W.heap.size ≤ N) (hg : A.grownBy B row) (hr : ∀ r, row = some r → N ≤ r ∧ ∃ o : Obj, A.heap[r]? = some o ∧ o.isCells = false) : UInv R W bL q left l B := by
  obtain ⟨o, cap, h1, h2, h3, h4, h5⟩ := h
  have hs := hg.size
  refine ⟨o, cap, blk_kept h1 hg (fun r e => (hr r e).2), h2.kept hg (fun r e => (hr r e).2), h3.belowN ⟨hg.os, hg.tape, hg.output, hs, fun k hk => hg.block k (by have := h3.hn; omega) (fun e => by have := (hr k e.symm).1; omega)⟩, blk_kept h4 hg (fun r e => (hr r e).2), ?_⟩
  exact ⟨hg.os.trans h5.os, hg.tape.trans h5.tape, hg.output.trans h5.output, Nat.le_trans h5.size hs, fun j hj hne => (hg.block j (by have := h5.size; omega) (fun e => by have := (hr j e.symm).1; omega)).trans (h5.block j hj hne)⟩
theorem UInv.below {R : Rw} {W : World} {bL q : Nat} {left : Nd} {l : List Pd} {A B : World} (h : UInv R W bL q left l A) (hb : Below A.heap.size A B) : UInv R W bL q left l B := by
  obtain ⟨o, cap, h1, h2, h3, h4, h5⟩ := h
  exact ⟨o, cap, h1.below hb, h2.keep (Nat.le_refl _) (fun k hk _ => hb.block k hk) hb.size, h3.below hb, h4.below hb, h5.trans (but_below hb _)⟩
theorem dn_rev (ps : List Pd) : (dn ps.length 0).map (fun x : Fin ps.length => ps[x]) = ps.reverse := by
  unfold dn
  rw [List.drop_zero, List.map_reverse]
  congr 1
  apply List.ext_getElem
  · simp
  · intro i h1 h2
    simp
theorem unw_fold (kind : Int) (l : List Pd) (left : Nd) : unw kind (l.map (fun x => (x.l, x.op))) left = l.foldl (fun acc x => appM kind x.op x.l acc) left := by
  unfold unw
  rw [List.foldl_map]
theorem wpIn_rangeFunc_box {F : Fence} {n : Nat} {P : Program} {α : Type} {g : Operand} {ps : Array Tmp} {assign body : Code} {Q : Exit → Act → World → Prop} {a : Act} {w : World}
    (hro : F.round = none) (h1 : 1 ≤ n) {gf : Nat} {lb : Array Value} (hg : a.eval g = .func (.func gf) #[] lb) (hFg : F.fn gf) (eg : ∀ args w, (callFunc gf args).run P w = .ok (.enter gf args) w)
    {encs : α → Array Value} {Kp : World → World → Prop} {S Sp : List α → Prop} {N : Nat} {w0 : World} (hseq : SeqStopsK F (n - 1) P gf lb encs Kp S Sp N w0)
    (hKt : ∀ {A B C : World}, Kp A B → Kp B C → Kp A C) (hKb : ∀ (W : World) (l : Nat) (o o' : Obj), w.heap.size ≤ l → W.heap[l]? = some o → o.isCells = false → o.isWalk = false → Kp W (W.putObj l o')) (hb0 : Below w0.heap.size w0 w) (hps : ∀ x, (encs x).size = ps.size)
    (I : List α → World → Prop) (hI : OwnFrom w.heap.size I) (h0 : I [] w) (vals : α → Array Value) (T : TypeId) (frame : α → Nat → Act)
    (hassign : ∀ (l : Nat) (pre : List α) (x : α) (W : World) (K : Act → World → Prop), I pre W → (∀ W' Bx, KeepsFrom w.heap.size W W' → Kp W W' → I pre W' → Blk W' Bx (vals x) T → K (frame x Bx) W') →
      assign.wpIn (F.inRound l) (n - 1 - 1) P (Exit.then K (fun _ _ _ => False)) { tmps := (ps.zip (encs x)).foldl (fun t (p, v) => t.setIfInBounds p v) a.tmps, defers := [] } W)
    (hbody : ∀ (l : Nat) (pre : List α) (x : α) (Bx : Nat) (W : World), I pre W → Blk W Bx (vals x) T → pre.length < N → body.wpIn (F.inRound l) (n - 1 - 1) P (ownPostG w.heap.size Kp I (fun _ _ _ => False) (pre ++ [x]) W) (frame x Bx) W)
    (hdone : ∀ (D : Nat) (xs : List α) (W : World), w.heap.size ≤ D → S xs → I xs W → W.heap[D]? = some (.deferred (some [])) → Q .normal { a with defers := { target := .collected D, args := #[] } :: a.defers } W) :
    (Code.rangeFunc g ps assign body).wpIn F n P Q a w :=
  wpIn_rangeFunc_ownH hro h1 hg hFg eg hseq hKt hKb hb0 hps I (fun _ _ _ => False) hI (fun c s A B row hs _ _ => hs) h0 (fun x a' W => ∃ Bx, Blk W Bx (vals x) T ∧ a' = frame x Bx)
    (fun x a' u A B row hs hgr hr => by obtain ⟨Bx, e2, e3⟩ := hs; exact ⟨Bx, blk_kept e2 hgr (fun r e => (hr r e).2), e3⟩)
    (fun l pre x W K hi hK => hassign l pre x W K hi (fun W' Bx h1 h2 h3 h4 => hK _ W' h1 h2 h3 ⟨Bx, h4, rfl⟩))
    (fun l pre x a' W _ _ hi hx hlt => by obtain ⟨Bx, h1, rfl⟩ := hx; exact hbody l pre x Bx W hi h1 hlt)
    hdone (fun D c pre W _ _ h _ => h.elim)
theorem cell_lt {W : World} {b off : Nat} {v : Value} (h : W.cell? ⟨b, off, none⟩ = some v) : b < W.heap.size := by
  apply Classical.byContradiction
  intro hb
  simp only [World.cell?] at h
  rw [Array.getElem?_eq_none (by omega)] at h
  cases h
theorem KeepsOthers.ofBelow {W W' : World} (h : Below W.heap.size W W') : KeepsOthers W W' := ⟨h.size, fun k o hk _ => (h.block k (Array.getElem?_eq_some_iff.1 hk).1).trans hk⟩

set_option maxRecDepth 100000 in
set_option maxHeartbeats 40000000 in
theorem rd_c (R : Rw) (rd : Fx → List It → RR) (m : Nat) (hrd : RdOK R rd) : RdOK R (rdStep R rd m) := by
  intro f p W h hne
  have HOp : Hid (∀ (f : Fx) (p : Nat) (W : World), RwOK R W p → opdM rd f (R.its.drop p) ≠ .stuck → Calls Tryz.prog 54 #[.agg #[.string (bs f.name), .int .i64 f.side, .int .i64 f.level], .pointer (some ⟨R.bRow, 0, none⟩), .pointer (some ⟨R.bP, 0, none⟩), .pointer (some ⟨R.bRd, 0, none⟩)] W fun e w' => RdRes R p W w' e (opdM rd f (R.its.drop p))) := opd_c R rd
  have HRd : Hid (∀ (f : Fx) (p : Nat) (W : World), RwOK R W p → rd f (R.its.drop p) ≠ .stuck → Calls Tryz.prog 57 #[.agg #[.string (bs f.name), .int .i64 f.side, .int .i64 f.level], .pointer (some ⟨R.bOp, 0, none⟩), .pointer (some ⟨R.bP, 0, none⟩), .pointer (some ⟨R.bRow, 0, none⟩), .pointer (some ⟨R.bR, 0, none⟩), .pointer (some ⟨R.bK, 0, none⟩), .pointer (some ⟨R.bRd, 0, none⟩)] W fun e w' => RdRes R p W w' e (rd f (R.its.drop p))) := hrd
  clear hrd
  have HW : Hid (RwOK R W p) := h
  have hst : opdM rd f (R.its.drop p) ≠ .stuck := by
    intro e; apply hne; show rdStep R rd m f _ = _; unfold rdStep; rw [e]; rfl
  -- the world ahead of the first call
  obtain ⟨V, hV⟩ : ∃ V, (W.alloc (.cells #[.string (bs f.name), .int .i64 f.side, .int .i64 f.level] 42)).alloc (.cells #[.int .i64 0, .string ⟨#[]⟩, .int .i64 0, .slice none 0 0, .int .i64 0] 28) = V := ⟨_, rfl⟩
  have HVb : Hid (Below W.heap.size W V) := by show Below _ _ _; rw [← hV]; exact ((Below.refl _ W).alloc (Nat.le_refl _) _).alloc (by simp) _
  have HVs : Hid (V.heap.size = W.heap.size + 2) := by show _ = _; rw [← hV]; simp
  have HVf : Hid (Blk V W.heap.size #[.string (bs f.name), .int .i64 f.side, .int .i64 f.level] 42) := by show Blk _ _ _ _; rw [← hV]; exact (Blk.new W _ _).below ((Below.refl _ _).alloc (Nat.le_refl _) _)
  have HVz : Hid (Blk V (W.heap.size + 1) #[.int .i64 0, .string ⟨#[]⟩, .int .i64 0, .slice none 0 0, .int .i64 0] 28) := by show Blk _ _ _ _; rw [← hV]; exact Blk.new2 W _ _ _
  have HVe : Hid ((W.alloc (.cells #[.string (bs f.name), .int .i64 f.side, .int .i64 f.level] 42)).alloc (.cells #[.int .i64 0, .string ⟨#[]⟩, .int .i64 0, .slice none 0 0, .int .i64 0] 28) = V) := hV
  have HC1 := HOp.out f p V (h.below HVb.out) hst
  have HC : Hid (Calls Tryz.prog 54 #[.agg #[.string (bs f.name), .int .i64 f.side, .int .i64 f.level], .pointer (some ⟨R.bRow, 0, none⟩), .pointer (some ⟨R.bP, 0, none⟩), .pointer (some ⟨R.bRd, 0, none⟩)] V fun e w' => RdRes R p V w' e (opdM rd f (R.its.drop p))) := HC1
  have cOp : W.cell? ⟨R.bOp, 0, none⟩ = some (.func (.func 54) #[] #[.pointer (some ⟨R.bRow, 0, none⟩), .pointer (some ⟨R.bP, 0, none⟩), .pointer (some ⟨R.bRd, 0, none⟩)]) := h.op.cell 0 _ rfl
  have lOp := h.op.lt
  have lOp1 : R.bOp < W.heap.size + 1 := by omega
  clear hV HC1 h hst
  show Calls Tryz.prog 57 #[.agg #[.string (bs f.name), .int .i64 f.side, .int .i64 f.level], .pointer (some ⟨R.bOp, 0, none⟩), .pointer (some ⟨R.bP, 0, none⟩), .pointer (some ⟨R.bRow, 0, none⟩), .pointer (some ⟨R.bR, 0, none⟩), .pointer (some ⟨R.bK, 0, none⟩), .pointer (some ⟨R.bRd, 0, none⟩)] W _
  refine (callsIn_wide (n := 9)).1 ?_
  refine callsIn_of_wp_marks Tryz.func57 rfl trivial ?_ rfl
  simp only [Tryz.ntmps57, List.size_toArray, List.length_cons, List.length_nil, Nat.reduceAdd, Nat.reduceSub, Array.replicate_succ, Array.replicate_zero, List.push_toArray, List.append_toArray, List.nil_append, List.cons_append]
  refine wpIn_wide.2 ?_
  go_wp2_with (go_at_call 54; fail)
  rw [HVe.out]
  refine HC.out.mono ?_
  rintro e w1 hres
  -- both ways come to a node and a fault
  obtain ⟨n, o, cap, ft, rfl, HL⟩ : ∃ (n : Nd) (o : Option Addr) (cap : Nat) (ft : Option Addr), e = .returned (.tuple #[.agg #[.int .i64 n.kind, .string (bs n.name), .int .i64 n.num, .slice o n.kids.length cap, .int .i64 n.pos], .pointer ft]) ∧ Hid (LInv R rd m f p W w1.heap.size (.slice none 0 0) (.pointer ft) (w1.alloc (.cells #[.int .i64 n.kind, .string (bs n.name), .int .i64 n.num, .slice o n.kids.length cap, .int .i64 n.pos] 28))) := by
    have hbs : ∀ (q : Nat) (c : Obj), But R.bP V w1 → RwOK R w1 q → LBase R W f w1.heap.size (w1.alloc c) q := fun q c hb hk => by
      have hb2 : Below w1.heap.size w1 (w1.alloc c) := (Below.refl _ _).alloc (Nat.le_refl _) _
      have hP : R.bP < W.heap.size := HW.out.pl.lt
      refine ⟨hk.below hb2, (HVf.out.but (by omega) hb).below hb2, (HVz.out.but (by omega) hb).below hb2, ((but_below HVb.out _).trans hb).trans (but_below hb2 _), ?_, by simp⟩
      have := hb.size; have := HVs.out; omega
    cases hod : opdM rd f (R.its.drop p) with
    | ok left r =>
      rw [hod] at hres
      obtain ⟨o, cap, p1, rfl, hFr, hK, hre, hlt, hBt⟩ := hres
      refine ⟨left, o, cap, none, rfl, .inl ⟨m, left, o, cap, [], none, 0, p1, rfl, rfl, hbs p1 _ hBt hK, Blk.new _ _ _, ?_, ⟨World.ownsRow_nil _ _ _ _, by simp⟩, Nat.zero_le _, hlt, ?_⟩⟩
      · exact Fr.leaf (opd_leaf HW.out hod) (nin_mono (hFr.nin.below ((Below.refl _ _).alloc (Nat.le_refl _) _)) (by simp))
      · show rdStep R rd m f _ = _
        unfold rdStep
        rw [hod, hre]
        rfl
    | bad pos =>
      rw [hod] at hres
      obtain ⟨g, p1, rfl, hg, hK, hBt⟩ := hres
      refine ⟨.mk 0 [] 0 [] 0, none, 0, some ⟨g, 0, none⟩, rfl, .inr ⟨g, pos, p1, none, 0, 0, rfl, rfl, hbs p1 _ hBt hK, hg.below ((Below.refl _ _).alloc (Nat.le_refl _) _), ?_⟩⟩
      show rdStep R rd m f _ = _
      unfold rdStep
      rw [hod]
      rfl
    | stuck => exact absurd hod (by intro e; apply hne; show rdStep R rd m f _ = _; unfold rdStep; rw [e]; rfl)
  have HRn : Hid (R.n ≤ W.heap.size) := HW.out.hn
  clear hres HC HVb HVs HVf HVz HVe HW cOp lOp lOp1
  go_wp2
  go_loopw [10, 12] (fun s10 s12 wr => Hid (LInv R rd m f p W w1.heap.size s10 s12 wr)) (fun s10 s12 wr => measR R s12 wr)
  case atStart => exact HL
  case round =>
    rcases hrel.out with ⟨mm, left, o2, cap2, ps, ow, cw, q, rfl, rfl, hL, hbl, hFr, hWt, hpl, hpq, hEq⟩ | ⟨g, pos, q, ow, nw, cw, rfl, rfl, hL, hg, hEq⟩
    · by_cases hq : q < R.its.length
      · obtain ⟨it, hit⟩ : ∃ it, R.its[q] = it := ⟨_, rfl⟩
        have hd : R.its.drop q = it :: R.its.drop (q + 1) := by rw [List.drop_eq_getElem_cons hq, hit]
        obtain ⟨mm, rfl⟩ : ∃ k, mm = k + 1 := by
          cases mm with
          | zero => exact absurd (hEq.trans (by rw [hd]; rfl)) hne
          | succ k => exact ⟨k, rfl⟩
        have hnm : it.node.name ≠ [] := by
          intro e
          apply hne
          rw [hEq, hd]
          simp only [loopM]
          rw [if_pos e]
        have hEq2 : rdStep R rd m f (R.its.drop p) = if (!mayM R.kind it.node.name || clashM f (holdM R.fs it.node.name)) = true then .bad it.node.pos else
            if keepsM f (holdM R.fs it.node.name) = true then .ok (unw R.kind (ps.reverse.map (fun x => (x.l, x.op))) left) (R.its.drop q) else
            if f.level = (holdM R.fs it.node.name).level then
              if left.kids ≠ [] then .stuck else
              (opdM rd (holdM R.fs it.node.name) (R.its.drop (q + 1))).on fun l2 r2 => loopM rd R.kind (holdM R.fs) f mm l2 ((left, it.node) :: ps.reverse.map (fun x => (x.l, x.op))) r2
            else
              (rd (holdM R.fs it.node.name) (R.its.drop (q + 1))).on fun r r2 => loopM rd R.kind (holdM R.fs) f mm (appM R.kind it.node left r) (ps.reverse.map (fun x => (x.l, x.op))) r2 := by
          rw [hEq, hd]
          conv => lhs; simp only [loopM]
          rw [if_neg hnm]
        obtain ⟨hN, hM⟩ := hL.ok.it q hq
        rw [hit] at hN
        obtain ⟨oi, ci, k0, k1, k2, k3, k4, hc, hc2, hk⟩ := hN.cells
        have hki := (hL.ok.nm q hq).2
        rw [hit] at hki
        have HIn : Hid (∀ (X : World) (B : Nat), NdIn X B it.node oi ci) := fun X B => ⟨.inl hki, hc, hc2, hN.wf⟩
        have HKi : Hid (it.node.kids = []) := hki
        have hnl : it.node.name.length ≤ 9223372036854775807 := hN.wf.2.1
        have cP : wr.cell? ⟨R.bP, 0, none⟩ = some (.int .i64 (q : Int)) := hL.ok.pl.cell 0 _ rfl
        have cRow : wr.cell? ⟨R.bRow, 0, none⟩ = some (.slice (some ⟨R.g, R.off, none⟩) R.its.length R.cap) := hL.ok.row.cell 0 _ rfl
        have cR : wr.cell? ⟨R.bR, 0, none⟩ = some (.func (.func 32) #[] #[.pointer (some ⟨R.mb, 0, none⟩)]) := hL.ok.r.cell 0 _ rfl
        have lP := hL.ok.pl.lt
        have lRow := hL.ok.row.lt
        have lR := hL.ok.r.lt
        have lg : R.g < wr.heap.size := Nat.lt_of_lt_of_le hL.ok.hg hL.ok.hB
        have hqi : (q : Int) < (R.its.length : Int) := by omega
        have hql : (R.its.length : Int) ≤ 1000000000 := by have := hL.ok.len; omega
        have HL1 : Hid (LBase R W f w1.heap.size wr q) := hL
        have HBl : Hid (Blk wr w1.heap.size #[.int .i64 left.kind, .string (bs left.name), .int .i64 left.num, .slice o2 left.kids.length cap2, .int .i64 left.pos] 28) := hbl
        have HFr : Hid (Fr (w1.heap.size + 1) wr left o2 cap2) := hFr
        have HWt : Hid (WaitOK (w1.heap.size + 1) wr ps ow cw) := hWt
        have HEq : Hid (rdStep R rd m f (R.its.drop p) = _) := hEq2
        have HWq : Hid (ps.length ≤ q ∧ p < q) := ⟨hpl, hpq⟩
        -- how the operator holds
        obtain ⟨V1, hV1⟩ : ∃ V1, wr.alloc (.cells #[.int .i64 it.node.kind, .string (bs it.node.name), .int .i64 it.node.num, .slice oi it.node.kids.length ci, .int .i64 it.node.pos] 28) = V1 := ⟨_, rfl⟩
        have HV1 : Hid (wr.alloc (.cells #[.int .i64 it.node.kind, .string (bs it.node.name), .int .i64 it.node.num, .slice oi it.node.kids.length ci, .int .i64 it.node.pos] 28) = V1) := hV1
        have HB1 : Hid (Below wr.heap.size wr V1) := by show Below _ _ _; rw [← hV1]; exact (Below.refl _ _).alloc (Nat.le_refl _) _
        have HO1 : Hid (Blk V1 wr.heap.size #[.int .i64 it.node.kind, .string (bs it.node.name), .int .i64 it.node.num, .slice oi it.node.kids.length ci, .int .i64 it.node.pos] 28) := by show Blk _ _ _ _; rw [← hV1]; exact Blk.new _ _ _
        have hok1 := hL.ok.below HB1.out
        have HCf : Hid (Calls Tryz.prog 32 #[.string (bs it.node.name), .pointer (some ⟨R.mb, 0, none⟩)] V1 fun e w' => e = .returned (.agg #[.string (bs (holdM R.fs it.node.name).name), .int .i64 (holdM R.fs it.node.name).side, .int .i64 (holdM R.fs it.node.name).level]) ∧ Below V1.heap.size V1 w') := finder1_c R.fs it.node.name hnl R.mb R.b R.c V1 (hok1.m.cell 0 _ rfl) hok1.m.lt hok1.st
        have HNm : Hid (it.node.name ≠ []) := hnm
        clear hV1 hok1 hEq hEq2 hL hbl hFr hWt hN hM hk hki hc hc2 hnl hnm hd
        obtain ⟨nx, hnx⟩ : ∃ nx, holdM R.fs it.node.name = nx := ⟨_, rfl⟩
        rw [hnx] at HCf HEq
        generalize hnd : it.node = nd at *
        go_wp2_with (go_at_call 32; fail)
        rw [HV1.out]
        refine HCf.out.mono ?_
        rintro e w2 ⟨rfl, hb2⟩
        have HB2 : Hid (Below wr.heap.size wr w2) := HB1.out.trans (hb2.mono HB1.out.size)
        have HO2 : Hid (Blk w2 wr.heap.size #[.int .i64 nd.kind, .string (bs nd.name), .int .i64 nd.num, .slice oi nd.kids.length ci, .int .i64 nd.pos] 28) := HO1.out.below hb2
        obtain ⟨V3, hV3⟩ : ∃ V3, w2.alloc (.cells #[.string (bs nx.name), .int .i64 nx.side, .int .i64 nx.level] 42) = V3 := ⟨_, rfl⟩
        have HV3 : Hid (w2.alloc (.cells #[.string (bs nx.name), .int .i64 nx.side, .int .i64 nx.level] 42) = V3) := hV3
        have hb3 : Below w2.heap.size w2 V3 := by rw [← hV3]; exact (Below.refl _ _).alloc (Nat.le_refl _) _
        have HB3 : Hid (Below wr.heap.size wr V3) := HB2.out.trans (hb3.mono HB2.out.size)
        have HO3 : Hid (Blk V3 wr.heap.size #[.int .i64 nd.kind, .string (bs nd.name), .int .i64 nd.num, .slice oi nd.kids.length ci, .int .i64 nd.pos] 28) := HO2.out.below hb3
        have HN3 : Hid (Blk V3 w2.heap.size #[.string (bs nx.name), .int .i64 nx.side, .int .i64 nx.level] 42) := by show Blk _ _ _ _; rw [← hV3]; exact Blk.new _ _ _
        have HL3 : Hid (LBase R W f w1.heap.size V3 q) := HL1.out.below HB3.out
        have cK2 : w2.cell? ⟨R.bK, 0, none⟩ = some (.int .i64 R.kind) := (HL1.out.below HB2.out).ok.k.cell 0 _ rfl
        have lK2 := (HL1.out.below HB2.out).ok.k.lt
        obtain ⟨o0, o1, o2', o3, o4, _, _, _, _, _⟩ := HO2.out.cells5F
        have lO2 := HO2.out.lt
        obtain ⟨b0, b1, b2, _, _, _⟩ := (HL1.out.below HB2.out).fb.all3
        have lF2 := (HL1.out.below HB2.out).fb.lt
        have HCm : Hid (Calls Tryz.prog 58 #[.int .i64 R.kind, .string (bs nd.name)] V3 fun e w' => e = .returned (.bool (mayM R.kind nd.name)) ∧ w' = V3) := mayStand_c R.kind nd.name HNm.out V3
        clear hb2 hb3 hV3 k0 k1 k2 k3 k4 cP cRow cR lP lRow lR lg HCf HV1 HB1 HO1
        cases hmay : mayM R.kind nd.name with
        | false =>
          rw [hmay] at HCm HEq
          have HE : Hid (rdStep R rd m f (R.its.drop p) = .bad nd.pos) := by show _ = _; rw [HEq.out]; rfl
          go_wp2_with (go_at_call 58; fail)
          rw [HV3.out]
          refine HCm.out.mono ?_
          rintro e w3 ⟨rfl, rfl⟩
          clear o0 o1 o2' o3 o4 lO2 b0 b1 b2 lF2 cK2 lK2
          obtain ⟨n0, n1, n2, n3, n4, _, _, _, _, _⟩ := HO3.out.cells5F
          have lno := HO3.out.lt
          have HCb : Hid (Calls Tryz.prog 56 #[.agg #[.int .i64 nd.kind, .string (bs nd.name), .int .i64 nd.num, .slice oi nd.kids.length ci, .int .i64 nd.pos]] w3 fun e w' => ∃ g, e = .returned (.pointer (some ⟨g, 0, none⟩)) ∧ Blk w' g #[.int .i64 7, .int .i64 nd.pos] 33 ∧ Below w3.heap.size w3 w' ∧ w3.heap.size ≤ g) := cannotBe_c _ _ _ _ nd.pos w3
          go_wp2_with (go_at_call 56; fail)
          refine HCb.out.mono ?_
          rintro e wb ⟨g, rfl, hgb, hbb, -⟩
          have HLb : Hid (LBase R W f w1.heap.size wb q) := HL3.out.below hbb
          have HGb : Hid (Blk wb g #[.int .i64 7, .int .i64 nd.pos] 33) := hgb
          clear hgb hbb n0 n1 n2 n3 n4 lno HCb
          have HRS : Hid (∀ V : World, But (W.heap.size + 1) wb V → RdRes R p W V (.returned (.tuple #[.agg #[.int .i64 0, .string ⟨#[]⟩, .int .i64 0, .slice none 0 0, .int .i64 0], .pointer (some ⟨g, 0, none⟩)])) (rdStep R rd m f (R.its.drop p))) := fun V hb => retBad HLb.out HGb.out HRn.out HE.out V hb
          have HZ : Hid (Blk wb (W.heap.size + 1) #[.int .i64 0, .string ⟨#[]⟩, .int .i64 0, .slice none 0 0, .int .i64 0] 28) := HLb.out.zb
          obtain ⟨z0, z1, z2, z3, z4, y0, y1, y2, y3, y4⟩ := HZ.out.cells5F
          have lz := HZ.out.lt
          go_wp2
          have hK := HZ.out.sets5F (.int .i64 0) (.string ⟨#[]⟩) (.int .i64 0) (.slice none 0 0) (.int .i64 0)
          have hB := but_sets5 wb (W.heap.size + 1) (.int .i64 0) (.string ⟨#[]⟩) (.int .i64 0) (.slice none 0 0) (.int .i64 0)
          generalize (((((wb.setCell ⟨W.heap.size + 1, 0, none⟩ (.int .i64 0)).setCell ⟨W.heap.size + 1, 1, none⟩ (.string ⟨#[]⟩)).setCell ⟨W.heap.size + 1, 2, none⟩ (.int .i64 0)).setCell ⟨W.heap.size + 1, 3, none⟩ (.slice none 0 0)).setCell ⟨W.heap.size + 1, 4, none⟩ (.int .i64 0)) = WF at hK hB ⊢
          obtain ⟨g0, g1, g2, g3, g4, _, _, _, _, _⟩ := hK.cells5F
          exact ⟨.tuple #[.agg #[.int .i64 0, .string ⟨#[]⟩, .int .i64 0, .slice none 0 0, .int .i64 0], .pointer (some ⟨g, 0, none⟩)], by simp [results, Tryz.results57, go_sem, g0, g1, g2, g3, g4], HRS.out WF hB⟩
        | true =>
          rw [hmay] at HCm HEq
          go_wp2_with (go_at_call 58; fail)
          rw [HV3.out]
          refine HCm.out.mono ?_
          rintro e w3 ⟨rfl, rfl⟩
          clear o0 o1 o2' o3 o4 lO2 b0 b1 b2 lF2 cK2 lK2
          obtain ⟨e0, e1, e2, _, _, _⟩ := HL3.out.fb.all3
          obtain ⟨x0, x1, x2, _, _, _⟩ := HN3.out.all3
          have le := HL3.out.fb.lt
          have lx := HN3.out.lt
          have HCc : Hid (Calls Tryz.prog 59 #[.agg #[.string (bs f.name), .int .i64 f.side, .int .i64 f.level], .agg #[.string (bs nx.name), .int .i64 nx.side, .int .i64 nx.level]] w3 fun e w' => e = .returned (.bool (clashM f nx)) ∧ Below w3.heap.size w3 w') := clash_c f nx w3
          cases hcl : clashM f nx with
          | true =>
            rw [hcl] at HCc HEq
            have HE : Hid (rdStep R rd m f (R.its.drop p) = .bad nd.pos) := by show _ = _; rw [HEq.out]; rfl
            go_wp2_with (go_at_call 59; fail)
            refine HCc.out.mono ?_
            rintro e w4 ⟨rfl, hb4⟩
            have HL4 : Hid (LBase R W f w1.heap.size w4 q) := HL3.out.below hb4
            have HO4 : Hid (Blk w4 wr.heap.size #[.int .i64 nd.kind, .string (bs nd.name), .int .i64 nd.num, .slice oi nd.kids.length ci, .int .i64 nd.pos] 28) := HO3.out.below hb4
            clear hb4 e0 e1 e2 x0 x1 x2 le lx
            obtain ⟨n0, n1, n2, n3, n4, _, _, _, _, _⟩ := HO4.out.cells5F
            have lno := HO4.out.lt
            have HCb : Hid (Calls Tryz.prog 56 #[.agg #[.int .i64 nd.kind, .string (bs nd.name), .int .i64 nd.num, .slice oi nd.kids.length ci, .int .i64 nd.pos]] w4 fun e w' => ∃ g, e = .returned (.pointer (some ⟨g, 0, none⟩)) ∧ Blk w' g #[.int .i64 7, .int .i64 nd.pos] 33 ∧ Below w4.heap.size w4 w' ∧ w4.heap.size ≤ g) := cannotBe_c _ _ _ _ nd.pos w4
            go_wp2_with (go_at_call 56; fail)
            refine HCb.out.mono ?_
            rintro e wb ⟨g, rfl, hgb, hbb, -⟩
            have HLb : Hid (LBase R W f w1.heap.size wb q) := HL4.out.below hbb
            have HGb : Hid (Blk wb g #[.int .i64 7, .int .i64 nd.pos] 33) := hgb
            clear hgb hbb n0 n1 n2 n3 n4 lno HCb
            have HRS : Hid (∀ V : World, But (W.heap.size + 1) wb V → RdRes R p W V (.returned (.tuple #[.agg #[.int .i64 0, .string ⟨#[]⟩, .int .i64 0, .slice none 0 0, .int .i64 0], .pointer (some ⟨g, 0, none⟩)])) (rdStep R rd m f (R.its.drop p))) := fun V hb => retBad HLb.out HGb.out HRn.out HE.out V hb
            have HZ : Hid (Blk wb (W.heap.size + 1) #[.int .i64 0, .string ⟨#[]⟩, .int .i64 0, .slice none 0 0, .int .i64 0] 28) := HLb.out.zb
            obtain ⟨z0, z1, z2, z3, z4, y0, y1, y2, y3, y4⟩ := HZ.out.cells5F
            have lz := HZ.out.lt
            go_wp2
            have hK := HZ.out.sets5F (.int .i64 0) (.string ⟨#[]⟩) (.int .i64 0) (.slice none 0 0) (.int .i64 0)
            have hB := but_sets5 wb (W.heap.size + 1) (.int .i64 0) (.string ⟨#[]⟩) (.int .i64 0) (.slice none 0 0) (.int .i64 0)
            generalize (((((wb.setCell ⟨W.heap.size + 1, 0, none⟩ (.int .i64 0)).setCell ⟨W.heap.size + 1, 1, none⟩ (.string ⟨#[]⟩)).setCell ⟨W.heap.size + 1, 2, none⟩ (.int .i64 0)).setCell ⟨W.heap.size + 1, 3, none⟩ (.slice none 0 0)).setCell ⟨W.heap.size + 1, 4, none⟩ (.int .i64 0)) = WF at hK hB ⊢
            obtain ⟨g0, g1, g2, g3, g4, _, _, _, _, _⟩ := hK.cells5F
            exact ⟨.tuple #[.agg #[.int .i64 0, .string ⟨#[]⟩, .int .i64 0, .slice none 0 0, .int .i64 0], .pointer (some ⟨g, 0, none⟩)], by simp [results, Tryz.results57, go_sem, g0, g1, g2, g3, g4], HRS.out WF hB⟩
          | false =>
            rw [hcl] at HCc HEq
            go_wp2_with (go_at_call 59; fail)
            refine HCc.out.mono ?_
            rintro e w4 ⟨rfl, hb4⟩
            have HL4 : Hid (LBase R W f w1.heap.size w4 q) := HL3.out.below hb4
            have HO4 : Hid (Blk w4 wr.heap.size #[.int .i64 nd.kind, .string (bs nd.name), .int .i64 nd.num, .slice oi nd.kids.length ci, .int .i64 nd.pos] 28) := HO3.out.below hb4
            have HN4 : Hid (Blk w4 w2.heap.size #[.string (bs nx.name), .int .i64 nx.side, .int .i64 nx.level] 42) := HN3.out.below hb4
            have HB4 : Hid (Below wr.heap.size wr w4) := HB3.out.trans (hb4.mono HB3.out.size)
            clear hb4 e0 e1 e2 x0 x1 x2 le lx
            obtain ⟨e0, e1, e2, _, _, _⟩ := HL4.out.fb.all3
            obtain ⟨x0, x1, x2, _, _, _⟩ := HN4.out.all3
            have le := HL4.out.fb.lt
            have lx := HN4.out.lt
            have HCk : Hid (Calls Tryz.prog 60 #[.agg #[.string (bs f.name), .int .i64 f.side, .int .i64 f.level], .agg #[.string (bs nx.name), .int .i64 nx.side, .int .i64 nx.level]] w4 fun e w' => e = .returned (.bool (keepsM f nx)) ∧ Below w4.heap.size w4 w') := keeps_c f nx w4
            cases hke : keepsM f nx with
            | true =>
              rw [hke] at HCk HEq
              have HE : Hid (rdStep R rd m f (R.its.drop p) = .ok (unw R.kind (ps.reverse.map (fun x => (x.l, x.op))) left) (R.its.drop q)) := by show _ = _; rw [HEq.out]; rfl
              go_wp2_with (go_at_call 60; fail)
              refine HCk.out.mono ?_
              rintro e w5 ⟨rfl, hb5⟩
              have HL5 : Hid (LBase R W f w1.heap.size w5 q) := HL4.out.below hb5
              have HO5 : Hid (Blk w5 wr.heap.size #[.int .i64 nd.kind, .string (bs nd.name), .int .i64 nd.num, .slice oi nd.kids.length ci, .int .i64 nd.pos] 28) := HO4.out.below hb5
              have HN5 : Hid (Blk w5 w2.heap.size #[.string (bs nx.name), .int .i64 nx.side, .int .i64 nx.level] 42) := HN4.out.below hb5
              have HB5 : Hid (Below wr.heap.size wr w5) := HB4.out.trans (hb5.mono HB4.out.size)
              clear hb5 e0 e1 e2 x0 x1 x2 le lx
              have HBl5 : Hid (Blk w5 w1.heap.size #[.int .i64 left.kind, .string (bs left.name), .int .i64 left.num, .slice o2 left.kids.length cap2, .int .i64 left.pos] 28) := HBl.out.below HB5.out
              have HFr5 : Hid (Fr (w1.heap.size + 1) w5 left o2 cap2) := HFr.out.keep (Nat.le_refl _) (fun k hk _ => HB5.out.block k hk) HB5.out.size
              have HWo5 : Hid (w5.ownsRow (w1.heap.size + 1) 103 10 (.slice ow ps.length cw) ps.length (ps.flatMap Pd.vals)) := ownsB HWt.out.1 (fun k hk => HB5.out.block k (HWt.out.1.lt k hk).2)
              have HWp : Hid (∀ x ∈ ps, PdOK x) := HWt.out.2
              have HBk : Hid (Calls Tryz.prog 62 #[.slice ow ps.length cw] w5 fun e w' => e = .returned (.func (.func 77) #[] #[.pointer (some ⟨w5.heap.size, 0, none⟩)]) ∧ w' = w5.alloc (.cells #[.slice ow ps.length cw] 99)) := backp_c ow ps.length cw w5
              go_wp2_with (go_at_call 62; fail)
              refine HBk.out.mono ?_
              rintro e W0 ⟨rfl, hW0⟩
              have hb0 : Below w5.heap.size w5 W0 := by rw [hW0]; exact (Below.refl _ _).alloc (Nat.le_refl _) _
              have HS0 : Hid (W0.heap.size = w5.heap.size + 1 ∧ w1.heap.size < w5.heap.size ∧ W.heap.size + 2 ≤ w1.heap.size ∧ R.n ≤ W.heap.size) := ⟨by rw [hW0]; simp, HL5.out.hi, HL5.out.lo, HRn.out⟩
              have HBs : Hid (Blk W0 w5.heap.size #[.slice ow ps.length cw] 99) := by show Blk _ _ _ _; rw [hW0]; exact Blk.new _ _ _
              have HU0 : Hid (UInv R W w1.heap.size q left [] W0) := UInv.below ⟨o2, cap2, HBl5.out, HFr5.out, HL5.out.ok, HL5.out.zb, HL5.out.but⟩ hb0
              have HOw : Hid (W0.ownsRow (w1.heap.size + 1) 103 10 (.slice ow ps.length cw) ps.length (ps.flatMap Pd.vals)) := ownsB HWo5.out (fun k hk => hb0.block k (HWo5.out.lt k hk).2)
              have HPl : Hid (ps.length ≤ 1000000000) := by
                show _ ≤ _
                have h1 := HWq.out.1
                have h2 := HL5.out.ok.hle
                have h3 := HL5.out.ok.len
                omega
              have HRt : Hid (∀ V : World, ∀ o cap, Fr W.heap.size V (unw R.kind (ps.reverse.map (fun x => (x.l, x.op))) left) o cap → RwOK R V q → But R.bP W V → RdRes R p W V (.returned (.tuple #[.agg #[.int .i64 (unw R.kind (ps.reverse.map (fun x => (x.l, x.op))) left).kind, .string (bs (unw R.kind (ps.reverse.map (fun x => (x.l, x.op))) left).name), .int .i64 (unw R.kind (ps.reverse.map (fun x => (x.l, x.op))) left).num, .slice o (unw R.kind (ps.reverse.map (fun x => (x.l, x.op))) left).kids.length cap, .int .i64 (unw R.kind (ps.reverse.map (fun x => (x.l, x.op))) left).pos], .pointer none])) (rdStep R rd m f (R.its.drop p))) := by
                intro V o cap h1 h2 h3
                rw [HE.out]
                exact ⟨o, cap, q, rfl, h1, h2, rfl, HWq.out.2, h3⟩
              clear hb0 hW0 HBk
              go_wp2
              refine (wpIn_wide (n := 9)).1 ?_
              refine wpIn_rangeFunc_box (F := Fence.wide) (n := 9) rfl (by decide) (gf := 77) (lb := #[.pointer (some ⟨w5.heap.size, 0, none⟩)]) rfl trivial (enters_of Tryz.func77 (by kernel_rfl) rfl)
                (backp_stops Fence.wide (9 - 1) (fun _ => trivial) rfl (by omega) w5.heap.size ps (by have := HPl.out; omega) ow cw (fun b => b = w5.heap.size ∨ (Value.slice ow ps.length cw).ownBlock = some b) (.inl rfl) W0 HBs.out.lt (HBs.out.cell 0 _ rfl) (by
                  rcases own_pd HOw.out with h | ⟨g, h1, h2, h3⟩
                  · exact .inl h
                  · exact .inr ⟨g, 0, h1, .inr (by rw [h1]; rfl), h2, h3⟩)) KpS.trans (fun W l o o' hl => KpS.put (w := W0) W l o o' hl) (Below.refl _ _) (fun _ => rfl)
                (fun pre X' => UInv R W w1.heap.size q left (pre.map (fun x : Fin ps.length => ps[x])) X')
                (fun pre A B row hs hgr hr => hs.kept (N := W0.heap.size) (by have := HS0.out; omega) (by have := HS0.out; omega) hgr hr)
                HU0.out (fun x => #[.int .i64 ps[x].l.kind, .string (bs ps[x].l.name), .int .i64 ps[x].l.num, .slice ps[x].ol ps[x].l.kids.length ps[x].cl, .int .i64 ps[x].l.pos, .int .i64 ps[x].op.kind, .string (bs ps[x].op.name), .int .i64 ps[x].op.num, .slice ps[x].oo ps[x].op.kids.length ps[x].co, .int .i64 ps[x].op.pos]) 103 ?frame ?assign ?body ?done
              case assign =>
                rintro l pre x X' K hU hK
                have hb : Below X'.heap.size X' (X'.alloc (.cells #[.int .i64 ps[x].l.kind, .string (bs ps[x].l.name), .int .i64 ps[x].l.num, .slice ps[x].ol ps[x].l.kids.length ps[x].cl, .int .i64 ps[x].l.pos, .int .i64 ps[x].op.kind, .string (bs ps[x].op.name), .int .i64 ps[x].op.num, .slice ps[x].oo ps[x].op.kids.length ps[x].co, .int .i64 ps[x].op.pos] 103)) := (Below.refl _ _).alloc (Nat.le_refl _) _
                gi_wp2
                obtain ⟨Bx, hBx⟩ : ∃ Bx, X'.heap.size = Bx := ⟨_, rfl⟩
                have hbk : Blk (X'.alloc (.cells #[.int .i64 ps[x].l.kind, .string (bs ps[x].l.name), .int .i64 ps[x].l.num, .slice ps[x].ol ps[x].l.kids.length ps[x].cl, .int .i64 ps[x].l.pos, .int .i64 ps[x].op.kind, .string (bs ps[x].op.name), .int .i64 ps[x].op.num, .slice ps[x].oo ps[x].op.kids.length ps[x].co, .int .i64 ps[x].op.pos] 103)) Bx #[.int .i64 ps[x].l.kind, .string (bs ps[x].l.name), .int .i64 ps[x].l.num, .slice ps[x].ol ps[x].l.kids.length ps[x].cl, .int .i64 ps[x].l.pos, .int .i64 ps[x].op.kind, .string (bs ps[x].op.name), .int .i64 ps[x].op.num, .slice ps[x].oo ps[x].op.kids.length ps[x].co, .int .i64 ps[x].op.pos] 103 := by rw [← hBx]; exact Blk.new _ _ _
                rw [hBx]
                exact hK _ Bx ((KeepsOthers.alloc _ _).from _) (KpS.alloc _ _ _) (hU.below hb) hbk
              case body =>
                rintro l pre x Bx X' hU hBk hlt
                obtain ⟨o9, cap9, v1, v2, v3, v4, v5⟩ := hU
                obtain ⟨cur, hcur⟩ : ∃ cur, List.foldl (fun acc x => appM R.kind x.op x.l acc) left (pre.map (fun x : Fin ps.length => ps[x])) = cur := ⟨_, rfl⟩
                rw [hcur] at v1 v2
                have hPx := HWp.out ps[x] (List.getElem_mem _)
                have HEnd : Hid (∀ (w9 : World) (oa : Option Addr) (ca : Nat), Fr (w1.heap.size + 1) w9 (appM R.kind ps[x].op ps[x].l cur) oa ca → Below X'.heap.size X' w9 → KeepsFrom W0.heap.size X' (((((w9.setCell ⟨w1.heap.size, 0, none⟩ (.int .i64 (appM R.kind ps[x].op ps[x].l cur).kind)).setCell ⟨w1.heap.size, 1, none⟩ (.string (bs (appM R.kind ps[x].op ps[x].l cur).name))).setCell ⟨w1.heap.size, 2, none⟩ (.int .i64 (appM R.kind ps[x].op ps[x].l cur).num)).setCell ⟨w1.heap.size, 3, none⟩ (.slice oa (appM R.kind ps[x].op ps[x].l cur).kids.length ca)).setCell ⟨w1.heap.size, 4, none⟩ (.int .i64 (appM R.kind ps[x].op ps[x].l cur).pos)) ∧ KpS (fun b => b = w5.heap.size ∨ (Value.slice ow ps.length cw).ownBlock = some b) X' (((((w9.setCell ⟨w1.heap.size, 0, none⟩ (.int .i64 (appM R.kind ps[x].op ps[x].l cur).kind)).setCell ⟨w1.heap.size, 1, none⟩ (.string (bs (appM R.kind ps[x].op ps[x].l cur).name))).setCell ⟨w1.heap.size, 2, none⟩ (.int .i64 (appM R.kind ps[x].op ps[x].l cur).num)).setCell ⟨w1.heap.size, 3, none⟩ (.slice oa (appM R.kind ps[x].op ps[x].l cur).kids.length ca)).setCell ⟨w1.heap.size, 4, none⟩ (.int .i64 (appM R.kind ps[x].op ps[x].l cur).pos)) ∧ UInv R W w1.heap.size q left ((pre ++ [x]).map (fun x : Fin ps.length => ps[x])) (((((w9.setCell ⟨w1.heap.size, 0, none⟩ (.int .i64 (appM R.kind ps[x].op ps[x].l cur).kind)).setCell ⟨w1.heap.size, 1, none⟩ (.string (bs (appM R.kind ps[x].op ps[x].l cur).name))).setCell ⟨w1.heap.size, 2, none⟩ (.int .i64 (appM R.kind ps[x].op ps[x].l cur).num)).setCell ⟨w1.heap.size, 3, none⟩ (.slice oa (appM R.kind ps[x].op ps[x].l cur).kids.length ca)).setCell ⟨w1.heap.size, 4, none⟩ (.int .i64 (appM R.kind ps[x].op ps[x].l cur).pos))) := by
                  intro w9 oa ca hFa hba
                  have hs0 := HS0.out
                  have hko : KeepsOthers X' (((((w9.setCell ⟨w1.heap.size, 0, none⟩ (.int .i64 (appM R.kind ps[x].op ps[x].l cur).kind)).setCell ⟨w1.heap.size, 1, none⟩ (.string (bs (appM R.kind ps[x].op ps[x].l cur).name))).setCell ⟨w1.heap.size, 2, none⟩ (.int .i64 (appM R.kind ps[x].op ps[x].l cur).num)).setCell ⟨w1.heap.size, 3, none⟩ (.slice oa (appM R.kind ps[x].op ps[x].l cur).kids.length ca)).setCell ⟨w1.heap.size, 4, none⟩ (.int .i64 (appM R.kind ps[x].op ps[x].l cur).pos)) := (KeepsOthers.ofBelow hba).trans (((((KeepsOthers.setCell _ _ _).trans (KeepsOthers.setCell _ _ _)).trans (KeepsOthers.setCell _ _ _)).trans (KeepsOthers.setCell _ _ _)).trans (KeepsOthers.setCell _ _ _))
                  have hK9 := (v1.below hba).sets5F (.int .i64 (appM R.kind ps[x].op ps[x].l cur).kind) (.string (bs (appM R.kind ps[x].op ps[x].l cur).name)) (.int .i64 (appM R.kind ps[x].op ps[x].l cur).num) (.slice oa (appM R.kind ps[x].op ps[x].l cur).kids.length ca) (.int .i64 (appM R.kind ps[x].op ps[x].l cur).pos)
                  have hb9 := but_sets5 w9 w1.heap.size (.int .i64 (appM R.kind ps[x].op ps[x].l cur).kind) (.string (bs (appM R.kind ps[x].op ps[x].l cur).name)) (.int .i64 (appM R.kind ps[x].op ps[x].l cur).num) (.slice oa (appM R.kind ps[x].op ps[x].l cur).kids.length ca) (.int .i64 (appM R.kind ps[x].op ps[x].l cur).pos)
                  generalize (((((w9.setCell ⟨w1.heap.size, 0, none⟩ (.int .i64 (appM R.kind ps[x].op ps[x].l cur).kind)).setCell ⟨w1.heap.size, 1, none⟩ (.string (bs (appM R.kind ps[x].op ps[x].l cur).name))).setCell ⟨w1.heap.size, 2, none⟩ (.int .i64 (appM R.kind ps[x].op ps[x].l cur).num)).setCell ⟨w1.heap.size, 3, none⟩ (.slice oa (appM R.kind ps[x].op ps[x].l cur).kids.length ca)).setCell ⟨w1.heap.size, 4, none⟩ (.int .i64 (appM R.kind ps[x].op ps[x].l cur).pos)) = WF at hko hK9 hb9 ⊢
                  have e1 : List.foldl (fun acc x => appM R.kind x.op x.l acc) left ((pre ++ [x]).map (fun x : Fin ps.length => ps[x])) = appM R.kind ps[x].op ps[x].l cur := by
                    rw [List.map_append, List.foldl_append, hcur]; rfl
                  refine ⟨hko.from _, fun b off v hb e => ?_, oa, ca, by rw [e1]; exact hK9, by rw [e1]; exact hFa.keep (Nat.le_refl _) (fun k hk hlo => hb9.block k hk (by omega)) hb9.size, (v3.below hba).belowN (hb9.below (by omega) (by have := (v3.below hba).hn; omega)), (v4.below hba).but (by omega) hb9, (v5.trans (but_below hba _)).trans2 hb9 (by omega)⟩
                  have hlt := cell_lt e
                  have hne : b ≠ w1.heap.size := by
                    rcases hb with rfl | hb
                    · omega
                    · have := HOw.out.lt b hb; omega
                  exact (hb9.cell b off (Nat.lt_of_lt_of_le hlt hba.size) hne).trans ((hba.cell (p := ⟨b, off, none⟩) hlt).trans e)
                have HCa : Hid (Calls Tryz.prog 61 #[.int .i64 R.kind, .agg #[.int .i64 ps[x].op.kind, .string (bs ps[x].op.name), .int .i64 ps[x].op.num, .slice ps[x].oo ps[x].op.kids.length ps[x].co, .int .i64 ps[x].op.pos], .agg #[.int .i64 ps[x].l.kind, .string (bs ps[x].l.name), .int .i64 ps[x].l.num, .slice ps[x].ol ps[x].l.kids.length ps[x].cl, .int .i64 ps[x].l.pos], .agg #[.int .i64 cur.kind, .string (bs cur.name), .int .i64 cur.num, .slice o9 cur.kids.length cap9, .int .i64 cur.pos]] X' fun e w' => ∃ oa ca, e = .returned (.agg #[.int .i64 (appM R.kind ps[x].op ps[x].l cur).kind, .string (bs (appM R.kind ps[x].op ps[x].l cur).name), .int .i64 (appM R.kind ps[x].op ps[x].l cur).num, .slice oa (appM R.kind ps[x].op ps[x].l cur).kids.length ca, .int .i64 (appM R.kind ps[x].op ps[x].l cur).pos]) ∧ Fr (w1.heap.size + 1) w' (appM R.kind ps[x].op ps[x].l cur) oa ca ∧ Below X'.heap.size X' w') := appliedF_c (w1.heap.size + 1) R.kind ps[x].op ps[x].l cur ps[x].oo ps[x].ol o9 ps[x].co ps[x].cl cap9 hPx.2.2.1 X' v1.lt ⟨.inl hPx.2.1, (hPx.2.2.2 X' 0).2.2⟩ ⟨.inl hPx.1, (hPx.2.2.2 X' 0).1.2⟩ v2
                have cK : X'.cell? ⟨R.bK, 0, none⟩ = some (.int .i64 R.kind) := v3.k.cell 0 _ rfl
                have lK := v3.k.lt
                have HV1 : Hid (Blk X' w1.heap.size #[.int .i64 cur.kind, .string (bs cur.name), .int .i64 cur.num, .slice o9 cur.kids.length cap9, .int .i64 cur.pos] 28) := v1
                obtain ⟨l0, l1, l2, l3, l4, _, _, _, _, _⟩ := v1.cells5F
                have ll := v1.lt
                have lB := hBk.lt
                have d0 := hBk.cell 0 _ rfl
                have d1 := hBk.cell 1 _ rfl
                have d2 := hBk.cell 2 _ rfl
                have d3 := hBk.cell 3 _ rfl
                have d4 := hBk.cell 4 _ rfl
                have d5 := hBk.cell 5 _ rfl
                have d6 := hBk.cell 6 _ rfl
                have d7 := hBk.cell 7 _ rfl
                have d8 := hBk.cell 8 _ rfl
                have d9 := hBk.cell 9 _ rfl
                clear v1 v2 v3 v4 v5 hcur hPx hBk hlt
                generalize ps[x] = px at *
                gi_wp2_with (first | (refine ⟨trivial, ?_⟩; gi_at_call 61; refine (CallsIn.inRound l (callsIn_wide.2 HCa.out)).mono ?_; rintro e w9 ⟨oa, ca, rfl, hFa, hba⟩; obtain ⟨q0, q1, q2, q3, q4, f0, f1, f2, f3, f4⟩ := (HV1.out.below hba).cells5F; have lq := (HV1.out.below hba).lt; have HZ9 : Hid (KeepsFrom W0.heap.size X' (((((w9.setCell ⟨w1.heap.size, 0, none⟩ (.int .i64 (appM R.kind px.op px.l cur).kind)).setCell ⟨w1.heap.size, 1, none⟩ (.string (bs (appM R.kind px.op px.l cur).name))).setCell ⟨w1.heap.size, 2, none⟩ (.int .i64 (appM R.kind px.op px.l cur).num)).setCell ⟨w1.heap.size, 3, none⟩ (.slice oa (appM R.kind px.op px.l cur).kids.length ca)).setCell ⟨w1.heap.size, 4, none⟩ (.int .i64 (appM R.kind px.op px.l cur).pos)) ∧ KpS (fun b => b = w5.heap.size ∨ (Value.slice ow ps.length cw).ownBlock = some b) X' (((((w9.setCell ⟨w1.heap.size, 0, none⟩ (.int .i64 (appM R.kind px.op px.l cur).kind)).setCell ⟨w1.heap.size, 1, none⟩ (.string (bs (appM R.kind px.op px.l cur).name))).setCell ⟨w1.heap.size, 2, none⟩ (.int .i64 (appM R.kind px.op px.l cur).num)).setCell ⟨w1.heap.size, 3, none⟩ (.slice oa (appM R.kind px.op px.l cur).kids.length ca)).setCell ⟨w1.heap.size, 4, none⟩ (.int .i64 (appM R.kind px.op px.l cur).pos)) ∧ UInv R W w1.heap.size q left ((pre ++ [x]).map (fun x : Fin ps.length => ps[x])) (((((w9.setCell ⟨w1.heap.size, 0, none⟩ (.int .i64 (appM R.kind px.op px.l cur).kind)).setCell ⟨w1.heap.size, 1, none⟩ (.string (bs (appM R.kind px.op px.l cur).name))).setCell ⟨w1.heap.size, 2, none⟩ (.int .i64 (appM R.kind px.op px.l cur).num)).setCell ⟨w1.heap.size, 3, none⟩ (.slice oa (appM R.kind px.op px.l cur).kids.length ca)).setCell ⟨w1.heap.size, 4, none⟩ (.int .i64 (appM R.kind px.op px.l cur).pos))) := HEnd.out w9 oa ca hFa hba; clear hFa hba) | (gi_at_call 61; refine (CallsIn.inRound l (callsIn_wide.2 HCa.out)).mono ?_; rintro e w9 ⟨oa, ca, rfl, hFa, hba⟩; obtain ⟨q0, q1, q2, q3, q4, f0, f1, f2, f3, f4⟩ := (HV1.out.below hba).cells5F; have lq := (HV1.out.below hba).lt; have HZ9 : Hid (KeepsFrom W0.heap.size X' (((((w9.setCell ⟨w1.heap.size, 0, none⟩ (.int .i64 (appM R.kind px.op px.l cur).kind)).setCell ⟨w1.heap.size, 1, none⟩ (.string (bs (appM R.kind px.op px.l cur).name))).setCell ⟨w1.heap.size, 2, none⟩ (.int .i64 (appM R.kind px.op px.l cur).num)).setCell ⟨w1.heap.size, 3, none⟩ (.slice oa (appM R.kind px.op px.l cur).kids.length ca)).setCell ⟨w1.heap.size, 4, none⟩ (.int .i64 (appM R.kind px.op px.l cur).pos)) ∧ KpS (fun b => b = w5.heap.size ∨ (Value.slice ow ps.length cw).ownBlock = some b) X' (((((w9.setCell ⟨w1.heap.size, 0, none⟩ (.int .i64 (appM R.kind px.op px.l cur).kind)).setCell ⟨w1.heap.size, 1, none⟩ (.string (bs (appM R.kind px.op px.l cur).name))).setCell ⟨w1.heap.size, 2, none⟩ (.int .i64 (appM R.kind px.op px.l cur).num)).setCell ⟨w1.heap.size, 3, none⟩ (.slice oa (appM R.kind px.op px.l cur).kids.length ca)).setCell ⟨w1.heap.size, 4, none⟩ (.int .i64 (appM R.kind px.op px.l cur).pos)) ∧ UInv R W w1.heap.size q left ((pre ++ [x]).map (fun x : Fin ps.length => ps[x])) (((((w9.setCell ⟨w1.heap.size, 0, none⟩ (.int .i64 (appM R.kind px.op px.l cur).kind)).setCell ⟨w1.heap.size, 1, none⟩ (.string (bs (appM R.kind px.op px.l cur).name))).setCell ⟨w1.heap.size, 2, none⟩ (.int .i64 (appM R.kind px.op px.l cur).num)).setCell ⟨w1.heap.size, 3, none⟩ (.slice oa (appM R.kind px.op px.l cur).kids.length ca)).setCell ⟨w1.heap.size, 4, none⟩ (.int .i64 (appM R.kind px.op px.l cur).pos))) := HEnd.out w9 oa ca hFa hba; clear hFa hba))
                exact HZ9.out
              case done =>
                rintro D ys X' hD rfl hU hK
                rw [dn_rev] at hU
                obtain ⟨o9, cap9, v1, v2, v3, v4, v5⟩ := hU
                rw [← unw_fold] at v1 v2
                obtain ⟨cur, hcur⟩ : ∃ cur, unw R.kind (ps.reverse.map (fun x => (x.l, x.op))) left = cur := ⟨_, rfl⟩
                rw [hcur] at v1 v2 HRt
                have hs0 := HS0.out
                have HEnd : Hid ((((((X'.setCell ⟨W.heap.size + 1, 0, none⟩ (.int .i64 cur.kind)).setCell ⟨W.heap.size + 1, 1, none⟩ (.string (bs cur.name))).setCell ⟨W.heap.size + 1, 2, none⟩ (.int .i64 cur.num)).setCell ⟨W.heap.size + 1, 3, none⟩ (.slice o9 cur.kids.length cap9)).setCell ⟨W.heap.size + 1, 4, none⟩ (.int .i64 cur.pos)).heap[D]? = some (.deferred (some [])) ∧ Blk ((((((X'.setCell ⟨W.heap.size + 1, 0, none⟩ (.int .i64 cur.kind)).setCell ⟨W.heap.size + 1, 1, none⟩ (.string (bs cur.name))).setCell ⟨W.heap.size + 1, 2, none⟩ (.int .i64 cur.num)).setCell ⟨W.heap.size + 1, 3, none⟩ (.slice o9 cur.kids.length cap9)).setCell ⟨W.heap.size + 1, 4, none⟩ (.int .i64 cur.pos)).putObj D (.deferred none)) (W.heap.size + 1) #[.int .i64 cur.kind, .string (bs cur.name), .int .i64 cur.num, .slice o9 cur.kids.length cap9, .int .i64 cur.pos] 28 ∧ RdRes R p W ((((((X'.setCell ⟨W.heap.size + 1, 0, none⟩ (.int .i64 cur.kind)).setCell ⟨W.heap.size + 1, 1, none⟩ (.string (bs cur.name))).setCell ⟨W.heap.size + 1, 2, none⟩ (.int .i64 cur.num)).setCell ⟨W.heap.size + 1, 3, none⟩ (.slice o9 cur.kids.length cap9)).setCell ⟨W.heap.size + 1, 4, none⟩ (.int .i64 cur.pos)).putObj D (.deferred none)) (.returned (.tuple #[.agg #[.int .i64 cur.kind, .string (bs cur.name), .int .i64 cur.num, .slice o9 cur.kids.length cap9, .int .i64 cur.pos], .pointer none])) (rdStep R rd m f (R.its.drop p))) := by
                  have hZ := v4.sets5F (.int .i64 cur.kind) (.string (bs cur.name)) (.int .i64 cur.num) (.slice o9 cur.kids.length cap9) (.int .i64 cur.pos)
                  have hbZ := but_sets5 X' (W.heap.size + 1) (.int .i64 cur.kind) (.string (bs cur.name)) (.int .i64 cur.num) (.slice o9 cur.kids.length cap9) (.int .i64 cur.pos)
                  generalize (((((X'.setCell ⟨W.heap.size + 1, 0, none⟩ (.int .i64 cur.kind)).setCell ⟨W.heap.size + 1, 1, none⟩ (.string (bs cur.name))).setCell ⟨W.heap.size + 1, 2, none⟩ (.int .i64 cur.num)).setCell ⟨W.heap.size + 1, 3, none⟩ (.slice o9 cur.kids.length cap9)).setCell ⟨W.heap.size + 1, 4, none⟩ (.int .i64 cur.pos)) = WZ at hZ hbZ ⊢
                  have hDl : D < X'.heap.size := (Array.getElem?_eq_some_iff.1 hK).1
                  have hKZ : WZ.heap[D]? = some (.deferred (some [])) := (hbZ.block D hDl (by omega)).trans hK
                  have hgp := grownBy_putObj' WZ D (.deferred none)
                  have hrow : ∀ r, some D = some r → ∃ o : Obj, WZ.heap[r]? = some o ∧ o.isCells = false := fun r e => by cases e; exact ⟨_, hKZ, rfl⟩
                  have hsz := hgp.size
                  refine ⟨hKZ, blk_kept hZ hgp hrow, HRt.out _ o9 cap9 ?_ ?_ ?_⟩
                  · exact ((v2.keep (lo' := W.heap.size) (by omega) (fun k hk hlo => hbZ.block k hk (by omega)) hbZ.size).kept hgp hrow)
                  · have h3 := v3.belowN (hbZ.below (by omega) (by have := v3.hn; omega))
                    exact h3.belowN ⟨hgp.os, hgp.tape, hgp.output, hsz, fun k hk => hgp.block k (by have := h3.hn; omega) (fun e => by cases e; omega)⟩
                  · have h5 := v5.trans2 hbZ (by omega)
                    exact ⟨hgp.os.trans h5.os, hgp.tape.trans h5.tape, hgp.output.trans h5.output, Nat.le_trans h5.size hsz, fun j hj hne => (hgp.block j (by have := h5.size; omega) (fun e => by cases e; omega)).trans (h5.block j hj hne)⟩
                obtain ⟨l0, l1, l2, l3, l4, _, _, _, _, _⟩ := v1.cells5F
                have ll := v1.lt
                obtain ⟨z0, z1, z2, z3, z4, y0, y1, y2, y3, y4⟩ := v4.cells5F
                have lz := v4.lt
                clear v1 v2 v3 v4 v5 hcur hK hs0
                go_wp2
                obtain ⟨hk1, hk2, hk3⟩ := HEnd.out
                refine ⟨by simp, .inl ⟨_, _, rfl, run_takeDeferred hk1, ?_⟩⟩
                generalize ((((((X'.setCell ⟨W.heap.size + 1, 0, none⟩ (.int .i64 cur.kind)).setCell ⟨W.heap.size + 1, 1, none⟩ (.string (bs cur.name))).setCell ⟨W.heap.size + 1, 2, none⟩ (.int .i64 cur.num)).setCell ⟨W.heap.size + 1, 3, none⟩ (.slice o9 cur.kids.length cap9)).setCell ⟨W.heap.size + 1, 4, none⟩ (.int .i64 cur.pos)).putObj D (.deferred none)) = WF at hk2 hk3 ⊢
                obtain ⟨g0, g1, g2, g3, g4, _, _, _, _, _⟩ := hk2.cells5F
                exact ⟨.tuple #[.agg #[.int .i64 cur.kind, .string (bs cur.name), .int .i64 cur.num, .slice o9 cur.kids.length cap9, .int .i64 cur.pos], .pointer none], by simp [results, Tryz.results57, go_sem, g0, g1, g2, g3, g4], hk3⟩
            | false =>
              rw [hke] at HCk
              go_wp2_with (go_at_call 60; fail)
              refine HCk.out.mono ?_
              rintro e w5 ⟨rfl, hb5⟩
              have HL5 : Hid (LBase R W f w1.heap.size w5 q) := HL4.out.below hb5
              have HO5 : Hid (Blk w5 wr.heap.size #[.int .i64 nd.kind, .string (bs nd.name), .int .i64 nd.num, .slice oi nd.kids.length ci, .int .i64 nd.pos] 28) := HO4.out.below hb5
              have HN5 : Hid (Blk w5 w2.heap.size #[.string (bs nx.name), .int .i64 nx.side, .int .i64 nx.level] 42) := HN4.out.below hb5
              have HB5 : Hid (Below wr.heap.size wr w5) := HB4.out.trans (hb5.mono HB4.out.size)
              clear hb5 e0 e1 e2 x0 x1 x2 le lx
              have hPW : R.bP < W.heap.size := by have := HL5.out.ok.lt.2.2.2.2.2.1; have := HRn.out; omega
              have HPW : Hid (R.bP < W.heap.size) := hPW
              have hb6 : But R.bP w5 (w5.setCell ⟨R.bP, 0, none⟩ (.int .i64 ((q : Int) + 1))) := but_set w5 _ _ _
              have HL6 : Hid (LBase R W f w1.heap.size (w5.setCell ⟨R.bP, 0, none⟩ (.int .i64 ((q : Int) + 1))) (q + 1)) := HL5.out.butP hPW hb6 (HL5.out.ok.but hb6 (by have h := HL5.out.ok.pl.set 0 (.int .i64 ((q : Int) + 1)); have e : ((q : Int) + 1) = ((q + 1 : Nat) : Int) := (by omega); rw [← e]; exact h) hq)
              have hwr5 : wr.heap.size ≤ w5.heap.size := HB5.out.size
              have hw15 : W.heap.size + 2 ≤ w1.heap.size ∧ w1.heap.size < wr.heap.size := ⟨HL1.out.lo, HL1.out.hi⟩
              have HO6 : Hid (Blk (w5.setCell ⟨R.bP, 0, none⟩ (.int .i64 ((q : Int) + 1))) wr.heap.size #[.int .i64 nd.kind, .string (bs nd.name), .int .i64 nd.num, .slice oi nd.kids.length ci, .int .i64 nd.pos] 28) := HO5.out.but (by omega) hb6
              have hw25 : wr.heap.size ≤ w2.heap.size := HB2.out.size
              have HN6 : Hid (Blk (w5.setCell ⟨R.bP, 0, none⟩ (.int .i64 ((q : Int) + 1))) w2.heap.size #[.string (bs nx.name), .int .i64 nx.side, .int .i64 nx.level] 42) := HN5.out.but (by omega) hb6
              have HBl6 : Hid (Blk (w5.setCell ⟨R.bP, 0, none⟩ (.int .i64 ((q : Int) + 1))) w1.heap.size #[.int .i64 left.kind, .string (bs left.name), .int .i64 left.num, .slice o2 left.kids.length cap2, .int .i64 left.pos] 28) := (HBl.out.below HB5.out).but (by omega) hb6
              have HFr6 : Hid (Fr (w1.heap.size + 1) (w5.setCell ⟨R.bP, 0, none⟩ (.int .i64 ((q : Int) + 1))) left o2 cap2) := HFr.out.keep (Nat.le_refl _) (fun k hk hlo => (hb6.block k (by omega) (by omega)).trans (HB5.out.block k hk)) (by rw [show (w5.setCell ⟨R.bP, 0, none⟩ (.int .i64 ((q : Int) + 1))).heap.size = w5.heap.size by simp]; exact hwr5)
              have HSz : Hid (W.heap.size + 2 ≤ w1.heap.size ∧ w1.heap.size < wr.heap.size ∧ wr.heap.size ≤ w2.heap.size ∧ w2.heap.size < w5.heap.size ∧ wr.heap.size ≤ w5.heap.size ∧ (w5.setCell ⟨R.bP, 0, none⟩ (.int .i64 ((q : Int) + 1))).heap.size = w5.heap.size) := ⟨hw15.1, hw15.2, hw25, HN5.out.lt, hwr5, by simp⟩
              have HWo : Hid ((w5.setCell ⟨R.bP, 0, none⟩ (.int .i64 ((q : Int) + 1))).ownsRow (w1.heap.size + 1) 103 10 (.slice ow ps.length cw) ps.length (ps.flatMap Pd.vals)) := ownsB HWt.out.1 (fun k hk => by have h := HWt.out.1.lt k hk; exact (hb6.block k (by omega) (by omega)).trans (HB5.out.block k h.2))
              have HWl : Hid (∀ r, (Value.slice ow ps.length cw).ownBlock = some r → w1.heap.size + 1 ≤ r ∧ r < wr.heap.size) := fun r e => HWt.out.1.lt r e
              have cP5 : w5.cell? ⟨R.bP, 0, none⟩ = some (.int .i64 (q : Int)) := HL5.out.ok.pl.cell 0 _ rfl
              have fP5 := HL5.out.ok.pl.frozen 0
              have lP5 := HL5.out.ok.pl.lt
              obtain ⟨e0, e1, e2, _, _, _⟩ := HL5.out.fb.all3
              obtain ⟨x0, x1, x2, _, _, _⟩ := HN5.out.all3
              have le := HL5.out.fb.lt
              have lx := HN5.out.lt
              have nP1 : W.heap.size ≠ R.bP := by omega
              have nP2 : w2.heap.size ≠ R.bP := by omega
              clear hb6 hw15 hw25 hwr5 hPW
              by_cases hlv : f.level = nx.level
              · have tlv : (f.level == nx.level) = true := by simp [hlv]
                have hleaf : left.kids = [] := by
                  apply Classical.byContradiction
                  intro hk
                  apply hne
                  rw [HEq.out]
                  show (if keepsM f nx = true then _ else _) = _
                  rw [hke, if_neg (by simp), if_pos hlv, if_pos hk]
                have hEq3 : rdStep R rd m f (R.its.drop p) = (opdM rd nx (R.its.drop (q + 1))).on fun l2 r2 => loopM rd R.kind (holdM R.fs) f mm l2 ((left, nd) :: ps.reverse.map (fun x => (x.l, x.op))) r2 := by
                  rw [HEq.out]
                  show (if keepsM f nx = true then _ else _) = _
                  rw [hke, if_neg (by simp), if_pos hlv, if_neg (by simp [hleaf])]
                have hst : opdM rd nx (R.its.drop (q + 1)) ≠ .stuck := by intro e; apply hne; rw [hEq3, e]; rfl
                have HSt : Hid (opdM rd nx (R.its.drop (q + 1)) ≠ .stuck) := hst
                have HEq3 : Hid (rdStep R rd m f (R.its.drop p) = (opdM rd nx (R.its.drop (q + 1))).on fun l2 r2 => loopM rd R.kind (holdM R.fs) f mm l2 ((left, nd) :: ps.reverse.map (fun x => (x.l, x.op))) r2) := hEq3
                have HLf : Hid (left.kids = []) := hleaf
                obtain ⟨i0, hi0, hzz⟩ := Option.map_eq_some_iff.1 infoPd
                simp only [Prod.mk.injEq] at hzz
                have HI : Hid (Tryz.prog.info? 103 = some i0 ∧ i0.zero = some pdZero ∧ i0.size = 10 ∧ i0.bytes = 128) := ⟨hi0, hzz.1, hzz.2.1, hzz.2.2⟩
                have HNw : Hid (∀ j u, (#[.int .i64 left.kind, .string (bs left.name), .int .i64 left.num, .slice o2 left.kids.length cap2, .int .i64 left.pos, .int .i64 nd.kind, .string (bs nd.name), .int .i64 nd.num, .slice oi nd.kids.length ci, .int .i64 nd.pos] : Array Value).toList[j]? = some u → ((w5.setCell ⟨R.bP, 0, none⟩ (.int .i64 ((q : Int) + 1))).alloc (.cells #[.int .i64 left.kind, .string (bs left.name), .int .i64 left.num, .slice o2 left.kids.length cap2, .int .i64 left.pos, .int .i64 nd.kind, .string (bs nd.name), .int .i64 nd.num, .slice oi nd.kids.length ci, .int .i64 nd.pos] 103)).cell? ((⟨w5.heap.size, 0, none⟩ : Addr).add j) = some u) := fun j u hu => by
                  rw [Addr.add_lit, Nat.zero_add, ← HSz.out.2.2.2.2.2]
                  exact (Blk.new (w5.setCell ⟨R.bP, 0, none⟩ (.int .i64 ((q : Int) + 1))) #[.int .i64 left.kind, .string (bs left.name), .int .i64 left.num, .slice o2 left.kids.length cap2, .int .i64 left.pos, .int .i64 nd.kind, .string (bs nd.name), .int .i64 nd.num, .slice oi nd.kids.length ci, .int .i64 nd.pos] 103).cell j u (by simpa using hu)
                have HW7 : Hid (((w5.setCell ⟨R.bP, 0, none⟩ (.int .i64 ((q : Int) + 1))).alloc (.cells #[.int .i64 left.kind, .string (bs left.name), .int .i64 left.num, .slice o2 left.kids.length cap2, .int .i64 left.pos, .int .i64 nd.kind, .string (bs nd.name), .int .i64 nd.num, .slice oi nd.kids.length ci, .int .i64 nd.pos] 103)).ownsRow (w1.heap.size + 1) 103 10 (.slice ow ps.length cw) ps.length (ps.flatMap Pd.vals)) := HWo.out.alloc _
                have HPl : Hid (ps.length ≤ 1000000000) := by
                  show _ ≤ _
                  have h1 := HWq.out.1
                  have h2 := HL1.out.ok.hle
                  have h3 := HL1.out.ok.len
                  omega
                have hb7 : Below (w5.setCell ⟨R.bP, 0, none⟩ (.int .i64 ((q : Int) + 1))).heap.size (w5.setCell ⟨R.bP, 0, none⟩ (.int .i64 ((q : Int) + 1))) ((w5.setCell ⟨R.bP, 0, none⟩ (.int .i64 ((q : Int) + 1))).alloc (.cells #[.int .i64 left.kind, .string (bs left.name), .int .i64 left.num, .slice o2 left.kids.length cap2, .int .i64 left.pos, .int .i64 nd.kind, .string (bs nd.name), .int .i64 nd.num, .slice oi nd.kids.length ci, .int .i64 nd.pos] 103)) := (Below.refl _ _).alloc (Nat.le_refl _) _
                have HL7 : Hid (LBase R W f w1.heap.size ((w5.setCell ⟨R.bP, 0, none⟩ (.int .i64 ((q : Int) + 1))).alloc (.cells #[.int .i64 left.kind, .string (bs left.name), .int .i64 left.num, .slice o2 left.kids.length cap2, .int .i64 left.pos, .int .i64 nd.kind, .string (bs nd.name), .int .i64 nd.num, .slice oi nd.kids.length ci, .int .i64 nd.pos] 103)) (q + 1)) := HL6.out.below hb7
                have HN7 : Hid (Blk ((w5.setCell ⟨R.bP, 0, none⟩ (.int .i64 ((q : Int) + 1))).alloc (.cells #[.int .i64 left.kind, .string (bs left.name), .int .i64 left.num, .slice o2 left.kids.length cap2, .int .i64 left.pos, .int .i64 nd.kind, .string (bs nd.name), .int .i64 nd.num, .slice oi nd.kids.length ci, .int .i64 nd.pos] 103)) w2.heap.size #[.string (bs nx.name), .int .i64 nx.side, .int .i64 nx.level] 42) := HN6.out.below hb7
                have HBl7 : Hid (Blk ((w5.setCell ⟨R.bP, 0, none⟩ (.int .i64 ((q : Int) + 1))).alloc (.cells #[.int .i64 left.kind, .string (bs left.name), .int .i64 left.num, .slice o2 left.kids.length cap2, .int .i64 left.pos, .int .i64 nd.kind, .string (bs nd.name), .int .i64 nd.num, .slice oi nd.kids.length ci, .int .i64 nd.pos] 103)) w1.heap.size #[.int .i64 left.kind, .string (bs left.name), .int .i64 left.num, .slice o2 left.kids.length cap2, .int .i64 left.pos] 28) := HBl6.out.below hb7
                have HB7s : Hid (w1.heap.size + 1 ≤ ((w5.setCell ⟨R.bP, 0, none⟩ (.int .i64 ((q : Int) + 1))).alloc (.cells #[.int .i64 left.kind, .string (bs left.name), .int .i64 left.num, .slice o2 left.kids.length cap2, .int .i64 left.pos, .int .i64 nd.kind, .string (bs nd.name), .int .i64 nd.num, .slice oi nd.kids.length ci, .int .i64 nd.pos] 103)).heap.size) := by show _ ≤ _; have := HSz.out; simp; omega
                obtain ⟨l0, l1, l2', l3, l4, _, _, _, _, _⟩ := (HBl.out.below HB5.out).cells5F
                have ll := (HBl.out.below HB5.out).lt
                obtain ⟨p0, p1, p2, p3, p4, _, _, _, _, _⟩ := HO5.out.cells5F
                have lp := HO5.out.lt
                have nP3 : w1.heap.size ≠ R.bP := by have := HSz.out; have := HPW.out; omega
                have nP4 : wr.heap.size ≠ R.bP := by have := HSz.out; have := HPW.out; omega
                clear hi0 hzz hb7 hEq3 hst hleaf hlv
                go_wp2_with (first | (at_builtin; refine wpList_append_own_at _ rfl _ _ 99 rfl (w1.heap.size + 1) 103 i0 _ 10 128 Tryz.underlying99 HI.out.1 HI.out.2.1 HI.out.2.2.1 HI.out.2.2.2 rfl (by decide) (.slice ow ps.length cw) ps.length (ps.flatMap Pd.vals) rfl HW7.out ⟨w5.heap.size, 0, none⟩ 1 1 (#[.int .i64 left.kind, .string (bs left.name), .int .i64 left.num, .slice o2 left.kids.length cap2, .int .i64 left.pos, .int .i64 nd.kind, .string (bs nd.name), .int .i64 nd.num, .slice oi nd.kids.length ci, .int .i64 nd.pos] : Array Value).toList rfl rfl HNw.out pc_one (by have := HPl.out; unfold maxLen; omega) (by have := HPl.out; omega) HB7s.out ?_; intro v' w7 hown7 hgrow7 hnil7 hat7; obtain ⟨o7, c7, hv7⟩ := owns_len3 hown7; subst hv7; have HO7 : Hid (w7.ownsRow (w1.heap.size + 1) 103 10 (.slice o7 (ps.length + 1) c7) (ps.length + 1) (ps.flatMap Pd.vals ++ (#[.int .i64 left.kind, .string (bs left.name), .int .i64 left.num, .slice o2 left.kids.length cap2, .int .i64 left.pos, .int .i64 nd.kind, .string (bs nd.name), .int .i64 nd.num, .slice oi nd.kids.length ci, .int .i64 nd.pos] : Array Value).toList)) := hown7; have HL8 : Hid (LBase R W f w1.heap.size w7 (q + 1)) := HL7.out.gr HRn.out hgrow7 (fun r e => by have := HWl.out r e; have := HSz.out; omega); have HN8 : Hid (Blk w7 w2.heap.size #[.string (bs nx.name), .int .i64 nx.side, .int .i64 nx.level] 42) := HN7.out.gr hgrow7 (fun r e => by have := HWl.out r e; have := HSz.out; omega); have HBl8 : Hid (Blk w7 w1.heap.size #[.int .i64 left.kind, .string (bs left.name), .int .i64 left.num, .slice o2 left.kids.length cap2, .int .i64 left.pos] 28) := HBl7.out.gr hgrow7 (fun r e => by have := HWl.out r e; have := HSz.out; omega); have cO7 : w7.cell? ⟨R.bOp, 0, none⟩ = some (.func (.func 54) #[] #[.pointer (some ⟨R.bRow, 0, none⟩), .pointer (some ⟨R.bP, 0, none⟩), .pointer (some ⟨R.bRd, 0, none⟩)]) := HL8.out.ok.op.cell 0 _ rfl; have lO7 := HL8.out.ok.op.lt; obtain ⟨x70, x71, x72, _, _, _⟩ := HN8.out.all3; have lx7 := HN8.out.lt; clear hown7 hgrow7 hnil7 hat7 x0 x1 x2 e0 e1 e2 l0 l1 l2' l3 l4 p0 p1 p2 p3 p4 cP5 fP5) | (go_at_call 54; fail))
                refine (HOp.out nx (q + 1) w7 HL8.out.ok HSt.out).mono ?_
                rintro e w8 hres
                obtain ⟨n8, o8, cap8, ft8, rfl, HBl9, HLV⟩ : ∃ (n8 : Nd) (o8 : Option Addr) (cap8 : Nat) (ft8 : Option Addr), e = .returned (.tuple #[.agg #[.int .i64 n8.kind, .string (bs n8.name), .int .i64 n8.num, .slice o8 n8.kids.length cap8, .int .i64 n8.pos], .pointer ft8]) ∧ Hid (Blk w8 w1.heap.size #[.int .i64 left.kind, .string (bs left.name), .int .i64 left.num, .slice o2 left.kids.length cap2, .int .i64 left.pos] 28) ∧ Hid (LInv R rd m f p W w1.heap.size (.slice o7 (ps.length + 1) c7) (.pointer ft8) (((((w8.setCell ⟨w1.heap.size, 0, none⟩ (.int .i64 n8.kind)).setCell ⟨w1.heap.size, 1, none⟩ (.string (bs n8.name))).setCell ⟨w1.heap.size, 2, none⟩ (.int .i64 n8.num)).setCell ⟨w1.heap.size, 3, none⟩ (.slice o8 n8.kids.length cap8)).setCell ⟨w1.heap.size, 4, none⟩ (.int .i64 n8.pos)) ∧ measR R (.pointer ft8) (((((w8.setCell ⟨w1.heap.size, 0, none⟩ (.int .i64 n8.kind)).setCell ⟨w1.heap.size, 1, none⟩ (.string (bs n8.name))).setCell ⟨w1.heap.size, 2, none⟩ (.int .i64 n8.num)).setCell ⟨w1.heap.size, 3, none⟩ (.slice o8 n8.kids.length cap8)).setCell ⟨w1.heap.size, 4, none⟩ (.int .i64 n8.pos)) < measR R (.pointer none) wr) := by
                  have hsz := HSz.out
                  have hPW := HPW.out
                  have hM0 := measR_none HL1.out.ok
                  cases hod : opdM rd nx (R.its.drop (q + 1)) with
                  | ok l2 r2 =>
                    rw [hod] at hres
                    obtain ⟨o8, cap8, p8, rfl, hFr8, hK8, hre8, hlt8, hBt8⟩ := hres
                    have hBl := HBl8.out.but (by omega) hBt8
                    have hLb := HL8.out.butP hPW hBt8 hK8
                    refine ⟨l2, o8, cap8, none, rfl, hBl, ?_⟩
                    have hL9 := hLb.set5 HRn.out w1.heap.size hsz.1 (.int .i64 l2.kind) (.string (bs l2.name)) (.int .i64 l2.num) (.slice o8 l2.kids.length cap8) (.int .i64 l2.pos)
                    have hK9 := hBl.sets5F (.int .i64 l2.kind) (.string (bs l2.name)) (.int .i64 l2.num) (.slice o8 l2.kids.length cap8) (.int .i64 l2.pos)
                    have hb9 := but_sets5 w8 w1.heap.size (.int .i64 l2.kind) (.string (bs l2.name)) (.int .i64 l2.num) (.slice o8 l2.kids.length cap8) (.int .i64 l2.pos)
                    generalize (((((w8.setCell ⟨w1.heap.size, 0, none⟩ (.int .i64 l2.kind)).setCell ⟨w1.heap.size, 1, none⟩ (.string (bs l2.name))).setCell ⟨w1.heap.size, 2, none⟩ (.int .i64 l2.num)).setCell ⟨w1.heap.size, 3, none⟩ (.slice o8 l2.kids.length cap8)).setCell ⟨w1.heap.size, 4, none⟩ (.int .i64 l2.pos)) = WF at hL9 hK9 hb9 ⊢
                    have hlf := opd_leaf HL8.out.ok hod
                    have hle9 := hL9.ok.hle
                    refine ⟨.inl ⟨mm, l2, o8, cap8, ps ++ [⟨left, o2, cap2, nd, oi, ci⟩], o7, c7, p8, rfl, by simp, hL9, hK9, ⟨.inl hlf, hFr8.2⟩, ⟨?_, ?_⟩, ?_, ?_, ?_⟩, ?_⟩
                    · have := ownsB (W' := WF) HO7.out (fun k hk => by have h := HO7.out.lt k hk; exact (hb9.block k (by have := hBt8.size; omega) (by omega)).trans (hBt8.block k h.2 (by omega)))
                      rw [List.flatMap_append, List.length_append]
                      exact this
                    · intro x hx
                      rcases List.mem_append.1 hx with hx | hx
                      · exact HWt.out.2 x hx
                      · obtain rfl := List.mem_singleton.1 hx
                        exact ⟨HLf.out, HKi.out, HNm.out, fun W B => ⟨⟨.inl HLf.out, HFr.out.2⟩, HIn.out W B⟩⟩
                    · rw [List.length_append]; have := HWq.out.1; simp only [List.length_cons, List.length_nil]; omega
                    · have := HWq.out.2; omega
                    · rw [HEq3.out, hod]
                      show loopM rd R.kind (holdM R.fs) f mm l2 _ r2 = _
                      rw [hre8, List.reverse_append]
                      rfl
                    · rw [hM0, measR_none hL9.ok]; omega
                  | bad pos =>
                    rw [hod] at hres
                    obtain ⟨g, p8, rfl, hg8, hK8, hBt8⟩ := hres
                    have hBl := HBl8.out.but (by omega) hBt8
                    have hLb := HL8.out.butP hPW hBt8 hK8
                    refine ⟨.mk 0 [] 0 [] 0, none, 0, some ⟨g, 0, none⟩, rfl, hBl, ?_⟩
                    have hL9 := hLb.set5 HRn.out w1.heap.size hsz.1 (.int .i64 (Nd.mk 0 [] 0 [] 0).kind) (.string (bs (Nd.mk 0 [] 0 [] 0).name)) (.int .i64 (Nd.mk 0 [] 0 [] 0).num) (.slice none (Nd.mk 0 [] 0 [] 0).kids.length 0) (.int .i64 (Nd.mk 0 [] 0 [] 0).pos)
                    have hb9 := but_sets5 w8 w1.heap.size (.int .i64 (Nd.mk 0 [] 0 [] 0).kind) (.string (bs (Nd.mk 0 [] 0 [] 0).name)) (.int .i64 (Nd.mk 0 [] 0 [] 0).num) (.slice none (Nd.mk 0 [] 0 [] 0).kids.length 0) (.int .i64 (Nd.mk 0 [] 0 [] 0).pos)
                    generalize (((((w8.setCell ⟨w1.heap.size, 0, none⟩ (.int .i64 (Nd.mk 0 [] 0 [] 0).kind)).setCell ⟨w1.heap.size, 1, none⟩ (.string (bs (Nd.mk 0 [] 0 [] 0).name))).setCell ⟨w1.heap.size, 2, none⟩ (.int .i64 (Nd.mk 0 [] 0 [] 0).num)).setCell ⟨w1.heap.size, 3, none⟩ (.slice none (Nd.mk 0 [] 0 [] 0).kids.length 0)).setCell ⟨w1.heap.size, 4, none⟩ (.int .i64 (Nd.mk 0 [] 0 [] 0).pos)) = WF at hL9 hb9 ⊢
                    have hne8 : g ≠ w1.heap.size := blk_ne25 hg8 hBl
                    refine ⟨.inr ⟨g, pos, p8, o7, _, c7, rfl, rfl, hL9, hg8.but hne8 hb9, ?_⟩, ?_⟩
                    · rw [HEq3.out, hod]; rfl
                    · rw [hM0]; show 0 < _; omega
                  | stuck => exact absurd hod HSt.out
                obtain ⟨l90, l91, l92, l93, l94, f90, f91, f92, f93, f94⟩ := HBl9.out.cells5F
                have ll9 := HBl9.out.lt
                clear hres cO7 lO7 x70 x71 x72 lx7
                go_wp2
                go_roundw
                case rel => exact HLV.out.1
                case measure => exact HLV.out.2
              · have tlv : (f.level == nx.level) = false := beq_eq_false_iff_ne.2 hlv
                have hEq3 : rdStep R rd m f (R.its.drop p) = (rd nx (R.its.drop (q + 1))).on fun r r2 => loopM rd R.kind (holdM R.fs) f mm (appM R.kind nd left r) (ps.reverse.map (fun x => (x.l, x.op))) r2 := by
                  rw [HEq.out]
                  show (if keepsM f nx = true then _ else _) = _
                  rw [hke, if_neg (by simp), if_neg hlv]
                have hst : rd nx (R.its.drop (q + 1)) ≠ .stuck := by intro e; apply hne; rw [hEq3, e]; rfl
                have HSt : Hid (rd nx (R.its.drop (q + 1)) ≠ .stuck) := hst
                have HEq3 : Hid (rdStep R rd m f (R.its.drop p) = (rd nx (R.its.drop (q + 1))).on fun r r2 => loopM rd R.kind (holdM R.fs) f mm (appM R.kind nd left r) (ps.reverse.map (fun x => (x.l, x.op))) r2) := hEq3
                have hb7 : Below (w5.setCell ⟨R.bP, 0, none⟩ (.int .i64 ((q : Int) + 1))).heap.size (w5.setCell ⟨R.bP, 0, none⟩ (.int .i64 ((q : Int) + 1))) ((w5.setCell ⟨R.bP, 0, none⟩ (.int .i64 ((q : Int) + 1))).alloc (.cells #[.int .i64 0, .string ⟨#[]⟩, .int .i64 0, .slice none 0 0, .int .i64 0] 28)) := (Below.refl _ _).alloc (Nat.le_refl _) _
                have HL7 : Hid (LBase R W f w1.heap.size ((w5.setCell ⟨R.bP, 0, none⟩ (.int .i64 ((q : Int) + 1))).alloc (.cells #[.int .i64 0, .string ⟨#[]⟩, .int .i64 0, .slice none 0 0, .int .i64 0] 28)) (q + 1)) := HL6.out.below hb7
                have HO7 : Hid (Blk ((w5.setCell ⟨R.bP, 0, none⟩ (.int .i64 ((q : Int) + 1))).alloc (.cells #[.int .i64 0, .string ⟨#[]⟩, .int .i64 0, .slice none 0 0, .int .i64 0] 28)) wr.heap.size #[.int .i64 nd.kind, .string (bs nd.name), .int .i64 nd.num, .slice oi nd.kids.length ci, .int .i64 nd.pos] 28) := HO6.out.below hb7
                have HBl7 : Hid (Blk ((w5.setCell ⟨R.bP, 0, none⟩ (.int .i64 ((q : Int) + 1))).alloc (.cells #[.int .i64 0, .string ⟨#[]⟩, .int .i64 0, .slice none 0 0, .int .i64 0] 28)) w1.heap.size #[.int .i64 left.kind, .string (bs left.name), .int .i64 left.num, .slice o2 left.kids.length cap2, .int .i64 left.pos] 28) := HBl6.out.below hb7
                have HFr7 : Hid (Fr (w1.heap.size + 1) ((w5.setCell ⟨R.bP, 0, none⟩ (.int .i64 ((q : Int) + 1))).alloc (.cells #[.int .i64 0, .string ⟨#[]⟩, .int .i64 0, .slice none 0 0, .int .i64 0] 28)) left o2 cap2) := HFr6.out.keep (Nat.le_refl _) (fun k hk _ => hb7.block k hk) hb7.size
                have HWo7 : Hid (((w5.setCell ⟨R.bP, 0, none⟩ (.int .i64 ((q : Int) + 1))).alloc (.cells #[.int .i64 0, .string ⟨#[]⟩, .int .i64 0, .slice none 0 0, .int .i64 0] 28)).ownsRow (w1.heap.size + 1) 103 10 (.slice ow ps.length cw) ps.length (ps.flatMap Pd.vals)) := HWo.out.alloc _
                have HT7 : Hid (Blk ((w5.setCell ⟨R.bP, 0, none⟩ (.int .i64 ((q : Int) + 1))).alloc (.cells #[.int .i64 0, .string ⟨#[]⟩, .int .i64 0, .slice none 0 0, .int .i64 0] 28)) w5.heap.size #[.int .i64 0, .string ⟨#[]⟩, .int .i64 0, .slice none 0 0, .int .i64 0] 28) := by
                  have h := Blk.new (w5.setCell ⟨R.bP, 0, none⟩ (.int .i64 ((q : Int) + 1))) #[.int .i64 0, .string ⟨#[]⟩, .int .i64 0, .slice none 0 0, .int .i64 0] 28
                  rw [HSz.out.2.2.2.2.2] at h
                  exact h
                have HS7 : Hid (((w5.setCell ⟨R.bP, 0, none⟩ (.int .i64 ((q : Int) + 1))).alloc (.cells #[.int .i64 0, .string ⟨#[]⟩, .int .i64 0, .slice none 0 0, .int .i64 0] 28)).heap.size = w5.heap.size + 1) := by show _ = _; simp
                have HCr : Hid (Calls Tryz.prog 57 #[.agg #[.string (bs nx.name), .int .i64 nx.side, .int .i64 nx.level], .pointer (some ⟨R.bOp, 0, none⟩), .pointer (some ⟨R.bP, 0, none⟩), .pointer (some ⟨R.bRow, 0, none⟩), .pointer (some ⟨R.bR, 0, none⟩), .pointer (some ⟨R.bK, 0, none⟩), .pointer (some ⟨R.bRd, 0, none⟩)] ((w5.setCell ⟨R.bP, 0, none⟩ (.int .i64 ((q : Int) + 1))).alloc (.cells #[.int .i64 0, .string ⟨#[]⟩, .int .i64 0, .slice none 0 0, .int .i64 0] 28)) fun e w' => RdRes R (q + 1) ((w5.setCell ⟨R.bP, 0, none⟩ (.int .i64 ((q : Int) + 1))).alloc (.cells #[.int .i64 0, .string ⟨#[]⟩, .int .i64 0, .slice none 0 0, .int .i64 0] 28)) w' e (rd nx (R.its.drop (q + 1)))) := HRd.out nx (q + 1) ((w5.setCell ⟨R.bP, 0, none⟩ (.int .i64 ((q : Int) + 1))).alloc (.cells #[.int .i64 0, .string ⟨#[]⟩, .int .i64 0, .slice none 0 0, .int .i64 0] 28)) HL7.out.ok hst
                have cRd : w5.cell? ⟨R.bRd, 0, none⟩ = some (.func (.func 57) #[] #[.pointer (some ⟨R.bOp, 0, none⟩), .pointer (some ⟨R.bP, 0, none⟩), .pointer (some ⟨R.bRow, 0, none⟩), .pointer (some ⟨R.bR, 0, none⟩), .pointer (some ⟨R.bK, 0, none⟩), .pointer (some ⟨R.bRd, 0, none⟩)]) := HL5.out.ok.rd.cell 0 _ rfl
                have lRd := HL5.out.ok.rd.lt
                have nP5 : R.bRd ≠ R.bP := HL5.out.ok.ne.2.2.2.2.2.1
                clear hb7 hEq3 hst hlv
                go_wp2_with (go_at_call 57; fail)
                refine HCr.out.mono ?_
                rintro e w8 hres
                obtain ⟨n8, o8, cap8, ft8, rfl, HBt, HK8, HF8, HM8⟩ : ∃ (n8 : Nd) (o8 : Option Addr) (cap8 : Nat) (ft8 : Option Addr), e = .returned (.tuple #[.agg #[.int .i64 n8.kind, .string (bs n8.name), .int .i64 n8.num, .slice o8 n8.kids.length cap8, .int .i64 n8.pos], .pointer ft8]) ∧ Hid (But R.bP ((w5.setCell ⟨R.bP, 0, none⟩ (.int .i64 ((q : Int) + 1))).alloc (.cells #[.int .i64 0, .string ⟨#[]⟩, .int .i64 0, .slice none 0 0, .int .i64 0] 28)) w8) ∧ Hid (∃ p8, RwOK R w8 p8) ∧ Hid (Fr ((w5.setCell ⟨R.bP, 0, none⟩ (.int .i64 ((q : Int) + 1))).alloc (.cells #[.int .i64 0, .string ⟨#[]⟩, .int .i64 0, .slice none 0 0, .int .i64 0] 28)).heap.size w8 n8 o8 cap8) ∧ Hid ((ft8 = none ∧ ∃ r2 p8, rd nx (R.its.drop (q + 1)) = .ok n8 r2 ∧ r2 = R.its.drop p8 ∧ q + 1 < p8 ∧ RwOK R w8 p8) ∨ (∃ g pos p8, ft8 = some ⟨g, 0, none⟩ ∧ Blk w8 g #[.int .i64 7, .int .i64 pos] 33 ∧ rd nx (R.its.drop (q + 1)) = .bad pos ∧ RwOK R w8 p8)) := by
                  have hsz := HSz.out
                  have hS7 := HS7.out
                  cases hod : rd nx (R.its.drop (q + 1)) with
                  | ok n8 r2 =>
                    rw [hod] at hres
                    obtain ⟨o8, cap8, p8, rfl, hFr8, hK8, hre8, hlt8, hBt8⟩ := hres
                    exact ⟨n8, o8, cap8, none, rfl, hBt8, ⟨p8, hK8⟩, hFr8, .inl ⟨rfl, r2, p8, rfl, hre8, hlt8, hK8⟩⟩
                  | bad pos =>
                    rw [hod] at hres
                    obtain ⟨g, p8, rfl, hg8, hK8, hBt8⟩ := hres
                    exact ⟨.mk 0 [] 0 [] 0, none, 0, some ⟨g, 0, none⟩, rfl, hBt8, ⟨p8, hK8⟩, ⟨.inl rfl, by decide, by decide, by decide, by decide, by decide⟩, .inr ⟨g, pos, p8, rfl, hg8, rfl, hK8⟩⟩
                  | stuck => exact absurd hod HSt.out
                have hsz := HSz.out
                have hPW := HPW.out
                have hS7 := HS7.out
                have HT8 : Hid (Blk w8 w5.heap.size #[.int .i64 0, .string ⟨#[]⟩, .int .i64 0, .slice none 0 0, .int .i64 0] 28) := HT7.out.but (by omega) HBt.out
                have HO8 : Hid (Blk w8 wr.heap.size #[.int .i64 nd.kind, .string (bs nd.name), .int .i64 nd.num, .slice oi nd.kids.length ci, .int .i64 nd.pos] 28) := HO7.out.but (by omega) HBt.out
                have HBl8 : Hid (Blk w8 w1.heap.size #[.int .i64 left.kind, .string (bs left.name), .int .i64 left.num, .slice o2 left.kids.length cap2, .int .i64 left.pos] 28) := HBl7.out.but (by omega) HBt.out
                have HWo8 : Hid (w8.ownsRow (w1.heap.size + 1) 103 10 (.slice ow ps.length cw) ps.length (ps.flatMap Pd.vals)) := ownsB HWo7.out (fun k hk => by have h := HWo7.out.lt k hk; exact HBt.out.block k h.2 (by omega))
                have HL8 : Hid (∀ p8, RwOK R w8 p8 → LBase R W f w1.heap.size w8 p8) := fun p8 hk => HL7.out.butP hPW HBt.out hk
                have hsz8 : ((w5.setCell ⟨R.bP, 0, none⟩ (.int .i64 ((q : Int) + 1))).alloc (.cells #[.int .i64 0, .string ⟨#[]⟩, .int .i64 0, .slice none 0 0, .int .i64 0] 28)).heap.size ≤ w8.heap.size := HBt.out.size
                obtain ⟨W9, hW9⟩ : ∃ W9, (((((w8.setCell ⟨w5.heap.size, 0, none⟩ (.int .i64 n8.kind)).setCell ⟨w5.heap.size, 1, none⟩ (.string (bs n8.name))).setCell ⟨w5.heap.size, 2, none⟩ (.int .i64 n8.num)).setCell ⟨w5.heap.size, 3, none⟩ (.slice o8 n8.kids.length cap8)).setCell ⟨w5.heap.size, 4, none⟩ (.int .i64 n8.pos)) = W9 := ⟨_, rfl⟩
                have HW9 : Hid ((((((w8.setCell ⟨w5.heap.size, 0, none⟩ (.int .i64 n8.kind)).setCell ⟨w5.heap.size, 1, none⟩ (.string (bs n8.name))).setCell ⟨w5.heap.size, 2, none⟩ (.int .i64 n8.num)).setCell ⟨w5.heap.size, 3, none⟩ (.slice o8 n8.kids.length cap8)).setCell ⟨w5.heap.size, 4, none⟩ (.int .i64 n8.pos)) = W9) := hW9
                have hb9 : But w5.heap.size w8 W9 := by rw [← hW9]; exact but_sets5 w8 w5.heap.size (.int .i64 n8.kind) (.string (bs n8.name)) (.int .i64 n8.num) (.slice o8 n8.kids.length cap8) (.int .i64 n8.pos)
                have HL9 : Hid (∀ p8, RwOK R w8 p8 → LBase R W f w1.heap.size W9 p8) := fun p8 hk => by rw [← hW9]; exact (HL8.out p8 hk).set5 HRn.out w5.heap.size (by omega) (.int .i64 n8.kind) (.string (bs n8.name)) (.int .i64 n8.num) (.slice o8 n8.kids.length cap8) (.int .i64 n8.pos)
                have HBl9 : Hid (Blk W9 w1.heap.size #[.int .i64 left.kind, .string (bs left.name), .int .i64 left.num, .slice o2 left.kids.length cap2, .int .i64 left.pos] 28) := HBl8.out.but (by omega) hb9
                have HF9 : Hid (Fr (w1.heap.size + 1) W9 n8 o8 cap8) := HF8.out.keep (by omega) (fun k hk hlo => hb9.block k hk (by omega)) hb9.size
                have hs9 := hb9.size
                have HFl9 : Hid (Fr (w1.heap.size + 1) W9 left o2 cap2) := HFr.out.keep (Nat.le_refl _) (fun k hk hlo => by
                  have q1 := HB5.out.block k hk
                  have q2 := (but_set w5 R.bP 0 (.int .i64 ((q : Int) + 1))).block k (by omega) (by omega)
                  have q3 := ((Below.refl _ (w5.setCell ⟨R.bP, 0, none⟩ (.int .i64 ((q : Int) + 1)))).alloc (Nat.le_refl _) (.cells #[.int .i64 0, .string ⟨#[]⟩, .int .i64 0, .slice none 0 0, .int .i64 0] 28)).block k (by omega)
                  have q4 := HBt.out.block k (by omega) (by omega)
                  have q5 := hb9.block k (by omega) (by omega)
                  exact q5.trans (q4.trans (q3.trans (q2.trans q1)))) (by omega)
                have HWo9 : Hid (W9.ownsRow (w1.heap.size + 1) 103 10 (.slice ow ps.length cw) ps.length (ps.flatMap Pd.vals)) := ownsB HWo8.out (fun k hk => by have h := HWl.out k hk; exact hb9.block k (by omega) (by omega))
                have HCa : Hid (Calls Tryz.prog 61 #[.int .i64 R.kind, .agg #[.int .i64 nd.kind, .string (bs nd.name), .int .i64 nd.num, .slice oi nd.kids.length ci, .int .i64 nd.pos], .agg #[.int .i64 left.kind, .string (bs left.name), .int .i64 left.num, .slice o2 left.kids.length cap2, .int .i64 left.pos], .agg #[.int .i64 n8.kind, .string (bs n8.name), .int .i64 n8.num, .slice o8 n8.kids.length cap8, .int .i64 n8.pos]] W9 fun e w' => ∃ oa ca, e = .returned (.agg #[.int .i64 (appM R.kind nd left n8).kind, .string (bs (appM R.kind nd left n8).name), .int .i64 (appM R.kind nd left n8).num, .slice oa (appM R.kind nd left n8).kids.length ca, .int .i64 (appM R.kind nd left n8).pos]) ∧ Fr (w1.heap.size + 1) w' (appM R.kind nd left n8) oa ca ∧ Below W9.heap.size W9 w') := appliedF_c (w1.heap.size + 1) R.kind nd left n8 oi o2 o8 ci cap2 cap8 HNm.out W9 (by omega) ⟨.inl HKi.out, (HIn.out W9 0).2⟩ HFl9.out HF9.out
                have cK8 : w8.cell? ⟨R.bK, 0, none⟩ = some (.int .i64 R.kind) := by
                  obtain ⟨p8, hk8⟩ := HK8.out
                  exact hk8.k.cell 0 _ rfl
                have lK8 : R.bK < w5.heap.size := HL5.out.ok.k.lt
                have lK8b : R.bK < w8.heap.size := by omega
                have nT1 : R.bK ≠ w5.heap.size := by omega
                have nT2 : wr.heap.size ≠ w5.heap.size := by omega
                have nT3 : w1.heap.size ≠ w5.heap.size := by omega
                obtain ⟨t0, t1, t2, t3, t4, u0', u1', u2', u3', u4'⟩ := HT8.out.cells5F
                obtain ⟨r0, r1, r2', r3, r4, _, _, _, _, _⟩ := HO8.out.cells5F
                obtain ⟨s0, s1, s2, s3, s4, _, _, _, _, _⟩ := HBl8.out.cells5F
                have lt8 := HT8.out.lt
                have lo8 := HO8.out.lt
                have lb8 := HBl8.out.lt
                have HS9 : Hid (w8.heap.size ≤ W9.heap.size ∧ w5.heap.size < w8.heap.size) := ⟨hs9, lt8⟩
                clear hW9 hb9 hsz hPW hS7 hsz8 hs9 hres cRd lRd nP5 e0 e1 e2 x0 x1 x2 le lx cP5 fP5 lP5 nP1 nP2
                go_wp2_with (go_at_call 61; fail)
                rw [HW9.out]
                refine HCa.out.mono ?_
                rintro e w10 ⟨oa, ca, rfl, hFa, hba⟩
                have HBl10 : Hid (Blk w10 w1.heap.size #[.int .i64 left.kind, .string (bs left.name), .int .i64 left.num, .slice o2 left.kids.length cap2, .int .i64 left.pos] 28) := HBl9.out.below hba
                have HLV : Hid (LInv R rd m f p W w1.heap.size (.slice ow ps.length cw) (.pointer ft8) (((((w10.setCell ⟨w1.heap.size, 0, none⟩ (.int .i64 (appM R.kind nd left n8).kind)).setCell ⟨w1.heap.size, 1, none⟩ (.string (bs (appM R.kind nd left n8).name))).setCell ⟨w1.heap.size, 2, none⟩ (.int .i64 (appM R.kind nd left n8).num)).setCell ⟨w1.heap.size, 3, none⟩ (.slice oa (appM R.kind nd left n8).kids.length ca)).setCell ⟨w1.heap.size, 4, none⟩ (.int .i64 (appM R.kind nd left n8).pos)) ∧ measR R (.pointer ft8) (((((w10.setCell ⟨w1.heap.size, 0, none⟩ (.int .i64 (appM R.kind nd left n8).kind)).setCell ⟨w1.heap.size, 1, none⟩ (.string (bs (appM R.kind nd left n8).name))).setCell ⟨w1.heap.size, 2, none⟩ (.int .i64 (appM R.kind nd left n8).num)).setCell ⟨w1.heap.size, 3, none⟩ (.slice oa (appM R.kind nd left n8).kids.length ca)).setCell ⟨w1.heap.size, 4, none⟩ (.int .i64 (appM R.kind nd left n8).pos)) < measR R (.pointer none) wr) := by
                  have hsz := HSz.out
                  have hPW := HPW.out
                  have hM0 := measR_none HL1.out.ok
                  have hK11 := HBl10.out.sets5F (.int .i64 (appM R.kind nd left n8).kind) (.string (bs (appM R.kind nd left n8).name)) (.int .i64 (appM R.kind nd left n8).num) (.slice oa (appM R.kind nd left n8).kids.length ca) (.int .i64 (appM R.kind nd left n8).pos)
                  have hb11 := but_sets5 w10 w1.heap.size (.int .i64 (appM R.kind nd left n8).kind) (.string (bs (appM R.kind nd left n8).name)) (.int .i64 (appM R.kind nd left n8).num) (.slice oa (appM R.kind nd left n8).kids.length ca) (.int .i64 (appM R.kind nd left n8).pos)
                  have hLs : ∀ p8, RwOK R w8 p8 → LBase R W f w1.heap.size (((((w10.setCell ⟨w1.heap.size, 0, none⟩ (.int .i64 (appM R.kind nd left n8).kind)).setCell ⟨w1.heap.size, 1, none⟩ (.string (bs (appM R.kind nd left n8).name))).setCell ⟨w1.heap.size, 2, none⟩ (.int .i64 (appM R.kind nd left n8).num)).setCell ⟨w1.heap.size, 3, none⟩ (.slice oa (appM R.kind nd left n8).kids.length ca)).setCell ⟨w1.heap.size, 4, none⟩ (.int .i64 (appM R.kind nd left n8).pos)) p8 := fun p8 hk => ((HL9.out p8 hk).below hba).set5 HRn.out w1.heap.size hsz.1 (.int .i64 (appM R.kind nd left n8).kind) (.string (bs (appM R.kind nd left n8).name)) (.int .i64 (appM R.kind nd left n8).num) (.slice oa (appM R.kind nd left n8).kids.length ca) (.int .i64 (appM R.kind nd left n8).pos)
                  generalize (((((w10.setCell ⟨w1.heap.size, 0, none⟩ (.int .i64 (appM R.kind nd left n8).kind)).setCell ⟨w1.heap.size, 1, none⟩ (.string (bs (appM R.kind nd left n8).name))).setCell ⟨w1.heap.size, 2, none⟩ (.int .i64 (appM R.kind nd left n8).num)).setCell ⟨w1.heap.size, 3, none⟩ (.slice oa (appM R.kind nd left n8).kids.length ca)).setCell ⟨w1.heap.size, 4, none⟩ (.int .i64 (appM R.kind nd left n8).pos)) = WF at hK11 hb11 hLs ⊢
                  rcases HM8.out with ⟨rfl, r2, p8, hod, hre, hlt8, hk8⟩ | ⟨g, pos, p8, rfl, hg, hod, hk8⟩
                  · have hL11 := hLs p8 hk8
                    have hle := hL11.ok.hle
                    refine ⟨.inl ⟨mm, (appM R.kind nd left n8), oa, ca, ps, ow, cw, p8, rfl, rfl, hL11, hK11, hFa.keep (Nat.le_refl _) (fun k hk hlo => hb11.block k hk (by omega)) hb11.size, ⟨?_, HWt.out.2⟩, ?_, ?_, ?_⟩, ?_⟩
                    · exact ownsB HWo9.out (fun k hk => by have h := HWl.out k hk; have h9 := HS9.out; exact (hb11.block k (by have := hba.size; omega) (by omega)).trans (hba.block k (by omega)))
                    · have := HWq.out.1; omega
                    · have := HWq.out.2; omega
                    · rw [HEq3.out, hod]
                      show loopM rd R.kind (holdM R.fs) f mm (appM R.kind nd left n8) _ r2 = _
                      rw [hre]
                    · rw [hM0, measR_none hL11.ok]; omega
                  · have hL11 := hLs p8 hk8
                    have hg9 : Blk W9 g #[.int .i64 7, .int .i64 pos] 33 := by rw [← HW9.out]; exact hg.but (blk_ne25 hg HT8.out) (but_sets5 w8 w5.heap.size (.int .i64 n8.kind) (.string (bs n8.name)) (.int .i64 n8.num) (.slice o8 n8.kids.length cap8) (.int .i64 n8.pos))
                    refine ⟨.inr ⟨g, pos, p8, ow, _, cw, rfl, rfl, hL11, (hg9.below hba).but (blk_ne25 (hg9.below hba) HBl10.out) hb11, ?_⟩, ?_⟩
                    · rw [HEq3.out, hod]; rfl
                    · rw [hM0]; show 0 < _; omega
                obtain ⟨l90, l91, l92, l93, l94, f90, f91, f92, f93, f94⟩ := HBl10.out.cells5F
                have ll9 := HBl10.out.lt
                clear hFa hba cK8 lK8 lK8b nT1 nT2 nT3 t0 t1 t2 t3 t4 u0' u1' u2' u3' u4' r0 r1 r2' r3 r4 s0 s1 s2 s3 s4 lt8 lo8 lb8
                go_wp2
                go_roundw
                case rel => exact HLV.out.1
                case measure => exact HLV.out.2
      · have hd0 : R.its.drop q = [] := List.drop_eq_nil_of_le (by omega)
        obtain ⟨mm, rfl⟩ : ∃ k, mm = k + 1 := by
          cases mm with
          | zero => exact absurd (hEq.trans rfl) hne
          | succ k => exact ⟨k, rfl⟩
        have HE : Hid (rdStep R rd m f (R.its.drop p) = .ok (unw R.kind (ps.reverse.map (fun x => (x.l, x.op))) left) (R.its.drop q)) := by show _ = _; rw [hEq, hd0]; rfl
        have HL1 : Hid (LBase R W f w1.heap.size wr q) := hL
        have HBl : Hid (Blk wr w1.heap.size #[.int .i64 left.kind, .string (bs left.name), .int .i64 left.num, .slice o2 left.kids.length cap2, .int .i64 left.pos] 28) := hbl
        have HFr : Hid (Fr (w1.heap.size + 1) wr left o2 cap2) := hFr
        have HWo : Hid (wr.ownsRow (w1.heap.size + 1) 103 10 (.slice ow ps.length cw) ps.length (ps.flatMap Pd.vals)) := hWt.1
        have HWp : Hid (∀ x ∈ ps, PdOK x) := hWt.2
        have HWq : Hid (ps.length ≤ q ∧ p < q) := ⟨hpl, hpq⟩
        have cP : wr.cell? ⟨R.bP, 0, none⟩ = some (.int .i64 (q : Int)) := hL.ok.pl.cell 0 _ rfl
        have cRow : wr.cell? ⟨R.bRow, 0, none⟩ = some (.slice (some ⟨R.g, R.off, none⟩) R.its.length R.cap) := hL.ok.row.cell 0 _ rfl
        have lP := hL.ok.pl.lt
        have lRow := hL.ok.row.lt
        have hqf : decide (q < R.its.length) = false := decide_eq_false hq
        have hql : (R.its.length : Int) ≤ 1000000000 := by have := hL.ok.len; omega
        clear hEq hL hbl hFr hWt hpl hpq hd0 hq
        have HBk : Hid (Calls Tryz.prog 62 #[.slice ow ps.length cw] wr fun e w' => e = .returned (.func (.func 77) #[] #[.pointer (some ⟨wr.heap.size, 0, none⟩)]) ∧ w' = wr.alloc (.cells #[.slice ow ps.length cw] 99)) := backp_c ow ps.length cw wr
        go_wp2_with (go_at_call 62; fail)
        refine HBk.out.mono ?_
        rintro e W0 ⟨rfl, hW0⟩
        have hb0 : Below wr.heap.size wr W0 := by rw [hW0]; exact (Below.refl _ _).alloc (Nat.le_refl _) _
        have HS0 : Hid (W0.heap.size = wr.heap.size + 1 ∧ w1.heap.size < wr.heap.size ∧ W.heap.size + 2 ≤ w1.heap.size ∧ R.n ≤ W.heap.size) := ⟨by rw [hW0]; simp, HL1.out.hi, HL1.out.lo, HRn.out⟩
        have HBs : Hid (Blk W0 wr.heap.size #[.slice ow ps.length cw] 99) := by show Blk _ _ _ _; rw [hW0]; exact Blk.new _ _ _
        have HU0 : Hid (UInv R W w1.heap.size q left [] W0) := UInv.below ⟨o2, cap2, HBl.out, HFr.out, HL1.out.ok, HL1.out.zb, HL1.out.but⟩ hb0
        have HOw : Hid (W0.ownsRow (w1.heap.size + 1) 103 10 (.slice ow ps.length cw) ps.length (ps.flatMap Pd.vals)) := ownsB HWo.out (fun k hk => hb0.block k (HWo.out.lt k hk).2)
        have HPl : Hid (ps.length ≤ 1000000000) := by
          show _ ≤ _
          have h1 := HWq.out.1
          have h2 := HL1.out.ok.hle
          have h3 := HL1.out.ok.len
          omega
        have HRt : Hid (∀ V : World, ∀ o cap, Fr W.heap.size V (unw R.kind (ps.reverse.map (fun x => (x.l, x.op))) left) o cap → RwOK R V q → But R.bP W V → RdRes R p W V (.returned (.tuple #[.agg #[.int .i64 (unw R.kind (ps.reverse.map (fun x => (x.l, x.op))) left).kind, .string (bs (unw R.kind (ps.reverse.map (fun x => (x.l, x.op))) left).name), .int .i64 (unw R.kind (ps.reverse.map (fun x => (x.l, x.op))) left).num, .slice o (unw R.kind (ps.reverse.map (fun x => (x.l, x.op))) left).kids.length cap, .int .i64 (unw R.kind (ps.reverse.map (fun x => (x.l, x.op))) left).pos], .pointer none])) (rdStep R rd m f (R.its.drop p))) := by
          intro V o cap h1 h2 h3
          rw [HE.out]
          exact ⟨o, cap, q, rfl, h1, h2, rfl, HWq.out.2, h3⟩
        clear hb0 hW0 HBk
        go_wp2
        refine (wpIn_wide (n := 9)).1 ?_
        refine wpIn_rangeFunc_box (F := Fence.wide) (n := 9) rfl (by decide) (gf := 77) (lb := #[.pointer (some ⟨wr.heap.size, 0, none⟩)]) rfl trivial (enters_of Tryz.func77 (by kernel_rfl) rfl)
          (backp_stops Fence.wide (9 - 1) (fun _ => trivial) rfl (by omega) wr.heap.size ps (by have := HPl.out; omega) ow cw (fun b => b = wr.heap.size ∨ (Value.slice ow ps.length cw).ownBlock = some b) (.inl rfl) W0 HBs.out.lt (HBs.out.cell 0 _ rfl) (by
            rcases own_pd HOw.out with h | ⟨g, h1, h2, h3⟩
            · exact .inl h
            · exact .inr ⟨g, 0, h1, .inr (by rw [h1]; rfl), h2, h3⟩)) KpS.trans (fun W l o o' hl => KpS.put (w := W0) W l o o' hl) (Below.refl _ _) (fun _ => rfl)
          (fun pre X' => UInv R W w1.heap.size q left (pre.map (fun x : Fin ps.length => ps[x])) X')
          (fun pre A B row hs hgr hr => hs.kept (N := W0.heap.size) (by have := HS0.out; omega) (by have := HS0.out; omega) hgr hr)
          HU0.out (fun x => #[.int .i64 ps[x].l.kind, .string (bs ps[x].l.name), .int .i64 ps[x].l.num, .slice ps[x].ol ps[x].l.kids.length ps[x].cl, .int .i64 ps[x].l.pos, .int .i64 ps[x].op.kind, .string (bs ps[x].op.name), .int .i64 ps[x].op.num, .slice ps[x].oo ps[x].op.kids.length ps[x].co, .int .i64 ps[x].op.pos]) 103 ?frameB ?assignB ?bodyB ?doneB
        case assignB =>
          rintro l pre x X' K hU hK
          have hb : Below X'.heap.size X' (X'.alloc (.cells #[.int .i64 ps[x].l.kind, .string (bs ps[x].l.name), .int .i64 ps[x].l.num, .slice ps[x].ol ps[x].l.kids.length ps[x].cl, .int .i64 ps[x].l.pos, .int .i64 ps[x].op.kind, .string (bs ps[x].op.name), .int .i64 ps[x].op.num, .slice ps[x].oo ps[x].op.kids.length ps[x].co, .int .i64 ps[x].op.pos] 103)) := (Below.refl _ _).alloc (Nat.le_refl _) _
          gi_wp2
          obtain ⟨Bx, hBx⟩ : ∃ Bx, X'.heap.size = Bx := ⟨_, rfl⟩
          have hbk : Blk (X'.alloc (.cells #[.int .i64 ps[x].l.kind, .string (bs ps[x].l.name), .int .i64 ps[x].l.num, .slice ps[x].ol ps[x].l.kids.length ps[x].cl, .int .i64 ps[x].l.pos, .int .i64 ps[x].op.kind, .string (bs ps[x].op.name), .int .i64 ps[x].op.num, .slice ps[x].oo ps[x].op.kids.length ps[x].co, .int .i64 ps[x].op.pos] 103)) Bx #[.int .i64 ps[x].l.kind, .string (bs ps[x].l.name), .int .i64 ps[x].l.num, .slice ps[x].ol ps[x].l.kids.length ps[x].cl, .int .i64 ps[x].l.pos, .int .i64 ps[x].op.kind, .string (bs ps[x].op.name), .int .i64 ps[x].op.num, .slice ps[x].oo ps[x].op.kids.length ps[x].co, .int .i64 ps[x].op.pos] 103 := by rw [← hBx]; exact Blk.new _ _ _
          rw [hBx]
          exact hK _ Bx ((KeepsOthers.alloc _ _).from _) (KpS.alloc _ _ _) (hU.below hb) hbk
        case bodyB =>
          rintro l pre x Bx X' hU hBk hlt
          obtain ⟨o9, cap9, v1, v2, v3, v4, v5⟩ := hU
          obtain ⟨cur, hcur⟩ : ∃ cur, List.foldl (fun acc x => appM R.kind x.op x.l acc) left (pre.map (fun x : Fin ps.length => ps[x])) = cur := ⟨_, rfl⟩
          rw [hcur] at v1 v2
          have hPx := HWp.out ps[x] (List.getElem_mem _)
          have HEnd : Hid (∀ (w9 : World) (oa : Option Addr) (ca : Nat), Fr (w1.heap.size + 1) w9 (appM R.kind ps[x].op ps[x].l cur) oa ca → Below X'.heap.size X' w9 → KeepsFrom W0.heap.size X' (((((w9.setCell ⟨w1.heap.size, 0, none⟩ (.int .i64 (appM R.kind ps[x].op ps[x].l cur).kind)).setCell ⟨w1.heap.size, 1, none⟩ (.string (bs (appM R.kind ps[x].op ps[x].l cur).name))).setCell ⟨w1.heap.size, 2, none⟩ (.int .i64 (appM R.kind ps[x].op ps[x].l cur).num)).setCell ⟨w1.heap.size, 3, none⟩ (.slice oa (appM R.kind ps[x].op ps[x].l cur).kids.length ca)).setCell ⟨w1.heap.size, 4, none⟩ (.int .i64 (appM R.kind ps[x].op ps[x].l cur).pos)) ∧ KpS (fun b => b = wr.heap.size ∨ (Value.slice ow ps.length cw).ownBlock = some b) X' (((((w9.setCell ⟨w1.heap.size, 0, none⟩ (.int .i64 (appM R.kind ps[x].op ps[x].l cur).kind)).setCell ⟨w1.heap.size, 1, none⟩ (.string (bs (appM R.kind ps[x].op ps[x].l cur).name))).setCell ⟨w1.heap.size, 2, none⟩ (.int .i64 (appM R.kind ps[x].op ps[x].l cur).num)).setCell ⟨w1.heap.size, 3, none⟩ (.slice oa (appM R.kind ps[x].op ps[x].l cur).kids.length ca)).setCell ⟨w1.heap.size, 4, none⟩ (.int .i64 (appM R.kind ps[x].op ps[x].l cur).pos)) ∧ UInv R W w1.heap.size q left ((pre ++ [x]).map (fun x : Fin ps.length => ps[x])) (((((w9.setCell ⟨w1.heap.size, 0, none⟩ (.int .i64 (appM R.kind ps[x].op ps[x].l cur).kind)).setCell ⟨w1.heap.size, 1, none⟩ (.string (bs (appM R.kind ps[x].op ps[x].l cur).name))).setCell ⟨w1.heap.size, 2, none⟩ (.int .i64 (appM R.kind ps[x].op ps[x].l cur).num)).setCell ⟨w1.heap.size, 3, none⟩ (.slice oa (appM R.kind ps[x].op ps[x].l cur).kids.length ca)).setCell ⟨w1.heap.size, 4, none⟩ (.int .i64 (appM R.kind ps[x].op ps[x].l cur).pos))) := by
            intro w9 oa ca hFa hba
            have hs0 := HS0.out
            have hko : KeepsOthers X' (((((w9.setCell ⟨w1.heap.size, 0, none⟩ (.int .i64 (appM R.kind ps[x].op ps[x].l cur).kind)).setCell ⟨w1.heap.size, 1, none⟩ (.string (bs (appM R.kind ps[x].op ps[x].l cur).name))).setCell ⟨w1.heap.size, 2, none⟩ (.int .i64 (appM R.kind ps[x].op ps[x].l cur).num)).setCell ⟨w1.heap.size, 3, none⟩ (.slice oa (appM R.kind ps[x].op ps[x].l cur).kids.length ca)).setCell ⟨w1.heap.size, 4, none⟩ (.int .i64 (appM R.kind ps[x].op ps[x].l cur).pos)) := (KeepsOthers.ofBelow hba).trans (((((KeepsOthers.setCell _ _ _).trans (KeepsOthers.setCell _ _ _)).trans (KeepsOthers.setCell _ _ _)).trans (KeepsOthers.setCell _ _ _)).trans (KeepsOthers.setCell _ _ _))
            have hK9 := (v1.below hba).sets5F (.int .i64 (appM R.kind ps[x].op ps[x].l cur).kind) (.string (bs (appM R.kind ps[x].op ps[x].l cur).name)) (.int .i64 (appM R.kind ps[x].op ps[x].l cur).num) (.slice oa (appM R.kind ps[x].op ps[x].l cur).kids.length ca) (.int .i64 (appM R.kind ps[x].op ps[x].l cur).pos)
            have hb9 := but_sets5 w9 w1.heap.size (.int .i64 (appM R.kind ps[x].op ps[x].l cur).kind) (.string (bs (appM R.kind ps[x].op ps[x].l cur).name)) (.int .i64 (appM R.kind ps[x].op ps[x].l cur).num) (.slice oa (appM R.kind ps[x].op ps[x].l cur).kids.length ca) (.int .i64 (appM R.kind ps[x].op ps[x].l cur).pos)
            generalize (((((w9.setCell ⟨w1.heap.size, 0, none⟩ (.int .i64 (appM R.kind ps[x].op ps[x].l cur).kind)).setCell ⟨w1.heap.size, 1, none⟩ (.string (bs (appM R.kind ps[x].op ps[x].l cur).name))).setCell ⟨w1.heap.size, 2, none⟩ (.int .i64 (appM R.kind ps[x].op ps[x].l cur).num)).setCell ⟨w1.heap.size, 3, none⟩ (.slice oa (appM R.kind ps[x].op ps[x].l cur).kids.length ca)).setCell ⟨w1.heap.size, 4, none⟩ (.int .i64 (appM R.kind ps[x].op ps[x].l cur).pos)) = WF at hko hK9 hb9 ⊢
            have e1 : List.foldl (fun acc x => appM R.kind x.op x.l acc) left ((pre ++ [x]).map (fun x : Fin ps.length => ps[x])) = appM R.kind ps[x].op ps[x].l cur := by
              rw [List.map_append, List.foldl_append, hcur]; rfl
            refine ⟨hko.from _, fun b off v hb e => ?_, oa, ca, by rw [e1]; exact hK9, by rw [e1]; exact hFa.keep (Nat.le_refl _) (fun k hk hlo => hb9.block k hk (by omega)) hb9.size, (v3.below hba).belowN (hb9.below (by omega) (by have := (v3.below hba).hn; omega)), (v4.below hba).but (by omega) hb9, (v5.trans (but_below hba _)).trans2 hb9 (by omega)⟩
            have hlt := cell_lt e
            have hne : b ≠ w1.heap.size := by
              rcases hb with rfl | hb
              · omega
              · have := HOw.out.lt b hb; omega
            exact (hb9.cell b off (Nat.lt_of_lt_of_le hlt hba.size) hne).trans ((hba.cell (p := ⟨b, off, none⟩) hlt).trans e)
          have HCa : Hid (Calls Tryz.prog 61 #[.int .i64 R.kind, .agg #[.int .i64 ps[x].op.kind, .string (bs ps[x].op.name), .int .i64 ps[x].op.num, .slice ps[x].oo ps[x].op.kids.length ps[x].co, .int .i64 ps[x].op.pos], .agg #[.int .i64 ps[x].l.kind, .string (bs ps[x].l.name), .int .i64 ps[x].l.num, .slice ps[x].ol ps[x].l.kids.length ps[x].cl, .int .i64 ps[x].l.pos], .agg #[.int .i64 cur.kind, .string (bs cur.name), .int .i64 cur.num, .slice o9 cur.kids.length cap9, .int .i64 cur.pos]] X' fun e w' => ∃ oa ca, e = .returned (.agg #[.int .i64 (appM R.kind ps[x].op ps[x].l cur).kind, .string (bs (appM R.kind ps[x].op ps[x].l cur).name), .int .i64 (appM R.kind ps[x].op ps[x].l cur).num, .slice oa (appM R.kind ps[x].op ps[x].l cur).kids.length ca, .int .i64 (appM R.kind ps[x].op ps[x].l cur).pos]) ∧ Fr (w1.heap.size + 1) w' (appM R.kind ps[x].op ps[x].l cur) oa ca ∧ Below X'.heap.size X' w') := appliedF_c (w1.heap.size + 1) R.kind ps[x].op ps[x].l cur ps[x].oo ps[x].ol o9 ps[x].co ps[x].cl cap9 hPx.2.2.1 X' v1.lt ⟨.inl hPx.2.1, (hPx.2.2.2 X' 0).2.2⟩ ⟨.inl hPx.1, (hPx.2.2.2 X' 0).1.2⟩ v2
          have cK : X'.cell? ⟨R.bK, 0, none⟩ = some (.int .i64 R.kind) := v3.k.cell 0 _ rfl
          have lK := v3.k.lt
          have HV1 : Hid (Blk X' w1.heap.size #[.int .i64 cur.kind, .string (bs cur.name), .int .i64 cur.num, .slice o9 cur.kids.length cap9, .int .i64 cur.pos] 28) := v1
          obtain ⟨l0, l1, l2, l3, l4, _, _, _, _, _⟩ := v1.cells5F
          have ll := v1.lt
          have lB := hBk.lt
          have d0 := hBk.cell 0 _ rfl
          have d1 := hBk.cell 1 _ rfl
          have d2 := hBk.cell 2 _ rfl
          have d3 := hBk.cell 3 _ rfl
          have d4 := hBk.cell 4 _ rfl
          have d5 := hBk.cell 5 _ rfl
          have d6 := hBk.cell 6 _ rfl
          have d7 := hBk.cell 7 _ rfl
          have d8 := hBk.cell 8 _ rfl
          have d9 := hBk.cell 9 _ rfl
          clear v1 v2 v3 v4 v5 hcur hPx hBk hlt
          generalize ps[x] = px at *
          gi_wp2_with (first | (refine ⟨trivial, ?_⟩; gi_at_call 61; refine (CallsIn.inRound l (callsIn_wide.2 HCa.out)).mono ?_; rintro e w9 ⟨oa, ca, rfl, hFa, hba⟩; obtain ⟨q0, q1, q2, q3, q4, f0, f1, f2, f3, f4⟩ := (HV1.out.below hba).cells5F; have lq := (HV1.out.below hba).lt; have HZ9 : Hid (KeepsFrom W0.heap.size X' (((((w9.setCell ⟨w1.heap.size, 0, none⟩ (.int .i64 (appM R.kind px.op px.l cur).kind)).setCell ⟨w1.heap.size, 1, none⟩ (.string (bs (appM R.kind px.op px.l cur).name))).setCell ⟨w1.heap.size, 2, none⟩ (.int .i64 (appM R.kind px.op px.l cur).num)).setCell ⟨w1.heap.size, 3, none⟩ (.slice oa (appM R.kind px.op px.l cur).kids.length ca)).setCell ⟨w1.heap.size, 4, none⟩ (.int .i64 (appM R.kind px.op px.l cur).pos)) ∧ KpS (fun b => b = wr.heap.size ∨ (Value.slice ow ps.length cw).ownBlock = some b) X' (((((w9.setCell ⟨w1.heap.size, 0, none⟩ (.int .i64 (appM R.kind px.op px.l cur).kind)).setCell ⟨w1.heap.size, 1, none⟩ (.string (bs (appM R.kind px.op px.l cur).name))).setCell ⟨w1.heap.size, 2, none⟩ (.int .i64 (appM R.kind px.op px.l cur).num)).setCell ⟨w1.heap.size, 3, none⟩ (.slice oa (appM R.kind px.op px.l cur).kids.length ca)).setCell ⟨w1.heap.size, 4, none⟩ (.int .i64 (appM R.kind px.op px.l cur).pos)) ∧ UInv R W w1.heap.size q left ((pre ++ [x]).map (fun x : Fin ps.length => ps[x])) (((((w9.setCell ⟨w1.heap.size, 0, none⟩ (.int .i64 (appM R.kind px.op px.l cur).kind)).setCell ⟨w1.heap.size, 1, none⟩ (.string (bs (appM R.kind px.op px.l cur).name))).setCell ⟨w1.heap.size, 2, none⟩ (.int .i64 (appM R.kind px.op px.l cur).num)).setCell ⟨w1.heap.size, 3, none⟩ (.slice oa (appM R.kind px.op px.l cur).kids.length ca)).setCell ⟨w1.heap.size, 4, none⟩ (.int .i64 (appM R.kind px.op px.l cur).pos))) := HEnd.out w9 oa ca hFa hba; clear hFa hba) | (gi_at_call 61; refine (CallsIn.inRound l (callsIn_wide.2 HCa.out)).mono ?_; rintro e w9 ⟨oa, ca, rfl, hFa, hba⟩; obtain ⟨q0, q1, q2, q3, q4, f0, f1, f2, f3, f4⟩ := (HV1.out.below hba).cells5F; have lq := (HV1.out.below hba).lt; have HZ9 : Hid (KeepsFrom W0.heap.size X' (((((w9.setCell ⟨w1.heap.size, 0, none⟩ (.int .i64 (appM R.kind px.op px.l cur).kind)).setCell ⟨w1.heap.size, 1, none⟩ (.string (bs (appM R.kind px.op px.l cur).name))).setCell ⟨w1.heap.size, 2, none⟩ (.int .i64 (appM R.kind px.op px.l cur).num)).setCell ⟨w1.heap.size, 3, none⟩ (.slice oa (appM R.kind px.op px.l cur).kids.length ca)).setCell ⟨w1.heap.size, 4, none⟩ (.int .i64 (appM R.kind px.op px.l cur).pos)) ∧ KpS (fun b => b = wr.heap.size ∨ (Value.slice ow ps.length cw).ownBlock = some b) X' (((((w9.setCell ⟨w1.heap.size, 0, none⟩ (.int .i64 (appM R.kind px.op px.l cur).kind)).setCell ⟨w1.heap.size, 1, none⟩ (.string (bs (appM R.kind px.op px.l cur).name))).setCell ⟨w1.heap.size, 2, none⟩ (.int .i64 (appM R.kind px.op px.l cur).num)).setCell ⟨w1.heap.size, 3, none⟩ (.slice oa (appM R.kind px.op px.l cur).kids.length ca)).setCell ⟨w1.heap.size, 4, none⟩ (.int .i64 (appM R.kind px.op px.l cur).pos)) ∧ UInv R W w1.heap.size q left ((pre ++ [x]).map (fun x : Fin ps.length => ps[x])) (((((w9.setCell ⟨w1.heap.size, 0, none⟩ (.int .i64 (appM R.kind px.op px.l cur).kind)).setCell ⟨w1.heap.size, 1, none⟩ (.string (bs (appM R.kind px.op px.l cur).name))).setCell ⟨w1.heap.size, 2, none⟩ (.int .i64 (appM R.kind px.op px.l cur).num)).setCell ⟨w1.heap.size, 3, none⟩ (.slice oa (appM R.kind px.op px.l cur).kids.length ca)).setCell ⟨w1.heap.size, 4, none⟩ (.int .i64 (appM R.kind px.op px.l cur).pos))) := HEnd.out w9 oa ca hFa hba; clear hFa hba))
          exact HZ9.out
        case doneB =>
          rintro D ys X' hD rfl hU hK
          rw [dn_rev] at hU
          obtain ⟨o9, cap9, v1, v2, v3, v4, v5⟩ := hU
          rw [← unw_fold] at v1 v2
          obtain ⟨cur, hcur⟩ : ∃ cur, unw R.kind (ps.reverse.map (fun x => (x.l, x.op))) left = cur := ⟨_, rfl⟩
          rw [hcur] at v1 v2 HRt
          have hs0 := HS0.out
          have HEnd : Hid ((((((X'.setCell ⟨W.heap.size + 1, 0, none⟩ (.int .i64 cur.kind)).setCell ⟨W.heap.size + 1, 1, none⟩ (.string (bs cur.name))).setCell ⟨W.heap.size + 1, 2, none⟩ (.int .i64 cur.num)).setCell ⟨W.heap.size + 1, 3, none⟩ (.slice o9 cur.kids.length cap9)).setCell ⟨W.heap.size + 1, 4, none⟩ (.int .i64 cur.pos)).heap[D]? = some (.deferred (some [])) ∧ Blk ((((((X'.setCell ⟨W.heap.size + 1, 0, none⟩ (.int .i64 cur.kind)).setCell ⟨W.heap.size + 1, 1, none⟩ (.string (bs cur.name))).setCell ⟨W.heap.size + 1, 2, none⟩ (.int .i64 cur.num)).setCell ⟨W.heap.size + 1, 3, none⟩ (.slice o9 cur.kids.length cap9)).setCell ⟨W.heap.size + 1, 4, none⟩ (.int .i64 cur.pos)).putObj D (.deferred none)) (W.heap.size + 1) #[.int .i64 cur.kind, .string (bs cur.name), .int .i64 cur.num, .slice o9 cur.kids.length cap9, .int .i64 cur.pos] 28 ∧ RdRes R p W ((((((X'.setCell ⟨W.heap.size + 1, 0, none⟩ (.int .i64 cur.kind)).setCell ⟨W.heap.size + 1, 1, none⟩ (.string (bs cur.name))).setCell ⟨W.heap.size + 1, 2, none⟩ (.int .i64 cur.num)).setCell ⟨W.heap.size + 1, 3, none⟩ (.slice o9 cur.kids.length cap9)).setCell ⟨W.heap.size + 1, 4, none⟩ (.int .i64 cur.pos)).putObj D (.deferred none)) (.returned (.tuple #[.agg #[.int .i64 cur.kind, .string (bs cur.name), .int .i64 cur.num, .slice o9 cur.kids.length cap9, .int .i64 cur.pos], .pointer none])) (rdStep R rd m f (R.its.drop p))) := by
            have hZ := v4.sets5F (.int .i64 cur.kind) (.string (bs cur.name)) (.int .i64 cur.num) (.slice o9 cur.kids.length cap9) (.int .i64 cur.pos)
            have hbZ := but_sets5 X' (W.heap.size + 1) (.int .i64 cur.kind) (.string (bs cur.name)) (.int .i64 cur.num) (.slice o9 cur.kids.length cap9) (.int .i64 cur.pos)
            generalize (((((X'.setCell ⟨W.heap.size + 1, 0, none⟩ (.int .i64 cur.kind)).setCell ⟨W.heap.size + 1, 1, none⟩ (.string (bs cur.name))).setCell ⟨W.heap.size + 1, 2, none⟩ (.int .i64 cur.num)).setCell ⟨W.heap.size + 1, 3, none⟩ (.slice o9 cur.kids.length cap9)).setCell ⟨W.heap.size + 1, 4, none⟩ (.int .i64 cur.pos)) = WZ at hZ hbZ ⊢
            have hDl : D < X'.heap.size := (Array.getElem?_eq_some_iff.1 hK).1
            have hKZ : WZ.heap[D]? = some (.deferred (some [])) := (hbZ.block D hDl (by omega)).trans hK
            have hgp := grownBy_putObj' WZ D (.deferred none)
            have hrow : ∀ r, some D = some r → ∃ o : Obj, WZ.heap[r]? = some o ∧ o.isCells = false := fun r e => by cases e; exact ⟨_, hKZ, rfl⟩
            have hsz := hgp.size
            refine ⟨hKZ, blk_kept hZ hgp hrow, HRt.out _ o9 cap9 ?_ ?_ ?_⟩
            · exact ((v2.keep (lo' := W.heap.size) (by omega) (fun k hk hlo => hbZ.block k hk (by omega)) hbZ.size).kept hgp hrow)
            · have h3 := v3.belowN (hbZ.below (by omega) (by have := v3.hn; omega))
              exact h3.belowN ⟨hgp.os, hgp.tape, hgp.output, hsz, fun k hk => hgp.block k (by have := h3.hn; omega) (fun e => by cases e; omega)⟩
            · have h5 := v5.trans2 hbZ (by omega)
              exact ⟨hgp.os.trans h5.os, hgp.tape.trans h5.tape, hgp.output.trans h5.output, Nat.le_trans h5.size hsz, fun j hj hne => (hgp.block j (by have := h5.size; omega) (fun e => by cases e; omega)).trans (h5.block j hj hne)⟩
          obtain ⟨l0, l1, l2, l3, l4, _, _, _, _, _⟩ := v1.cells5F
          have ll := v1.lt
          obtain ⟨z0, z1, z2, z3, z4, y0, y1, y2, y3, y4⟩ := v4.cells5F
          have lz := v4.lt
          clear v1 v2 v3 v4 v5 hcur hK hs0
          go_wp2
          obtain ⟨hk1, hk2, hk3⟩ := HEnd.out
          refine ⟨by simp, .inl ⟨_, _, rfl, run_takeDeferred hk1, ?_⟩⟩
          generalize ((((((X'.setCell ⟨W.heap.size + 1, 0, none⟩ (.int .i64 cur.kind)).setCell ⟨W.heap.size + 1, 1, none⟩ (.string (bs cur.name))).setCell ⟨W.heap.size + 1, 2, none⟩ (.int .i64 cur.num)).setCell ⟨W.heap.size + 1, 3, none⟩ (.slice o9 cur.kids.length cap9)).setCell ⟨W.heap.size + 1, 4, none⟩ (.int .i64 cur.pos)).putObj D (.deferred none)) = WF at hk2 hk3 ⊢
          obtain ⟨g0, g1, g2, g3, g4, _, _, _, _, _⟩ := hk2.cells5F
          exact ⟨.tuple #[.agg #[.int .i64 cur.kind, .string (bs cur.name), .int .i64 cur.num, .slice o9 cur.kids.length cap9, .int .i64 cur.pos], .pointer none], by simp [results, Tryz.results57, go_sem, g0, g1, g2, g3, g4], hk3⟩
    · have HL2 : Hid (LBase R W f w1.heap.size wr q) := hL
      have HE : Hid (rdStep R rd m f (R.its.drop p) = .bad pos) := hEq
      have HG2 : Hid (Blk wr g #[.int .i64 7, .int .i64 pos] 33) := hg
      clear hL hEq hg
      have HRS : Hid (∀ V : World, But (W.heap.size + 1) wr V → RdRes R p W V (.returned (.tuple #[.agg #[.int .i64 0, .string ⟨#[]⟩, .int .i64 0, .slice none 0 0, .int .i64 0], .pointer (some ⟨g, 0, none⟩)])) (rdStep R rd m f (R.its.drop p))) := fun V hb => retBad HL2.out HG2.out HRn.out HE.out V hb
      have HZ : Hid (Blk wr (W.heap.size + 1) #[.int .i64 0, .string ⟨#[]⟩, .int .i64 0, .slice none 0 0, .int .i64 0] 28) := HL2.out.zb
      obtain ⟨z0, z1, z2, z3, z4, y0, y1, y2, y3, y4⟩ := HZ.out.cells5F
      have lz := HZ.out.lt
      go_wp2
      have hK := HZ.out.sets5F (.int .i64 0) (.string ⟨#[]⟩) (.int .i64 0) (.slice none 0 0) (.int .i64 0)
      have hB := but_sets5 wr (W.heap.size + 1) (.int .i64 0) (.string ⟨#[]⟩) (.int .i64 0) (.slice none 0 0) (.int .i64 0)
      generalize (((((wr.setCell ⟨W.heap.size + 1, 0, none⟩ (.int .i64 0)).setCell ⟨W.heap.size + 1, 1, none⟩ (.string ⟨#[]⟩)).setCell ⟨W.heap.size + 1, 2, none⟩ (.int .i64 0)).setCell ⟨W.heap.size + 1, 3, none⟩ (.slice none 0 0)).setCell ⟨W.heap.size + 1, 4, none⟩ (.int .i64 0)) = WF at hK hB ⊢
      obtain ⟨g0, g1, g2, g3, g4, _, _, _, _, _⟩ := hK.cells5F
      exact ⟨.tuple #[.agg #[.int .i64 0, .string ⟨#[]⟩, .int .i64 0, .slice none 0 0, .int .i64 0], .pointer (some ⟨g, 0, none⟩)], by simp [results, Tryz.results57, go_sem, g0, g1, g2, g3, g4], HRS.out WF hB⟩
end Go.Proofs.YtppnhaacmhfenabGreatDoor
