/-
  Package shape: the function that tells newcomers, by contracts.
  Package shape: what withDeclared shares, and its mathematics.
  Package shape: withDeclared, by a contract.
-/
import Derived.Test.YtdbpggncpkocaaaGreatDoorGFd
namespace Go.Proofs.YtdbpggncpkocaaaGreatDoor
open Go.RowKit Go.Shelf Go.Maps
set_option linter.unusedVariables false

def unV : Value := .agg #[]
/-- A set of names in memory. -/
def Seen (W : World) (b c : Nat) (S : List (List UInt8)) : Prop := ∃ D : DataW Value, W.ownsMap Tryz.prog 9 heldElem b c D ∧ Maps.IsMap D ∧ ∀ x : List UInt8, Maps.has D (.string x) = decide (x ∈ S) ∧ (x ∈ S → D.atKey (.string x) (.held unV) = .held unV)
theorem Seen.lt {W : World} {b c : Nat} {S : List (List UInt8)} (h : Seen W b c S) : b < W.heap.size := by
  obtain ⟨D, h1, _⟩ := h
  exact h1.lt
theorem Seen.same {W W' : World} {b c : Nat} {S : List (List UInt8)} (h : Seen W b c S) (hb : W'.heap[b]? = W.heap[b]?) : Seen W' b c S := by
  obtain ⟨D, h1, h2⟩ := h
  obtain ⟨es, clock, k1, k2⟩ := h1
  exact ⟨D, ⟨es, clock, by rw [hb]; exact k1, k2⟩, h2⟩
theorem seen_new (W : World) : Seen (W.alloc (.map #[] 0)) W.heap.size 0 [] := ⟨.map [], World.ownsMap_made W Tryz.prog 9 heldElem, ⟨_, rfl⟩, fun x => ⟨by simp [Maps.has], fun h => by cases h⟩⟩
set_option maxRecDepth 100000 in
theorem newcomers_c (w : World) : Calls Tryz.prog 46 #[] w fun e w' => e = .returned (.func (.func 60) #[] #[.pointer (some ⟨w.heap.size + 1, 0, none⟩)]) ∧ w' = (w.alloc (.map #[] 0)).alloc (.cells #[.map (some w.heap.size)] 90) := by
  have hmm := @run_makeMap Tryz.prog
  go_enter Tryz.func46, Tryz.ntmps46
  go_wp2
  go_ret
  exact ⟨rfl, rfl⟩
theorem zeroUn (w : World) : (zeroValue 91).run Tryz.prog w = .ok unV w := by kernel_rfl
theorem Seen.look {W : World} {b c : Nat} {S : List (List UInt8)} (h : Seen W b c S) (nm : ByteArray) (hs : nm.size ≤ 9223372036854775807) : (Instr.lookup 90 (.map (some b)) (.string nm) true).run Tryz.prog W = .ok (.tuple #[.agg #[], .bool (decide (nm.data.toList ∈ S))]) W := by
  obtain ⟨D, hown, hD, hall⟩ := h
  obtain ⟨v, ps, hrun, hv⟩ := hown.look_ok (string_keyed Tryz.underlying9) Tryz.underlying90 (zeroUn W) (zd := .held unV) (zp := []) rfl (key_strN nm hs)
  obtain ⟨h1, h2⟩ := hall nm.data.toList
  have hu : v = unV := by
    by_cases hm : nm.data.toList ∈ S
    · rw [h2 hm] at hv
      exact heldElem_inv hv
    · rw [Maps.atKey_of_not_has (by rw [h1]; exact decide_eq_false hm)] at hv
      exact heldElem_inv hv
  rw [hu, h1] at hrun
  exact hrun
theorem Seen.upd {W : World} {b c : Nat} {S : List (List UInt8)} (h : Seen W b c S) (hc : c < 4611686018427387904) (nm : ByteArray) (hs : nm.size ≤ 9223372036854775807) :
    ∃ W', (Instr.mapUpdate 90 (.map (some b)) (.string nm) (.agg #[])).run Tryz.prog W = .ok () W' ∧ Seen W' b (c + 1) (nm.data.toList :: S) ∧ But b W W' := by
  obtain ⟨D, hown, hD, hall⟩ := h
  obtain ⟨W', hrun, r1, r2⟩ := hown.update (string_keyed Tryz.underlying9) Tryz.underlying90 (by unfold maxLen; omega) (key_strN nm hs) (show heldElem (.agg #[]) = some (.held unV, []) from rfl)
  refine ⟨W', hrun, ⟨_, r1, ?_, fun x => ?_⟩, ⟨r2.os, r2.tape, r2.output, r2.size, fun k hk hne => r2.block k hk (fun e => hne (by cases e; rfl))⟩⟩
  · obtain ⟨es, rfl⟩ := hD
    exact ⟨_, rfl⟩
  · by_cases hx : nm.data.toList = x
    · subst hx
      exact ⟨by rw [Maps.has_put_same hD (by constructor)]; simp, fun _ => Maps.atKey_put_same hD (by constructor) _ _⟩
    · have hx2 : ¬ (x = nm.data.toList) := fun h => hx h.symm
      rw [Maps.has_put_other (by simpa using hx2), Maps.atKey_put_other (by simpa using hx2)]
      exact ⟨by rw [(hall x).1]; simp [hx2], fun hm => (hall x).2 (by simpa [hx2] using hm)⟩
set_option maxRecDepth 100000 in
set_option maxHeartbeats 4000000 in
theorem newcomers1_c (S : List (List UInt8)) (nm : ByteArray) (hs : nm.size ≤ 9223372036854775807) (mb b c : Nat) (w : World) (hm : w.cell? ⟨mb, 0, none⟩ = some (.map (some b))) (hmb : mb < w.heap.size) (h : Seen w b c S) (hc : c < 4611686018427387904) :
    Calls Tryz.prog 60 #[.string nm, .pointer (some ⟨mb, 0, none⟩)] w fun e w' => e = .returned (.bool (!decide (nm.data.toList ∈ S))) ∧ But b w w' ∧ Seen w' b (c + 1) (nm.data.toList :: S) := by
  have hrun := h.look nm hs
  have hlt := h.lt
  have hA : Below w.heap.size w (w.alloc (.cells #[] 91)) := (Below.refl _ w).alloc (Nat.le_refl _) _
  have hs2 : Seen (w.alloc (.cells #[] 91)) b c S := h.same (hA.block b hlt)
  obtain ⟨W', hu, hs3, hb3⟩ := hs2.upd hc nm hs
  have HF : Hid (But b w W' ∧ Seen W' b (c + 1) (nm.data.toList :: S)) := ⟨(but_below hA b).trans hb3, hs3⟩
  generalize decide (nm.data.toList ∈ S) = bb at hrun ⊢
  clear hs2 hs3 hb3 hA h hs
  go_enter Tryz.func60, Tryz.ntmps60
  go_wp2
  go_ret
  exact ⟨rfl, HF.out⟩
end Go.Proofs.YtdbpggncpkocaaaGreatDoor

namespace Go.Proofs.YtdbpggncpkocaaaGreatDoor
open Go.RowKit Go.Shelf Go.Maps
set_option linter.unusedVariables false

/-- One type's constructors, behind others. -/
def conM (ty : ByteArray) : List Nd → Nat → List (List UInt8) → List CT → Except Int (List (List UInt8) × List CT)
  | [], _, ns, l => .ok (ns, l)
  | c :: cs, k, ns, l => if c.name ∈ ns then .error c.pos else conM ty cs (k + 1) (c.name :: ns) (l ++ [(bs c.name, c.num, ty, (k : Int))])
/-- All declarations' constructors, behind others. -/
def decM : List Nd → List (List UInt8) → List (List UInt8) → List CT → Except Int (List CT)
  | [], _, _, l => .ok l
  | d :: ds, ts, ns, l => if d.kind = 2 then (if d.name ∈ ts then .error d.pos else match conM (bs d.name) d.kids 0 ns l with | .error e => .error e | .ok p => decM ds (d.name :: ts) p.1 p.2) else decM ds ts ns l
def totK : List Nd → Nat
  | [] => 0
  | d :: ds => d.kids.length + totK ds
def tyL (l : List CT) : List (List UInt8) := (l.map (fun c => c.2.2.1.data.toList)).reverse
def nmL (l : List CT) : List (List UInt8) := (l.map (fun c => c.1.data.toList)).reverse
def wdM (l : List CT) (ds : List Nd) : Except Int (List CT) := decM ds (tyL l) (nmL l) l
theorem bs_toList (x : List UInt8) : (bs x).data.toList = x := rfl

/-- What withDeclared holds: the row, two sets of names, their cells, the fault. R: the fault's block. -/
structure WdS (w0 : World) (base R g : Nat) (W : World) (v : Value) (l : List CT) (T N : List (List UInt8)) (cT cN : Nat) : Prop where
  row : ConsRow W base v l
  ts : Seen W (R + 1) cT T
  ns : Seen W (R + 3) cN N
  tb : Blk W (R + 2) #[.map (some (R + 1))] 90
  nb : Blk W (R + 4) #[.map (some (R + 3))] 90
  fb : Blk W R #[.int .i64 0, .int .i64 0] 31
  bel : Below base w0 W
  ne : ∀ r, v.ownBlock = some r → r = g ∨ R + 5 ≤ r
  oth : ∀ k, k < R → k ≠ g → W.heap[k]? = w0.heap[k]?
  gl : g < R
  size : R + 5 ≤ W.heap.size
  le : base ≤ R
theorem ConsRow.same {W W' : World} {base : Nat} {v : Value} {l : List CT} (h : ConsRow W base v l) (hb : ∀ r, v.ownBlock = some r → W'.heap[r]? = W.heap[r]?) : ConsRow W' base v l := by
  rcases h with ⟨hl, h | ⟨g, cap, cur, h1, h2, h3, h4⟩⟩
  · exact ⟨hl, .inl h⟩
  · refine ⟨hl, .inr ⟨g, cap, cur, h1, h2, ?_, h4⟩⟩
    rw [hb g (by rw [h1]; rfl)]
    exact h3
theorem Blk.same {W W' : World} {B : Nat} {vs : Array Value} {T : TypeId} (h : Blk W B vs T) (hb : W'.heap[B]? = W.heap[B]?) : Blk W' B vs T := by unfold Blk; rw [hb]; exact h
section
variable {w0 W W' : World} {base R g cT cN : Nat} {v : Value} {l : List CT} {T N : List (List UInt8)}
theorem WdS.on (h : WdS w0 base R g W v l T N cT cN) (hb : Below W.heap.size W W') : WdS w0 base R g W' v l T N cT cN :=
  ⟨h.row.below hb, h.ts.same (hb.block _ h.ts.lt), h.ns.same (hb.block _ h.ns.lt), h.tb.below hb, h.nb.below hb, h.fb.below hb, h.bel.trans (hb.mono (by have := h.size; have := h.le; omega)), h.ne, fun k hk hn => (hb.block k (by have := h.size; omega)).trans (h.oth k hk hn), h.gl, Nat.le_trans h.size hb.size, h.le⟩
theorem WdS.alloc (h : WdS w0 base R g W v l T N cT cN) (o : Obj) : WdS w0 base R g (W.alloc o) v l T N cT cN := h.on ((Below.refl _ W).alloc (Nat.le_refl _) o)
theorem but_in {b : Nat} (hb : But b W W') (h : base ≤ b) (hs : base ≤ W.heap.size) : Below base W W' := hb.below h hs
/-- A type's name put into its set. -/
theorem WdS.putT (h : WdS w0 base R g W v l T N cT cN) {T' : List (List UInt8)} {c' : Nat} (hb : But (R + 1) W W') (hs : Seen W' (R + 1) c' T') : WdS w0 base R g W' v l T' N c' cN := by
  have hz := h.size
  have hl := h.le
  refine ⟨h.row.same (fun r hr => hb.block r (h.row.lt hr).1 (by have := h.ne r hr; have := h.gl; omega)), hs, h.ns.same (hb.block _ h.ns.lt (by omega)), h.tb.same (hb.block _ h.tb.lt (by omega)), h.nb.same (hb.block _ h.nb.lt (by omega)), h.fb.same (hb.block _ h.fb.lt (by omega)), h.bel.trans (hb.below (by omega) (by omega)), h.ne, fun k hk hn => (hb.block k (by omega) (by omega)).trans (h.oth k hk hn), h.gl, Nat.le_trans hz hb.size, hl⟩
theorem WdS.putN (h : WdS w0 base R g W v l T N cT cN) {N' : List (List UInt8)} {c' : Nat} (hb : But (R + 3) W W') (hs : Seen W' (R + 3) c' N') : WdS w0 base R g W' v l T N' cT c' := by
  have hz := h.size
  have hl := h.le
  refine ⟨h.row.same (fun r hr => hb.block r (h.row.lt hr).1 (by have := h.ne r hr; have := h.gl; omega)), h.ts.same (hb.block _ h.ts.lt (by omega)), hs, h.tb.same (hb.block _ h.tb.lt (by omega)), h.nb.same (hb.block _ h.nb.lt (by omega)), h.fb.same (hb.block _ h.fb.lt (by omega)), h.bel.trans (hb.below (by omega) (by omega)), h.ne, fun k hk hn => (hb.block k (by omega) (by omega)).trans (h.oth k hk hn), h.gl, Nat.le_trans hz hb.size, hl⟩
/-- The row grown. -/
theorem WdS.app (h : WdS w0 base R g W v l T N cT cN) {v' : Value} {l' : List CT} (hr : ConsRow W' base v' l') (hg : W.grownBy W' v.ownBlock) (ha : v'.ownBlock = v.ownBlock ∨ v'.ownBlock = some W.heap.size) : WdS w0 base R g W' v' l' T N cT cN := by
  have hz := h.size
  have hl := h.le
  have hk : ∀ b, b < W.heap.size → R ≤ b → b < R + 5 → W'.heap[b]? = W.heap[b]? := fun b h1 h2 h3 => hg.block b h1 (fun e => by have := h.ne b e.symm; have := h.gl; omega)
  refine ⟨hr, h.ts.same (hk _ h.ts.lt (by omega) (by omega)), h.ns.same (hk _ h.ns.lt (by omega) (by omega)), h.tb.same (hk _ h.tb.lt (by omega) (by omega)), h.nb.same (hk _ h.nb.lt (by omega) (by omega)), h.fb.same (hk _ h.fb.lt (by omega) (by omega)), h.bel.grown hg (by omega) (fun j hj => (h.row.lt hj).2), fun r hr2 => ?_, fun k hk hn => (hg.block k (by omega) (fun e => by have := h.ne k e.symm; omega)).trans (h.oth k hk hn), h.gl, Nat.le_trans hz hg.size, hl⟩
  rcases ha with e | e
  · exact h.ne r (e ▸ hr2)
  · rw [e] at hr2; cases hr2; right; exact hz
/-- All blocks of w0 but one are in W as they were. -/
def Oth (w0 : World) (g : Nat) (W : World) : Prop := ∀ k, k < w0.heap.size → k ≠ g → W.heap[k]? = w0.heap[k]?
/-- What withDeclared leaves. -/
def WdPost (w0 : World) (base g : Nat) (r : Except Int (List CT)) (e : Ending) (W' : World) : Prop := Oth w0 g W' ∧ match r with
  | .error p => e = .returned (.tuple #[.slice none 0 0, .agg #[.int .i64 8, .int .i64 p]]) ∧ Below base w0 W'
  | .ok l => ∃ v, e = .returned (.tuple #[v, .agg #[.int .i64 0, .int .i64 0]]) ∧ ConsRow W' base v l ∧ Below base w0 W' ∧ ∀ r, v.ownBlock = some r → r = g ∨ w0.heap.size ≤ r
theorem WdS.fault (h : WdS w0 base R g W v l T N cT cN) (p : Int) : Below base w0 ((W.setCell ⟨R, 0, none⟩ (.int .i64 8)).setCell ⟨R, 1, none⟩ (.int .i64 p)) ∧ Blk ((W.setCell ⟨R, 0, none⟩ (.int .i64 8)).setCell ⟨R, 1, none⟩ (.int .i64 p)) R #[.int .i64 8, .int .i64 p] 31 := by
  refine ⟨(h.bel.setCell (p := ⟨R, 0, none⟩) h.le _).setCell (p := ⟨R, 1, none⟩) h.le _, ?_⟩
  have h0 : Blk (W.setCell ⟨R, 0, none⟩ (.int .i64 8)) R #[.int .i64 8, .int .i64 0] 31 := h.fb.set 0 _
  exact h0.set 1 _
end
/-- The cells of a tree handed over by value. -/
def ndC (n : Nd) (o : Option Addr) (cap : Nat) : Array Value := #[.int .i64 n.kind, .string (bs n.name), .int .i64 n.num, .slice o n.kids.length cap, .int .i64 n.pos]
theorem KIn.kid {W : World} {B : Nat} {o : Option Addr} {ds : List Nd} (h : KIn W B o ds) (k : Nat) (hk : k < ds.length) : ∃ g off o2 cap2, o = some ⟨g, off, none⟩ ∧ g < B ∧ W.cell? ⟨g, off + k * 5, none⟩ = some (.int .i64 ds[k].kind) ∧ W.cell? ⟨g, off + k * 5 + 1, none⟩ = some (.string (bs ds[k].name)) ∧ W.cell? ⟨g, off + k * 5 + 2, none⟩ = some (.int .i64 ds[k].num) ∧ W.cell? ⟨g, off + k * 5 + 3, none⟩ = some (.slice o2 ds[k].kids.length cap2) ∧ W.cell? ⟨g, off + k * 5 + 4, none⟩ = some (.int .i64 ds[k].pos) ∧ KIn W B o2 ds[k].kids ∧ ds[k].name.length ≤ 9223372036854775807 := by
  obtain ⟨g, off, e, hg, hK⟩ := h.at k hk
  have hn := KidsAt.get ds g off k hk hK
  have hw := hn.wf
  obtain ⟨o2, cap2, h0, h1, h2, h3, h4, _, _, h5⟩ := hn.cells
  exact ⟨g, off, o2, cap2, e, hg, h0, h1, h2, h3, h4, h5, hw.2.1⟩
end Go.Proofs.YtdbpggncpkocaaaGreatDoor

namespace Go.Proofs.YtdbpggncpkocaaaGreatDoor
open Go.RowKit Go.Shelf Go.Maps
set_option linter.unusedVariables false

theorem take_next (l : List CT) (k : Nat) (hk : k < l.length) : l.take (k + 1) = l.take k ++ [l[k]] := by rw [List.take_add_one, List.getElem?_eq_getElem hk]; rfl
theorem tyL_step (l : List CT) (k : Nat) (hk : k < l.length) : tyL (l.take (k + 1)) = l[k].2.2.1.data.toList :: tyL (l.take k) := by
  unfold tyL; rw [take_next l k hk, List.map_append, List.reverse_append]; rfl
theorem nmL_step (l : List CT) (k : Nat) (hk : k < l.length) : nmL (l.take (k + 1)) = l[k].1.data.toList :: nmL (l.take k) := by
  unfold nmL; rw [take_next l k hk, List.map_append, List.reverse_append]; rfl
theorem nd_next (l : List Nd) (k : Nat) (hk : k < l.length) : l.drop k = l[k] :: l.drop (k + 1) := List.drop_eq_getElem_cons hk
theorem decM_skip (d : Nd) (ds : List Nd) (ts ns : List (List UInt8)) (l : List CT) (h : ¬ d.kind = 2) : decM (d :: ds) ts ns l = decM ds ts ns l := by rw [decM, if_neg h]
theorem decM_two (d : Nd) (ds : List Nd) (ts ns : List (List UInt8)) (l : List CT) (h : d.kind = 2) (h2 : d.name ∈ ts) : decM (d :: ds) ts ns l = .error d.pos := by rw [decM, if_pos h, if_pos h2]
theorem decM_err (d : Nd) (ds : List Nd) (ts ns : List (List UInt8)) (l : List CT) (p : Int) (h : d.kind = 2) (h2 : d.name ∉ ts) (h3 : conM (bs d.name) d.kids 0 ns l = .error p) : decM (d :: ds) ts ns l = .error p := by rw [decM, if_pos h, if_neg h2, h3]
theorem decM_ok (d : Nd) (ds : List Nd) (ts ns ns' : List (List UInt8)) (l l' : List CT) (h : d.kind = 2) (h2 : d.name ∉ ts) (h3 : conM (bs d.name) d.kids 0 ns l = .ok (ns', l')) : decM (d :: ds) ts ns l = decM ds (d.name :: ts) ns' l' := by rw [decM, if_pos h, if_neg h2, h3]
theorem conM_two (ty : ByteArray) (c : Nd) (cs : List Nd) (k : Nat) (ns : List (List UInt8)) (l : List CT) (h : c.name ∈ ns) : conM ty (c :: cs) k ns l = .error c.pos := by rw [conM, if_pos h]
theorem conM_go (ty : ByteArray) (c : Nd) (cs : List Nd) (k : Nat) (ns : List (List UInt8)) (l : List CT) (h : c.name ∉ ns) : conM ty (c :: cs) k ns l = conM ty cs (k + 1) (c.name :: ns) (l ++ [(bs c.name, c.num, ty, (k : Int))]) := by rw [conM, if_neg h]
theorem totK_next (l : List Nd) (k : Nat) (hk : k < l.length) : totK (l.drop k) = l[k].kids.length + totK (l.drop (k + 1)) := by rw [nd_next l k hk]; rfl

/-- The world with which withDeclared begins. -/
theorem wdS_start {w : World} {base g0 : Nat} {v : Value} {l : List CT} (h : ConsRow w base v l) (hb : base ≤ w.heap.size) (hv : v.ownBlock = some g0) :
    WdS w base w.heap.size g0 (((((w.alloc (.cells #[.int .i64 0, .int .i64 0] 31)).alloc (.map #[] 0)).alloc (.cells #[.map (some (w.heap.size + 1))] 90)).alloc (.map #[] 0)).alloc (.cells #[.map (some (w.heap.size + 1 + 1 + 1))] 90)) v l [] [] 0 0 := by
  have b1 : Below w.heap.size w (w.alloc (.cells #[.int .i64 0, .int .i64 0] 31)) := (Below.refl _ _).alloc (Nat.le_refl _) _
  obtain ⟨w1, hw1⟩ : ∃ w1, w.alloc (.cells #[.int .i64 0, .int .i64 0] 31) = w1 := ⟨_, rfl⟩
  have k1 : Blk w1 w.heap.size #[.int .i64 0, .int .i64 0] 31 := by rw [← hw1]; exact Blk.new w _ _
  have s1 : w1.heap.size = w.heap.size + 1 := by rw [← hw1]; simp
  rw [hw1] at b1 ⊢
  obtain ⟨w2, hw2⟩ : ∃ w2, w1.alloc (.map #[] 0) = w2 := ⟨_, rfl⟩
  have b2 : Below w1.heap.size w1 w2 := by rw [← hw2]; exact (Below.refl _ _).alloc (Nat.le_refl _) _
  have k2 : Seen w2 (w.heap.size + 1) 0 [] := by rw [← hw2, ← s1]; exact seen_new w1
  have s2 : w2.heap.size = w.heap.size + 2 := by rw [← hw2]; simp [s1]
  rw [hw2]
  obtain ⟨w3, hw3⟩ : ∃ w3, w2.alloc (.cells #[.map (some (w.heap.size + 1))] 90) = w3 := ⟨_, rfl⟩
  have b3 : Below w2.heap.size w2 w3 := by rw [← hw3]; exact (Below.refl _ _).alloc (Nat.le_refl _) _
  have k3 : Blk w3 (w.heap.size + 2) #[.map (some (w.heap.size + 1))] 90 := by rw [← hw3, ← s2]; exact Blk.new w2 _ _
  have s3 : w3.heap.size = w.heap.size + 3 := by rw [← hw3]; simp [s2]
  rw [hw3]
  obtain ⟨w4, hw4⟩ : ∃ w4, w3.alloc (.map #[] 0) = w4 := ⟨_, rfl⟩
  have b4 : Below w3.heap.size w3 w4 := by rw [← hw4]; exact (Below.refl _ _).alloc (Nat.le_refl _) _
  have k4 : Seen w4 (w.heap.size + 3) 0 [] := by rw [← hw4, ← s3]; exact seen_new w3
  have s4 : w4.heap.size = w.heap.size + 4 := by rw [← hw4]; simp [s3]
  rw [hw4]
  obtain ⟨w5, hw5⟩ : ∃ w5, w4.alloc (.cells #[.map (some (w.heap.size + 1 + 1 + 1))] 90) = w5 := ⟨_, rfl⟩
  have b5 : Below w4.heap.size w4 w5 := by rw [← hw5]; exact (Below.refl _ _).alloc (Nat.le_refl _) _
  have k5 : Blk w5 (w.heap.size + 4) #[.map (some (w.heap.size + 3))] 90 := by rw [← hw5, ← s4]; exact Blk.new w4 _ _
  have s5 : w5.heap.size = w.heap.size + 5 := by rw [← hw5]; simp [s4]
  rw [hw5]
  have b25 : Below w2.heap.size w2 w5 := b3.trans ((b4.trans (b5.mono (by omega))).mono (by omega))
  have b15 : Below w1.heap.size w1 w5 := b2.trans (b25.mono (by omega))
  have b05 : Below w.heap.size w w5 := b1.trans (b15.mono (by omega))
  exact ⟨h.below b05, k2.same (b25.block _ (by omega)), k4.same (b5.block _ (by omega)), k3.below (b4.trans (b5.mono (by omega))), k5, k1.below b15, b05.mono hb, fun r hr => .inl (by rw [hv] at hr; cases hr; rfl), fun k hk hn => b05.block k hk, (h.lt hv).1, by omega, hb⟩

theorem heap_set_other (W : World) (R i r : Nat) (v : Value) (h : r ≠ R) : (W.setCell ⟨R, i, none⟩ v).heap[r]? = W.heap[r]? := by
  rw [Sort.setCell_eq]
  simp [Sort.mapBlock, Array.getElem?_modify, Ne.symm h]
theorem WdS.done {w0 W : World} {base R g cT cN : Nat} {v : Value} {l : List CT} {T N : List (List UInt8)} (h : WdS w0 base R g W v l T N cT cN) : Below base w0 ((W.setCell ⟨R, 0, none⟩ (.int .i64 0)).setCell ⟨R, 1, none⟩ (.int .i64 0)) ∧ Blk ((W.setCell ⟨R, 0, none⟩ (.int .i64 0)).setCell ⟨R, 1, none⟩ (.int .i64 0)) R #[.int .i64 0, .int .i64 0] 31 ∧ ConsRow ((W.setCell ⟨R, 0, none⟩ (.int .i64 0)).setCell ⟨R, 1, none⟩ (.int .i64 0)) base v l := by
  refine ⟨(h.bel.setCell (p := ⟨R, 0, none⟩) h.le _).setCell (p := ⟨R, 1, none⟩) h.le _, ?_, h.row.same (fun r hr => ?_)⟩
  · have h0 : Blk (W.setCell ⟨R, 0, none⟩ (.int .i64 0)) R #[.int .i64 0, .int .i64 0] 31 := h.fb.set 0 _
    exact h0.set 1 _
  · have hne : r ≠ R := by have := h.ne r hr; have := h.gl; omega
    rw [heap_set_other _ _ _ _ _ hne, heap_set_other _ _ _ _ _ hne]
theorem oth_fault {w0 W WF : World} {base R g cT cN : Nat} {v : Value} {l : List CT} {T N : List (List UInt8)} (h : WdS w0 base R g W v l T N cT cN) (hR : R = w0.heap.size) (p : Int) (e : (W.setCell ⟨R, 0, none⟩ (.int .i64 8)).setCell ⟨R, 1, none⟩ (.int .i64 p) = WF) : Oth w0 g WF.drew := by
  intro k hk hn
  show WF.heap[k]? = _
  rw [← e, heap_set_other _ _ _ _ _ (by omega), heap_set_other _ _ _ _ _ (by omega)]
  exact h.oth k (by omega) hn
theorem oth_done {w0 W WF : World} {base R g cT cN : Nat} {v : Value} {l : List CT} {T N : List (List UInt8)} (h : WdS w0 base R g W v l T N cT cN) (hR : R = w0.heap.size) (e : (W.setCell ⟨R, 0, none⟩ (.int .i64 0)).setCell ⟨R, 1, none⟩ (.int .i64 0) = WF) : Oth w0 g WF := by
  intro k hk hn
  rw [← e, heap_set_other _ _ _ _ _ (by omega), heap_set_other _ _ _ _ _ (by omega)]
  exact h.oth k (by omega) hn
theorem wd_app {w0 W W' : World} {o : Obj} {base R g cT cN B : Nat} {v v' : Value} {l l' : List CT} {T N : List (List UInt8)} {vs : Array Value} (h : WdS w0 base R g W v l T N cT cN ∧ Blk W B vs 27) (hne : ∀ r, v.ownBlock = some r → r ≠ B) (hg : (W.alloc o).grownBy W' v.ownBlock) (ha : v'.ownBlock = v.ownBlock ∨ v'.ownBlock = some (W.alloc o).heap.size) (hr : ConsRow W' base v' l') : (WdS w0 base R g W' v' l' T N cT cN ∧ Blk W' B vs 27) ∧ ∀ r, v'.ownBlock = some r → r ≠ B := by
  refine ⟨⟨(h.1.alloc o).app hr hg ha, (h.2.alloc o).same (hg.block B (h.2.alloc o).lt (fun e => hne B e.symm rfl))⟩, fun r hr2 => ?_⟩
  have hs : (W.alloc o).heap.size = W.heap.size + 1 := by simp
  have := h.2.lt
  rcases ha with e | e
  · exact hne r (e ▸ hr2)
  · rw [e] at hr2; cases hr2; omega
set_option maxRecDepth 100000 in
set_option maxHeartbeats 8000000 in
theorem withDeclared_c (w : World) (base : Nat) (g0 cap0 : Nat) (l : List CT) (ds : List Nd) (o : Option Addr) (cap : Nat) (hr : ConsRow w base (.slice (some ⟨g0, 0, none⟩) l.length cap0) l) (hl : l ≠ []) (hb : base ≤ w.heap.size) (hK : KIn w base o ds) (hf : ∀ f ∈ l, f.1.size ≤ 9223372036854775807 ∧ f.2.2.1.size ≤ 9223372036854775807) (ht : l.length + totK ds ≤ 1900000) (hd : ds.length ≤ 4000000) :
    Calls Tryz.prog 32 #[.slice (some ⟨g0, 0, none⟩) l.length cap0, .slice o ds.length cap] w fun e W' => WdPost w base g0 (wdM l ds) e W' := by
  have eg : ∀ args w, (callFunc 60 args).run Tryz.prog w = .ok (.enter 60 args) w := enters_of Tryz.func60 (by kernel_rfl) rfl
  have HN1 : Hid (∀ (S : List (List UInt8)) (nm : ByteArray) (mb b c : Nat) (w : World), nm.size ≤ 9223372036854775807 → w.cell? ⟨mb, 0, none⟩ = some (.map (some b)) → mb < w.heap.size → Seen w b c S → c < 4611686018427387904 → Calls Tryz.prog 60 #[.string nm, .pointer (some ⟨mb, 0, none⟩)] w fun e w' => e = .returned (.bool (!decide (nm.data.toList ∈ S))) ∧ But b w w' ∧ Seen w' b (c + 1) (nm.data.toList :: S)) := fun S nm mb b c w hs hm hmb h hc => newcomers1_c S nm hs mb b c w hm hmb h hc
  have HK : Hid (∀ X : World, Below base w X → KIn X base o ds) := fun X hX => hK.below hX
  have HF : Hid (∀ f ∈ l, f.1.size ≤ 9223372036854775807 ∧ f.2.2.1.size ≤ 9223372036854775807) := hf
  have HL : Hid (l ≠ [] ∧ l.length + totK ds ≤ 1900000 ∧ ds.length ≤ 4000000) := ⟨hl, ht, hd⟩
  have hll : (l.length : Int) ≤ 1900000 := by omega
  have hdd : (ds.length : Int) ≤ 4000000 := by omega
  obtain ⟨R, hR⟩ : ∃ R, R = w.heap.size := ⟨_, rfl⟩
  have HR : Hid (R = w.heap.size) := hR
  have e4 : w.heap.size + 1 + 1 + 1 + 1 = R + 4 := by omega
  have e2 : w.heap.size + 1 + 1 = R + 2 := by omega
  obtain ⟨W1, hW1⟩ : ∃ W1, (((((w.alloc (.cells #[.int .i64 0, .int .i64 0] 31)).alloc (.map #[] 0)).alloc (.cells #[.map (some (w.heap.size + 1))] 90)).alloc (.map #[] 0)).alloc (.cells #[.map (some (w.heap.size + 1 + 1 + 1))] 90)) = W1 := ⟨_, rfl⟩
  have HW1 : Hid ((((((w.alloc (.cells #[.int .i64 0, .int .i64 0] 31)).alloc (.map #[] 0)).alloc (.cells #[.map (some (w.heap.size + 1))] 90)).alloc (.map #[] 0)).alloc (.cells #[.map (some (w.heap.size + 1 + 1 + 1))] 90)) = W1) := hW1
  have HS1 : Hid (WdS w base R g0 W1 (.slice (some ⟨g0, 0, none⟩) l.length cap0) l [] [] 0 0) := by show WdS _ _ _ _ _ _ _ _ _ _ _; rw [← hW1, hR]; exact wdS_start hr hb rfl
  have HE : Hid (w.heap.size + 1 + 1 + 1 + 1 = R + 4 ∧ w.heap.size + 1 + 1 = R + 2) := ⟨e4, e2⟩
  clear hr hK hf ht hR hl hd e4 e2 hW1 hb
  go_enter Tryz.func32, Tryz.ntmps32
  go_wp2_with (go_at_call 46; refine (newcomers_c _).mono ?_; rintro e w' ⟨rfl, rfl⟩)
  rw [HW1.out, HE.out.1, HE.out.2, ← HR.out]
  clear HW1 HE
  go_loopg [18] l.length (fun g vk wr => ∃ k : Nat, vk = .int .i64 k ∧ k ≤ l.length ∧ l.length - k ≤ g ∧ Hid (WdS w base R g0 wr (.slice (some ⟨g0, 0, none⟩) l.length cap0) l (tyL (l.take k)) (nmL (l.take k)) k k))
  case atStart => exact ⟨0, rfl, Nat.zero_le _, Nat.le_refl _, HS1.out⟩
  case round =>
    clear HS1
    obtain ⟨k, rfl, hkl, hg, HI⟩ := hrel
    by_cases hlt : k < l.length
    · have hltz : (k : Int) < (l.length : Int) := by omega
      have hI := HI.out
      obtain ⟨g1, cap1, hv1, hbg, hg1, hA⟩ := hI.row.at HL.out.1
      obtain ⟨rfl, rfl⟩ : g0 = g1 ∧ cap0 = cap1 := by
        simp only [Value.slice.injEq, Option.some.injEq, Addr.mk.injEq] at hv1
        exact ⟨hv1.1.1, hv1.2.2⟩
      obtain ⟨c0, c1, c2, c3⟩ := hA k hlt
      have HT : Hid (tyL (l.take (k + 1)) = l[k].2.2.1.data.toList :: tyL (l.take k) ∧ nmL (l.take (k + 1)) = l[k].1.data.toList :: nmL (l.take k)) := ⟨tyL_step l k hlt, nmL_step l k hlt⟩
      have HZ : Hid (l[k].1.size ≤ 9223372036854775807 ∧ l[k].2.2.1.size ≤ 9223372036854775807) := HF.out _ (List.getElem_mem _)
      generalize l[k] = ck at c0 c1 c2 c3 HT HZ
      obtain ⟨V, hV⟩ : ∃ V, wr.alloc (.cells #[.string ck.1, .int .i64 ck.2.1, .string ck.2.2.1, .int .i64 ck.2.2.2] 38) = V := ⟨_, rfl⟩
      have hVS : WdS w base R g0 V (.slice (some ⟨g0, 0, none⟩) l.length cap0) l (tyL (l.take k)) (nmL (l.take k)) k k := by rw [← hV]; exact hI.alloc _
      have hVk : Blk V wr.heap.size #[.string ck.1, .int .i64 ck.2.1, .string ck.2.2.1, .int .i64 ck.2.2.2] 38 := by rw [← hV]; exact Blk.new wr _ _
      have HVS : Hid (WdS w base R g0 V (.slice (some ⟨g0, 0, none⟩) l.length cap0) l (tyL (l.take k)) (nmL (l.take k)) k k) := hVS
      have HVK : Hid (Blk V wr.heap.size #[.string ck.1, .int .i64 ck.2.1, .string ck.2.2.1, .int .i64 ck.2.2.2] 38) := hVk
      have HV : Hid (wr.alloc (.cells #[.string ck.1, .int .i64 ck.2.1, .string ck.2.2.1, .int .i64 ck.2.2.2] 38) = V) := hV
      have HC1 : Hid (Calls Tryz.prog 60 #[.string ck.2.2.1, .pointer (some ⟨R + 2, 0, none⟩)] V fun e w' => e = .returned (.bool (!decide (ck.2.2.1.data.toList ∈ tyL (l.take k)))) ∧ But (R + 1) V w' ∧ Seen w' (R + 1) (k + 1) (ck.2.2.1.data.toList :: tyL (l.take k))) := HN1.out _ _ _ _ _ V HZ.out.2 (hVS.tb.cell 0 _ rfl) hVS.tb.lt hVS.ts (by have := HL.out; omega)
      have hRw : R + 5 ≤ wr.heap.size := hI.size
      clear hI hA hV hVS hVk
      generalize (!decide (ck.2.2.1.data.toList ∈ tyL (l.take k))) = b1 at HC1
      go_wp2_with (go_at_fn 60; fail)
      rw [HV.out]
      refine HC1.out.mono ?_
      rintro e w2 ⟨rfl, hb2, hs2⟩
      have hS2 := HVS.out.putT hb2 hs2
      have hK2 : Blk w2 wr.heap.size #[.string ck.1, .int .i64 ck.2.1, .string ck.2.2.1, .int .i64 ck.2.2.2] 38 := HVK.out.same (hb2.block _ HVK.out.lt (by omega))
      have HS2 : Hid (WdS w base R g0 w2 (.slice (some ⟨g0, 0, none⟩) l.length cap0) l (ck.2.2.1.data.toList :: tyL (l.take k)) (nmL (l.take k)) (k + 1) k) := hS2
      have HC2 : Hid (Calls Tryz.prog 60 #[.string ck.1, .pointer (some ⟨R + 4, 0, none⟩)] w2 fun e w' => e = .returned (.bool (!decide (ck.1.data.toList ∈ nmL (l.take k)))) ∧ But (R + 3) w2 w' ∧ Seen w' (R + 3) (k + 1) (ck.1.data.toList :: nmL (l.take k))) := HN1.out _ _ _ _ _ w2 HZ.out.1 (hS2.nb.cell 0 _ rfl) hS2.nb.lt hS2.ns (by have := HL.out; omega)
      generalize (!decide (ck.1.data.toList ∈ nmL (l.take k))) = b2 at HC2
      have d0 := hK2.cell 0 _ rfl
      have hlt2 := hK2.lt
      clear hb2 hs2 hS2 hK2 HC1 HVS HVK HV
      go_wp2_with (go_at_fn 60; fail)
      refine HC2.out.mono ?_
      rintro e w3 ⟨rfl, hb3, hs3⟩
      have HS3 : Hid (WdS w base R g0 w3 (.slice (some ⟨g0, 0, none⟩) l.length cap0) l (tyL (l.take (k + 1))) (nmL (l.take (k + 1))) (k + 1) (k + 1)) := by
        have := HS2.out.putN hb3 hs3
        rw [HT.out.1, HT.out.2]
        exact this
      clear hb3 hs3 HC2 HS2 d0 hlt2
      go_wp2
      go_roundg (l.length - (k + 1))
      case measure => omega
      case rel => exact ⟨k + 1, by go_num, by omega, Nat.le_refl _, HS3⟩
    · have hltz : ¬ (k : Int) < (l.length : Int) := by omega
      have hke : k = l.length := by omega
      have HI2 : Hid (WdS w base R g0 wr (.slice (some ⟨g0, 0, none⟩) l.length cap0) l (tyL l) (nmL l) l.length l.length) := by
        have := HI.out
        rw [hke, List.take_length] at this
        exact this
      clear HI HF
      go_wp2
      go_loopg [0, 33] ds.length (fun g v0 vk wr => ∃ (k : Nat) (o1 : Option Addr) (n1 cap1 : Nat) (l1 : List CT) (T1 N1 : List (List UInt8)) (cT cN : Nat), v0 = .slice o1 n1 cap1 ∧ vk = .int .i64 k ∧ k ≤ ds.length ∧ ds.length - k ≤ g ∧ Hid (WdS w base R g0 wr (.slice o1 n1 cap1) l1 T1 N1 cT cN ∧ wdM l ds = decM (ds.drop k) T1 N1 l1 ∧ l1.length + totK (ds.drop k) ≤ 1900000 ∧ cT ≤ l.length + k ∧ cN + totK (ds.drop k) ≤ 1900000))
      case atStart => exact ⟨0, _, _, _, l, _, _, l.length, l.length, rfl, rfl, Nat.zero_le _, Nat.le_refl _, (⟨HI2.out, rfl, HL.out.2.1, Nat.le_refl _, HL.out.2.1⟩ : _ ∧ _ ∧ _ ∧ _ ∧ _)⟩
      case round =>
        clear HI2
        obtain ⟨kd, o1, n1, cap1, l1, T1, N1, cT, cN, rfl, rfl, hkd, hgd, HD⟩ := hrel
        by_cases hltd : kd < ds.length
        · have hltdz : (kd : Int) < (ds.length : Int) := by omega
          have hD := HD.out.1
          obtain ⟨g, off, o2, cap2, ho, hgb, c0', c1', c2', c3', c4', hK2, hnl⟩ := (HK.out w (Below.refl base w)).kid kd hltd
          have c0 := (hD.bel.cell (p := ⟨g, off + kd * 5, none⟩) hgb).trans c0'
          have c1 := (hD.bel.cell (p := ⟨g, off + kd * 5 + 1, none⟩) hgb).trans c1'
          have c2 := (hD.bel.cell (p := ⟨g, off + kd * 5 + 2, none⟩) hgb).trans c2'
          have c3 := (hD.bel.cell (p := ⟨g, off + kd * 5 + 3, none⟩) hgb).trans c3'
          have c4 := (hD.bel.cell (p := ⟨g, off + kd * 5 + 4, none⟩) hgb).trans c4'
          clear c0' c1' c2' c3' c4'
          have hgl : g < wr.heap.size := by have := hD.size; have := hD.le; omega
          have HN : Hid (ds.drop kd = ds[kd] :: ds.drop (kd + 1) ∧ totK (ds.drop kd) = ds[kd].kids.length + totK (ds.drop (kd + 1))) := ⟨nd_next ds kd hltd, totK_next ds kd hltd⟩
          generalize ds[kd] = nd at c0 c1 c2 c3 c4 hK2 hnl HN
          subst ho
          obtain ⟨V, hV⟩ : ∃ V, wr.alloc (.cells #[.int .i64 nd.kind, .string (bs nd.name), .int .i64 nd.num, .slice o2 nd.kids.length cap2, .int .i64 nd.pos] 27) = V := ⟨_, rfl⟩
          have HV : Hid (wr.alloc (.cells #[.int .i64 nd.kind, .string (bs nd.name), .int .i64 nd.num, .slice o2 nd.kids.length cap2, .int .i64 nd.pos] 27) = V) := hV
          have hVS : WdS w base R g0 V (.slice o1 n1 cap1) l1 T1 N1 cT cN := by rw [← hV]; exact hD.alloc _
          have hVk : Blk V wr.heap.size #[.int .i64 nd.kind, .string (bs nd.name), .int .i64 nd.num, .slice o2 nd.kids.length cap2, .int .i64 nd.pos] 27 := by rw [← hV]; exact Blk.new wr _ _
          have HVS : Hid (WdS w base R g0 V (.slice o1 n1 cap1) l1 T1 N1 cT cN) := hVS
          have HVK : Hid (Blk V wr.heap.size #[.int .i64 nd.kind, .string (bs nd.name), .int .i64 nd.num, .slice o2 nd.kids.length cap2, .int .i64 nd.pos] 27) := hVk
          have HK2 : Hid (∀ X, Below base w X → KIn X base o2 nd.kids) := fun X hX => hK2.below hX
          have hRw : R + 5 ≤ wr.heap.size := hD.size
          by_cases hkind : nd.kind = 2
          · obtain ⟨wo, hwo⟩ : ∃ wo, wo = wr := ⟨_, rfl⟩
            subst hwo
            have hkz : ¬ (nd.kind != 2) = true := by simp [hkind]
            have hkz2 : (nd.kind != 2) = false := by simp [hkind]
            have HC1 : Hid (Calls Tryz.prog 60 #[.string (bs nd.name), .pointer (some ⟨R + 2, 0, none⟩)] V fun e w' => e = .returned (.bool (!decide (nd.name ∈ T1))) ∧ But (R + 1) V w' ∧ Seen w' (R + 1) (cT + 1) (nd.name :: T1)) := HN1.out T1 (bs nd.name) _ _ _ V hnl (hVS.tb.cell 0 _ rfl) hVS.tb.lt hVS.ts (by have := HD.out.2.2.2.1; have := HL.out; omega)
            have HDM : Hid (wdM l ds = decM (nd :: ds.drop (kd + 1)) T1 N1 l1 ∧ l1.length + (nd.kids.length + totK (ds.drop (kd + 1))) ≤ 1900000 ∧ cT ≤ l.length + kd ∧ cN + (nd.kids.length + totK (ds.drop (kd + 1))) ≤ 1900000) := by
              obtain ⟨_, q1, q2, q3, q4⟩ := HD.out
              have hN := HN.out
              rw [hN.1] at q1
              exact ⟨q1, by omega, q3, by omega⟩
            have HKD : Hid (nd.kind = 2) := hkind
            clear hkind hkz
            have hBl : wo.heap.size ≠ R + 1 ∧ wo.heap.size ≠ R + 3 := ⟨by omega, by omega⟩
            have HNB0 : Hid (∀ r, (Value.slice o1 n1 cap1).ownBlock = some r → r ≠ wo.heap.size) := fun r hr => by have := (hD.row.lt hr).1; omega
            clear hD hVS hVk hV HD HN hnl hK2
            go_wp2_with (go_at_fn 60; fail)
            rw [HV.out]
            refine HC1.out.mono ?_
            rintro e w2 ⟨rfl, hb2, hs2⟩
            have hS2 := HVS.out.putT hb2 hs2
            have hK3 : Blk w2 wo.heap.size #[.int .i64 nd.kind, .string (bs nd.name), .int .i64 nd.num, .slice o2 nd.kids.length cap2, .int .i64 nd.pos] 27 := HVK.out.same (hb2.block _ HVK.out.lt hBl.1)
            have HS2 : Hid (WdS w base R g0 w2 (.slice o1 n1 cap1) l1 (nd.name :: T1) N1 (cT + 1) cN) := hS2
            have HK3 : Hid (Blk w2 wo.heap.size #[.int .i64 nd.kind, .string (bs nd.name), .int .i64 nd.num, .slice o2 nd.kids.length cap2, .int .i64 nd.pos] 27) := hK3
            have hw2 := hK3.lt
            by_cases hin : nd.name ∈ T1
            · have hd1 : decide (nd.name ∈ T1) = true := decide_eq_true hin
              rw [hd1]
              have HE1 : Hid (wdM l ds = .error nd.pos) := HDM.out.1.trans (decM_two _ _ _ _ _ HKD.out hin)
              have z0 := hS2.fb.cell 0 _ rfl
              have z1 := hS2.fb.cell 1 _ rfl
              have y0 := hS2.fb.frozen 0
              have y1 := hS2.fb.frozen 1
              have hlt3 := hS2.fb.lt
              have d4 := hK3.cell 4 _ rfl
              clear hb2 hs2 hS2 hK3 HC1 HVS HVK HV HDM hd1 c0 c1 c2 c3 c4
              go_wp2_with fail
              go_region
              all_goals go_wp2
              have hq := HS2.out.fault nd.pos
              generalize hWF : (w2.setCell ⟨R, 0, none⟩ (.int .i64 8)).setCell ⟨R, 1, none⟩ (.int .i64 nd.pos) = WF at hq ⊢
              have g0' : WF.drew.cell? ⟨R, 0, none⟩ = some (.int .i64 8) := hq.2.cell 0 _ rfl
              have g1' : WF.drew.cell? ⟨R, 1, none⟩ = some (.int .i64 nd.pos) := hq.2.cell 1 _ rfl
              exact bodyPost_ret (v := .tuple #[.slice none 0 0, .agg #[.int .i64 8, .int .i64 nd.pos]]) (by simp [results, Tryz.results32, go_sem, g0', g1']) rfl (by show WdPost _ _ _ _ _ _; rw [HE1.out]; exact ⟨oth_fault HS2.out HR.out nd.pos hWF, rfl, hq.1.drew⟩)
            · have hd1 : decide (nd.name ∈ T1) = false := decide_eq_false hin
              rw [hd1]
              have d1 := hK3.cell 1 _ rfl
              have d3 := hK3.cell 3 _ rfl
              have HM0 : Hid (∀ ns' l', conM (bs nd.name) nd.kids 0 N1 l1 = .ok (ns', l') → wdM l ds = decM (ds.drop (kd + 1)) (nd.name :: T1) ns' l') := fun ns' l' h => HDM.out.1.trans (decM_ok _ _ _ _ _ _ _ HKD.out hin h)
              have HM1 : Hid (∀ p, conM (bs nd.name) nd.kids 0 N1 l1 = .error p → wdM l ds = .error p) := fun p h => HDM.out.1.trans (decM_err _ _ _ _ _ _ HKD.out hin h)
              have HCT : Hid (cT + 1 ≤ l.length + (kd + 1) ∧ l1.length + (nd.kids.length + totK (ds.drop (kd + 1))) ≤ 1900000 ∧ cN + (nd.kids.length + totK (ds.drop (kd + 1))) ≤ 1900000) := ⟨by have := HDM.out; omega, HDM.out.2.1, HDM.out.2.2.2⟩
              have hkl : (nd.kids.length : Int) ≤ 1900000 := by have := HCT.out; omega
              clear hb2 hs2 hS2 hK3 HC1 HVS HVK HV HDM hd1 c0 c1 c2 c3 c4 hin
              go_wp2
              go_loopg [0, 51] nd.kids.length (fun gh v0 vj wr => ∃ (j : Nat) (o3 : Option Addr) (n3 cap3 : Nat) (l3 : List CT) (N3 : List (List UInt8)) (c3 : Nat), v0 = .slice o3 n3 cap3 ∧ vj = .int .i64 j ∧ j ≤ nd.kids.length ∧ nd.kids.length - j ≤ gh ∧ Hid (WdS w base R g0 wr (.slice o3 n3 cap3) l3 (nd.name :: T1) N3 (cT + 1) c3 ∧ Blk wr wo.heap.size #[.int .i64 nd.kind, .string (bs nd.name), .int .i64 nd.num, .slice o2 nd.kids.length cap2, .int .i64 nd.pos] 27 ∧ conM (bs nd.name) nd.kids 0 N1 l1 = conM (bs nd.name) (nd.kids.drop j) j N3 l3 ∧ l3.length + (nd.kids.length - j + totK (ds.drop (kd + 1))) ≤ 1900000 ∧ c3 + (nd.kids.length - j + totK (ds.drop (kd + 1))) ≤ 1900000) ∧ Hid (∀ r, (Value.slice o3 n3 cap3).ownBlock = some r → r ≠ wo.heap.size))
              case atStart => exact ⟨0, o1, n1, cap1, l1, N1, cN, rfl, rfl, Nat.zero_le _, Nat.le_refl _, (⟨HS2.out, HK3.out, rfl, by have := HCT.out; omega, by have := HCT.out; omega⟩ : _ ∧ _ ∧ _ ∧ _ ∧ _), HNB0⟩
              case round =>
                clear HS2 HK3 d1 d3 hw2
                obtain ⟨j, o3, n3, cap3, l3, N3, cn3, rfl, rfl, hj, hgj, HJ, HNB⟩ := hrel
                by_cases hltj : j < nd.kids.length
                · have hltjz : (j : Int) < (nd.kids.length : Int) := by omega
                  have hJ := HJ.out.1
                  have hJk := HJ.out.2.1
                  obtain ⟨g4, off4, o4, cap4, ho4, hgb4, c0', c1', c2', c3', c4', _, hnl4⟩ := (HK2.out w (Below.refl base w)).kid j hltj
                  have c0 := (hJ.bel.cell (p := ⟨g4, off4 + j * 5, none⟩) hgb4).trans c0'
                  have c1 := (hJ.bel.cell (p := ⟨g4, off4 + j * 5 + 1, none⟩) hgb4).trans c1'
                  have c2 := (hJ.bel.cell (p := ⟨g4, off4 + j * 5 + 2, none⟩) hgb4).trans c2'
                  have c3 := (hJ.bel.cell (p := ⟨g4, off4 + j * 5 + 3, none⟩) hgb4).trans c3'
                  have c4 := (hJ.bel.cell (p := ⟨g4, off4 + j * 5 + 4, none⟩) hgb4).trans c4'
                  clear c0' c1' c2' c3' c4'
                  have hgl4 : g4 < wr.heap.size := by have := hJ.size; have := hJ.le; omega
                  have HNx : Hid (nd.kids.drop j = nd.kids[j] :: nd.kids.drop (j + 1)) := nd_next nd.kids j hltj
                  generalize nd.kids[j] = cd at c0 c1 c2 c3 c4 hnl4 HNx
                  subst ho4
                  obtain ⟨V3, hV3⟩ : ∃ V3, wr.alloc (.cells #[.int .i64 cd.kind, .string (bs cd.name), .int .i64 cd.num, .slice o4 cd.kids.length cap4, .int .i64 cd.pos] 27) = V3 := ⟨_, rfl⟩
                  have HV3 : Hid (wr.alloc (.cells #[.int .i64 cd.kind, .string (bs cd.name), .int .i64 cd.num, .slice o4 cd.kids.length cap4, .int .i64 cd.pos] 27) = V3) := hV3
                  have hV3S : WdS w base R g0 V3 (.slice o3 n3 cap3) l3 (nd.name :: T1) N3 (cT + 1) cn3 := by rw [← hV3]; exact hJ.alloc _
                  have hV3k : Blk V3 wr.heap.size #[.int .i64 cd.kind, .string (bs cd.name), .int .i64 cd.num, .slice o4 cd.kids.length cap4, .int .i64 cd.pos] 27 := by rw [← hV3]; exact Blk.new wr _ _
                  have hV3n : Blk V3 wo.heap.size #[.int .i64 nd.kind, .string (bs nd.name), .int .i64 nd.num, .slice (some ⟨g4, off4, none⟩) nd.kids.length cap2, .int .i64 nd.pos] 27 := by rw [← hV3]; exact hJk.alloc _
                  have HV3S : Hid (WdS w base R g0 V3 (.slice o3 n3 cap3) l3 (nd.name :: T1) N3 (cT + 1) cn3 ∧ Blk V3 wr.heap.size #[.int .i64 cd.kind, .string (bs cd.name), .int .i64 cd.num, .slice o4 cd.kids.length cap4, .int .i64 cd.pos] 27 ∧ Blk V3 wo.heap.size #[.int .i64 nd.kind, .string (bs nd.name), .int .i64 nd.num, .slice (some ⟨g4, off4, none⟩) nd.kids.length cap2, .int .i64 nd.pos] 27) := ⟨hV3S, hV3k, hV3n⟩
                  have HC3 : Hid (Calls Tryz.prog 60 #[.string (bs cd.name), .pointer (some ⟨R + 4, 0, none⟩)] V3 fun e w' => e = .returned (.bool (!decide (cd.name ∈ N3))) ∧ But (R + 3) V3 w' ∧ Seen w' (R + 3) (cn3 + 1) (cd.name :: N3)) := HN1.out N3 (bs cd.name) _ _ _ V3 hnl4 (hV3S.nb.cell 0 _ rfl) hV3S.nb.lt hV3S.ns (by have := HJ.out.2.2.2.2; omega)
                  have HJM : Hid (conM (bs nd.name) nd.kids 0 N1 l1 = conM (bs nd.name) (cd :: nd.kids.drop (j + 1)) j N3 l3 ∧ l3.length + (nd.kids.length - j + totK (ds.drop (kd + 1))) ≤ 1900000 ∧ cn3 + (nd.kids.length - j + totK (ds.drop (kd + 1))) ≤ 1900000) := by
                    obtain ⟨_, _, q1, q2, q3⟩ := HJ.out
                    rw [HNx.out] at q1
                    exact ⟨q1, q2, q3⟩
                  have hB3 : wr.heap.size ≠ R + 3 := by have := hJ.size; omega
                  have hwr3 : wo.heap.size < wr.heap.size := hJk.lt
                  clear hJ hJk hV3S hV3k hV3n hV3 HJ HNx hnl4
                  go_wp2_with (go_at_fn 60; fail)
                  rw [HV3.out]
                  refine HC3.out.mono ?_
                  rintro e w5 ⟨rfl, hb5, hs5⟩
                  have hS5 := HV3S.out.1.putN hb5 hs5
                  have hK5 : Blk w5 wr.heap.size #[.int .i64 cd.kind, .string (bs cd.name), .int .i64 cd.num, .slice o4 cd.kids.length cap4, .int .i64 cd.pos] 27 := HV3S.out.2.1.same (hb5.block _ HV3S.out.2.1.lt hB3)
                  have hN5 : Blk w5 wo.heap.size #[.int .i64 nd.kind, .string (bs nd.name), .int .i64 nd.num, .slice (some ⟨g4, off4, none⟩) nd.kids.length cap2, .int .i64 nd.pos] 27 := HV3S.out.2.2.same (hb5.block _ HV3S.out.2.2.lt hBl.2)
                  have HS5 : Hid (WdS w base R g0 w5 (.slice o3 n3 cap3) l3 (nd.name :: T1) (cd.name :: N3) (cT + 1) (cn3 + 1) ∧ Blk w5 wo.heap.size #[.int .i64 nd.kind, .string (bs nd.name), .int .i64 nd.num, .slice (some ⟨g4, off4, none⟩) nd.kids.length cap2, .int .i64 nd.pos] 27) := ⟨hS5, hN5⟩
                  have hw5 := hK5.lt
                  have hw5n := hN5.lt
                  by_cases hin3 : cd.name ∈ N3
                  · have hd3 : decide (cd.name ∈ N3) = true := decide_eq_true hin3
                    rw [hd3]
                    have HE3 : Hid (wdM l ds = .error cd.pos) := HM1.out _ (HJM.out.1.trans (conM_two _ _ _ _ _ _ hin3))
                    have z0 := hS5.fb.cell 0 _ rfl
                    have z1 := hS5.fb.cell 1 _ rfl
                    have y0 := hS5.fb.frozen 0
                    have y1 := hS5.fb.frozen 1
                    have hlt3 := hS5.fb.lt
                    have d4 := hK5.cell 4 _ rfl
                    clear hb5 hs5 hS5 hK5 hN5 HC3 HV3S HV3 HJM hd3 c0 c1 c2 c3 c4 hin3
                    go_wp2_with fail
                    go_region
                    all_goals go_wp2
                    have hq := HS5.out.1.fault cd.pos
                    generalize hWF : (w5.setCell ⟨R, 0, none⟩ (.int .i64 8)).setCell ⟨R, 1, none⟩ (.int .i64 cd.pos) = WF at hq ⊢
                    have g0' : WF.drew.cell? ⟨R, 0, none⟩ = some (.int .i64 8) := hq.2.cell 0 _ rfl
                    have g1' : WF.drew.cell? ⟨R, 1, none⟩ = some (.int .i64 cd.pos) := hq.2.cell 1 _ rfl
                    exact bodyPost_ret (v := .tuple #[.slice none 0 0, .agg #[.int .i64 8, .int .i64 cd.pos]]) (by simp [results, Tryz.results32, go_sem, g0', g1']) rfl (by show WdPost _ _ _ _ _ _; rw [HE3.out]; exact ⟨oth_fault HS5.out.1 HR.out cd.pos hWF, rfl, hq.1.drew⟩)
                  · have hd3 : decide (cd.name ∈ N3) = false := decide_eq_false hin3
                    rw [hd3]
                    have HJ3 : Hid (conM (bs nd.name) nd.kids 0 N1 l1 = conM (bs nd.name) (nd.kids.drop (j + 1)) (j + 1) (cd.name :: N3) (l3 ++ [(bs cd.name, cd.num, bs nd.name, (j : Int))]) ∧ l3.length + (nd.kids.length - j + totK (ds.drop (kd + 1))) ≤ 1900000 ∧ cn3 + (nd.kids.length - j + totK (ds.drop (kd + 1))) ≤ 1900000) := ⟨HJM.out.1.trans (conM_go _ _ _ _ _ _ hin3), HJM.out.2⟩
                    have k1 := hK5.cell 1 _ rfl
                    have k2 := hK5.cell 2 _ rfl
                    have k3 := hN5.cell 1 _ rfl
                    have HW5 : Hid (base ≤ w5.heap.size) := by show _ ≤ _; have := hS5.size; have := hS5.le; omega
                    clear hb5 hs5 hS5 hK5 hN5 HC3 HV3S HV3 HJM hd3 c0 c1 c2 c3 c4 hin3
                    go_wp2_with (at_builtin; refine appendC rfl _ _ rfl base (.slice o3 n3 cap3) l3 (bs cd.name, cd.num, bs nd.name, (j : Int)) w5.heap.size rfl (HS5.out.1.row.below ((Below.refl _ _).alloc (Nat.le_refl _) _)) rfl (Blk.new w5 _ _) (by have := HJ3.out; omega) (by have := HW5.out; simp; omega) ?_; intro v' w6 hr6 hg6 ha6; obtain ⟨o6, c6, hv6⟩ := hr6.form; subst hv6; have HS6 : Hid ((WdS w base R g0 w6 (.slice o6 (l3 ++ [(bs cd.name, cd.num, bs nd.name, (j : Int))]).length c6) (l3 ++ [(bs cd.name, cd.num, bs nd.name, (j : Int))]) (nd.name :: T1) (cd.name :: N3) (cT + 1) (cn3 + 1) ∧ Blk w6 wo.heap.size #[.int .i64 nd.kind, .string (bs nd.name), .int .i64 nd.num, .slice (some ⟨g4, off4, none⟩) nd.kids.length cap2, .int .i64 nd.pos] 27) ∧ ∀ r, (Value.slice o6 (l3 ++ [(bs cd.name, cd.num, bs nd.name, (j : Int))]).length c6).ownBlock = some r → r ≠ wo.heap.size) := wd_app HS5.out HNB.out hg6 ha6 hr6; clear hr6 hg6 ha6)
                    go_roundg (nd.kids.length - (j + 1))
                    case measure => omega
                    case rel =>
                      have h6 := HS6.out
                      rw [List.length_append] at h6
                      have h3 := HJ3.out
                      have hlen : (l3 ++ [(bs cd.name, cd.num, bs nd.name, (j : Int))]).length = l3.length + 1 := List.length_append
                      exact ⟨j + 1, o6, l3.length + 1, c6, l3 ++ [(bs cd.name, cd.num, bs nd.name, (j : Int))], cd.name :: N3, cn3 + 1, rfl, by go_num, by omega, Nat.le_refl _, ⟨h6.1.1, h6.1.2, h3.1, by rw [hlen]; omega, by omega⟩, h6.2⟩
                · have hltjz : ¬ (j : Int) < (nd.kids.length : Int) := by omega
                  have hje : j = nd.kids.length := by omega
                  have HF3 : Hid (WdS w base R g0 wr (.slice o3 n3 cap3) l3 (nd.name :: T1) N3 (cT + 1) cn3 ∧ wdM l ds = decM (ds.drop (kd + 1)) (nd.name :: T1) N3 l3 ∧ l3.length + totK (ds.drop (kd + 1)) ≤ 1900000 ∧ cT + 1 ≤ l.length + (kd + 1) ∧ cn3 + totK (ds.drop (kd + 1)) ≤ 1900000) := by
                    obtain ⟨q0, _, q1, q2, q3⟩ := HJ.out
                    have hc : conM (bs nd.name) nd.kids 0 N1 l1 = .ok (N3, l3) := by rw [q1, hje, List.drop_length]; rfl
                    exact ⟨q0, HM0.out _ _ hc, by omega, HCT.out.1, by omega⟩
                  clear HJ
                  go_wp2
                  go_roundg (ds.length - (kd + 1))
                  case measure => omega
                  case rel => exact ⟨kd + 1, o3, n3, cap3, l3, _, N3, cT + 1, cn3, rfl, by go_num, by omega, Nat.le_refl _, HF3⟩
          · have hkz : (nd.kind != 2) = true := by simpa using hkind
            have HF2 : Hid (WdS w base R g0 (wr.alloc (.cells #[.int .i64 nd.kind, .string (bs nd.name), .int .i64 nd.num, .slice o2 nd.kids.length cap2, .int .i64 nd.pos] 27)) (.slice o1 n1 cap1) l1 T1 N1 cT cN ∧ wdM l ds = decM (ds.drop (kd + 1)) T1 N1 l1 ∧ l1.length + totK (ds.drop (kd + 1)) ≤ 1900000 ∧ cT ≤ l.length + (kd + 1) ∧ cN + totK (ds.drop (kd + 1)) ≤ 1900000) := by
              obtain ⟨_, q1, q2, q3, q4⟩ := HD.out
              have hN := HN.out
              rw [hN.1, decM_skip _ _ _ _ _ hkind] at q1
              exact ⟨hD.alloc _, q1, by omega, by omega, by omega⟩
            clear hD hVS hVk HVS HVK HV hV HD
            go_wp2
            go_roundg (ds.length - (kd + 1))
            case measure => omega
            case rel => exact ⟨kd + 1, o1, n1, cap1, l1, T1, N1, cT, cN, rfl, by go_num, by omega, Nat.le_refl _, HF2⟩
        · have hltdz : ¬ (kd : Int) < (ds.length : Int) := by omega
          have hkd2 : kd = ds.length := by omega
          have hR : wdM l ds = .ok l1 := by rw [HD.out.2.1, hkd2, List.drop_length]; rfl
          have hD := HD.out.1
          have z0 := hD.fb.cell 0 _ rfl
          have z1 := hD.fb.cell 1 _ rfl
          have y0 := hD.fb.frozen 0
          have y1 := hD.fb.frozen 1
          have hlt3 := hD.fb.lt
          have HR2 : Hid (wdM l ds = .ok l1) := hR
          have HQ : Hid (WdS w base R g0 wr (.slice o1 n1 cap1) l1 T1 N1 cT cN) := hD
          clear hD hR HD
          go_wp2
          have hq := HQ.out.done
          generalize hWF : (wr.setCell ⟨R, 0, none⟩ (.int .i64 0)).setCell ⟨R, 1, none⟩ (.int .i64 0) = WF at hq ⊢
          have g0' : WF.cell? ⟨R, 0, none⟩ = some (.int .i64 0) := hq.2.1.cell 0 _ rfl
          have g1' : WF.cell? ⟨R, 1, none⟩ = some (.int .i64 0) := hq.2.1.cell 1 _ rfl
          exact bodyPost_ret (v := .tuple #[.slice o1 n1 cap1, .agg #[.int .i64 0, .int .i64 0]]) (by simp [results, Tryz.results32, go_sem, g0', g1']) rfl (by show WdPost _ _ _ _ _ _; rw [HR2.out]; exact ⟨oth_done HQ.out HR.out hWF, _, rfl, hq.2.2, hq.1, fun r hr => by have := HQ.out.ne r hr; have := HR.out; omega⟩)
end Go.Proofs.YtdbpggncpkocaaaGreatDoor
