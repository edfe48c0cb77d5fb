/-
  Layout: what a stream's changes touch; push and pop, by contracts.
-/
import Derived.Test.YtldpldcfgkceeaaGreatDoorQLayA
import Derived.Maps.AppendAt
namespace Go.Proofs.YtldpldcfgkceeaaGreatDoor
open Go.RowKit Go.Shelf Go.Maps
set_option linter.unusedVariables false

/-- All blocks stay but one, and a row's. -/
structure Chg (w W : World) (P : Nat) (rb : Option Nat) : Prop where
  os : W.os = w.os
  tape : W.tape = w.tape
  output : W.output = w.output
  size : w.heap.size ≤ W.heap.size
  block : ∀ k, k < w.heap.size → k ≠ P → some k ≠ rb → W.heap[k]? = w.heap[k]?
/-- A row's block afterwards: the same one, or a new one. -/
def Nxt (w : World) (rb rb' : Option Nat) : Prop := rb' = rb ∨ ∃ k, rb' = some k ∧ w.heap.size ≤ k
theorem Chg.of_below {w W : World} (h : Below w.heap.size w W) (P : Nat) (rb : Option Nat) : Chg w W P rb := ⟨h.os, h.tape, h.output, h.size, fun k hk _ _ => h.block k hk⟩
theorem Chg.of_grown {w W : World} {rb : Option Nat} (h : w.grownBy W rb) (P : Nat) : Chg w W P rb := ⟨h.os, h.tape, h.output, h.size, fun k hk _ hr => h.block k hk hr⟩
theorem Chg.refl (w : World) (P : Nat) (rb : Option Nat) : Chg w w P rb := ⟨rfl, rfl, rfl, Nat.le_refl _, fun _ _ _ _ => rfl⟩
theorem Chg.trans {w W V : World} {P : Nat} {rb rb' : Option Nat} (h : Chg w W P rb) (k : Chg W V P rb') (hn : Nxt w rb rb') : Chg w V P rb := by
  refine ⟨k.os.trans h.os, k.tape.trans h.tape, k.output.trans h.output, Nat.le_trans h.size k.size, fun i hi h1 h2 => ?_⟩
  refine (k.block i (Nat.lt_of_lt_of_le hi h.size) h1 ?_).trans (h.block i hi h1 h2)
  rcases hn with rfl | ⟨j, rfl, hj⟩
  · exact h2
  · intro e
    rw [Option.some.injEq] at e
    omega
theorem Chg.set {w W : World} {P : Nat} {rb : Option Nat} (h : Chg w W P rb) (i : Nat) (u : Value) : Chg w (W.setCell ⟨P, i, none⟩ u) P rb :=
  ⟨h.os, h.tape, h.output, by rw [show (W.setCell ⟨P, i, none⟩ u).heap.size = W.heap.size by simp [World.setCell]]; exact h.size, fun k hk h1 h2 => (Below.heap_setCell W ⟨P, i, none⟩ u k h1).trans (h.block k hk h1 h2)⟩
theorem Chg.drew {w W : World} {P : Nat} {rb : Option Nat} (h : Chg w W P rb) : Chg w W.drew P rb := ⟨h.os, h.tape, h.output, h.size, h.block⟩
theorem Chg.below {w W : World} {P B : Nat} {rb : Option Nat} (h : Chg w W P rb) (hP : B ≤ P) (hB : B ≤ w.heap.size) (hr : ∀ k, rb = some k → B ≤ k) : Below B w W :=
  ⟨h.os, h.tape, h.output, h.size, fun k hk => h.block k (by omega) (by omega) (fun e => by have := hr k e.symm; omega)⟩
theorem Nxt.refl (w : World) (rb : Option Nat) : Nxt w rb rb := .inl rfl
theorem Nxt.trans {w W : World} {a b c : Option Nat} (h : Nxt w a b) (k : Nxt W b c) (hs : w.heap.size ≤ W.heap.size) : Nxt w a c := by
  rcases k with rfl | ⟨j, rfl, hj⟩
  · exact h
  · exact .inr ⟨j, rfl, by omega⟩
theorem owns_chg {W V : World} {P : Nat} {rb : Option Nat} {b e z n : Nat} {v : Value} {xs : List Value} (h : W.ownsRow b e z v n xs) (hc : Chg W V P rb) (h1 : v.ownBlock ≠ some P) (h2 : v.ownBlock = none ∨ v.ownBlock ≠ rb) : V.ownsRow b e z v n xs := by
  rcases h with ⟨hl, ⟨rfl, h0⟩ | ⟨g, cap, cur, rfl, hb, hg, h3, h4, h5, h6⟩⟩
  · exact ⟨hl, .inl ⟨rfl, h0⟩⟩
  · refine ⟨hl, .inr ⟨g, cap, cur, rfl, hb, ?_, h3, h4, h5, h6⟩⟩
    have hlt : g < W.heap.size := (Array.getElem?_eq_some_iff.1 hg).1
    have e1 : g ≠ P := fun e => h1 (by simp [Value.ownBlock, e])
    have e2 : some g ≠ rb := by
      rcases h2 with h2 | h2
      · simp [Value.ownBlock] at h2
      · simpa [Value.ownBlock] using h2
    rw [hc.block g hlt e1 e2]
    exact hg
theorem Blk.chg {W V : World} {P B : Nat} {rb : Option Nat} {vs : Array Value} {T : TypeId} (h : Blk W B vs T) (hc : Chg W V P rb) (h1 : B ≠ P) (h2 : some B ≠ rb) : Blk V B vs T := by
  unfold Blk; rw [hc.block B h.lt h1 h2]; exact h
theorem tok_chg {W V : World} {P : Nat} {rb : Option Nat} {o : Option Addr} {l : List M.Tk} (h : TokAt W W.heap.size o l) (hc : Chg W V P rb) (h1 : ∀ a, o = some a → a.block ≠ P ∧ some a.block ≠ rb) : TokAt V V.heap.size o l := by
  rcases h with h | ⟨g, f, ho, hg, h⟩
  · exact .inl h
  · have := h1 _ ho
    refine .inr ⟨g, f, ho, Nat.lt_of_lt_of_le hg hc.size, fun i hi q u hu => ?_⟩
    rw [World.cell?_of_block (a := ⟨g, f + i * 7 + q, none⟩) (hc.block g hg this.1 this.2)]
    exact h i hi q u hu
/-- A row without its last one. -/
theorem owns_pop {W : World} {b g m cap : Nat} {xs : List Value} {x : Value} (h : W.ownsRow b 3 1 (.slice (some ⟨g, 0, none⟩) (m + 1) cap) (m + 1) (xs ++ [x])) : W.ownsRow b 3 1 (.slice (some ⟨g, 0, none⟩) m cap) m xs := by
  have hx : xs.length = m := by have := h.1; simpa using this
  rcases h with ⟨hl, ⟨h, _⟩ | ⟨g', cap', cur, h, hb, hg, h3, h4, h5, h6⟩⟩
  · simp at h
  · simp only [Value.slice.injEq, Option.some.injEq, Addr.mk.injEq] at h
    obtain ⟨⟨rfl, -, -⟩, -, rfl⟩ := h
    refine ⟨by simp [hx], .inr ⟨g, cap, cur, rfl, hb, hg, by omega, h4, h5, ?_⟩⟩
    have : cur.toList.take (m * 1) = (cur.toList.take ((m + 1) * 1)).take m := by rw [List.take_take]; congr 1; omega
    rw [this, h6, ← hx, List.take_left]
theorem own_ge {W : World} {b e z n : Nat} {v : Value} {xs : List Value} (h : W.ownsRow b e z v n xs) : ∀ k, v.ownBlock = some k → b ≤ k := fun k hk => (h.lt k hk).1

theorem owns_form {W : World} {b e z n : Nat} {v : Value} {xs : List Value} (h : W.ownsRow b e z v n xs) : ∃ (o : Option Addr) (c : Nat), v = .slice o n c := by
  rcases h with ⟨_, ⟨rfl, rfl⟩ | ⟨g, cap, cur, h, _⟩⟩
  · exact ⟨none, 0, rfl⟩
  · exact ⟨_, cap, h⟩
theorem Tryz.infoInt : (Tryz.prog.info? 3).map (fun i => (i.zero, i.size, i.bytes)) = some (some (.int .i64 0), 1, 8) := by kernel_rfl

set_option maxHeartbeats 8000000 in
set_option maxRecDepth 100000 in
theorem push_c (P : Nat) (v0 v1 v2 bv v4 : Value) (c n : Nat) (xs : List Value) (hn : n ≤ 100000) (w : World) (h : Blk w P #[v0, v1, v2, bv, v4] 57) (hr : w.ownsRow (P + 1) 3 1 bv n xs) :
    Calls Tryz.prog 74 #[.pointer (some ⟨P, 0, none⟩), .int .i64 (c : Int)] w fun r W' => r = .returned (.tuple #[]) ∧ ∃ bv', Blk W' P #[v0, v1, v2, bv', v4] 57 ∧ W'.ownsRow (P + 1) 3 1 bv' (n + 1) (xs ++ [.int .i64 (c : Int)]) ∧ Chg w W' P bv.ownBlock ∧ Nxt w bv.ownBlock bv'.ownBlock := by
  obtain ⟨c0, c1, c2, c3, c4, f0, f1, f2, f3, f4⟩ := h.all5
  have HB : Hid (Blk w P #[v0, v1, v2, bv, v4] 57) := h
  have HR : Hid (w.ownsRow (P + 1) 3 1 bv n xs) := hr
  have hPl : P < w.heap.size := h.lt
  obtain ⟨i0, hi0, hz0, hz1, hz2⟩ := info_parts Tryz.infoInt
  clear h hr
  go_enter Tryz.func74, Tryz.ntmps74
  go_wp2_with (at_builtin; refine wpList_append_own_at _ rfl _ _ 37 rfl (P + 1) 3 i0 (.int .i64 0) 1 8 Tryz.underlying37 hi0 hz0 hz1 hz2 rfl (by decide) _ _ _ rfl (HR.out.alloc _) ⟨w.heap.size, 0, none⟩ 1 1 [.int .i64 (c : Int)] rfl rfl (cell_one_new _ _ _) (by simp [Value.oneCell']) (by unfold maxLen; omega) (by omega) (by simp; omega) ?_; intro v' w1 hown1 hgrow1 hnil1 hat1; obtain ⟨oo, oc, hv'⟩ := owns_form hown1; subst hv'; have hC1 : Hid (Chg w w1 P bv.ownBlock) := (Chg.of_below ((Below.refl _ w).alloc (Nat.le_refl _) _) _ _).trans (Chg.of_grown hgrow1 P) (Nxt.refl _ _); have hB1 : Hid (Blk w1 P #[v0, v1, v2, bv, v4] 57) := (by show Blk _ _ _ _; unfold Blk; rw [hgrow1.block P (by simp; omega) (fun e => by have := own_ge HR.out P e.symm; omega)]; exact HB.out.alloc _); have hO1 : Hid (w1.ownsRow (P + 1) 3 1 (.slice oo (n + 1) oc) (n + 1) (xs ++ [.int .i64 (c : Int)])) := hown1; have hN1 : Hid (Nxt w bv.ownBlock (Value.slice oo (n + 1) oc).ownBlock) := (by rcases hat1 with h | h; exact .inl h; exact .inr ⟨_, h, by simp⟩); clear hown1 hgrow1 hnil1 hat1; obtain ⟨d0, d1, d2, d3, d4, g0, g1, g2, g3, g4⟩ := hB1.out.all5)
  go_end0
  exact ⟨rfl, _, hB1.out.set1 3 (.slice oo (n + 1) oc) #[v0, v1, v2, .slice oo (n + 1) oc, v4] rfl, ownsRow_setCell_below hO1.out (by show P < P + 1; omega) _, hC1.out.set 3 _, hN1.out⟩

set_option maxHeartbeats 8000000 in
set_option maxRecDepth 100000 in
theorem pop_c (P : Nat) (v0 v1 v2 bv v4 : Value) (m : Nat) (xs : List Value) (x : Value) (hn : m ≤ 100000) (w : World) (h : Blk w P #[v0, v1, v2, bv, v4] 57) (hr : w.ownsRow (P + 1) 3 1 bv (m + 1) (xs ++ [x])) :
    Calls Tryz.prog 54 #[.pointer (some ⟨P, 0, none⟩)] w fun r W' => r = .returned (.tuple #[]) ∧ ∃ bv', Blk W' P #[v0, v1, v2, bv', v4] 57 ∧ W'.ownsRow (P + 1) 3 1 bv' m xs ∧ Chg w W' P bv.ownBlock ∧ bv'.ownBlock = bv.ownBlock := by
  have hdep : Tryz.prog.follows Departure.mixedOrders = true := by kernel_rfl
  obtain ⟨c0, c1, c2, c3, c4, f0, f1, f2, f3, f4⟩ := h.all5
  obtain ⟨g, cap, rfl⟩ := ownsRow_succ' hr
  have hcap : m + 1 ≤ cap := by
    rcases hr with ⟨hl, ⟨h, _⟩ | ⟨g', cap', cur, h, hb, hg, h3, h4, h5, h6⟩⟩
    · simp at h
    · simp only [Value.slice.injEq, Option.some.injEq, Addr.mk.injEq] at h
      obtain ⟨⟨rfl, -, -⟩, -, rfl⟩ := h
      exact h3
  have HB : Hid (Blk w P #[v0, v1, v2, .slice (some ⟨g, 0, none⟩) (m + 1) cap, v4] 57) := h
  have HR : Hid (w.ownsRow (P + 1) 3 1 (.slice (some ⟨g, 0, none⟩) m cap) m xs) := owns_pop hr
  have hPl : P < w.heap.size := h.lt
  clear h hr
  go_enter Tryz.func54, Tryz.ntmps54
  go_wp2
  go_region
  all_goals go_wp2
  go_end0
  exact ⟨rfl, _, (HB.out.set1 3 (.slice (some ⟨g, 0, none⟩) m cap) #[v0, v1, v2, .slice (some ⟨g, 0, none⟩) m cap, v4] rfl).drew, (ownsRow_setCell_below HR.out (by show P < P + 1; omega) _).drew, ((Chg.refl w P _).set 3 _).drew, rfl⟩

end Go.Proofs.YtldpldcfgkceeaaGreatDoor
