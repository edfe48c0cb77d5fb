/-
  Package world: a world in memory, its small functions.
-/
import Derived.Test.YtkjbdjobglnphaaWa
import Derived.Conc.LoneSelectN
import Derived.Laws.Rows
import Derived.LaidEqlPtr
namespace Go.Proofs.Ytkjbdjobglnphaa
open Go.RowKit Go.Shelf Go.Maps Go.Conc
set_option linter.unusedVariables false

def Blk (W : World) (B : Nat) (vs : Array Value) (T : TypeId) : Prop := W.heap[B]? = some (.cells vs T (0, 0))
theorem Blk.lt {W : World} {B : Nat} {vs : Array Value} {T : TypeId} (h : Blk W B vs T) : B < W.heap.size := (Array.getElem?_eq_some_iff.1 h).1
theorem Blk.cell {W : World} {B : Nat} {vs : Array Value} {T : TypeId} (h : Blk W B vs T) (j : Nat) (v : Value) (hv : vs[j]? = some v) : W.cell? ⟨B, j, none⟩ = some v := by
  simp [World.cell?, show W.heap[B]? = _ from h, hv]
theorem Blk.frozen {W : World} {B : Nat} {vs : Array Value} {T : TypeId} (h : Blk W B vs T) (j : Nat) : W.frozen? ⟨B, j, none⟩ = false := by
  simp [World.frozen?, show W.heap[B]? = _ from h]
theorem Blk.at {W W' : World} {B : Nat} {vs : Array Value} {T : TypeId} (h : Blk W B vs T) (hb : W'.heap[B]? = W.heap[B]?) : Blk W' B vs T := by
  unfold Blk; rw [hb]; exact h
theorem Blk.below {W W' : World} {B n : Nat} {vs : Array Value} {T : TypeId} (h : Blk W B vs T) (hb : Below n W W') (hn : B < n) : Blk W' B vs T := h.at (hb.block B hn)
theorem Blk.new (W : World) (vs : Array Value) (T : TypeId) : Blk (W.alloc (.cells vs T)) W.heap.size vs T := by
  show (W.heap.push _)[W.heap.size]? = _
  exact Array.getElem?_push_size
theorem Blk.alloc {W : World} {B : Nat} {vs : Array Value} {T : TypeId} (h : Blk W B vs T) (o : Obj) : Blk (W.alloc o) B vs T := h.at (Below.heap_alloc W o B h.lt)
theorem Blk.set {W : World} {B : Nat} {vs : Array Value} {T : TypeId} (h : Blk W B vs T) (j : Nat) (u : Value) : Blk (W.setCell ⟨B, j, none⟩ u) B (vs.setIfInBounds j u) T := by
  obtain ⟨hlt, hk⟩ := Array.getElem?_eq_some_iff.1 h
  show (W.heap.modify B _)[B]? = _
  rw [Array.getElem?_eq_getElem (by rw [Array.size_modify]; exact hlt), Array.getElem_modify_self, hk]
  rfl
theorem Blk.all5 {W : World} {B : Nat} {v0 v1 v2 v3 v4 : Value} {T : TypeId} (h : Blk W B #[v0, v1, v2, v3, v4] T) : W.cell? ⟨B, 0, none⟩ = some v0 ∧ W.cell? ⟨B, 1, none⟩ = some v1 ∧ W.cell? ⟨B, 2, none⟩ = some v2 ∧ W.cell? ⟨B, 3, none⟩ = some v3 ∧ W.cell? ⟨B, 4, none⟩ = some v4 ∧ W.frozen? ⟨B, 0, none⟩ = false ∧ W.frozen? ⟨B, 1, none⟩ = false ∧ W.frozen? ⟨B, 2, none⟩ = false ∧ W.frozen? ⟨B, 3, none⟩ = false ∧ W.frozen? ⟨B, 4, none⟩ = false :=
  ⟨h.cell 0 _ rfl, h.cell 1 _ rfl, h.cell 2 _ rfl, h.cell 3 _ rfl, h.cell 4 _ rfl, h.frozen 0, h.frozen 1, h.frozen 2, h.frozen 3, h.frozen 4⟩
theorem Blk.all3 {W : World} {B : Nat} {v0 v1 v2 : Value} {T : TypeId} (h : Blk W B #[v0, v1, v2] T) : W.cell? ⟨B, 0, none⟩ = some v0 ∧ W.cell? ⟨B, 1, none⟩ = some v1 ∧ W.cell? ⟨B, 2, none⟩ = some v2 ∧ W.frozen? ⟨B, 0, none⟩ = false ∧ W.frozen? ⟨B, 1, none⟩ = false ∧ W.frozen? ⟨B, 2, none⟩ = false := ⟨h.cell 0 _ rfl, h.cell 1 _ rfl, h.cell 2 _ rfl, h.frozen 0, h.frozen 1, h.frozen 2⟩

/-- All blocks that lay there stay, but those in S. -/
structure Oth (S : Nat → Prop) (w W : World) : Prop where
  os : W.os = w.os
  tape : W.tape = w.tape
  output : W.output = w.output
  size : w.heap.size ≤ W.heap.size
  block : ∀ k, k < w.heap.size → ¬ S k → W.heap[k]? = w.heap[k]?
theorem Oth.refl (S : Nat → Prop) (w : World) : Oth S w w := ⟨rfl, rfl, rfl, Nat.le_refl _, fun _ _ _ => rfl⟩
theorem Oth.trans {S S2 : Nat → Prop} {a b c : World} (h : Oth S a b) (k : Oth S2 b c) (hs : ∀ j, j < a.heap.size → S2 j → S j) : Oth S a c :=
  ⟨k.os.trans h.os, k.tape.trans h.tape, k.output.trans h.output, Nat.le_trans h.size k.size, fun j hj hn => (k.block j (Nat.lt_of_lt_of_le hj h.size) (fun h2 => hn (hs j hj h2))).trans (h.block j hj hn)⟩
theorem Oth.below {S : Nat → Prop} {a b : World} (h : Oth S a b) {n : Nat} (hn : n ≤ a.heap.size) (hs : ∀ j, S j → n ≤ j) : Below n a b :=
  ⟨h.os, h.tape, h.output, h.size, fun k hk => h.block k (by omega) (fun h2 => by have := hs k h2; omega)⟩
theorem Oth.of_below {S : Nat → Prop} {a b : World} (h : Below a.heap.size a b) : Oth S a b := ⟨h.os, h.tape, h.output, h.size, fun k hk _ => h.block k hk⟩
theorem Oth.drew {S : Nat → Prop} {a b : World} (h : Oth S a b) : Oth S a b.drew := ⟨h.os, h.tape, h.output, h.size, h.block⟩
theorem Oth.alloc {S : Nat → Prop} {a b : World} (h : Oth S a b) (o : Obj) : Oth S a (b.alloc o) :=
  ⟨h.os, h.tape, h.output, Nat.le_trans h.size (by simp), fun k hk hn => (Below.heap_alloc b o k (Nat.lt_of_lt_of_le hk h.size)).trans (h.block k hk hn)⟩
theorem Oth.setCell {S : Nat → Prop} {a b : World} (h : Oth S a b) {p : Addr} (hp : p.block < a.heap.size → S p.block) (u : Value) : Oth S a (b.setCell p u) := by
  have hb : Below 0 b (b.setCell p u) := (Below.refl 0 b).setCell (Nat.zero_le _) u
  refine ⟨hb.os.trans h.os, hb.tape.trans h.tape, hb.output.trans h.output, Nat.le_trans h.size hb.size, fun k hk hn => ?_⟩
  rw [Below.heap_setCell b p u k (fun e => hn (by rw [e]; exact hp (by rw [← e]; exact hk)))]
  exact h.block k hk hn
theorem Oth.setChan {S : Nat → Prop} {a b : World} (h : Oth S a b) {c : Nat} (hc : c < a.heap.size → S c) (cap : Nat) (buf : Array Value) (cl : Bool) (s r : Nat) (tm : Bool) : Oth S a (b.setChan c cap buf cl s r tm) := by
  refine ⟨h.os, h.tape, h.output, by rw [size_setChan]; exact h.size, fun k hk hn => ?_⟩
  have : (b.setChan c cap buf cl s r tm).heap[k]? = b.heap[k]? := by
    simp only [World.setChan]
    rw [Array.getElem?_setIfInBounds_ne (fun e => hn (by rw [← e]; exact hc (by rw [e]; exact hk)))]
  rw [this]
  exact h.block k hk hn

/-- Bytes as values. -/
def bvs (u : List Int) : Array Value := (u.map fun x => Value.int .u8 x).toArray
theorem bvs_size (u : List Int) : (bvs u).size = u.length := by simp [bvs]
theorem bvs_push (u : List Int) (x : Int) : (bvs u).push (.int .u8 x) = bvs (u ++ [x]) := by simp [bvs]
theorem bvs_head (x : Int) (u : List Int) : (bvs (x :: u)).getD 0 undef = .int .u8 x := by simp [bvs]
theorem bvs_tail (x : Int) (u : List Int) : (bvs (x :: u)).extract 1 (bvs (x :: u)).size = bvs u := by
  simp [bvs]
  rw [List.take_of_length_le (by simp)]
def ChAt (W : World) (C cap : Nat) (u : List Int) : Prop := ∃ s r, W.heap[C]? = some (.chan cap (bvs u) false s r false)
theorem ChAt.lt {W : World} {C cap : Nat} {u : List Int} (h : ChAt W C cap u) : C < W.heap.size := by
  obtain ⟨s, r, h⟩ := h; exact (Array.getElem?_eq_some_iff.1 h).1
theorem ChAt.at {W W' : World} {C cap : Nat} {u : List Int} (h : ChAt W C cap u) (hb : W'.heap[C]? = W.heap[C]?) : ChAt W' C cap u := by
  obtain ⟨s, r, h⟩ := h; exact ⟨s, r, by rw [hb]; exact h⟩
theorem ChAt.ne {W : World} {C cap B : Nat} {u : List Int} {vs : Array Value} {T : TypeId} (h : ChAt W C cap u) (hb : Blk W B vs T) : C ≠ B := by
  obtain ⟨s, r, h⟩ := h
  intro e
  subst e
  have h2 : W.heap[C]? = some (.cells vs T (0, 0)) := hb
  rw [h] at h2
  cases h2

/-- A world in memory: at block P, its channel at C; u: what is unread; fed; has it a mark; what was written. -/
structure WdAt (W : World) (P C cap : Nat) (u : List Int) (fed : Nat) (en : Bool) (o : Option Addr) (n c : Nat) : Prop where
  blk : Blk W P #[.pointer (some ⟨P, 0, none⟩), .chan (some C), .int .i64 (fed : Int), .bool en, .slice o n c] 43
  ch : ChAt W C cap u
  room : u.length ≤ cap
  le : u.length ≤ fed
  most : fed ≤ 1048576
  capb : cap ≤ 2097152
theorem WdAt.at {W W' : World} {P C cap : Nat} {u : List Int} {fed : Nat} {en : Bool} {o : Option Addr} {n c : Nat} (h : WdAt W P C cap u fed en o n c) (h1 : W'.heap[P]? = W.heap[P]?) (h2 : W'.heap[C]? = W.heap[C]?) : WdAt W' P C cap u fed en o n c :=
  ⟨h.blk.at h1, h.ch.at h2, h.room, h.le, h.most, h.capb⟩
theorem WdAt.below {W W' : World} {P C cap : Nat} {u : List Int} {fed : Nat} {en : Bool} {o : Option Addr} {n c : Nat} (h : WdAt W P C cap u fed en o n c) (hb : Below W.heap.size W W') : WdAt W' P C cap u fed en o n c :=
  h.at (hb.block _ h.blk.lt) (hb.block _ h.ch.lt)

theorem mkChan (n : Nat) (hn : n ≤ 2097152) (w : World) : (Instr.makeChan 41 (.int .i64 (n : Int))).run Try.prog w = .ok (.chan (some w.heap.size)) (w.alloc (.chan n #[] false 0 0 false)) := by
  obtain ⟨i, hi, hb⟩ : ∃ i, Try.prog.info? 5 = some i ∧ i.bytes = 1 := ⟨_, rfl, rfl⟩
  exact run_makeChan (P := Try.prog) (w := w) Try.underlying41 hi .i64 n (by omega) (by rw [hb]; omega)

set_option maxRecDepth 100000 in
set_option maxHeartbeats 1000000 in
theorem new_c (w : World) : Calls Try.prog 8 #[] w fun r W' => r = .returned (.pointer (some ⟨w.heap.size + 1, 0, none⟩)) ∧ WdAt W' (w.heap.size + 1) w.heap.size 64 [] 0 false none 0 0 ∧ Below w.heap.size w W' := by
  have hm := mkChan 64 (by decide) w
  simp only [Int.cast_ofNat_Int] at hm
  go_enter Try.func8, Try.ntmps8
  go_wp2
  go_ret
  refine ⟨rfl, ⟨?_, ⟨0, 0, ?_⟩, Nat.zero_le _, Nat.zero_le _, Nat.zero_le _, by decide⟩, ((Below.refl _ w).alloc (Nat.le_refl _) _).alloc (by simp) _⟩
  · have := Blk.new (w.alloc (.chan 64 #[] false 0 0 false)) #[.pointer (some ⟨w.heap.size + 1, 0, none⟩), .chan (some w.heap.size), .int .i64 0, .bool false, .slice none 0 0] 43
    simpa using this
  · rw [Below.heap_alloc _ _ _ (by simp)]
    exact Array.getElem?_push_size
theorem ptrSame (P : Nat) (w : World) : (binOp .eql 23 (.pointer (some ⟨P, 0, none⟩)) (.pointer (some ⟨P, 0, none⟩))).run Try.prog w = .ok (.bool true) w := by
  obtain ⟨j, hj⟩ : ∃ j, Try.prog.info? 43 = some j := ⟨_, rfl⟩
  exact run_eql_ptr_same w ⟨P, 0, none⟩ Try.underlying23 hj
set_option maxRecDepth 100000 in
set_option maxHeartbeats 1000000 in
theorem made_c {P C cap : Nat} {u : List Int} {fed : Nat} {en : Bool} {o : Option Addr} {n c : Nat} (w : World) (h : WdAt w P C cap u fed en o n c) : Calls Try.prog 22 #[.pointer (some ⟨P, 0, none⟩)] w fun r W' => r = .returned (.bool true) ∧ W' = w := by
  obtain ⟨c0, c1, c2, c3, c4, f0, f1, f2, f3, f4⟩ := h.blk.all5
  clear h
  have he := ptrSame P
  go_enter Try.func22, Try.ntmps22
  go_wp2
  go_ret
  exact ⟨rfl, rfl⟩

theorem lenChan {W : World} {C cap : Nat} {u : List Int} (h : ChAt W C cap u) : (Builtin.len_ #[41] 3 #[.chan (some C)]).run Try.prog W = .ok (.int .i64 (u.length : Int)) W := by
  obtain ⟨s, r, h⟩ := h
  have := run_len_chan (P := Try.prog) (w := W) 41 3 Try.underlying41 h
  rw [bvs_size] at this
  exact this
theorem capChan {W : World} {C cap : Nat} {u : List Int} (h : ChAt W C cap u) : (Builtin.cap_ #[41] 3 #[.chan (some C)]).run Try.prog W = .ok (.int .i64 (cap : Int)) W := by
  obtain ⟨s, r, h⟩ := h
  exact run_cap_chan (P := Try.prog) (w := W) 41 3 Try.underlying41 h

/-- What a world has. -/
def stockV (fed left : Nat) (en : Bool) : Value := .agg #[.int .i64 (fed : Int), .int .i64 (left : Int), .bool en]
set_option maxRecDepth 100000 in
set_option maxHeartbeats 1000000 in
theorem has_c {P C cap : Nat} {u : List Int} {fed : Nat} {en : Bool} {o : Option Addr} {n c : Nat} (w : World) (h : WdAt w P C cap u fed en o n c) : Calls Try.prog 24 #[.pointer (some ⟨P, 0, none⟩)] w fun r W' => r = .returned (stockV fed u.length en) ∧ Below w.heap.size w W' := by
  have hdep : Try.prog.follows Departure.mixedOrders = true := by kernel_rfl
  have HM : Hid (∀ W : World, Below w.heap.size w W → Calls Try.prog 22 #[.pointer (some ⟨P, 0, none⟩)] W fun r W' => r = .returned (.bool true) ∧ W' = W) := fun W hW => made_c W (h.below hW)
  have h1 : WdAt (w.alloc (.cells #[.int .i64 0, .int .i64 0, .bool false] 54)) P C cap u fed en o n c := h.below ((Below.refl _ w).alloc (Nat.le_refl _) _)
  obtain ⟨c0, c1, c2, c3, c4, f0, f1, f2, f3, f4⟩ := h.blk.all5
  have hl := lenChan h1.ch
  have hl2 := lenChan (W := (w.alloc (.cells #[.int .i64 0, .int .i64 0, .bool false] 54)).drew) h1.ch
  have hP := h.blk.lt
  generalize u.length = m at *
  clear h h1
  go_enter Try.func24, Try.ntmps24
  go_wp2_with (go_at_call 22; fail)
  refine (HM.out _ ((Below.refl _ w).alloc (Nat.le_refl _) _)).mono ?_
  rintro r w1 ⟨rfl, rfl⟩
  go_wp2
  go_region
  go_wp2
  refine bodyPost_ret (results_cell_row rfl _ _ w.heap.size 54 #[.int .i64 (fed : Int), .int .i64 (m : Int), .bool en] _ _ rfl (Blk.new w _ _) Try.underlying54 rfl rfl) rfl ⟨rfl, ((Below.refl _ w).alloc (Nat.le_refl _) _).drew⟩
end Go.Proofs.Ytkjbdjobglnphaa
