/-
  Package prim: its small functions, by contracts.
-/
import Derived.WalkKit
import Derived.Shelf.Abstract
import Derived.Maps.OwnSet
import Derived.Maps.OwnOps
import Derived.BigQuiet
import Derived.Deep.QuietTactic
import Derived.Test.YtijafedpaghhaaaDoorChecked
namespace Go.Proofs.YtijafedpaghhaaaDoor
open Go.RowKit Go.Shelf Go.Maps
set_option linter.unusedVariables false

def Blk (W : World) (B : Nat) (vs : Array Value) (T : TypeId) : Prop := W.heap[B]? = some (.cells vs T (0, 0))
theorem Blk.lt {W : World} {B : Nat} {vs : Array Value} {T : TypeId} (h : Blk W B vs T) : B < W.heap.size := (Array.getElem?_eq_some_iff.1 h).1
theorem Blk.cell {W : World} {B : Nat} {vs : Array Value} {T : TypeId} (h : Blk W B vs T) (j : Nat) (v : Value) (hv : vs[j]? = some v) : W.cell? ⟨B, j, none⟩ = some v := by
  simp [World.cell?, show W.heap[B]? = _ from h, hv]
theorem Blk.frozen {W : World} {B : Nat} {vs : Array Value} {T : TypeId} (h : Blk W B vs T) (j : Nat) : W.frozen? ⟨B, j, none⟩ = false := by
  simp [World.frozen?, show W.heap[B]? = _ from h]
theorem Blk.below {W W' : World} {B : Nat} {vs : Array Value} {T : TypeId} (h : Blk W B vs T) (hb : Below W.heap.size W W') : Blk W' B vs T := by
  unfold Blk; rw [hb.block B h.lt]; exact h
theorem Blk.new (W : World) (vs : Array Value) (T : TypeId) : Blk (W.alloc (.cells vs T)) W.heap.size vs T := by
  show (W.heap.push _)[W.heap.size]? = _
  exact Array.getElem?_push_size
theorem Blk.alloc {W : World} {B : Nat} {vs : Array Value} {T : TypeId} (h : Blk W B vs T) (o : Obj) : Blk (W.alloc o) B vs T := by
  unfold Blk; rw [Below.heap_alloc W o B h.lt]; exact h
theorem Blk.drew {W : World} {B : Nat} {vs : Array Value} {T : TypeId} (h : Blk W B vs T) : Blk W.drew B vs T := h
theorem Blk.all2 {W : World} {B : Nat} {v0 v1 : Value} {T : TypeId} (h : Blk W B #[v0, v1] T) : W.cell? ⟨B, 0, none⟩ = some v0 ∧ W.cell? ⟨B, 1, none⟩ = some v1 ∧ W.frozen? ⟨B, 0, none⟩ = false ∧ W.frozen? ⟨B, 1, none⟩ = false := ⟨h.cell 0 _ rfl, h.cell 1 _ rfl, h.frozen 0, h.frozen 1⟩
theorem Blk.all3 {W : World} {B : Nat} {v0 v1 v2 : Value} {T : TypeId} (h : Blk W B #[v0, v1, v2] T) : W.cell? ⟨B, 0, none⟩ = some v0 ∧ W.cell? ⟨B, 1, none⟩ = some v1 ∧ W.cell? ⟨B, 2, none⟩ = some v2 ∧ W.frozen? ⟨B, 0, none⟩ = false ∧ W.frozen? ⟨B, 1, none⟩ = false ∧ W.frozen? ⟨B, 2, none⟩ = false := ⟨h.cell 0 _ rfl, h.cell 1 _ rfl, h.cell 2 _ rfl, h.frozen 0, h.frozen 1, h.frozen 2⟩

/-- A simple value in memory. -/
def pv (k n : Int) (t : ByteArray) : Value := .agg #[.int .i64 k, .int .i64 n, .string t]
def noText : ByteArray := ⟨#[]⟩
def b2i (b : Bool) : Int := if b then 1 else 0

theorem below2 (w : World) (a b : Obj) : Below w.heap.size w ((w.alloc a).alloc b) := ((Below.refl _ w).alloc (Nat.le_refl _) _).alloc (by simp) _
theorem below1 (w : World) (a : Obj) : Below w.heap.size w (w.alloc a) := (Below.refl _ w).alloc (Nat.le_refl _) _

set_option maxRecDepth 100000 in
set_option maxHeartbeats 1000000 in
theorem number_c (x : Int) (w : World) : Calls Tryd.prog 39 #[.int .i64 x] w fun e w' => e = .returned (pv 1 x noText) ∧ Below w.heap.size w w' := by
  go_enter Tryd.func39, Tryd.ntmps39
  go_wp2
  exact bodyPost_ret (v := pv 1 x noText) (by simp [results, Tryd.results39, go_sem, pv, noText]) rfl ⟨rfl, below1 _ _⟩
set_option maxRecDepth 100000 in
set_option maxHeartbeats 1000000 in
theorem num_c (x : Int) (w : World) : Calls Tryd.prog 9 #[.int .i64 x] w fun e w' => e = .returned (pv 1 x noText) ∧ Below w.heap.size w w' := by
  go_enter Tryd.func9, Tryd.ntmps9
  go_wp2
  exact bodyPost_ret (v := pv 1 x noText) (by simp [results, Tryd.results9, go_sem, pv, noText]) rfl ⟨rfl, below1 _ _⟩
set_option maxRecDepth 100000 in
set_option maxHeartbeats 1000000 in
theorem truth_c (x : Bool) (w : World) : Calls Tryd.prog 45 #[.bool x] w fun e w' => e = .returned (pv 3 (b2i x) noText) ∧ Below w.heap.size w w' := by
  cases x
  · go_enter Tryd.func45, Tryd.ntmps45
    go_wp2
    exact bodyPost_ret (v := pv 3 0 noText) (by simp [results, Tryd.results45, go_sem, pv, noText]) rfl ⟨rfl, below2 _ _ _⟩
  · go_enter Tryd.func45, Tryd.ntmps45
    go_wp2
    exact bodyPost_ret (v := pv 3 1 noText) (by simp [results, Tryd.results45, go_sem, pv, noText]) rfl ⟨rfl, below2 _ _ _⟩
set_option maxRecDepth 100000 in
set_option maxHeartbeats 1000000 in
theorem failure_c (t : ByteArray) (w : World) : Calls Tryd.prog 65 #[.string t] w fun e w' => e = .returned (pv 4 0 t) ∧ Below w.heap.size w w' := by
  go_enter Tryd.func65, Tryd.ntmps65
  go_wp2
  exact bodyPost_ret (v := pv 4 0 t) (by simp [results, Tryd.results65, go_sem, pv]) rfl ⟨rfl, below1 _ _⟩
def inCode (n : Int) : Bool := decide (0 ≤ n ∧ n ≤ 255)
set_option maxRecDepth 100000 in
set_option maxHeartbeats 1000000 in
theorem isCode_c (n : Int) (w : World) : Calls Tryd.prog 59 #[.int .i64 n] w fun e w' => e = .returned (.bool (inCode n)) ∧ w' = w := by
  by_cases h0 : 0 ≤ n
  · by_cases h1 : n ≤ 255
    · have HR : Hid (inCode n = true) := by show _ = _; simp [inCode]; omega
      go_enter Tryd.func59, Tryd.ntmps59
      go_wp2
      go_ret
      exact ⟨by rw [HR.out]; rfl, rfl⟩
    · have HR : Hid (inCode n = false) := by show _ = _; simp [inCode]; omega
      have h2 : decide (n ≤ 255) = false := by simp; omega
      go_enter Tryd.func59, Tryd.ntmps59
      go_wp2
      go_ret
      exact ⟨by rw [HR.out]; rfl, rfl⟩
  · have HR : Hid (inCode n = false) := by show _ = _; simp [inCode]; omega
    have h2 : decide (0 ≤ n) = false := by simp; omega
    go_enter Tryd.func59, Tryd.ntmps59
    go_wp2
    go_ret
    exact ⟨by rw [HR.out]; rfl, rfl⟩
end Go.Proofs.YtijafedpaghhaaaDoor
