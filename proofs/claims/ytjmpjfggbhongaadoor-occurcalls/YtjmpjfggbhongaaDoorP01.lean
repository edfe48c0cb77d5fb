/-
  Of the core, what is wanted here: part 1.
-/
import Derived.WalkKit
import Derived.Shelf.Abstract
import Derived.Maps.OwnSet
import Derived.Maps.OwnOps
import Derived.BigQuiet
import Derived.Deep.QuietTactic
import Derived.Test.YtjmpjfggbhongaaDoorChecked
import Derived.WideKeyEntry
import Derived.Deep.RegionHeld3
namespace Go.Proofs.YtjmpjfggbhongaaDoor
open Go.RowKit Go.Shelf Go.Maps
set_option linter.unusedVariables false
def Blk (W : World) (B : Nat) (vs : Array Value) (T : TypeId) : Prop := W.heap[B]? = some (.cells vs T (0, 0))
theorem Blk.lt {W : World} {B : Nat} {vs : Array Value} {T : TypeId} (h : Blk W B vs T) : B < W.heap.size := (Array.getElem?_eq_some_iff.1 h).1
theorem Blk.cell {W : World} {B : Nat} {vs : Array Value} {T : TypeId} (h : Blk W B vs T) (j : Nat) (v : Value) (hv : vs[j]? = some v) : W.cell? ⟨B, j, none⟩ = some v := by
  simp [World.cell?, show W.heap[B]? = _ from h, hv]
theorem Blk.frozen {W : World} {B : Nat} {vs : Array Value} {T : TypeId} (h : Blk W B vs T) (j : Nat) : W.frozen? ⟨B, j, none⟩ = false := by
  simp [World.frozen?, show W.heap[B]? = _ from h]
theorem Blk.below {W W' : World} {B : Nat} {vs : Array Value} {T : TypeId} (h : Blk W B vs T) (hb : Below W.heap.size W W') : Blk W' B vs T := by
  unfold Blk; rw [hb.block B h.lt]; exact h
theorem Blk.new (W : World) (vs : Array Value) (T : TypeId) : Blk (W.alloc (.cells vs T)) W.heap.size vs T := by
  show (W.heap.push _)[W.heap.size]? = _
  exact Array.getElem?_push_size
theorem Blk.alloc {W : World} {B : Nat} {vs : Array Value} {T : TypeId} (h : Blk W B vs T) (o : Obj) : Blk (W.alloc o) B vs T := by
  unfold Blk; rw [Below.heap_alloc W o B h.lt]; exact h
theorem Blk.set {W : World} {B : Nat} {vs : Array Value} {T : TypeId} (h : Blk W B vs T) (j : Nat) (u : Value) : Blk (W.setCell ⟨B, j, none⟩ u) B (vs.setIfInBounds j u) T := by
  obtain ⟨hlt, hk⟩ := Array.getElem?_eq_some_iff.1 h
  show (W.heap.modify B _)[B]? = _
  rw [Array.getElem?_eq_getElem (by rw [Array.size_modify]; exact hlt), Array.getElem_modify_self, hk]
  rfl
theorem below1 (w : World) (a : Obj) : Below w.heap.size w (w.alloc a) := (Below.refl _ w).alloc (Nat.le_refl _) _
/-- All blocks stay but one. -/
structure But (b : Nat) (W W' : World) : Prop where
  os : W'.os = W.os
  tape : W'.tape = W.tape
  output : W'.output = W.output
  size : W.heap.size ≤ W'.heap.size
  block : ∀ k, k < W.heap.size → k ≠ b → W'.heap[k]? = W.heap[k]?

/-- An alternative without its expression. -/
structure AltH where
  kind : Int
  name : ByteArray
  num : Int
  vars : List ByteArray
/-- An expression whose parts are of a type. -/
structure TrN (T : Type) where
  kind : Int
  name : ByteArray
  num : Int
  params : List ByteArray
  binds : List (ByteArray × T)
  args : List T
  alts : List (AltH × T)
/-- Expressions of a depth at most. -/
def Tr : Nat → Type
  | 0 => Empty
  | d + 1 => TrN (Tr d)
/-- A row of texts. -/
def TxIn (W : World) (B : Nat) (o : Option Addr) (l : List ByteArray) : Prop := l = [] ∨ ∃ g off, o = some ⟨g, off, none⟩ ∧ g < B ∧ ∀ k (h : k < l.length), W.cell? ⟨g, off + k, none⟩ = some (.string l[k])
/-- A row whose parts are n cells wide. -/
def RowIn {α : Type} (B n : Nat) (at_ : α → Nat → Nat → Prop) (o : Option Addr) (l : List α) : Prop := l = [] ∨ ∃ g off, o = some ⟨g, off, none⟩ ∧ g < B ∧ ∀ k (h : k < l.length), at_ l[k] g (off + k * n)
/-- An expression in memory, all of it below B. -/
def ExAt (W : World) (B : Nat) : (d : Nat) → Tr d → Nat → Nat → Prop
  | 0, t, _, _ => nomatch t
  | d + 1, t, g, off => g < B ∧ W.cell? ⟨g, off, none⟩ = some (.int .i64 (TrN.kind t)) ∧ W.cell? ⟨g, off + 1, none⟩ = some (.string (TrN.name t)) ∧ W.cell? ⟨g, off + 2, none⟩ = some (.int .i64 (TrN.num t)) ∧
    (∃ o c, W.cell? ⟨g, off + 3, none⟩ = some (.slice o (TrN.params t).length c) ∧ TxIn W B o (TrN.params t)) ∧
    (∃ o c, W.cell? ⟨g, off + 4, none⟩ = some (.slice o (TrN.binds t).length c) ∧ RowIn B 8 (fun (b : ByteArray × Tr d) g off => W.cell? ⟨g, off, none⟩ = some (.string b.1) ∧ ExAt W B d b.2 g (off + 1)) o (TrN.binds t)) ∧
    (∃ o c, W.cell? ⟨g, off + 5, none⟩ = some (.slice o (TrN.args t).length c) ∧ RowIn B 7 (fun (x : Tr d) g off => ExAt W B d x g off) o (TrN.args t)) ∧
    (∃ o c, W.cell? ⟨g, off + 6, none⟩ = some (.slice o (TrN.alts t).length c) ∧ RowIn B 11 (fun (a : AltH × Tr d) g off => W.cell? ⟨g, off, none⟩ = some (.int .i64 a.1.kind) ∧ W.cell? ⟨g, off + 1, none⟩ = some (.string a.1.name) ∧ W.cell? ⟨g, off + 2, none⟩ = some (.int .i64 a.1.num) ∧ (∃ o c, W.cell? ⟨g, off + 3, none⟩ = some (.slice o a.1.vars.length c) ∧ TxIn W B o a.1.vars) ∧ ExAt W B d a.2 g (off + 4)) o (TrN.alts t))
/-- How many expressions there are. -/
def sizeM : (d : Nat) → Tr d → Nat
  | 0, t => nomatch t
  | d + 1, t => 1 + ((TrN.binds t).map fun b => sizeM d b.2).sum + ((TrN.args t).map (sizeM d)).sum + ((TrN.alts t).map fun a => sizeM d a.2).sum
theorem TxIn.same {W W' : World} {B : Nat} {o : Option Addr} {l : List ByteArray} (h : TxIn W B o l) (hb : ∀ g off, g < B → W'.cell? ⟨g, off, none⟩ = W.cell? ⟨g, off, none⟩) : TxIn W' B o l := by
  rcases h with h | ⟨g, off, e, hg, h⟩
  · exact .inl h
  · exact .inr ⟨g, off, e, hg, fun k hk => (hb g _ hg).trans (h k hk)⟩
theorem RowIn.mono {α : Type} {B n : Nat} {p q : α → Nat → Nat → Prop} {o : Option Addr} {l : List α} (h : RowIn B n p o l) (hpq : ∀ x g off, g < B → p x g off → q x g off) : RowIn B n q o l := by
  rcases h with h | ⟨g, off, e, hg, h⟩
  · exact .inl h
  · exact .inr ⟨g, off, e, hg, fun k hk => hpq _ _ _ hg (h k hk)⟩
theorem ExAt.same {W W' : World} {B : Nat} (hb : ∀ g off, g < B → W'.cell? ⟨g, off, none⟩ = W.cell? ⟨g, off, none⟩) : ∀ (d : Nat) (t : Tr d) (g off : Nat), ExAt W B d t g off → ExAt W' B d t g off
  | 0, t, _, _, _ => nomatch t
  | d + 1, t, g, off, h => by
    obtain ⟨hg, h0, h1, h2, ⟨o3, c3, h3, k3⟩, ⟨o4, c4, h4, k4⟩, ⟨o5, c5, h5, k5⟩, ⟨o6, c6, h6, k6⟩⟩ := h
    refine ⟨hg, (hb _ _ hg).trans h0, (hb _ _ hg).trans h1, (hb _ _ hg).trans h2, ⟨o3, c3, (hb _ _ hg).trans h3, k3.same hb⟩, ⟨o4, c4, (hb _ _ hg).trans h4, k4.mono ?_⟩, ⟨o5, c5, (hb _ _ hg).trans h5, k5.mono ?_⟩, ⟨o6, c6, (hb _ _ hg).trans h6, k6.mono ?_⟩⟩
    · rintro x g off hg ⟨e1, e2⟩
      exact ⟨(hb _ _ hg).trans e1, ExAt.same hb d _ _ _ e2⟩
    · intro x g off hg e
      exact ExAt.same hb d _ _ _ e
    · rintro x g off hg ⟨e1, e2, e3, ⟨o, c, e4, e5⟩, e6⟩
      exact ⟨(hb _ _ hg).trans e1, (hb _ _ hg).trans e2, (hb _ _ hg).trans e3, ⟨o, c, (hb _ _ hg).trans e4, e5.same hb⟩, ExAt.same hb d _ _ _ e6⟩
theorem ExAt.below {W W' : World} {B d : Nat} {t : Tr d} {g off : Nat} (h : ExAt W B d t g off) (hb : Below B W W') : ExAt W' B d t g off :=
  ExAt.same (fun g off hg => hb.cell (p := ⟨g, off, none⟩) hg) d t g off h
theorem ExAt.lt {W : World} {B d : Nat} {t : Tr d} {g off : Nat} (h : ExAt W B d t g off) : g < B := by
  cases d with
  | zero => exact nomatch t
  | succ d => exact h.1
end Go.Proofs.YtjmpjfggbhongaaDoor
namespace Go.Proofs.YtjmpjfggbhongaaDoor
open Go.RowKit Go.Shelf Go.Maps
set_option linter.unusedVariables false
/-- All is as it was but the room that is left. -/
def RmSt (w w' : World) (R : Nat) (left : Int) : Prop := Blk w' R #[.int .i64 left] 95 ∧ But R w w'
theorem But.refl (b : Nat) (w : World) : But b w w := ⟨rfl, rfl, rfl, Nat.le_refl _, fun _ _ _ => rfl⟩
theorem But.trans {b : Nat} {w1 w2 w3 : World} (h : But b w1 w2) (k : But b w2 w3) : But b w1 w3 := ⟨k.os.trans h.os, k.tape.trans h.tape, k.output.trans h.output, Nat.le_trans h.size k.size, fun j hj hn => (k.block j (Nat.lt_of_lt_of_le hj h.size) hn).trans (h.block j hj hn)⟩
theorem But.set (b : Nat) (w : World) (j : Nat) (u : Value) : But b w (w.setCell ⟨b, j, none⟩ u) := ⟨rfl, rfl, rfl, by show _ ≤ (w.heap.modify _ _).size; rw [Array.size_modify]; exact Nat.le_refl _, fun k hk hn => by
  show (w.heap.modify b _)[k]? = _
  rw [Array.getElem?_modify, if_neg (Ne.symm hn)]⟩
theorem But.cell {b : Nat} {w w' : World} (h : But b w w') (g off : Nat) (hg : g < w.heap.size) (hn : g ≠ b) : w'.cell? ⟨g, off, none⟩ = w.cell? ⟨g, off, none⟩ := by
  simp only [World.cell?]
  rw [h.block g hg hn]
theorem RmSt.start {w : World} {R : Nat} {left : Int} (h : Blk w R #[.int .i64 left] 95) : RmSt w w R left := ⟨h, But.refl _ _⟩
theorem RmSt.trans {w1 w2 w3 : World} {R : Nat} {l1 l2 : Int} (h : RmSt w1 w2 R l1) (k : RmSt w2 w3 R l2) : RmSt w1 w3 R l2 := ⟨k.1, h.2.trans k.2⟩
theorem RmSt.set {w w' : World} {R : Nat} {l l2 : Int} (h : RmSt w w' R l) : RmSt w (w'.setCell ⟨R, 0, none⟩ (.int .i64 l2)) R l2 := ⟨h.1.set 0 _, h.2.trans (But.set _ _ _ _)⟩
theorem RmSt.ex {w w' : World} {R B d : Nat} {l : Int} (h : RmSt w w' R l) (hB : B ≤ R) (hw : B ≤ w.heap.size) {t : Tr d} {g off : Nat} (e : ExAt w B d t g off) : ExAt w' B d t g off :=
  ExAt.same (fun g off hg => h.2.cell g off (by omega) (by omega)) d t g off e
/-- What room.expr does with an expression of a depth. -/
def RoomOK (d : Nat) : Prop := ∀ (t : Tr d) (B g off R : Nat) (left D : Int) (w : World), ExAt w B d t g off → B ≤ R → B ≤ w.heap.size → Blk w R #[.int .i64 left] 95 → (sizeM d t : Int) ≤ left → left ≤ 1048576 → (d : Int) ≤ D → D ≤ 4096 →
  Calls Tryd.prog 52 #[.pointer (some ⟨R, 0, none⟩), .pointer (some ⟨g, off, none⟩), .int .i64 D] w fun e w' => e = .returned (.bool true) ∧ RmSt w w' R (left - sizeM d t)
theorem take_sum {α : Type} (f : α → Nat) (l : List α) (k : Nat) (h : k < l.length) : ((l.take (k + 1)).map f).sum = ((l.take k).map f).sum + f l[k] := by
  rw [List.take_succ_eq_append_getElem h, List.map_append, List.sum_append, List.map_singleton, List.sum_singleton]
theorem take_le {α : Type} (f : α → Nat) (l : List α) (k : Nat) : ((l.take k).map f).sum ≤ (l.map f).sum := by
  have h : (l.map f).sum = ((l.take k).map f).sum + ((l.drop k).map f).sum := by
    rw [← List.sum_append, ← List.map_append, List.take_append_drop]
  omega
set_option maxRecDepth 100000 in
set_option maxHeartbeats 2000000 in
theorem room_exprs_c (d : Nat) (ih : RoomOK d) (l : List (Tr d)) (o : Option Addr) (cap B R : Nat) (left D : Int) (w : World) (hl : RowIn B 7 (fun (x : Tr d) g off => ExAt w B d x g off) o l) (hB : B ≤ R) (hw : B ≤ w.heap.size) (hR : Blk w R #[.int .i64 left] 95) (hs : ((l.map (fun x => sizeM d x)).sum : Int) ≤ left) (hm : left ≤ 1048576) (hd : (d : Int) ≤ D) (hD : D ≤ 4096) (hln : l.length ≤ 1048576) :
    Calls Tryd.prog 70 #[.pointer (some ⟨R, 0, none⟩), .slice o l.length cap, .int .i64 D] w fun e w' => e = .returned (.bool true) ∧ RmSt w w' R (left - (l.map (fun x => sizeM d x)).sum) := by
  have HA : Hid (∀ k (h : k < l.length), ∃ g off, o = some ⟨g, off, none⟩ ∧ g < B ∧ ∀ (W : World) (lf : Int), RmSt w W R lf → (sizeM d l[k] : Int) ≤ lf → lf ≤ 1048576 → Calls Tryd.prog 52 #[.pointer (some ⟨R, 0, none⟩), .pointer (some ⟨g, off + k * 7, none⟩), .int .i64 D] W fun e w' => e = .returned (.bool true) ∧ RmSt W w' R (lf - sizeM d l[k])) := by
    intro k hk
    rcases hl with h0 | ⟨g, off, e, hg, hE⟩
    · subst h0; cases hk
    · exact ⟨g, off, e, hg, fun W lf hW h1 h2 => ih l[k] B g (off + k * 7) R lf D W (hW.ex hB hw (hE k hk)) hB (Nat.le_trans hw hW.2.size) hW.1 h1 h2 hd hD⟩
  have HS : Hid (((l.map (fun x => sizeM d x)).sum : Int) ≤ left ∧ left ≤ 1048576 ∧ B ≤ w.heap.size) := ⟨hs, hm, hw⟩
  have HR : Hid (RmSt w w R left) := RmSt.start hR
  obtain ⟨n, hn⟩ : ∃ n, l.length = n := ⟨_, rfl⟩
  have HN : Hid (l.length = n) := hn
  rw [hn]
  have hn2 : (n : Int) ≤ 1048576 := by rw [← hn]; omega
  clear hl hB hw hR hs hm hd hD hln hn ih
  go_enter Tryd.func70, Tryd.ntmps70
  go_wp2
  go_loopw [10] (fun i wr => ∃ k : Nat, k ≤ n ∧ i = .int .i64 k ∧ Hid (RmSt w wr R (left - ((l.take k).map (fun x => sizeM d x)).sum))) (fun i _ => n - (intOf i).toNat)
  case atStart => exact ⟨0, Nat.zero_le _, rfl, by simpa using HR⟩
  case round =>
    obtain ⟨k, hk, rfl, hS⟩ := hrel
    by_cases hkn : k < n
    · have hkl : k < l.length := by rw [HN.out]; exact hkn
      obtain ⟨g, off, rfl, hg, hC⟩ := HA.out k hkl
      have h1 := take_sum (fun x => sizeM d x) l k hkl
      have h2 := take_le (fun x => sizeM d x) l (k + 1)
      have hgw : g < wr.heap.size := by have := HS.out.2.2; have := hS.out.2.size; omega
      have HC : Hid (Calls Tryd.prog 52 #[.pointer (some ⟨R, 0, none⟩), .pointer (some ⟨g, off + k * 7, none⟩), .int .i64 D] wr fun e w' => e = .returned (.bool true) ∧ RmSt w w' R (left - ((l.take (k + 1)).map (fun x => sizeM d x)).sum)) := by
        refine (hC wr _ hS.out (by have := HS.out.1; omega) (by have := HS.out.2.1; omega)).mono ?_
        rintro e w' ⟨rfl, hr⟩
        refine ⟨rfl, ?_⟩
        have e : left - ((l.take (k + 1)).map (fun x => sizeM d x)).sum = left - ((l.take k).map (fun x => sizeM d x)).sum - sizeM d l[k] := by omega
        rw [e]
        exact hS.out.trans hr
      clear hC h1 h2 hk hkl hS HA HS HR
      go_wp2_with (go_at_call 52; fail)
      refine HC.out.mono ?_
      rintro e w2 ⟨rfl, hr⟩
      have HR2 : Hid (RmSt w w2 R (left - ((l.take (k + 1)).map (fun x => sizeM d x)).sum)) := hr
      clear hr HC
      go_wp2
      go_roundw
      case rel => exact ⟨k + 1, hkn, by go_num, HR2⟩
      case measure => simp [intOf]; omega
    · have HF : Hid (RmSt w wr R (left - (l.map (fun x => sizeM d x)).sum)) := by
        have e : l.take k = l := List.take_of_length_le (by rw [HN.out]; omega)
        have h3 := hS.out
        rw [e] at h3
        exact h3
      clear hS HA
      go_wp2
      go_ret
      exact ⟨rfl, HF.out⟩
set_option maxRecDepth 100000 in
set_option maxHeartbeats 2000000 in
theorem room_binds_c (d : Nat) (ih : RoomOK d) (l : List (ByteArray × Tr d)) (o : Option Addr) (cap B R : Nat) (left D : Int) (w : World) (hl : RowIn B 8 (fun (b : ByteArray × Tr d) g off => w.cell? ⟨g, off, none⟩ = some (.string b.1) ∧ ExAt w B d b.2 g (off + 1)) o l) (hB : B ≤ R) (hw : B ≤ w.heap.size) (hR : Blk w R #[.int .i64 left] 95) (hs : ((l.map (fun b => sizeM d b.2)).sum : Int) ≤ left) (hm : left ≤ 1048576) (hd : (d : Int) ≤ D) (hD : D ≤ 4096) (hln : l.length ≤ 1048576) :
    Calls Tryd.prog 69 #[.pointer (some ⟨R, 0, none⟩), .slice o l.length cap, .int .i64 D] w fun e w' => e = .returned (.bool true) ∧ RmSt w w' R (left - (l.map (fun b => sizeM d b.2)).sum) := by
  have HA : Hid (∀ k (h : k < l.length), ∃ g off, o = some ⟨g, off, none⟩ ∧ g < B ∧ ∀ (W : World) (lf : Int), RmSt w W R lf → (sizeM d l[k].2 : Int) ≤ lf → lf ≤ 1048576 → Calls Tryd.prog 52 #[.pointer (some ⟨R, 0, none⟩), .pointer (some ⟨g, off + k * 8 + 1, none⟩), .int .i64 D] W fun e w' => e = .returned (.bool true) ∧ RmSt W w' R (lf - sizeM d l[k].2)) := by
    intro k hk
    rcases hl with h0 | ⟨g, off, e, hg, hE⟩
    · subst h0; cases hk
    · exact ⟨g, off, e, hg, fun W lf hW h1 h2 => ih l[k].2 B g (off + k * 8 + 1) R lf D W (hW.ex hB hw ((hE k hk).2)) hB (Nat.le_trans hw hW.2.size) hW.1 h1 h2 hd hD⟩
  have HS : Hid (((l.map (fun b => sizeM d b.2)).sum : Int) ≤ left ∧ left ≤ 1048576 ∧ B ≤ w.heap.size) := ⟨hs, hm, hw⟩
  have HR : Hid (RmSt w w R left) := RmSt.start hR
  obtain ⟨n, hn⟩ : ∃ n, l.length = n := ⟨_, rfl⟩
  have HN : Hid (l.length = n) := hn
  rw [hn]
  have hn2 : (n : Int) ≤ 1048576 := by rw [← hn]; omega
  clear hl hB hw hR hs hm hd hD hln hn ih
  go_enter Tryd.func69, Tryd.ntmps69
  go_wp2
  go_loopw [10] (fun i wr => ∃ k : Nat, k ≤ n ∧ i = .int .i64 k ∧ Hid (RmSt w wr R (left - ((l.take k).map (fun b => sizeM d b.2)).sum))) (fun i _ => n - (intOf i).toNat)
  case atStart => exact ⟨0, Nat.zero_le _, rfl, by simpa using HR⟩
  case round =>
    obtain ⟨k, hk, rfl, hS⟩ := hrel
    by_cases hkn : k < n
    · have hkl : k < l.length := by rw [HN.out]; exact hkn
      obtain ⟨g, off, rfl, hg, hC⟩ := HA.out k hkl
      have h1 := take_sum (fun b => sizeM d b.2) l k hkl
      have h2 := take_le (fun b => sizeM d b.2) l (k + 1)
      have hgw : g < wr.heap.size := by have := HS.out.2.2; have := hS.out.2.size; omega
      have HC : Hid (Calls Tryd.prog 52 #[.pointer (some ⟨R, 0, none⟩), .pointer (some ⟨g, off + k * 8 + 1, none⟩), .int .i64 D] wr fun e w' => e = .returned (.bool true) ∧ RmSt w w' R (left - ((l.take (k + 1)).map (fun b => sizeM d b.2)).sum)) := by
        refine (hC wr _ hS.out (by have := HS.out.1; omega) (by have := HS.out.2.1; omega)).mono ?_
        rintro e w' ⟨rfl, hr⟩
        refine ⟨rfl, ?_⟩
        have e : left - ((l.take (k + 1)).map (fun b => sizeM d b.2)).sum = left - ((l.take k).map (fun b => sizeM d b.2)).sum - sizeM d l[k].2 := by omega
        rw [e]
        exact hS.out.trans hr
      clear hC h1 h2 hk hkl hS HA HS HR
      go_wp2_with (go_at_call 52; fail)
      refine HC.out.mono ?_
      rintro e w2 ⟨rfl, hr⟩
      have HR2 : Hid (RmSt w w2 R (left - ((l.take (k + 1)).map (fun b => sizeM d b.2)).sum)) := hr
      clear hr HC
      go_wp2
      go_roundw
      case rel => exact ⟨k + 1, hkn, by go_num, HR2⟩
      case measure => simp [intOf]; omega
    · have HF : Hid (RmSt w wr R (left - (l.map (fun b => sizeM d b.2)).sum)) := by
        have e : l.take k = l := List.take_of_length_le (by rw [HN.out]; omega)
        have h3 := hS.out
        rw [e] at h3
        exact h3
      clear hS HA
      go_wp2
      go_ret
      exact ⟨rfl, HF.out⟩
set_option maxRecDepth 100000 in
set_option maxHeartbeats 2000000 in
theorem room_alts_c (d : Nat) (ih : RoomOK d) (l : List (AltH × Tr d)) (o : Option Addr) (cap B R : Nat) (left D : Int) (w : World) (hl : RowIn B 11 (fun (a : AltH × Tr d) g off => w.cell? ⟨g, off, none⟩ = some (.int .i64 a.1.kind) ∧ w.cell? ⟨g, off + 1, none⟩ = some (.string a.1.name) ∧ w.cell? ⟨g, off + 2, none⟩ = some (.int .i64 a.1.num) ∧ (∃ o c, w.cell? ⟨g, off + 3, none⟩ = some (.slice o a.1.vars.length c) ∧ TxIn w B o a.1.vars) ∧ ExAt w B d a.2 g (off + 4)) o l) (hB : B ≤ R) (hw : B ≤ w.heap.size) (hR : Blk w R #[.int .i64 left] 95) (hs : ((l.map (fun a => sizeM d a.2)).sum : Int) ≤ left) (hm : left ≤ 1048576) (hd : (d : Int) ≤ D) (hD : D ≤ 4096) (hln : l.length ≤ 1048576) :
    Calls Tryd.prog 71 #[.pointer (some ⟨R, 0, none⟩), .slice o l.length cap, .int .i64 D] w fun e w' => e = .returned (.bool true) ∧ RmSt w w' R (left - (l.map (fun a => sizeM d a.2)).sum) := by
  have HA : Hid (∀ k (h : k < l.length), ∃ g off, o = some ⟨g, off, none⟩ ∧ g < B ∧ ∀ (W : World) (lf : Int), RmSt w W R lf → (sizeM d l[k].2 : Int) ≤ lf → lf ≤ 1048576 → Calls Tryd.prog 52 #[.pointer (some ⟨R, 0, none⟩), .pointer (some ⟨g, off + k * 11 + 4, none⟩), .int .i64 D] W fun e w' => e = .returned (.bool true) ∧ RmSt W w' R (lf - sizeM d l[k].2)) := by
    intro k hk
    rcases hl with h0 | ⟨g, off, e, hg, hE⟩
    · subst h0; cases hk
    · exact ⟨g, off, e, hg, fun W lf hW h1 h2 => ih l[k].2 B g (off + k * 11 + 4) R lf D W (hW.ex hB hw ((hE k hk).2.2.2.2)) hB (Nat.le_trans hw hW.2.size) hW.1 h1 h2 hd hD⟩
  have HS : Hid (((l.map (fun a => sizeM d a.2)).sum : Int) ≤ left ∧ left ≤ 1048576 ∧ B ≤ w.heap.size) := ⟨hs, hm, hw⟩
  have HR : Hid (RmSt w w R left) := RmSt.start hR
  obtain ⟨n, hn⟩ : ∃ n, l.length = n := ⟨_, rfl⟩
  have HN : Hid (l.length = n) := hn
  rw [hn]
  have hn2 : (n : Int) ≤ 1048576 := by rw [← hn]; omega
  clear hl hB hw hR hs hm hd hD hln hn ih
  go_enter Tryd.func71, Tryd.ntmps71
  go_wp2
  go_loopw [10] (fun i wr => ∃ k : Nat, k ≤ n ∧ i = .int .i64 k ∧ Hid (RmSt w wr R (left - ((l.take k).map (fun a => sizeM d a.2)).sum))) (fun i _ => n - (intOf i).toNat)
  case atStart => exact ⟨0, Nat.zero_le _, rfl, by simpa using HR⟩
  case round =>
    obtain ⟨k, hk, rfl, hS⟩ := hrel
    by_cases hkn : k < n
    · have hkl : k < l.length := by rw [HN.out]; exact hkn
      obtain ⟨g, off, rfl, hg, hC⟩ := HA.out k hkl
      have h1 := take_sum (fun a => sizeM d a.2) l k hkl
      have h2 := take_le (fun a => sizeM d a.2) l (k + 1)
      have hgw : g < wr.heap.size := by have := HS.out.2.2; have := hS.out.2.size; omega
      have HC : Hid (Calls Tryd.prog 52 #[.pointer (some ⟨R, 0, none⟩), .pointer (some ⟨g, off + k * 11 + 4, none⟩), .int .i64 D] wr fun e w' => e = .returned (.bool true) ∧ RmSt w w' R (left - ((l.take (k + 1)).map (fun a => sizeM d a.2)).sum)) := by
        refine (hC wr _ hS.out (by have := HS.out.1; omega) (by have := HS.out.2.1; omega)).mono ?_
        rintro e w' ⟨rfl, hr⟩
        refine ⟨rfl, ?_⟩
        have e : left - ((l.take (k + 1)).map (fun a => sizeM d a.2)).sum = left - ((l.take k).map (fun a => sizeM d a.2)).sum - sizeM d l[k].2 := by omega
        rw [e]
        exact hS.out.trans hr
      clear hC h1 h2 hk hkl hS HA HS HR
      go_wp2_with (go_at_call 52; fail)
      refine HC.out.mono ?_
      rintro e w2 ⟨rfl, hr⟩
      have HR2 : Hid (RmSt w w2 R (left - ((l.take (k + 1)).map (fun a => sizeM d a.2)).sum)) := hr
      clear hr HC
      go_wp2
      go_roundw
      case rel => exact ⟨k + 1, hkn, by go_num, HR2⟩
      case measure => simp [intOf]; omega
    · have HF : Hid (RmSt w wr R (left - (l.map (fun a => sizeM d a.2)).sum)) := by
        have e : l.take k = l := List.take_of_length_le (by rw [HN.out]; omega)
        have h3 := hS.out
        rw [e] at h3
        exact h3
      clear hS HA
      go_wp2
      go_ret
      exact ⟨rfl, HF.out⟩
end Go.Proofs.YtjmpjfggbhongaaDoor
namespace Go.Proofs.YtjmpjfggbhongaaDoor
open Go.RowKit Go.Shelf Go.Maps
set_option linter.unusedVariables false
/-- The lists of an expression are no longer than it is great. -/
theorem size_pos : ∀ (d : Nat) (t : Tr d), 0 < sizeM d t
  | 0, t => nomatch t
  | d + 1, t => by unfold sizeM; omega
theorem len_sum {α : Type} (f : α → Nat) (hf : ∀ x, 0 < f x) : ∀ l : List α, l.length ≤ (l.map f).sum
  | [] => by simp
  | x :: l => by
    have := len_sum f hf l
    have := hf x
    simp only [List.length_cons, List.map_cons, List.sum_cons]
    omega
set_option maxRecDepth 100000 in
set_option maxHeartbeats 2000000 in
theorem room_step (d : Nat) (ih : RoomOK d) : RoomOK (d + 1) := by
  intro t B g off R left D w hE hB hw hR hs hm hd hD
  obtain ⟨hg, h0, h1, h2, ⟨o3, c3, h3, k3⟩, ⟨o4, c4, h4, k4⟩, ⟨o5, c5, h5, k5⟩, ⟨o6, c6, h6, k6⟩⟩ := hE
  obtain ⟨sb, hsb⟩ : ∃ n, ((TrN.binds t).map fun b => sizeM d b.2).sum = n := ⟨_, rfl⟩
  obtain ⟨sa, hsa⟩ : ∃ n, ((TrN.args t).map fun x => sizeM d x).sum = n := ⟨_, rfl⟩
  obtain ⟨sl, hsl⟩ : ∃ n, ((TrN.alts t).map fun a => sizeM d a.2).sum = n := ⟨_, rfl⟩
  have hz : sizeM (d + 1) t = 1 + sb + sa + sl := by rw [← hsb, ← hsa, ← hsl]; rfl
  have lb := len_sum (fun b : ByteArray × Tr d => sizeM d b.2) (fun b => size_pos d b.2) (TrN.binds t)
  have la := len_sum (fun x : Tr d => sizeM d x) (fun x => size_pos d x) (TrN.args t)
  have ll := len_sum (fun a : AltH × Tr d => sizeM d a.2) (fun a => size_pos d a.2) (TrN.alts t)
  rw [hsb] at lb; rw [hsa] at la; rw [hsl] at ll
  rw [hz] at hs
  have HZ : Hid (∀ x : Int, left - ((sizeM (d + 1) t : Nat) : Int) = left - 1 - sb - sa - sl) := fun _ => by rw [hz]; omega
  have hgR : g ≠ R := by omega
  have hgw : g < w.heap.size := by omega
  have HCb : Hid (∀ W : World, RmSt w W R (left - 1) → Calls Tryd.prog 69 #[.pointer (some ⟨R, 0, none⟩), .slice o4 (TrN.binds t).length c4, .int .i64 (D - 1)] W fun e w' => e = .returned (.bool true) ∧ RmSt w w' R (left - 1 - sb)) := fun W hW => by
    have hc := room_binds_c d ih (TrN.binds t) o4 c4 B R (left - 1) (D - 1) W (k4.mono (fun x g off hg hx => ⟨(hW.2.cell g off (by omega) (by omega)).trans hx.1, hW.ex hB hw hx.2⟩)) hB (Nat.le_trans hw hW.2.size) hW.1 (by rw [hsb]; omega) (by omega) (by omega) (by omega) (by omega)
    rw [hsb] at hc
    exact hc.mono (fun e w' h => ⟨h.1, hW.trans h.2⟩)
  have HCa : Hid (∀ W : World, RmSt w W R (left - 1 - sb) → Calls Tryd.prog 70 #[.pointer (some ⟨R, 0, none⟩), .slice o5 (TrN.args t).length c5, .int .i64 (D - 1)] W fun e w' => e = .returned (.bool true) ∧ RmSt w w' R (left - 1 - sb - sa)) := fun W hW => by
    have hc := room_exprs_c d ih (TrN.args t) o5 c5 B R (left - 1 - sb) (D - 1) W (k5.mono (fun x g off hg hx => hW.ex hB hw hx)) hB (Nat.le_trans hw hW.2.size) hW.1 (by rw [hsa]; omega) (by omega) (by omega) (by omega) (by omega)
    rw [hsa] at hc
    exact hc.mono (fun e w' h => ⟨h.1, hW.trans h.2⟩)
  have HCl : Hid (∀ W : World, RmSt w W R (left - 1 - sb - sa) → Calls Tryd.prog 71 #[.pointer (some ⟨R, 0, none⟩), .slice o6 (TrN.alts t).length c6, .int .i64 (D - 1)] W fun e w' => e = .returned (.bool true) ∧ RmSt w w' R (left - 1 - sb - sa - sl)) := fun W hW => by
    have hc := room_alts_c d ih (TrN.alts t) o6 c6 B R (left - 1 - sb - sa) (D - 1) W (k6.mono (fun x g off hg hx => by
      obtain ⟨e1, e2, e3, ⟨o, c, e4, e5⟩, e6⟩ := hx
      have hc2 : ∀ off, W.cell? ⟨g, off, none⟩ = w.cell? ⟨g, off, none⟩ := fun off => hW.2.cell g off (by omega) (by omega)
      exact ⟨(hc2 _).trans e1, (hc2 _).trans e2, (hc2 _).trans e3, ⟨o, c, (hc2 _).trans e4, e5.same (fun g off hg => hW.2.cell g off (by omega) (by omega))⟩, hW.ex hB hw e6⟩)) hB (Nat.le_trans hw hW.2.size) hW.1 (by rw [hsl]; omega) (by omega) (by omega) (by omega) (by omega)
    rw [hsl] at hc
    exact hc.mono (fun e w' h => ⟨h.1, hW.trans h.2⟩)
  have HF : Hid (∀ W lf, RmSt w W R lf → ∀ o, W.cell? ⟨g, o, none⟩ = w.cell? ⟨g, o, none⟩) := fun W lf hW o => hW.2.cell g o hgw hgR
  have HR : Hid (RmSt w (w.setCell ⟨R, 0, none⟩ (.int .i64 (left - 1))) R (left - 1)) := (RmSt.start hR).set
  have HRl : Hid (R < w.heap.size) := hR.lt
  have r0 := hR.cell 0 _ rfl
  have r1 := hR.frozen 0
  have hl0 : (left == 0) = false := by simp; omega
  have hD0 : (D == 0) = false := by simp; omega
  have hlo : (1 : Int) ≤ left := by omega
  have hDo : (1 : Int) ≤ D := by omega
  have H4 : Hid (w.cell? ⟨g, off + 4, none⟩ = some (.slice o4 (TrN.binds t).length c4)) := h4
  have H5 : Hid (w.cell? ⟨g, off + 5, none⟩ = some (.slice o5 (TrN.args t).length c5)) := h5
  have H6 : Hid (w.cell? ⟨g, off + 6, none⟩ = some (.slice o6 (TrN.alts t).length c6)) := h6
  generalize (TrN.binds t).length = nb at *
  generalize (TrN.args t).length = na at *
  generalize (TrN.alts t).length = nl at *
  clear h0 h1 h2 h3 k3 h4 k4 h5 k5 h6 k6 hsb hsa hsl hz lb la ll hs hd hB hw hR hg ih
  generalize ((sizeM (d + 1) t : Nat) : Int) = sz at *
  have q4 : (w.setCell ⟨R, 0, none⟩ (.int .i64 (left - 1))).cell? ⟨g, off + 4, none⟩ = some (.slice o4 nb c4) := (HF.out _ _ HR.out _).trans H4.out
  go_enter Tryd.func52, Tryd.ntmps52
  go_wp2_with (go_at_call 69; fail)
  refine (HCb.out _ HR.out).mono ?_
  rintro e w1 ⟨rfl, hr⟩
  have HR1 : Hid (RmSt w w1 R (left - 1 - sb)) := hr
  have q5 : w1.cell? ⟨g, off + 5, none⟩ = some (.slice o5 na c5) := (HF.out _ _ hr _).trans H5.out
  have l1 : g < w1.heap.size := Nat.lt_of_lt_of_le hgw hr.2.size
  clear hr q4 HCb
  go_wp2_with (go_at_call 70; fail)
  refine (HCa.out _ HR1.out).mono ?_
  rintro e w2 ⟨rfl, hr⟩
  have HR2 : Hid (RmSt w w2 R (left - 1 - sb - sa)) := hr
  have q6 : w2.cell? ⟨g, off + 6, none⟩ = some (.slice o6 nl c6) := (HF.out _ _ hr _).trans H6.out
  have l2 : g < w2.heap.size := Nat.lt_of_lt_of_le hgw hr.2.size
  clear hr q5 HCa
  go_wp2_with (go_at_call 71; fail)
  refine (HCl.out _ HR2.out).mono ?_
  rintro e w3 ⟨rfl, hr⟩
  have HR3 : Hid (RmSt w w3 R (left - 1 - sb - sa - sl)) := hr
  clear hr q6 HCl
  go_wp2
  go_ret
  exact ⟨rfl, by rw [HZ.out 0]; exact HR3.out⟩
theorem roomOK : ∀ d, RoomOK d
  | 0 => fun t => nomatch t
  | d + 1 => room_step d (roomOK d)
set_option maxRecDepth 100000 in
set_option maxHeartbeats 1000000 in
theorem fits_c (d : Nat) (t : Tr d) (B g off : Nat) (w : World) (hE : ExAt w B d t g off) (hB : B ≤ w.heap.size) (hs : sizeM d t ≤ 1048576) (hd : d ≤ 4096) :
    Calls Tryd.prog 34 #[.pointer (some ⟨g, off, none⟩)] w fun e w' => e = .returned (.bool true) ∧ Below w.heap.size w w' := by
  have HC : Hid (Calls Tryd.prog 52 #[.pointer (some ⟨w.heap.size, 0, none⟩), .pointer (some ⟨g, off, none⟩), .int .i64 4096] (w.alloc (.cells #[.int .i64 1048576] 95)) fun e w' => e = .returned (.bool true) ∧ Below w.heap.size w w') := by
    refine (roomOK d t B g off w.heap.size 1048576 4096 _ (hE.below ((below1 w _).mono hB)) hB (by simp; omega) (Blk.new w _ _) (by omega) (by omega) (by omega) (by omega)).mono ?_
    rintro e w' ⟨rfl, hr⟩
    refine ⟨rfl, ?_⟩
    have h1 := below1 w (.cells #[.int .i64 1048576] 95)
    exact ⟨hr.2.os.trans h1.os, hr.2.tape.trans h1.tape, hr.2.output.trans h1.output, Nat.le_trans h1.size hr.2.size, fun k hk => (hr.2.block k (Nat.lt_of_lt_of_le hk h1.size) (by omega)).trans (h1.block k hk)⟩
  clear hE hB hs hd
  go_enter Tryd.func34, Tryd.ntmps34
  go_wp2_with (go_at_call 52; refine HC.out.mono ?_; rintro e w1 ⟨rfl, hb⟩)
  go_ret
  exact ⟨rfl, hb⟩
end Go.Proofs.YtjmpjfggbhongaaDoor
namespace Go.Proofs.YtjmpjfggbhongaaDoor
open Go.RowKit Go.Shelf Go.Maps
open Go.ChangeMaps (setBlock heap_setBlock_same heap_setBlock_other)
set_option linter.unusedVariables false
def heldElem (v : Value) : Option (DataW Value × List MemPlace) := some (.held v, [])
theorem heldElem_inv {v u : Value} {ps : List MemPlace} (h : heldElem v = some (.held u, ps)) : v = u := by
  simp [heldElem] at h; exact h.1
theorem key_str (s : ByteArray) (h : s.size ≤ maxLen) : keyOf Tryd.prog 9 (.string s) = some (.string s.data.toList) := by
  simp [keyOf, mapKey, Tryd.underlying9, h]
theorem zeroFrame (w : World) : (zeroValue 103).run Tryd.prog w = .ok (.pointer none) w := by kernel_rfl
/-- A map of names to frames: what each name has; nothing is the nil pointer. -/
def FrMap (W : World) (m c : Nat) (f : List UInt8 → Value) : Prop := ∃ D : DataW Value, W.ownsMap Tryd.prog 9 heldElem m c D ∧ Maps.IsMap D ∧ ∀ x, D.atKey (.string x) (.held (.pointer none)) = .held (f x)
theorem FrMap.lt {W : World} {m c : Nat} {f : List UInt8 → Value} (h : FrMap W m c f) : m < W.heap.size := by
  obtain ⟨D, h1, _⟩ := h
  exact h1.lt
theorem FrMap.same {W W' : World} {m c : Nat} {f : List UInt8 → Value} (h : FrMap W m c f) (hb : W'.heap[m]? = W.heap[m]?) : FrMap W' m c f := by
  obtain ⟨D, ⟨es, clock, k1, k2⟩, h2⟩ := h
  exact ⟨D, ⟨es, clock, by rw [hb]; exact k1, k2⟩, h2⟩
theorem frMap_new (W : World) : FrMap (W.alloc (.map #[] 0)) W.heap.size 0 (fun _ => .pointer none) := ⟨.map [], World.ownsMap_made W Tryd.prog 9 heldElem, ⟨_, rfl⟩, fun x => rfl⟩
theorem FrMap.look {W : World} {m c : Nat} {f : List UInt8 → Value} (h : FrMap W m c f) (s : ByteArray) (hs : s.size ≤ maxLen) : (Instr.lookup 104 (.map (some m)) (.string s) false).run Tryd.prog W = .ok (f s.data.toList) W := by
  obtain ⟨D, ⟨es, clock, hb, F, hsz, rfl⟩, hD, hall⟩ := h
  have hx := hall s.data.toList
  rcases Maps.fit_look false (string_keyed Tryd.underlying9) Tryd.underlying104 (zeroFrame W) hb F (key_str s hs) with ⟨h1, _, h3⟩ | ⟨e0, y, _, _, h1, h2, h3, _⟩
  · rw [h3] at hx
    have e : f s.data.toList = .pointer none := (DataW.held.inj hx).symm
    rw [e]
    rw [if_neg (by decide)] at h1
    exact h1
  · rw [h3] at hx
    have h2' : y = (.held e0.val, []) := (Option.some.inj h2).symm
    subst h2'
    have e : e0.val = f s.data.toList := DataW.held.inj hx
    rw [← e]
    rw [if_neg (by decide)] at h1
    exact h1
/-- A name is given another frame: the entry is taken first, and stored behind. -/
theorem FrMap.entry {W : World} {m c : Nat} {f : List UInt8 → Value} (h : FrMap W m c f) (hc : c < 4000000) (s : ByteArray) (hs : s.size ≤ maxLen) (val : Value) :
    ∃ v0 st W1 W2, (Instr.mapEntry 104 (.map (some m)) (.string s)).run Tryd.prog W = .ok (.tuple #[v0, st]) W1 ∧ (Instr.entryStore 104 (.map (some m)) st val).run Tryd.prog W1 = .ok () W2 ∧ FrMap W2 m (c + 1) (fun x => if x = s.data.toList then val else f x) ∧ But m W W2 := by
  obtain ⟨D, hown, hD, hall⟩ := h
  have hown' := hown
  obtain ⟨es, clock, hb, F, hsz, hDe⟩ := hown
  obtain ⟨v0, st, es1, clock1, h1, _, h2⟩ := Go.WideElems.entry_then_store (WideMaps.string_law Tryd.underlying9) Tryd.underlying104 (fun u => zeroFrame u) hb F (key_str s hs)
  obtain ⟨es', clock', h3, h4⟩ := h2 (setBlock W m (.map es1 clock1)) val (heap_setBlock_same hb _)
  obtain ⟨w', h5, h6, h7⟩ := hown'.store (string_keyed Tryd.underlying9) Tryd.underlying104 (by unfold maxLen; omega) (key_str s hs) (d := .held val) (ps := []) rfl
  rw [h4] at h5
  cases h5
  refine ⟨v0, _, _, _, h1, h3, ?_, ?_⟩
  · have hsame : (setBlock (setBlock W m (.map es1 clock1)) m (.map es' clock')).heap[m]? = (setBlock W m (.map es' clock')).heap[m]? := by
      rw [heap_setBlock_same (heap_setBlock_same hb _) _, heap_setBlock_same hb _]
    refine FrMap.same (W := setBlock W m (.map es' clock')) ⟨_, h6, ?_, fun x => ?_⟩ hsame
    · obtain ⟨es2, rfl⟩ := hD
      exact ⟨_, rfl⟩
    · show DataW.atKey _ _ _ = .held (if x = s.data.toList then val else f x)
      by_cases hx : x = s.data.toList
      · subst hx
        rw [if_pos rfl]
        exact Maps.atKey_put_same hD (by constructor) _ _
      · rw [if_neg hx, Maps.atKey_put_other (by simpa using hx)]
        exact hall x
  · refine ⟨rfl, rfl, rfl, ?_, fun k hk hn => ?_⟩
    · show _ ≤ ((W.heap.setIfInBounds m _).setIfInBounds m _).size
      simp
    · rw [heap_setBlock_other (heap_setBlock_same hb _) _ hn, heap_setBlock_other hb _ hn]
end Go.Proofs.YtjmpjfggbhongaaDoor
namespace Go.Proofs.YtjmpjfggbhongaaDoor
open Go.RowKit Go.Shelf Go.Maps
set_option linter.unusedVariables false
/-- The frames around a place, the inner one first: names and blocks. -/
abbrev Sc := List (ByteArray × Nat)
def top : Sc → Value
  | [] => .pointer none
  | p :: _ => .pointer (some ⟨p.2, 0, none⟩)
def fnd : Sc → List UInt8 → Value
  | [], _ => .pointer none
  | p :: r, x => if x = p.1.data.toList then .pointer (some ⟨p.2, 0, none⟩) else fnd r x
def FrAt (W : World) (S m : Nat) : Sc → Prop
  | [] => True
  | p :: r => (p.2 ≠ S ∧ ∀ q ∈ r, q.2 < p.2) ∧ p.2 ≠ m ∧ Blk W p.2 #[.string p.1, .int .i64 (r.length + 1 : Nat), fnd r p.1.data.toList, top r] 148 ∧ FrAt W S m r
/-- A scope in memory: two cells of block S from so on. -/
structure ScAt (W : World) (S so m c : Nat) (sc : Sc) : Prop where
  ne : S ≠ m
  inner : W.cell? ⟨S, so, none⟩ = some (top sc)
  innerF : W.frozen? ⟨S, so, none⟩ = false
  named : W.cell? ⟨S, so + 1, none⟩ = some (.map (some m))
  map : FrMap W m c (fnd sc)
  frames : FrAt W S m sc
  lt : S < W.heap.size
/-- What a scope's functions change: the cell of the inner frame, and the map. -/
structure ScChg (S so m : Nat) (W W' : World) : Prop where
  os : W'.os = W.os
  tape : W'.tape = W.tape
  output : W'.output = W.output
  size : W.heap.size ≤ W'.heap.size
  block : ∀ k, k < W.heap.size → k ≠ S → k ≠ m → W'.heap[k]? = W.heap[k]?
  cells : ∀ o, o ≠ so → W'.cell? ⟨S, o, none⟩ = W.cell? ⟨S, o, none⟩
  frozen : ∀ o, W'.frozen? ⟨S, o, none⟩ = W.frozen? ⟨S, o, none⟩
theorem ScChg.refl (S so m : Nat) (W : World) : ScChg S so m W W := ⟨rfl, rfl, rfl, Nat.le_refl _, fun _ _ _ _ => rfl, fun _ _ => rfl, fun _ => rfl⟩
theorem ScChg.trans {S so m : Nat} {W1 W2 W3 : World} (h : ScChg S so m W1 W2) (k : ScChg S so m W2 W3) : ScChg S so m W1 W3 := ⟨k.os.trans h.os, k.tape.trans h.tape, k.output.trans h.output, Nat.le_trans h.size k.size, fun j hj h1 h2 => (k.block j (Nat.lt_of_lt_of_le hj h.size) h1 h2).trans (h.block j hj h1 h2), fun o ho => (k.cells o ho).trans (h.cells o ho), fun o => (k.frozen o).trans (h.frozen o)⟩
theorem FrAt.same {W W' : World} {S m : Nat} : ∀ {sc : Sc}, FrAt W S m sc → (∀ k, k < W.heap.size → k ≠ S → k ≠ m → W'.heap[k]? = W.heap[k]?) → FrAt W' S m sc
  | [], _, _ => trivial
  | p :: r, ⟨h1, h2, h3, h4⟩, hb => ⟨h1, h2, by unfold Blk; rw [hb p.2 h3.lt h1.1 h2]; exact h3, FrAt.same h4 hb⟩
theorem FrAt.lt {W : World} {S m : Nat} : ∀ {sc : Sc}, FrAt W S m sc → ∀ q ∈ sc, q.2 < W.heap.size
  | [], _, _, h => by cases h
  | p :: r, ⟨h1, h2, h3, h4⟩, q, h => by
    rcases List.mem_cons.1 h with rfl | h
    · exact h3.lt
    · exact FrAt.lt h4 q h
theorem Blk.all4 {W : World} {B : Nat} {v0 v1 v2 v3 : Value} {T : TypeId} (h : Blk W B #[v0, v1, v2, v3] T) : W.cell? ⟨B, 0, none⟩ = some v0 ∧ W.cell? ⟨B, 1, none⟩ = some v1 ∧ W.cell? ⟨B, 2, none⟩ = some v2 ∧ W.cell? ⟨B, 3, none⟩ = some v3 ∧ W.frozen? ⟨B, 0, none⟩ = false ∧ W.frozen? ⟨B, 1, none⟩ = false ∧ W.frozen? ⟨B, 2, none⟩ = false ∧ W.frozen? ⟨B, 3, none⟩ = false := ⟨h.cell 0 _ rfl, h.cell 1 _ rfl, h.cell 2 _ rfl, h.cell 3 _ rfl, h.frozen 0, h.frozen 1, h.frozen 2, h.frozen 3⟩

theorem cell_of_block {W W' : World} {S : Nat} (h : W'.heap[S]? = W.heap[S]?) (o : Nat) : W'.cell? ⟨S, o, none⟩ = W.cell? ⟨S, o, none⟩ := by
  simp only [World.cell?]; rw [h]
theorem frozen_of_block {W W' : World} {S : Nat} (h : W'.heap[S]? = W.heap[S]?) (o : Nat) : W'.frozen? ⟨S, o, none⟩ = W.frozen? ⟨S, o, none⟩ := by
  simp only [World.frozen?]; rw [h]
theorem ScChg.ofBelow {S so m : Nat} {W W' : World} (h : Below W.heap.size W W') (hS : S < W.heap.size) : ScChg S so m W W' := ⟨h.os, h.tape, h.output, h.size, fun k hk _ _ => h.block k hk, fun o _ => cell_of_block (h.block S hS) o, fun o => frozen_of_block (h.block S hS) o⟩
theorem ScChg.ofBut {S so m : Nat} {W W' : World} (h : But m W W') (hS : S < W.heap.size) (hn : S ≠ m) : ScChg S so m W W' := ⟨h.os, h.tape, h.output, h.size, fun k hk _ h2 => h.block k hk h2, fun o _ => cell_of_block (h.block S hS hn) o, fun o => frozen_of_block (h.block S hS hn) o⟩
theorem setCell_cell_other (W : World) (S so o : Nat) (u : Value) (h : o ≠ so) : (W.setCell ⟨S, so, none⟩ u).cell? ⟨S, o, none⟩ = W.cell? ⟨S, o, none⟩ := by
  simp only [World.cell?, World.setCell]
  rw [Array.getElem?_modify, if_pos rfl]
  cases hk : W.heap[S]? with
  | none => rfl
  | some b => cases b <;> simp [Ne.symm h]
theorem setCell_cell_same (W : World) (S so : Nat) (u v : Value) (h : W.cell? ⟨S, so, none⟩ = some v) : (W.setCell ⟨S, so, none⟩ u).cell? ⟨S, so, none⟩ = some u := by
  simp only [World.cell?, World.setCell] at h ⊢
  rw [Array.getElem?_modify, if_pos rfl]
  cases hk : W.heap[S]? with
  | none => rw [hk] at h; cases h
  | some b =>
    rw [hk] at h
    cases b <;> simp at h ⊢
    obtain ⟨h1, _⟩ := Array.getElem?_eq_some_iff.1 h
    simp [h1]
theorem setCell_frozen (W : World) (S so o : Nat) (u : Value) : (W.setCell ⟨S, so, none⟩ u).frozen? ⟨S, o, none⟩ = W.frozen? ⟨S, o, none⟩ := by
  simp only [World.frozen?, World.setCell]
  rw [Array.getElem?_modify, if_pos rfl]
  cases hk : W.heap[S]? with
  | none => rfl
  | some b => cases b <;> rfl
theorem ScChg.ofSet (S so m : Nat) (W : World) (u : Value) : ScChg S so m W (W.setCell ⟨S, so, none⟩ u) := by
  have hb := But.set S W so u
  exact ⟨hb.os, hb.tape, hb.output, hb.size, fun k hk h1 _ => hb.block k hk h1, fun o ho => setCell_cell_other W S so o u ho, fun o => setCell_frozen W S so o u⟩
set_option maxRecDepth 100000 in
set_option maxHeartbeats 4000000 in
/-- The first name of all. -/
theorem bind_nil (nm : ByteArray) (hs : nm.size ≤ maxLen) (S so m c : Nat) (w : World) (h : ScAt w S so m c []) (hc : c < 4000000) :
    Calls Tryd.prog 82 #[.pointer (some ⟨S, so, none⟩), .string nm] w fun e w' => e = .returned (.tuple #[]) ∧ ScAt w' S so m (c + 1) [(nm, w.heap.size)] ∧ ScChg S so m w w' := by
  obtain ⟨hne, hi, hif, hn, hm, hf, hlt⟩ := h
  have HM : Hid (FrMap w m c (fnd [])) := hm
  have hlk : ∀ W : World, W.heap[m]? = w.heap[m]? → (Instr.lookup 104 (.map (some m)) (.string nm) false).run Tryd.prog W = .ok (.pointer none) W := fun W hW => (hm.same hW).look nm hs
  have hl1 := hlk w rfl
  have hl2 := hlk w.drew rfl
  simp only [top] at hi
  clear hm hf hlk
  go_enter Tryd.func82, Tryd.ntmps82
  go_wp2
  go_region
  obtain ⟨V, hV⟩ : ∃ V, (w.alloc (.cells #[.string nm, .int .i64 1, .pointer none, .pointer none] 148)).drew = V := ⟨_, rfl⟩
  rw [hV]
  have hB : Below w.heap.size w V := by rw [← hV]; exact (below1 w _).drew
  have kN : Blk V w.heap.size #[.string nm, .int .i64 1, .pointer none, .pointer none] 148 := by rw [← hV]; exact Blk.new w _ _
  obtain ⟨N, hN⟩ : ∃ N, w.heap.size = N := ⟨_, rfl⟩
  have HN : Hid (w.heap.size = N) := hN
  rw [hN] at kN ⊢
  have HB : Hid (Below w.heap.size w V) := hB
  have HV : Hid (Blk V N #[.string nm, .int .i64 1, .pointer none, .pointer none] 148) := kN
  have HIf : Hid (w.frozen? ⟨S, so, none⟩ = false) := hif
  have HNm : Hid (w.cell? ⟨S, so + 1, none⟩ = some (.map (some m))) := hn
  have HSm : Hid (S ≠ m ∧ S < w.heap.size ∧ m < w.heap.size) := ⟨hne, hlt, HM.out.lt⟩
  obtain ⟨n0, n1, n2, n3, y0, y1, y2, y3⟩ := kN.all4
  have hi' : V.cell? ⟨S, so, none⟩ = some (.pointer none) := (cell_of_block (hB.block S hlt) so).trans hi
  have hif' : V.frozen? ⟨S, so, none⟩ = false := (frozen_of_block (hB.block S hlt) so).trans hif
  have hn' : V.cell? ⟨S, so + 1, none⟩ = some (.map (some m)) := (cell_of_block (hB.block S hlt) (so + 1)).trans hn
  have hSV : S < V.heap.size := Nat.lt_of_lt_of_le hlt hB.size
  have hNV : N < V.heap.size := kN.lt
  have hSN : S ≠ N := by rw [← hN]; omega
  have hF1 : FrMap (V.setCell ⟨S, so, none⟩ (.pointer (some ⟨N, 0, none⟩))) m c (fnd []) := HM.out.same ((( But.set S V so _).block m (Nat.lt_of_lt_of_le HM.out.lt hB.size) hne.symm).trans (hB.block m HM.out.lt))
  obtain ⟨v0, st, W1, W2, r1, r2, hF2, hB2⟩ := hF1.entry hc nm hs (.pointer (some ⟨N, 0, none⟩))
  have HF2 : Hid (FrMap W2 m (c + 1) (fnd [(nm, N)])) := hF2
  have HCh : Hid (ScChg S so m w W2) := ((ScChg.ofBelow HB.out hlt).trans (ScChg.ofSet S so m V _)).trans (ScChg.ofBut hB2 (by have := (But.set S V so (.pointer (some ⟨N, 0, none⟩))).size; omega) hne)
  have HI : Hid (W2.cell? ⟨S, so, none⟩ = some (.pointer (some ⟨N, 0, none⟩))) := by
    have e1 := cell_of_block (hB2.block S (by have := (But.set S V so (.pointer (some ⟨N, 0, none⟩))).size; omega) hne) so
    exact e1.trans (setCell_cell_same V S so _ _ hi')
  have HK : Hid (Blk W2 N #[.string nm, .int .i64 1, .pointer none, .pointer none] 148) := by
    have hbm : N ≠ m := by have := HSm.out.2.2; rw [hN] at this; omega
    have e1 := hB2.block N (by have := (But.set S V so (.pointer (some ⟨N, 0, none⟩))).size; omega) hbm
    have e2 := (But.set S V so (.pointer (some ⟨N, 0, none⟩))).block N hNV hSN.symm
    show W2.heap[N]? = _
    rw [e1, e2]
    exact kN
  clear hV hB kN hN hi hif hn hlt hF1 hF2 hB2 hl1 hl2 HM hs hc hne
  go_wp2
  go_end0
  refine ⟨rfl, ⟨HSm.out.1, by rw [HN.out]; exact HI.out, ?_, ?_, ?_, ?_, Nat.lt_of_lt_of_le HSm.out.2.1 HCh.out.size⟩, HCh.out⟩
  · exact (HCh.out.frozen so).trans HIf.out
  · exact (HCh.out.cells (so + 1) (by omega)).trans HNm.out
  · rw [HN.out]; exact HF2.out
  · rw [HN.out]; exact ⟨⟨hSN.symm, fun q hq => by cases hq⟩, by have := HSm.out.2.2; rw [HN.out] at this; omega, HK.out, trivial⟩
end Go.Proofs.YtjmpjfggbhongaaDoor
namespace Go.Proofs.YtjmpjfggbhongaaDoor
open Go.RowKit Go.Shelf Go.Maps
set_option linter.unusedVariables false
theorem fnd_ptr : ∀ (sc : Sc) (x : List UInt8), ∃ o, fnd sc x = .pointer o
  | [], _ => ⟨_, rfl⟩
  | p :: r, x => by
    unfold fnd
    split
    · exact ⟨_, rfl⟩
    · exact fnd_ptr r x
set_option maxRecDepth 100000 in
set_option maxHeartbeats 4000000 in
/-- A further name. -/
theorem bind_cons (nm : ByteArray) (hs : nm.size ≤ maxLen) (S so m c : Nat) (p : ByteArray × Nat) (r : Sc) (hr : r.length ≤ 2000000) (w : World) (h : ScAt w S so m c (p :: r)) (hc : c < 4000000) :
    Calls Tryd.prog 82 #[.pointer (some ⟨S, so, none⟩), .string nm] w fun e w' => e = .returned (.tuple #[]) ∧ ScAt w' S so m (c + 1) ((nm, w.heap.size) :: p :: r) ∧ ScChg S so m w w' := by
  obtain ⟨hne, hi, hif, hn, hm, hf, hlt⟩ := h
  obtain ⟨ho, hho⟩ := fnd_ptr (p :: r) nm.data.toList
  have HHo : Hid (fnd (p :: r) nm.data.toList = .pointer ho) := hho
  have HFr : Hid (FrAt w S m (p :: r)) := hf
  obtain ⟨⟨hp1, -⟩, hp2, hpk, -⟩ := hf
  obtain ⟨P, hP⟩ : ∃ P, p.2 = P := ⟨_, rfl⟩
  have HP : Hid (p.2 = P) := hP
  rw [hP] at hp1 hp2 hpk
  obtain ⟨L, hL⟩ : ∃ L, r.length = L := ⟨_, rfl⟩
  have HL : Hid (r.length = L) := hL
  rw [hL] at hpk hr
  have hri : (L : Int) ≤ 2000000 := by omega
  obtain ⟨-, p1, -, -, -, -, -, -⟩ := hpk.all4
  rw [show ((L + 1 : Nat) : Int) = (L : Int) + 1 by omega] at p1
  have lP := hpk.lt
  have HM : Hid (FrMap w m c (fnd (p :: r))) := hm
  have hlk : ∀ W : World, W.heap[m]? = w.heap[m]? → (Instr.lookup 104 (.map (some m)) (.string nm) false).run Tryd.prog W = .ok (.pointer ho) W := fun W hW => by have := (hm.same hW).look nm hs; rw [hho] at this; exact this
  have hl1 := hlk w rfl
  have hl2 := hlk w.drew rfl
  have hi0 : w.cell? ⟨S, so, none⟩ = some (.pointer (some ⟨P, 0, none⟩)) := by rw [hi]; show some (Value.pointer (some ⟨p.2, 0, none⟩)) = _; rw [hP]
  have Hpk : Hid (Blk w P #[.string p.1, .int .i64 ((L + 1 : Nat) : Int), fnd r p.1.data.toList, top r] 148) := hpk
  clear hi hpk hho hP hL hr
  have hi := hi0
  clear hi0
  clear hm hlk
  go_enter Tryd.func82, Tryd.ntmps82
  go_wp2
  go_region
  obtain ⟨V, hV⟩ : ∃ V, (w.alloc (.cells #[.string nm, .int .i64 1, .pointer ho, .pointer (some ⟨P, 0, none⟩)] 148)).drew = V := ⟨_, rfl⟩
  rw [hV]
  have hB : Below w.heap.size w V := by rw [← hV]; exact (below1 w _).drew
  have kN : Blk V w.heap.size #[.string nm, .int .i64 1, .pointer ho, .pointer (some ⟨P, 0, none⟩)] 148 := by rw [← hV]; exact Blk.new w _ _
  obtain ⟨N, hN⟩ : ∃ N, w.heap.size = N := ⟨_, rfl⟩
  have HN : Hid (w.heap.size = N) := hN
  rw [hN] at kN ⊢
  obtain ⟨n0, n1, n2, n3, y0, y1, y2, y3⟩ := kN.all4
  have p1' : V.cell? ⟨P, 1, none⟩ = some (.int .i64 ((L : Int) + 1)) := (cell_of_block (hB.block P lP) 1).trans p1
  have lPV : P < V.heap.size := Nat.lt_of_lt_of_le lP hB.size
  have hNV : N < V.heap.size := kN.lt
  have p1d : V.drew.cell? ⟨P, 1, none⟩ = some (.int .i64 ((L : Int) + 1)) := p1'
  have n1d : V.drew.cell? ⟨N, 1, none⟩ = some (.int .i64 1) := n1
  have n3d : V.drew.cell? ⟨N, 3, none⟩ = some (.pointer (some ⟨P, 0, none⟩)) := n3
  have y1d : V.drew.frozen? ⟨N, 1, none⟩ = false := y1
  go_wp2
  go_region
  obtain ⟨U, hU⟩ : ∃ U, (V.setCell ⟨N, 1, none⟩ (.int .i64 (1 + ((L : Int) + 1)))).drew = U := ⟨_, rfl⟩
  rw [hU]
  have hBU : Below w.heap.size w U := by rw [← hU]; exact (hB.setCell (p := ⟨N, 1, none⟩) (by rw [← hN]; exact Nat.le_refl _) _).drew
  have kU : Blk U N #[.string nm, .int .i64 (1 + ((L : Int) + 1)), .pointer ho, .pointer (some ⟨P, 0, none⟩)] 148 := by rw [← hU]; exact kN.set 1 _
  have HIf : Hid (w.frozen? ⟨S, so, none⟩ = false) := hif
  have HNm : Hid (w.cell? ⟨S, so + 1, none⟩ = some (.map (some m))) := hn
  have HSm : Hid (S ≠ m ∧ S < w.heap.size ∧ m < w.heap.size) := ⟨hne, hlt, HM.out.lt⟩
  have hi' : U.cell? ⟨S, so, none⟩ = some (.pointer (some ⟨P, 0, none⟩)) := (cell_of_block (hBU.block S hlt) so).trans hi
  have hif' : U.frozen? ⟨S, so, none⟩ = false := (frozen_of_block (hBU.block S hlt) so).trans hif
  have hn' : U.cell? ⟨S, so + 1, none⟩ = some (.map (some m)) := (cell_of_block (hBU.block S hlt) (so + 1)).trans hn
  have hSV : S < U.heap.size := Nat.lt_of_lt_of_le hlt hBU.size
  have hNU : N < U.heap.size := kU.lt
  have hSN : S ≠ N := by rw [← hN]; omega
  have hF1 : FrMap (U.setCell ⟨S, so, none⟩ (.pointer (some ⟨N, 0, none⟩))) m c (fnd (p :: r)) := HM.out.same (((But.set S U so _).block m (Nat.lt_of_lt_of_le HM.out.lt hBU.size) hne.symm).trans (hBU.block m HM.out.lt))
  obtain ⟨v0, st, W1, W2, r1, r2, hF2, hB2⟩ := hF1.entry hc nm hs (.pointer (some ⟨N, 0, none⟩))
  have HF2 : Hid (FrMap W2 m (c + 1) (fnd ((nm, N) :: p :: r))) := hF2
  have hsz : U.heap.size ≤ (U.setCell ⟨S, so, none⟩ (.pointer (some ⟨N, 0, none⟩))).heap.size := (But.set S U so _).size
  have HCh : Hid (ScChg S so m w W2) := ((ScChg.ofBelow hBU hlt).trans (ScChg.ofSet S so m U _)).trans (ScChg.ofBut hB2 (by omega) hne)
  have HI : Hid (W2.cell? ⟨S, so, none⟩ = some (.pointer (some ⟨N, 0, none⟩))) := by
    have e1 := cell_of_block (hB2.block S (by omega) hne) so
    exact e1.trans (setCell_cell_same U S so _ _ hi')
  have HK : Hid (Blk W2 N #[.string nm, .int .i64 (((L + 1) + 1 : Nat) : Int), .pointer ho, .pointer (some ⟨P, 0, none⟩)] 148) := by
    have hbm : N ≠ m := by have := HSm.out.2.2; rw [hN] at this; omega
    have e1 := hB2.block N (by omega) hbm
    have e2 := (But.set S U so (.pointer (some ⟨N, 0, none⟩))).block N hNU hSN.symm
    rw [show (((L + 1) + 1 : Nat) : Int) = 1 + ((L : Int) + 1) by omega]
    show W2.heap[N]? = _
    rw [e1, e2]
    exact kU
  clear hV hU hB hBU kN kU hN hi hif hn hlt hF1 hF2 hB2 hl1 hl2 HM hs hc hne p1 p1' p1d n0 n1 n2 n3 n1d n3d y0 y1 y2 y3 y1d
  go_wp2
  go_end0
  refine ⟨rfl, ⟨HSm.out.1, by rw [HN.out]; exact HI.out, ?_, ?_, ?_, ?_, Nat.lt_of_lt_of_le HSm.out.2.1 HCh.out.size⟩, HCh.out⟩
  · exact (HCh.out.frozen so).trans HIf.out
  · exact (HCh.out.cells (so + 1) (by omega)).trans HNm.out
  · rw [HN.out]; exact HF2.out
  · rw [HN.out]
    refine ⟨⟨hSN.symm, fun q hq => by rw [← HN.out]; exact HFr.out.lt q hq⟩, by have := HSm.out.2.2; rw [HN.out] at this; omega, ?_, HFr.out.same HCh.out.block⟩
    have hk := HK.out
    rw [← HL.out, ← HHo.out] at hk
    have ht : top (p :: r) = .pointer (some ⟨P, 0, none⟩) := by show Value.pointer (some ⟨p.2, 0, none⟩) = _; rw [HP.out]
    rw [ht]
    exact hk
theorem bind_c (nm : ByteArray) (hs : nm.size ≤ maxLen) (S so m c : Nat) (sc : Sc) (hr : sc.length ≤ 2000000) (w : World) (h : ScAt w S so m c sc) (hc : c < 4000000) :
    Calls Tryd.prog 82 #[.pointer (some ⟨S, so, none⟩), .string nm] w fun e w' => e = .returned (.tuple #[]) ∧ ScAt w' S so m (c + 1) ((nm, w.heap.size) :: sc) ∧ ScChg S so m w w' := by
  cases sc with
  | nil => exact bind_nil nm hs S so m c w h hc
  | cons p r => exact bind_cons nm hs S so m c p r (by simp at hr; omega) w h hc
end Go.Proofs.YtjmpjfggbhongaaDoor
namespace Go.Proofs.YtjmpjfggbhongaaDoor
open Go.RowKit Go.Shelf Go.Maps
set_option linter.unusedVariables false
/-- A scope that has grown by names. -/
def Grown (W W' : World) (S so m c : Nat) (l : List ByteArray) (sc : Sc) : Prop := ∃ ext : Sc, ext.map Prod.fst = l.reverse ∧ ScAt W' S so m (c + l.length) (ext ++ sc) ∧ ScChg S so m W W'
theorem Grown.start {W : World} {S so m c : Nat} {sc : Sc} (h : ScAt W S so m c sc) : Grown W W S so m c [] sc := ⟨[], rfl, h, ScChg.refl _ _ _ _⟩
theorem Grown.snoc {W W' W'' : World} {S so m c : Nat} {l : List ByteArray} {sc ext : Sc} {nm : ByteArray} {N : Nat} (he : ext.map Prod.fst = l.reverse) (hc : ScChg S so m W W') (h : ScAt W'' S so m (c + l.length + 1) ((nm, N) :: (ext ++ sc))) (hc2 : ScChg S so m W' W'') : Grown W W'' S so m c (l ++ [nm]) sc :=
  ⟨(nm, N) :: ext, by simp [he], by rw [List.length_append, List.length_singleton, ← Nat.add_assoc]; exact h, hc.trans hc2⟩
theorem Grown.append {W W' W'' : World} {S so m c : Nat} {l l2 : List ByteArray} {sc ext : Sc} (he : ext.map Prod.fst = l.reverse) (hc : ScChg S so m W W') (h : Grown W' W'' S so m (c + l.length) l2 (ext ++ sc)) : Grown W W'' S so m c (l ++ l2) sc := by
  obtain ⟨e2, h1, h2, h3⟩ := h
  exact ⟨e2 ++ ext, by simp [h1, he], by rw [List.length_append, ← Nat.add_assoc, List.append_assoc]; exact h2, hc.trans h3⟩
theorem ScChg.tx {W W' : World} {S so m B : Nat} (h : ScChg S so m W W') (hS : B ≤ S) (hm : B ≤ m) (hw : B ≤ W.heap.size) : ∀ g off, g < B → W'.cell? ⟨g, off, none⟩ = W.cell? ⟨g, off, none⟩ := fun g off hg => cell_of_block (h.block g (by omega) (by omega) (by omega)) off
set_option maxRecDepth 100000 in
set_option maxHeartbeats 2000000 in
theorem bindAll_c (l : List ByteArray) (hls : ∀ x ∈ l, x.size ≤ maxLen) (o : Option Addr) (cap B S so m c : Nat) (sc : Sc) (w : World) (hl : TxIn w B o l) (hS : B ≤ S) (hm : B ≤ m) (hw : B ≤ w.heap.size) (h : ScAt w S so m c sc) (hc : c + l.length ≤ 2000000) (hn : sc.length + l.length ≤ 2000000) :
    Calls Tryd.prog 58 #[.pointer (some ⟨S, so, none⟩), .slice o l.length cap] w fun e w' => e = .returned (.tuple #[]) ∧ Grown w w' S so m c l sc := by
  have HL : Hid (∀ k (hk : k < l.length), ∃ g off, o = some ⟨g, off, none⟩ ∧ g < B ∧ ∀ W, ScChg S so m w W → W.cell? ⟨g, off + k, none⟩ = some (.string l[k]) ∧ g < W.heap.size) := by
    intro k hk
    rcases hl with h0 | ⟨g, off, e, hg, hE⟩
    · subst h0; cases hk
    · exact ⟨g, off, e, hg, fun W hW => ⟨(hW.tx hS hm hw g _ hg).trans (hE k hk), by have := hW.size; omega⟩⟩
  have HX : Hid ((∀ x ∈ l, x.size ≤ maxLen) ∧ c + l.length ≤ 2000000 ∧ sc.length + l.length ≤ 2000000) := ⟨hls, hc, hn⟩
  have HG : Hid (Grown w w S so m c [] sc) := Grown.start h
  obtain ⟨n, hn⟩ : ∃ n, l.length = n := ⟨_, rfl⟩
  have HN : Hid (l.length = n) := hn
  rw [hn]
  have hn2 : (n : Int) ≤ 2000000 := by rw [← hn]; omega
  clear hl hS hm hw h hc hn hls
  go_enter Tryd.func58, Tryd.ntmps58
  go_wp2
  go_loopw [8] (fun i wr => ∃ k : Nat, k ≤ n ∧ i = .int .i64 k ∧ Hid (Grown w wr S so m c (l.take k) sc)) (fun i _ => n - (intOf i).toNat)
  case atStart => exact ⟨0, Nat.zero_le _, rfl, HG⟩
  case round =>
    obtain ⟨k, hk, rfl, hG⟩ := hrel
    by_cases hkn : k < n
    · have hkl : k < l.length := by rw [HN.out]; exact hkn
      obtain ⟨g, off, rfl, hg, hC⟩ := HL.out k hkl
      have HC : Hid (∀ x, l[k] = x → Calls Tryd.prog 82 #[.pointer (some ⟨S, so, none⟩), .string x] wr fun e w' => e = .returned (.tuple #[]) ∧ Grown w w' S so m c (l.take (k + 1)) sc) := by
        intro x hx
        obtain ⟨ext, he, hs, hch⟩ := hG.out
        have hle : ext.length = k := by have := congrArg List.length he; simp at this; omega
        have htl : (l.take k).length = k := by simp; omega
        refine (bind_c x (by rw [← hx]; exact HX.out.1 _ (List.getElem_mem _)) S so m (c + (l.take k).length) (ext ++ sc) (by have := HX.out.2.2; simp; omega) wr hs (by have := HX.out.2.1; omega)).mono ?_
        rintro e w' ⟨rfl, h1, h2⟩
        refine ⟨rfl, ?_⟩
        rw [List.take_succ_eq_append_getElem hkl, hx]
        exact Grown.snoc he hch h1 h2
      obtain ⟨hc0, hgw⟩ := hC wr (by obtain ⟨_, _, _, hch⟩ := hG.out; exact hch)
      generalize hx : l[k] = x at hc0
      have HC1 : Hid (Calls Tryd.prog 82 #[.pointer (some ⟨S, so, none⟩), .string x] wr fun e w' => e = .returned (.tuple #[]) ∧ Grown w w' S so m c (l.take (k + 1)) sc) := HC.out x hx
      clear HC hC hx hk hkl hG HL HX HG
      go_wp2_with (go_at_call 82; fail)
      refine HC1.out.mono ?_
      rintro e w2 ⟨rfl, hr⟩
      have HR2 : Hid (Grown w w2 S so m c (l.take (k + 1)) sc) := hr
      clear hr HC1
      go_wp2
      go_roundw
      case rel => exact ⟨k + 1, hkn, by go_num, HR2⟩
      case measure => simp [intOf]; omega
    · have HF : Hid (Grown w wr S so m c l sc) := by
        have e : l.take k = l := List.take_of_length_le (by rw [HN.out]; omega)
        have h3 := hG.out
        rw [e] at h3
        exact h3
      clear hG HL
      go_wp2
      go_end0
      exact ⟨rfl, HF.out⟩
end Go.Proofs.YtjmpjfggbhongaaDoor
