/-
  Layout: the functions of tokens alone, by contracts.
  Layout: a stream in memory, and the functions that only look at it, by contracts.
  Layout: the functions that look at a stream, by contracts.
  Blocks of eight and of fourteen cells.
-/
import Derived.Test.YtldpldcfgkceeaaGreatDoorQL3
import Derived.BigQuiet
namespace Go.Proofs.YtldpldcfgkceeaaGreatDoor
open Go.RowKit Go.Shelf Go.Maps
set_option linter.unusedVariables false

/-- A token as a value. -/
def tkV (t : M.Tk) : Value := .agg #[.int .i64 (t.t.kind : Int), .string (bs t.t.text), .int .i64 (t.t.num : Int), .int .i64 (t.pos : Int), .int .i64 (t.line : Int), .int .i64 (t.col : Int), .bool t.first]
theorem bs_toList (l : List UInt8) : (bs l).toList = l := by rw [ByteArray.toList_eq]; rfl
theorem bs_beq (a b : List UInt8) : ((bs a).toList == (bs b).toList) = decide (a = b) := by
  rw [bs_toList, bs_toList, Bool.eq_iff_iff]; simp
theorem bs_beqL (a b : List UInt8) : ((bs a).toList == b) = decide (a = b) := by
  rw [bs_toList, Bool.eq_iff_iff]; simp

set_option maxHeartbeats 2000000 in
set_option maxRecDepth 100000 in
theorem isMark_c (k : Nat) (tx : List UInt8) (num pos line col : Nat) (first : Bool) (x : List UInt8) (w : World) :
    Calls Tryz.prog 72 #[.agg #[.int .i64 (k : Int), .string (bs tx), .int .i64 (num : Int), .int .i64 (pos : Int), .int .i64 (line : Int), .int .i64 (col : Int), .bool first], .string (bs x)] w fun e W' => e = .returned (.bool (L.isMark ⟨⟨k, tx, num⟩, pos, line, col, first⟩ x)) ∧ Below w.heap.size w W' := by
  have hB : Hid (∀ o : Obj, Below w.heap.size w (w.alloc o)) := fun o => (Below.refl _ w).alloc (Nat.le_refl _) _
  have HR : Hid (∀ b : Bool, (decide (k = 8) && decide (tx = x)) = b → L.isMark ⟨⟨k, tx, num⟩, pos, line, col, first⟩ x = b) := fun b h => h
  by_cases hk : k = 8
  · subst hk
    go_enter Tryz.func72, Tryz.ntmps72
    go_wp2
    go_ret
    exact ⟨ret_bool (HR.out _ (by rw [bs_beq]; simp)).symm, hB.out _⟩
  · have hki : ((k : Int) == 8) = false := beq_eq_false_iff_ne.2 (by omega)
    go_enter Tryz.func72, Tryz.ntmps72
    go_wp2
    go_ret
    exact ⟨ret_bool (HR.out _ (by rw [decide_eq_false hk]; rfl)).symm, hB.out _⟩

set_option maxHeartbeats 4000000 in
set_option maxRecDepth 100000 in
theorem opens_c (k : Nat) (tx : List UInt8) (num pos line col : Nat) (first : Bool) (w : World) :
    Calls Tryz.prog 170 #[.agg #[.int .i64 (k : Int), .string (bs tx), .int .i64 (num : Int), .int .i64 (pos : Int), .int .i64 (line : Int), .int .i64 (col : Int), .bool first]] w fun e W' => e = .returned (.bool (L.opens ⟨⟨k, tx, num⟩, pos, line, col, first⟩)) ∧ Below w.heap.size w W' := by
  have hB : Hid (∀ o : Obj, Below w.heap.size w (w.alloc o)) := fun o => (Below.refl _ w).alloc (Nat.le_refl _) _
  by_cases hk : k = 9
  · subst hk
    have e1 := bs_beqL tx [108, 101, 116]
    have e2 := bs_beqL tx [119, 104, 101, 114, 101]
    have e3 := bs_beqL tx [100, 111]
    have e4 := bs_beqL tx [111, 102]
    have HO : Hid (L.opens ⟨⟨9, tx, num⟩, pos, line, col, first⟩ = (((bs tx).toList == [108, 101, 116]) || ((bs tx).toList == [119, 104, 101, 114, 101]) || ((bs tx).toList == [100, 111]) || ((bs tx).toList == [111, 102]))) := by show _ = _; rw [e1, e2, e3, e4]; simp [L.opens]
    clear e1 e2 e3 e4
    have hcs : ∀ a b c d : Bool, a = true ∨ (a = false ∧ b = true) ∨ (a = false ∧ b = false ∧ c = true) ∨ (a = false ∧ b = false ∧ c = false ∧ d = true) ∨ (a = false ∧ b = false ∧ c = false ∧ d = false) := by decide
    rcases hcs ((bs tx).toList == [108, 101, 116]) ((bs tx).toList == [119, 104, 101, 114, 101]) ((bs tx).toList == [100, 111]) ((bs tx).toList == [111, 102]) with h1 | ⟨h1, h2⟩ | ⟨h1, h2, h3⟩ | ⟨h1, h2, h3, h4⟩ | ⟨h1, h2, h3, h4⟩
    all_goals clear hcs
    · have HF : Hid (L.opens ⟨⟨9, tx, num⟩, pos, line, col, first⟩ = true) := by show _ = _; rw [HO.out, h1]; simp
      go_enter Tryz.func170, Tryz.ntmps170
      go_wp2
      go_ret
      exact ⟨ret_bool HF.out.symm, hB.out _⟩
    · have HF : Hid (L.opens ⟨⟨9, tx, num⟩, pos, line, col, first⟩ = true) := by show _ = _; rw [HO.out, h1, h2]; simp
      go_enter Tryz.func170, Tryz.ntmps170
      go_wp2
      go_ret
      exact ⟨ret_bool HF.out.symm, hB.out _⟩
    · have HF : Hid (L.opens ⟨⟨9, tx, num⟩, pos, line, col, first⟩ = true) := by show _ = _; rw [HO.out, h1, h2, h3]; simp
      go_enter Tryz.func170, Tryz.ntmps170
      go_wp2
      go_ret
      exact ⟨ret_bool HF.out.symm, hB.out _⟩
    · have HF : Hid (L.opens ⟨⟨9, tx, num⟩, pos, line, col, first⟩ = true) := by show _ = _; rw [HO.out, h1, h2, h3, h4]; simp
      go_enter Tryz.func170, Tryz.ntmps170
      go_wp2
      go_ret
      exact ⟨ret_bool HF.out.symm, hB.out _⟩
    · have HF : Hid (L.opens ⟨⟨9, tx, num⟩, pos, line, col, first⟩ = false) := by show _ = _; rw [HO.out, h1, h2, h3, h4]; simp
      go_enter Tryz.func170, Tryz.ntmps170
      go_wp2
      go_ret
      exact ⟨ret_bool HF.out.symm, hB.out _⟩
  · have hki : ((k : Int) == 9) = false := beq_eq_false_iff_ne.2 (by omega)
    go_enter Tryz.func170, Tryz.ntmps170
    go_wp2
    go_ret
    exact ⟨ret_bool (by simp [L.opens, hk]), hB.out _⟩

end Go.Proofs.YtldpldcfgkceeaaGreatDoor

namespace Go.Proofs.YtldpldcfgkceeaaGreatDoor
open Go.RowKit Go.Shelf Go.Maps
set_option linter.unusedVariables false

/-- A stream's state as a value. -/
def stV : L.St → Value
  | .opening n => .iface 105 (.int .i64 (n : Int))
  | .lining n => .iface 106 (.int .i64 (n : Int))
  | .plain => .iface 107 (.agg #[])
/-- Tokens that lie in a row, below P. -/
def TokAt (W : World) (P : Nat) (o : Option Addr) (l : List M.Tk) : Prop :=
  l = [] ∨ ∃ g f, o = some ⟨g, f, none⟩ ∧ g < P ∧ ∀ i (h : i < l.length) q u, (tkC l[i])[q]? = some u → W.cell? ⟨g, f + i * 7 + q, none⟩ = some u
theorem TokAt.below {W W' : World} {P B : Nat} {o : Option Addr} {l : List M.Tk} (h : TokAt W P o l) (hP : P ≤ B) (hb : Below B W W') : TokAt W' P o l := by
  rcases h with h | ⟨g, f, ho, hg, h⟩
  · exact .inl h
  · refine .inr ⟨g, f, ho, hg, fun i hi q u hu => ?_⟩
    rw [hb.cell (p := ⟨g, f + i * 7 + q, none⟩) (by show g < B; omega)]
    exact h i hi q u hu
theorem TokAt.mono {W : World} {P B : Nat} {o : Option Addr} {l : List M.Tk} (h : TokAt W P o l) (hP : P ≤ B) : TokAt W B o l := by
  rcases h with h | ⟨g, f, ho, hg, h⟩
  · exact .inl h
  · exact .inr ⟨g, f, ho, by omega, h⟩
/-- The first token's cells. -/
theorem TokAt.head {W : World} {P : Nat} {o : Option Addr} {t : M.Tk} {l : List M.Tk} (h : TokAt W P o (t :: l)) : ∃ g f, o = some ⟨g, f, none⟩ ∧ g < P ∧ W.cell? ⟨g, f, none⟩ = some (.int .i64 (t.t.kind : Int)) ∧ W.cell? ⟨g, f + 1, none⟩ = some (.string (bs t.t.text)) ∧ W.cell? ⟨g, f + 2, none⟩ = some (.int .i64 (t.t.num : Int)) ∧ W.cell? ⟨g, f + 3, none⟩ = some (.int .i64 (t.pos : Int)) ∧ W.cell? ⟨g, f + 4, none⟩ = some (.int .i64 (t.line : Int)) ∧ W.cell? ⟨g, f + 5, none⟩ = some (.int .i64 (t.col : Int)) ∧ W.cell? ⟨g, f + 6, none⟩ = some (.bool t.first) := by
  rcases h with h | ⟨g, f, ho, hg, h⟩
  · cases h
  · have k := fun q u hu => h 0 (by simp) q u hu
    simp only [Nat.zero_mul, Nat.add_zero, List.getElem_cons_zero] at k
    exact ⟨g, f, ho, hg, k 0 _ rfl, k 1 _ rfl, k 2 _ rfl, k 3 _ rfl, k 4 _ rfl, k 5 _ rfl, k 6 _ rfl⟩
/-- What is behind the first token. -/
theorem TokAt.tail {W : World} {P : Nat} {g f : Nat} {t : M.Tk} {l : List M.Tk} (h : TokAt W P (some ⟨g, f, none⟩) (t :: l)) (o : Option Addr) (ho : l ≠ [] → o = some ⟨g, f + 7, none⟩) : TokAt W P o l := by
  by_cases hl : l = []
  · exact .inl hl
  · rcases h with h | ⟨g', f', ho', hg, h⟩
    · cases h
    · rw [Option.some.injEq, Addr.mk.injEq] at ho'
      obtain ⟨rfl, rfl, -⟩ := ho'
      refine .inr ⟨g, f + 7, ho hl, hg, fun i hi q u hu => ?_⟩
      have := h (i + 1) (by simpa using hi) q u hu
      rw [show f + (i + 1) * 7 + q = f + 7 + i * 7 + q by omega] at this
      exact this

set_option maxHeartbeats 8000000 in
set_option maxRecDepth 100000 in
theorem ahead_c (l : List M.Tk) (b : Bool) (o : Option Addr) (n c : Nat) (hn : l.length = n) (hn2 : n ≤ 100000) (w : World) (h : TokAt w w.heap.size o l) :
    Calls Tryz.prog 42 #[.slice o n c, .bool b] w fun e W' => e = .returned (stV (L.ahead l b)) ∧ Below w.heap.size w W' := by
  match l with
  | [] =>
    simp only [List.length_nil] at hn
    subst hn
    clear h
    cases b
    all_goals go_enter Tryz.func42, Tryz.ntmps42
    all_goals go_wp2
    all_goals go_ret
    all_goals exact ⟨rfl, Below.refl _ _⟩
  | t :: l =>
    obtain ⟨g, f, rfl, hg, c0, c1, c2, c3, c4, c5, c6⟩ := h.head
    obtain ⟨⟨k, tx, num⟩, pos, line, col, first⟩ := t
    simp only at c0 c1 c2 c3 c4 c5 c6
    obtain ⟨m, rfl⟩ : ∃ m, n = m + 1 := ⟨l.length, by rw [← hn]; rfl⟩
    have HM : Hid (∀ w : World, Calls Tryz.prog 72 #[.agg #[.int .i64 (k : Int), .string (bs tx), .int .i64 (num : Int), .int .i64 (pos : Int), .int .i64 (line : Int), .int .i64 (col : Int), .bool first], .string (bs [123])] w fun e W' => e = .returned (.bool (L.isMark ⟨⟨k, tx, num⟩, pos, line, col, first⟩ [123])) ∧ Below w.heap.size w W') := fun w => isMark_c k tx num pos line col first [123] w
    obtain ⟨im, him⟩ : ∃ im, L.isMark ⟨⟨k, tx, num⟩, pos, line, col, first⟩ [123] = im := ⟨_, rfl⟩
    have HI : Hid (L.isMark ⟨⟨k, tx, num⟩, pos, line, col, first⟩ [123] = im) := him
    rw [him] at HM
    clear h hn him
    cases b
    · cases first
      all_goals go_enter Tryz.func42, Tryz.ntmps42
      all_goals go_wp2
      all_goals go_ret
      all_goals exact ⟨by simp [L.ahead, stV], Below.refl _ _⟩
    · cases im
      · go_enter Tryz.func42, Tryz.ntmps42
        go_wp2_with (go_at_call 72; refine (HM.out _).mono ?_; rintro e w1 ⟨rfl, hb⟩; have e5 := (hb.cell (p := ⟨g, f + 5, none⟩) hg).trans c5)
        go_ret
        exact ⟨by simp [L.ahead, stV, HI.out], hb⟩
      · cases first
        all_goals go_enter Tryz.func42, Tryz.ntmps42
        all_goals go_wp2_with (go_at_call 72; refine (HM.out _).mono ?_; rintro e w1 ⟨rfl, hb⟩; have e5 := (hb.cell (p := ⟨g, f + 5, none⟩) hg).trans c5; have e6 := (hb.cell (p := ⟨g, f + 6, none⟩) hg).trans c6)
        all_goals go_ret
        all_goals exact ⟨by simp [L.ahead, stV, HI.out], hb⟩

end Go.Proofs.YtldpldcfgkceeaaGreatDoor

namespace Go.Proofs.YtldpldcfgkceeaaGreatDoor
open Go.RowKit Go.Shelf Go.Maps
set_option linter.unusedVariables false

def intsV (l : List Nat) : List Value := l.map fun (n : Nat) => Value.int .i64 (n : Int)
/-- A stream in memory, at block P. -/
structure Strm (W : World) (P e : Nat) (s : L.S) (n : Nat) (ov : Option Addr) (cv : Nat) (bv : Value) : Prop where
  blk : Blk W P #[.slice ov n cv, .int .i64 (e : Int), stV s.st, bv, .int .i64 (s.owed : Int)] 57
  len : s.toks.length = n
  cap : n ≤ cv
  toks : TokAt W W.heap.size ov s.toks
  bks : W.ownsRow (P + 1) 3 1 bv s.blocks.length (intsV s.blocks)
theorem Strm.below {W W' : World} {P e : Nat} {s : L.S} {n : Nat} {ov : Option Addr} {cv : Nat} {bv : Value} (h : Strm W P e s n ov cv bv) (hb : Below W.heap.size W W') : Strm W' P e s n ov cv bv :=
  ⟨h.blk.below hb, h.len, h.cap, (h.toks.below (Nat.le_refl _) hb).mono hb.size, owns_below h.bks hb⟩
theorem Blk.all5 {W : World} {B : Nat} {v0 v1 v2 v3 v4 : Value} {T : TypeId} (h : Blk W B #[v0, v1, v2, v3, v4] T) : W.cell? ⟨B, 0, none⟩ = some v0 ∧ W.cell? ⟨B, 1, none⟩ = some v1 ∧ W.cell? ⟨B, 2, none⟩ = some v2 ∧ W.cell? ⟨B, 3, none⟩ = some v3 ∧ W.cell? ⟨B, 4, none⟩ = some v4 ∧ W.frozen? ⟨B, 0, none⟩ = false ∧ W.frozen? ⟨B, 1, none⟩ = false ∧ W.frozen? ⟨B, 2, none⟩ = false ∧ W.frozen? ⟨B, 3, none⟩ = false ∧ W.frozen? ⟨B, 4, none⟩ = false := ⟨h.cell 0 _ rfl, h.cell 1 _ rfl, h.cell 2 _ rfl, h.cell 3 _ rfl, h.cell 4 _ rfl, h.frozen 0, h.frozen 1, h.frozen 2, h.frozen 3, h.frozen 4⟩

set_option maxHeartbeats 8000000 in
set_option maxRecDepth 100000 in
theorem place_c (P e : Nat) (s : L.S) (n : Nat) (ov : Option Addr) (cv : Nat) (bv : Value) (w : World) (h : Strm w P e s n ov cv bv) :
    Calls Tryz.prog 48 #[.pointer (some ⟨P, 0, none⟩)] w fun r W' => r = .returned (.int .i64 (L.place e s.toks : Nat)) ∧ W' = w := by
  obtain ⟨c0, c1, c2, c3, c4, f0, f1, f2, f3, f4⟩ := h.blk.all5
  obtain ⟨toks, st, blocks, owed⟩ := s
  simp only at c0 c1 c2 c3 c4
  match toks, h with
  | [], h =>
    obtain rfl : n = 0 := h.len.symm
    clear h
    go_enter Tryz.func48, Tryz.ntmps48
    go_wp2
    go_ret
    exact ⟨rfl, rfl⟩
  | t :: l, h =>
    obtain ⟨m, rfl⟩ : ∃ m, n = m + 1 := ⟨l.length, h.len.symm⟩
    obtain ⟨g, f, rfl, hg, d0, d1, d2, d3, d4, d5, d6⟩ := h.toks.head
    clear h
    go_enter Tryz.func48, Tryz.ntmps48
    go_wp2
    go_ret
    exact ⟨rfl, rfl⟩

set_option maxHeartbeats 8000000 in
set_option maxRecDepth 100000 in
theorem column_c (P e : Nat) (s : L.S) (n : Nat) (ov : Option Addr) (cv : Nat) (bv : Value) (hb : s.blocks.length ≤ 100000) (w : World) (h : Strm w P e s n ov cv bv) :
    Calls Tryz.prog 53 #[.pointer (some ⟨P, 0, none⟩)] w fun r W' => r = .returned (.int .i64 (L.col s.blocks : Nat)) ∧ Below w.heap.size w W' := by
  have hdep : Tryz.prog.follows Departure.mixedOrders = true := by kernel_rfl
  obtain ⟨c0, c1, c2, c3, c4, f0, f1, f2, f3, f4⟩ := h.blk.all5
  obtain ⟨toks, st, blocks, owed⟩ := s
  simp only at c0 c1 c2 c3 c4 hb
  have hr := h.bks
  simp only at hr
  clear h
  rcases Nat.eq_zero_or_pos blocks.length with h0 | h0
  · obtain rfl : blocks = [] := List.length_eq_zero_iff.1 h0
    have hv : ∃ (o : Option Addr) (c : Nat), bv = .slice o 0 c := by
      rcases hr with ⟨_, ⟨rfl, _⟩ | ⟨g, cap, cur, h, _⟩⟩
      · exact ⟨none, 0, rfl⟩
      · exact ⟨_, cap, h⟩
    obtain ⟨o, c, rfl⟩ := hv
    clear hr h0
    go_enter Tryz.func53, Tryz.ntmps53
    go_wp2
    go_ret
    exact ⟨rfl, Below.refl _ _⟩
  · obtain ⟨m, hm⟩ : ∃ m, blocks.length = m + 1 := ⟨blocks.length - 1, by omega⟩
    rw [hm] at hr hb
    obtain ⟨g, cap, rfl⟩ := ownsRow_succ' hr
    have hc : w.cell? ⟨g, m, none⟩ = some (.int .i64 (L.col blocks : Nat)) := by
      have h1 := hr.cellAt m (by omega)
      rw [h1]
      unfold intsV
      rw [List.getElem?_map]
      have : blocks[m]? = some (L.col blocks) := by
        unfold L.col
        rw [List.getLast?_eq_getElem?, hm, Nat.add_sub_cancel]
        rw [List.getElem?_eq_getElem (by omega)]; rfl
      rw [this]; rfl
    have hmi : (m : Int) ≤ 100000 := by omega
    generalize L.col blocks = col at hc ⊢
    clear hr h0 hm hb
    go_enter Tryz.func53, Tryz.ntmps53
    go_wp2
    go_region
    all_goals go_wp2
    all_goals go_ret
    all_goals exact ⟨rfl, (Below.refl _ _).trans ⟨rfl, rfl, rfl, Nat.le_refl _, fun _ _ => rfl⟩⟩

/-- What comes, as a value. -/
def lxC (x : L.Lx) : List Value := tkC x.t ++ [.bool x.imp]
def lxV (x : L.Lx) : Value := .agg (lxC x).toArray

set_option maxHeartbeats 8000000 in
set_option maxRecDepth 100000 in
theorem implied_c (P e : Nat) (s : L.S) (n : Nat) (ov : Option Addr) (cv : Nat) (bv : Value) (x : List UInt8) (w : World) (h : Strm w P e s n ov cv bv) :
    Calls Tryz.prog 73 #[.pointer (some ⟨P, 0, none⟩), .string (bs x)] w fun r W' => r = .returned (lxV (L.impl e s.toks x)) ∧ Below w.heap.size w W' := by
  have hP : Hid (∀ o : Obj, Calls Tryz.prog 48 #[.pointer (some ⟨P, 0, none⟩)] (w.alloc o) fun r W' => r = .returned (.int .i64 (L.place e s.toks : Nat)) ∧ W' = w.alloc o) := fun o => place_c P e s n ov cv bv _ (h.below ((Below.refl _ _).alloc (Nat.le_refl _) _))
  have hB : Hid (∀ o : Obj, Below w.heap.size w (w.alloc o)) := fun o => (Below.refl _ w).alloc (Nat.le_refl _) _
  have HX : Hid (lxV (L.impl e s.toks x) = .agg #[.int .i64 8, .string (bs x), .int .i64 0, .int .i64 (L.place e s.toks : Nat), .int .i64 0, .int .i64 0, .bool false, .bool true]) := rfl
  clear h
  generalize L.place e s.toks = p at hP HX
  go_enter Tryz.func73, Tryz.ntmps73
  go_wp2_with (go_at_call 48; refine (hP.out _).mono ?_; rintro r w1 ⟨rfl, rfl⟩)
  exact bodyPost_ret (v := .agg #[.int .i64 8, .string (bs x), .int .i64 0, .int .i64 (p : Int), .int .i64 0, .int .i64 0, .bool false, .bool true]) (by simp [results, Tryz.results73, go_sem]) rfl ⟨by rw [HX.out], hB.out _⟩

set_option maxHeartbeats 8000000 in
set_option maxRecDepth 100000 in
theorem made_c (P e : Nat) (s : L.S) (n : Nat) (ov : Option Addr) (cv : Nat) (bv : Value) (w : World) (h : Strm w P e s n ov cv bv) :
    Calls Tryz.prog 45 #[.pointer (some ⟨P, 0, none⟩)] w fun r W' => r = .returned (.bool true) ∧ W' = w := by
  obtain ⟨c0, c1, c2, c3, c4, f0, f1, f2, f3, f4⟩ := h.blk.all5
  obtain ⟨toks, st, blocks, owed⟩ := s
  simp only at c0 c1 c2 c3 c4
  clear h
  cases st
  all_goals simp only [stV] at c2
  all_goals go_enter Tryz.func45, Tryz.ntmps45
  all_goals go_wp2
  all_goals go_ret
  all_goals exact ⟨rfl, rfl⟩

end Go.Proofs.YtldpldcfgkceeaaGreatDoor

namespace Go.Proofs.YtldpldcfgkceeaaGreatDoor
open Go.RowKit Go.Shelf Go.Maps
set_option linter.unusedVariables false

theorem below_setB {w W : World} {R B : Nat} (h : Below R w W) (hB : R ≤ B) (i : Nat) (u : Value) : Below R w (W.setCell ⟨B, i, none⟩ u) := h.setCell (p := ⟨B, i, none⟩) hB u
theorem Blk.set1 {W : World} {B : Nat} {vs : Array Value} {T : TypeId} (h : Blk W B vs T) (j : Nat) (u : Value) (vs1 : Array Value) (hv : vs.setIfInBounds j u = vs1) : Blk (W.setCell ⟨B, j, none⟩ u) B vs1 T := hv ▸ h.set j u
theorem Blk.other1 {W : World} {B Q : Nat} {vs : Array Value} {T : TypeId} (h : Blk W B vs T) (hne : B ≠ Q) (i : Nat) (u : Value) : Blk (W.setCell ⟨Q, i, none⟩ u) B vs T := by
  unfold Blk; rw [Below.heap_setCell W _ _ B hne]; exact h
theorem Blk.all8 {W : World} {B : Nat} {v0 v1 v2 v3 v4 v5 v6 v7 : Value} {T : TypeId} (h : Blk W B #[v0, v1, v2, v3, v4, v5, v6, v7] T) : W.cell? ⟨B, 0, none⟩ = some v0 ∧ W.cell? ⟨B, 1, none⟩ = some v1 ∧ W.cell? ⟨B, 2, none⟩ = some v2 ∧ W.cell? ⟨B, 3, none⟩ = some v3 ∧ W.cell? ⟨B, 4, none⟩ = some v4 ∧ W.cell? ⟨B, 5, none⟩ = some v5 ∧ W.cell? ⟨B, 6, none⟩ = some v6 ∧ W.cell? ⟨B, 7, none⟩ = some v7 ∧ W.frozen? ⟨B, 0, none⟩ = false ∧ W.frozen? ⟨B, 1, none⟩ = false ∧ W.frozen? ⟨B, 2, none⟩ = false ∧ W.frozen? ⟨B, 3, none⟩ = false ∧ W.frozen? ⟨B, 4, none⟩ = false ∧ W.frozen? ⟨B, 5, none⟩ = false ∧ W.frozen? ⟨B, 6, none⟩ = false ∧ W.frozen? ⟨B, 7, none⟩ = false := ⟨h.cell 0 _ rfl, h.cell 1 _ rfl, h.cell 2 _ rfl, h.cell 3 _ rfl, h.cell 4 _ rfl, h.cell 5 _ rfl, h.cell 6 _ rfl, h.cell 7 _ rfl, h.frozen 0, h.frozen 1, h.frozen 2, h.frozen 3, h.frozen 4, h.frozen 5, h.frozen 6, h.frozen 7⟩
theorem Blk.setAll8 {W : World} {B : Nat} {v0 v1 v2 v3 v4 v5 v6 v7 : Value} {T : TypeId} (h : Blk W B #[v0, v1, v2, v3, v4, v5, v6, v7] T) (u0 u1 u2 u3 u4 u5 u6 u7 : Value) : Blk ((((((((W.setCell ⟨B, 0, none⟩ u0).setCell ⟨B, 1, none⟩ u1).setCell ⟨B, 2, none⟩ u2).setCell ⟨B, 3, none⟩ u3).setCell ⟨B, 4, none⟩ u4).setCell ⟨B, 5, none⟩ u5).setCell ⟨B, 6, none⟩ u6).setCell ⟨B, 7, none⟩ u7) B #[u0, u1, u2, u3, u4, u5, u6, u7] T := ((((((((h.set1 0 u0 #[u0, v1, v2, v3, v4, v5, v6, v7] rfl).set1 1 u1 #[u0, u1, v2, v3, v4, v5, v6, v7] rfl).set1 2 u2 #[u0, u1, u2, v3, v4, v5, v6, v7] rfl).set1 3 u3 #[u0, u1, u2, u3, v4, v5, v6, v7] rfl).set1 4 u4 #[u0, u1, u2, u3, u4, v5, v6, v7] rfl).set1 5 u5 #[u0, u1, u2, u3, u4, u5, v6, v7] rfl).set1 6 u6 #[u0, u1, u2, u3, u4, u5, u6, v7] rfl).set1 7 u7 #[u0, u1, u2, u3, u4, u5, u6, u7] rfl)
theorem below_set8 {w W : World} {R B : Nat} (h : Below R w W) (hB : R ≤ B) (u0 u1 u2 u3 u4 u5 u6 u7 : Value) : Below R w ((((((((W.setCell ⟨B, 0, none⟩ u0).setCell ⟨B, 1, none⟩ u1).setCell ⟨B, 2, none⟩ u2).setCell ⟨B, 3, none⟩ u3).setCell ⟨B, 4, none⟩ u4).setCell ⟨B, 5, none⟩ u5).setCell ⟨B, 6, none⟩ u6).setCell ⟨B, 7, none⟩ u7) := (below_setB (below_setB (below_setB (below_setB (below_setB (below_setB (below_setB (below_setB h hB 0 u0) hB 1 u1) hB 2 u2) hB 3 u3) hB 4 u4) hB 5 u5) hB 6 u6) hB 7 u7)
theorem Blk.other8 {W : World} {B Q : Nat} {vs : Array Value} {T : TypeId} (h : Blk W B vs T) (hne : B ≠ Q) (u0 u1 u2 u3 u4 u5 u6 u7 : Value) : Blk ((((((((W.setCell ⟨Q, 0, none⟩ u0).setCell ⟨Q, 1, none⟩ u1).setCell ⟨Q, 2, none⟩ u2).setCell ⟨Q, 3, none⟩ u3).setCell ⟨Q, 4, none⟩ u4).setCell ⟨Q, 5, none⟩ u5).setCell ⟨Q, 6, none⟩ u6).setCell ⟨Q, 7, none⟩ u7) B vs T := ((((((((h.other1 hne 0 u0).other1 hne 1 u1).other1 hne 2 u2).other1 hne 3 u3).other1 hne 4 u4).other1 hne 5 u5).other1 hne 6 u6).other1 hne 7 u7)
theorem Blk.all14 {W : World} {B : Nat} {v0 v1 v2 v3 v4 v5 v6 v7 v8 v9 v10 v11 v12 v13 : Value} {T : TypeId} (h : Blk W B #[v0, v1, v2, v3, v4, v5, v6, v7, v8, v9, v10, v11, v12, v13] T) : W.cell? ⟨B, 0, none⟩ = some v0 ∧ W.cell? ⟨B, 1, none⟩ = some v1 ∧ W.cell? ⟨B, 2, none⟩ = some v2 ∧ W.cell? ⟨B, 3, none⟩ = some v3 ∧ W.cell? ⟨B, 4, none⟩ = some v4 ∧ W.cell? ⟨B, 5, none⟩ = some v5 ∧ W.cell? ⟨B, 6, none⟩ = some v6 ∧ W.cell? ⟨B, 7, none⟩ = some v7 ∧ W.cell? ⟨B, 8, none⟩ = some v8 ∧ W.cell? ⟨B, 9, none⟩ = some v9 ∧ W.cell? ⟨B, 10, none⟩ = some v10 ∧ W.cell? ⟨B, 11, none⟩ = some v11 ∧ W.cell? ⟨B, 12, none⟩ = some v12 ∧ W.cell? ⟨B, 13, none⟩ = some v13 ∧ W.frozen? ⟨B, 0, none⟩ = false ∧ W.frozen? ⟨B, 1, none⟩ = false ∧ W.frozen? ⟨B, 2, none⟩ = false ∧ W.frozen? ⟨B, 3, none⟩ = false ∧ W.frozen? ⟨B, 4, none⟩ = false ∧ W.frozen? ⟨B, 5, none⟩ = false ∧ W.frozen? ⟨B, 6, none⟩ = false ∧ W.frozen? ⟨B, 7, none⟩ = false ∧ W.frozen? ⟨B, 8, none⟩ = false ∧ W.frozen? ⟨B, 9, none⟩ = false ∧ W.frozen? ⟨B, 10, none⟩ = false ∧ W.frozen? ⟨B, 11, none⟩ = false ∧ W.frozen? ⟨B, 12, none⟩ = false ∧ W.frozen? ⟨B, 13, none⟩ = false := ⟨h.cell 0 _ rfl, h.cell 1 _ rfl, h.cell 2 _ rfl, h.cell 3 _ rfl, h.cell 4 _ rfl, h.cell 5 _ rfl, h.cell 6 _ rfl, h.cell 7 _ rfl, h.cell 8 _ rfl, h.cell 9 _ rfl, h.cell 10 _ rfl, h.cell 11 _ rfl, h.cell 12 _ rfl, h.cell 13 _ rfl, h.frozen 0, h.frozen 1, h.frozen 2, h.frozen 3, h.frozen 4, h.frozen 5, h.frozen 6, h.frozen 7, h.frozen 8, h.frozen 9, h.frozen 10, h.frozen 11, h.frozen 12, h.frozen 13⟩
theorem Blk.setAll14 {W : World} {B : Nat} {v0 v1 v2 v3 v4 v5 v6 v7 v8 v9 v10 v11 v12 v13 : Value} {T : TypeId} (h : Blk W B #[v0, v1, v2, v3, v4, v5, v6, v7, v8, v9, v10, v11, v12, v13] T) (u0 u1 u2 u3 u4 u5 u6 u7 u8 u9 u10 u11 u12 u13 : Value) : Blk ((((((((((((((W.setCell ⟨B, 0, none⟩ u0).setCell ⟨B, 1, none⟩ u1).setCell ⟨B, 2, none⟩ u2).setCell ⟨B, 3, none⟩ u3).setCell ⟨B, 4, none⟩ u4).setCell ⟨B, 5, none⟩ u5).setCell ⟨B, 6, none⟩ u6).setCell ⟨B, 7, none⟩ u7).setCell ⟨B, 8, none⟩ u8).setCell ⟨B, 9, none⟩ u9).setCell ⟨B, 10, none⟩ u10).setCell ⟨B, 11, none⟩ u11).setCell ⟨B, 12, none⟩ u12).setCell ⟨B, 13, none⟩ u13) B #[u0, u1, u2, u3, u4, u5, u6, u7, u8, u9, u10, u11, u12, u13] T := ((((((((((((((h.set1 0 u0 #[u0, v1, v2, v3, v4, v5, v6, v7, v8, v9, v10, v11, v12, v13] rfl).set1 1 u1 #[u0, u1, v2, v3, v4, v5, v6, v7, v8, v9, v10, v11, v12, v13] rfl).set1 2 u2 #[u0, u1, u2, v3, v4, v5, v6, v7, v8, v9, v10, v11, v12, v13] rfl).set1 3 u3 #[u0, u1, u2, u3, v4, v5, v6, v7, v8, v9, v10, v11, v12, v13] rfl).set1 4 u4 #[u0, u1, u2, u3, u4, v5, v6, v7, v8, v9, v10, v11, v12, v13] rfl).set1 5 u5 #[u0, u1, u2, u3, u4, u5, v6, v7, v8, v9, v10, v11, v12, v13] rfl).set1 6 u6 #[u0, u1, u2, u3, u4, u5, u6, v7, v8, v9, v10, v11, v12, v13] rfl).set1 7 u7 #[u0, u1, u2, u3, u4, u5, u6, u7, v8, v9, v10, v11, v12, v13] rfl).set1 8 u8 #[u0, u1, u2, u3, u4, u5, u6, u7, u8, v9, v10, v11, v12, v13] rfl).set1 9 u9 #[u0, u1, u2, u3, u4, u5, u6, u7, u8, u9, v10, v11, v12, v13] rfl).set1 10 u10 #[u0, u1, u2, u3, u4, u5, u6, u7, u8, u9, u10, v11, v12, v13] rfl).set1 11 u11 #[u0, u1, u2, u3, u4, u5, u6, u7, u8, u9, u10, u11, v12, v13] rfl).set1 12 u12 #[u0, u1, u2, u3, u4, u5, u6, u7, u8, u9, u10, u11, u12, v13] rfl).set1 13 u13 #[u0, u1, u2, u3, u4, u5, u6, u7, u8, u9, u10, u11, u12, u13] rfl)
theorem below_set14 {w W : World} {R B : Nat} (h : Below R w W) (hB : R ≤ B) (u0 u1 u2 u3 u4 u5 u6 u7 u8 u9 u10 u11 u12 u13 : Value) : Below R w ((((((((((((((W.setCell ⟨B, 0, none⟩ u0).setCell ⟨B, 1, none⟩ u1).setCell ⟨B, 2, none⟩ u2).setCell ⟨B, 3, none⟩ u3).setCell ⟨B, 4, none⟩ u4).setCell ⟨B, 5, none⟩ u5).setCell ⟨B, 6, none⟩ u6).setCell ⟨B, 7, none⟩ u7).setCell ⟨B, 8, none⟩ u8).setCell ⟨B, 9, none⟩ u9).setCell ⟨B, 10, none⟩ u10).setCell ⟨B, 11, none⟩ u11).setCell ⟨B, 12, none⟩ u12).setCell ⟨B, 13, none⟩ u13) := (below_setB (below_setB (below_setB (below_setB (below_setB (below_setB (below_setB (below_setB (below_setB (below_setB (below_setB (below_setB (below_setB (below_setB h hB 0 u0) hB 1 u1) hB 2 u2) hB 3 u3) hB 4 u4) hB 5 u5) hB 6 u6) hB 7 u7) hB 8 u8) hB 9 u9) hB 10 u10) hB 11 u11) hB 12 u12) hB 13 u13)
theorem Blk.other14 {W : World} {B Q : Nat} {vs : Array Value} {T : TypeId} (h : Blk W B vs T) (hne : B ≠ Q) (u0 u1 u2 u3 u4 u5 u6 u7 u8 u9 u10 u11 u12 u13 : Value) : Blk ((((((((((((((W.setCell ⟨Q, 0, none⟩ u0).setCell ⟨Q, 1, none⟩ u1).setCell ⟨Q, 2, none⟩ u2).setCell ⟨Q, 3, none⟩ u3).setCell ⟨Q, 4, none⟩ u4).setCell ⟨Q, 5, none⟩ u5).setCell ⟨Q, 6, none⟩ u6).setCell ⟨Q, 7, none⟩ u7).setCell ⟨Q, 8, none⟩ u8).setCell ⟨Q, 9, none⟩ u9).setCell ⟨Q, 10, none⟩ u10).setCell ⟨Q, 11, none⟩ u11).setCell ⟨Q, 12, none⟩ u12).setCell ⟨Q, 13, none⟩ u13) B vs T := ((((((((((((((h.other1 hne 0 u0).other1 hne 1 u1).other1 hne 2 u2).other1 hne 3 u3).other1 hne 4 u4).other1 hne 5 u5).other1 hne 6 u6).other1 hne 7 u7).other1 hne 8 u8).other1 hne 9 u9).other1 hne 10 u10).other1 hne 11 u11).other1 hne 12 u12).other1 hne 13 u13)

end Go.Proofs.YtldpldcfgkceeaaGreatDoor
