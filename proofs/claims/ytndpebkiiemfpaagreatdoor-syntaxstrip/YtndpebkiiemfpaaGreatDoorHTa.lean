/-
  The teller's memory: what it has told, and what stays while it tells.
  The teller's smallest parts, by contracts.
  Telling a node, by contracts that are put together.
  Telling atoms, by contracts.
  Telling lists of atoms, and applications, by contracts.
  Telling rows of operands and operators, blocks, and the nodes that are made of them.
  Telling blocks.
  Telling right sides and guards.
  Telling nodes that are told part by part.
-/
import Derived.Test.YtndpebkiiemfpaaGreatDoorChk
import Derived.Maps.AppendAt
namespace Go.Proofs.YtndpebkiiemfpaaGreatDoor
open Go.RowKit Go.Shelf Go.Maps
set_option linter.unusedVariables false

/-- A token without a place. -/
structure TkT where
  kind : Int
  text : List UInt8
  num : Int
def tC (t : TkT) : List Value := [.int .i64 t.kind, .string (bs t.text), .int .i64 t.num, .int .i64 0, .int .i64 0, .int .i64 0, .bool false]
def tV (t : TkT) : Value := .agg #[.int .i64 t.kind, .string (bs t.text), .int .i64 t.num, .int .i64 0, .int .i64 0, .int .i64 0, .bool false]
theorem tC_flat_len : ∀ ts : List TkT, (ts.flatMap tC).length = ts.length * 7
  | [] => rfl
  | t :: ts => by rw [List.flatMap_cons, List.length_append, tC_flat_len ts, List.length_cons]; show 7 + _ = _; omega
theorem tC_one (ts : List TkT) : ∀ u ∈ ts.flatMap tC, u.oneCell' = true := by
  intro u hu
  obtain ⟨t, ht, hu⟩ := List.mem_flatMap.1 hu
  unfold tC at hu
  simp only [List.mem_cons, List.not_mem_nil, or_false] at hu
  rcases hu with rfl | rfl | rfl | rfl | rfl | rfl | rfl <;> rfl

/-- The teller at block T, its names at bl, its tokens in the row v. -/
def TSt (B bl T c : Nat) (W : World) (v : Value) (ts : List TkT) : Prop := (B ≤ bl ∧ bl < T ∧ 6 ≤ bl) ∧ GOK W ∧ LexSt W bl c ∧ Blk W T #[.map (some bl), v] 56 ∧ W.ownsRow (T + 1) 39 7 v ts.length (ts.flatMap tC)
/-- What stays while the teller tells. -/
structure TFr (T bl : Nat) (W W' : World) (v v' : Value) : Prop where
  os : W'.os = W.os
  tape : W'.tape = W.tape
  output : W'.output = W.output
  size : W.heap.size ≤ W'.heap.size
  block : ∀ k, k < W.heap.size → k ≠ T → k ≠ bl → v.ownBlock ≠ some k → W'.heap[k]? = W.heap[k]?
  row : v'.ownBlock = v.ownBlock ∨ ∃ g, v'.ownBlock = some g ∧ W.heap.size ≤ g
theorem TFr.refl (T bl : Nat) (W : World) (v : Value) : TFr T bl W W v v := ⟨rfl, rfl, rfl, Nat.le_refl _, fun _ _ _ _ _ => rfl, .inl rfl⟩
theorem TFr.trans {T bl : Nat} {W W1 W2 : World} {v v1 v2 : Value} (h : TFr T bl W W1 v v1) (k : TFr T bl W1 W2 v1 v2) : TFr T bl W W2 v v2 := by
  refine ⟨k.os.trans h.os, k.tape.trans h.tape, k.output.trans h.output, Nat.le_trans h.size k.size, fun j hj h1 h2 h3 => ?_, ?_⟩
  · rw [k.block j (Nat.lt_of_lt_of_le hj h.size) h1 h2 ?_, h.block j hj h1 h2 h3]
    rcases h.row with e | ⟨g, e, hg⟩
    · rw [e]; exact h3
    · rw [e]; intro h; cases h; omega
  · rcases k.row with e | ⟨g, e, hg⟩
    · rcases h.row with e' | ⟨g, e', hg⟩
      · exact .inl (e.trans e')
      · exact .inr ⟨g, e.trans e', hg⟩
    · exact .inr ⟨g, e, Nat.le_trans h.size hg⟩
theorem tfr_below {T bl : Nat} {W W' : World} (h : Below W.heap.size W W') (v : Value) : TFr T bl W W' v v := ⟨h.os, h.tape, h.output, h.size, fun k hk _ _ _ => h.block k hk, .inl rfl⟩
theorem tfr_but {T bl : Nat} {W W' : World} (h : But bl W W') (v : Value) : TFr T bl W W' v v := ⟨h.os, h.tape, h.output, h.size, fun k hk _ hne _ => h.block k hk hne, .inl rfl⟩
theorem Blk.tfr {T bl X : Nat} {W W' : World} {v v' : Value} {vs : Array Value} {ty : TypeId} (h : Blk W X vs ty) (hf : TFr T bl W W' v v') (h1 : X ≠ T) (h2 : X ≠ bl) (h3 : v.ownBlock ≠ some X) : Blk W' X vs ty := by
  unfold Blk; rw [hf.block X h.lt h1 h2 h3]; exact h
theorem owns_blk {W W' : World} {b e z n : Nat} {v : Value} {xs : List Value} (h : W.ownsRow b e z v n xs) (hb : ∀ g, v.ownBlock = some g → W'.heap[g]? = W.heap[g]?) : W'.ownsRow b e z v n xs := by
  rcases h with ⟨hl, h | ⟨g, cap, cur, h1, h2, h3, h4⟩⟩
  · exact ⟨hl, .inl h⟩
  · exact ⟨hl, .inr ⟨g, cap, cur, h1, h2, by rw [hb g (by rw [h1]; rfl)]; exact h3, h4⟩⟩
theorem TSt.row_lt {B bl T c : Nat} {W : World} {v : Value} {ts : List TkT} (h : TSt B bl T c W v ts) (g : Nat) (hg : v.ownBlock = some g) : T + 1 ≤ g ∧ g < W.heap.size := h.2.2.2.2.lt g hg
theorem TSt.lt {B bl T c : Nat} {W : World} {v : Value} {ts : List TkT} (h : TSt B bl T c W v ts) : T < W.heap.size := h.2.2.2.1.lt
theorem TFr.below {B bl T c : Nat} {W W' : World} {v v' : Value} {ts : List TkT} (h : TFr T bl W W' v v') (hs : TSt B bl T c W v ts) : Below B W W' := by
  have hlt := hs.lt
  obtain ⟨h1, h2, h3⟩ := hs.1
  exact ⟨h.os, h.tape, h.output, h.size, fun k hk => h.block k (by omega) (by omega) (by omega) (fun e => by have := (hs.row_lt k e).1; omega)⟩
theorem TSt.below {B bl T c : Nat} {W W' : World} {v : Value} {ts : List TkT} (h : TSt B bl T c W v ts) (hb : Below W.heap.size W W') : TSt B bl T c W' v ts :=
  ⟨h.1, h.2.1.below hb, h.2.2.1.below hb, h.2.2.2.1.below hb, owns_below h.2.2.2.2 hb⟩
theorem TSt.but {B bl T c c' : Nat} {W W' : World} {v : Value} {ts : List TkT} (h : TSt B bl T c W v ts) (hb : But bl W W') (hl : LexSt W' bl c') : TSt B bl T c' W' v ts :=
  ⟨h.1, h.2.1.but hb h.1.2.2, hl, h.2.2.2.1.but (by have := h.1.2.1; omega) hb, owns_blk h.2.2.2.2 (fun g hg => hb.block g (h.row_lt g hg).2 (by have := (h.row_lt g hg).1; have := h.1.2.1; omega))⟩
theorem TSt.mono {B bl T c c' : Nat} {W : World} {v : Value} {ts : List TkT} (h : TSt B bl T c W v ts) (hc : c ≤ c') : TSt B bl T c' W v ts := ⟨h.1, h.2.1, h.2.2.1.mono hc, h.2.2.2.1, h.2.2.2.2⟩
theorem infoTokT : (Tryz.prog.info? 39).map (fun i => (i.zero, i.size, i.bytes)) = some (some (.agg #[.int .i64 0, .string ⟨#[]⟩, .int .i64 0, .int .i64 0, .int .i64 0, .int .i64 0, .bool false]), 7, 64) := by kernel_rfl
theorem Blk.set2 {W : World} {T : Nat} {v0 v1 : Value} {ty : TypeId} (h : Blk W T #[v0, v1] ty) (u : Value) : Blk (W.setCell ⟨T, 1, none⟩ u) T #[v0, u] ty := h.set 1 u
theorem owns_form3 {W : World} {b e z n : Nat} {v : Value} {xs : List Value} (h : W.ownsRow b e z v n xs) : ∃ (o : Option Addr) (c : Nat), v = .slice o n c := owns_len3 h

set_option maxRecDepth 100000 in
set_option maxHeartbeats 4000000 in
theorem put_c (B bl T c : Nat) (ts news : List TkT) (v : Value) (g m : Nat) (w : World) (h : TSt B bl T c w v ts) (hm : news.length = m) (hn : ∀ j u, (news.flatMap tC)[j]? = some u → w.cell? ⟨g, j, none⟩ = some u) (hb : ts.length + m ≤ 1000000000) :
    Calls Tryz.prog 85 #[.pointer (some ⟨T, 0, none⟩), .slice (some ⟨g, 0, none⟩) m m] w fun e W' => e = .returned (.tuple #[]) ∧ ∃ v', TSt B bl T c W' v' (ts ++ news) ∧ TFr T bl w W' v v' := by
  obtain ⟨i0, hi0, hzz⟩ := Option.map_eq_some_iff.1 infoTokT
  simp only [Prod.mk.injEq] at hzz
  obtain ⟨hz0, hz1, hz2⟩ := hzz
  have HI : Hid (Tryz.prog.info? 39 = some i0 ∧ i0.zero = some (.agg #[.int .i64 0, .string ⟨#[]⟩, .int .i64 0, .int .i64 0, .int .i64 0, .int .i64 0, .bool false]) ∧ i0.size = 7 ∧ i0.bytes = 64) := ⟨hi0, hz0, hz1, hz2⟩
  have HS : Hid (TSt B bl T c w v ts) := h
  have HN : Hid (∀ j u, (news.flatMap tC)[j]? = some u → w.cell? ((⟨g, 0, none⟩ : Addr).add j) = some u) := fun j u hu => by rw [Addr.add_lit, Nat.zero_add]; exact hn j u hu
  have HLn : Hid ((news.flatMap tC).length = m * 7) := by show _ = _; rw [tC_flat_len, hm]
  have Hb : Hid (ts.length + m ≤ 1000000000) := hb
  have Hm : Hid (news.length = m) := hm
  obtain ⟨oo, oc, hvv⟩ := owns_form3 h.2.2.2.2
  have c0 := h.2.2.2.1.cell 1 _ rfl
  have f0 := h.2.2.2.1.frozen 1
  have hT := h.lt
  have HV : Hid (v = .slice oo ts.length oc) := hvv
  have c1 : w.cell? ⟨T, 1, none⟩ = some v := c0
  rw [hvv] at c1
  clear h hn hb hm hi0 hz0 hz1 hz2 c0 hvv
  go_enter Tryz.func85, Tryz.ntmps85
  go_wp2_with (at_builtin; refine wpList_append_own_at _ rfl _ _ 29 rfl (T + 1) 39 i0 _ 7 64 Tryz.underlying29 HI.out.1 HI.out.2.1 HI.out.2.2.1 HI.out.2.2.2 rfl (by decide) (.slice oo ts.length oc) ts.length (ts.flatMap tC) rfl (by have := HS.out.2.2.2.2; rw [HV.out] at this; exact this) ⟨g, 0, none⟩ m m (news.flatMap tC) rfl HLn.out HN.out (tC_one news) (by have := Hb.out; unfold maxLen; omega) (by have := Hb.out; omega) HS.out.lt ?_; intro v' w1 hown1 hgrow1 hnil1 hat1; obtain ⟨o2, c2, hv2⟩ := owns_form3 hown1; subst hv2; have hne : (Value.slice oo ts.length oc).ownBlock ≠ some T := (by intro e; have := (HS.out.row_lt T (by rw [HV.out]; exact e)).1; omega); have hB1 : Blk w1 T #[.map (some bl), v] 56 := (by have h0 := HS.out.2.2.2.1; unfold Blk; rw [hgrow1.block T h0.lt (fun e => hne e.symm)]; exact h0); have f1 := hB1.frozen 1; have cc1 := hB1.cell 1 _ rfl; have hT1 := hB1.lt; have HG : Hid (w.grownBy w1 (Value.slice oo ts.length oc).ownBlock) := hgrow1; have HO : Hid (w1.ownsRow (T + 1) 39 7 (.slice o2 (ts.length + m) c2) (ts.length + m) (ts.flatMap tC ++ news.flatMap tC)) := hown1; have HBk : Hid (Blk w1 T #[.map (some bl), v] 56) := hB1; have HAt : Hid ((Value.slice o2 (ts.length + m) c2).ownBlock = (Value.slice oo ts.length oc).ownBlock ∨ (Value.slice o2 (ts.length + m) c2).ownBlock = some w.heap.size) := hat1; clear hown1 hgrow1 hnil1 hat1 hne hB1)
  go_end0
  have hS := HS.out
  have hG := HG.out
  have hlt := hS.lt
  obtain ⟨q1, q2, q3⟩ := hS.1
  have hfr : TFr T bl w (w1.setCell ⟨T, 1, none⟩ (.slice o2 (ts.length + m) c2)) v (.slice o2 (ts.length + m) c2) := by
    refine ⟨hG.os, hG.tape, hG.output, by simp; exact hG.size, fun k hk h1 h2 h3 => ?_, ?_⟩
    · rw [heap_setCell_other _ _ _ _ (by simpa using h1)]
      exact hG.block k hk (fun e => h3 (by rw [HV.out]; exact e.symm))
    · rcases HAt.out with e | e
      · exact .inl (by rw [HV.out]; exact e)
      · exact .inr ⟨_, e, Nat.le_refl _⟩
  have hBB : Below T w (w1.setCell ⟨T, 1, none⟩ (.slice o2 (ts.length + m) c2)) := ⟨hfr.os, hfr.tape, hfr.output, hfr.size, fun k hk => by
    rw [heap_setCell_other _ _ _ _ (by show k ≠ T; omega)]
    exact hG.block k (by omega) (fun e => by have := (hS.row_lt k (by rw [HV.out]; exact e.symm)).1; omega)⟩
  refine ⟨rfl, _, ⟨hS.1, ?_, ?_, HBk.out.set2 _, ?_⟩, hfr⟩
  · have hs := hS.2.1.size
    obtain ⟨e1, k1, r1⟩ := hS.2.1.syn
    obtain ⟨e2, k2, r2⟩ := hS.2.1.rng
    have hB : Below 6 w (w1.setCell ⟨T, 1, none⟩ (.slice o2 (ts.length + m) c2)) := hBB.mono (by omega)
    refine ⟨⟨e1, ?_, r1⟩, ⟨e2, ?_, r2⟩, ?_, Nat.le_trans hs hfr.size⟩
    · exact (hB.cell (p := ⟨4, 0, none⟩) (by show 4 < 6; decide)).trans k1
    · exact (hB.cell (p := ⟨5, 0, none⟩) (by show 5 < 6; decide)).trans k2
    · have hn : Tryz.prog.globalNamed "internal/strconv.uint64pow10" = some 0 := by kernel_rfl
      have hp := hS.2.1.pow
      simp only [Lib.TabIs, World.var?, hn, Option.bind_some] at hp ⊢
      rw [hB.block 0 (by decide)]
      exact hp
  · obtain ⟨D, k1, k2⟩ := hS.2.2.1
    obtain ⟨es, clock, r1, r2⟩ := k1
    exact ⟨D, ⟨es, clock, by rw [hBB.block bl (by omega)]; exact r1, r2⟩, k2⟩
  · rw [List.length_append, Hm.out, List.flatMap_append]
    refine owns_blk HO.out (fun k hk => ?_)
    rw [heap_setCell_other _ _ _ _ (by have := (HO.out.lt k hk).1; show k ≠ T; omega)]
end Go.Proofs.YtndpebkiiemfpaaGreatDoor

namespace Go.Proofs.YtndpebkiiemfpaaGreatDoor
open Go.RowKit Go.Shelf Go.Maps
set_option linter.unusedVariables false

def isSymB (k : Int) : Bool := k == 3 || k == 4
set_option maxRecDepth 100000 in
set_option maxHeartbeats 4000000 in
theorem isSym_c (k : Int) (w : World) : Calls Tryz.prog 137 #[.int .i64 k] w fun e w' => e = .returned (.bool (isSymB k)) ∧ w' = w := by
  obtain ⟨b1, h1⟩ : ∃ b, (k == 3) = b := ⟨_, rfl⟩
  obtain ⟨b3, h3⟩ : ∃ b, (k == 4) = b := ⟨_, rfl⟩
  have HR : Hid (isSymB k = (b1 || b3)) := by show _ = _; unfold isSymB; rw [h1, h3]
  cases b1 <;> cases b3 <;>
  · go_enter Tryz.func137, Tryz.ntmps137
    go_wp2
    go_ret
    exact ⟨by rw [HR.out]; rfl, rfl⟩
set_option maxRecDepth 100000 in
set_option maxHeartbeats 4000000 in
theorem mark_c (s : ByteArray) (w : World) : Calls Tryz.prog 91 #[.string s] w fun e w' => e = .returned (.agg #[.int .i64 8, .string s, .int .i64 0, .int .i64 0, .int .i64 0, .int .i64 0, .bool false]) ∧ Below w.heap.size w w' := by
  have HB : Hid (∀ o : Obj, Below w.heap.size w (w.alloc o)) := fun o => (Below.refl _ w).alloc (Nat.le_refl _) _
  go_enter Tryz.func91, Tryz.ntmps91
  go_wp2
  exact bodyPost_ret (v := .agg #[.int .i64 8, .string s, .int .i64 0, .int .i64 0, .int .i64 0, .int .i64 0, .bool false]) (by simp [results, Tryz.results91, go_sem]) rfl ⟨rfl, HB.out _⟩
set_option maxRecDepth 100000 in
set_option maxHeartbeats 4000000 in
theorem word_c (s : ByteArray) (w : World) : Calls Tryz.prog 86 #[.string s] w fun e w' => e = .returned (.agg #[.int .i64 9, .string s, .int .i64 0, .int .i64 0, .int .i64 0, .int .i64 0, .bool false]) ∧ Below w.heap.size w w' := by
  have HB : Hid (∀ o : Obj, Below w.heap.size w (w.alloc o)) := fun o => (Below.refl _ w).alloc (Nat.le_refl _) _
  go_enter Tryz.func86, Tryz.ntmps86
  go_wp2
  exact bodyPost_ret (v := .agg #[.int .i64 9, .string s, .int .i64 0, .int .i64 0, .int .i64 0, .int .i64 0, .bool false]) (by simp [results, Tryz.results86, go_sem]) rfl ⟨rfl, HB.out _⟩
set_option maxRecDepth 100000 in
set_option maxHeartbeats 4000000 in
theorem sign_c (s : ByteArray) (w : World) : Calls Tryz.prog 88 #[.string s] w fun e w' => e = .returned (.agg #[.int .i64 10, .string s, .int .i64 0, .int .i64 0, .int .i64 0, .int .i64 0, .bool false]) ∧ Below w.heap.size w w' := by
  have HB : Hid (∀ o : Obj, Below w.heap.size w (w.alloc o)) := fun o => (Below.refl _ w).alloc (Nat.le_refl _) _
  go_enter Tryz.func88, Tryz.ntmps88
  go_wp2
  exact bodyPost_ret (v := .agg #[.int .i64 10, .string s, .int .i64 0, .int .i64 0, .int .i64 0, .int .i64 0, .bool false]) (by simp [results, Tryz.results88, go_sem]) rfl ⟨rfl, HB.out _⟩
set_option maxRecDepth 100000 in
set_option maxHeartbeats 4000000 in
theorem number_t (n : Int) (w : World) : Calls Tryz.prog 90 #[.int .i64 n] w fun e w' => e = .returned (.agg #[.int .i64 5, .string ⟨#[]⟩, .int .i64 n, .int .i64 0, .int .i64 0, .int .i64 0, .bool false]) ∧ Below w.heap.size w w' := by
  have HB : Hid (∀ o : Obj, Below w.heap.size w (w.alloc o)) := fun o => (Below.refl _ w).alloc (Nat.le_refl _) _
  go_enter Tryz.func90, Tryz.ntmps90
  go_wp2
  exact bodyPost_ret (v := .agg #[.int .i64 5, .string ⟨#[]⟩, .int .i64 n, .int .i64 0, .int .i64 0, .int .i64 0, .bool false]) (by simp [results, Tryz.results90, go_sem]) rfl ⟨rfl, HB.out _⟩
/-- One token in a row that was just laid. -/
theorem news1 (W : World) (k : Int) (s : ByteArray) (n : Int) : ∀ j u, ([(⟨k, s.data.toList, n⟩ : TkT)].flatMap tC)[j]? = some u → (W.alloc (.cells #[.int .i64 k, .string s, .int .i64 n, .int .i64 0, .int .i64 0, .int .i64 0, .bool false] 39)).cell? ⟨W.heap.size, j, none⟩ = some u := by
  intro j u hu
  have e : [(⟨k, s.data.toList, n⟩ : TkT)].flatMap tC = [.int .i64 k, .string s, .int .i64 n, .int .i64 0, .int .i64 0, .int .i64 0, .bool false] := rfl
  rw [e] at hu
  exact (Blk.new W #[.int .i64 k, .string s, .int .i64 n, .int .i64 0, .int .i64 0, .int .i64 0, .bool false] 39).cell j u (by simpa using hu)
/-- One token is put. -/
theorem put1_c (B bl T c : Nat) (ts : List TkT) (v : Value) (k : Int) (s : ByteArray) (n : Int) (w : World) (h : TSt B bl T c w v ts) (hb : ts.length + 1 ≤ 1000000000) :
    Calls Tryz.prog 85 #[.pointer (some ⟨T, 0, none⟩), .slice (some ⟨w.heap.size, 0, none⟩) 1 1] (w.alloc (.cells #[.int .i64 k, .string s, .int .i64 n, .int .i64 0, .int .i64 0, .int .i64 0, .bool false] 39)) fun e W' => e = .returned (.tuple #[]) ∧ ∃ v', TSt B bl T c W' v' (ts ++ [⟨k, s.data.toList, n⟩]) ∧ TFr T bl w W' v v' := by
  have hA : Below w.heap.size w (w.alloc (.cells #[.int .i64 k, .string s, .int .i64 n, .int .i64 0, .int .i64 0, .int .i64 0, .bool false] 39)) := (Below.refl _ w).alloc (Nat.le_refl _) _
  refine (put_c B bl T c ts [⟨k, s.data.toList, n⟩] v w.heap.size 1 _ (h.below hA) rfl (news1 w k s n) hb).mono ?_
  rintro e W' ⟨rfl, v', h1, h2⟩
  exact ⟨rfl, v', h1, (tfr_below hA v).trans h2⟩

/-- A name that is no operator. -/
def nmT (s : ByteArray) : List TkT := [⟨lkM s, s.data.toList, 0⟩]
set_option maxRecDepth 100000 in
set_option maxHeartbeats 4000000 in
theorem name_t (B bl T c : Nat) (ts : List TkT) (v : Value) (s : ByteArray) (hs : s.size ≤ 9223372036854775807) (hsym : isSymB (lkM s) = false) (hc : c ≤ 4611686018427387904) (w : World) (h : TSt B bl T c w v ts) (hb : ts.length + 1 ≤ 1000000000) :
    Calls Tryz.prog 87 #[.pointer (some ⟨T, 0, none⟩), .string s] w fun e W' => e = .returned (.tuple #[]) ∧ ∃ v', TSt B bl T (c + 1) W' v' (ts ++ nmT s) ∧ TFr T bl w W' v v' := by
  have HK : Hid (Calls Tryz.prog 133 #[.map (some bl), .string s] w fun e W' => e = .returned (.int .i64 (lkM s)) ∧ But bl w W' ∧ LexSt W' bl (c + 1)) := kind_c s hs bl c hc w h.2.1 h.2.2.1
  have HN : Hid (nmT s = [⟨lkM s, s.data.toList, 0⟩]) := rfl
  have HP : Hid (∀ (X : World) (v : Value), TSt B bl T (c + 1) X v ts → Calls Tryz.prog 85 #[.pointer (some ⟨T, 0, none⟩), .slice (some ⟨X.heap.size, 0, none⟩) 1 1] (X.alloc (.cells #[.int .i64 (lkM s), .string s, .int .i64 0, .int .i64 0, .int .i64 0, .int .i64 0, .bool false] 39)) fun e W' => e = .returned (.tuple #[]) ∧ ∃ v', TSt B bl T (c + 1) W' v' (ts ++ [⟨lkM s, s.data.toList, 0⟩]) ∧ TFr T bl X W' v v') := fun X v hX => put1_c B bl T (c + 1) ts v (lkM s) s 0 X hX hb
  have HS : Hid (TSt B bl T c w v ts) := h
  have c0 : w.cell? ⟨T, 0, none⟩ = some (.map (some bl)) := h.2.2.2.1.cell 0 _ rfl
  have hT := h.lt
  generalize lkM s = kd at HK HP HN hsym
  have HY : Hid (∀ X : World, Calls Tryz.prog 137 #[.int .i64 kd] X fun e w' => e = .returned (.bool false) ∧ w' = X) := fun X => by have := isSym_c kd X; rw [hsym] at this; exact this
  clear h hs hc hb hsym
  go_enter Tryz.func87, Tryz.ntmps87
  go_wp2_with (go_at_call 133; fail)
  refine HK.out.mono ?_
  rintro e w1 ⟨rfl, hb1, hl1⟩
  have H1 : Hid (TSt B bl T (c + 1) w1 v ts) := HS.out.but hb1 hl1
  have F1 : Hid (TFr T bl w w1 v v) := tfr_but hb1 v
  clear hb1 hl1 c0 hT
  obtain ⟨V, hV⟩ : ∃ V, w1.alloc (.cells #[.int .i64 kd, .string s, .int .i64 0, .int .i64 0, .int .i64 0, .int .i64 0, .bool false] 39) = V := ⟨_, rfl⟩
  have hVb : Below w1.heap.size w1 V := by rw [← hV]; exact (Below.refl _ _).alloc (Nat.le_refl _) _
  have hBx : Blk V w1.heap.size #[.int .i64 kd, .string s, .int .i64 0, .int .i64 0, .int .i64 0, .int .i64 0, .bool false] 39 := by rw [← hV]; exact Blk.new w1 _ _
  have H2 : Hid (TSt B bl T (c + 1) V v ts) := H1.out.below hVb
  have F2 : Hid (TFr T bl w V v v) := F1.out.trans (tfr_below hVb v)
  obtain ⟨b0, b1, b2, b3, b4, b5, b6, -⟩ := hBx.all7
  have hlV := hBx.lt
  have HPV : Hid (Calls Tryz.prog 85 #[.pointer (some ⟨T, 0, none⟩), .slice (some ⟨V.heap.size, 0, none⟩) 1 1] (V.alloc (.cells #[.int .i64 kd, .string s, .int .i64 0, .int .i64 0, .int .i64 0, .int .i64 0, .bool false] 39)) fun e W' => e = .returned (.tuple #[]) ∧ ∃ v', TSt B bl T (c + 1) W' v' (ts ++ [⟨kd, s.data.toList, 0⟩]) ∧ TFr T bl V W' v v') := HP.out V v H2.out
  have HVe : Hid (w1.alloc (.cells #[.int .i64 kd, .string s, .int .i64 0, .int .i64 0, .int .i64 0, .int .i64 0, .bool false] 39) = V) := hV
  clear hVb hBx hV
  go_wp2_with (go_at_call 137; fail)
  refine (HY.out _).mono ?_
  rintro e w2 ⟨rfl, rfl⟩
  rw [HVe.out]
  go_wp2_with (go_at_call 85; fail)
  refine HPV.out.mono ?_
  rintro e w3 ⟨rfl, v', h3, f3⟩
  have H3 : Hid (TSt B bl T (c + 1) w3 v' (ts ++ nmT s)) := by show TSt _ _ _ _ _ _ _; rw [HN.out]; exact h3
  have F3 : Hid (TFr T bl w w3 v v') := F2.out.trans f3
  clear h3 f3
  go_wp2
  go_end0
  exact ⟨rfl, v', H3.out, F3.out⟩
set_option maxRecDepth 100000 in
set_option maxHeartbeats 4000000 in
theorem operator_t (B bl T c : Nat) (ts : List TkT) (v : Value) (s : ByteArray) (hs : s.size ≤ 9223372036854775807) (hsym : isSymB (lkM s) = true) (hc : c ≤ 4611686018427387904) (w : World) (h : TSt B bl T c w v ts) (hb : ts.length + 1 ≤ 1000000000) :
    Calls Tryz.prog 92 #[.pointer (some ⟨T, 0, none⟩), .string s] w fun e W' => e = .returned (.tuple #[]) ∧ ∃ v', TSt B bl T (c + 1) W' v' (ts ++ nmT s) ∧ TFr T bl w W' v v' := by
  have HK : Hid (Calls Tryz.prog 133 #[.map (some bl), .string s] w fun e W' => e = .returned (.int .i64 (lkM s)) ∧ But bl w W' ∧ LexSt W' bl (c + 1)) := kind_c s hs bl c hc w h.2.1 h.2.2.1
  have HN : Hid (nmT s = [⟨lkM s, s.data.toList, 0⟩]) := rfl
  have HP : Hid (∀ (X : World) (v : Value), TSt B bl T (c + 1) X v ts → Calls Tryz.prog 85 #[.pointer (some ⟨T, 0, none⟩), .slice (some ⟨X.heap.size, 0, none⟩) 1 1] (X.alloc (.cells #[.int .i64 (lkM s), .string s, .int .i64 0, .int .i64 0, .int .i64 0, .int .i64 0, .bool false] 39)) fun e W' => e = .returned (.tuple #[]) ∧ ∃ v', TSt B bl T (c + 1) W' v' (ts ++ [⟨lkM s, s.data.toList, 0⟩]) ∧ TFr T bl X W' v v') := fun X v hX => put1_c B bl T (c + 1) ts v (lkM s) s 0 X hX hb
  have HS : Hid (TSt B bl T c w v ts) := h
  have c0 : w.cell? ⟨T, 0, none⟩ = some (.map (some bl)) := h.2.2.2.1.cell 0 _ rfl
  have hT := h.lt
  generalize lkM s = kd at HK HP HN hsym
  have HY : Hid (∀ X : World, Calls Tryz.prog 137 #[.int .i64 kd] X fun e w' => e = .returned (.bool true) ∧ w' = X) := fun X => by have := isSym_c kd X; rw [hsym] at this; exact this
  clear h hs hc hb hsym
  go_enter Tryz.func92, Tryz.ntmps92
  go_wp2_with (go_at_call 133; fail)
  refine HK.out.mono ?_
  rintro e w1 ⟨rfl, hb1, hl1⟩
  have H1 : Hid (TSt B bl T (c + 1) w1 v ts) := HS.out.but hb1 hl1
  have F1 : Hid (TFr T bl w w1 v v) := tfr_but hb1 v
  clear hb1 hl1 c0 hT
  obtain ⟨V, hV⟩ : ∃ V, w1.alloc (.cells #[.int .i64 kd, .string s, .int .i64 0, .int .i64 0, .int .i64 0, .int .i64 0, .bool false] 39) = V := ⟨_, rfl⟩
  have hVb : Below w1.heap.size w1 V := by rw [← hV]; exact (Below.refl _ _).alloc (Nat.le_refl _) _
  have hBx : Blk V w1.heap.size #[.int .i64 kd, .string s, .int .i64 0, .int .i64 0, .int .i64 0, .int .i64 0, .bool false] 39 := by rw [← hV]; exact Blk.new w1 _ _
  have H2 : Hid (TSt B bl T (c + 1) V v ts) := H1.out.below hVb
  have F2 : Hid (TFr T bl w V v v) := F1.out.trans (tfr_below hVb v)
  obtain ⟨b0, b1, b2, b3, b4, b5, b6, -⟩ := hBx.all7
  have hlV := hBx.lt
  have HPV : Hid (Calls Tryz.prog 85 #[.pointer (some ⟨T, 0, none⟩), .slice (some ⟨V.heap.size, 0, none⟩) 1 1] (V.alloc (.cells #[.int .i64 kd, .string s, .int .i64 0, .int .i64 0, .int .i64 0, .int .i64 0, .bool false] 39)) fun e W' => e = .returned (.tuple #[]) ∧ ∃ v', TSt B bl T (c + 1) W' v' (ts ++ [⟨kd, s.data.toList, 0⟩]) ∧ TFr T bl V W' v v') := HP.out V v H2.out
  have HVe : Hid (w1.alloc (.cells #[.int .i64 kd, .string s, .int .i64 0, .int .i64 0, .int .i64 0, .int .i64 0, .bool false] 39) = V) := hV
  clear hVb hBx hV
  go_wp2_with (go_at_call 137; fail)
  refine (HY.out _).mono ?_
  rintro e w2 ⟨rfl, rfl⟩
  rw [HVe.out]
  go_wp2_with (go_at_call 85; fail)
  refine HPV.out.mono ?_
  rintro e w3 ⟨rfl, v', h3, f3⟩
  have H3 : Hid (TSt B bl T (c + 1) w3 v' (ts ++ nmT s)) := by show TSt _ _ _ _ _ _ _; rw [HN.out]; exact h3
  have F3 : Hid (TFr T bl w w3 v v') := F2.out.trans f3
  clear h3 f3
  go_wp2
  exact bodyPost_ret (v := .tuple #[]) (by simp [results, Tryz.results92, go_sem]) rfl ⟨rfl, v', H3.out, F3.out⟩

end Go.Proofs.YtndpebkiiemfpaaGreatDoor

namespace Go.Proofs.YtndpebkiiemfpaaGreatDoor
open Go.RowKit Go.Shelf Go.Maps
set_option linter.unusedVariables false

/-- Function f tells a node so. -/
def TellOK (B bl T f : Nat) (n : Nd) (out : List TkT) (k : Nat) : Prop := ∀ (ts : List TkT) (v : Value) (c : Nat) (w : World) (o : Option Addr) (cap : Nat), NdIn w B n o cap → TSt B bl T c w v ts → c + k ≤ 4611686018427387904 → ts.length + out.length ≤ 1000000000 →
  Calls Tryz.prog f #[.pointer (some ⟨T, 0, none⟩), .agg #[.int .i64 n.kind, .string (bs n.name), .int .i64 n.num, .slice o n.kids.length cap, .int .i64 n.pos]] w fun e W' => e = .returned (.tuple #[]) ∧ ∃ v', TSt B bl T (c + k) W' v' (ts ++ out) ∧ TFr T bl w W' v v'
/-- What a walk asks of a node that was just boxed. -/
theorem boxed {B bl T c : Nat} {w : World} {v : Value} {ts : List TkT} {n : Nd} {o : Option Addr} {cap : Nat} (hn : NdIn w B n o cap) (hS : TSt B bl T c w v ts) :
    ∃ V, w.alloc (.cells #[.int .i64 n.kind, .string (bs n.name), .int .i64 n.num, .slice o n.kids.length cap, .int .i64 n.pos] 24) = V ∧ NdIn V B n o cap ∧ TSt B bl T c V v ts ∧ TFr T bl w V v v ∧ Blk V w.heap.size #[.int .i64 n.kind, .string (bs n.name), .int .i64 n.num, .slice o n.kids.length cap, .int .i64 n.pos] 24 ∧ w.heap.size ≠ T ∧ w.heap.size ≠ bl ∧ v.ownBlock ≠ some w.heap.size ∧ T < w.heap.size := by
  have hb : Below w.heap.size w (w.alloc (.cells #[.int .i64 n.kind, .string (bs n.name), .int .i64 n.num, .slice o n.kids.length cap, .int .i64 n.pos] 24)) := (Below.refl _ w).alloc (Nat.le_refl _) _
  have hlt := hS.lt
  have h1 := hS.1
  refine ⟨_, rfl, hn.below (hb.mono (by omega)), hS.below hb, tfr_below hb v, Blk.new w _ _, by omega, by omega, ?_, hlt⟩
  intro e
  have := (hS.row_lt _ e).2
  omega
set_option maxRecDepth 100000 in
set_option maxHeartbeats 4000000 in
theorem node_decl {B bl T : Nat} {n : Nd} {out : List TkT} {k : Nat} (hk : n.kind ≤ 10) (h : TellOK B bl T 45 n out k) : TellOK B bl T 23 n out k := by
  intro ts v c w o cap hn hS hc hl
  obtain ⟨V, hV, hnV, hSV, hfV, hBx, hx1, hx2, hx3, hx4⟩ := boxed hn hS
  have c0 : V.cell? ⟨w.heap.size, 0, none⟩ = some (.int .i64 n.kind) := hBx.cell 0 _ rfl
  have c1 : V.cell? ⟨w.heap.size, 1, none⟩ = some (.string (bs n.name)) := hBx.cell 1 _ rfl
  have c2 : V.cell? ⟨w.heap.size, 2, none⟩ = some (.int .i64 n.num) := hBx.cell 2 _ rfl
  have c3 : V.cell? ⟨w.heap.size, 3, none⟩ = some (.slice o n.kids.length cap) := hBx.cell 3 _ rfl
  have c4 : V.cell? ⟨w.heap.size, 4, none⟩ = some (.int .i64 n.pos) := hBx.cell 4 _ rfl
  have hlV := hBx.lt
  have HF : Hid (TFr T bl w V v v) := hfV
  have HC : Hid (Calls Tryz.prog 45 #[.pointer (some ⟨T, 0, none⟩), .agg #[.int .i64 n.kind, .string (bs n.name), .int .i64 n.num, .slice o n.kids.length cap, .int .i64 n.pos]] V fun e W' => e = .returned (.tuple #[]) ∧ ∃ v', TSt B bl T (c + k) W' v' (ts ++ out) ∧ TFr T bl V W' v v') := h ts v c V o cap hnV hSV hc hl
  clear h hn hS hc hl hnV hSV hfV hBx
  go_enter Tryz.func23, Tryz.ntmps23
  go_wp2_with (go_at_call 45; fail)
  refine HC.out.mono ?_
  rintro e w3 ⟨rfl, v', h3, f3⟩
  have H3 : Hid (TSt B bl T (c + k) w3 v' (ts ++ out)) := h3
  have F3 : Hid (TFr T bl w w3 v v') := HF.out.trans f3
  clear h3 f3
  go_wp2
  first
    | (go_end0; exact ⟨rfl, v', H3.out, F3.out⟩)
    | exact bodyPost_ret (v := .tuple #[]) (by simp [results, Tryz.results23, go_sem]) rfl ⟨rfl, v', H3.out, F3.out⟩
set_option maxRecDepth 100000 in
set_option maxHeartbeats 4000000 in
theorem node_expr {B bl T : Nat} {n : Nd} {out : List TkT} {k : Nat} (hk : 11 ≤ n.kind) (hk2 : n.kind ≤ 33) (h : TellOK B bl T 46 n out k) : TellOK B bl T 23 n out k := by
  intro ts v c w o cap hn hS hc hl
  obtain ⟨V, hV, hnV, hSV, hfV, hBx, hx1, hx2, hx3, hx4⟩ := boxed hn hS
  have c0 : V.cell? ⟨w.heap.size, 0, none⟩ = some (.int .i64 n.kind) := hBx.cell 0 _ rfl
  have c1 : V.cell? ⟨w.heap.size, 1, none⟩ = some (.string (bs n.name)) := hBx.cell 1 _ rfl
  have c2 : V.cell? ⟨w.heap.size, 2, none⟩ = some (.int .i64 n.num) := hBx.cell 2 _ rfl
  have c3 : V.cell? ⟨w.heap.size, 3, none⟩ = some (.slice o n.kids.length cap) := hBx.cell 3 _ rfl
  have c4 : V.cell? ⟨w.heap.size, 4, none⟩ = some (.int .i64 n.pos) := hBx.cell 4 _ rfl
  have hlV := hBx.lt
  have HF : Hid (TFr T bl w V v v) := hfV
  have hk3 : 10 < n.kind := by omega
  have HC : Hid (Calls Tryz.prog 46 #[.pointer (some ⟨T, 0, none⟩), .agg #[.int .i64 n.kind, .string (bs n.name), .int .i64 n.num, .slice o n.kids.length cap, .int .i64 n.pos]] V fun e W' => e = .returned (.tuple #[]) ∧ ∃ v', TSt B bl T (c + k) W' v' (ts ++ out) ∧ TFr T bl V W' v v') := h ts v c V o cap hnV hSV hc hl
  clear h hn hS hc hl hnV hSV hfV hBx
  go_enter Tryz.func23, Tryz.ntmps23
  go_wp2_with (go_at_call 46; fail)
  refine HC.out.mono ?_
  rintro e w3 ⟨rfl, v', h3, f3⟩
  have H3 : Hid (TSt B bl T (c + k) w3 v' (ts ++ out)) := h3
  have F3 : Hid (TFr T bl w w3 v v') := HF.out.trans f3
  clear h3 f3
  go_wp2
  first
    | (go_end0; exact ⟨rfl, v', H3.out, F3.out⟩)
    | exact bodyPost_ret (v := .tuple #[]) (by simp [results, Tryz.results23, go_sem]) rfl ⟨rfl, v', H3.out, F3.out⟩
set_option maxRecDepth 100000 in
set_option maxHeartbeats 4000000 in
theorem node_pat {B bl T : Nat} {n : Nd} {out : List TkT} {k : Nat} (hk : 34 ≤ n.kind) (h : TellOK B bl T 47 n out k) : TellOK B bl T 23 n out k := by
  intro ts v c w o cap hn hS hc hl
  obtain ⟨V, hV, hnV, hSV, hfV, hBx, hx1, hx2, hx3, hx4⟩ := boxed hn hS
  have c0 : V.cell? ⟨w.heap.size, 0, none⟩ = some (.int .i64 n.kind) := hBx.cell 0 _ rfl
  have c1 : V.cell? ⟨w.heap.size, 1, none⟩ = some (.string (bs n.name)) := hBx.cell 1 _ rfl
  have c2 : V.cell? ⟨w.heap.size, 2, none⟩ = some (.int .i64 n.num) := hBx.cell 2 _ rfl
  have c3 : V.cell? ⟨w.heap.size, 3, none⟩ = some (.slice o n.kids.length cap) := hBx.cell 3 _ rfl
  have c4 : V.cell? ⟨w.heap.size, 4, none⟩ = some (.int .i64 n.pos) := hBx.cell 4 _ rfl
  have hlV := hBx.lt
  have HF : Hid (TFr T bl w V v v) := hfV
  have hk3 : 33 < n.kind := by omega
  have hk4 : 10 < n.kind := by omega
  have HC : Hid (Calls Tryz.prog 47 #[.pointer (some ⟨T, 0, none⟩), .agg #[.int .i64 n.kind, .string (bs n.name), .int .i64 n.num, .slice o n.kids.length cap, .int .i64 n.pos]] V fun e W' => e = .returned (.tuple #[]) ∧ ∃ v', TSt B bl T (c + k) W' v' (ts ++ out) ∧ TFr T bl V W' v v') := h ts v c V o cap hnV hSV hc hl
  clear h hn hS hc hl hnV hSV hfV hBx
  go_enter Tryz.func23, Tryz.ntmps23
  go_wp2_with (go_at_call 47; fail)
  refine HC.out.mono ?_
  rintro e w3 ⟨rfl, v', h3, f3⟩
  have H3 : Hid (TSt B bl T (c + k) w3 v' (ts ++ out)) := h3
  have F3 : Hid (TFr T bl w w3 v v') := HF.out.trans f3
  clear h3 f3
  go_wp2
  first
    | (go_end0; exact ⟨rfl, v', H3.out, F3.out⟩)
    | exact bodyPost_ret (v := .tuple #[]) (by simp [results, Tryz.results23, go_sem]) rfl ⟨rfl, v', H3.out, F3.out⟩
set_option maxRecDepth 100000 in
set_option maxHeartbeats 4000000 in
theorem exprVar {B bl T : Nat} {n : Nd} (hk : n.kind = 11) (hsym : isSymB (lkM (bs n.name)) = false) : TellOK B bl T 46 n (nmT (bs n.name)) 1 := by
  intro ts v c w o cap hn hS hc hl
  obtain ⟨V, hV, hnV, hSV, hfV, hBx, hx1, hx2, hx3, hx4⟩ := boxed hn hS
  have c0 : V.cell? ⟨w.heap.size, 0, none⟩ = some (.int .i64 n.kind) := hBx.cell 0 _ rfl
  have c1 : V.cell? ⟨w.heap.size, 1, none⟩ = some (.string (bs n.name)) := hBx.cell 1 _ rfl
  have c2 : V.cell? ⟨w.heap.size, 2, none⟩ = some (.int .i64 n.num) := hBx.cell 2 _ rfl
  have c3 : V.cell? ⟨w.heap.size, 3, none⟩ = some (.slice o n.kids.length cap) := hBx.cell 3 _ rfl
  have c4 : V.cell? ⟨w.heap.size, 4, none⟩ = some (.int .i64 n.pos) := hBx.cell 4 _ rfl
  have hlV := hBx.lt
  have HF : Hid (TFr T bl w V v v) := hfV
  have HC : Hid (Calls Tryz.prog 87 #[.pointer (some ⟨T, 0, none⟩), .string (bs n.name)] V fun e W' => e = .returned (.tuple #[]) ∧ ∃ v', TSt B bl T (c + 1) W' v' (ts ++ nmT (bs n.name)) ∧ TFr T bl V W' v v') := name_t B bl T c ts v (bs n.name) (by rw [bs_size]; exact hn.2.2.2.2.1) hsym (by omega) V hSV hl
  rw [hk] at c0 hV ⊢
  clear hn hS hc hl hnV hSV hfV hBx hsym
  go_enter Tryz.func46, Tryz.ntmps46
  go_wp2_with (go_at_call 87; fail)
  refine HC.out.mono ?_
  rintro e w3 ⟨rfl, v', h3, f3⟩
  have H3 : Hid (TSt B bl T (c + 1) w3 v' (ts ++ nmT (bs n.name))) := h3
  have F3 : Hid (TFr T bl w w3 v v') := HF.out.trans f3
  clear h3 f3
  go_wp2
  first
    | (go_end0; exact ⟨rfl, v', H3.out, F3.out⟩)
    | exact bodyPost_ret (v := .tuple #[]) (by simp [results, Tryz.results46, go_sem]) rfl ⟨rfl, v', H3.out, F3.out⟩
set_option maxRecDepth 100000 in
set_option maxHeartbeats 4000000 in
theorem patVar {B bl T : Nat} {n : Nd} (hk : n.kind = 34) (hsym : isSymB (lkM (bs n.name)) = false) : TellOK B bl T 47 n (nmT (bs n.name)) 1 := by
  intro ts v c w o cap hn hS hc hl
  obtain ⟨V, hV, hnV, hSV, hfV, hBx, hx1, hx2, hx3, hx4⟩ := boxed hn hS
  have c0 : V.cell? ⟨w.heap.size, 0, none⟩ = some (.int .i64 n.kind) := hBx.cell 0 _ rfl
  have c1 : V.cell? ⟨w.heap.size, 1, none⟩ = some (.string (bs n.name)) := hBx.cell 1 _ rfl
  have c2 : V.cell? ⟨w.heap.size, 2, none⟩ = some (.int .i64 n.num) := hBx.cell 2 _ rfl
  have c3 : V.cell? ⟨w.heap.size, 3, none⟩ = some (.slice o n.kids.length cap) := hBx.cell 3 _ rfl
  have c4 : V.cell? ⟨w.heap.size, 4, none⟩ = some (.int .i64 n.pos) := hBx.cell 4 _ rfl
  have hlV := hBx.lt
  have HF : Hid (TFr T bl w V v v) := hfV
  have HC : Hid (Calls Tryz.prog 87 #[.pointer (some ⟨T, 0, none⟩), .string (bs n.name)] V fun e W' => e = .returned (.tuple #[]) ∧ ∃ v', TSt B bl T (c + 1) W' v' (ts ++ nmT (bs n.name)) ∧ TFr T bl V W' v v') := name_t B bl T c ts v (bs n.name) (by rw [bs_size]; exact hn.2.2.2.2.1) hsym (by omega) V hSV hl
  rw [hk] at c0 hV ⊢
  clear hn hS hc hl hnV hSV hfV hBx hsym
  go_enter Tryz.func47, Tryz.ntmps47
  go_wp2_with (go_at_call 87; fail)
  refine HC.out.mono ?_
  rintro e w3 ⟨rfl, v', h3, f3⟩
  have H3 : Hid (TSt B bl T (c + 1) w3 v' (ts ++ nmT (bs n.name))) := h3
  have F3 : Hid (TFr T bl w w3 v v') := HF.out.trans f3
  clear h3 f3
  go_wp2
  first
    | (go_end0; exact ⟨rfl, v', H3.out, F3.out⟩)
    | exact bodyPost_ret (v := .tuple #[]) (by simp [results, Tryz.results47, go_sem]) rfl ⟨rfl, v', H3.out, F3.out⟩
set_option maxRecDepth 100000 in
set_option maxHeartbeats 4000000 in
theorem declOp {B bl T : Nat} {n : Nd} (hk : n.kind = 5) (hsym : isSymB (lkM (bs n.name)) = true) : TellOK B bl T 45 n (nmT (bs n.name)) 1 := by
  intro ts v c w o cap hn hS hc hl
  obtain ⟨V, hV, hnV, hSV, hfV, hBx, hx1, hx2, hx3, hx4⟩ := boxed hn hS
  have c0 : V.cell? ⟨w.heap.size, 0, none⟩ = some (.int .i64 n.kind) := hBx.cell 0 _ rfl
  have c1 : V.cell? ⟨w.heap.size, 1, none⟩ = some (.string (bs n.name)) := hBx.cell 1 _ rfl
  have c2 : V.cell? ⟨w.heap.size, 2, none⟩ = some (.int .i64 n.num) := hBx.cell 2 _ rfl
  have c3 : V.cell? ⟨w.heap.size, 3, none⟩ = some (.slice o n.kids.length cap) := hBx.cell 3 _ rfl
  have c4 : V.cell? ⟨w.heap.size, 4, none⟩ = some (.int .i64 n.pos) := hBx.cell 4 _ rfl
  have hlV := hBx.lt
  have HF : Hid (TFr T bl w V v v) := hfV
  have HC : Hid (Calls Tryz.prog 92 #[.pointer (some ⟨T, 0, none⟩), .string (bs n.name)] V fun e W' => e = .returned (.tuple #[]) ∧ ∃ v', TSt B bl T (c + 1) W' v' (ts ++ nmT (bs n.name)) ∧ TFr T bl V W' v v') := operator_t B bl T c ts v (bs n.name) (by rw [bs_size]; exact hn.2.2.2.2.1) hsym (by omega) V hSV hl
  rw [hk] at c0 hV ⊢
  clear hn hS hc hl hnV hSV hfV hBx hsym
  go_enter Tryz.func45, Tryz.ntmps45
  go_wp2_with (go_at_call 92; fail)
  refine HC.out.mono ?_
  rintro e w3 ⟨rfl, v', h3, f3⟩
  have H3 : Hid (TSt B bl T (c + 1) w3 v' (ts ++ nmT (bs n.name))) := h3
  have F3 : Hid (TFr T bl w w3 v v') := HF.out.trans f3
  clear h3 f3
  go_wp2
  first
    | (go_end0; exact ⟨rfl, v', H3.out, F3.out⟩)
    | exact bodyPost_ret (v := .tuple #[]) (by simp [results, Tryz.results45, go_sem]) rfl ⟨rfl, v', H3.out, F3.out⟩
set_option maxRecDepth 100000 in
set_option maxHeartbeats 4000000 in
theorem literalInt_c (n : Nd) (o : Option Addr) (cap : Nat) (hk : n.kind = 13) (w : World) : Calls Tryz.prog 96 #[.agg #[.int .i64 n.kind, .string (bs n.name), .int .i64 n.num, .slice o n.kids.length cap, .int .i64 n.pos]] w fun e w' => e = .returned (.agg #[.int .i64 5, .string ⟨#[]⟩, .int .i64 n.num, .int .i64 0, .int .i64 0, .int .i64 0, .bool false]) ∧ Below w.heap.size w w' := by
  have HN : Hid (∀ X : World, Calls Tryz.prog 90 #[.int .i64 n.num] X fun e w' => e = .returned (.agg #[.int .i64 5, .string ⟨#[]⟩, .int .i64 n.num, .int .i64 0, .int .i64 0, .int .i64 0, .bool false]) ∧ Below X.heap.size X w') := fun X => number_t n.num X
  have hB2 : Hid (∀ o1 o2 : Obj, Below w.heap.size w ((w.alloc o1).alloc o2)) := fun o1 o2 => ((Below.refl _ w).alloc (Nat.le_refl _) _).alloc (by simp) _
  rw [hk]
  go_enter Tryz.func96, Tryz.ntmps96
  go_wp2_with (go_at_call 90; fail)
  refine (HN.out _).mono ?_
  rintro e w1 ⟨rfl, hb1⟩
  have hz := (Blk.new2 w (.cells #[.int .i64 13, .string (bs n.name), .int .i64 n.num, .slice o n.kids.length cap, .int .i64 n.pos] 24) #[.int .i64 0, .string ⟨#[]⟩, .int .i64 0, .int .i64 0, .int .i64 0, .int .i64 0, .bool false] 39).below hb1
  obtain ⟨q0, q1, q2, q3, q4, q5, q6, f0, f1, f2, f3, f4, f5, f6⟩ := hz.all7
  have hl1 := hz.lt
  have HB1 : Hid (Below w.heap.size w w1) := (hB2.out _ _).trans (hb1.mono (by simp; omega))
  clear hb1 hz
  go_wp2
  exact bodyPost_ret (v := .agg #[.int .i64 5, .string ⟨#[]⟩, .int .i64 n.num, .int .i64 0, .int .i64 0, .int .i64 0, .bool false]) (by simp [results, Tryz.results96, go_sem, q0, q1, q2, q3, q4, q5, q6]) rfl ⟨rfl, by repeat (first | (refine Below.setCell ?_ (by simp) _) | exact HB1.out)⟩
set_option maxRecDepth 100000 in
set_option maxHeartbeats 4000000 in
theorem exprInt {B bl T : Nat} {n : Nd} (hk : n.kind = 13) : TellOK B bl T 46 n [⟨5, [], n.num⟩] 0 := by
  intro ts v c w o cap hn hS hc hl
  obtain ⟨V, hV, hnV, hSV, hfV, hBx, hx1, hx2, hx3, hx4⟩ := boxed hn hS
  have c0 : V.cell? ⟨w.heap.size, 0, none⟩ = some (.int .i64 n.kind) := hBx.cell 0 _ rfl
  have c1 : V.cell? ⟨w.heap.size, 1, none⟩ = some (.string (bs n.name)) := hBx.cell 1 _ rfl
  have c2 : V.cell? ⟨w.heap.size, 2, none⟩ = some (.int .i64 n.num) := hBx.cell 2 _ rfl
  have c3 : V.cell? ⟨w.heap.size, 3, none⟩ = some (.slice o n.kids.length cap) := hBx.cell 3 _ rfl
  have c4 : V.cell? ⟨w.heap.size, 4, none⟩ = some (.int .i64 n.pos) := hBx.cell 4 _ rfl
  have hlV := hBx.lt
  have HF : Hid (TFr T bl w V v v) := hfV
  have HLt : Hid (Calls Tryz.prog 96 #[.agg #[.int .i64 n.kind, .string (bs n.name), .int .i64 n.num, .slice o n.kids.length cap, .int .i64 n.pos]] V fun e w' => e = .returned (.agg #[.int .i64 5, .string ⟨#[]⟩, .int .i64 n.num, .int .i64 0, .int .i64 0, .int .i64 0, .bool false]) ∧ Below V.heap.size V w') := literalInt_c n o cap hk V
  have HSV : Hid (TSt B bl T c V v ts) := hSV
  have HP : Hid (∀ X : World, TSt B bl T c X v ts → Calls Tryz.prog 85 #[.pointer (some ⟨T, 0, none⟩), .slice (some ⟨X.heap.size, 0, none⟩) 1 1] (X.alloc (.cells #[.int .i64 5, .string ⟨#[]⟩, .int .i64 n.num, .int .i64 0, .int .i64 0, .int .i64 0, .bool false] 39)) fun e W' => e = .returned (.tuple #[]) ∧ ∃ v', TSt B bl T c W' v' (ts ++ [⟨5, [], n.num⟩]) ∧ TFr T bl X W' v v') := fun X hX => put1_c B bl T c ts v 5 ⟨#[]⟩ n.num X hX hl
  rw [hk] at c0 hV HLt ⊢
  clear hn hS hc hl hnV hSV hfV hBx
  go_enter Tryz.func46, Tryz.ntmps46
  go_wp2_with (go_at_call 96; fail)
  refine HLt.out.mono ?_
  rintro e w1 ⟨rfl, hb1⟩
  have HC : Hid (Calls Tryz.prog 85 #[.pointer (some ⟨T, 0, none⟩), .slice (some ⟨w1.heap.size, 0, none⟩) 1 1] (w1.alloc (.cells #[.int .i64 5, .string ⟨#[]⟩, .int .i64 n.num, .int .i64 0, .int .i64 0, .int .i64 0, .bool false] 39)) fun e W' => e = .returned (.tuple #[]) ∧ ∃ v', TSt B bl T c W' v' (ts ++ [⟨5, [], n.num⟩]) ∧ TFr T bl w1 W' v v') := HP.out w1 (HSV.out.below hb1)
  have HF2 : Hid (TFr T bl w w1 v v) := HF.out.trans (tfr_below hb1 v)
  clear hb1 HLt HP HF
  have HF := HF2
  clear HF2
  go_wp2_with (go_at_call 85; fail)
  refine HC.out.mono ?_
  rintro e w3 ⟨rfl, v', h3, f3⟩
  have H3 : Hid (TSt B bl T (c + 0) w3 v' (ts ++ [⟨5, [], n.num⟩])) := h3
  have F3 : Hid (TFr T bl w w3 v v') := HF.out.trans f3
  clear h3 f3
  go_wp2
  first
    | (go_end0; exact ⟨rfl, v', H3.out, F3.out⟩)
    | exact bodyPost_ret (v := .tuple #[]) (by simp [results, Tryz.results46, go_sem]) rfl ⟨rfl, v', H3.out, F3.out⟩

end Go.Proofs.YtndpebkiiemfpaaGreatDoor

namespace Go.Proofs.YtndpebkiiemfpaaGreatDoor
open Go.RowKit Go.Shelf Go.Maps
set_option linter.unusedVariables false

/-- Is a node an atom? -/
def atomM (k : Int) (len : Nat) : Bool := if k = 39 then len == 0 else decide ((11 ≤ k ∧ k ≤ 15) ∨ (25 ≤ k ∧ k ≤ 30) ∨ (34 ≤ k ∧ k ≤ 38) ∨ (40 ≤ k ∧ k ≤ 43))
set_option maxRecDepth 100000 in
set_option maxHeartbeats 4000000 in
theorem isAtom_c (n : Nd) (o : Option Addr) (cap : Nat) (hk39 : n.kind ≠ 39) (w : World) : Calls Tryz.prog 138 #[.agg #[.int .i64 n.kind, .string (bs n.name), .int .i64 n.num, .slice o n.kids.length cap, .int .i64 n.pos]] w fun e w' => e = .returned (.bool (atomM n.kind n.kids.length)) ∧ Below w.heap.size w w' := by
  have HB : Hid (∀ o : Obj, Below w.heap.size w (w.alloc o)) := fun o => (Below.refl _ w).alloc (Nat.le_refl _) _
  have HR : Hid (atomM n.kind n.kids.length = decide ((11 ≤ n.kind ∧ n.kind ≤ 15) ∨ (25 ≤ n.kind ∧ n.kind ≤ 30) ∨ (34 ≤ n.kind ∧ n.kind ≤ 38) ∨ (40 ≤ n.kind ∧ n.kind ≤ 43))) := by show _ = _; unfold atomM; rw [if_neg hk39]
  generalize n.kind = k at HR hk39 ⊢
  have e39 : (k == 39) = false := beq_eq_false_iff_ne.2 hk39
  by_cases r0 : k ≤ 10
  · have HR2 : Hid (atomM k n.kids.length = false) := by show _ = _; rw [HR.out]; simp; omega
    have g11 : k < 11 := by omega
    have g25 : k < 25 := by omega
    have g34 : k < 34 := by omega
    have g40 : k < 40 := by omega
    clear r0 HR hk39
    go_enter Tryz.func138, Tryz.ntmps138
    go_wp2
    go_ret
    exact ⟨by rw [HR2.out]; rfl, HB.out _⟩
  by_cases r11 : 11 ≤ k ∧ k ≤ 15
  · have HR2 : Hid (atomM k n.kids.length = true) := by show _ = _; rw [HR.out]; simp; omega
    have g11 : (11 : Int) ≤ k := by omega
    have l15 : k ≤ 15 := by omega
    have g25 : k < 25 := by omega
    have g34 : k < 34 := by omega
    have g40 : k < 40 := by omega
    clear r11 HR hk39
    go_enter Tryz.func138, Tryz.ntmps138
    go_wp2
    go_ret
    exact ⟨by rw [HR2.out]; rfl, HB.out _⟩
  by_cases r16 : 16 ≤ k ∧ k ≤ 24
  · have HR2 : Hid (atomM k n.kids.length = false) := by show _ = _; rw [HR.out]; simp; omega
    have g11 : (11 : Int) ≤ k := by omega
    have l15 : (15 : Int) < k := by omega
    have g25 : k < 25 := by omega
    have g34 : k < 34 := by omega
    have g40 : k < 40 := by omega
    clear r16 HR hk39
    go_enter Tryz.func138, Tryz.ntmps138
    go_wp2
    go_ret
    exact ⟨by rw [HR2.out]; rfl, HB.out _⟩
  by_cases r25 : 25 ≤ k ∧ k ≤ 30
  · have HR2 : Hid (atomM k n.kids.length = true) := by show _ = _; rw [HR.out]; simp; omega
    have g11 : (11 : Int) ≤ k := by omega
    have l15 : (15 : Int) < k := by omega
    have g25 : (25 : Int) ≤ k := by omega
    have l30 : k ≤ 30 := by omega
    have g34 : k < 34 := by omega
    have g40 : k < 40 := by omega
    clear r25 HR hk39
    go_enter Tryz.func138, Tryz.ntmps138
    go_wp2
    go_ret
    exact ⟨by rw [HR2.out]; rfl, HB.out _⟩
  by_cases r31 : 31 ≤ k ∧ k ≤ 33
  · have HR2 : Hid (atomM k n.kids.length = false) := by show _ = _; rw [HR.out]; simp; omega
    have g11 : (11 : Int) ≤ k := by omega
    have l15 : (15 : Int) < k := by omega
    have g25 : (25 : Int) ≤ k := by omega
    have l30 : (30 : Int) < k := by omega
    have g34 : k < 34 := by omega
    have g40 : k < 40 := by omega
    clear r31 HR hk39
    go_enter Tryz.func138, Tryz.ntmps138
    go_wp2
    go_ret
    exact ⟨by rw [HR2.out]; rfl, HB.out _⟩
  by_cases r34 : 34 ≤ k ∧ k ≤ 38
  · have HR2 : Hid (atomM k n.kids.length = true) := by show _ = _; rw [HR.out]; simp; omega
    have g11 : (11 : Int) ≤ k := by omega
    have l15 : (15 : Int) < k := by omega
    have g25 : (25 : Int) ≤ k := by omega
    have l30 : (30 : Int) < k := by omega
    have g34 : (34 : Int) ≤ k := by omega
    have l38 : k ≤ 38 := by omega
    have g40 : k < 40 := by omega
    clear r34 HR hk39
    go_enter Tryz.func138, Tryz.ntmps138
    go_wp2
    go_ret
    exact ⟨by rw [HR2.out]; rfl, HB.out _⟩
  by_cases r40 : 40 ≤ k ∧ k ≤ 43
  · have HR2 : Hid (atomM k n.kids.length = true) := by show _ = _; rw [HR.out]; simp; omega
    have g11 : (11 : Int) ≤ k := by omega
    have l15 : (15 : Int) < k := by omega
    have g25 : (25 : Int) ≤ k := by omega
    have l30 : (30 : Int) < k := by omega
    have g34 : (34 : Int) ≤ k := by omega
    have l38 : (38 : Int) < k := by omega
    have g40 : (40 : Int) ≤ k := by omega
    have l43 : k ≤ 43 := by omega
    clear r40 HR hk39
    go_enter Tryz.func138, Tryz.ntmps138
    go_wp2
    go_ret
    exact ⟨by rw [HR2.out]; rfl, HB.out _⟩
  by_cases r44 : 44 ≤ k
  · have HR2 : Hid (atomM k n.kids.length = false) := by show _ = _; rw [HR.out]; simp; omega
    have g11 : (11 : Int) ≤ k := by omega
    have l15 : (15 : Int) < k := by omega
    have g25 : (25 : Int) ≤ k := by omega
    have l30 : (30 : Int) < k := by omega
    have g34 : (34 : Int) ≤ k := by omega
    have l38 : (38 : Int) < k := by omega
    have g40 : (40 : Int) ≤ k := by omega
    have l43 : (43 : Int) < k := by omega
    clear r44 HR hk39
    go_enter Tryz.func138, Tryz.ntmps138
    go_wp2
    go_ret
    exact ⟨by rw [HR2.out]; rfl, HB.out _⟩
  omega
set_option maxRecDepth 100000 in
set_option maxHeartbeats 4000000 in
theorem atomYes {B bl T : Nat} {n : Nd} {out : List TkT} {k : Nat} (hk : n.kind ≠ 39) (ha : atomM n.kind n.kids.length = true) (h : TellOK B bl T 23 n out k) : TellOK B bl T 98 n out k := by
  intro ts v c w o cap hn hS hc hl
  obtain ⟨V, hV, hnV, hSV, hfV, hBx, hx1, hx2, hx3, hx4⟩ := boxed hn hS
  have c0 : V.cell? ⟨w.heap.size, 0, none⟩ = some (.int .i64 n.kind) := hBx.cell 0 _ rfl
  have c1 : V.cell? ⟨w.heap.size, 1, none⟩ = some (.string (bs n.name)) := hBx.cell 1 _ rfl
  have c2 : V.cell? ⟨w.heap.size, 2, none⟩ = some (.int .i64 n.num) := hBx.cell 2 _ rfl
  have c3 : V.cell? ⟨w.heap.size, 3, none⟩ = some (.slice o n.kids.length cap) := hBx.cell 3 _ rfl
  have c4 : V.cell? ⟨w.heap.size, 4, none⟩ = some (.int .i64 n.pos) := hBx.cell 4 _ rfl
  have hlV := hBx.lt
  have HF : Hid (TFr T bl w V v v) := hfV
  have HA : Hid (Calls Tryz.prog 138 #[.agg #[.int .i64 n.kind, .string (bs n.name), .int .i64 n.num, .slice o n.kids.length cap, .int .i64 n.pos]] V fun e w' => e = .returned (.bool true) ∧ Below V.heap.size V w') := by have := isAtom_c n o cap hk V; rw [ha] at this; exact this
  have HX : Hid (∀ X : World, Below V.heap.size V X → Calls Tryz.prog 23 #[.pointer (some ⟨T, 0, none⟩), .agg #[.int .i64 n.kind, .string (bs n.name), .int .i64 n.num, .slice o n.kids.length cap, .int .i64 n.pos]] X fun e W' => e = .returned (.tuple #[]) ∧ ∃ v', TSt B bl T (c + k) W' v' (ts ++ out) ∧ TFr T bl X W' v v') := fun X hX => h ts v c X o cap (hnV.below (hX.mono (by have := hSV.lt; have := hSV.1; omega))) (hSV.below hX) hc hl
  have HBx : Hid (Blk V w.heap.size #[.int .i64 n.kind, .string (bs n.name), .int .i64 n.num, .slice o n.kids.length cap, .int .i64 n.pos] 24) := hBx
  clear h hn hS hc hl hnV hSV hfV hBx ha hk
  go_enter Tryz.func98, Tryz.ntmps98
  go_wp2_with (go_at_call 138; fail)
  refine HA.out.mono ?_
  rintro e w1 ⟨rfl, hb1⟩
  have HC := HX.out w1 hb1
  have HC1 : Hid (Calls Tryz.prog 23 #[.pointer (some ⟨T, 0, none⟩), .agg #[.int .i64 n.kind, .string (bs n.name), .int .i64 n.num, .slice o n.kids.length cap, .int .i64 n.pos]] w1 fun e W' => e = .returned (.tuple #[]) ∧ ∃ v', TSt B bl T (c + k) W' v' (ts ++ out) ∧ TFr T bl w1 W' v v') := HC
  have HF2 : Hid (TFr T bl w w1 v v) := HF.out.trans (tfr_below hb1 v)
  have hB1 := HBx.out.below hb1
  have d0 : w1.cell? ⟨w.heap.size, 0, none⟩ = some (.int .i64 n.kind) := hB1.cell 0 _ rfl
  have d1 : w1.cell? ⟨w.heap.size, 1, none⟩ = some (.string (bs n.name)) := hB1.cell 1 _ rfl
  have d2 : w1.cell? ⟨w.heap.size, 2, none⟩ = some (.int .i64 n.num) := hB1.cell 2 _ rfl
  have d3 : w1.cell? ⟨w.heap.size, 3, none⟩ = some (.slice o n.kids.length cap) := hB1.cell 3 _ rfl
  have d4 : w1.cell? ⟨w.heap.size, 4, none⟩ = some (.int .i64 n.pos) := hB1.cell 4 _ rfl
  have hl1 := hB1.lt
  clear hb1 HC HA HX HF hB1 c0 c1 c2 c3 c4 hlV
  have HF := HF2
  clear HF2
  go_wp2_with (go_at_call 23; fail)
  refine HC1.out.mono ?_
  rintro e w3 ⟨rfl, v', h3, f3⟩
  have H3 : Hid (TSt B bl T (c + k) w3 v' (ts ++ out)) := h3
  have F3 : Hid (TFr T bl w w3 v v') := HF.out.trans f3
  clear h3 f3
  go_wp2
  first
    | (go_end0; exact ⟨rfl, v', H3.out, F3.out⟩)
    | exact bodyPost_ret (v := .tuple #[]) (by simp [results, Tryz.results98, go_sem]) rfl ⟨rfl, v', H3.out, F3.out⟩
def lpT : TkT := ⟨8, [40], 0⟩
def rpT : TkT := ⟨8, [41], 0⟩
set_option maxRecDepth 100000 in
set_option maxHeartbeats 4000000 in
theorem atomNo {B bl T : Nat} {n : Nd} {out : List TkT} {k : Nat} (hk : n.kind ≠ 39) (ha : atomM n.kind n.kids.length = false) (h : TellOK B bl T 23 n out k) : TellOK B bl T 98 n (lpT :: (out ++ [rpT])) k := by
  intro ts v c w o cap hn hS hc hl
  obtain ⟨V, hV, hnV, hSV, hfV, hBx, hx1, hx2, hx3, hx4⟩ := boxed hn hS
  have c0 : V.cell? ⟨w.heap.size, 0, none⟩ = some (.int .i64 n.kind) := hBx.cell 0 _ rfl
  have c1 : V.cell? ⟨w.heap.size, 1, none⟩ = some (.string (bs n.name)) := hBx.cell 1 _ rfl
  have c2 : V.cell? ⟨w.heap.size, 2, none⟩ = some (.int .i64 n.num) := hBx.cell 2 _ rfl
  have c3 : V.cell? ⟨w.heap.size, 3, none⟩ = some (.slice o n.kids.length cap) := hBx.cell 3 _ rfl
  have c4 : V.cell? ⟨w.heap.size, 4, none⟩ = some (.int .i64 n.pos) := hBx.cell 4 _ rfl
  have hlV := hBx.lt
  have HF : Hid (TFr T bl w V v v) := hfV
  have HA : Hid (Calls Tryz.prog 138 #[.agg #[.int .i64 n.kind, .string (bs n.name), .int .i64 n.num, .slice o n.kids.length cap, .int .i64 n.pos]] V fun e w' => e = .returned (.bool false) ∧ Below V.heap.size V w') := by have := isAtom_c n o cap hk V; rw [ha] at this; exact this
  have hll : ts.length + (out.length + 2) ≤ 1000000000 := by simp only [List.length_cons, List.length_append, List.length_nil] at hl; omega
  have HX : Hid (∀ (X : World) (ts' : List TkT) (v' : Value), NdIn X B n o cap → TSt B bl T c X v' ts' → ts'.length = ts.length + 1 → Calls Tryz.prog 23 #[.pointer (some ⟨T, 0, none⟩), .agg #[.int .i64 n.kind, .string (bs n.name), .int .i64 n.num, .slice o n.kids.length cap, .int .i64 n.pos]] X fun e W' => e = .returned (.tuple #[]) ∧ ∃ v'', TSt B bl T (c + k) W' v'' (ts' ++ out) ∧ TFr T bl X W' v' v'') := fun X ts' v' h1 h2 h3 => h ts' v' c X o cap h1 h2 hc (by omega)
  have HP : Hid (∀ (c' : Nat) (ts' : List TkT) (v' : Value) (s : ByteArray) (X : World), TSt B bl T c' X v' ts' → ts'.length + 1 ≤ ts.length + (out.length + 2) → Calls Tryz.prog 85 #[.pointer (some ⟨T, 0, none⟩), .slice (some ⟨X.heap.size, 0, none⟩) 1 1] (X.alloc (.cells #[.int .i64 8, .string s, .int .i64 0, .int .i64 0, .int .i64 0, .int .i64 0, .bool false] 39)) fun e W' => e = .returned (.tuple #[]) ∧ ∃ v'', TSt B bl T c' W' v'' (ts' ++ [⟨8, s.data.toList, 0⟩]) ∧ TFr T bl X W' v' v'') := fun c' ts' v' s X hX hlen => put1_c B bl T c' ts' v' 8 s 0 X hX (by omega)
  have HMk : Hid (∀ (s : ByteArray) (X : World), Calls Tryz.prog 91 #[.string s] X fun e w' => e = .returned (.agg #[.int .i64 8, .string s, .int .i64 0, .int .i64 0, .int .i64 0, .int .i64 0, .bool false]) ∧ Below X.heap.size X w') := mark_c
  have HBx : Hid (Blk V w.heap.size #[.int .i64 n.kind, .string (bs n.name), .int .i64 n.num, .slice o n.kids.length cap, .int .i64 n.pos] 24) := hBx
  have HSV : Hid (TSt B bl T c V v ts) := hSV
  have HNV : Hid (NdIn V B n o cap) := hnV
  have Hx : Hid (w.heap.size ≠ T ∧ w.heap.size ≠ bl ∧ v.ownBlock ≠ some w.heap.size) := ⟨hx1, hx2, hx3⟩
  clear h hn hS hc hl hnV hSV hfV hBx ha hk hll hx1 hx2 hx3
  go_enter Tryz.func98, Tryz.ntmps98
  go_wp2_with (go_at_call 138; fail)
  refine HA.out.mono ?_
  rintro e w1 ⟨rfl, hb1⟩
  have S1 : Hid (TSt B bl T c w1 v ts) := HSV.out.below hb1
  have B1 : Hid (Blk w1 w.heap.size #[.int .i64 n.kind, .string (bs n.name), .int .i64 n.num, .slice o n.kids.length cap, .int .i64 n.pos] 24) := HBx.out.below hb1
  have N1 : Hid (NdIn w1 B n o cap) := HNV.out.below (hb1.mono (by have := HSV.out.lt; have := HSV.out.1; omega))
  have F1 : Hid (TFr T bl w w1 v v) := HF.out.trans (tfr_below hb1 v)
  clear hb1 HA HF HSV HBx HNV c0 c1 c2 c3 c4 hlV
  go_wp2_with (go_at_call 91; fail)
  refine (HMk.out _ _).mono ?_
  rintro e w2 ⟨rfl, hb2⟩
  have S2 : Hid (TSt B bl T c w2 v ts) := S1.out.below hb2
  have B2 : Hid (Blk w2 w.heap.size #[.int .i64 n.kind, .string (bs n.name), .int .i64 n.num, .slice o n.kids.length cap, .int .i64 n.pos] 24) := B1.out.below hb2
  have N2 : Hid (NdIn w2 B n o cap) := N1.out.below (hb2.mono (by have := S1.out.lt; have := S1.out.1; omega))
  have F2 : Hid (TFr T bl w w2 v v) := F1.out.trans (tfr_below hb2 v)
  have HP1 : Hid (Calls Tryz.prog 85 #[.pointer (some ⟨T, 0, none⟩), .slice (some ⟨w2.heap.size, 0, none⟩) 1 1] (w2.alloc (.cells #[.int .i64 8, .string ⟨#[40]⟩, .int .i64 0, .int .i64 0, .int .i64 0, .int .i64 0, .bool false] 39)) fun e W' => e = .returned (.tuple #[]) ∧ ∃ v'', TSt B bl T c W' v'' (ts ++ [lpT]) ∧ TFr T bl w2 W' v v'') := HP.out c ts v ⟨#[40]⟩ w2 S2.out (by omega)
  clear hb2 S1 B1 N1 F1
  go_wp2_with (go_at_call 85; fail)
  refine HP1.out.mono ?_
  rintro e w3 ⟨rfl, v3, s3, f3⟩
  have S3 : Hid (TSt B bl T c w3 v3 (ts ++ [lpT])) := s3
  have B3 : Hid (Blk w3 w.heap.size #[.int .i64 n.kind, .string (bs n.name), .int .i64 n.num, .slice o n.kids.length cap, .int .i64 n.pos] 24) := B2.out.tfr f3 Hx.out.1 Hx.out.2.1 Hx.out.2.2
  have N3 : Hid (NdIn w3 B n o cap) := N2.out.below (f3.below S2.out)
  have F3' : Hid (TFr T bl w w3 v v3) := F2.out.trans f3
  have R3 : Hid (v3.ownBlock ≠ some w.heap.size) := by
    rcases f3.row with e | ⟨gg, e, hgg⟩
    · intro h; rw [e] at h; exact Hx.out.2.2 h
    · intro h; rw [e] at h; cases h; have := B2.out.lt; omega
  have HC3 : Hid (Calls Tryz.prog 23 #[.pointer (some ⟨T, 0, none⟩), .agg #[.int .i64 n.kind, .string (bs n.name), .int .i64 n.num, .slice o n.kids.length cap, .int .i64 n.pos]] w3 fun e W' => e = .returned (.tuple #[]) ∧ ∃ v'', TSt B bl T (c + k) W' v'' ((ts ++ [lpT]) ++ out) ∧ TFr T bl w3 W' v3 v'') := HX.out w3 _ v3 N3.out S3.out (by simp)
  have d0 : w3.cell? ⟨w.heap.size, 0, none⟩ = some (.int .i64 n.kind) := B3.out.cell 0 _ rfl
  have d1 : w3.cell? ⟨w.heap.size, 1, none⟩ = some (.string (bs n.name)) := B3.out.cell 1 _ rfl
  have d2 : w3.cell? ⟨w.heap.size, 2, none⟩ = some (.int .i64 n.num) := B3.out.cell 2 _ rfl
  have d3 : w3.cell? ⟨w.heap.size, 3, none⟩ = some (.slice o n.kids.length cap) := B3.out.cell 3 _ rfl
  have d4 : w3.cell? ⟨w.heap.size, 4, none⟩ = some (.int .i64 n.pos) := B3.out.cell 4 _ rfl
  have hl3 := B3.out.lt
  clear s3 f3 HP1 S2 B2 N2 F2 HX
  go_wp2_with (go_at_call 23; fail)
  refine HC3.out.mono ?_
  rintro e w4 ⟨rfl, v4, s4, f4⟩
  have S4 : Hid (TSt B bl T (c + k) w4 v4 ((ts ++ [lpT]) ++ out)) := s4
  have F4 : Hid (TFr T bl w w4 v v4) := F3'.out.trans f4
  clear s4 f4 HC3 S3 B3 N3 F3' d0 d1 d2 d3 d4 hl3 R3
  go_wp2_with (go_at_call 91; fail)
  refine (HMk.out _ _).mono ?_
  rintro e w5 ⟨rfl, hb5⟩
  have S5 : Hid (TSt B bl T (c + k) w5 v4 ((ts ++ [lpT]) ++ out)) := S4.out.below hb5
  have F5 : Hid (TFr T bl w w5 v v4) := F4.out.trans (tfr_below hb5 v4)
  have HP2 : Hid (Calls Tryz.prog 85 #[.pointer (some ⟨T, 0, none⟩), .slice (some ⟨w5.heap.size, 0, none⟩) 1 1] (w5.alloc (.cells #[.int .i64 8, .string ⟨#[41]⟩, .int .i64 0, .int .i64 0, .int .i64 0, .int .i64 0, .bool false] 39)) fun e W' => e = .returned (.tuple #[]) ∧ ∃ v'', TSt B bl T (c + k) W' v'' (((ts ++ [lpT]) ++ out) ++ [rpT]) ∧ TFr T bl w5 W' v4 v'') := HP.out (c + k) _ v4 ⟨#[41]⟩ w5 S5.out (by simp; omega)
  clear hb5 S4 F4 HP
  go_wp2_with (go_at_call 85; fail)
  refine HP2.out.mono ?_
  rintro e w6 ⟨rfl, v6, s6, f6⟩
  have S6 : Hid (TSt B bl T (c + k) w6 v6 (ts ++ (lpT :: (out ++ [rpT])))) := by
    have e : ((ts ++ [lpT]) ++ out) ++ [rpT] = ts ++ (lpT :: (out ++ [rpT])) := by simp
    show TSt _ _ _ _ _ _ _
    rw [← e]; exact s6
  have F6 : Hid (TFr T bl w w6 v v6) := F5.out.trans f6
  clear s6 f6
  go_wp2
  go_end0
  exact ⟨rfl, v6, S6.out, F6.out⟩

end Go.Proofs.YtndpebkiiemfpaaGreatDoor

namespace Go.Proofs.YtndpebkiiemfpaaGreatDoor
open Go.RowKit Go.Shelf Go.Maps
set_option linter.unusedVariables false

/-- Function f tells a list of nodes so. -/
def ListOK (B bl T f : Nat) (l : List Nd) (out : List TkT) (k : Nat) : Prop := ∀ (ts : List TkT) (v : Value) (c : Nat) (w : World) (o : Option Addr) (cap : Nat), KIn w B o l → l.length ≤ cap → cap ≤ 9223372036854775807 → TSt B bl T c w v ts → c + k ≤ 4611686018427387904 → ts.length + out.length ≤ 1000000000 →
  Calls Tryz.prog f #[.pointer (some ⟨T, 0, none⟩), .slice o l.length cap] w fun e W' => e = .returned (.tuple #[]) ∧ ∃ v', TSt B bl T (c + k) W' v' (ts ++ out) ∧ TFr T bl w W' v v'
theorem flat_take (f : Nd → List TkT) (l : List Nd) (k : Nat) (h : k < l.length) : (l.take (k + 1)).flatMap f = (l.take k).flatMap f ++ f l[k] := by
  rw [List.take_succ_eq_append_getElem h, List.flatMap_append, List.flatMap_singleton]
theorem flat_take_le (f : Nd → List TkT) (l : List Nd) (k : Nat) : ((l.take k).flatMap f).length ≤ (l.flatMap f).length := by
  have : l.flatMap f = (l.take k).flatMap f ++ (l.drop k).flatMap f := by rw [← List.flatMap_append, List.take_append_drop]
  rw [this, List.length_append]; omega
/-- A node in a list, as it is handed over. -/
theorem kid_in {W : World} {B : Nat} {n : Nd} {g off : Nat} (h : NdAt W B n g off) : ∃ (o : Option Addr) (cap : Nat), W.cell? ⟨g, off, none⟩ = some (.int .i64 n.kind) ∧ W.cell? ⟨g, off + 1, none⟩ = some (.string (bs n.name)) ∧ W.cell? ⟨g, off + 2, none⟩ = some (.int .i64 n.num) ∧ W.cell? ⟨g, off + 3, none⟩ = some (.slice o n.kids.length cap) ∧ W.cell? ⟨g, off + 4, none⟩ = some (.int .i64 n.pos) ∧ NdIn W B n o cap := by
  obtain ⟨o, cap, k0, k1, k2, k3, k4, hc1, hc2, hKI⟩ := h.cells
  exact ⟨o, cap, k0, k1, k2, k3, k4, hKI, hc1, hc2, h.wf⟩

set_option maxRecDepth 100000 in
set_option maxHeartbeats 4000000 in
theorem atoms_ok {B bl T : Nat} {l : List Nd} (outF : Nd → List TkT) (kF : Nd → Nat) (h : ∀ x ∈ l, TellOK B bl T 98 x (outF x) (kF x)) : ListOK B bl T 93 l (l.flatMap outF) ((l.map kF).sum) := by
  intro ts v c w o cap hK hc1 hc2 hS hc hl
  obtain ⟨L, hL⟩ : ∃ L, l.length = L := ⟨_, rfl⟩
  have HL : Hid (l.length = L) := hL
  have HH : Hid (∀ x ∈ l, TellOK B bl T 98 x (outF x) (kF x)) := h
  have HK : Hid (KIn w B o l) := hK
  have HS : Hid (TSt B bl T c w v ts) := hS
  have HC : Hid (c + (l.map kF).sum ≤ 4611686018427387904) := hc
  have Hl : Hid (ts.length + (l.flatMap outF).length ≤ 1000000000) := hl
  have hLi : (L : Int) ≤ 9223372036854775807 := by omega
  rw [hL]
  clear h hK hS hc hl hc1 hc2 hL
  go_enter Tryz.func93, Tryz.ntmps93
  go_wp2
  go_loopw [8] (fun i wr => ∃ (k : Nat) (v1 : Value), k ≤ L ∧ i = .int .i64 k ∧ Hid (TSt B bl T (c + ((l.take k).map kF).sum) wr v1 (ts ++ (l.take k).flatMap outF)) ∧ Hid (TFr T bl w wr v v1)) (fun i _ => L - (intOf i).toNat)
  case atStart => exact ⟨0, v, Nat.zero_le _, rfl, by show TSt _ _ _ _ _ _ _; simpa using HS.out, TFr.refl _ _ _ _⟩
  case round =>
    obtain ⟨k, v1, hk, rfl, hS1, hF1⟩ := hrel
    by_cases hlt : k < L
    · have hkL : k < l.length := by rw [HL.out]; exact hlt
      have hki : (k : Int) < (L : Int) := by omega
      have hBw : Below B w wr := hF1.out.below HS.out
      obtain ⟨g, off, rfl, hg, hKA⟩ := (HK.out.below hBw).at k hkL
      obtain ⟨o2, cap2, k0, k1, k2, k3, k4, hNk⟩ := kid_in (hKA.get l g off k hkL)
      have hgr : g < wr.heap.size := by have := hS1.out.lt; have := hS1.out.1; omega
      have hA : ∀ ob : Obj, Below wr.heap.size wr (wr.alloc ob) := fun ob => (Below.refl _ _).alloc (Nat.le_refl _) _
      have hst := sum_take kF l k hkL
      have hsl := sum_take_le kF l (k + 1)
      have hft := flat_take outF l k hkL
      have hfl := flat_take_le outF l (k + 1)
      have HCk : Hid (∀ ob : Obj, Calls Tryz.prog 98 #[.pointer (some ⟨T, 0, none⟩), .agg #[.int .i64 l[k].kind, .string (bs l[k].name), .int .i64 l[k].num, .slice o2 l[k].kids.length cap2, .int .i64 l[k].pos]] (wr.alloc ob) fun e W' => e = .returned (.tuple #[]) ∧ ∃ v', TSt B bl T (c + ((l.take (k + 1)).map kF).sum) W' v' (ts ++ (l.take (k + 1)).flatMap outF) ∧ TFr T bl (wr.alloc ob) W' v1 v') := by
        intro ob
        have h1 := hS1.out.lt
        have h2 := hS1.out.1
        have := HH.out l[k] (List.getElem_mem hkL) _ v1 _ (wr.alloc ob) o2 cap2 (hNk.below ((hA ob).mono (by omega))) (hS1.out.below (hA ob)) (by have := HC.out; omega) (by
          have h3 := Hl.out
          rw [hft] at hfl
          rw [List.length_append] at hfl ⊢
          omega)
        rw [hst, hft, ← Nat.add_assoc, ← List.append_assoc]
        exact this
      have HFb : Hid (∀ (ob : Obj) (W' : World) (v' : Value), TFr T bl (wr.alloc ob) W' v1 v' → TFr T bl w W' v v') := fun ob W' v' hf => (hF1.out.trans (tfr_below (hA ob) v1)).trans hf
      generalize l[k] = nd at k0 k1 k2 k3 k4 HCk
      clear hBw hKA hNk hA hst hsl hft hfl hkL hS1 hF1
      go_wp2_with (go_at_call 98; fail)
      refine (HCk.out _).mono ?_
      rintro e w2 ⟨rfl, v2, s2, f2⟩
      have S2 : Hid (TSt B bl T (c + ((l.take (k + 1)).map kF).sum) w2 v2 (ts ++ (l.take (k + 1)).flatMap outF)) := s2
      have F2 : Hid (TFr T bl w w2 v v2) := HFb.out _ _ _ f2
      clear s2 f2 k0 k1 k2 k3 k4 HCk HFb
      go_wp2
      go_roundw
      case rel => exact ⟨k + 1, v2, by omega, by go_num, S2, F2⟩
      case measure => simp [intOf]; omega
    · obtain rfl : k = L := by omega
      have SF : Hid (TSt B bl T (c + (l.map kF).sum) wr v1 (ts ++ l.flatMap outF)) := by
        have h1 := hS1.out
        rw [List.take_of_length_le (by rw [HL.out]; exact Nat.le_refl _)] at h1
        exact h1
      go_wp2
      go_end0
      exact ⟨rfl, v1, SF.out, hF1.out⟩
end Go.Proofs.YtndpebkiiemfpaaGreatDoor

namespace Go.Proofs.YtndpebkiiemfpaaGreatDoor
open Go.RowKit Go.Shelf Go.Maps
set_option linter.unusedVariables false

set_option maxRecDepth 100000 in
set_option maxHeartbeats 4000000 in
theorem exprApp {B bl T : Nat} {n : Nd} {out : List TkT} {k : Nat} (hk : n.kind = 16) (h : ListOK B bl T 93 n.kids out k) : TellOK B bl T 46 n out k := by
  intro ts v c w o cap hn hS hc hl
  obtain ⟨V, hV, hnV, hSV, hfV, hBx, hx1, hx2, hx3, hx4⟩ := boxed hn hS
  have c0 : V.cell? ⟨w.heap.size, 0, none⟩ = some (.int .i64 n.kind) := hBx.cell 0 _ rfl
  have c1 : V.cell? ⟨w.heap.size, 1, none⟩ = some (.string (bs n.name)) := hBx.cell 1 _ rfl
  have c2 : V.cell? ⟨w.heap.size, 2, none⟩ = some (.int .i64 n.num) := hBx.cell 2 _ rfl
  have c3 : V.cell? ⟨w.heap.size, 3, none⟩ = some (.slice o n.kids.length cap) := hBx.cell 3 _ rfl
  have c4 : V.cell? ⟨w.heap.size, 4, none⟩ = some (.int .i64 n.pos) := hBx.cell 4 _ rfl
  have hlV := hBx.lt
  have HF : Hid (TFr T bl w V v v) := hfV
  have HC : Hid (Calls Tryz.prog 93 #[.pointer (some ⟨T, 0, none⟩), .slice o n.kids.length cap] V fun e W' => e = .returned (.tuple #[]) ∧ ∃ v', TSt B bl T (c + k) W' v' (ts ++ out) ∧ TFr T bl V W' v v') := h ts v c V o cap hnV.1 hnV.2.1 hnV.2.2.1 hSV hc hl
  rw [hk] at c0 hV ⊢
  clear hn hS hc hl hnV hSV hfV hBx h
  go_enter Tryz.func46, Tryz.ntmps46
  go_wp2_with (go_at_call 93; fail)
  refine HC.out.mono ?_
  rintro e w3 ⟨rfl, v', h3, f3⟩
  have H3 : Hid (TSt B bl T (c + k) w3 v' (ts ++ out)) := h3
  have F3 : Hid (TFr T bl w w3 v v') := HF.out.trans f3
  clear h3 f3
  go_wp2
  first
    | (go_end0; exact ⟨rfl, v', H3.out, F3.out⟩)
    | exact bodyPost_ret (v := .tuple #[]) (by simp [results, Tryz.results46, go_sem]) rfl ⟨rfl, v', H3.out, F3.out⟩
set_option maxRecDepth 100000 in
set_option maxHeartbeats 4000000 in
theorem exprOps {B bl T : Nat} {n : Nd} {out : List TkT} {k : Nat} (hk : n.kind = 17) (h : ListOK B bl T 97 n.kids out k) : TellOK B bl T 46 n out k := by
  intro ts v c w o cap hn hS hc hl
  obtain ⟨V, hV, hnV, hSV, hfV, hBx, hx1, hx2, hx3, hx4⟩ := boxed hn hS
  have c0 : V.cell? ⟨w.heap.size, 0, none⟩ = some (.int .i64 n.kind) := hBx.cell 0 _ rfl
  have c1 : V.cell? ⟨w.heap.size, 1, none⟩ = some (.string (bs n.name)) := hBx.cell 1 _ rfl
  have c2 : V.cell? ⟨w.heap.size, 2, none⟩ = some (.int .i64 n.num) := hBx.cell 2 _ rfl
  have c3 : V.cell? ⟨w.heap.size, 3, none⟩ = some (.slice o n.kids.length cap) := hBx.cell 3 _ rfl
  have c4 : V.cell? ⟨w.heap.size, 4, none⟩ = some (.int .i64 n.pos) := hBx.cell 4 _ rfl
  have hlV := hBx.lt
  have HF : Hid (TFr T bl w V v v) := hfV
  have HC : Hid (Calls Tryz.prog 97 #[.pointer (some ⟨T, 0, none⟩), .slice o n.kids.length cap] V fun e W' => e = .returned (.tuple #[]) ∧ ∃ v', TSt B bl T (c + k) W' v' (ts ++ out) ∧ TFr T bl V W' v v') := h ts v c V o cap hnV.1 hnV.2.1 hnV.2.2.1 hSV hc hl
  rw [hk] at c0 hV ⊢
  clear hn hS hc hl hnV hSV hfV hBx h
  go_enter Tryz.func46, Tryz.ntmps46
  go_wp2_with (go_at_call 97; fail)
  refine HC.out.mono ?_
  rintro e w3 ⟨rfl, v', h3, f3⟩
  have H3 : Hid (TSt B bl T (c + k) w3 v' (ts ++ out)) := h3
  have F3 : Hid (TFr T bl w w3 v v') := HF.out.trans f3
  clear h3 f3
  go_wp2
  first
    | (go_end0; exact ⟨rfl, v', H3.out, F3.out⟩)
    | exact bodyPost_ret (v := .tuple #[]) (by simp [results, Tryz.results46, go_sem]) rfl ⟨rfl, v', H3.out, F3.out⟩
set_option maxRecDepth 100000 in
set_option maxHeartbeats 4000000 in
theorem declProgram {B bl T : Nat} {n : Nd} {out : List TkT} {k : Nat} (hk : n.kind = 1) (h : ListOK B bl T 84 n.kids out k) : TellOK B bl T 45 n out k := by
  intro ts v c w o cap hn hS hc hl
  obtain ⟨V, hV, hnV, hSV, hfV, hBx, hx1, hx2, hx3, hx4⟩ := boxed hn hS
  have c0 : V.cell? ⟨w.heap.size, 0, none⟩ = some (.int .i64 n.kind) := hBx.cell 0 _ rfl
  have c1 : V.cell? ⟨w.heap.size, 1, none⟩ = some (.string (bs n.name)) := hBx.cell 1 _ rfl
  have c2 : V.cell? ⟨w.heap.size, 2, none⟩ = some (.int .i64 n.num) := hBx.cell 2 _ rfl
  have c3 : V.cell? ⟨w.heap.size, 3, none⟩ = some (.slice o n.kids.length cap) := hBx.cell 3 _ rfl
  have c4 : V.cell? ⟨w.heap.size, 4, none⟩ = some (.int .i64 n.pos) := hBx.cell 4 _ rfl
  have hlV := hBx.lt
  have HF : Hid (TFr T bl w V v v) := hfV
  have HC : Hid (Calls Tryz.prog 84 #[.pointer (some ⟨T, 0, none⟩), .slice o n.kids.length cap] V fun e W' => e = .returned (.tuple #[]) ∧ ∃ v', TSt B bl T (c + k) W' v' (ts ++ out) ∧ TFr T bl V W' v v') := h ts v c V o cap hnV.1 hnV.2.1 hnV.2.2.1 hSV hc hl
  rw [hk] at c0 hV ⊢
  clear hn hS hc hl hnV hSV hfV hBx h
  go_enter Tryz.func45, Tryz.ntmps45
  go_wp2_with (go_at_call 84; fail)
  refine HC.out.mono ?_
  rintro e w3 ⟨rfl, v', h3, f3⟩
  have H3 : Hid (TSt B bl T (c + k) w3 v' (ts ++ out)) := h3
  have F3 : Hid (TFr T bl w w3 v v') := HF.out.trans f3
  clear h3 f3
  go_wp2
  first
    | (go_end0; exact ⟨rfl, v', H3.out, F3.out⟩)
    | exact bodyPost_ret (v := .tuple #[]) (by simp [results, Tryz.results45, go_sem]) rfl ⟨rfl, v', H3.out, F3.out⟩
set_option maxRecDepth 100000 in
set_option maxHeartbeats 4000000 in
theorem turns_ok {B bl T : Nat} {l : List Nd} (outF : Nd → List TkT) (kF : Nd → Nat) (h : ∀ x ∈ l, (x.kind = 5 → TellOK B bl T 23 x (outF x) (kF x)) ∧ (x.kind ≠ 5 → TellOK B bl T 98 x (outF x) (kF x))) : ListOK B bl T 97 l (l.flatMap outF) ((l.map kF).sum) := by
  intro ts v c w o cap hK hc1 hc2 hS hc hl
  obtain ⟨L, hL⟩ : ∃ L, l.length = L := ⟨_, rfl⟩
  have HL : Hid (l.length = L) := hL
  have HH : Hid (∀ x ∈ l, (x.kind = 5 → TellOK B bl T 23 x (outF x) (kF x)) ∧ (x.kind ≠ 5 → TellOK B bl T 98 x (outF x) (kF x))) := h
  have HK : Hid (KIn w B o l) := hK
  have HS : Hid (TSt B bl T c w v ts) := hS
  have HC : Hid (c + (l.map kF).sum ≤ 4611686018427387904) := hc
  have Hl : Hid (ts.length + (l.flatMap outF).length ≤ 1000000000) := hl
  have hLi : (L : Int) ≤ 9223372036854775807 := by omega
  rw [hL]
  clear h hK hS hc hl hc1 hc2 hL
  go_enter Tryz.func97, Tryz.ntmps97
  go_wp2
  go_loopw [8] (fun i wr => ∃ (k : Nat) (v1 : Value), k ≤ L ∧ i = .int .i64 k ∧ Hid (TSt B bl T (c + ((l.take k).map kF).sum) wr v1 (ts ++ (l.take k).flatMap outF)) ∧ Hid (TFr T bl w wr v v1)) (fun i _ => L - (intOf i).toNat)
  case atStart => exact ⟨0, v, Nat.zero_le _, rfl, by show TSt _ _ _ _ _ _ _; simpa using HS.out, TFr.refl _ _ _ _⟩
  case round =>
    obtain ⟨k, v1, hk, rfl, hS1, hF1⟩ := hrel
    by_cases hlt : k < L
    · have hkL : k < l.length := by rw [HL.out]; exact hlt
      have hki : (k : Int) < (L : Int) := by omega
      have hBw : Below B w wr := hF1.out.below HS.out
      obtain ⟨g, off, rfl, hg, hKA⟩ := (HK.out.below hBw).at k hkL
      obtain ⟨o2, cap2, k0, k1, k2, k3, k4, hNk⟩ := kid_in (hKA.get l g off k hkL)
      have hgr : g < wr.heap.size := by have := hS1.out.lt; have := hS1.out.1; omega
      have hA : ∀ ob : Obj, Below wr.heap.size wr (wr.alloc ob) := fun ob => (Below.refl _ _).alloc (Nat.le_refl _) _
      have hst := sum_take kF l k hkL
      have hsl := sum_take_le kF l (k + 1)
      have hft := flat_take outF l k hkL
      have hfl := flat_take_le outF l (k + 1)
      by_cases hx : l[k].kind = 5
      · skip
        have HCk : Hid (∀ ob : Obj, Calls Tryz.prog 23 #[.pointer (some ⟨T, 0, none⟩), .agg #[.int .i64 l[k].kind, .string (bs l[k].name), .int .i64 l[k].num, .slice o2 l[k].kids.length cap2, .int .i64 l[k].pos]] (wr.alloc ob) fun e W' => e = .returned (.tuple #[]) ∧ ∃ v', TSt B bl T (c + ((l.take (k + 1)).map kF).sum) W' v' (ts ++ (l.take (k + 1)).flatMap outF) ∧ TFr T bl (wr.alloc ob) W' v1 v') := by
          intro ob
          have h1 := hS1.out.lt
          have h2 := hS1.out.1
          have := ((HH.out l[k] (List.getElem_mem hkL)).1 hx) _ v1 _ (wr.alloc ob) o2 cap2 (hNk.below ((hA ob).mono (by omega))) (hS1.out.below (hA ob)) (by have := HC.out; omega) (by
            have h3 := Hl.out
            rw [hft] at hfl
            rw [List.length_append] at hfl ⊢
            omega)
          rw [hst, hft, ← Nat.add_assoc, ← List.append_assoc]
          exact this
        have HFb : Hid (∀ (ob : Obj) (W' : World) (v' : Value), TFr T bl (wr.alloc ob) W' v1 v' → TFr T bl w W' v v') := fun ob W' v' hf => (hF1.out.trans (tfr_below (hA ob) v1)).trans hf
        generalize l[k] = nd at k0 k1 k2 k3 k4 HCk hx
        rw [hx] at k0 HCk
        clear hBw hKA hNk hA hst hsl hft hfl hkL hS1 hF1
        go_wp2_with (go_at_call 23; fail)
        refine (HCk.out _).mono ?_
        rintro e w2 ⟨rfl, v2, s2, f2⟩
        have S2 : Hid (TSt B bl T (c + ((l.take (k + 1)).map kF).sum) w2 v2 (ts ++ (l.take (k + 1)).flatMap outF)) := s2
        have F2 : Hid (TFr T bl w w2 v v2) := HFb.out _ _ _ f2
        clear s2 f2 k0 k1 k2 k3 k4 HCk HFb
        go_wp2
        go_roundw
        case rel => exact ⟨k + 1, v2, by omega, by go_num, S2, F2⟩
        case measure => simp [intOf]; omega
      · skip
        have HCk : Hid (∀ ob : Obj, Calls Tryz.prog 98 #[.pointer (some ⟨T, 0, none⟩), .agg #[.int .i64 l[k].kind, .string (bs l[k].name), .int .i64 l[k].num, .slice o2 l[k].kids.length cap2, .int .i64 l[k].pos]] (wr.alloc ob) fun e W' => e = .returned (.tuple #[]) ∧ ∃ v', TSt B bl T (c + ((l.take (k + 1)).map kF).sum) W' v' (ts ++ (l.take (k + 1)).flatMap outF) ∧ TFr T bl (wr.alloc ob) W' v1 v') := by
          intro ob
          have h1 := hS1.out.lt
          have h2 := hS1.out.1
          have := ((HH.out l[k] (List.getElem_mem hkL)).2 hx) _ v1 _ (wr.alloc ob) o2 cap2 (hNk.below ((hA ob).mono (by omega))) (hS1.out.below (hA ob)) (by have := HC.out; omega) (by
            have h3 := Hl.out
            rw [hft] at hfl
            rw [List.length_append] at hfl ⊢
            omega)
          rw [hst, hft, ← Nat.add_assoc, ← List.append_assoc]
          exact this
        have HFb : Hid (∀ (ob : Obj) (W' : World) (v' : Value), TFr T bl (wr.alloc ob) W' v1 v' → TFr T bl w W' v v') := fun ob W' v' hf => (hF1.out.trans (tfr_below (hA ob) v1)).trans hf
        generalize l[k] = nd at k0 k1 k2 k3 k4 HCk hx
        have hx2 : (nd.kind == 5) = false := beq_eq_false_iff_ne.2 hx
        clear hBw hKA hNk hA hst hsl hft hfl hkL hS1 hF1
        go_wp2_with (go_at_call 98; fail)
        refine (HCk.out _).mono ?_
        rintro e w2 ⟨rfl, v2, s2, f2⟩
        have S2 : Hid (TSt B bl T (c + ((l.take (k + 1)).map kF).sum) w2 v2 (ts ++ (l.take (k + 1)).flatMap outF)) := s2
        have F2 : Hid (TFr T bl w w2 v v2) := HFb.out _ _ _ f2
        clear s2 f2 k0 k1 k2 k3 k4 HCk HFb
        go_wp2
        go_roundw
        case rel => exact ⟨k + 1, v2, by omega, by go_num, S2, F2⟩
        case measure => simp [intOf]; omega
    · obtain rfl : k = L := by omega
      have SF : Hid (TSt B bl T (c + (l.map kF).sum) wr v1 (ts ++ l.flatMap outF)) := by
        have h1 := hS1.out
        rw [List.take_of_length_le (by rw [HL.out]; exact Nat.le_refl _)] at h1
        exact h1
      go_wp2
      go_end0
      exact ⟨rfl, v1, SF.out, hF1.out⟩

end Go.Proofs.YtndpebkiiemfpaaGreatDoor

namespace Go.Proofs.YtndpebkiiemfpaaGreatDoor
open Go.RowKit Go.Shelf Go.Maps
set_option linter.unusedVariables false

def lbT : TkT := ⟨8, [123], 0⟩
def rbT : TkT := ⟨8, [125], 0⟩
def scT : TkT := ⟨8, [59], 0⟩
set_option maxRecDepth 100000 in
set_option maxHeartbeats 4000000 in
theorem block_ok {B bl T : Nat} {l : List Nd} (outF : Nd → List TkT) (kF : Nd → Nat) (h : ∀ x ∈ l, TellOK B bl T 23 x (outF x) (kF x)) : ListOK B bl T 84 l (lbT :: (l.flatMap (fun x => outF x ++ [scT]) ++ [rbT])) ((l.map kF).sum) := by
  intro ts v c w o cap hK hc1 hc2 hS hc hl
  obtain ⟨L, hL⟩ : ∃ L, l.length = L := ⟨_, rfl⟩
  obtain ⟨G, hG⟩ : ∃ G : Nd → List TkT, (fun x => outF x ++ [scT]) = G := ⟨_, rfl⟩
  have HGx : Hid (∀ x, G x = outF x ++ [scT]) := fun x => by rw [← hG]
  rw [hG] at hl ⊢
  have HL : Hid (l.length = L) := hL
  have HH : Hid (∀ x ∈ l, TellOK B bl T 23 x (outF x) (kF x)) := h
  have HK : Hid (KIn w B o l) := hK
  have HS : Hid (TSt B bl T (c + 0) w v ts) := hS
  have HF : Hid (TFr T bl w w v v) := TFr.refl _ _ _ _
  have HC : Hid (c + (l.map kF).sum ≤ 4611686018427387904) := hc
  have Hl : Hid (ts.length + ((l.flatMap G).length + 2) ≤ 1000000000) := by simp only [List.length_cons, List.length_append, List.length_nil] at hl; show _ ≤ _; omega
  have HMmark : Hid (∀ (s : ByteArray) (X : World), Calls Tryz.prog 91 #[.string s] X fun e w' => e = .returned (.agg #[.int .i64 8, .string s, .int .i64 0, .int .i64 0, .int .i64 0, .int .i64 0, .bool false]) ∧ Below X.heap.size X w') := mark_c
  have hLi : (L : Int) ≤ 9223372036854775807 := by omega
  have HBw : Hid (∀ (W : World) (v' : Value), TFr T bl w W v v' → Below B w W) := fun W v' hf => hf.below hS
  rw [hL]
  clear h hK hS hc hl hc1 hc2 hL hG
  go_enter Tryz.func84, Tryz.ntmps84
  go_wp2_with (go_at_call 91; fail)
  refine (HMmark.out _ _).mono ?_
  rintro e wma ⟨rfl, hbma⟩
  have Sma : Hid (TSt B bl T (c + 0) wma v (ts)) := HS.out.below hbma
  have Fma : Hid (TFr T bl w wma v v) := HF.out.trans (tfr_below hbma v)
  have HPa : Hid (Calls Tryz.prog 85 #[.pointer (some ⟨T, 0, none⟩), .slice (some ⟨wma.heap.size, 0, none⟩) 1 1] (wma.alloc (.cells #[.int .i64 8, .string ⟨#[123]⟩, .int .i64 0, .int .i64 0, .int .i64 0, .int .i64 0, .bool false] 39)) fun e W' => e = .returned (.tuple #[]) ∧ ∃ v'', TSt B bl T (c + 0) W' v'' ((ts) ++ [lbT]) ∧ TFr T bl wma W' v v'') := put1_c B bl T (c + 0) _ v 8 ⟨#[123]⟩ 0 wma Sma.out (by have := Hl.out; omega)
  clear hbma
  go_wp2_with (go_at_call 85; fail)
  refine HPa.out.mono ?_
  rintro e wa ⟨rfl, va, sa, fa⟩
  have Sa : Hid (TSt B bl T (c + 0) wa va ((ts) ++ [lbT])) := sa
  have Fa : Hid (TFr T bl w wa v va) := Fma.out.trans fa
  clear sa fa HPa Sma Fma HS HF
  go_wp2
  go_loopw [12] (fun i wr => ∃ (k : Nat) (v1 : Value), k ≤ L ∧ i = .int .i64 k ∧ Hid (TSt B bl T (c + ((l.take k).map kF).sum) wr v1 ((ts ++ [lbT]) ++ (l.take k).flatMap G)) ∧ Hid (TFr T bl w wr v v1)) (fun i _ => L - (intOf i).toNat)
  case atStart => exact ⟨0, va, Nat.zero_le _, rfl, by show TSt _ _ _ _ _ _ _; simpa using Sa.out, Fa⟩
  case round =>
    obtain ⟨k, v1, hk, rfl, hS1, hF1⟩ := hrel
    by_cases hlt : k < L
    · have hkL : k < l.length := by rw [HL.out]; exact hlt
      have hki : (k : Int) < (L : Int) := by omega
      have hBw : Below B w wr := HBw.out _ _ hF1.out
      obtain ⟨g, off, rfl, hg, hKA⟩ := (HK.out.below hBw).at k hkL
      obtain ⟨o2, cap2, k0, k1, k2, k3, k4, hNk⟩ := kid_in (hKA.get l g off k hkL)
      have hgr : g < wr.heap.size := by have := hS1.out.lt; have := hS1.out.1; omega
      have hA : ∀ ob : Obj, Below wr.heap.size wr (wr.alloc ob) := fun ob => (Below.refl _ _).alloc (Nat.le_refl _) _
      have hst := sum_take kF l k hkL
      have hsl := sum_take_le kF l (k + 1)
      have hft := flat_take G l k hkL
      have hfl := flat_take_le G l (k + 1)
      have hlen : ((ts ++ [lbT]) ++ (l.take k).flatMap G).length + ((outF l[k]).length + 1) ≤ 1000000000 := by
        have h3 := Hl.out
        rw [hft, HGx.out] at hfl
        simp only [List.length_append, List.length_cons, List.length_nil] at hfl ⊢
        omega
      have HCk : Hid (∀ ob : Obj, Calls Tryz.prog 23 #[.pointer (some ⟨T, 0, none⟩), .agg #[.int .i64 l[k].kind, .string (bs l[k].name), .int .i64 l[k].num, .slice o2 l[k].kids.length cap2, .int .i64 l[k].pos]] (wr.alloc ob) fun e W' => e = .returned (.tuple #[]) ∧ ∃ v', TSt B bl T (c + ((l.take (k + 1)).map kF).sum) W' v' (((ts ++ [lbT]) ++ (l.take k).flatMap G) ++ outF l[k]) ∧ TFr T bl (wr.alloc ob) W' v1 v') := by
        intro ob
        have h1 := hS1.out.lt
        have h2 := hS1.out.1
        have := HH.out l[k] (List.getElem_mem hkL) _ v1 _ (wr.alloc ob) o2 cap2 (hNk.below ((hA ob).mono (by omega))) (hS1.out.below (hA ob)) (by have := HC.out; omega) (by omega)
        rw [hst, ← Nat.add_assoc]
        exact this
      have HFb : Hid (∀ (ob : Obj) (W' : World) (v' : Value), TFr T bl (wr.alloc ob) W' v1 v' → TFr T bl w W' v v') := fun ob W' v' hf => (hF1.out.trans (tfr_below (hA ob) v1)).trans hf
      have HLn : Hid ((((ts ++ [lbT]) ++ (l.take k).flatMap G) ++ outF l[k]).length + 1 ≤ 1000000000) := by show _ ≤ _; rw [List.length_append]; omega
      have HEq : Hid ((((ts ++ [lbT]) ++ (l.take k).flatMap G) ++ outF l[k]) ++ [scT] = (ts ++ [lbT]) ++ (l.take (k + 1)).flatMap G) := by
        show _ = _
        rw [hft, HGx.out, List.append_assoc, List.append_assoc, List.append_assoc]
      generalize hnd : l[k] = nd at k0 k1 k2 k3 k4 HCk HLn HEq
      generalize hts1 : ((ts ++ [lbT]) ++ (l.take k).flatMap G) ++ outF nd = ts1 at HCk HLn HEq
      generalize hcs : c + ((l.take (k + 1)).map kF).sum = cs at HCk
      have Hcs : Hid (c + ((l.take (k + 1)).map kF).sum = cs) := hcs
      clear hBw hKA hNk hA hst hsl hft hfl hkL hS1 hF1 hnd hts1 hcs hlen
      go_wp2_with (go_at_call 23; fail)
      refine (HCk.out _).mono ?_
      rintro e w2 ⟨rfl, v2, s2, f2⟩
      have S2 : Hid (TSt B bl T (cs) w2 v2 ts1) := s2
      have F2 : Hid (TFr T bl w w2 v v2) := HFb.out _ _ _ f2
      clear s2 f2 k0 k1 k2 k3 k4 HCk HFb
      go_wp2_with (go_at_call 91; fail)
      refine (HMmark.out _ _).mono ?_
      rintro e wmb ⟨rfl, hbmb⟩
      have Smb : Hid (TSt B bl T (cs) wmb v2 (ts1)) := S2.out.below hbmb
      have Fmb : Hid (TFr T bl w wmb v v2) := F2.out.trans (tfr_below hbmb v2)
      have HPb : Hid (Calls Tryz.prog 85 #[.pointer (some ⟨T, 0, none⟩), .slice (some ⟨wmb.heap.size, 0, none⟩) 1 1] (wmb.alloc (.cells #[.int .i64 8, .string ⟨#[59]⟩, .int .i64 0, .int .i64 0, .int .i64 0, .int .i64 0, .bool false] 39)) fun e W' => e = .returned (.tuple #[]) ∧ ∃ v'', TSt B bl T (cs) W' v'' ((ts1) ++ [scT]) ∧ TFr T bl wmb W' v2 v'') := put1_c B bl T (cs) _ v2 8 ⟨#[59]⟩ 0 wmb Smb.out (HLn.out)
      clear hbmb
      go_wp2_with (go_at_call 85; fail)
      refine HPb.out.mono ?_
      rintro e wb ⟨rfl, vb, sb, fb⟩
      have Sb : Hid (TSt B bl T (cs) wb vb ((ts1) ++ [scT])) := sb
      have Fb : Hid (TFr T bl w wb v vb) := Fmb.out.trans fb
      clear sb fb HPb Smb Fmb S2 F2
      go_wp2
      go_roundw
      case rel => exact ⟨k + 1, vb, by omega, by go_num, by show TSt _ _ _ _ _ _ _; rw [Hcs.out, ← HEq.out]; exact Sb.out, Fb⟩
      case measure => simp [intOf]; omega
    · obtain rfl : k = L := by omega
      have SF : Hid (TSt B bl T (c + (l.map kF).sum) wr v1 ((ts ++ [lbT]) ++ l.flatMap G)) := by
        have h1 := hS1.out
        rw [List.take_of_length_le (by rw [HL.out]; exact Nat.le_refl _)] at h1
        exact h1
      have HLn : Hid (((ts ++ [lbT]) ++ l.flatMap G).length + 1 ≤ 1000000000) := by have := Hl.out; show _ ≤ _; simp only [List.length_append, List.length_cons, List.length_nil]; omega
      have HEq : Hid (((ts ++ [lbT]) ++ l.flatMap G) ++ [rbT] = ts ++ (lbT :: (l.flatMap G ++ [rbT]))) := by show _ = _; simp
      generalize hts1 : (ts ++ [lbT]) ++ l.flatMap G = ts1 at SF HLn HEq
      clear hts1 hS1
      go_wp2_with (go_at_call 91; fail)
      refine (HMmark.out _ _).mono ?_
      rintro e wmd ⟨rfl, hbmd⟩
      have Smd : Hid (TSt B bl T (c + (l.map kF).sum) wmd v1 (ts1)) := SF.out.below hbmd
      have Fmd : Hid (TFr T bl w wmd v v1) := hF1.out.trans (tfr_below hbmd v1)
      have HPd : Hid (Calls Tryz.prog 85 #[.pointer (some ⟨T, 0, none⟩), .slice (some ⟨wmd.heap.size, 0, none⟩) 1 1] (wmd.alloc (.cells #[.int .i64 8, .string ⟨#[125]⟩, .int .i64 0, .int .i64 0, .int .i64 0, .int .i64 0, .bool false] 39)) fun e W' => e = .returned (.tuple #[]) ∧ ∃ v'', TSt B bl T (c + (l.map kF).sum) W' v'' ((ts1) ++ [rbT]) ∧ TFr T bl wmd W' v1 v'') := put1_c B bl T (c + (l.map kF).sum) _ v1 8 ⟨#[125]⟩ 0 wmd Smd.out (HLn.out)
      clear hbmd
      go_wp2_with (go_at_call 85; fail)
      refine HPd.out.mono ?_
      rintro e wd ⟨rfl, vd, sd, fd⟩
      have Sd : Hid (TSt B bl T (c + (l.map kF).sum) wd vd ((ts1) ++ [rbT])) := sd
      have Fd : Hid (TFr T bl w wd v vd) := Fmd.out.trans fd
      clear sd fd HPd Smd Fmd SF hF1
      go_wp2
      go_end0
      exact ⟨rfl, vd, by rw [← HEq.out]; exact Sd.out, Fd.out⟩

end Go.Proofs.YtndpebkiiemfpaaGreatDoor

namespace Go.Proofs.YtndpebkiiemfpaaGreatDoor
open Go.RowKit Go.Shelf Go.Maps
set_option linter.unusedVariables false

/-- Function f tells a node so, with a sign. -/
def SignOK (B bl T f : Nat) (n : Nd) (sg : ByteArray) (out : List TkT) (k : Nat) : Prop := ∀ (ts : List TkT) (v : Value) (c : Nat) (w : World) (o : Option Addr) (cap : Nat), NdIn w B n o cap → TSt B bl T c w v ts → c + k ≤ 4611686018427387904 → ts.length + out.length ≤ 1000000000 →
  Calls Tryz.prog f #[.pointer (some ⟨T, 0, none⟩), .agg #[.int .i64 n.kind, .string (bs n.name), .int .i64 n.num, .slice o n.kids.length cap, .int .i64 n.pos], .string sg] w fun e W' => e = .returned (.tuple #[]) ∧ ∃ v', TSt B bl T (c + k) W' v' (ts ++ out) ∧ TFr T bl w W' v v'
def sgT (s : ByteArray) : TkT := ⟨10, s.data.toList, 0⟩
def whT : TkT := ⟨9, [119, 104, 101, 114, 101], 0⟩
def barT : TkT := ⟨10, [124], 0⟩
set_option maxRecDepth 100000 in
set_option maxHeartbeats 4000000 in
theorem right_ok {B bl T : Nat} {n : Nd} (sg : ByteArray) (outF : Nd → List TkT) (kF : Nd → Nat) (h : ∀ x ∈ n.kids, (x.kind = 9 → SignOK B bl T 95 x sg (outF x) (kF x)) ∧ (x.kind = 10 → ∃ o, outF x = whT :: o ∧ TellOK B bl T 23 x o (kF x)) ∧ (x.kind ≠ 9 → x.kind ≠ 10 → ∃ o, outF x = sgT sg :: o ∧ TellOK B bl T 23 x o (kF x))) : SignOK B bl T 94 n sg (n.kids.flatMap outF) ((n.kids.map kF).sum) := by
  intro ts v c w o cap hn hS hc hl
  obtain ⟨V, hV, hnV, hSV, hfV, hBx, hx1, hx2, hx3, hx4⟩ := boxed hn hS
  have c0 : V.cell? ⟨w.heap.size, 0, none⟩ = some (.int .i64 n.kind) := hBx.cell 0 _ rfl
  have c1 : V.cell? ⟨w.heap.size, 1, none⟩ = some (.string (bs n.name)) := hBx.cell 1 _ rfl
  have c2 : V.cell? ⟨w.heap.size, 2, none⟩ = some (.int .i64 n.num) := hBx.cell 2 _ rfl
  have c3 : V.cell? ⟨w.heap.size, 3, none⟩ = some (.slice o n.kids.length cap) := hBx.cell 3 _ rfl
  have c4 : V.cell? ⟨w.heap.size, 4, none⟩ = some (.int .i64 n.pos) := hBx.cell 4 _ rfl
  have hlV := hBx.lt
  have HF : Hid (TFr T bl w V v v) := hfV
  obtain ⟨l, hl0⟩ : ∃ l, n.kids = l := ⟨_, rfl⟩
  rw [hl0] at h hc hl ⊢
  rw [hl0] at c3
  obtain ⟨L, hL⟩ : ∃ L, l.length = L := ⟨_, rfl⟩
  have hK : KIn V B o l := by have := hnV.1; rw [hl0] at this; exact this
  have hc1 : l.length ≤ cap := by have := hnV.2.1; rw [hl0] at this; exact this
  have hc2 := hnV.2.2.1
  have HL : Hid (l.length = L) := hL
  have HH : Hid (∀ x ∈ l, (x.kind = 9 → SignOK B bl T 95 x sg (outF x) (kF x)) ∧ (x.kind = 10 → ∃ o, outF x = whT :: o ∧ TellOK B bl T 23 x o (kF x)) ∧ (x.kind ≠ 9 → x.kind ≠ 10 → ∃ o, outF x = sgT sg :: o ∧ TellOK B bl T 23 x o (kF x))) := h
  have HK : Hid (KIn V B o l) := hK
  have HS : Hid (TSt B bl T c V v ts) := hSV
  have HC : Hid (c + (l.map kF).sum ≤ 4611686018427387904) := hc
  have Hl : Hid (ts.length + (l.flatMap outF).length ≤ 1000000000) := hl
  have hLi : (L : Int) ≤ 9223372036854775807 := by omega
  rw [hl0] at hV
  rw [hL] at c3 hV ⊢
  have HMword : Hid (∀ (s : ByteArray) (X : World), Calls Tryz.prog 86 #[.string s] X fun e w' => e = .returned (.agg #[.int .i64 9, .string s, .int .i64 0, .int .i64 0, .int .i64 0, .int .i64 0, .bool false]) ∧ Below X.heap.size X w') := word_c
  have HMsign : Hid (∀ (s : ByteArray) (X : World), Calls Tryz.prog 88 #[.string s] X fun e w' => e = .returned (.agg #[.int .i64 10, .string s, .int .i64 0, .int .i64 0, .int .i64 0, .int .i64 0, .bool false]) ∧ Below X.heap.size X w') := sign_c
  clear h hK hS hc hl hc1 hc2 hL hn hnV hSV hfV hBx hl0
  go_enter Tryz.func94, Tryz.ntmps94
  go_wp2
  go_loopw [11] (fun i wr => ∃ (k : Nat) (v1 : Value), k ≤ L ∧ i = .int .i64 k ∧ Hid (TSt B bl T (c + ((l.take k).map kF).sum) wr v1 (ts ++ (l.take k).flatMap outF)) ∧ Hid (TFr T bl V wr v v1)) (fun i _ => L - (intOf i).toNat)
  case atStart => exact ⟨0, v, Nat.zero_le _, rfl, by show TSt _ _ _ _ _ _ _; simpa using HS.out, TFr.refl _ _ _ _⟩
  case round =>
    obtain ⟨k, v1, hk, rfl, hS1, hF1⟩ := hrel
    by_cases hlt : k < L
    · have hkL : k < l.length := by rw [HL.out]; exact hlt
      have hki : (k : Int) < (L : Int) := by omega
      have hBw : Below B V wr := hF1.out.below HS.out
      obtain ⟨g, off, rfl, hg, hKA⟩ := (HK.out.below hBw).at k hkL
      obtain ⟨o2, cap2, k0, k1, k2, k3, k4, hNk⟩ := kid_in (hKA.get l g off k hkL)
      have hgr : g < wr.heap.size := by have := hS1.out.lt; have := hS1.out.1; omega
      have hA : ∀ ob : Obj, Below wr.heap.size wr (wr.alloc ob) := fun ob => (Below.refl _ _).alloc (Nat.le_refl _) _
      have hst := sum_take kF l k hkL
      have hsl := sum_take_le kF l (k + 1)
      have hft := flat_take outF l k hkL
      have hfl := flat_take_le outF l (k + 1)
      have hcs : c + ((l.take k).map kF).sum + kF l[k] ≤ 4611686018427387904 := by have := HC.out; omega
      have hlen : (ts ++ (l.take k).flatMap outF).length + (outF l[k]).length ≤ 1000000000 := by
        have h3 := Hl.out
        rw [hft] at hfl
        simp only [List.length_append] at hfl ⊢
        omega
      have hE1 : c + ((l.take (k + 1)).map kF).sum = c + ((l.take k).map kF).sum + kF l[k] := by omega
      have hE2 : ts ++ (l.take (k + 1)).flatMap outF = (ts ++ (l.take k).flatMap outF) ++ outF l[k] := by rw [hft, List.append_assoc]
      have hh := HH.out l[k] (List.getElem_mem hkL)
      have HNx : Hid (∀ (cc : Nat) (tt : List TkT) (W' : World) (v' : Value), cc = c + ((l.take k).map kF).sum + kF l[k] → tt = (ts ++ (l.take k).flatMap outF) ++ outF l[k] → TSt B bl T cc W' v' tt → TFr T bl V W' v v' → ∃ (k' : Nat) (v2 : Value), k' = k + 1 ∧ k' ≤ L ∧ v2 = v' ∧ Hid (TSt B bl T (c + ((l.take (k + 1)).map kF).sum) W' v2 (ts ++ (l.take (k + 1)).flatMap outF)) ∧ Hid (TFr T bl V W' v v2)) := by
        intro cc tt W' v' e1 e2 s f
        refine ⟨k + 1, v', rfl, by omega, rfl, ?_, f⟩
        show TSt _ _ _ _ _ _ _
        rw [hE1, hE2, ← e1, ← e2]; exact s
      have HNk : Hid (NdIn wr B l[k] o2 cap2) := hNk
      have HBs : Hid (∀ X, TSt B bl T (c + ((l.take k).map kF).sum) X v1 (ts ++ (l.take k).flatMap outF) → B ≤ X.heap.size) := fun X h => by have := h.lt; have := h.1; omega
      generalize l[k] = nd at k0 k1 k2 k3 k4 hh hcs hlen HNx HNk
      generalize c + ((l.take k).map kF).sum = cs at hS1 hcs HNx HBs
      generalize ts ++ (l.take k).flatMap outF = tss at hS1 hlen HNx HBs
      have hA2 : Hid (∀ ob : Obj, Below wr.heap.size wr (wr.alloc ob)) := hA
      have Hcs : Hid (cs + kF nd ≤ 4611686018427387904) := hcs
      have Hln : Hid (tss.length + (outF nd).length ≤ 1000000000) := hlen
      clear hBw hKA hNk hA hst hsl hft hfl hkL hE1 hE2 hcs hlen
      by_cases h9 : nd.kind = 9
      · have hh1 : Hid (SignOK B bl T 95 nd sg (outF nd) (kF nd)) := hh.1 h9
        have HCk : Hid (∀ ob : Obj, Calls Tryz.prog 95 #[.pointer (some ⟨T, 0, none⟩), .agg #[.int .i64 nd.kind, .string (bs nd.name), .int .i64 nd.num, .slice o2 nd.kids.length cap2, .int .i64 nd.pos], .string sg] (wr.alloc ob) fun e W' => e = .returned (.tuple #[]) ∧ ∃ v', TSt B bl T (cs + kF nd) W' v' (tss ++ outF nd) ∧ TFr T bl (wr.alloc ob) W' v1 v') := fun ob => hh1.out tss v1 cs (wr.alloc ob) o2 cap2 (HNk.out.below ((hA2.out ob).mono (HBs.out _ hS1.out))) (hS1.out.below (hA2.out ob)) Hcs.out Hln.out
        rw [h9] at k0 HCk
        clear hh hh1
        go_wp2_with (go_at_call 95; fail)
        refine (HCk.out _).mono ?_
        rintro e w2 ⟨rfl, v2, s2, f2⟩
        obtain ⟨k', v3, rfl, hk', rfl, S3, F3⟩ := HNx.out _ _ w2 v2 rfl rfl s2 ((hF1.out.trans (tfr_below (hA2.out _) v1)).trans f2)
        clear s2 f2 HCk k0 k1 k2 k3 k4 HNx
        go_wp2
        go_roundw
        case rel => exact ⟨k + 1, v3, by omega, by go_num, S3, F3⟩
        case measure => simp [intOf]; omega
      by_cases h10 : nd.kind = 10
      · obtain ⟨oo, hoo, hh1⟩ := hh.2.1 h10
        have HH1 : Hid (TellOK B bl T 23 nd oo (kF nd)) := hh1
        have Hoo : Hid (outF nd = whT :: oo) := hoo
        have Hln2 : Hid (tss.length + 1 + oo.length ≤ 1000000000) := by have := Hln.out; rw [hoo] at this; show _ ≤ _; simp only [List.length_cons] at this; omega
        have Hgr : Hid (g < wr.heap.size) := hgr
        have HBlk : Hid (Blk (wr.alloc (.cells #[.int .i64 10, .string (bs nd.name), .int .i64 nd.num, .slice o2 nd.kids.length cap2, .int .i64 nd.pos] 24)) wr.heap.size #[.int .i64 10, .string (bs nd.name), .int .i64 nd.num, .slice o2 nd.kids.length cap2, .int .i64 nd.pos] 24) := Blk.new _ _ _
        have Hxx : Hid (T < wr.heap.size ∧ bl < wr.heap.size ∧ v1.ownBlock ≠ some wr.heap.size) := ⟨hS1.out.lt, by have := hS1.out.lt; have := hS1.out.1; omega, fun e => by have := (hS1.out.row_lt _ e).2; omega⟩
        have h9b : (nd.kind == 9) = false := beq_eq_false_iff_ne.2 h9
        have H10 : Hid (nd.kind = 10) := h10
        rw [h10] at k0
        clear h10 h9 h9b
        clear hh hh1 hoo Hln
        go_wp2_with (go_at_call 86; fail)
        refine (HMword.out _ _).mono ?_
        rintro e wm ⟨rfl, hbm⟩
        have hsz : wr.heap.size + 1 ≤ (wr.alloc (.cells #[.int .i64 10, .string (bs nd.name), .int .i64 nd.num, .slice o2 nd.kids.length cap2, .int .i64 nd.pos] 24)).heap.size := by simp
        have Sm : Hid (TSt B bl T cs wm v1 tss) := (hS1.out.below (hA2.out _)).below hbm
        have Fm : Hid (TFr T bl V wm v v1) := (hF1.out.trans (tfr_below (hA2.out _) v1)).trans (tfr_below hbm v1)
        have Bm : Hid (Blk wm wr.heap.size #[.int .i64 10, .string (bs nd.name), .int .i64 nd.num, .slice o2 nd.kids.length cap2, .int .i64 nd.pos] 24) := HBlk.out.below hbm
        have HP : Hid (Calls Tryz.prog 85 #[.pointer (some ⟨T, 0, none⟩), .slice (some ⟨wm.heap.size, 0, none⟩) 1 1] (wm.alloc (.cells #[.int .i64 9, .string ⟨#[119, 104, 101, 114, 101]⟩, .int .i64 0, .int .i64 0, .int .i64 0, .int .i64 0, .bool false] 39)) fun e W' => e = .returned (.tuple #[]) ∧ ∃ v'', TSt B bl T cs W' v'' (tss ++ [whT]) ∧ TFr T bl wm W' v1 v'') := put1_c B bl T cs _ v1 9 ⟨#[119, 104, 101, 114, 101]⟩ 0 wm Sm.out (by have := Hln2.out; omega)
        have Nm : Hid (NdIn wm B nd o2 cap2) := (HNk.out.below ((hA2.out _).mono (HBs.out _ hS1.out))).below (hbm.mono (by have := HBs.out _ hS1.out; simp; omega))
        clear hbm HBlk hsz
        go_wp2_with (go_at_call 85; fail)
        refine HP.out.mono ?_
        rintro e wp ⟨rfl, vp, sp, fp⟩
        have Bp : Hid (Blk wp wr.heap.size #[.int .i64 10, .string (bs nd.name), .int .i64 nd.num, .slice o2 nd.kids.length cap2, .int .i64 nd.pos] 24) := Bm.out.tfr fp (by have := Hxx.out.1; omega) (by have := Hxx.out.2.1; omega) Hxx.out.2.2
        have Fp : Hid (TFr T bl V wp v vp) := Fm.out.trans fp
        have Np : Hid (NdIn wp B nd o2 cap2) := Nm.out.below (fp.below Sm.out)
        have HCk : Hid (Calls Tryz.prog 23 #[.pointer (some ⟨T, 0, none⟩), .agg #[.int .i64 10, .string (bs nd.name), .int .i64 nd.num, .slice o2 nd.kids.length cap2, .int .i64 nd.pos]] wp fun e W' => e = .returned (.tuple #[]) ∧ ∃ v', TSt B bl T (cs + kF nd) W' v' ((tss ++ [whT]) ++ oo) ∧ TFr T bl wp W' vp v') := by rw [← H10.out]; exact HH1.out _ vp cs wp o2 cap2 Np.out sp Hcs.out (by have := Hln2.out; simp only [List.length_append, List.length_cons, List.length_nil]; omega)
        have d0 : wp.cell? ⟨wr.heap.size, 0, none⟩ = some (.int .i64 10) := Bp.out.cell 0 _ rfl
        have d1 : wp.cell? ⟨wr.heap.size, 1, none⟩ = some (.string (bs nd.name)) := Bp.out.cell 1 _ rfl
        have d2 : wp.cell? ⟨wr.heap.size, 2, none⟩ = some (.int .i64 nd.num) := Bp.out.cell 2 _ rfl
        have d3 : wp.cell? ⟨wr.heap.size, 3, none⟩ = some (.slice o2 nd.kids.length cap2) := Bp.out.cell 3 _ rfl
        have d4 : wp.cell? ⟨wr.heap.size, 4, none⟩ = some (.int .i64 nd.pos) := Bp.out.cell 4 _ rfl
        have hlp := Bp.out.lt
        clear sp fp HP Bm Nm Sm Fm k0 k1 k2 k3 k4
        go_wp2_with (go_at_call 23; fail)
        refine HCk.out.mono ?_
        rintro e w2 ⟨rfl, v2, s2, f2⟩
        obtain ⟨k', v3, rfl, hk', rfl, S3, F3⟩ := HNx.out _ _ w2 v2 rfl (by rw [Hoo.out]; simp) s2 (Fp.out.trans f2)
        clear s2 f2 HCk HNx d0 d1 d2 d3 d4 hlp Bp Np Fp
        go_wp2
        go_roundw
        case rel => exact ⟨k + 1, v3, by omega, by go_num, S3, F3⟩
        case measure => simp [intOf]; omega
      · obtain ⟨oo, hoo, hh1⟩ := hh.2.2 h9 h10
        have HH1 : Hid (TellOK B bl T 23 nd oo (kF nd)) := hh1
        have Hoo : Hid (outF nd = sgT sg :: oo) := hoo
        have Hln2 : Hid (tss.length + 1 + oo.length ≤ 1000000000) := by have := Hln.out; rw [hoo] at this; show _ ≤ _; simp only [List.length_cons] at this; omega
        have Hgr : Hid (g < wr.heap.size) := hgr
        have HBlk : Hid (Blk (wr.alloc (.cells #[.int .i64 nd.kind, .string (bs nd.name), .int .i64 nd.num, .slice o2 nd.kids.length cap2, .int .i64 nd.pos] 24)) wr.heap.size #[.int .i64 nd.kind, .string (bs nd.name), .int .i64 nd.num, .slice o2 nd.kids.length cap2, .int .i64 nd.pos] 24) := Blk.new _ _ _
        have Hxx : Hid (T < wr.heap.size ∧ bl < wr.heap.size ∧ v1.ownBlock ≠ some wr.heap.size) := ⟨hS1.out.lt, by have := hS1.out.lt; have := hS1.out.1; omega, fun e => by have := (hS1.out.row_lt _ e).2; omega⟩
        have h9b : (nd.kind == 9) = false := beq_eq_false_iff_ne.2 h9
        have h10b : (nd.kind == 10) = false := beq_eq_false_iff_ne.2 h10
        clear h9 h10
        clear hh hh1 hoo Hln
        go_wp2_with (go_at_call 88; fail)
        refine (HMsign.out _ _).mono ?_
        rintro e wm ⟨rfl, hbm⟩
        have hsz : wr.heap.size + 1 ≤ (wr.alloc (.cells #[.int .i64 nd.kind, .string (bs nd.name), .int .i64 nd.num, .slice o2 nd.kids.length cap2, .int .i64 nd.pos] 24)).heap.size := by simp
        have Sm : Hid (TSt B bl T cs wm v1 tss) := (hS1.out.below (hA2.out _)).below hbm
        have Fm : Hid (TFr T bl V wm v v1) := (hF1.out.trans (tfr_below (hA2.out _) v1)).trans (tfr_below hbm v1)
        have Bm : Hid (Blk wm wr.heap.size #[.int .i64 nd.kind, .string (bs nd.name), .int .i64 nd.num, .slice o2 nd.kids.length cap2, .int .i64 nd.pos] 24) := HBlk.out.below hbm
        have HP : Hid (Calls Tryz.prog 85 #[.pointer (some ⟨T, 0, none⟩), .slice (some ⟨wm.heap.size, 0, none⟩) 1 1] (wm.alloc (.cells #[.int .i64 10, .string sg, .int .i64 0, .int .i64 0, .int .i64 0, .int .i64 0, .bool false] 39)) fun e W' => e = .returned (.tuple #[]) ∧ ∃ v'', TSt B bl T cs W' v'' (tss ++ [sgT sg]) ∧ TFr T bl wm W' v1 v'') := put1_c B bl T cs _ v1 10 sg 0 wm Sm.out (by have := Hln2.out; omega)
        have Nm : Hid (NdIn wm B nd o2 cap2) := (HNk.out.below ((hA2.out _).mono (HBs.out _ hS1.out))).below (hbm.mono (by have := HBs.out _ hS1.out; simp; omega))
        clear hbm HBlk hsz
        go_wp2_with (go_at_call 85; fail)
        refine HP.out.mono ?_
        rintro e wp ⟨rfl, vp, sp, fp⟩
        have Bp : Hid (Blk wp wr.heap.size #[.int .i64 nd.kind, .string (bs nd.name), .int .i64 nd.num, .slice o2 nd.kids.length cap2, .int .i64 nd.pos] 24) := Bm.out.tfr fp (by have := Hxx.out.1; omega) (by have := Hxx.out.2.1; omega) Hxx.out.2.2
        have Fp : Hid (TFr T bl V wp v vp) := Fm.out.trans fp
        have Np : Hid (NdIn wp B nd o2 cap2) := Nm.out.below (fp.below Sm.out)
        have HCk : Hid (Calls Tryz.prog 23 #[.pointer (some ⟨T, 0, none⟩), .agg #[.int .i64 nd.kind, .string (bs nd.name), .int .i64 nd.num, .slice o2 nd.kids.length cap2, .int .i64 nd.pos]] wp fun e W' => e = .returned (.tuple #[]) ∧ ∃ v', TSt B bl T (cs + kF nd) W' v' ((tss ++ [sgT sg]) ++ oo) ∧ TFr T bl wp W' vp v') := HH1.out _ vp cs wp o2 cap2 Np.out sp Hcs.out (by have := Hln2.out; simp only [List.length_append, List.length_cons, List.length_nil]; omega)
        have d0 : wp.cell? ⟨wr.heap.size, 0, none⟩ = some (.int .i64 nd.kind) := Bp.out.cell 0 _ rfl
        have d1 : wp.cell? ⟨wr.heap.size, 1, none⟩ = some (.string (bs nd.name)) := Bp.out.cell 1 _ rfl
        have d2 : wp.cell? ⟨wr.heap.size, 2, none⟩ = some (.int .i64 nd.num) := Bp.out.cell 2 _ rfl
        have d3 : wp.cell? ⟨wr.heap.size, 3, none⟩ = some (.slice o2 nd.kids.length cap2) := Bp.out.cell 3 _ rfl
        have d4 : wp.cell? ⟨wr.heap.size, 4, none⟩ = some (.int .i64 nd.pos) := Bp.out.cell 4 _ rfl
        have hlp := Bp.out.lt
        clear sp fp HP Bm Nm Sm Fm k0 k1 k2 k3 k4
        go_wp2_with (go_at_call 23; fail)
        refine HCk.out.mono ?_
        rintro e w2 ⟨rfl, v2, s2, f2⟩
        obtain ⟨k', v3, rfl, hk', rfl, S3, F3⟩ := HNx.out _ _ w2 v2 rfl (by rw [Hoo.out]; simp) s2 (Fp.out.trans f2)
        clear s2 f2 HCk HNx d0 d1 d2 d3 d4 hlp Bp Np Fp
        go_wp2
        go_roundw
        case rel => exact ⟨k + 1, v3, by omega, by go_num, S3, F3⟩
        case measure => simp [intOf]; omega
    · obtain rfl : k = L := by omega
      have SF : Hid (TSt B bl T (c + (l.map kF).sum) wr v1 (ts ++ l.flatMap outF)) := by
        have h1 := hS1.out
        rw [List.take_of_length_le (by rw [HL.out]; exact Nat.le_refl _)] at h1
        exact h1
      have FF : Hid (TFr T bl w wr v v1) := HF.out.trans hF1.out
      go_wp2
      go_end0
      exact ⟨rfl, v1, SF.out, FF.out⟩

end Go.Proofs.YtndpebkiiemfpaaGreatDoor

namespace Go.Proofs.YtndpebkiiemfpaaGreatDoor
open Go.RowKit Go.Shelf Go.Maps
set_option linter.unusedVariables false
set_option linter.unusedSimpArgs false

/-- Function f tells a text so. -/
def StrOK (B bl T f : Nat) (s : ByteArray) (out : List TkT) (k : Nat) : Prop := ∀ (ts : List TkT) (v : Value) (c : Nat) (w : World), TSt B bl T c w v ts → c + k ≤ 4611686018427387904 → ts.length + out.length ≤ 1000000000 →
  Calls Tryz.prog f #[.pointer (some ⟨T, 0, none⟩), .string s] w fun e W' => e = .returned (.tuple #[]) ∧ ∃ v', TSt B bl T (c + k) W' v' (ts ++ out) ∧ TFr T bl w W' v v'
theorem nameOK {B bl T : Nat} {s : ByteArray} (hs : s.size ≤ 9223372036854775807) (hsym : isSymB (lkM s) = false) : StrOK B bl T 87 s (nmT s) 1 := fun ts v c w h hc hl => name_t B bl T c ts v s hs hsym (by omega) w h hl
theorem operatorOK {B bl T : Nat} {s : ByteArray} (hs : s.size ≤ 9223372036854775807) (hsym : isSymB (lkM s) = true) : StrOK B bl T 92 s (nmT s) 1 := fun ts v c w h hc hl => operator_t B bl T c ts v s hs hsym (by omega) w h hl
set_option maxRecDepth 100000 in
set_option maxHeartbeats 4000000 in
theorem declEqn {B bl T : Nat} {n : Nd} (hk : n.kind = 6) {ini : List Nd} {z : Nd} (hkids : n.kids = ini ++ [z]) {o0 : List TkT} {u0 : Nat} (h0 : StrOK B bl T 87 (bs n.name) o0 u0) {o1 : List TkT} {u1 : Nat} (h1 : ListOK B bl T 93 ini o1 u1) {o2 : List TkT} {u2 : Nat} (h2 : SignOK B bl T 94 z ⟨#[61]⟩ o2 u2) : TellOK B bl T 45 n (o0 ++ o1 ++ o2) (u0 + u1 + u2) := by
  intro ts v c w o cap hn hS hc hl
  obtain ⟨V, hV, hnV, hSV, hfV, hBx, hx1, hx2, hx3, hx4⟩ := boxed hn hS
  have c0 : V.cell? ⟨w.heap.size, 0, none⟩ = some (.int .i64 n.kind) := hBx.cell 0 _ rfl
  have c1 : V.cell? ⟨w.heap.size, 1, none⟩ = some (.string (bs n.name)) := hBx.cell 1 _ rfl
  have c2 : V.cell? ⟨w.heap.size, 2, none⟩ = some (.int .i64 n.num) := hBx.cell 2 _ rfl
  have c3 : V.cell? ⟨w.heap.size, 3, none⟩ = some (.slice o n.kids.length cap) := hBx.cell 3 _ rfl
  have c4 : V.cell? ⟨w.heap.size, 4, none⟩ = some (.int .i64 n.pos) := hBx.cell 4 _ rfl
  have hlV := hBx.lt
  have HF : Hid (TFr T bl w V v v) := hfV
  have HC : Hid (c + (u0 + u1 + u2) ≤ 4611686018427387904) := hc
  have Hl : Hid (ts.length + (o0.length + o1.length + o2.length) ≤ 1000000000) := by (try simp only [List.length_append, List.length_cons, List.length_nil] at hl); show _ ≤ _; omega
  have hcap1 := hnV.2.1
  have hcap2 := hnV.2.2.1
  obtain ⟨g, off, rfl, hg, hKA⟩ := hnV.1.at 0 (by rw [hkids]; simp)
  have hgV : g < V.heap.size := by have := hSV.lt; have := hSV.1; omega
  have Hg : Hid (g < B) := hg
  have HgV : Hid (g < V.heap.size) := hgV
  obtain ⟨m, hm⟩ : ∃ m, ini.length = m := ⟨_, rfl⟩
  have hLn : n.kids.length = m + 1 := by rw [hkids, List.length_append, hm]; rfl
  have HNz : Hid (NdAt V B z g (off + m * 5)) := by
    have := hKA.get _ g off m (by rw [hLn]; omega)
    have e : n.kids[m]'(by rw [hLn]; omega) = z := by simp only [hkids]; rw [List.getElem_append_right (by omega)]; simp [hm]
    rw [e] at this; exact this
  have HKi : Hid (KidsAt V B ini g off) := by
    have := hKA.take m
    have e : n.kids.take m = ini := by rw [hkids, ← hm]; simp
    rw [e] at this; exact this
  have Hm : Hid (ini.length = m) := hm
  have hmi : (m : Int) + 1 ≤ 9223372036854775807 := by rw [hLn] at hcap1; omega
  have Hcap : Hid (m + 1 ≤ cap ∧ cap ≤ 9223372036854775807) := ⟨by rw [← hLn]; exact hcap1, hcap2⟩
  have hmc : (m : Int) ≤ (cap : Int) := by have := Hcap.out.1; omega
  have hmL : (m : Int) < ((m + 1 : Nat) : Int) := by omega
  have hm0 : ¬ (m : Int) < 0 := by omega
  rw [hLn] at c3 hV hBx ⊢
  clear hm hLn hcap1 hcap2
  clear hkids hKA hg
  have S0 : Hid (TSt B bl T (c + 0) V v ts) := hSV
  have HSV : Hid (TSt B bl T c V v ts) := hSV
  have F0 : Hid (TFr T bl V V v v) := TFr.refl _ _ _ _
  have HBx : Hid (Blk V w.heap.size #[.int .i64 n.kind, .string (bs n.name), .int .i64 n.num, .slice (some ⟨g, off, none⟩) (m + 1) cap, .int .i64 n.pos] 24) := hBx
  have Hx : Hid (w.heap.size ≠ T ∧ w.heap.size ≠ bl ∧ v.ownBlock ≠ some w.heap.size) := ⟨hx1, hx2, hx3⟩
  have HNV : Hid (NdIn V B n (some ⟨g, off, none⟩) cap) := hnV
  have HH0 : Hid (StrOK B bl T 87 (bs n.name) o0 u0) := h0
  clear h0
  have HH1 : Hid (ListOK B bl T 93 ini o1 u1) := h1
  clear h1
  have HH2 : Hid (SignOK B bl T 94 z ⟨#[61]⟩ o2 u2) := h2
  clear h2
  have Hk : Hid (n.kind = 6) := hk
  rw [hk] at c0 hV ⊢
  clear hn hS hc hl hnV hSV hfV hBx hx1 hx2 hx3 hk
  go_enter Tryz.func45, Tryz.ntmps45
  have HC1 : Hid (Calls Tryz.prog 87 #[.pointer (some ⟨T, 0, none⟩), .string (bs n.name)] V fun e W' => e = .returned (.tuple #[]) ∧ ∃ v', TSt B bl T (c + 0 + u0) W' v' ((ts) ++ o0) ∧ TFr T bl V W' v v') := HH0.out (ts) v (c + 0) V S0.out (by have := HC.out; omega) (by have := Hl.out; omega)
  go_wp2_with (go_at_call 87; fail)
  refine HC1.out.mono ?_
  rintro e w1 ⟨rfl, v1, s1, f1⟩
  have S1 : Hid (TSt B bl T (c + 0 + u0) w1 v1 ((ts) ++ o0)) := s1
  have F1 : Hid (TFr T bl V w1 v v1) := F0.out.trans f1
  clear s1 f1 HC1 S0 F0 
  clear c0 c1 c2 c3 c4 hlV
  have hBB2 : Below B V w1 := F1.out.below HSV.out
  have HC2 : Hid (Calls Tryz.prog 93 #[.pointer (some ⟨T, 0, none⟩), .slice (some ⟨g, off, none⟩) m cap] w1 fun e W' => e = .returned (.tuple #[]) ∧ ∃ v', TSt B bl T (c + 0 + u0 + u1) W' v' (((ts) ++ o0) ++ o1) ∧ TFr T bl w1 W' v1 v') := by
    have hh := HH1.out ((ts) ++ o0) v1 (c + 0 + u0) w1 (some ⟨g, off, none⟩) cap (.inr ⟨g, off, rfl, Hg.out, KidsAt.below hBB2 ini g off Hg.out HKi.out⟩) (by rw [Hm.out]; have := Hcap.out.1; omega) Hcap.out.2 S1.out (by have := HC.out; omega) (by have := Hl.out; simp only [List.length_append, List.length_cons, List.length_nil]; omega)
    rw [Hm.out] at hh; exact hh
  clear hBB2
  go_wp2_with (go_at_call 93; fail)
  refine HC2.out.mono ?_
  rintro e w2 ⟨rfl, v2, s2, f2⟩
  have S2 : Hid (TSt B bl T (c + 0 + u0 + u1) w2 v2 (((ts) ++ o0) ++ o1)) := s2
  have F2 : Hid (TFr T bl V w2 v v2) := F1.out.trans f2
  clear s2 f2 HC2 S1 F1 
  have hBB3 : Below B V w2 := F2.out.below HSV.out
  obtain ⟨o_z, cap_z, k0, k1, k2, k3, k4, hNk⟩ := kid_in (NdAt.below hBB3 z g (off + m * 5) Hg.out HNz.out)
  have HC3 : Hid (Calls Tryz.prog 94 #[.pointer (some ⟨T, 0, none⟩), .agg #[.int .i64 z.kind, .string (bs z.name), .int .i64 z.num, .slice o_z z.kids.length cap_z, .int .i64 z.pos], .string ⟨#[61]⟩] w2 fun e W' => e = .returned (.tuple #[]) ∧ ∃ v', TSt B bl T (c + 0 + u0 + u1 + u2) W' v' ((((ts) ++ o0) ++ o1) ++ o2) ∧ TFr T bl w2 W' v2 v') := HH2.out (((ts) ++ o0) ++ o1) v2 (c + 0 + u0 + u1) w2 o_z cap_z hNk S2.out (by have := HC.out; omega) (by have := Hl.out; simp only [List.length_append, List.length_cons, List.length_nil]; omega)
  have hgr : g < w2.heap.size := Nat.lt_of_lt_of_le HgV.out hBB3.size
  clear hBB3 hNk
  go_wp2_with (go_at_call 94; fail)
  refine HC3.out.mono ?_
  rintro e w3 ⟨rfl, v3, s3, f3⟩
  have S3 : Hid (TSt B bl T (c + 0 + u0 + u1 + u2) w3 v3 ((((ts) ++ o0) ++ o1) ++ o2)) := s3
  have F3 : Hid (TFr T bl V w3 v v3) := F2.out.trans f3
  clear s3 f3 HC3 S2 F2 k0 k1 k2 k3 k4 hgr
  have H3 : TSt B bl T (c + (u0 + u1 + u2)) w3 v3 (ts ++ (o0 ++ o1 ++ o2)) := by
    have h := S3.out
    simp only [Nat.add_zero, Nat.add_assoc, List.append_assoc] at h ⊢
    exact h
  have H3' : Hid (TSt B bl T (c + (u0 + u1 + u2)) w3 v3 (ts ++ (o0 ++ o1 ++ o2))) := H3
  have FE : Hid (TFr T bl w w3 v v3) := HF.out.trans F3.out
  clear H3 S3 F3
  go_wp2
  first
    | (go_end0; exact ⟨rfl, v3, H3'.out, FE.out⟩)
    | exact bodyPost_ret (v := .tuple #[]) (by simp [results, Tryz.results45, go_sem]) rfl ⟨rfl, v3, H3'.out, FE.out⟩
set_option maxRecDepth 100000 in
set_option maxHeartbeats 4000000 in
theorem conLam {B bl T : Nat} {n : Nd} (hk : n.kind = 19) {ini : List Nd} {z : Nd} (hkids : n.kids = ini ++ [z]) {o1 : List TkT} {u1 : Nat} (h1 : ListOK B bl T 93 ini o1 u1) {o3 : List TkT} {u3 : Nat} (h3 : TellOK B bl T 23 z o3 u3) : TellOK B bl T 100 n ([sgT ⟨#[92]⟩] ++ o1 ++ [sgT ⟨#[45, 62]⟩] ++ o3) (u1 + u3) := by
  intro ts v c w o cap hn hS hc hl
  obtain ⟨V, hV, hnV, hSV, hfV, hBx, hx1, hx2, hx3, hx4⟩ := boxed hn hS
  have c0 : V.cell? ⟨w.heap.size, 0, none⟩ = some (.int .i64 n.kind) := hBx.cell 0 _ rfl
  have c1 : V.cell? ⟨w.heap.size, 1, none⟩ = some (.string (bs n.name)) := hBx.cell 1 _ rfl
  have c2 : V.cell? ⟨w.heap.size, 2, none⟩ = some (.int .i64 n.num) := hBx.cell 2 _ rfl
  have c3 : V.cell? ⟨w.heap.size, 3, none⟩ = some (.slice o n.kids.length cap) := hBx.cell 3 _ rfl
  have c4 : V.cell? ⟨w.heap.size, 4, none⟩ = some (.int .i64 n.pos) := hBx.cell 4 _ rfl
  have hlV := hBx.lt
  have HF : Hid (TFr T bl w V v v) := hfV
  have HC : Hid (c + (u1 + u3) ≤ 4611686018427387904) := hc
  have Hl : Hid (ts.length + (1 + o1.length + 1 + o3.length) ≤ 1000000000) := by (try simp only [List.length_append, List.length_cons, List.length_nil] at hl); show _ ≤ _; omega
  have hcap1 := hnV.2.1
  have hcap2 := hnV.2.2.1
  obtain ⟨g, off, rfl, hg, hKA⟩ := hnV.1.at 0 (by rw [hkids]; simp)
  have hgV : g < V.heap.size := by have := hSV.lt; have := hSV.1; omega
  have Hg : Hid (g < B) := hg
  have HgV : Hid (g < V.heap.size) := hgV
  obtain ⟨m, hm⟩ : ∃ m, ini.length = m := ⟨_, rfl⟩
  have hLn : n.kids.length = m + 1 := by rw [hkids, List.length_append, hm]; rfl
  have HNz : Hid (NdAt V B z g (off + m * 5)) := by
    have := hKA.get _ g off m (by rw [hLn]; omega)
    have e : n.kids[m]'(by rw [hLn]; omega) = z := by simp only [hkids]; rw [List.getElem_append_right (by omega)]; simp [hm]
    rw [e] at this; exact this
  have HKi : Hid (KidsAt V B ini g off) := by
    have := hKA.take m
    have e : n.kids.take m = ini := by rw [hkids, ← hm]; simp
    rw [e] at this; exact this
  have Hm : Hid (ini.length = m) := hm
  have hmi : (m : Int) + 1 ≤ 9223372036854775807 := by rw [hLn] at hcap1; omega
  have Hcap : Hid (m + 1 ≤ cap ∧ cap ≤ 9223372036854775807) := ⟨by rw [← hLn]; exact hcap1, hcap2⟩
  have hmc : (m : Int) ≤ (cap : Int) := by have := Hcap.out.1; omega
  have hmL : (m : Int) < ((m + 1 : Nat) : Int) := by omega
  have hm0 : ¬ (m : Int) < 0 := by omega
  rw [hLn] at c3 hV hBx ⊢
  clear hm hLn hcap1 hcap2
  clear hkids hKA hg
  have S0 : Hid (TSt B bl T (c + 0) V v ts) := hSV
  have HSV : Hid (TSt B bl T c V v ts) := hSV
  have F0 : Hid (TFr T bl V V v v) := TFr.refl _ _ _ _
  have HBx : Hid (Blk V w.heap.size #[.int .i64 n.kind, .string (bs n.name), .int .i64 n.num, .slice (some ⟨g, off, none⟩) (m + 1) cap, .int .i64 n.pos] 24) := hBx
  have Hx : Hid (w.heap.size ≠ T ∧ w.heap.size ≠ bl ∧ v.ownBlock ≠ some w.heap.size) := ⟨hx1, hx2, hx3⟩
  have HNV : Hid (NdIn V B n (some ⟨g, off, none⟩) cap) := hnV
  have HH1 : Hid (ListOK B bl T 93 ini o1 u1) := h1
  clear h1
  have HH3 : Hid (TellOK B bl T 23 z o3 u3) := h3
  clear h3
  have HMsign : Hid (∀ (s : ByteArray) (X : World), Calls Tryz.prog 88 #[.string s] X fun e w' => e = .returned (.agg #[.int .i64 10, .string s, .int .i64 0, .int .i64 0, .int .i64 0, .int .i64 0, .bool false]) ∧ Below X.heap.size X w') := sign_c
  have Hk : Hid (n.kind = 19) := hk
  rw [hk] at c0 hV ⊢
  clear hn hS hc hl hnV hSV hfV hBx hx1 hx2 hx3 hk
  go_enter Tryz.func100, Tryz.ntmps100
  go_wp2_with (go_at_call 88; fail)
  refine (HMsign.out _ _).mono ?_
  rintro e wm1 ⟨rfl, hbm1⟩
  have Sm1 : Hid (TSt B bl T (c + 0) wm1 v (ts)) := S0.out.below hbm1
  have Fm1 : Hid (TFr T bl V wm1 v v) := F0.out.trans (tfr_below hbm1 v)
  have HP1 : Hid (Calls Tryz.prog 85 #[.pointer (some ⟨T, 0, none⟩), .slice (some ⟨wm1.heap.size, 0, none⟩) 1 1] (wm1.alloc (.cells #[.int .i64 10, .string ⟨#[92]⟩, .int .i64 0, .int .i64 0, .int .i64 0, .int .i64 0, .bool false] 39)) fun e W' => e = .returned (.tuple #[]) ∧ ∃ v'', TSt B bl T (c + 0) W' v'' ((ts) ++ [sgT ⟨#[92]⟩]) ∧ TFr T bl wm1 W' v v'') := put1_c B bl T (c + 0) _ v 10 ⟨#[92]⟩ 0 wm1 Sm1.out (by have := Hl.out; omega)
  clear hbm1
  go_wp2_with (go_at_call 85; fail)
  refine HP1.out.mono ?_
  rintro e w1 ⟨rfl, v1, s1, f1⟩
  have S1 : Hid (TSt B bl T (c + 0) w1 v1 ((ts) ++ [sgT ⟨#[92]⟩])) := s1
  have F1 : Hid (TFr T bl V w1 v v1) := Fm1.out.trans f1
  clear s1 f1 HP1 Sm1 Fm1 S0 F0
  clear c0 c1 c2 c3 c4 hlV
  have hBB2 : Below B V w1 := F1.out.below HSV.out
  have HC2 : Hid (Calls Tryz.prog 93 #[.pointer (some ⟨T, 0, none⟩), .slice (some ⟨g, off, none⟩) m cap] w1 fun e W' => e = .returned (.tuple #[]) ∧ ∃ v', TSt B bl T (c + 0 + u1) W' v' (((ts) ++ [sgT ⟨#[92]⟩]) ++ o1) ∧ TFr T bl w1 W' v1 v') := by
    have hh := HH1.out ((ts) ++ [sgT ⟨#[92]⟩]) v1 (c + 0) w1 (some ⟨g, off, none⟩) cap (.inr ⟨g, off, rfl, Hg.out, KidsAt.below hBB2 ini g off Hg.out HKi.out⟩) (by rw [Hm.out]; have := Hcap.out.1; omega) Hcap.out.2 S1.out (by have := HC.out; omega) (by have := Hl.out; simp only [List.length_append, List.length_cons, List.length_nil]; omega)
    rw [Hm.out] at hh; exact hh
  clear hBB2
  go_wp2_with (go_at_call 93; fail)
  refine HC2.out.mono ?_
  rintro e w2 ⟨rfl, v2, s2, f2⟩
  have S2 : Hid (TSt B bl T (c + 0 + u1) w2 v2 (((ts) ++ [sgT ⟨#[92]⟩]) ++ o1)) := s2
  have F2 : Hid (TFr T bl V w2 v v2) := F1.out.trans f2
  clear s2 f2 HC2 S1 F1 
  go_wp2_with (go_at_call 88; fail)
  refine (HMsign.out _ _).mono ?_
  rintro e wm3 ⟨rfl, hbm3⟩
  have Sm3 : Hid (TSt B bl T (c + 0 + u1) wm3 v2 (((ts) ++ [sgT ⟨#[92]⟩]) ++ o1)) := S2.out.below hbm3
  have Fm3 : Hid (TFr T bl V wm3 v v2) := F2.out.trans (tfr_below hbm3 v2)
  have HP3 : Hid (Calls Tryz.prog 85 #[.pointer (some ⟨T, 0, none⟩), .slice (some ⟨wm3.heap.size, 0, none⟩) 1 1] (wm3.alloc (.cells #[.int .i64 10, .string ⟨#[45, 62]⟩, .int .i64 0, .int .i64 0, .int .i64 0, .int .i64 0, .bool false] 39)) fun e W' => e = .returned (.tuple #[]) ∧ ∃ v'', TSt B bl T (c + 0 + u1) W' v'' ((((ts) ++ [sgT ⟨#[92]⟩]) ++ o1) ++ [sgT ⟨#[45, 62]⟩]) ∧ TFr T bl wm3 W' v2 v'') := put1_c B bl T (c + 0 + u1) _ v2 10 ⟨#[45, 62]⟩ 0 wm3 Sm3.out (by have := Hl.out; simp only [List.length_append, List.length_cons, List.length_nil]; omega)
  clear hbm3
  go_wp2_with (go_at_call 85; fail)
  refine HP3.out.mono ?_
  rintro e w3 ⟨rfl, v3, s3, f3⟩
  have S3 : Hid (TSt B bl T (c + 0 + u1) w3 v3 ((((ts) ++ [sgT ⟨#[92]⟩]) ++ o1) ++ [sgT ⟨#[45, 62]⟩])) := s3
  have F3 : Hid (TFr T bl V w3 v v3) := Fm3.out.trans f3
  clear s3 f3 HP3 Sm3 Fm3 S2 F2
  have hBB4 : Below B V w3 := F3.out.below HSV.out
  obtain ⟨o_z, cap_z, k0, k1, k2, k3, k4, hNk⟩ := kid_in (NdAt.below hBB4 z g (off + m * 5) Hg.out HNz.out)
  have HC4 : Hid (Calls Tryz.prog 23 #[.pointer (some ⟨T, 0, none⟩), .agg #[.int .i64 z.kind, .string (bs z.name), .int .i64 z.num, .slice o_z z.kids.length cap_z, .int .i64 z.pos]] w3 fun e W' => e = .returned (.tuple #[]) ∧ ∃ v', TSt B bl T (c + 0 + u1 + u3) W' v' (((((ts) ++ [sgT ⟨#[92]⟩]) ++ o1) ++ [sgT ⟨#[45, 62]⟩]) ++ o3) ∧ TFr T bl w3 W' v3 v') := HH3.out ((((ts) ++ [sgT ⟨#[92]⟩]) ++ o1) ++ [sgT ⟨#[45, 62]⟩]) v3 (c + 0 + u1) w3 o_z cap_z hNk S3.out (by have := HC.out; omega) (by have := Hl.out; simp only [List.length_append, List.length_cons, List.length_nil]; omega)
  have hgr : g < w3.heap.size := Nat.lt_of_lt_of_le HgV.out hBB4.size
  clear hBB4 hNk
  go_wp2_with (go_at_call 23; fail)
  refine HC4.out.mono ?_
  rintro e w4 ⟨rfl, v4, s4, f4⟩
  have S4 : Hid (TSt B bl T (c + 0 + u1 + u3) w4 v4 (((((ts) ++ [sgT ⟨#[92]⟩]) ++ o1) ++ [sgT ⟨#[45, 62]⟩]) ++ o3)) := s4
  have F4 : Hid (TFr T bl V w4 v v4) := F3.out.trans f4
  clear s4 f4 HC4 S3 F3 k0 k1 k2 k3 k4 hgr
  have H3 : TSt B bl T (c + (u1 + u3)) w4 v4 (ts ++ ([sgT ⟨#[92]⟩] ++ o1 ++ [sgT ⟨#[45, 62]⟩] ++ o3)) := by
    have h := S4.out
    simp only [Nat.add_zero, Nat.add_assoc, List.append_assoc] at h ⊢
    exact h
  have H3' : Hid (TSt B bl T (c + (u1 + u3)) w4 v4 (ts ++ ([sgT ⟨#[92]⟩] ++ o1 ++ [sgT ⟨#[45, 62]⟩] ++ o3))) := H3
  have FE : Hid (TFr T bl w w4 v v4) := HF.out.trans F4.out
  clear H3 S4 F4
  go_wp2
  first
    | (go_end0; exact ⟨rfl, v4, H3'.out, FE.out⟩)
    | exact bodyPost_ret (v := .tuple #[]) (by simp [results, Tryz.results100, go_sem]) rfl ⟨rfl, v4, H3'.out, FE.out⟩
set_option maxRecDepth 100000 in
set_option maxHeartbeats 4000000 in
theorem exprLam {B bl T : Nat} {n : Nd} (hk : n.kind = 19) {o0 : List TkT} {u0 : Nat} (h0 : TellOK B bl T 100 n o0 u0) : TellOK B bl T 46 n (o0) (u0) := by
  intro ts v c w o cap hn hS hc hl
  obtain ⟨V, hV, hnV, hSV, hfV, hBx, hx1, hx2, hx3, hx4⟩ := boxed hn hS
  have c0 : V.cell? ⟨w.heap.size, 0, none⟩ = some (.int .i64 n.kind) := hBx.cell 0 _ rfl
  have c1 : V.cell? ⟨w.heap.size, 1, none⟩ = some (.string (bs n.name)) := hBx.cell 1 _ rfl
  have c2 : V.cell? ⟨w.heap.size, 2, none⟩ = some (.int .i64 n.num) := hBx.cell 2 _ rfl
  have c3 : V.cell? ⟨w.heap.size, 3, none⟩ = some (.slice o n.kids.length cap) := hBx.cell 3 _ rfl
  have c4 : V.cell? ⟨w.heap.size, 4, none⟩ = some (.int .i64 n.pos) := hBx.cell 4 _ rfl
  have hlV := hBx.lt
  have HF : Hid (TFr T bl w V v v) := hfV
  have HC : Hid (c + (u0) ≤ 4611686018427387904) := hc
  have Hl : Hid (ts.length + (o0.length) ≤ 1000000000) := by (try simp only [List.length_append, List.length_cons, List.length_nil] at hl); show _ ≤ _; omega
  have S0 : Hid (TSt B bl T (c + 0) V v ts) := hSV
  have HSV : Hid (TSt B bl T c V v ts) := hSV
  have F0 : Hid (TFr T bl V V v v) := TFr.refl _ _ _ _
  have HBx : Hid (Blk V w.heap.size #[.int .i64 n.kind, .string (bs n.name), .int .i64 n.num, .slice o n.kids.length cap, .int .i64 n.pos] 24) := hBx
  have Hx : Hid (w.heap.size ≠ T ∧ w.heap.size ≠ bl ∧ v.ownBlock ≠ some w.heap.size) := ⟨hx1, hx2, hx3⟩
  have HNV : Hid (NdIn V B n o cap) := hnV
  have HH0 : Hid (TellOK B bl T 100 n o0 u0) := h0
  clear h0
  have Hk : Hid (n.kind = 19) := hk
  rw [hk] at c0 hV ⊢
  clear hn hS hc hl hnV hSV hfV hBx hx1 hx2 hx3 hk
  go_enter Tryz.func46, Tryz.ntmps46
  have hBB1 : Below B V V := F0.out.below HSV.out
  have HC1 : Hid (Calls Tryz.prog 100 #[.pointer (some ⟨T, 0, none⟩), .agg #[.int .i64 19, .string (bs n.name), .int .i64 n.num, .slice o n.kids.length cap, .int .i64 n.pos]] V fun e W' => e = .returned (.tuple #[]) ∧ ∃ v', TSt B bl T (c + 0 + u0) W' v' ((ts) ++ o0) ∧ TFr T bl V W' v v') := by rw [← Hk.out]; exact HH0.out (ts) v (c + 0) V _ cap (HNV.out.below hBB1) S0.out (by have := HC.out; omega) (by have := Hl.out; omega)
  clear hBB1
  go_wp2_with (go_at_call 100; fail)
  refine HC1.out.mono ?_
  rintro e w1 ⟨rfl, v1, s1, f1⟩
  have S1 : Hid (TSt B bl T (c + 0 + u0) w1 v1 ((ts) ++ o0)) := s1
  have F1 : Hid (TFr T bl V w1 v v1) := F0.out.trans f1
  clear s1 f1 HC1 S0 F0 
  clear c0 c1 c2 c3 c4 hlV
  have H3 : TSt B bl T (c + (u0)) w1 v1 (ts ++ (o0)) := by
    have h := S1.out
    simp only [Nat.add_zero, Nat.add_assoc, List.append_assoc] at h ⊢
    exact h
  have H3' : Hid (TSt B bl T (c + (u0)) w1 v1 (ts ++ (o0))) := H3
  have FE : Hid (TFr T bl w w1 v v1) := HF.out.trans F1.out
  clear H3 S1 F1
  go_wp2
  first
    | (go_end0; exact ⟨rfl, v1, H3'.out, FE.out⟩)
    | exact bodyPost_ret (v := .tuple #[]) (by simp [results, Tryz.results46, go_sem]) rfl ⟨rfl, v1, H3'.out, FE.out⟩

end Go.Proofs.YtndpebkiiemfpaaGreatDoor
