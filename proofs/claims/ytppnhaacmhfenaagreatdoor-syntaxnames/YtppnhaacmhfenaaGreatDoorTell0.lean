/-
  The teller's memory: what it has told, and what stays while it tells.
-/
import Derived.Test.YtppnhaacmhfenaaGreatDoorChk
import Derived.Maps.AppendAt
namespace Go.Proofs.YtppnhaacmhfenaaGreatDoor
open Go.RowKit Go.Shelf Go.Maps
set_option linter.unusedVariables false

/-- A token without a place. -/
structure TkT where
  kind : Int
  text : List UInt8
  num : Int
def tC (t : TkT) : List Value := [.int .i64 t.kind, .string (bs t.text), .int .i64 t.num, .int .i64 0, .int .i64 0, .int .i64 0, .bool false]
def tV (t : TkT) : Value := .agg #[.int .i64 t.kind, .string (bs t.text), .int .i64 t.num, .int .i64 0, .int .i64 0, .int .i64 0, .bool false]
theorem tC_flat_len : ∀ ts : List TkT, (ts.flatMap tC).length = ts.length * 7
  | [] => rfl
  | t :: ts => by rw [List.flatMap_cons, List.length_append, tC_flat_len ts, List.length_cons]; show 7 + _ = _; omega
theorem tC_one (ts : List TkT) : ∀ u ∈ ts.flatMap tC, u.oneCell' = true := by
  intro u hu
  obtain ⟨t, ht, hu⟩ := List.mem_flatMap.1 hu
  unfold tC at hu
  simp only [List.mem_cons, List.not_mem_nil, or_false] at hu
  rcases hu with rfl | rfl | rfl | rfl | rfl | rfl | rfl <;> rfl

/-- The teller at block T, its names at bl, its tokens in the row v. -/
def TSt (B bl T c : Nat) (W : World) (v : Value) (ts : List TkT) : Prop := (B ≤ bl ∧ bl < T ∧ 6 ≤ bl) ∧ GOK W ∧ LexSt W bl c ∧ Blk W T #[.map (some bl), v] 69 ∧ W.ownsRow (T + 1) 43 7 v ts.length (ts.flatMap tC)
/-- What stays while the teller tells. -/
structure TFr (T bl : Nat) (W W' : World) (v v' : Value) : Prop where
  os : W'.os = W.os
  tape : W'.tape = W.tape
  output : W'.output = W.output
  size : W.heap.size ≤ W'.heap.size
  block : ∀ k, k < W.heap.size → k ≠ T → k ≠ bl → v.ownBlock ≠ some k → W'.heap[k]? = W.heap[k]?
  row : v'.ownBlock = v.ownBlock ∨ ∃ g, v'.ownBlock = some g ∧ W.heap.size ≤ g
theorem TFr.refl (T bl : Nat) (W : World) (v : Value) : TFr T bl W W v v := ⟨rfl, rfl, rfl, Nat.le_refl _, fun _ _ _ _ _ => rfl, .inl rfl⟩
theorem TFr.trans {T bl : Nat} {W W1 W2 : World} {v v1 v2 : Value} (h : TFr T bl W W1 v v1) (k : TFr T bl W1 W2 v1 v2) : TFr T bl W W2 v v2 := by
  refine ⟨k.os.trans h.os, k.tape.trans h.tape, k.output.trans h.output, Nat.le_trans h.size k.size, fun j hj h1 h2 h3 => ?_, ?_⟩
  · rw [k.block j (Nat.lt_of_lt_of_le hj h.size) h1 h2 ?_, h.block j hj h1 h2 h3]
    rcases h.row with e | ⟨g, e, hg⟩
    · rw [e]; exact h3
    · rw [e]; intro h; cases h; omega
  · rcases k.row with e | ⟨g, e, hg⟩
    · rcases h.row with e' | ⟨g, e', hg⟩
      · exact .inl (e.trans e')
      · exact .inr ⟨g, e.trans e', hg⟩
    · exact .inr ⟨g, e, Nat.le_trans h.size hg⟩
theorem tfr_below {T bl : Nat} {W W' : World} (h : Below W.heap.size W W') (v : Value) : TFr T bl W W' v v := ⟨h.os, h.tape, h.output, h.size, fun k hk _ _ _ => h.block k hk, .inl rfl⟩
theorem tfr_but {T bl : Nat} {W W' : World} (h : But bl W W') (v : Value) : TFr T bl W W' v v := ⟨h.os, h.tape, h.output, h.size, fun k hk _ hne _ => h.block k hk hne, .inl rfl⟩
theorem Blk.tfr {T bl X : Nat} {W W' : World} {v v' : Value} {vs : Array Value} {ty : TypeId} (h : Blk W X vs ty) (hf : TFr T bl W W' v v') (h1 : X ≠ T) (h2 : X ≠ bl) (h3 : v.ownBlock ≠ some X) : Blk W' X vs ty := by
  unfold Blk; rw [hf.block X h.lt h1 h2 h3]; exact h
theorem owns_blk {W W' : World} {b e z n : Nat} {v : Value} {xs : List Value} (h : W.ownsRow b e z v n xs) (hb : ∀ g, v.ownBlock = some g → W'.heap[g]? = W.heap[g]?) : W'.ownsRow b e z v n xs := by
  rcases h with ⟨hl, h | ⟨g, cap, cur, h1, h2, h3, h4⟩⟩
  · exact ⟨hl, .inl h⟩
  · exact ⟨hl, .inr ⟨g, cap, cur, h1, h2, by rw [hb g (by rw [h1]; rfl)]; exact h3, h4⟩⟩
theorem TSt.row_lt {B bl T c : Nat} {W : World} {v : Value} {ts : List TkT} (h : TSt B bl T c W v ts) (g : Nat) (hg : v.ownBlock = some g) : T + 1 ≤ g ∧ g < W.heap.size := h.2.2.2.2.lt g hg
theorem TSt.lt {B bl T c : Nat} {W : World} {v : Value} {ts : List TkT} (h : TSt B bl T c W v ts) : T < W.heap.size := h.2.2.2.1.lt
theorem TFr.below {B bl T c : Nat} {W W' : World} {v v' : Value} {ts : List TkT} (h : TFr T bl W W' v v') (hs : TSt B bl T c W v ts) : Below B W W' := by
  have hlt := hs.lt
  obtain ⟨h1, h2, h3⟩ := hs.1
  exact ⟨h.os, h.tape, h.output, h.size, fun k hk => h.block k (by omega) (by omega) (by omega) (fun e => by have := (hs.row_lt k e).1; omega)⟩
theorem TSt.below {B bl T c : Nat} {W W' : World} {v : Value} {ts : List TkT} (h : TSt B bl T c W v ts) (hb : Below W.heap.size W W') : TSt B bl T c W' v ts :=
  ⟨h.1, h.2.1.below hb, h.2.2.1.below hb, h.2.2.2.1.below hb, owns_below h.2.2.2.2 hb⟩
theorem TSt.but {B bl T c c' : Nat} {W W' : World} {v : Value} {ts : List TkT} (h : TSt B bl T c W v ts) (hb : But bl W W') (hl : LexSt W' bl c') : TSt B bl T c' W' v ts :=
  ⟨h.1, h.2.1.but hb h.1.2.2, hl, h.2.2.2.1.but (by have := h.1.2.1; omega) hb, owns_blk h.2.2.2.2 (fun g hg => hb.block g (h.row_lt g hg).2 (by have := (h.row_lt g hg).1; have := h.1.2.1; omega))⟩
theorem TSt.mono {B bl T c c' : Nat} {W : World} {v : Value} {ts : List TkT} (h : TSt B bl T c W v ts) (hc : c ≤ c') : TSt B bl T c' W v ts := ⟨h.1, h.2.1, h.2.2.1.mono hc, h.2.2.2.1, h.2.2.2.2⟩
theorem infoTokT : (Tryz.prog.info? 43).map (fun i => (i.zero, i.size, i.bytes)) = some (some (.agg #[.int .i64 0, .string ⟨#[]⟩, .int .i64 0, .int .i64 0, .int .i64 0, .int .i64 0, .bool false]), 7, 64) := by kernel_rfl
theorem Blk.set2 {W : World} {T : Nat} {v0 v1 : Value} {ty : TypeId} (h : Blk W T #[v0, v1] ty) (u : Value) : Blk (W.setCell ⟨T, 1, none⟩ u) T #[v0, u] ty := h.set 1 u
theorem owns_form3 {W : World} {b e z n : Nat} {v : Value} {xs : List Value} (h : W.ownsRow b e z v n xs) : ∃ (o : Option Addr) (c : Nat), v = .slice o n c := owns_len3 h

set_option maxRecDepth 100000 in
set_option maxHeartbeats 4000000 in
theorem put_c (B bl T c : Nat) (ts news : List TkT) (v : Value) (g m : Nat) (w : World) (h : TSt B bl T c w v ts) (hm : news.length = m) (hn : ∀ j u, (news.flatMap tC)[j]? = some u → w.cell? ⟨g, j, none⟩ = some u) (hb : ts.length + m ≤ 1000000000) :
    Calls Tryz.prog 137 #[.pointer (some ⟨T, 0, none⟩), .slice (some ⟨g, 0, none⟩) m m] w fun e W' => e = .returned (.tuple #[]) ∧ ∃ v', TSt B bl T c W' v' (ts ++ news) ∧ TFr T bl w W' v v' := by
  obtain ⟨i0, hi0, hzz⟩ := Option.map_eq_some_iff.1 infoTokT
  simp only [Prod.mk.injEq] at hzz
  obtain ⟨hz0, hz1, hz2⟩ := hzz
  have HI : Hid (Tryz.prog.info? 43 = some i0 ∧ i0.zero = some (.agg #[.int .i64 0, .string ⟨#[]⟩, .int .i64 0, .int .i64 0, .int .i64 0, .int .i64 0, .bool false]) ∧ i0.size = 7 ∧ i0.bytes = 64) := ⟨hi0, hz0, hz1, hz2⟩
  have HS : Hid (TSt B bl T c w v ts) := h
  have HN : Hid (∀ j u, (news.flatMap tC)[j]? = some u → w.cell? ((⟨g, 0, none⟩ : Addr).add j) = some u) := fun j u hu => by rw [Addr.add_lit, Nat.zero_add]; exact hn j u hu
  have HLn : Hid ((news.flatMap tC).length = m * 7) := by show _ = _; rw [tC_flat_len, hm]
  have Hb : Hid (ts.length + m ≤ 1000000000) := hb
  have Hm : Hid (news.length = m) := hm
  obtain ⟨oo, oc, hvv⟩ := owns_form3 h.2.2.2.2
  have c0 := h.2.2.2.1.cell 1 _ rfl
  have f0 := h.2.2.2.1.frozen 1
  have hT := h.lt
  have HV : Hid (v = .slice oo ts.length oc) := hvv
  have c1 : w.cell? ⟨T, 1, none⟩ = some v := c0
  rw [hvv] at c1
  clear h hn hb hm hi0 hz0 hz1 hz2 c0 hvv
  go_enter Tryz.func137, Tryz.ntmps137
  go_wp2_with (at_builtin; refine wpList_append_own_at _ rfl _ _ 33 rfl (T + 1) 43 i0 _ 7 64 Tryz.underlying33 HI.out.1 HI.out.2.1 HI.out.2.2.1 HI.out.2.2.2 rfl (by decide) (.slice oo ts.length oc) ts.length (ts.flatMap tC) rfl (by have := HS.out.2.2.2.2; rw [HV.out] at this; exact this) ⟨g, 0, none⟩ m m (news.flatMap tC) rfl HLn.out HN.out (tC_one news) (by have := Hb.out; unfold maxLen; omega) (by have := Hb.out; omega) HS.out.lt ?_; intro v' w1 hown1 hgrow1 hnil1 hat1; obtain ⟨o2, c2, hv2⟩ := owns_form3 hown1; subst hv2; have hne : (Value.slice oo ts.length oc).ownBlock ≠ some T := (by intro e; have := (HS.out.row_lt T (by rw [HV.out]; exact e)).1; omega); have hB1 : Blk w1 T #[.map (some bl), v] 69 := (by have h0 := HS.out.2.2.2.1; unfold Blk; rw [hgrow1.block T h0.lt (fun e => hne e.symm)]; exact h0); have f1 := hB1.frozen 1; have cc1 := hB1.cell 1 _ rfl; have hT1 := hB1.lt; have HG : Hid (w.grownBy w1 (Value.slice oo ts.length oc).ownBlock) := hgrow1; have HO : Hid (w1.ownsRow (T + 1) 43 7 (.slice o2 (ts.length + m) c2) (ts.length + m) (ts.flatMap tC ++ news.flatMap tC)) := hown1; have HBk : Hid (Blk w1 T #[.map (some bl), v] 69) := hB1; have HAt : Hid ((Value.slice o2 (ts.length + m) c2).ownBlock = (Value.slice oo ts.length oc).ownBlock ∨ (Value.slice o2 (ts.length + m) c2).ownBlock = some w.heap.size) := hat1; clear hown1 hgrow1 hnil1 hat1 hne hB1)
  go_end0
  have hS := HS.out
  have hG := HG.out
  have hlt := hS.lt
  obtain ⟨q1, q2, q3⟩ := hS.1
  have hfr : TFr T bl w (w1.setCell ⟨T, 1, none⟩ (.slice o2 (ts.length + m) c2)) v (.slice o2 (ts.length + m) c2) := by
    refine ⟨hG.os, hG.tape, hG.output, by simp; exact hG.size, fun k hk h1 h2 h3 => ?_, ?_⟩
    · rw [heap_setCell_other _ _ _ _ (by simpa using h1)]
      exact hG.block k hk (fun e => h3 (by rw [HV.out]; exact e.symm))
    · rcases HAt.out with e | e
      · exact .inl (by rw [HV.out]; exact e)
      · exact .inr ⟨_, e, Nat.le_refl _⟩
  have hBB : Below T w (w1.setCell ⟨T, 1, none⟩ (.slice o2 (ts.length + m) c2)) := ⟨hfr.os, hfr.tape, hfr.output, hfr.size, fun k hk => by
    rw [heap_setCell_other _ _ _ _ (by show k ≠ T; omega)]
    exact hG.block k (by omega) (fun e => by have := (hS.row_lt k (by rw [HV.out]; exact e.symm)).1; omega)⟩
  refine ⟨rfl, _, ⟨hS.1, ?_, ?_, HBk.out.set2 _, ?_⟩, hfr⟩
  · have hs := hS.2.1.size
    obtain ⟨e1, k1, r1⟩ := hS.2.1.syn
    obtain ⟨e2, k2, r2⟩ := hS.2.1.rng
    have hB : Below 6 w (w1.setCell ⟨T, 1, none⟩ (.slice o2 (ts.length + m) c2)) := hBB.mono (by omega)
    refine ⟨⟨e1, ?_, r1⟩, ⟨e2, ?_, r2⟩, ?_, Nat.le_trans hs hfr.size⟩
    · exact (hB.cell (p := ⟨4, 0, none⟩) (by show 4 < 6; decide)).trans k1
    · exact (hB.cell (p := ⟨5, 0, none⟩) (by show 5 < 6; decide)).trans k2
    · have hn : Tryz.prog.globalNamed "internal/strconv.uint64pow10" = some 0 := by kernel_rfl
      have hp := hS.2.1.pow
      simp only [Lib.TabIs, World.var?, hn, Option.bind_some] at hp ⊢
      rw [hB.block 0 (by decide)]
      exact hp
  · obtain ⟨D, k1, k2⟩ := hS.2.2.1
    obtain ⟨es, clock, r1, r2⟩ := k1
    exact ⟨D, ⟨es, clock, by rw [hBB.block bl (by omega)]; exact r1, r2⟩, k2⟩
  · rw [List.length_append, Hm.out, List.flatMap_append]
    refine owns_blk HO.out (fun k hk => ?_)
    rw [heap_setCell_other _ _ _ _ (by have := (HO.out.lt k hk).1; show k ≠ T; omega)]
end Go.Proofs.YtppnhaacmhfenaaGreatDoor
