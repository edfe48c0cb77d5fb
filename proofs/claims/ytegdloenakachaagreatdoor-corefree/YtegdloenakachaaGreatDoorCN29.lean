/-
  core.Subst, by a contract (begun).
  What Subst answers, as a value that can be compared.
  A builder of strings inside a teller: its contracts.
  ofBuiltinTypes of the built-in constructors, by a contract.
  consMayBe of the built-in constructors, by a contract.
  slices.Contains of texts; Check of a program of the built-in constructors and at most one binding, by contracts.
-/
import Derived.Test.YtegdloenakachaaGreatDoorCN28
import Derived.Test.YtegdloenakachaaGreatDoorCN17
import Derived.Test.YtegdloenakachaaGreatDoorCN10
import Derived.Lib.OwnKind
import Derived.Shelf.Strings.Builder1
import Derived.Test.YtegdloenakachaaGreatDoorCN11
import Derived.Laws.StructEq
namespace Go.Proofs.YtegdloenakachaaGreatDoor
open Go.RowKit Go.Shelf Go.Maps
set_option linter.unusedVariables false
theorem sizeM_pos {d : Nat} (t : Tr (d + 1)) : 0 < sizeM (d + 1) t := by
  show 0 < 1 + _ + _ + _
  omega
theorem ExVal.up7 {W : World} {B B' d : Nat} {t : Tr (d + 1)} {v : Value} (h : ExVal W B d t v) (hB : B ≤ B') : ExVal W B' d t v := by
  obtain ⟨o3, c3, o4, c4, o5, c5, o6, c6, e, k3, k4, k5, k6⟩ := h
  exact ⟨o3, c3, o4, c4, o5, c5, o6, c6, e, k3.mono hB, k4.up hB (fun x g off hg h => ⟨h.1, ExAt.up hB d _ _ _ h.2⟩), k5.up hB (fun x g off hg h => ExAt.up hB d _ _ _ h), k6.up hB (fun x g off hg h => by obtain ⟨a1, a2, a3, ⟨o, c, a4, a5⟩, a6⟩ := h; exact ⟨a1, a2, a3, ⟨o, c, a4, a5.mono hB⟩, ExAt.up hB d _ _ _ a6⟩)⟩
/-- What comes, in its box behind A. -/
def TbAt (W : World) (A e : Nat) (b : Tr (e + 1)) : Prop := ∃ cs, ExVal W A e b (.agg cs) ∧ Blk W (A + 1) cs 31
theorem TbAt.ex {W : World} {A e : Nat} {b : Tr (e + 1)} (h : TbAt W A e b) : ExAt W (A + 2) (e + 1) b (A + 1) 0 := by
  obtain ⟨cs, h1, h2⟩ := h
  exact h1.at (by omega) h2
theorem TbAt.same {W W' : World} {A e : Nat} {b : Tr (e + 1)} (h : TbAt W A e b) (hk : ∀ k, k < A + 2 → k ≠ A → W'.heap[k]? = W.heap[k]?) : TbAt W' A e b := by
  obtain ⟨cs, h1, h2⟩ := h
  exact ⟨cs, h1.same (fun g off hg => cell_of_block (hk g (by omega) (by omega)) off), by unfold Blk; rw [hk (A + 1) (by omega) (by omega)]; exact h2⟩
/-- The two expressions in their boxes A and A + 1, the result's box behind them. -/
structure Bx (w W : World) (d : Nat) (t : Tr (d + 1)) (e : Nat) (b : Tr (e + 1)) (A : Nat) : Prop where
  hA : A = w.heap.size
  below : Below w.heap.size w W
  ta : ExAt W (A + 1) (d + 1) t A 0
  tb : TbAt W A e b
  ua : Uf W A
  blkC : ∃ cs, W.heap[A + 2]? = some (.cells cs 31 (0, 0)) ∧ cs.size = 7
  sz : A + 3 ≤ W.heap.size
theorem Bx.on {w W W' : World} {d : Nat} {t : Tr (d + 1)} {e : Nat} {b : Tr (e + 1)} {A : Nat} (h : Bx w W d t e b A) (hb : Below W.heap.size W W') : Bx w W' d t e b A := by
  have h3 := h.sz
  have hk : ∀ k, k < A + 3 → W'.heap[k]? = W.heap[k]? := fun k hk => hb.block k (by omega)
  refine ⟨h.hA, h.below.trans (hb.mono h.below.size), ExAt.same (fun g off hg => cell_of_block (hk g (by omega)) off) _ _ _ _ h.ta, h.tb.same (fun k h1 _ => hk k (by omega)), ?_, ?_, Nat.le_trans h3 hb.size⟩
  · obtain ⟨cur, e', h1, h2⟩ := h.ua
    exact ⟨cur, e', by rw [hk A (by omega)]; exact h1, h2⟩
  · obtain ⟨cs, h1, h2⟩ := h.blkC
    exact ⟨cs, by rw [hk (A + 2) (by omega)]; exact h1, h2⟩
/-- What Subst answers. -/
def Subbed (w W' : World) (d : Nat) (t : Tr (d + 1)) (e : Nat) (b : Tr (e + 1)) (name : ByteArray) (L : List (List UInt8)) (v : Value) : Prop := ∃ (φ' : List UInt8 → Nat) (t' : Tr ((e + 1) + (d + 1))), SubR name (freeM (e + 1) b []) (e + 1) b φ' (d + 1) [] t t' ∧ (∃ last, NumOK (freeM (e + 1) b []) L φ' last ∧ last ≤ 1000000000000000) ∧ VlF W' (fun k _ => w.heap.size ≤ k ∧ k < W'.heap.size) ((e + 1) + (d + 1)) t' v ∧ Below w.heap.size w W'
theorem arr7 {cs : Array Value} (h : cs.size = 7) : ∃ c0 c1 c2 c3 c4 c5 c6, cs = #[c0, c1, c2, c3, c4, c5, c6] := by
  obtain ⟨l⟩ := cs
  simp at h
  match l, h with
  | [c0, c1, c2, c3, c4, c5, c6], _ => exact ⟨c0, c1, c2, c3, c4, c5, c6, rfl⟩
/-- The copy stands in its box: its rows are its own. -/
structure Cx (w W : World) (d : Nat) (t : Tr (d + 1)) (e : Nat) (b : Tr (e + 1)) (A lo hi : Nat) : Prop where
  hA : A = w.heap.size
  below : Below w.heap.size w W
  ow : OwEx W (d + 1) t A 0 lo hi
  tb : TbAt W A e b
  ua : Uf W A
  blkC : ∃ cs, W.heap[A + 2]? = some (.cells cs 31 (0, 0)) ∧ cs.size = 7
  lo3 : A + 3 ≤ lo
  lh : lo ≤ hi
  hS : hi ≤ W.heap.size
theorem Cx.on {w W W' : World} {d : Nat} {t : Tr (d + 1)} {e : Nat} {b : Tr (e + 1)} {A lo hi : Nat} (h : Cx w W d t e b A lo hi) (hb : Below W.heap.size W W') : Cx w W' d t e b A lo hi := by
  have h1 := h.lo3; have h2 := h.lh; have h3 := h.hS
  have hk : ∀ k, k < hi → W'.heap[k]? = W.heap[k]? := fun k hk => hb.block k (by omega)
  refine ⟨h.hA, h.below.trans (hb.mono h.below.size), OwEx.same _ _ _ _ _ _ h.ow (fun q _ => cell_of_block (hk A (by omega)) _) (fun k _ h2 => hk k h2), h.tb.same (fun k h1 _ => hk k (by omega)), ?_, ?_, h1, h2, Nat.le_trans h3 hb.size⟩
  · obtain ⟨cur, e', h1, h2⟩ := h.ua
    exact ⟨cur, e', by rw [hk A (by omega)]; exact h1, h2⟩
  · obtain ⟨cs, h1, h2⟩ := h.blkC
    exact ⟨cs, by rw [hk (A + 2) (by omega)]; exact h1, h2⟩
theorem Cx.ta {w W : World} {d : Nat} {t : Tr (d + 1)} {e : Nat} {b : Tr (e + 1)} {A lo hi : Nat} (h : Cx w W d t e b A lo hi) : ExAt W W.heap.size (d + 1) t A 0 := OwEx.ex _ _ _ _ _ _ h.ow (by have := h.lo3; have := h.lh; have := h.hS; omega) h.hS
theorem Bx.cells {w W : World} {d : Nat} {t : Tr (d + 1)} {e : Nat} {b : Tr (e + 1)} {A : Nat} (h : Bx w W d t e b A) : ∀ q, q < 7 → ∃ x, W.cell? ⟨A, 0 + q, none⟩ = some x := by
  obtain ⟨-, e0, e1, e2, ⟨o3, c3, e3, -⟩, ⟨o4, c4, e4, -⟩, ⟨o5, c5, e5, -⟩, ⟨o6, c6, e6, -⟩⟩ := h.ta
  intro q hq
  match q, hq with
  | 0, _ => exact ⟨_, e0⟩
  | 1, _ => exact ⟨_, e1⟩
  | 2, _ => exact ⟨_, e2⟩
  | 3, _ => exact ⟨_, e3⟩
  | 4, _ => exact ⟨_, e4⟩
  | 5, _ => exact ⟨_, e5⟩
  | 6, _ => exact ⟨_, e6⟩
/-- The copy is stored. -/
theorem Bx.stored {w W : World} {d : Nat} {t : Tr (d + 1)} {e : Nat} {b : Tr (e + 1)} {A lo : Nat} {v : Value} (h : Bx w W d t e b A) (hv : OwV W (d + 1) t v lo W.heap.size) (hlo : A + 3 ≤ lo) (hl : lo ≤ W.heap.size) :
    ∃ (k0 : Int) (n1 : ByteArray) (m2 : Int) (o3 : Option Addr) (l3 c3 : Nat) (o4 : Option Addr) (l4 c4 : Nat) (o5 : Option Addr) (l5 c5 : Nat) (o6 : Option Addr) (l6 c6 : Nat), v = .agg #[.int .i64 k0, .string n1, .int .i64 m2, .slice o3 l3 c3, .slice o4 l4 c4, .slice o5 l5 c5, .slice o6 l6 c6] ∧ Cx w (st7 W A 0 (.int .i64 k0) (.string n1) (.int .i64 m2) (.slice o3 l3 c3) (.slice o4 l4 c4) (.slice o5 l5 c5) (.slice o6 l6 c6)) d t e b A lo W.heap.size := by
  obtain ⟨k0, n1, m2, o3, l3, c3, o4, l4, c4, o5, l5, c5, o6, l6, c6, e1, h1⟩ := hv.stored A 0 (by omega) h.cells
  refine ⟨k0, n1, m2, o3, l3, c3, o4, l4, c4, o5, l5, c5, o6, l6, c6, e1, ?_⟩
  have hk : ∀ k, k ≠ A → (st7 W A 0 (.int .i64 k0) (.string n1) (.int .i64 m2) (.slice o3 l3 c3) (.slice o4 l4 c4) (.slice o5 l5 c5) (.slice o6 l6 c6)).heap[k]? = W.heap[k]? := fun k hk => st7_other _ _ _ _ _ _ _ _ _ _ _ hk
  refine ⟨h.hA, st7_below h.below A 0 (by rw [h.hA]; exact Nat.le_refl _) _ _ _ _ _ _ _, h1, ?_, st7_uf h.ua _ _ _ _ _ _ _ _ _, ?_, hlo, hl, by rw [st7_size]; exact Nat.le_refl _⟩
  · exact h.tb.same (fun k _ h2 => hk k h2)
  · obtain ⟨cs, h3, h4⟩ := h.blkC
    exact ⟨cs, by rw [hk _ (by omega)]; exact h3, h4⟩
set_option maxHeartbeats 8000000 in
set_option maxRecDepth 100000 in
theorem Subst_c (d : Nat) (t : Tr (d + 1)) (e : Nat) (b : Tr (e + 1)) (name : ByteArray) (va vb : Value) (B : Nat) (w : World) (ha : ExVal w B d t va) (hb : ExVal w B e b vb) (hw : B ≤ w.heap.size) (hst : sizeM (d + 1) t ≤ 1048576) (hsb : sizeM (e + 1) b ≤ 1048576) (hd : d + 1 ≤ 4096) (he : e + 1 ≤ 4096) (hFt : Fit (d + 1) t) (hNt : NmOK (d + 1) t) (hct : 2 * costM (d + 1) t ≤ 2000000) (hns : name.size ≤ maxLen) (hfree : freeM (d + 1) t [] name.data.toList = true) (L : List (List UInt8)) (hFb : Fit (e + 1) b) (hNb : NmOK (e + 1) b) (hcb : 2 * costM (e + 1) b ≤ 2000000) (hlen : (allN ownN (d + 1) t).length ≤ 1000000) (hL : ∀ x, decide (x ∈ L) = (decide (x ∈ allN ownN (d + 1) t) || freeM (e + 1) b [] x)) (hgt : GT w) (hBd : Bnd L 0 0 (0 + rcM (d + 1) t)) :
    Calls Tryz.prog 12 #[va, .string name, vb] w fun r w' => ∃ v, r = .returned v ∧ Subbed w w' d t e b name L v := by
  obtain ⟨o3, c3, o4, c4, o5, c5, o6, c6, rfl, r3, r4, r5, r6⟩ := id ha
  obtain ⟨p3, q3, p4, q4, p5, q5, p6, q6, rfl, s3, s4, s5, s6⟩ := id hb
  obtain ⟨W0, hW0⟩ : ∃ W0, W0 = ((w.alloc (.cells #[.int .i64 (TrN.kind t), .string (TrN.name t), .int .i64 (TrN.num t), .slice o3 (TrN.params t).length c3, .slice o4 (TrN.binds t).length c4, .slice o5 (TrN.args t).length c5, .slice o6 (TrN.alts t).length c6] 31)).alloc (.cells #[.int .i64 (TrN.kind b), .string (TrN.name b), .int .i64 (TrN.num b), .slice p3 (TrN.params b).length q3, .slice p4 (TrN.binds b).length q4, .slice p5 (TrN.args b).length q5, .slice p6 (TrN.alts b).length q6] 31)).alloc (.cells #[.int .i64 0, .string ⟨#[]⟩, .int .i64 0, .slice none 0 0, .slice none 0 0, .slice none 0 0, .slice none 0 0] 31) := ⟨_, rfl⟩
  have H0 : Hid (Bx w W0 d t e b w.heap.size) := by
    have b1 := below1 w (.cells #[.int .i64 (TrN.kind t), .string (TrN.name t), .int .i64 (TrN.num t), .slice o3 (TrN.params t).length c3, .slice o4 (TrN.binds t).length c4, .slice o5 (TrN.args t).length c5, .slice o6 (TrN.alts t).length c6] 31)
    have hk : ∀ k, k < w.heap.size → W0.heap[k]? = w.heap[k]? := fun k hk => by rw [hW0, Below.heap_alloc _ _ _ (by simp; omega), Below.heap_alloc _ _ _ (by simp; omega), Below.heap_alloc _ _ _ hk]
    have kA : Blk W0 w.heap.size #[.int .i64 (TrN.kind t), .string (TrN.name t), .int .i64 (TrN.num t), .slice o3 (TrN.params t).length c3, .slice o4 (TrN.binds t).length c4, .slice o5 (TrN.args t).length c5, .slice o6 (TrN.alts t).length c6] 31 := by
      unfold Blk
      rw [hW0, Below.heap_alloc _ _ _ (by simp; omega), Below.heap_alloc _ _ _ (by simp)]
      exact Blk.new w _ _
    have kB : Blk W0 (w.heap.size + 1) #[.int .i64 (TrN.kind b), .string (TrN.name b), .int .i64 (TrN.num b), .slice p3 (TrN.params b).length q3, .slice p4 (TrN.binds b).length q4, .slice p5 (TrN.args b).length q5, .slice p6 (TrN.alts b).length q6] 31 := by
      unfold Blk
      rw [hW0, Below.heap_alloc _ _ _ (by simp)]
      have := Blk.new (w.alloc (.cells #[.int .i64 (TrN.kind t), .string (TrN.name t), .int .i64 (TrN.num t), .slice o3 (TrN.params t).length c3, .slice o4 (TrN.binds t).length c4, .slice o5 (TrN.args t).length c5, .slice o6 (TrN.alts t).length c6] 31)) #[.int .i64 (TrN.kind b), .string (TrN.name b), .int .i64 (TrN.num b), .slice p3 (TrN.params b).length q3, .slice p4 (TrN.binds b).length q4, .slice p5 (TrN.args b).length q5, .slice p6 (TrN.alts b).length q6] 31
      simpa [Blk] using this
    have hs : ∀ g off, g < w.heap.size → W0.cell? ⟨g, off, none⟩ = w.cell? ⟨g, off, none⟩ := fun g off hg => cell_of_block (hk g hg) off
    have hBl : Below w.heap.size w W0 := by rw [hW0]; exact ((b1.alloc (by simp) _)).alloc (by simp; omega) _
    refine ⟨rfl, hBl, (((ha.up7 hw).same hs).at (Nat.le_refl _) kA), ⟨_, (hb.up7 hw).same hs, kB⟩, ⟨_, _, kA, by decide⟩, ⟨#[.int .i64 0, .string ⟨#[]⟩, .int .i64 0, .slice none 0 0, .slice none 0 0, .slice none 0 0, .slice none 0 0], ?_, rfl⟩, by rw [hW0]; simp⟩
    rw [hW0]
    have := Blk.new ((w.alloc (.cells #[.int .i64 (TrN.kind t), .string (TrN.name t), .int .i64 (TrN.num t), .slice o3 (TrN.params t).length c3, .slice o4 (TrN.binds t).length c4, .slice o5 (TrN.args t).length c5, .slice o6 (TrN.alts t).length c6] 31)).alloc (.cells #[.int .i64 (TrN.kind b), .string (TrN.name b), .int .i64 (TrN.num b), .slice p3 (TrN.params b).length q3, .slice p4 (TrN.binds b).length q4, .slice p5 (TrN.args b).length q5, .slice p6 (TrN.alts b).length q6] 31)) #[.int .i64 0, .string ⟨#[]⟩, .int .i64 0, .slice none 0 0, .slice none 0 0, .slice none 0 0, .slice none 0 0] 31
    simpa [Blk] using this
  have HW : Hid (W0 = ((w.alloc (.cells #[.int .i64 (TrN.kind t), .string (TrN.name t), .int .i64 (TrN.num t), .slice o3 (TrN.params t).length c3, .slice o4 (TrN.binds t).length c4, .slice o5 (TrN.args t).length c5, .slice o6 (TrN.alts t).length c6] 31)).alloc (.cells #[.int .i64 (TrN.kind b), .string (TrN.name b), .int .i64 (TrN.num b), .slice p3 (TrN.params b).length q3, .slice p4 (TrN.binds b).length q4, .slice p5 (TrN.args b).length q5, .slice p6 (TrN.alts b).length q6] 31)).alloc (.cells #[.int .i64 0, .string ⟨#[]⟩, .int .i64 0, .slice none 0 0, .slice none 0 0, .slice none 0 0, .slice none 0 0] 31)) := hW0
  have HF : Hid (sizeM (d + 1) t ≤ 1048576 ∧ sizeM (e + 1) b ≤ 1048576 ∧ d + 1 ≤ 4096 ∧ e + 1 ≤ 4096 ∧ Fit (d + 1) t) := ⟨hst, hsb, hd, he, hFt⟩
  have HG : Hid (Fit (e + 1) b ∧ NmOK (e + 1) b ∧ 2 * costM (e + 1) b ≤ 2000000 ∧ (allN ownN (d + 1) t).length ≤ 1000000 ∧ (∀ x, decide (x ∈ L) = (decide (x ∈ allN ownN (d + 1) t) || freeM (e + 1) b [] x)) ∧ GT w ∧ Bnd L 0 0 (0 + rcM (d + 1) t)) := ⟨hFb, hNb, hcb, hlen, hL, hgt, hBd⟩
  have HN : Hid (NmOK (d + 1) t ∧ 2 * costM (d + 1) t ≤ 2000000 ∧ name.size ≤ maxLen ∧ freeM (d + 1) t [] name.data.toList = true) := ⟨hNt, hct, hns, hfree⟩
  clear ha hb r3 r4 r5 r6 s3 s4 s5 s6 hW0 hst hsb hd he hFt hNt hct hns hfree hFb hNb hcb hlen hL hgt hBd
  go_enter Tryz.func12, Tryz.ntmps12
  go_wp2_with (go_at_call 30; fail)
  rw [← HW.out]
  clear HW
  refine (fits_c (d + 1) t _ _ _ _ H0.out.ta (by have := H0.out.sz; omega) HF.out.1 HF.out.2.2.1).mono ?_
  rintro r w1 ⟨rfl, hb1⟩
  have H1 : Hid (Bx w w1 d t e b w.heap.size) := H0.out.on hb1
  clear hb1 H0
  go_wp2_with (go_at_call 30; fail)
  refine (fits_c (e + 1) b _ _ _ _ H1.out.tb.ex (by have := H1.out.sz; omega) HF.out.2.1 HF.out.2.2.2.1).mono ?_
  rintro r w2 ⟨rfl, hb2⟩
  have H2 : Hid (Bx w w2 d t e b w.heap.size) := H1.out.on hb2
  clear hb2 H1
  go_wp2_with (go_at_call 31; fail)
  refine (copiedOK (d + 1) t _ _ _ _ H2.out.ta (by have := H2.out.sz; omega) HF.out.2.2.2.2).mono ?_
  rintro r w3 ⟨v, rfl, hov, hb3⟩
  have H3 := H2.out.on hb3
  obtain ⟨k0, n1, m2, o3', l3, c3', o4', l4, c4', o5', l5, c5', o6', l6, c6', rfl, hCx⟩ := H3.stored hov H2.out.sz hb3.size
  have HC : Hid (Cx w (st7 w3 w.heap.size 0 (.int .i64 k0) (.string n1) (.int .i64 m2) (.slice o3' l3 c3') (.slice o4' l4 c4') (.slice o5' l5 c5') (.slice o6' l6 c6')) d t e b w.heap.size w2.heap.size w3.heap.size) := hCx
  obtain ⟨y0, f0⟩ := H3.cells 0 (by omega)
  obtain ⟨y1, f1⟩ := H3.cells 1 (by omega)
  obtain ⟨y2, f2⟩ := H3.cells 2 (by omega)
  obtain ⟨y3, f3⟩ := H3.cells 3 (by omega)
  obtain ⟨y4, f4⟩ := H3.cells 4 (by omega)
  obtain ⟨y5, f5⟩ := H3.cells 5 (by omega)
  obtain ⟨y6, f6⟩ := H3.cells 6 (by omega)
  simp only [Nat.zero_add] at f0 f1 f2 f3 f4 f5 f6
  have z := fun j => H3.ua.frozen j
  have z0 := z 0; have z1 := z 1; have z2 := z 2; have z3 := z 3; have z4 := z 4; have z5 := z 5; have z6 := z 6
  have hAl : w.heap.size < w3.heap.size := by have := H3.sz; omega
  clear z hCx hov hb3 H3
  go_wp2_with (go_at_call 32; fail)
  change Calls Tryz.prog 32 #[.pointer (some ⟨w.heap.size, 0, none⟩)] (st7 w3 w.heap.size 0 (.int .i64 k0) (.string n1) (.int .i64 m2) (.slice o3' l3 c3') (.slice o4' l4 c4') (.slice o5' l5 c5') (.slice o6' l6 c6')) _
  generalize st7 w3 w.heap.size 0 (.int .i64 k0) (.string n1) (.int .i64 m2) (.slice o3' l3 c3') (.slice o4' l4 c4') (.slice o5' l5 c5') (.slice o6' l6 c6') = w4 at HC ⊢
  have hAl4 : w.heap.size < w4.heap.size := by have := HC.out.lo3; have := HC.out.lh; have := HC.out.hS; omega
  clear f0 f1 f2 f3 f4 f5 f6 z0 z1 z2 z3 z4 z5 z6
  refine (freeIn_c (d + 1) t HN.out.1 HN.out.2.1 (by have := HF.out.1; omega) _ _ _ w4 HC.out.ta (Nat.le_refl _) hAl4).mono ?_
  rintro r w5 ⟨f, cf, rfl, -, -, hs5, hb5⟩
  have H5 : Hid (Cx w w5 d t e b w.heap.size w2.heap.size w3.heap.size) := HC.out.on hb5
  have hlk := hs5.look name HN.out.2.2.1
  rw [HN.out.2.2.2] at hlk
  clear hs5 hb5 HC
  go_wp2_with (go_at_call 33; fail)
  have H6 : Hid (Cx w (w5.alloc (.cells #[] 63)) d t e b w.heap.size w2.heap.size w3.heap.size) := H5.out.on (below1 w5 _)
  clear hlk H5
  generalize w5.alloc (.cells #[] 63) = w6 at H6 ⊢
  have hz6 : w.heap.size + 3 ≤ w6.heap.size := by have := H6.out.lo3; have := H6.out.lh; have := H6.out.hS; omega
  refine (newSubst_c L d t e b name w6.heap.size _ _ _ _ w6 H6.out.ta (ExAt.up (by omega) _ _ _ _ H6.out.tb.ex) (Nat.le_refl _) HF.out.2.2.2.2 HG.out.1 HG.out.2.1 HG.out.2.2.1 HF.out.2.1 HF.out.1 HF.out.2.2.1 HG.out.2.2.2.1 HG.out.2.2.2.2.1 (HG.out.2.2.2.2.2.1.same (H6.out.below.block _ HG.out.2.2.2.2.2.1.2) H6.out.below.size)).mono ?_
  rintro r w7 ⟨S, rfl, P, rfl, hPZ, hPn, hSb, hb7⟩
  have H7 : Hid (Cx w w7 d t e b w.heap.size w2.heap.size w3.heap.size ∧ P.Z = w6.heap.size ∧ P.name = name ∧ SbSt w7 P (e + 1) b (freeM (e + 1) b []) L 0 [] ((1048576 : Int) - (sizeM (d + 1) t : Int)) (fun _ => 0) 0 0 ∧ Below w6.heap.size w6 w7 ∧ w3.heap.size ≤ w6.heap.size) := ⟨H6.out.on hb7, hPZ, hPn, hSb, hb7, H6.out.hS⟩
  clear hPZ hPn hSb hb7 H6
  go_wp2_with (go_at_call 34; fail)
  have hsz := sizeM_pos t
  refine (subOK P e b HG.out.1 HF.out.2.1 HF.out.2.2.2.1 _ L (d + 1) t w.heap.size 0 w2.heap.size w3.heap.size 0 [] _ _ 0 0 0 w7 H7.out.1.ow (by have := H7.out.1.lo3; omega) (by have := H7.out.2.2.2.2.2; rw [H7.out.2.1]; exact this) H7.out.1.ua (HG.out.2.2.2.2.2.1.2) H7.out.2.2.2.1 ⟨fun _ => Nat.le_refl _, fun _ h => absurd rfl h, fun _ _ h => absurd rfl h⟩ HG.out.2.2.2.2.2.2 (by have := HF.out.1; omega) (by omega) HN.out.1 HF.out.2.2.2.2 (by have := HN.out.2.1; omega) (by have := HN.out.2.1; simp; omega)).mono ?_
  rintro r w8 ⟨φ', t', rfl, hR, hSu, hX, hCh⟩
  have HR : Hid (SubR name (freeM (e + 1) b []) (e + 1) b φ' (d + 1) [] t t' ∧ (∃ last, NumOK (freeM (e + 1) b []) L φ' last ∧ last ≤ 1000000000000000)) := by
    obtain ⟨c', cf', last', room', -, h2, h3, -⟩ := hSu.st
    rw [H7.out.2.2.1] at hR
    exact ⟨hR, last', h2, by have := h3.2.2; omega⟩
  obtain ⟨k0', n1', m2', u3, l3', g3, u4, l4', g4, u5, l5', g5, u6, l6', g6, hVl, x0, x1, x2, x3, x4, x5, x6⟩ := hX.val
  simp only [Nat.zero_add] at x0 x1 x2 x3 x4 x5 x6
  have hZ := H7.out.2.1
  have hok := H7.out.2.2.2.1.ok
  have q1 := hok.zb; have q2 := hok.lh; have q3' := hok.hS; have q4' := hok.zm; have q5' := hok.zf
  have q6' := H7.out.1.lo3; have q7 := H7.out.1.lh; have q8 := H7.out.1.hS; have q9 := H7.out.2.2.2.2.2; have q10 := hCh.size; have q11 := H7.out.2.2.2.1.sc.lt; have q12 := H7.out.2.2.2.2.1.size
  obtain ⟨cs, hcs1, hcs2⟩ := H7.out.1.blkC
  obtain ⟨y0', y1', y2', y3', y4', y5', y6', rfl⟩ := arr7 hcs2
  have kC : Blk w8 (w.heap.size + 2) #[y0', y1', y2', y3', y4', y5', y6'] 31 := by
    unfold Blk
    rw [hCh.block (w.heap.size + 2) (by omega) (by omega) (by omega) (by omega) (by omega) (by omega)]
    exact hcs1
  have HV : Hid (VlF w8 (fun k _ => w.heap.size ≤ k ∧ k < w8.heap.size ∧ k ≠ w.heap.size + 2) ((e + 1) + (d + 1)) t' (.agg #[.int .i64 k0', .string n1', .int .i64 m2', .slice u3 l3' g3, .slice u4 l4' g4, .slice u5 l5' g5, .slice u6 l6' g6])) := by
    refine hVl.mono (fun k o h => ⟨?_, rfl⟩)
    unfold FpE at h
    omega
  have HB8 : Hid (Below w.heap.size w w8) := by
    have hb := H7.out.1.below
    exact ⟨hCh.os.trans hb.os, hCh.tape.trans hb.tape, hCh.output.trans hb.output, Nat.le_trans hb.size hCh.size, fun k hk => (hCh.block k (by have := hb.size; omega) (by omega) (by omega) (by omega) (by omega) (by omega)).trans (hb.block k hk)⟩
  obtain ⟨⟨j0, j1, j2, j3, j4, j5, j6⟩, z0, z1, z2, z3, z4, z5, z6⟩ := kC.all7
  have HK : Hid (Blk w8 (w.heap.size + 2) #[y0', y1', y2', y3', y4', y5', y6'] 31) := kC
  have hlC := kC.lt
  have hlA : w.heap.size < w8.heap.size := by omega
  clear hR hSu hX hVl hCh hZ hok q1 q2 q3' q4' q5' q6' q7 q8 q9 q10 q11 q12 hcs1 hcs2 kC hsz
  go_wp2
  obtain ⟨W9, hW9⟩ : ∃ W9, W9 = st7 w8 (w.heap.size + 2) 0 (.int .i64 k0') (.string n1') (.int .i64 m2') (.slice u3 l3' g3) (.slice u4 l4' g4) (.slice u5 l5' g5) (.slice u6 l6' g6) := ⟨_, rfl⟩
  have k9 : Blk W9 (w.heap.size + 2) #[.int .i64 k0', .string n1', .int .i64 m2', .slice u3 l3' g3, .slice u4 l4' g4, .slice u5 l5' g5, .slice u6 l6' g6] 31 := by
    rw [hW9]
    exact ((((((HK.out.set 0 (.int .i64 k0')).set 1 (.string n1')).set 2 (.int .i64 m2')).set 3 (.slice u3 l3' g3)).set 4 (.slice u4 l4' g4)).set 5 (.slice u5 l5' g5)).set 6 (.slice u6 l6' g6)
  have hP : Subbed w W9 d t e b name L (.agg #[.int .i64 k0', .string n1', .int .i64 m2', .slice u3 l3' g3, .slice u4 l4' g4, .slice u5 l5' g5, .slice u6 l6' g6]) := by
    have hk : ∀ k, k ≠ w.heap.size + 2 → W9.heap[k]? = w8.heap[k]? := fun k hk => by rw [hW9]; exact st7_other _ _ _ _ _ _ _ _ _ _ _ hk
    have hsz9 : W9.heap.size = w8.heap.size := by rw [hW9]; exact st7_size _ _ _ _ _ _ _ _ _ _
    refine ⟨φ', t', HR.out.1, HR.out.2, HV.out.mono (fun k o h => ⟨⟨h.1, by rw [hsz9]; exact h.2.1⟩, cell_of_block (hk k h.2.2) o⟩), ?_⟩
    rw [hW9]
    exact st7_below HB8.out _ _ (by omega) _ _ _ _ _ _ _
  subst hW9
  exact bodyPost_ret (results_cell_row rfl _ _ (w.heap.size + 2) 31 _ _ _ rfl k9 Tryz.underlying31 rfl rfl) rfl ⟨_, rfl, hP⟩
end Go.Proofs.YtegdloenakachaaGreatDoor

namespace Go.Proofs.YtegdloenakachaaGreatDoor
open Go.RowKit Go.Shelf Go.Maps
set_option linter.unusedVariables false
/-- What Subst answers can be compared, and told. -/
theorem Subbed.val {w W' : World} {d : Nat} {t : Tr (d + 1)} {e : Nat} {b : Tr (e + 1)} {name : ByteArray} {L : List (List UInt8)} {v : Value} (h : Subbed w W' d t e b name L v) : ∃ (φ' : List UInt8 → Nat) (t' : Tr ((e + 1) + d + 1)), SubR name (freeM (e + 1) b []) (e + 1) b φ' (d + 1) [] t t' ∧ (∃ last, NumOK (freeM (e + 1) b []) L φ' last ∧ last ≤ 1000000000000000) ∧ ExVal W' W'.heap.size ((e + 1) + d) t' v ∧ Below w.heap.size w W' := by
  obtain ⟨φ', t', h1, h2, h3, h4⟩ := h
  exact ⟨φ', t', h1, h2, VlF.exVal h3 (fun k o h => h.2), h4⟩
end Go.Proofs.YtegdloenakachaaGreatDoor

namespace Go.Proofs.YtegdloenakachaaGreatDoor
open Go.RowKit Go.Shelf Go.Maps
set_option linter.unusedVariables false

theorem sizeBld : (Tryz.prog.info? 92).map (fun i => i.size) = some 2 := by kernel_rfl
theorem liesBld : liesAt Tryz.prog Tryz.prog.depth 94 (2 / Tryz.prog.cellsOf 94) 0 92 1 = true := by kernel_rfl
theorem infoByte7 : (Tryz.prog.info? 5).map (fun i => (i.zero, i.size, i.bytes)) = some (some (.int .u8 0), 1, 1) := by kernel_rfl
abbrev TlAt (B b : Nat) (p : Value) (bs : List Value) (w : World) : Prop := Lib.BuilderAt 94 5 B b p bs w
def IsTl (B b : Nat) (bs : List Value) (w : World) : Prop := TlAt B b (.pointer none) bs w ∨ TlAt B b (.pointer (some ⟨b, 0, none⟩)) bs w
set_option maxHeartbeats 1000000 in
set_option maxRecDepth 100000 in
theorem tlCheck_used (b : Nat) (w : World) (h0 : w.cell? ⟨b, 0, none⟩ = some (.pointer (some ⟨b, 0, none⟩))) :
    Calls Tryz.prog 159 #[.pointer (some ⟨b, 0, none⟩)] w fun e w' => e = .returned (.tuple #[]) ∧ w' = w := by
  obtain ⟨j, hj, _⟩ := Option.map_eq_some_iff.1 sizeBld
  go_enter Tryz.func159, Tryz.ntmps159
  go_wp2
  rw [Lib.run_neq_ptr_same w _ Tryz.underlying89 hj]
  go_wp2
  go_end0
  exact ⟨rfl, rfl⟩
set_option maxHeartbeats 1000000 in
set_option maxRecDepth 100000 in
theorem tlCheck_fresh (b : Nat) (w : World) (h0 : w.cell? ⟨b, 0, none⟩ = some (.pointer none)) (hsh : w.shape? b = some (94, 2)) (hfz : w.frozen? ⟨b, 0, none⟩ = false) :
    Calls Tryz.prog 159 #[.pointer (some ⟨b, 0, none⟩)] w fun e w' => e = .returned (.tuple #[]) ∧ w' = w.setCell ⟨b, 0, none⟩ (.pointer (some ⟨b, 0, none⟩)) := by
  obtain ⟨j, hj, hjs⟩ := Option.map_eq_some_iff.1 sizeBld
  go_enter Tryz.func159, Tryz.ntmps159
  go_wp2
  rw [Lib.run_to_unsafe w ⟨b, 0, none⟩ Tryz.underlying89 Tryz.underlying206 hj (by rw [hjs]; decide) hsh (Nat.zero_lt_succ 1)]
  simp only [Result.andThen]
  rw [Oper.upon_value]
  go_wp2
  rw [run_callFunc_extern Tryz.func173 (by kernel_rfl) (by kernel_rfl) (by kernel_rfl) (e := Extern.AbiNoEscape.same) (by kernel_rfl)]
  rw [Lib.run_noEscape]
  simp only [Result.andThen]
  rw [Oper.upon_value]
  go_wp2
  rw [Lib.run_from_unsafe w ⟨b, 0, none⟩ Tryz.underlying206 Tryz.underlying89 hj hsh liesBld]
  simp only [Result.andThen]
  rw [Oper.upon_value]
  go_wp2
  go_end0
  exact ⟨rfl, rfl⟩
/-- All blocks of cells but one stay that hold no bytes. -/
def KpT (b : Nat) (w w' : World) : Prop := ∀ k cs T fz, w.heap[k]? = some (.cells cs T fz) → T ≠ 5 → k ≠ b → w'.heap[k]? = some (.cells cs T fz)
theorem KpT.refl (b : Nat) (w : World) : KpT b w w := fun k cs T fz h _ _ => h
theorem KpT.trans {b : Nat} {w1 w2 w3 : World} (h : KpT b w1 w2) (k : KpT b w2 w3) : KpT b w1 w3 := fun j cs T fz e h1 h2 => k j cs T fz (h j cs T fz e h1 h2) h1 h2
theorem KpT.below {b : Nat} {w w' : World} (h : Below w.heap.size w w') : KpT b w w' := fun k cs T fz e h1 h2 => by rw [h.block k (Array.getElem?_eq_some_iff.1 e).1]; exact e
theorem KpT.set (b j : Nat) (w : World) (u : Value) : KpT b w (w.setCell ⟨b, j, none⟩ u) := fun k cs T fz e h1 h2 => by rw [heap_set_other _ _ _ _ _ h2]; exact e
theorem tlCheck (B b : Nat) (bs : List Value) (w : World) (h : IsTl B b bs w) :
    Calls Tryz.prog 159 #[.pointer (some ⟨b, 0, none⟩)] w fun e w' => e = .returned (.tuple #[]) ∧ (TlAt B b (.pointer (some ⟨b, 0, none⟩)) bs w' ∧ Below B w w' ∧ KpT b w w') := by
  rcases h with h | h
  · refine (tlCheck_fresh b w h.cell0 h.shape h.frozen0).mono ?_
    rintro e w' ⟨rfl, rfl⟩
    exact ⟨rfl, h.used _, (Below.refl B w).setCell (p := ⟨b, 0, none⟩) h.1 _, KpT.set _ _ _ _⟩
  · refine (tlCheck_used b w h.cell0).mono ?_
    rintro e w' ⟨rfl, rfl⟩
    exact ⟨rfl, h, Below.refl B _, KpT.refl _ _⟩
set_option maxHeartbeats 2000000 in
set_option maxRecDepth 100000 in
theorem tlWrite (B b : Nat) (bs : List Value) (s : ByteArray) (w : World) (h : IsTl B b bs w) (hlen : bs.length + s.size ≤ 140737488355328) (hBw : B ≤ w.heap.size) :
    Calls Tryz.prog 132 #[.pointer (some ⟨b, 0, none⟩), .string s] w fun e w' => e = .returned (.tuple #[.int .i64 s.size, .nilIface]) ∧ (TlAt B b (.pointer (some ⟨b, 0, none⟩)) (bs ++ Lib.strCells s) w' ∧ Below B w w' ∧ KpT b w w') := by
  obtain ⟨i0, hi, hz0, hz1, hz2⟩ := info_parts infoByte7
  have e240 : ∀ args w, (callFunc 159 args).run Tryz.prog w = .ok (.enter 159 args) w := enters_of Tryz.func159 (by kernel_rfl) rfl
  have HCk := tlCheck B b bs w h
  go_enter Tryz.func132, Tryz.ntmps132
  go_wp2_with (go_at_call 159; refine HCk.mono ?_)
  rintro e w1 ⟨rfl, h1, hb1, hk1⟩
  have HK1 : Hid (KpT b w w1) := hk1
  clear hk1
  obtain ⟨hB, v, hbk, hown, hne⟩ := h1
  have c0 : w1.cell? ⟨b, 0, none⟩ = some (.pointer (some ⟨b, 0, none⟩)) := by rw [Lib.cell_of_heap hbk]; rfl
  have c1 : w1.cell? ⟨b, 1, none⟩ = some v := by rw [Lib.cell_of_heap hbk]; rfl
  clear HCk h
  go_wp2_with (at_builtin; refine Lib.wpList_append_own_string _ rfl _ _ 90 9 rfl B 5 i0 Tryz.underlying90 Tryz.underlying9 hi hz0 hz1 hz2 _ _ _ rfl hown s rfl ?c3 ?c4 ?c5 ?_)
  case c3 => unfold maxLen; omega
  case c4 => omega
  case c5 => have := hb1.size; omega
  intro v' w2 hown' hgrow _
  have HK2 : Hid (KpT b w1 w2) := fun k cs T fz e h1 h2 => by
    rw [hgrow.block k (Array.getElem?_eq_some_iff.1 e).1 (fun e9 => ?_)]
    · exact e
    · obtain ⟨c', fz', e8⟩ := Lib.ownsRow_kind hown k e9.symm
      rw [e] at e8
      cases e8
      exact h1 rfl
  have hlt : b < w1.heap.size := by
    rcases Nat.lt_or_ge b w1.heap.size with h' | h'
    · exact h'
    · simp [Array.getElem?_eq_none h'] at hbk
  have hb2 : w2.heap[b]? = some (.cells #[.pointer (some ⟨b, 0, none⟩), v] 94 (0, 0)) := by
    rw [hgrow.block b hlt (fun e => hne e.symm)]
    exact hbk
  have d0 : w2.cell? ⟨b, 0, none⟩ = some (.pointer (some ⟨b, 0, none⟩)) := by rw [Lib.cell_of_heap hb2]; rfl
  have d1 : w2.cell? ⟨b, 1, none⟩ = some v := by rw [Lib.cell_of_heap hb2]; rfl
  have f1 : w2.frozen? ⟨b, 1, none⟩ = false := Lib.frozen_of_heap hb2 1
  obtain ⟨ao, n', cap, rfl⟩ : ∃ ao n' cap, v' = .slice ao n' cap := by
    rcases hown'.2 with ⟨hv, _⟩ | ⟨g, cap, cur, hv, _⟩
    · exact ⟨_, _, _, hv⟩
    · exact ⟨_, _, _, hv⟩
  go_wp2
  go_ret2
  refine ⟨rfl, ?_, ?_, (HK1.out.trans HK2.out).trans (KpT.set _ _ _ _)⟩
  · exact Lib.BuilderAt.put (T := 94) (e := 5) hB hb2 (bs' := bs ++ Lib.strCells s) (by simpa [Lib.strCells_length] using hown') (by decide)
  · exact (hb1.grown hgrow (by have := hb1.size; omega) (fun k hk => (hown.lt k hk).1)).setCell (p := ⟨b, 1, none⟩) hB _
set_option maxHeartbeats 1000000 in
set_option maxRecDepth 100000 in
theorem tlString (B b : Nat) (p : Value) (l : List UInt8) (w : World) (h : TlAt B b p (Lib.byteCells l) w) (h0 : l ≠ []) :
    Calls Tryz.prog 53 #[.pointer (some ⟨b, 0, none⟩)] w fun e w' => e = .returned (.string ⟨l.toArray⟩) ∧ Below B w w' := by
  obtain ⟨hB, v, hbk, hown, hne⟩ := h
  have hl0 : l.length ≠ 0 := by simpa using h0
  rw [Lib.byteCells_length] at hown
  obtain ⟨g, cap, cur, rfl, hbg, hg, hnc, hcm, hcs, htake⟩ : ∃ g cap cur, v = .slice (some ⟨g, 0, none⟩) l.length cap ∧ B ≤ g ∧ w.heap[g]? = some (.cells cur 5 (0, 0)) ∧ l.length ≤ cap ∧ cap ≤ maxLen ∧ cur.size = cap * 1 ∧ cur.toList.take (l.length * 1) = Lib.byteCells l := by
    rcases hown.2 with ⟨_, hz⟩ | ⟨g, cap, cur, hv, r⟩
    · exact absurd hz hl0
    · exact ⟨g, cap, cur, hv, r⟩
  have c1 : w.drew.cell? ⟨b, 1, none⟩ = some (.slice (some ⟨g, 0, none⟩) l.length cap) := by
    have : w.drew.heap[b]? = some (.cells #[p, .slice (some ⟨g, 0, none⟩) l.length cap] 94 (0, 0)) := hbk
    rw [Lib.cell_of_heap this]; rfl
  have hSD : (Builtin.unsafeSliceData_ #[90] 142 #[.slice (some ⟨g, 0, none⟩) l.length cap]).run Tryz.prog w.drew = .ok (.pointer (some ⟨g, 0, none⟩)) w.drew :=
    Lib.run_unsafeSliceData_row _ _ _ _ _ _ (by omega)
  have hUS : (Builtin.unsafeString_ #[142, 3] 9 #[.pointer (some ⟨g, 0, none⟩), .int .i64 l.length]).run Tryz.prog w.drew = .ok (.string ⟨l.toArray⟩) (w.drew.freeze ⟨g, 0, none⟩ l.length) := by
    refine Lib.run_unsafeString_row w.drew 142 3 9 5 Tryz.underlying142 (by kernel_rfl) g cur.size (by have hg' : w.drew.heap[g]? = some (.cells cur 5 (0, 0)) := hg; simp [World.shape?, hg']) l h0 (by omega) (by unfold maxLen at hcm; omega) ?_
    intro j x hx
    have := hown.cells (g := g) rfl j (.int .u8 x.toNat) (by simp [Lib.byteCells, hx])
    exact this
  have mixed : Tryz.prog.follows Departure.mixedOrders = true := by kernel_rfl
  go_enter Tryz.func53, Tryz.ntmps53
  go_wp2
  go_region_o
  all_goals (go_wp2; go_ret; exact ⟨rfl, Lib.below_freeze (Below.drew (Below.refl B w)) (p := ⟨g, 0, none⟩) hbg _⟩)
theorem TlAt.is {B b : Nat} {bs : List Value} {w : World} (h : TlAt B b (.pointer (some ⟨b, 0, none⟩)) bs w) : IsTl B b bs w := .inr h
theorem TlAt.lt {B b : Nat} {p : Value} {bs : List Value} {w : World} (h : TlAt B b p bs w) : b < w.heap.size := by
  obtain ⟨-, v, e, -⟩ := h
  exact (Array.getElem?_eq_some_iff.1 e).1
theorem IsTl.lt {B b : Nat} {bs : List Value} {w : World} (h : IsTl B b bs w) : b < w.heap.size := by
  rcases h with h | h <;> exact TlAt.lt h
/-- A teller whose world has grown. -/
theorem TlAt.below {B b : Nat} {p : Value} {bs : List Value} {w w' : World} (h : TlAt B b p bs w) (hb : Below w.heap.size w w') : TlAt B b p bs w' := by
  obtain ⟨hB, v, e, ho, hn⟩ := id h
  exact ⟨hB, v, by rw [hb.block b (TlAt.lt h)]; exact e, owns_same ho (fun g hg => hb.block g (ho.lt g hg).2), hn⟩
theorem IsTl.below {B b : Nat} {bs : List Value} {w w' : World} (h : IsTl B b bs w) (hb : Below w.heap.size w w') : IsTl B b bs w' := by
  rcases h with h | h
  · exact .inl (TlAt.below h hb)
  · exact .inr (TlAt.below h hb)
def flS (l : List ByteArray) : List Value := l.flatMap Lib.strCells
set_option maxHeartbeats 2000000 in
set_option maxRecDepth 100000 in
/-- Texts put one behind another. -/
theorem put_c (B b : Nat) (bs : List Value) (l : List ByteArray) (hl0 : l ≠ []) (g cap : Nat) (w : World) (h : IsTl B b bs w) (hlen : bs.length ≤ 100000) (hls : ∀ x ∈ l, x.size ≤ 100000) (hn : l.length ≤ 100) (hr : w.heap[g]? = some (.cells (l.map Value.string).toArray 9 (0, 0))) (hBw : B ≤ w.heap.size) (hgb : g ≠ b) :
    Calls Tryz.prog 99 #[.pointer (some ⟨b, 0, none⟩), .slice (some ⟨g, 0, none⟩) l.length cap] w fun e w' => e = .returned (.tuple #[]) ∧ (TlAt B b (.pointer (some ⟨b, 0, none⟩)) (bs ++ flS l) w' ∧ Below B w w' ∧ KpT b w w') := by
  obtain ⟨n, hln⟩ : ∃ n, l.length = n := ⟨_, rfl⟩
  have HN : Hid (l.length = n ∧ w.heap[g]? = some (.cells (l.map Value.string).toArray 9 (0, 0)) ∧ (∀ x ∈ l, x.size ≤ 100000) ∧ bs.length ≤ 100000 ∧ n ≤ 100 ∧ B ≤ w.heap.size ∧ g ≠ b ∧ 0 < n) := ⟨hln, hr, hls, hlen, by omega, hBw, hgb, by rw [← hln]; exact List.length_pos_iff.2 hl0⟩
  have hni : (n : Int) ≤ 100 := by omega
  have H0 : Hid (IsTl B b bs w) := h
  rw [hln]
  clear h hlen hls hn hr hBw hgb hln hl0
  go_enter Tryz.func99, Tryz.ntmps99
  go_wp2
  go_loopw [8] (fun v wr => ∃ k : Nat, v = .int .i64 (k : Int) ∧ Hid (k ≤ n ∧ (k = 0 → wr = w) ∧ (0 < k → TlAt B b (.pointer (some ⟨b, 0, none⟩)) (bs ++ flS (l.take k)) wr) ∧ Below B w wr ∧ KpT b w wr)) (fun v _ => n - (intOf v).toNat)
  case atStart => exact ⟨0, rfl, ⟨Nat.zero_le _, fun _ => rfl, fun h => absurd h (Nat.lt_irrefl _), Below.refl _ _, KpT.refl _ _⟩⟩
  case round =>
    obtain ⟨k, rfl, HI⟩ := hrel
    by_cases hk : k < n
    · have hkl : k < l.length := by rw [HN.out.1]; exact hk
      obtain ⟨i1, i2, i3, i4, i5⟩ := HI.out
      have hrow : wr.heap[g]? = some (.cells (l.map Value.string).toArray 9 (0, 0)) := i5 g _ _ _ HN.out.2.1 (by decide) HN.out.2.2.2.2.2.2.1
      have hx : wr.cell? ⟨g, k, none⟩ = some (.string l[k]) := by rw [Lib.cell_of_heap hrow]; simp [hkl]
      have hgr : g < wr.heap.size := (Array.getElem?_eq_some_iff.1 hrow).1
      have hT : IsTl B b (bs ++ flS (l.take k)) wr := by
        rcases Nat.eq_zero_or_pos k with e | e
        · subst e
          rw [i2 rfl]
          simpa [flS] using H0.out
        · exact .inr (i3 e)
      have hfl : (flS (l.take k)).length ≤ k * 100000 := by
        have : ∀ (m : List ByteArray), (∀ x ∈ m, x.size ≤ 100000) → (flS m).length ≤ m.length * 100000 := by
          intro m
          induction m with
          | nil => intro _; simp [flS]
          | cons a r ih =>
            intro hm
            have h1 := ih (fun x hx => hm x (List.mem_cons_of_mem _ hx))
            have h2 := hm a (by simp)
            unfold flS at h1 ⊢
            rw [List.flatMap_cons, List.length_append, Lib.strCells_length, List.length_cons, Nat.add_mul]
            omega
        have h9 := this (l.take k) (fun x hx => HN.out.2.2.1 x (List.mem_of_mem_take hx))
        rw [List.length_take, Nat.min_eq_left (by omega)] at h9
        exact h9
      have HW : Hid (Calls Tryz.prog 132 #[.pointer (some ⟨b, 0, none⟩), .string l[k]] wr fun e w' => e = .returned (.tuple #[.int .i64 l[k].size, .nilIface]) ∧ (TlAt B b (.pointer (some ⟨b, 0, none⟩)) ((bs ++ flS (l.take k)) ++ Lib.strCells l[k]) w' ∧ Below B wr w' ∧ KpT b wr w')) := tlWrite B b _ l[k] wr hT (by rw [List.length_append]; have := HN.out.2.2.1 _ (List.getElem_mem hkl); have := HN.out; omega) (Nat.le_trans HN.out.2.2.2.2.2.1 i4.size)
      have lb : b < wr.heap.size := hT.lt
      have hki : (k : Int) < (n : Int) := by omega
      obtain ⟨nk, hnk⟩ : ∃ nk, l[k] = nk := ⟨_, rfl⟩
      have HT : Hid (k < n ∧ flS (l.take (k + 1)) = flS (l.take k) ++ Lib.strCells nk) := ⟨hk, by rw [List.take_succ_eq_append_getElem hkl, hnk]; unfold flS; rw [List.flatMap_append]; simp⟩
      rw [hnk] at hx HW
      clear hk hkl hnk hT hrow i1 i2 i3 i4 i5 hfl
      go_wp2_with (go_at_call 132; fail)
      refine HW.out.mono ?_
      rintro e w1 ⟨rfl, q1, q2, q3⟩
      have HQ : Hid (TlAt B b (.pointer (some ⟨b, 0, none⟩)) ((bs ++ flS (l.take k)) ++ Lib.strCells nk) w1 ∧ Below B wr w1 ∧ KpT b wr w1) := ⟨q1, q2, q3⟩
      clear q1 q2 q3 HW
      go_wp2
      refine ⟨⟨k + 1, by congr 1, ⟨HT.out.1, fun e => absurd e (Nat.succ_ne_zero _), fun _ => ?_, HI.out.2.2.2.1.trans HQ.out.2.1, HI.out.2.2.2.2.trans HQ.out.2.2⟩⟩, ?_⟩
      · rw [HT.out.2, ← List.append_assoc]
        exact HQ.out.1
      · show n - ((k : Int) + 1).toNat < n - ((k : Int)).toNat
        have := HT.out.1; omega
    · have hki : ¬ (k : Int) < (n : Int) := by omega
      have hkn : k = n := by have := HI.out.1; omega
      subst hkn
      clear hk
      go_wp2
      go_end0
      obtain ⟨i1, i2, i3, i4, i5⟩ := HI.out
      have h9 := i3 HN.out.2.2.2.2.2.2.2
      rw [List.take_of_length_le (by have := HN.out.1; omega)] at h9
      exact ⟨rfl, h9, i4, i5⟩
end Go.Proofs.YtegdloenakachaaGreatDoor

namespace Go.Proofs.YtegdloenakachaaGreatDoor
open Go.RowKit Go.Shelf Go.Maps
set_option linter.unusedVariables false

def ObI (w : World) (k : Nat) (wr : World) : Prop := k ≤ 5 ∧ (∃ c F, c ≤ k ∧ SetIs wr w.heap.size c F ∧ ∀ i (h : i < bi7.length), i < k → F bi7[i].2.2.1.data.toList = true) ∧ Blk wr (w.heap.size + 1) bi7V 59 ∧ Below w.heap.size w wr
theorem ObI.next {w wr W2 : World} {k c : Nat} {F : List UInt8 → Bool} {V : World} (hk : k < bi7.length) (h : ObI w k wr) (hc : c ≤ k) (hS : ∀ i (h : i < bi7.length), i < k → F bi7[i].2.2.1.data.toList = true) (hV : Below wr.heap.size wr V) (h2 : SetIs W2 w.heap.size (c + 1) (fun x => (x == bi7[k].2.2.1.data.toList) || F x)) (hb : But w.heap.size V W2) : ObI w (k + 1) W2 := by
  obtain ⟨h1, -, h3, h4⟩ := h
  have hBV : Below w.heap.size w V := h4.trans (hV.mono h4.size)
  refine ⟨hk, ⟨c + 1, _, by omega, h2, fun i hi hik => ?_⟩, ?_, ?_⟩
  · by_cases e : i = k
    · subst e; simp
    · show ((_ == _) || F _) = true
      rw [hS i hi (by omega), Bool.or_true]
  · have := h3.below hV
    unfold Blk at this ⊢
    rw [hb.block _ (by have := h3.lt; have := hV.size; omega) (by omega)]
    exact this
  · exact ⟨hb.os.trans hBV.os, hb.tape.trans hBV.tape, hb.output.trans hBV.output, Nat.le_trans hBV.size hb.size, fun j hj => (hb.block j (Nat.lt_of_lt_of_le hj hBV.size) (by omega)).trans (hBV.block j hj)⟩
def OcI (w : World) (k : Nat) (v : Value) (wr : World) : Prop := k ≤ 5 ∧ wr.ownsRow (w.heap.size + 2) 59 4 v k (bi7V.toList.take (k * 4)) ∧ (∃ c F, SetIs wr w.heap.size c F ∧ ∀ i (h : i < bi7.length), F bi7[i].2.2.1.data.toList = true) ∧ Below w.heap.size w wr ∧ w.heap.size + 2 ≤ wr.heap.size
theorem infoCon7 : (Tryz.prog.info? 59).map (fun i => (i.zero, i.size, i.bytes)) = some (some (.agg #[.string ⟨#[]⟩, .int .i64 0, .string ⟨#[]⟩, .int .i64 0]), 4, 48) := by kernel_rfl
theorem bi7V_at : ∀ k (h : k < bi7.length), bi7V.toList.take ((k + 1) * 4) = bi7V.toList.take (k * 4) ++ [.string bi7[k].1, .int .i64 bi7[k].2.1, .string bi7[k].2.2.1, .int .i64 bi7[k].2.2.2] := by
  intro k h
  have h5 : k < 5 := h
  rcases (by omega : k = 0 ∨ k = 1 ∨ k = 2 ∨ k = 3 ∨ k = 4) with rfl | rfl | rfl | rfl | rfl <;> rfl
theorem news_four (W : World) (a b c d : Value) (t : TypeId) (N : Nat) (hN : W.heap.size = N) : ∀ j u, [a, b, c, d][j]? = some u → (W.alloc (.cells #[a, b, c, d] t)).cell? ((⟨N, 0, none⟩ : Addr).add j) = some u := by
  subst hN
  intro j u hj
  have hk := Blk.new W #[a, b, c, d] t
  rw [Addr.add_lit]
  refine hk.cell _ _ ?_
  rw [Nat.zero_add]
  simpa using hj
set_option maxRecDepth 100000 in
set_option maxHeartbeats 4000000 in
theorem ofBt_c (g cap : Nat) (w : World) (hB : Blk w g bi7V 59) :
    Calls Tryz.prog 81 #[.slice (some ⟨g, 0, none⟩) 5 cap] w fun r w' => ∃ v, r = .returned v ∧ w'.ownsRow (w.heap.size + 2) 59 4 v 5 bi7V.toList ∧ Below w.heap.size w w' := by
  have hmm : ∀ W : World, (Instr.makeMap 65 none).run Tryz.prog W = .ok (.map (some W.heap.size)) (W.alloc (.map #[] 0)) := fun W => rfl
  have HG : Hid (Blk w g bi7V 59) := hB
  have hgw := hB.lt
  have HBu : Hid (Calls Tryz.prog 7 #[] (w.alloc (.map #[] 0)) fun e w' => e = .returned (.slice (some ⟨w.heap.size + 1, 0, none⟩) 5 5) ∧ ObI w 0 w') := by
    have h9 := builtin7_c (w.alloc (.map #[] 0))
    have hs : (w.alloc (.map #[] 0)).heap.size = w.heap.size + 1 := Array.size_push _
    rw [hs] at h9
    refine h9.mono ?_
    rintro e w' ⟨rfl, k1, k2⟩
    have hs2 := setIs_new w
    have hb1 := below1 w (.map #[] 0)
    refine ⟨rfl, by omega, ⟨0, fun _ => false, Nat.le_refl _, hs2.same (k2.block _ (by omega)), fun i h hi => absurd hi (Nat.not_lt_zero _)⟩, k1, hb1.trans (k2.mono (by omega))⟩
  obtain ⟨i0, hi0, hz0, hz1, hz2⟩ := info_parts infoCon7
  have HI0 : Hid (Tryz.prog.info? 59 = some i0 ∧ i0.zero = some (.agg #[.string ⟨#[]⟩, .int .i64 0, .string ⟨#[]⟩, .int .i64 0]) ∧ i0.size = 4 ∧ i0.bytes = 48) := ⟨hi0, hz0, hz1, hz2⟩
  clear hB hi0 hz0 hz1 hz2
  go_enter Tryz.func81, Tryz.ntmps81
  go_wp2_with (go_at_call 7; fail)
  refine HBu.out.mono ?_
  rintro e w1 ⟨rfl, hO⟩
  have HO : Hid (ObI w 0 w1) := hO
  clear hO HBu hmm
  go_wp2
  go_loopw [14] (fun v wr => ∃ k : Nat, v = .int .i64 (k : Int) ∧ Hid (ObI w k wr)) (fun v _ => 5 - (intOf v).toNat)
  case atStart => exact ⟨0, rfl, HO.out⟩
  case round =>
    clear HO
    obtain ⟨k, rfl, HI⟩ := hrel
    by_cases hk : k < 5
    · have hkl : k < bi7.length := hk
      obtain ⟨c0, c1, c2, c3⟩ : ConAt wr bi7[k] (w.heap.size + 1) (k * 4) := by
        rcases bi7_row HI.out.2.2.1 (Nat.lt_succ_self _) with h9 | ⟨g', off', e, hg, h9⟩
        · cases h9
        · cases e
          have := h9 k hkl
          rw [Nat.zero_add] at this
          exact this
      have lG : w.heap.size + 1 < wr.heap.size := HI.out.2.2.1.lt
      obtain ⟨x1, x2, x3, x4, x5, x6⟩ := bi7_nm k hkl
      obtain ⟨-, ⟨c, F, hc, hS, hF⟩, -, hBw⟩ := id HI.out
      obtain ⟨nn, hnn⟩ : ∃ f, bi7[k] = f := ⟨_, rfl⟩
      have HNx := fun (W2 V : World) (hV : Below wr.heap.size wr V) => ObI.next (W2 := W2) (V := V) hkl HI.out hc hF hV
      rw [hnn] at c0 c1 c2 c3 x5 HNx
      obtain ⟨nm, ar, ty, tg⟩ := nn
      simp only at c0 c1 c2 c3 x5 HNx
      have hki : (k : Int) < 5 := by omega
      have hSV : SetIs (wr.alloc (.cells #[.string nm, .int .i64 ar, .string ty, .int .i64 tg] 59)) w.heap.size c F := hS.same ((below1 wr _).block _ hS.lt)
      obtain ⟨W2, hr2, hp2, hg2⟩ := hSV.put (by omega) ty (by unfold maxLen; omega)
      have HE : Hid (ObI w (k + 1) W2) := HNx W2 _ (below1 wr _) hp2 hg2
      clear HNx hp2 hg2 hSV hS hF hnn x1 x2 x3 x4 x5 x6 hBw
      go_wp2
      refine ⟨⟨k + 1, by congr 1, HE.out⟩, ?_⟩
      show 5 - ((k : Int) + 1).toNat < 5 - ((k : Int)).toNat
      omega
    · have hki : ¬ (k : Int) < 5 := by omega
      have hk5 : k = 5 := by have := HI.out.1; omega
      subst hk5
      have HO2 : Hid (OcI w 0 (.slice none 0 0) wr) := by
        obtain ⟨-, ⟨c, F, hc, hS, hF⟩, h3, hBw⟩ := HI.out
        exact ⟨by omega, World.ownsRow_nil _ _ _ _, ⟨c, F, hS, fun i h => hF i h h⟩, hBw, by have := h3.lt; omega⟩
      clear hk HI
      obtain ⟨wo, hwo⟩ : ∃ wo, wo = wr := ⟨_, rfl⟩
      subst hwo
      go_wp2
      go_loopw [25, 6] (fun v u wr => ∃ k : Nat, v = .int .i64 (k : Int) ∧ Hid (OcI w k u wr)) (fun v _ _ => 5 - (intOf v).toNat)
      case atStart => exact ⟨0, rfl, HO2.out⟩
      case round =>
        clear HO2
        obtain ⟨k, rfl, HI⟩ := hrel
        by_cases hk : k < 5
        · have hkl : k < bi7.length := hk
          obtain ⟨h1, h2, ⟨c, F, hS, hF⟩, hBw, hsz⟩ := id HI.out
          obtain ⟨c0, c1, c2, c3⟩ : ConAt wr bi7[k] g (k * 4) := by
            rcases bi7_row HG.out (Nat.lt_succ_self _) with h9 | ⟨g', off', e, hg, h9⟩
            · cases h9
            · cases e
              have := h9 k hkl
              rw [Nat.zero_add] at this
              exact this.same (hBw.block g hgw)
          have lG : g < wr.heap.size := Nat.lt_of_lt_of_le hgw hBw.size
          obtain ⟨x1, x2, x3, x4, x5, x6⟩ := bi7_nm k hkl
          have hFk := hF k hkl
          have hVk := bi7V_at k hkl
          obtain ⟨nn, hnn⟩ : ∃ f, bi7[k] = f := ⟨_, rfl⟩
          rw [hnn] at c0 c1 c2 c3 x5 hFk hVk
          obtain ⟨nm, ar, ty, tg⟩ := nn
          simp only at c0 c1 c2 c3 x5 hFk hVk
          have hki : (k : Int) < 5 := by omega
          have hSV : SetIs (wr.alloc (.cells #[.string nm, .int .i64 ar, .string ty, .int .i64 tg] 59)) w.heap.size c F := hS.same ((below1 wr _).block _ hS.lt)
          have hr := hSV.look ty (by unfold maxLen; omega)
          rw [hFk] at hr
          have HO : Hid (wr.ownsRow (w.heap.size + 2) 59 4 u6 k (bi7V.toList.take (k * 4))) := h2
          have HVk : Hid (bi7V.toList.take ((k + 1) * 4) = bi7V.toList.take (k * 4) ++ [.string nm, .int .i64 ar, .string ty, .int .i64 tg]) := hVk
          have hsz2 : w.heap.size + 2 ≤ wr.heap.size := hsz
          clear h1 h2 hS hF hBw hsz x1 x2 x3 x4 x5 x6 hFk hVk hnn hSV
          have HVs : Hid (((wr.alloc (.cells #[.string nm, .int .i64 ar, .string ty, .int .i64 tg] 59)).alloc (.cells #[] 63)).heap.size = wr.heap.size + 1 + 1) := by show (Array.push _ _).size = _; rw [Array.size_push]; show (Array.push _ _).size + 1 = _; rw [Array.size_push]
          have hkn : k ≤ 5 := by omega
          go_wp2_with (at_builtin; refine wpList_append_lies _ rfl _ _ 23 rfl (w.heap.size + 2) 59 i0 (.agg #[.string ⟨#[]⟩, .int .i64 0, .string ⟨#[]⟩, .int .i64 0]) 4 48 Tryz.underlying23 HI0.out.1 HI0.out.2.1 HI0.out.2.2.1 HI0.out.2.2.2 rfl (by decide) _ _ _ rfl (((HO.out.alloc _).alloc _).alloc _) ⟨wr.heap.size + 1 + 1, 0, none⟩ 1 1 [.string nm, .int .i64 ar, .string ty, .int .i64 tg] rfl rfl (news_four _ _ _ _ _ _ _ HVs.out) (by simp [Value.oneCell']) (by decide) (by unfold maxLen; omega) (by omega) (by show _ ≤ (Array.push _ _).size; rw [Array.size_push, HVs.out]; omega) _ rfl ?_; intro o8 c8 w8 hown8 hgrow8 hat8 hlt8; have H8 : Hid ((((wr.alloc (.cells #[.string nm, .int .i64 ar, .string ty, .int .i64 tg] 59)).alloc (.cells #[] 63)).alloc (.cells #[.string nm, .int .i64 ar, .string ty, .int .i64 tg] 59)).grownBy w8 u6.ownBlock ∧ w8.ownsRow (w.heap.size + 2) 59 4 (.slice (some ⟨o8, 0, none⟩) (k + 1) c8) (k + 1) (bi7V.toList.take (k * 4) ++ [.string nm, .int .i64 ar, .string ty, .int .i64 tg])) := ⟨hgrow8, hown8⟩; clear hown8 hgrow8 hat8 hlt8)
          refine ⟨⟨k + 1, by congr 1, ?_⟩, ?_⟩
          · obtain ⟨h1, h2, ⟨c, F, hS, hF⟩, hBw, hsz⟩ := HI.out
            obtain ⟨g8, o8'⟩ := H8.out
            have b3 : Below wr.heap.size wr (((wr.alloc (.cells #[.string nm, .int .i64 ar, .string ty, .int .i64 tg] 59)).alloc (.cells #[] 63)).alloc (.cells #[.string nm, .int .i64 ar, .string ty, .int .i64 tg] 59)) := ((below1 wr _).trans ((below1 _ _).mono (below1 wr _).size)).trans ((below1 _ _).mono (by rw [HVs.out]; omega))
            have hne : ∀ j, u6.ownBlock = some j → w.heap.size + 2 ≤ j := fun j hj => (h2.lt j hj).1
            have bw : Below w.heap.size w (((wr.alloc (.cells #[.string nm, .int .i64 ar, .string ty, .int .i64 tg] 59)).alloc (.cells #[] 63)).alloc (.cells #[.string nm, .int .i64 ar, .string ty, .int .i64 tg] 59)) := hBw.trans (b3.mono hBw.size)
            refine ⟨by omega, by rw [HVk.out]; exact o8', ⟨c, F, hS.same ?_, hF⟩, bw.grown g8 bw.size (fun j hj => by have := hne j hj; omega), ?_⟩
            · exact (g8.block _ (by have := b3.size; omega) (fun e => by have := hne _ e.symm; omega)).trans (b3.block _ (by omega))
            · have := g8.size; have := b3.size; omega
          · show 5 - ((k : Int) + 1).toNat < 5 - ((k : Int)).toNat
            omega
        · have hki : ¬ (k : Int) < 5 := by omega
          have hk5 : k = 5 := by have := HI.out.1; omega
          subst hk5
          clear hk
          go_wp2
          go_ret
          obtain ⟨-, h2, -, hBw, -⟩ := HI.out
          have e : bi7V.toList.take (5 * 4) = bi7V.toList := rfl
          rw [e] at h2
          exact ⟨_, rfl, h2, hBw⟩
end Go.Proofs.YtegdloenakachaaGreatDoor

namespace Go.Proofs.YtegdloenakachaaGreatDoor
open Go.RowKit Go.Shelf Go.Maps
set_option linter.unusedVariables false

/-- The cells of a constructor. -/
def cnL (c : CT) : List Value := [.string c.1, .int .i64 c.2.1, .string c.2.2.1, .int .i64 c.2.2.2]
def cnE (a b : CT) : Bool := (a.1.toList == b.1.toList) && (decide (a.2.1 = b.2.1) && ((a.2.2.1.toList == b.2.2.1.toList) && decide (a.2.2.2 = b.2.2.2)))
theorem stoodC : Tryz.prog.stoodInHeld 59 = false := by kernel_rfl
theorem guardC : Tryz.prog.eqGuardType Tryz.prog.depth 59 = false := by kernel_rfl
theorem fieldsC : Tryz.prog.underlying 59 = some (.struct (Tryz.prog.fieldsOf 59)) := by kernel_rfl
set_option maxRecDepth 100000 in
theorem cn_neq : NeqAt Tryz.prog 59 (fun x : CT => .agg (cnL x).toArray) cnE := by
  refine ⟨fun x y W => ?_, fun op a b x y W => run_eqGuard_agg _ op 59 a b _ _ guardC⟩
  obtain ⟨n1, a1, t1, g1⟩ := x
  obtain ⟨n2, a2, t2, g2⟩ := y
  unfold cnL cnE
  simp only
  rw [run_neq_struct, run_equalIn_struct W 9999 59 _ _ fieldsC stoodC]
  simp [Program.fieldsOf, Tryz.underlying59, Op.eqFields, go_sem]
  by_cases h1 : n1.toList = n2.toList <;> by_cases h2 : a1 = a2 <;> by_cases h3 : t1.toList = t2.toList <;> by_cases h4 : g1 = g2 <;> simp [h1, h2, h3, h4]
theorem bi7_cells : ∀ j, j < bi7.length → ∀ i v, (cnL bi7[j]!)[i]? = some v → bi7V[j * 4 + i]? = some v := by
  intro j hj i v h
  have h5 : j < 5 := hj
  have hi : i < 4 := by have := (List.getElem?_eq_some_iff.1 h).1; simpa [cnL] using this
  rw [← h]
  rcases (by omega : j = 0 ∨ j = 1 ∨ j = 2 ∨ j = 3 ∨ j = 4) with rfl | rfl | rfl | rfl | rfl <;> rcases (by omega : i = 0 ∨ i = 1 ∨ i = 2 ∨ i = 3) with rfl | rfl | rfl | rfl <;> rfl
theorem bi7_allEq : Lib.allEq cnE (bi7.take 5) (bi7.take 5) = true := by kernel_rfl
theorem equalBi_c (b1 c b2 d : Nat) (w : World) (h1 : ∀ j v, bi7V[j]? = some v → w.cell? ⟨b1, j, none⟩ = some v) (h2 : ∀ j v, bi7V[j]? = some v → w.cell? ⟨b2, j, none⟩ = some v) :
    Calls Tryz.prog 80 #[.slice (some ⟨b1, 0, none⟩) 5 c, .slice (some ⟨b2, 0, none⟩) 5 d] w fun r w' => r = .returned (.bool true) ∧ Below w.heap.size w w' := by
  refine (AnyQ.slices_Equal Tryz.qEqualCon 4 Tryz.isAgg59 Tryz.sizeOf59 cnL (fun x => rfl) cnE cn_neq b1 0 5 c b2 0 5 d bi7 bi7 w (Nat.le_refl _) (Nat.le_refl _) (by omega) (by omega) (fun j hj i v h => ?_) (fun j hj i v h => ?_)).mono ?_
  · rw [Nat.zero_add]; exact h1 _ _ (bi7_cells j hj i v h)
  · rw [Nat.zero_add]; exact h2 _ _ (bi7_cells j hj i v h)
  · rintro r w' ⟨rfl, q, rfl⟩
    exact ⟨by rw [bi7_allEq], dqb w q⟩
theorem bi7_dl : (dl (bi7.map Prod.fst)).Nodup := by decide
theorem consMayBe_c (g cap : Nat) (w : World) (hB : Blk w g bi7V 59) :
    Calls Tryz.prog 40 #[.slice (some ⟨g, 0, none⟩) 5 cap] w fun e w' => e = .returned (.bool true) ∧ Below w.heap.size w w' := by
  refine consLoop g cap w hB (fun wr hI => ?_)
  obtain ⟨-, ⟨arr, r1, r2, r3⟩, hBw⟩ := hI
  have hlt := r1.lt
  have hT : TxIn wr (w.heap.size + 1) (some ⟨w.heap.size, 0, none⟩) (bi7.map Prod.fst) := by
    refine .inr ⟨w.heap.size, 0, rfl, by omega, fun k hk => ?_⟩
    rw [List.length_map] at hk
    rw [Nat.zero_add, List.getElem_map]
    exact r1.cell _ _ (r3 k hk hk)
  have ha := areNames_c (bi7.map Prod.fst) (some ⟨w.heap.size, 0, none⟩) 5 (w.heap.size + 1) wr hT (by omega) (by decide) (by
    intro x hx
    obtain ⟨f, hf, rfl⟩ := List.mem_map.1 hx
    obtain ⟨k, hk, rfl⟩ := List.getElem_of_mem hf
    have := (bi7_nm k hk).2.2.2.2.2
    unfold maxLen; omega)
  have hA : areB (bi7.map Prod.fst) = true := by
    unfold areB
    rw [decide_eq_true bi7_dl, Bool.and_true, List.all_eq_true]
    intro x hx
    obtain ⟨f, hf, rfl⟩ := List.mem_map.1 hx
    obtain ⟨k, hk, rfl⟩ := List.getElem_of_mem hf
    exact (bi7_nm k hk).2.1
  rw [hA] at ha
  refine ha.mono ?_
  rintro e w1 ⟨rfl, hb1⟩
  have hB1 : Below w.heap.size w w1 := hBw.trans (hb1.mono hBw.size)
  refine ⟨rfl, hB1, ?_⟩
  have hk1 : Blk w1 g bi7V 59 := by unfold Blk; rw [hB1.block g hB.lt]; exact hB
  refine (ofBt_c g cap w1 hk1).mono ?_
  rintro r w2 ⟨v, rfl, ho, hb2⟩
  obtain ⟨g2, c2, rfl, hg2, hg2'⟩ := ho.form (by omega)
  have hB2 : Below w.heap.size w w2 := hB1.trans (hb2.mono hB1.size)
  refine ⟨_, c2, rfl, hB2, ?_⟩
  refine (builtin7_c w2).mono ?_
  rintro r w3 ⟨rfl, hk3, hb3⟩
  have hB3 : Below w.heap.size w w3 := hB2.trans (hb3.mono hB2.size)
  refine ⟨_, rfl, hB3, ?_⟩
  refine (equalBi_c g2 c2 w2.heap.size 5 w3 (fun j v hj => ?_) (fun j v hj => hk3.cell j v hj)).mono ?_
  · rw [cell_of_block (hb3.block g2 hg2') j, ho.cellAt j (by have := (Array.getElem?_eq_some_iff.1 hj).1; exact this)]
    rw [Array.getElem?_toList]; exact hj
  · rintro r w4 ⟨rfl, hb4⟩
    exact ⟨rfl, hB3.trans (hb4.mono hB3.size)⟩
/-- Whether a text stands in a row. -/
theorem rowMain : ∀ s : ByteArray, ((⟨#[109, 97, 105, 110]⟩ : ByteArray).toList == s.toList) = (s.toList == (⟨#[109, 97, 105, 110]⟩ : ByteArray).toList) := fun s => by rw [Bool.beq_comm]
end Go.Proofs.YtegdloenakachaaGreatDoor

namespace Go.Proofs.YtegdloenakachaaGreatDoor
open Go.RowKit Go.Shelf Go.Maps
set_option linter.unusedVariables false

def hasT (x : ByteArray) (l : List ByteArray) : Bool := l.any (fun s => x.toList == s.toList)
def IxPost (x : ByteArray) (l : List ByteArray) (w : World) (r : Ending) (w' : World) : Prop := ∃ z : Int, r = .returned (.int .i64 z) ∧ (0 ≤ z ↔ hasT x l = true) ∧ w' = w
set_option maxRecDepth 100000 in
set_option maxHeartbeats 4000000 in
theorem index7_c (x : ByteArray) (l : List ByteArray) (o : Option Addr) (cap B : Nat) (w : World) (hl : TxIn w B o l) (hw : B ≤ w.heap.size) (hn : l.length ≤ 2000000) :
    Calls Tryz.prog 88 #[.slice o l.length cap, .string x] w fun r w' => IxPost x l w r w' := by
  obtain ⟨n, hln⟩ : ∃ n, l.length = n := ⟨_, rfl⟩
  have HN : Hid (TxIn w B o l ∧ B ≤ w.heap.size ∧ l.length = n) := ⟨hl, hw, hln⟩
  have hni : (n : Int) ≤ 2000000 := by omega
  rw [hln]
  clear hl hw hln hn
  go_enter Tryz.func88, Tryz.ntmps88
  go_wp2
  go_loopw [8] (fun v wr => ∃ k : Nat, v = .int .i64 (k : Int) ∧ wr = w ∧ Hid (k ≤ n ∧ hasT x (l.take k) = false)) (fun v _ => n - (intOf v).toNat)
  case atStart => exact ⟨0, rfl, rfl, ⟨Nat.zero_le _, rfl⟩⟩
  case round =>
    obtain ⟨k, rfl, hwr, HI⟩ := hrel
    have hwr := hwr.symm
    subst hwr
    by_cases hk : k < n
    · have hkl : k < l.length := by rw [HN.out.2.2]; exact hk
      obtain ⟨g, off, rfl, hg, hx⟩ : ∃ g off, o = some ⟨g, off, none⟩ ∧ g < B ∧ w.cell? ⟨g, off + k, none⟩ = some (.string l[k]) := by
        rcases HN.out.1 with h9 | ⟨g, off, e, hg, h9⟩
        · rw [h9] at hkl; exact absurd hkl (Nat.not_lt_zero _)
        · exact ⟨g, off, e, hg, h9 k hkl⟩
      have hgw : g < w.heap.size := by have := HN.out.2.1; omega
      have hki : (k : Int) < (n : Int) := by omega
      obtain ⟨nk, hnk⟩ : ∃ nk, l[k] = nk := ⟨_, rfl⟩
      have HT : Hid (k < n ∧ l.take (k + 1) = l.take k ++ [nk] ∧ nk ∈ l) := ⟨hk, by rw [List.take_succ_eq_append_getElem hkl, hnk], by rw [← hnk]; exact List.getElem_mem hkl⟩
      rw [hnk] at hx
      clear hk hkl hg hnk
      cases hb : (x.toList == nk.toList) with
      | true =>
        have HX : Hid (hasT x l = true) := List.any_eq_true.2 ⟨nk, HT.out.2.2, hb⟩
        go_wp2
        go_ret
        exact ⟨_, rfl, ⟨fun _ => HX.out, fun _ => by omega⟩, rfl⟩
      | false =>
        have HX : Hid (hasT x (l.take (k + 1)) = false) := by
          have h1 := HI.out.2
          show List.any _ _ = _
          unfold hasT at h1
          rw [HT.out.2.1, List.any_append, h1]
          simp [hb]
        go_wp2
        refine ⟨⟨k + 1, by congr 1, trivial, ⟨HT.out.1, HX.out⟩⟩, ?_⟩
        show n - ((k : Int) + 1).toNat < n - ((k : Int)).toNat
        have := HT.out.1; omega
    · have hki : ¬ (k : Int) < (n : Int) := by omega
      have HX : Hid (hasT x l = false) := by
        have h1 := HI.out.2
        rw [List.take_of_length_le (by have := HN.out.2.2; omega)] at h1
        exact h1
      clear hk
      go_wp2
      go_ret
      exact ⟨_, rfl, ⟨fun h => by omega, fun h => by rw [HX.out] at h; cases h⟩, rfl⟩
set_option maxRecDepth 100000 in
set_option maxHeartbeats 4000000 in
theorem contains7_c (x : ByteArray) (l : List ByteArray) (o : Option Addr) (cap B : Nat) (w : World) (hl : TxIn w B o l) (hw : B ≤ w.heap.size) (hn : l.length ≤ 2000000) :
    Calls Tryz.prog 44 #[.slice o l.length cap, .string x] w fun r w' => r = .returned (.bool (hasT x l)) ∧ w' = w := by
  have HC : Hid (Calls Tryz.prog 88 #[.slice o l.length cap, .string x] w fun r w' => IxPost x l w r w') := index7_c x l o cap B w hl hw hn
  obtain ⟨n, hln⟩ : ∃ n, l.length = n := ⟨_, rfl⟩
  rw [hln] at HC ⊢
  obtain ⟨b, hb⟩ : ∃ b, hasT x l = b := ⟨_, rfl⟩
  have HB : Hid (hasT x l = b) := hb
  rw [hb]
  clear hl hw hn hln hb
  go_enter Tryz.func44, Tryz.ntmps44
  go_wp2_with (go_at_call 88; fail)
  refine HC.out.mono ?_
  rintro e w1 ⟨z, rfl, hz, rfl⟩
  rw [HB.out] at hz
  clear HC HB
  cases b with
  | true =>
    have hz0 : 0 ≤ z := hz.2 rfl
    clear hz
    go_wp2
    go_ret
    exact ⟨by first | rfl | simp [hz0], rfl⟩
  | false =>
    have hz0 : ¬ 0 ≤ z := fun h => by have := hz.1 h; cases this
    clear hz
    go_wp2
    go_ret
    exact ⟨by first | rfl | simp [hz0], rfl⟩
end Go.Proofs.YtegdloenakachaaGreatDoor
