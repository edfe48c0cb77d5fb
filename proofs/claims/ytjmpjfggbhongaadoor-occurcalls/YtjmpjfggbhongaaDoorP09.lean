/-
  Of the core, what is wanted here: part 9.
-/
import Derived.Lib.OwnKind
import Derived.Shelf.Strings.Builder1
import Derived.ProofKit
import Derived.OpenShut
import Derived.Deep.Slices
import Derived.Lib.ItoaNum
import Derived.Lib.LaidTab
import Derived.Lib.AppendIntMem
import Derived.Lib.ItoaMem
import Derived.Lib.ItoaLen
import Derived.Laws.Concat
import Derived.Test.YtjmpjfggbhongaaDoorP08
namespace Go.Proofs.YtjmpjfggbhongaaDoor
open Go.RowKit Go.Shelf Go.Maps
set_option linter.unusedVariables false
/-- A block that may be written. -/
def Uf (W : World) (g : Nat) : Prop := ∃ cur e, W.heap[g]? = some (.cells cur e (0, 0)) ∧ e ≠ 148
theorem Uf.frozen {W : World} {g : Nat} (h : Uf W g) (j : Nat) : W.frozen? ⟨g, j, none⟩ = false := by
  obtain ⟨cur, e, h, -⟩ := h
  simp [World.frozen?, h]
theorem Uf.lt {W : World} {g : Nat} (h : Uf W g) : g < W.heap.size := by
  obtain ⟨cur, e, h, -⟩ := h
  exact (Array.getElem?_eq_some_iff.1 h).1
theorem Uf.same {W W' : World} {g : Nat} (h : Uf W g) (hb : W'.heap[g]? = W.heap[g]?) : Uf W' g := by
  obtain ⟨cur, e, h, hn⟩ := h
  exact ⟨cur, e, by rw [hb]; exact h, hn⟩
theorem Uf.set {W : World} {g : Nat} (h : Uf W g) (b j : Nat) (u : Value) : Uf (W.setCell ⟨b, j, none⟩ u) g := by
  obtain ⟨cur, e, h, hn⟩ := h
  by_cases hb : g = b
  · subst hb
    obtain ⟨hlt, hk⟩ := Array.getElem?_eq_some_iff.1 h
    refine ⟨cur.setIfInBounds j u, e, ?_, hn⟩
    show (W.heap.modify g _)[g]? = _
    rw [Array.getElem?_eq_getElem (by rw [Array.size_modify]; exact hlt), Array.getElem_modify_self, hk]
    rfl
  · exact ⟨cur, e, (heap_set_other W b j u g hb).trans h, hn⟩
theorem Blk.uf {W : World} {B : Nat} {vs : Array Value} {T : TypeId} (h : Blk W B vs T) (hT : T ≠ 148) : Uf W B := ⟨vs, T, h, hT⟩
/-- Texts in a block of their own. -/
def OwTx (W : World) (lo hi : Nat) (o : Option Addr) (l : List ByteArray) : Prop := l = [] ∨ ∃ g, o = some ⟨g, 0, none⟩ ∧ lo ≤ g ∧ g < hi ∧ Uf W g ∧ ∀ k (h : k < l.length), W.cell? ⟨g, k, none⟩ = some (.string l[k])
/-- A row in a block of its own, its parts' own blocks behind it, one part's behind another's. -/
def OwRow {α : Type} (W : World) (lo hi n : Nat) (P : α → Nat → Nat → Nat → Nat → Prop) (o : Option Addr) (l : List α) : Prop := l = [] ∨ ∃ g, o = some ⟨g, 0, none⟩ ∧ lo ≤ g ∧ Uf W g ∧ ∃ h : Nat → Nat, g < h 0 ∧ (∀ k, k < l.length → h k ≤ h (k + 1)) ∧ h l.length ≤ hi ∧ ∀ k (hk : k < l.length), P l[k] g (k * n) (h k) (h (k + 1))
/-- An expression whose rows are its own. -/
def OwEx (W : World) : (d : Nat) → Tr d → Nat → Nat → Nat → Nat → Prop
  | 0, t, _, _, _, _ => nomatch t
  | d + 1, t, g, off, lo, hi => W.cell? ⟨g, off, none⟩ = some (.int .i64 (TrN.kind t)) ∧ W.cell? ⟨g, off + 1, none⟩ = some (.string (TrN.name t)) ∧ W.cell? ⟨g, off + 2, none⟩ = some (.int .i64 (TrN.num t)) ∧ ∃ m1 m2 m3, lo ≤ m1 ∧ m1 ≤ m2 ∧ m2 ≤ m3 ∧ m3 ≤ hi ∧
    (∃ o c, W.cell? ⟨g, off + 3, none⟩ = some (.slice o (TrN.params t).length c) ∧ OwTx W lo m1 o (TrN.params t)) ∧
    (∃ o c, W.cell? ⟨g, off + 4, none⟩ = some (.slice o (TrN.binds t).length c) ∧ OwRow W m1 m2 8 (fun (b : ByteArray × Tr d) g off lo hi => W.cell? ⟨g, off, none⟩ = some (.string b.1) ∧ OwEx W d b.2 g (off + 1) lo hi) o (TrN.binds t)) ∧
    (∃ o c, W.cell? ⟨g, off + 5, none⟩ = some (.slice o (TrN.args t).length c) ∧ OwRow W m2 m3 7 (fun (x : Tr d) g off lo hi => OwEx W d x g off lo hi) o (TrN.args t)) ∧
    (∃ o c, W.cell? ⟨g, off + 6, none⟩ = some (.slice o (TrN.alts t).length c) ∧ OwRow W m3 hi 11 (fun (a : AltH × Tr d) g off lo hi => W.cell? ⟨g, off, none⟩ = some (.int .i64 a.1.kind) ∧ W.cell? ⟨g, off + 1, none⟩ = some (.string a.1.name) ∧ W.cell? ⟨g, off + 2, none⟩ = some (.int .i64 a.1.num) ∧ ∃ m, lo ≤ m ∧ m ≤ hi ∧ (∃ o c, W.cell? ⟨g, off + 3, none⟩ = some (.slice o a.1.vars.length c) ∧ OwTx W lo m o a.1.vars) ∧ OwEx W d a.2 g (off + 4) m hi) o (TrN.alts t))
def OwAl (W : World) (d : Nat) (a : AltH × Tr d) (g off lo hi : Nat) : Prop := W.cell? ⟨g, off, none⟩ = some (.int .i64 a.1.kind) ∧ W.cell? ⟨g, off + 1, none⟩ = some (.string a.1.name) ∧ W.cell? ⟨g, off + 2, none⟩ = some (.int .i64 a.1.num) ∧ ∃ m, lo ≤ m ∧ m ≤ hi ∧ (∃ o c, W.cell? ⟨g, off + 3, none⟩ = some (.slice o a.1.vars.length c) ∧ OwTx W lo m o a.1.vars) ∧ OwEx W d a.2 g (off + 4) m hi
theorem OwTx.same {W W' : World} {lo hi : Nat} {o : Option Addr} {l : List ByteArray} (h : OwTx W lo hi o l) (hb : ∀ k, lo ≤ k → k < hi → W'.heap[k]? = W.heap[k]?) : OwTx W' lo hi o l := by
  rcases h with h | ⟨g, e, h1, h2, h3, h4⟩
  · exact .inl h
  · exact .inr ⟨g, e, h1, h2, h3.same (hb g h1 h2), fun k hk => (cell_of_block (hb g h1 h2) k).trans (h4 k hk)⟩
theorem OwTx.mono {W : World} {lo hi lo' hi' : Nat} {o : Option Addr} {l : List ByteArray} (h : OwTx W lo hi o l) (h1 : lo' ≤ lo) (h2 : hi ≤ hi') : OwTx W lo' hi' o l := by
  rcases h with h | ⟨g, e, h3, h4, h5⟩
  · exact .inl h
  · exact .inr ⟨g, e, by omega, by omega, h5⟩
theorem step_le {h : Nat → Nat} {n : Nat} (hm : ∀ k, k < n → h k ≤ h (k + 1)) : ∀ j k, j ≤ k → k ≤ n → h j ≤ h k
  | j, 0, hj, _ => by rw [Nat.le_zero.1 hj]; exact Nat.le_refl _
  | j, k + 1, hj, hk => by
    by_cases e : j = k + 1
    · rw [e]; exact Nat.le_refl _
    · exact Nat.le_trans (step_le hm j k (by omega) (by omega)) (hm k (by omega))
theorem OwRow.same {α : Type} {W W' : World} {lo hi n : Nat} {P Q : α → Nat → Nat → Nat → Nat → Prop} {o : Option Addr} {l : List α} (h : OwRow W lo hi n P o l) (hb : ∀ k, lo ≤ k → k < hi → W'.heap[k]? = W.heap[k]?)
    (hpq : ∀ x g off a b, lo ≤ g → g < hi → lo ≤ a → b ≤ hi → P x g off a b → Q x g off a b) : OwRow W' lo hi n Q o l := by
  rcases h with h | ⟨g, e, h1, h2, h, k0, k1, k2, k3⟩
  · exact .inl h
  · by_cases hl : l = []
    · exact .inl hl
    have hn : 0 < l.length := List.length_pos_iff.2 hl
    have hgh : g < hi := by have := step_le k1 0 l.length (by omega) (Nat.le_refl _); omega
    refine .inr ⟨g, e, h1, h2.same (hb g h1 hgh), h, k0, k1, k2, fun k hk => hpq _ _ _ _ _ h1 hgh ?_ ?_ (k3 k hk)⟩
    · have := step_le k1 0 k (by omega) (by omega); omega
    · have := step_le k1 (k + 1) l.length (by omega) (Nat.le_refl _); omega
theorem OwRow.mono {α : Type} {W : World} {lo hi lo' hi' n : Nat} {P : α → Nat → Nat → Nat → Nat → Prop} {o : Option Addr} {l : List α} (h : OwRow W lo hi n P o l) (h1 : lo' ≤ lo) (h2 : hi ≤ hi') : OwRow W lo' hi' n P o l := by
  rcases h with h | ⟨g, e, h3, h4, h, k0, k1, k2, k3⟩
  · exact .inl h
  · exact .inr ⟨g, e, by omega, h4, h, k0, k1, by omega, k3⟩
theorem OwEx.same {W W' : World} : ∀ (d : Nat) (t : Tr d) (g off lo hi : Nat), OwEx W d t g off lo hi → (∀ q, q < 7 → W'.cell? ⟨g, off + q, none⟩ = W.cell? ⟨g, off + q, none⟩) → (∀ k, lo ≤ k → k < hi → W'.heap[k]? = W.heap[k]?) → OwEx W' d t g off lo hi
  | 0, t, _, _, _, _, _, _, _ => nomatch t
  | d + 1, t, g, off, lo, hi, h, hh, hb => by
    obtain ⟨h0, h1, h2, m1, m2, m3, l1, l2, l3, l4, ⟨o3, c3, h3, k3⟩, ⟨o4, c4, h4, k4⟩, ⟨o5, c5, h5, k5⟩, ⟨o6, c6, h6, k6⟩⟩ := h
    refine ⟨(hh 0 (by omega)).trans h0, (hh 1 (by omega)).trans h1, (hh 2 (by omega)).trans h2, m1, m2, m3, l1, l2, l3, l4, ⟨o3, c3, (hh 3 (by omega)).trans h3, k3.same (fun k a b => hb k a (by omega))⟩, ⟨o4, c4, (hh 4 (by omega)).trans h4, k4.same (fun k a b => hb k (by omega) (by omega)) ?_⟩, ⟨o5, c5, (hh 5 (by omega)).trans h5, k5.same (fun k a b => hb k (by omega) (by omega)) ?_⟩, ⟨o6, c6, (hh 6 (by omega)).trans h6, k6.same (fun k a b => hb k (by omega) (by omega)) ?_⟩⟩
    · rintro x g off a b hg1 hg2 ha hb2 ⟨e1, e2⟩
      have hc := fun j => cell_of_block (hb g (by omega) (by omega)) j
      exact ⟨(hc _).trans e1, OwEx.same d _ _ _ _ _ e2 (fun q _ => hc _) (fun k h1 h2 => hb k (by omega) (by omega))⟩
    · intro x g off a b hg1 hg2 ha hb2 e
      have hc := fun j => cell_of_block (hb g (by omega) (by omega)) j
      exact OwEx.same d _ _ _ _ _ e (fun q _ => hc _) (fun k h1 h2 => hb k (by omega) (by omega))
    · rintro x g off a b hg1 hg2 ha hb2 ⟨e1, e2, e3, m, q1, q2, ⟨o, c, e4, e5⟩, e6⟩
      have hc := fun j => cell_of_block (hb g (by omega) (by omega)) j
      exact ⟨(hc _).trans e1, (hc _).trans e2, (hc _).trans e3, m, q1, q2, ⟨o, c, (hc _).trans e4, e5.same (fun k h1 h2 => hb k (by omega) (by omega))⟩, OwEx.same d _ _ _ _ _ e6 (fun q _ => hc _) (fun k h1 h2 => hb k (by omega) (by omega))⟩
theorem OwEx.mono {W : World} {d : Nat} {t : Tr d} {g off lo hi lo' hi' : Nat} (h : OwEx W d t g off lo hi) (h1 : lo' ≤ lo) (h2 : hi ≤ hi') : OwEx W d t g off lo' hi' := by
  cases d with
  | zero => exact nomatch t
  | succ d =>
    obtain ⟨h0, h1', h2', m1, m2, m3, l1, l2, l3, l4, ⟨o3, c3, h3, k3⟩, k4, k5, ⟨o6, c6, h6, k6⟩⟩ := h
    exact ⟨h0, h1', h2', m1, m2, m3, by omega, l2, l3, by omega, ⟨o3, c3, h3, k3.mono h1 (Nat.le_refl _)⟩, k4, k5, ⟨o6, c6, h6, k6.mono (Nat.le_refl _) h2⟩⟩
theorem OwAl.mono {W : World} {d : Nat} {a : AltH × Tr d} {g off lo hi lo' hi' : Nat} (h : OwAl W d a g off lo hi) (h1 : lo' ≤ lo) (h2 : hi ≤ hi') : OwAl W d a g off lo' hi' := by
  obtain ⟨e1, e2, e3, m, q1, q2, ⟨o, c, e4, e5⟩, e6⟩ := h
  exact ⟨e1, e2, e3, m, by omega, by omega, ⟨o, c, e4, e5.mono h1 (Nat.le_refl _)⟩, e6.mono (Nat.le_refl _) h2⟩
theorem OwTx.tx {W : World} {lo hi B : Nat} {o : Option Addr} {l : List ByteArray} (h : OwTx W lo hi o l) (hB : hi ≤ B) : TxIn W B o l := by
  rcases h with h | ⟨g, e, h1, h2, h3, h4⟩
  · exact .inl h
  · exact .inr ⟨g, 0, e, by omega, fun k hk => by rw [Nat.zero_add]; exact h4 k hk⟩
theorem OwRow.row {α : Type} {W : World} {lo hi B n : Nat} {P : α → Nat → Nat → Nat → Nat → Prop} {Q : α → Nat → Nat → Prop} {o : Option Addr} {l : List α} (h : OwRow W lo hi n P o l) (hB : hi ≤ B) (hpq : ∀ x g off a b, lo ≤ g → g < hi → lo ≤ a → b ≤ hi → P x g off a b → Q x g off) : RowIn B n Q o l := by
  rcases h with h | ⟨g, e, h1, h2, h, k0, k1, k2, k3⟩
  · exact .inl h
  · by_cases hl : l = []
    · exact .inl hl
    have hn : 0 < l.length := List.length_pos_iff.2 hl
    have hgh : g < hi := by have := step_le k1 0 l.length (by omega) (Nat.le_refl _); omega
    refine .inr ⟨g, 0, e, by omega, fun k hk => ?_⟩
    rw [Nat.zero_add]
    refine hpq _ _ _ _ _ h1 hgh ?_ ?_ (k3 k hk)
    · have := step_le k1 0 k (by omega) (by omega); omega
    · have := step_le k1 (k + 1) l.length (by omega) (Nat.le_refl _); omega
end Go.Proofs.YtjmpjfggbhongaaDoor
namespace Go.Proofs.YtjmpjfggbhongaaDoor
open Go.RowKit Go.Shelf Go.Maps
set_option linter.unusedVariables false
theorem OwTx.below {w W : World} {lo hi : Nat} {o : Option Addr} {l : List ByteArray} (h : OwTx w lo hi o l) (hb : ∀ k, lo ≤ k → k < hi → W.heap[k]? = w.heap[k]?) : OwTx W lo hi o l := h.same hb
theorem Blk.but {W : World} {B b : Nat} {vs : Array Value} {T : TypeId} (h : Blk W B vs T) (j : Nat) (u : Value) (hn : B ≠ b) : Blk (W.setCell ⟨b, j, none⟩ u) B vs T := by
  unfold Blk; rw [heap_set_other _ _ _ _ _ hn]; exact h
end Go.Proofs.YtjmpjfggbhongaaDoor
namespace Go.Proofs.YtjmpjfggbhongaaDoor
open Go.RowKit Go.Shelf Go.Maps
set_option linter.unusedVariables false
theorem alkOK (fs : List CT) (m c : Nat) (w : World) (hc : CtSt w m c fs) : AlkOK m (alkM fs) w := fun W hW d l o cap B hl hw hn hF => alike_c fs m c W (hc.below hW) d l o cap B hl hw hn hF
theorem mbaOK (fs : List CT) (m c : Nat) (w : World) (hc : CtSt w m c fs) : MbaOK m (altsB (alkM fs)) w := fun W hW d l o cap B hl hw hn hcap hF => mayBeAlts_c m (alkM fs) W (alkOK fs m c W (hc.below hW)) d l o cap B hl hw hn hcap hF
def mainB : ByteArray := ⟨#[109, 97, 105, 110]⟩
theorem RowIn.lt_of {α : Type} {B n : Nat} {p : α → Nat → Nat → Prop} {o : Option Addr} {l : List α} (h : RowIn B n p o l) {k : Nat} (hk : k < l.length) {g x : Nat} (e : o = some ⟨g, x, none⟩) : g < B ∧ p l[k] g (x + k * n) := by
  rcases h with h | ⟨g', x', e', hg, h⟩
  · rw [h] at hk; cases hk
  · rw [e] at e'; cases e'
    exact ⟨hg, h k hk⟩
theorem CpAt.up {W : World} {B B' : Nat} : ∀ (d : Nat) (t : Tr d) (g off : Nat), ExAt W B d t g off → CpAt W B d t g off → CpAt W B' d t g off
  | 0, t, _, _, _, _ => nomatch t
  | d + 1, t, g, off, hE, h => by
    obtain ⟨hg, -, -, -, -, ⟨o4, c4, e4, k4⟩, ⟨o5, c5, e5, k5⟩, ⟨o6, c6, e6, k6⟩⟩ := hE
    obtain ⟨h6, p4, p5, p6⟩ := h
    refine ⟨h6, fun g' x' n c hg' e k hk => ?_, fun g' x' n c hg' e k hk => ?_, fun g' x' n c hg' e k hk => ?_⟩
    · have e9 := e4.symm.trans e
      injection e9 with e9; injection e9 with e9 _ _
      have h9 := k4.lt_of hk e9
      exact CpAt.up d _ _ _ h9.2.2 (p4 g' x' n c h9.1 e k hk)
    · have e9 := e5.symm.trans e
      injection e9 with e9; injection e9 with e9 _ _
      have h9 := k5.lt_of hk e9
      exact CpAt.up d _ _ _ h9.2 (p5 g' x' n c h9.1 e k hk)
    · have e9 := e6.symm.trans e
      injection e9 with e9; injection e9 with e9 _ _
      have h9 := k6.lt_of hk e9
      exact CpAt.up d _ _ _ h9.2.2.2.2.2 (p6 g' x' n c h9.1 e k hk)
end Go.Proofs.YtjmpjfggbhongaaDoor
namespace Go.Proofs.YtjmpjfggbhongaaDoor
open Go.RowKit Go.Shelf Go.Maps
set_option linter.unusedVariables false
/-- All blocks of cells but one stay that hold no bytes. -/
def KpT (b : Nat) (w w' : World) : Prop := ∀ k cs T fz, w.heap[k]? = some (.cells cs T fz) → T ≠ 5 → k ≠ b → w'.heap[k]? = some (.cells cs T fz)
theorem KpT.refl (b : Nat) (w : World) : KpT b w w := fun k cs T fz h _ _ => h
theorem KpT.trans {b : Nat} {w1 w2 w3 : World} (h : KpT b w1 w2) (k : KpT b w2 w3) : KpT b w1 w3 := fun j cs T fz e h1 h2 => k j cs T fz (h j cs T fz e h1 h2) h1 h2
theorem KpT.below {b : Nat} {w w' : World} (h : Below w.heap.size w w') : KpT b w w' := fun k cs T fz e h1 h2 => by rw [h.block k (Array.getElem?_eq_some_iff.1 e).1]; exact e
theorem KpT.set (b j : Nat) (w : World) (u : Value) : KpT b w (w.setCell ⟨b, j, none⟩ u) := fun k cs T fz e h1 h2 => by rw [heap_set_other _ _ _ _ _ h2]; exact e
end Go.Proofs.YtjmpjfggbhongaaDoor
namespace Go.Proofs.YtjmpjfggbhongaaDoor
open Go.RowKit Go.Shelf Go.Maps
set_option linter.unusedVariables false
/-- A function of one name whose body is a variable, in memory below B. -/
structure Lm1 (B : Nat) (w : World) (g off gp op cp ga oa ca : Nat) (x y : ByteArray) : Prop where
  lg : g < B
  lp : gp < B
  la : ga < B
  k : w.cell? ⟨g, off, none⟩ = some (.int .i64 5)
  p : w.cell? ⟨g, off + 3, none⟩ = some (.slice (some ⟨gp, op, none⟩) 1 cp)
  a : w.cell? ⟨g, off + 5, none⟩ = some (.slice (some ⟨ga, oa, none⟩) 1 ca)
  x : w.cell? ⟨gp, op, none⟩ = some (.string x)
  e0 : w.cell? ⟨ga, oa, none⟩ = some (.int .i64 1)
  e1 : w.cell? ⟨ga, oa + 1, none⟩ = some (.string y)
theorem Lm1.below {B : Nat} {w W : World} {g off gp op cp ga oa ca : Nat} {x y : ByteArray} (h : Lm1 B w g off gp op cp ga oa ca x y) (hW : Below B w W) : Lm1 B W g off gp op cp ga oa ca x y :=
  ⟨h.lg, h.lp, h.la, (cell_of_block (hW.block _ h.lg) _).trans h.k, (cell_of_block (hW.block _ h.lg) _).trans h.p, (cell_of_block (hW.block _ h.lg) _).trans h.a, (cell_of_block (hW.block _ h.lp) _).trans h.x, (cell_of_block (hW.block _ h.la) _).trans h.e0, (cell_of_block (hW.block _ h.la) _).trans h.e1⟩
end Go.Proofs.YtjmpjfggbhongaaDoor
namespace Go.Proofs.YtjmpjfggbhongaaDoor
open Go.RowKit Go.Shelf Go.Maps
set_option linter.unusedVariables false
def numT (k : Int) : Tr 1 := (⟨2, ⟨#[]⟩, k, [], [], [], []⟩ : TrN (Tr 0))
end Go.Proofs.YtjmpjfggbhongaaDoor
namespace Go.Proofs.YtjmpjfggbhongaaDoor
open Go.RowKit Go.Shelf Go.Maps
set_option linter.unusedVariables false
theorem ExVal.up {W : World} {B B' d : Nat} {t : Tr (d + 1)} {v : Value} (h : ExVal W B d t v) (hB : B ≤ B') : ExVal W B' d t v := by
  obtain ⟨o3, c3, o4, c4, o5, c5, o6, c6, e, k3, k4, k5, k6⟩ := h
  refine ⟨o3, c3, o4, c4, o5, c5, o6, c6, e, k3.mono hB, k4.up hB ?_, k5.up hB ?_, k6.up hB ?_⟩
  · rintro x g off hg ⟨e1, e2⟩
    exact ⟨e1, ExAt.up hB d _ _ _ e2⟩
  · intro x g off hg e
    exact ExAt.up hB d _ _ _ e
  · rintro x g off hg ⟨e1, e2, e3, ⟨o, c, e4, e5⟩, e6⟩
    exact ⟨e1, e2, e3, ⟨o, c, e4, e5.mono hB⟩, ExAt.up hB d _ _ _ e6⟩
theorem ExVal.grow {W W' : World} {d : Nat} {t : Tr (d + 1)} {v : Value} (h : ExVal W W.heap.size d t v) (hb : Below W.heap.size W W') : ExVal W' W'.heap.size d t v := (h.same (fun g off hg => cell_of_block (hb.block g hg) off)).up hb.size
end Go.Proofs.YtjmpjfggbhongaaDoor
namespace Go.Proofs.YtjmpjfggbhongaaDoor
open Go.ChangeShapes Go.WideShapes Go.ChangeAt Go.RowKit
set_option linter.unusedVariables false
/-- How great a string or a row may be that was read. -/
def LB : Nat := 140737488355328
/-- An expression's numbers, names and rows may be. -/
def WfT : (d : Nat) → Tr d → Prop
  | 0, t => nomatch t
  | d + 1, t => Lit.wf (.int .i64 (TrN.kind t)) = true ∧ (TrN.name t).size ≤ LB ∧ Lit.wf (.int .i64 (TrN.num t)) = true ∧ ((TrN.params t).length ≤ LB ∧ ∀ x ∈ TrN.params t, x.size ≤ LB) ∧
    ((TrN.binds t).length ≤ LB ∧ ∀ b ∈ TrN.binds t, b.1.size ≤ LB ∧ WfT d b.2) ∧ ((TrN.args t).length ≤ LB ∧ ∀ e ∈ TrN.args t, WfT d e) ∧
    ((TrN.alts t).length ≤ LB ∧ ∀ a ∈ TrN.alts t, Lit.wf (.int .i64 a.1.kind) = true ∧ a.1.name.size ≤ LB ∧ Lit.wf (.int .i64 a.1.num) = true ∧ (a.1.vars.length ≤ LB ∧ ∀ x ∈ a.1.vars, x.size ≤ LB) ∧ WfT d a.2)
/-- A row's length, and what it may grow to. -/
def ExVal2 (W : World) (d : Nat) (t : Tr (d + 1)) (v : Value) : Prop := ∃ o3 c3 o4 c4 o5 c5 o6 c6, v = .agg #[.int .i64 (TrN.kind t), .string (TrN.name t), .int .i64 (TrN.num t), .slice o3 (TrN.params t).length c3, .slice o4 (TrN.binds t).length c4, .slice o5 (TrN.args t).length c5, .slice o6 (TrN.alts t).length c6] ∧
  TxIn W W.heap.size o3 (TrN.params t) ∧ RowIn W.heap.size 8 (fun (b : ByteArray × Tr d) g off => W.cell? ⟨g, off, none⟩ = some (.string b.1) ∧ ExAt W W.heap.size d b.2 g (off + 1) ∧ CpAt W W.heap.size d b.2 g (off + 1)) o4 (TrN.binds t) ∧
  RowIn W.heap.size 7 (fun (x : Tr d) g off => ExAt W W.heap.size d x g off ∧ CpAt W W.heap.size d x g off) o5 (TrN.args t) ∧
  RowIn W.heap.size 11 (fun (a : AltH × Tr d) g off => W.cell? ⟨g, off, none⟩ = some (.int .i64 a.1.kind) ∧ W.cell? ⟨g, off + 1, none⟩ = some (.string a.1.name) ∧ W.cell? ⟨g, off + 2, none⟩ = some (.int .i64 a.1.num) ∧ (∃ o c, W.cell? ⟨g, off + 3, none⟩ = some (.slice o a.1.vars.length c) ∧ TxIn W W.heap.size o a.1.vars) ∧ ExAt W W.heap.size d a.2 g (off + 4) ∧ CpAt W W.heap.size d a.2 g (off + 4)) o6 (TrN.alts t) ∧ (TrN.alts t).length ≤ c6
/-- Its cells, wherever they lie. -/
theorem ExVal2.at {W : World} {d : Nat} {t : Tr (d + 1)} {c0 c1 c2 c3 c4 c5 c6 : Value} (h : ExVal2 W d t (.agg #[c0, c1, c2, c3, c4, c5, c6])) {g off : Nat} (hg : g < W.heap.size) (h0 : W.cell? ⟨g, off, none⟩ = some c0) (h1 : W.cell? ⟨g, off + 1, none⟩ = some c1) (h2 : W.cell? ⟨g, off + 2, none⟩ = some c2) (h3 : W.cell? ⟨g, off + 3, none⟩ = some c3) (h4 : W.cell? ⟨g, off + 4, none⟩ = some c4) (h5 : W.cell? ⟨g, off + 5, none⟩ = some c5) (h6 : W.cell? ⟨g, off + 6, none⟩ = some c6) :
    ExAt W W.heap.size (d + 1) t g off ∧ CpAt W W.heap.size (d + 1) t g off := by
  obtain ⟨o3, q3, o4, q4, o5, q5, o6, q6, e, k3, k4, k5, k6, hle⟩ := h
  cases e
  refine ⟨⟨hg, h0, h1, h2, ⟨_, _, h3, k3⟩, ⟨_, _, h4, k4.mono (fun x g off _ h => ⟨h.1, h.2.1⟩)⟩, ⟨_, _, h5, k5.mono (fun x g off _ h => h.1)⟩, ⟨_, _, h6, k6.mono (fun x g off _ h => ⟨h.1, h.2.1, h.2.2.1, h.2.2.2.1, h.2.2.2.2.1⟩)⟩⟩, fun o n c e => ?_, fun g' x' n c hg' e k hk => ?_, fun g' x' n c hg' e k hk => ?_, fun g' x' n c hg' e k hk => ?_⟩
  · have := h6.symm.trans e
    cases this; exact hle
  · have := h4.symm.trans e
    cases this
    exact (k4.lt_of hk rfl).2.2.2
  · have := h5.symm.trans e
    cases this
    exact (k5.lt_of hk rfl).2.2
  · have := h6.symm.trans e
    cases this
    exact (k6.lt_of hk rfl).2.2.2.2.2.2
theorem list7 {α : Type} : ∀ {l : List α}, l.length = 7 → ∃ c0 c1 c2 c3 c4 c5 c6, l = [c0, c1, c2, c3, c4, c5, c6]
  | [c0, c1, c2, c3, c4, c5, c6], _ => ⟨c0, c1, c2, c3, c4, c5, c6, rfl⟩
theorem list2 {α : Type} : ∀ {l : List α}, l.length = 2 → ∃ c0 c1, l = [c0, c1]
  | [c0, c1], _ => ⟨c0, c1, rfl⟩
theorem list5e {α : Type} : ∀ {l : List α}, l.length = 5 → ∃ c0 c1 c2 c3 c4, l = [c0, c1, c2, c3, c4]
  | [c0, c1, c2, c3, c4], _ => ⟨c0, c1, c2, c3, c4, rfl⟩
theorem cell_ltE {W : World} {b off : Nat} {v : Value} (h : W.cell? ⟨b, off, none⟩ = some v) : b < W.heap.size := by
  by_cases e : b < W.heap.size
  · exact e
  · have : W.heap[b]? = none := Array.getElem?_eq_none (by omega)
    simp [World.cell?, this] at h
/-- All weights are within reach. -/
def Rch {H : Type} (t : TypeId) (x : DataW H) : Prop := ∀ n ∈ x.weights Tryd.prog t, n ≤ LB
theorem mem_weightsAll {H : Type} {e : TypeId} {y : DataW H} : ∀ {l : List (DataW H)}, y ∈ l → ∀ n ∈ y.weights Tryd.prog e, n ∈ DataW.weightsAll Tryd.prog e l
  | z :: l, h, n, hn => by
    unfold DataW.weightsAll
    rcases List.mem_cons.1 h with rfl | h
    · exact List.mem_append.2 (.inl hn)
    · exact List.mem_append.2 (.inr (mem_weightsAll h n hn))
theorem mem_weightsEach {H : Type} : ∀ {ts : List TypeId} {l : List (DataW H)} {i : Nat} {t : TypeId} {y : DataW H}, ts[i]? = some t → l[i]? = some y → ∀ n ∈ y.weights Tryd.prog t, n ∈ DataW.weightsEach Tryd.prog ts l
  | t0 :: ts, y0 :: l, 0, t, y, h1, h2, n, hn => by
    cases h1; cases h2
    unfold DataW.weightsEach
    exact List.mem_append.2 (.inl hn)
  | t0 :: ts, y0 :: l, i + 1, t, y, h1, h2, n, hn => by
    unfold DataW.weightsEach
    exact List.mem_append.2 (.inr (mem_weightsEach (i := i) (by simpa using h1) (by simpa using h2) n hn))
  | [], _, i, t, y, h1, _, n, hn => by simp at h1
  | _ :: _, [], i, t, y, _, h2, n, hn => by simp at h2
theorem Rch.part {H : Type} {t : TypeId} {fs : Array Field} {parts : List (DataW H)} (ht : Tryd.prog.underlying t = some (.struct fs)) (h : Rch t (.agg parts)) {i : Nat} {f : Field} {y : DataW H} (hf : fs[i]? = some f) (hy : parts[i]? = some y) : Rch f.type y := by
  intro n hn
  refine h n ?_
  unfold DataW.weights
  rw [ht]
  refine mem_weightsEach (i := i) (t := f.type) ?_ hy n hn
  rw [List.getElem?_map, ← Array.getElem?_toList] at *
  simp [hf]
theorem Rch.elem {H : Type} {t e : TypeId} {l r : List (DataW H)} (ht : Tryd.prog.underlying t = some (.slice e)) (h : Rch t (.slice l r)) {y : DataW H} (hy : y ∈ l) : Rch e y := by
  intro n hn
  refine h n ?_
  unfold DataW.weights
  rw [ht]
  exact List.mem_cons_of_mem _ (List.mem_append.2 (.inl (mem_weightsAll hy n hn)))
theorem Rch.len {H : Type} {t e : TypeId} {l r : List (DataW H)} (ht : Tryd.prog.underlying t = some (.slice e)) (hb : 1 ≤ Tryd.prog.bytesOf e) (h : Rch t (.slice l r)) : l.length ≤ LB := by
  have := h ((l.length + r.length) * Tryd.prog.bytesOf e) (by
    unfold DataW.weights
    rw [ht]
    exact List.mem_cons_self)
  have h2 : (l.length + r.length) * 1 ≤ (l.length + r.length) * Tryd.prog.bytesOf e := Nat.mul_le_mul_left _ hb
  omega
theorem Rch.str {H : Type} {t : TypeId} {l : List UInt8} (h : Rch (H := H) t (.lit (.string l))) : l.length ≤ LB := h l.length (by unfold DataW.weights; exact List.mem_cons_self)
/-- A row of texts that was handed in. -/
theorem open_tx {H : Type} {enc : TypeId × Value → H} {W : World} {spare : Nat → Bool} {held : Bool} {n : Nat} {cs : List Value} {x : DataW H × List MemPlace} (h : DataW.trod enc Tryd.prog W 0 spare held n 24 cs = some x) (hr : Rch 24 x.1) :
    ∃ (o : Option Addr) (c : Nat) (l : List ByteArray), cs = [.slice o l.length c] ∧ TxIn W W.heap.size o l ∧ l.length ≤ LB ∧ ∀ x ∈ l, x.size ≤ LB := by
  rcases DataW.trod_slice Tryd.underlying24 h with ⟨hcs, _⟩ | ⟨a, len, cap, elems, rest, n', -, hcs, hx, -, -, -, hlen, hel, -, -⟩
  · exact ⟨none, 0, [], hcs, .inl rfl, Nat.zero_le _, fun x h => by cases h⟩
  · rw [hx] at hr
    have hc : Tryd.prog.cellsOf 9 = 1 := by kernel_rfl
    have hL : len ≤ LB := by have := hr.len Tryd.underlying24 (by decide +kernel); simpa [hlen] using this
    have hall : ∀ i, i < len → ∃ s : ByteArray, W.cell? (a.add i) = some (.string s) ∧ s.size ≤ LB := by
      intro i hi
      have h5 := hel i hi
      rw [List.getElem?_eq_getElem (by omega), hc, Nat.mul_one] at h5
      obtain ⟨cs', h6, h7⟩ := Option.bind_eq_some_iff.1 h5
      obtain ⟨s, e, e2, hs⟩ := DataW.trod_string Tryd.underlying9 h7
      have h8 := World.cells?_some h6
      have h9 := h8.2.2 0 (by omega)
      rw [e] at h9
      have hq : Rch 9 (elems[i]'(by omega)).1 := hr.elem Tryd.underlying24 (List.mem_map.2 ⟨_, List.getElem_mem _, rfl⟩)
      rw [e2] at hq
      have h10 := hq.str
      have h11 : s.data.toList.length = s.size := by rw [Array.length_toList]; rfl
      refine ⟨s, ?_, by omega⟩
      rw [Go.Deep.add_add, Nat.add_zero] at h9
      simpa using h9
    haveI : Inhabited ByteArray := ⟨⟨#[]⟩⟩
    obtain ⟨f, hf⟩ := Go.Deep.choose_lt hall
    refine ⟨some a, cap, (List.range len).map f, by simpa using hcs, ?_, by simpa using hL, ?_⟩
    · rcases Nat.eq_zero_or_pos len with h0 | h0
      · subst h0; exact .inl rfl
      · right
        obtain ⟨b, off, spot⟩ := a
        have hspot : spot = none := by simpa [Addr.add] using World.cell?_spot (hf 0 h0).1
        subst hspot
        have hcell : ∀ i, i < len → W.cell? ⟨b, off + i, none⟩ = some (.string (f i)) := fun i hi => by have := (hf i hi).1; rw [Addr.add_lit] at this; exact this
        refine ⟨b, off, rfl, cell_ltE (hcell 0 h0), fun k hk => ?_⟩
        simp only [List.length_map, List.length_range] at hk
        rw [hcell k hk]
        simp
    · intro x hx
      obtain ⟨i, hi, rfl⟩ := List.mem_map.1 hx
      exact (hf i (by simpa using hi)).2
end Go.Proofs.YtjmpjfggbhongaaDoor
namespace Go.Proofs.YtjmpjfggbhongaaDoor
open Go.ChangeShapes Go.WideShapes Go.ChangeAt Go.RowKit
set_option linter.unusedVariables false
theorem open_row {H : Type} {enc : TypeId × Value → H} {W : World} {spare : Nat → Bool} {held : Bool} {n : Nat} {cs : List Value} {x : DataW H × List MemPlace} {te e : TypeId} {c : Nat} {α : Type} {Q : α → Nat → Nat → Prop} {P : α → Prop}
    (ht : Tryd.prog.underlying te = some (.slice e)) (hc : Tryd.prog.cellsOf e = c) (hc1 : 1 ≤ c) (hb : 1 ≤ Tryd.prog.bytesOf e)
    (hall : ∀ n', n' < n → ∀ (cs' : List Value) (x' : DataW H × List MemPlace), DataW.trod enc Tryd.prog W 0 spare held n' e cs' = some x' → Rch e x'.1 → ∃ y : α, P y ∧ ∀ g off, g < W.heap.size → (∀ j u, cs'[j]? = some u → W.cell? ⟨g, off + j, none⟩ = some u) → Q y g off)
    (h : DataW.trod enc Tryd.prog W 0 spare held n te cs = some x) (hr : Rch te x.1) :
    ∃ (o : Option Addr) (cap : Nat) (l : List α), cs = [.slice o l.length cap] ∧ RowIn W.heap.size c Q o l ∧ l.length ≤ LB ∧ l.length ≤ cap ∧ ∀ y ∈ l, P y := by
  rcases DataW.trod_slice ht h with ⟨hcs, _⟩ | ⟨a, len, cap, elems, rest, n', hn, hcs, hx, -, hlc, -, hlen, hel, -, -⟩
  · exact ⟨none, 0, [], hcs, .inl rfl, Nat.zero_le _, Nat.le_refl _, fun x h => by cases h⟩
  · rw [hx] at hr
    have hL : len ≤ LB := by have := hr.len ht hb; simpa [hlen] using this
    rw [hc] at hel
    have hall2 : ∀ i, i < len → ∃ y : α, P y ∧ (∃ cs' : List Value, cs'.length = c ∧ W.cells? 0 (a.add (i * c)) c = some cs' ∧ ∀ g off, g < W.heap.size → (∀ j u, cs'[j]? = some u → W.cell? ⟨g, off + j, none⟩ = some u) → Q y g off) := by
      intro i hi
      have h5 := hel i hi
      rw [List.getElem?_eq_getElem (by omega)] at h5
      obtain ⟨cs', h6, h7⟩ := Option.bind_eq_some_iff.1 h5
      have hq : Rch e (elems[i]'(by omega)).1 := hr.elem ht (List.mem_map.2 ⟨_, List.getElem_mem _, rfl⟩)
      obtain ⟨y, hP, hQ⟩ := hall n' (by omega) cs' _ h7 hq
      exact ⟨y, hP, cs', (World.cells?_some h6).2.1, h6, hQ⟩
    rcases Nat.eq_zero_or_pos len with h0 | h0
    · subst h0
      exact ⟨some a, cap, [], by simpa using hcs, .inl rfl, Nat.zero_le _, Nat.zero_le _, fun x h => by cases h⟩
    · obtain ⟨y0, -⟩ := hall2 0 h0
      haveI : Inhabited α := ⟨y0⟩
      obtain ⟨f, hf⟩ := Go.Deep.choose_lt hall2
      refine ⟨some a, cap, (List.range len).map f, by simpa using hcs, ?_, by simpa using hL, by simpa using hlc, ?_⟩
      · right
        obtain ⟨b, off, spot⟩ := a
        have hcell : ∀ i, i < len → ∀ cs' : List Value, W.cells? 0 ((⟨b, off, spot⟩ : Addr).add (i * c)) c = some cs' → ∀ q u, cs'[q]? = some u → W.cell? ((⟨b, off, spot⟩ : Addr).add (i * c + q)) = some u := by
          intro i hi cs' h6 q u hu
          have h1 := World.cells?_some h6
          have hq : q < c := by have := (List.getElem?_eq_some_iff.1 hu).1; rw [h1.2.1] at this; exact this
          have h2 := h1.2.2 q hq
          rw [hu, Go.Deep.add_add] at h2
          exact h2
        obtain ⟨cs0, hl0, hs0, -⟩ := (hf 0 h0).2
        obtain ⟨u0, hu0⟩ : ∃ u, cs0[0]? = some u := ⟨cs0[0]'(by omega), List.getElem?_eq_getElem _⟩
        have hspot : spot = none := by simpa [Addr.add] using World.cell?_spot (hcell 0 h0 cs0 hs0 0 _ hu0)
        subst hspot
        have hb' : b < W.heap.size := by
          have h1 := World.cells?_block hs0 (by omega)
          rw [Addr.add_lit] at h1
          exact h1
        refine ⟨b, off, rfl, hb', fun k hk => ?_⟩
        simp only [List.length_map, List.length_range] at hk
        have e2 : ((List.range len).map f)[k]'(by simpa using hk) = f k := by simp
        rw [e2]
        obtain ⟨cs', hl', hs', hQ⟩ := (hf k hk).2
        refine hQ b (off + k * c) hb' (fun j u hu => ?_)
        have h1 := hcell k hk cs' hs' j u hu
        rw [Addr.add_lit, ← Nat.add_assoc] at h1
        exact h1
      · intro x hx
        obtain ⟨i, hi, rfl⟩ := List.mem_map.1 hx
        exact (hf i (by simpa using hi)).1
theorem kE : Tryd.prog.cellsOf 29 = 7 := by kernel_rfl
theorem kB : Tryd.prog.cellsOf 56 = 8 := by kernel_rfl
theorem kA : Tryd.prog.cellsOf 52 = 11 := by kernel_rfl
theorem k2e : Tryd.prog.cellsOf 2 = 1 := by kernel_rfl
theorem k3e : Tryd.prog.cellsOf 3 = 1 := by kernel_rfl
theorem k9e : Tryd.prog.cellsOf 9 = 1 := by kernel_rfl
theorem kS : Tryd.prog.cellsOf 24 = 1 := by kernel_rfl
theorem kBs : Tryd.prog.cellsOf 25 = 1 := by kernel_rfl
theorem kEs : Tryd.prog.cellsOf 26 = 1 := by kernel_rfl
theorem kAs : Tryd.prog.cellsOf 27 = 1 := by kernel_rfl
theorem strOf {H : Type} {enc : TypeId × Value → H} {W : World} {spare : Nat → Bool} {held : Bool} {n : Nat} {c : Value} {x : DataW H × List MemPlace} (h : DataW.trod enc Tryd.prog W 0 spare held n 9 [c] = some x) (hr : Rch 9 x.1) : ∃ s : ByteArray, c = .string s ∧ s.size ≤ LB := by
  obtain ⟨s, e, e2, hs⟩ := DataW.trod_string Tryd.underlying9 h
  rw [e2] at hr
  have h10 := hr.str
  have h11 : s.data.toList.length = s.size := by rw [Array.length_toList]; rfl
  exact ⟨s, by simpa using e, by omega⟩
set_option maxRecDepth 100000 in
theorem open_ex {H : Type} {enc : TypeId × Value → H} {W : World} {spare : Nat → Bool} {held : Bool} : ∀ (n : Nat) {cs : List Value} {x : DataW H × List MemPlace}, DataW.trod enc Tryd.prog W 0 spare held n 29 cs = some x → Rch 29 x.1 → ∀ d, n ≤ d →
    ∃ (t : Tr (d + 1)) (c0 c1 c2 c3 c4 c5 c6 : Value), cs = [c0, c1, c2, c3, c4, c5, c6] ∧ ExVal2 W d t (.agg #[c0, c1, c2, c3, c4, c5, c6]) ∧ WfT (d + 1) t := by
  intro n
  induction n using Nat.strongRecOn with
  | ind n ih =>
    intro cs x h hr d hd
    obtain ⟨xs, m, hmn, hx, hl, hlen, hf⟩ := DataW.trod_struct Tryd.underlying29 h
    rw [kE] at hl
    obtain ⟨c0, c1, c2, c3, c4, c5, c6, rfl⟩ := list7 hl
    obtain ⟨x0, x1, x2, x3, x4, x5, x6, rfl⟩ := list7 (show xs.length = 7 from hlen)
    have h0 : DataW.trod enc Tryd.prog W 0 spare held m 3 (([c0, c1, c2, c3, c4, c5, c6].drop 0).take (Tryd.prog.cellsOf 3)) = some x0 := hf 0 _ rfl
    have h1 : DataW.trod enc Tryd.prog W 0 spare held m 9 (([c0, c1, c2, c3, c4, c5, c6].drop 1).take (Tryd.prog.cellsOf 9)) = some x1 := hf 1 _ rfl
    have h2 : DataW.trod enc Tryd.prog W 0 spare held m 2 (([c0, c1, c2, c3, c4, c5, c6].drop 2).take (Tryd.prog.cellsOf 2)) = some x2 := hf 2 _ rfl
    have h3 : DataW.trod enc Tryd.prog W 0 spare held m 24 (([c0, c1, c2, c3, c4, c5, c6].drop 3).take (Tryd.prog.cellsOf 24)) = some x3 := hf 3 _ rfl
    have h4 : DataW.trod enc Tryd.prog W 0 spare held m 25 (([c0, c1, c2, c3, c4, c5, c6].drop 4).take (Tryd.prog.cellsOf 25)) = some x4 := hf 4 _ rfl
    have h5 : DataW.trod enc Tryd.prog W 0 spare held m 26 (([c0, c1, c2, c3, c4, c5, c6].drop 5).take (Tryd.prog.cellsOf 26)) = some x5 := hf 5 _ rfl
    have h6 : DataW.trod enc Tryd.prog W 0 spare held m 27 (([c0, c1, c2, c3, c4, c5, c6].drop 6).take (Tryd.prog.cellsOf 27)) = some x6 := hf 6 _ rfl
    clear hf
    rw [k3e] at h0
    rw [k9e] at h1
    rw [k2e] at h2
    rw [kS] at h3
    rw [kBs] at h4
    rw [kEs] at h5
    rw [kAs] at h6
    simp only [List.drop_succ_cons, List.drop_zero, List.take_succ_cons, List.take_zero] at h0 h1 h2 h3 h4 h5 h6
    rw [hx] at hr
    have r1 : Rch 9 x1.1 := hr.part Tryd.underlying29 (i := 1) rfl rfl
    have r3 : Rch 24 x3.1 := hr.part Tryd.underlying29 (i := 3) rfl rfl
    have r4 : Rch 25 x4.1 := hr.part Tryd.underlying29 (i := 4) rfl rfl
    have r5 : Rch 26 x5.1 := hr.part Tryd.underlying29 (i := 5) rfl rfl
    have r6 : Rch 27 x6.1 := hr.part Tryd.underlying29 (i := 6) rfl rfl
    obtain ⟨a0, e0, _, w0⟩ := DataW.trod_int Tryd.underlying3 h0
    obtain ⟨a1, e1, w1⟩ := strOf h1 r1
    obtain ⟨a2, e2, _, w2⟩ := DataW.trod_int Tryd.underlying2 h2
    simp only [List.cons.injEq, and_true] at e0 e2
    subst e0 e1 e2
    obtain ⟨o3, p3, l3, e3, i3, b3, s3⟩ := open_tx h3 r3
    obtain ⟨d', rfl⟩ : ∃ d', d = d' + 1 := ⟨d - 1, by omega⟩
    have hE : ∀ n', n' < m → ∀ (cs' : List Value) (x' : DataW H × List MemPlace), DataW.trod enc Tryd.prog W 0 spare held n' 29 cs' = some x' → Rch 29 x'.1 → ∃ y : Tr (d' + 1), WfT (d' + 1) y ∧ ∀ g off, g < W.heap.size → (∀ j u, cs'[j]? = some u → W.cell? ⟨g, off + j, none⟩ = some u) → ExAt W W.heap.size (d' + 1) y g off ∧ CpAt W W.heap.size (d' + 1) y g off := by
      intro n' hn' cs' x' h' hr'
      obtain ⟨t, q0, q1, q2, q3, q4, q5, q6, rfl, hv, hw⟩ := ih n' (by omega) h' hr' d' (by omega)
      exact ⟨t, hw, fun g off hg hc => hv.at hg (hc 0 _ rfl) (hc 1 _ rfl) (hc 2 _ rfl) (hc 3 _ rfl) (hc 4 _ rfl) (hc 5 _ rfl) (hc 6 _ rfl)⟩
    obtain ⟨o5, p5, l5, e5, i5, b5, q5, s5⟩ := open_row Tryd.underlying26 kE (by omega) (by decide +kernel) (fun n' hn' => hE n' hn') h5 r5
    obtain ⟨o4, p4, l4, e4, i4, b4, q4, s4⟩ := open_row (α := ByteArray × Tr (d' + 1)) (P := fun b => b.1.size ≤ LB ∧ WfT (d' + 1) b.2) (Q := fun b g off => W.cell? ⟨g, off, none⟩ = some (.string b.1) ∧ ExAt W W.heap.size (d' + 1) b.2 g (off + 1) ∧ CpAt W W.heap.size (d' + 1) b.2 g (off + 1)) Tryd.underlying25 kB (by omega) (by decide +kernel) (fun n' hn' cs' x' h' hr' => by
      obtain ⟨ys, m', hm', hy, hl', hlen', hf'⟩ := DataW.trod_struct Tryd.underlying56 h'
      rw [kB] at hl'
      obtain ⟨y0, y1, rfl⟩ := list2 (show ys.length = 2 from hlen')
      rw [hy] at hr'
      have g0 : DataW.trod enc Tryd.prog W 0 spare held m' 9 ((cs'.drop 0).take (Tryd.prog.cellsOf 9)) = some y0 := hf' 0 _ rfl
      have g1 : DataW.trod enc Tryd.prog W 0 spare held m' 29 ((cs'.drop 1).take (Tryd.prog.cellsOf 29)) = some y1 := hf' 1 _ rfl
      have t0 : Rch 9 y0.1 := hr'.part Tryd.underlying56 (i := 0) rfl rfl
      have t1 : Rch 29 y1.1 := hr'.part Tryd.underlying56 (i := 1) rfl rfl
      match cs', hl' with
      | [z0, z1, z2, z3, z4, z5, z6, z7], _ =>
        rw [k9e] at g0
        rw [kE] at g1
        simp only [List.drop_succ_cons, List.drop_zero, List.take_succ_cons, List.take_zero] at g0 g1
        obtain ⟨s, e, hs⟩ := strOf g0 t0
        subst e
        obtain ⟨y, hw, hq⟩ := hE m' (by omega) _ _ g1 t1
        refine ⟨(s, y), ⟨hs, hw⟩, fun g off hg hc => ⟨hc 0 _ rfl, hq g (off + 1) hg (fun j u hu => ?_)⟩⟩
        have := hc (1 + j) u (by rw [Nat.add_comm]; simpa using hu)
        rw [← Nat.add_assoc] at this
        exact this) h4 r4
    obtain ⟨o6, p6, l6, e6, i6, b6, q6, s6⟩ := open_row (α := AltH × Tr (d' + 1)) (P := fun a => Lit.wf (.int .i64 a.1.kind) = true ∧ a.1.name.size ≤ LB ∧ Lit.wf (.int .i64 a.1.num) = true ∧ (a.1.vars.length ≤ LB ∧ ∀ x ∈ a.1.vars, x.size ≤ LB) ∧ WfT (d' + 1) a.2) (Q := fun a g off => W.cell? ⟨g, off, none⟩ = some (.int .i64 a.1.kind) ∧ W.cell? ⟨g, off + 1, none⟩ = some (.string a.1.name) ∧ W.cell? ⟨g, off + 2, none⟩ = some (.int .i64 a.1.num) ∧ (∃ o c, W.cell? ⟨g, off + 3, none⟩ = some (.slice o a.1.vars.length c) ∧ TxIn W W.heap.size o a.1.vars) ∧ ExAt W W.heap.size (d' + 1) a.2 g (off + 4) ∧ CpAt W W.heap.size (d' + 1) a.2 g (off + 4)) Tryd.underlying27 kA (by omega) (by decide +kernel) (fun n' hn' cs' x' h' hr' => by
      obtain ⟨ys, m', hm', hy, hl', hlen', hf'⟩ := DataW.trod_struct Tryd.underlying52 h'
      rw [kA] at hl'
      obtain ⟨y0, y1, y2, y3, y4, rfl⟩ := list5e (show ys.length = 5 from hlen')
      rw [hy] at hr'
      have g0 : DataW.trod enc Tryd.prog W 0 spare held m' 3 ((cs'.drop 0).take (Tryd.prog.cellsOf 3)) = some y0 := hf' 0 _ rfl
      have g1 : DataW.trod enc Tryd.prog W 0 spare held m' 9 ((cs'.drop 1).take (Tryd.prog.cellsOf 9)) = some y1 := hf' 1 _ rfl
      have g2 : DataW.trod enc Tryd.prog W 0 spare held m' 2 ((cs'.drop 2).take (Tryd.prog.cellsOf 2)) = some y2 := hf' 2 _ rfl
      have g3 : DataW.trod enc Tryd.prog W 0 spare held m' 24 ((cs'.drop 3).take (Tryd.prog.cellsOf 24)) = some y3 := hf' 3 _ rfl
      have g4 : DataW.trod enc Tryd.prog W 0 spare held m' 29 ((cs'.drop 4).take (Tryd.prog.cellsOf 29)) = some y4 := hf' 4 _ rfl
      have t1 : Rch 9 y1.1 := hr'.part Tryd.underlying52 (i := 1) rfl rfl
      have t3 : Rch 24 y3.1 := hr'.part Tryd.underlying52 (i := 3) rfl rfl
      have t4 : Rch 29 y4.1 := hr'.part Tryd.underlying52 (i := 4) rfl rfl
      match cs', hl' with
      | [z0, z1, z2, z3, z4, z5, z6, z7, z8, z9, z10], _ =>
        rw [k3e] at g0
        rw [k9e] at g1
        rw [k2e] at g2
        rw [kS] at g3
        rw [kE] at g4
        simp only [List.drop_succ_cons, List.drop_zero, List.take_succ_cons, List.take_zero] at g0 g1 g2 g3 g4
        obtain ⟨b0, f0, _, v0⟩ := DataW.trod_int Tryd.underlying3 g0
        obtain ⟨b1, f1, v1⟩ := strOf g1 t1
        obtain ⟨b2, f2, _, v2⟩ := DataW.trod_int Tryd.underlying2 g2
        obtain ⟨o, c, l, f3, u1, u2, u3⟩ := open_tx g3 t3
        simp only [List.cons.injEq, and_true] at f0 f2 f3
        subst f0 f1 f2 f3
        obtain ⟨y, hw, hq⟩ := hE m' (by omega) _ _ g4 t4
        refine ⟨(⟨b0, b1, b2, l⟩, y), ⟨v0, v1, v2, ⟨u2, u3⟩, hw⟩, fun g off hg hc => ⟨hc 0 _ rfl, hc 1 _ rfl, hc 2 _ rfl, ⟨o, c, hc 3 _ rfl, u1⟩, hq g (off + 4) hg (fun j u hu => ?_)⟩⟩
        have := hc (4 + j) u (by rw [Nat.add_comm]; simpa using hu)
        rw [← Nat.add_assoc] at this
        exact this) h6 r6
    simp only [List.cons.injEq, and_true] at e3 e4 e5 e6
    subst e3 e4 e5 e6
    exact ⟨(⟨a0, a1, a2, l3, l4, l5, l6⟩ : TrN (Tr (d' + 1))), _, _, _, _, _, _, _, rfl, ⟨o3, p3, o4, p4, o5, p5, o6, p6, rfl, i3, i4, i5, i6, q6⟩, w0, w1, w2, ⟨b3, s3⟩, ⟨b4, s4⟩, ⟨b5, s5⟩, ⟨b6, s6⟩⟩
end Go.Proofs.YtjmpjfggbhongaaDoor
namespace Go.Proofs.YtjmpjfggbhongaaDoor
open Go.RowKit Go.Shelf Go.Maps
set_option linter.unusedVariables false
/-- A new name: a letter and a number. -/
def numB (n : Nat) : ByteArray := ⟨((118 : UInt8) :: Lib.decDigits n).toArray⟩
/-- Texts, rows, expressions whose cells all lie in a footprint. -/
def TxF (W : World) (F : Nat → Nat → Prop) (o : Option Addr) (l : List ByteArray) : Prop := l = [] ∨ ∃ g off, o = some ⟨g, off, none⟩ ∧ ∀ k (h : k < l.length), F g (off + k) ∧ W.cell? ⟨g, off + k, none⟩ = some (.string l[k])
def RowF {α : Type} (n : Nat) (P : α → Nat → Nat → Prop) (o : Option Addr) (l : List α) : Prop := l = [] ∨ ∃ g off, o = some ⟨g, off, none⟩ ∧ ∀ k (h : k < l.length), P l[k] g (off + k * n)
def CF (W : World) (F : Nat → Nat → Prop) (g off : Nat) (v : Value) : Prop := F g off ∧ W.cell? ⟨g, off, none⟩ = some v
def ExF (W : World) (F : Nat → Nat → Prop) : (d : Nat) → Tr d → Nat → Nat → Prop
  | 0, t, _, _ => nomatch t
  | d + 1, t, g, off => CF W F g off (.int .i64 (TrN.kind t)) ∧ CF W F g (off + 1) (.string (TrN.name t)) ∧ CF W F g (off + 2) (.int .i64 (TrN.num t)) ∧
    (∃ o c, CF W F g (off + 3) (.slice o (TrN.params t).length c) ∧ TxF W F o (TrN.params t)) ∧
    (∃ o c, CF W F g (off + 4) (.slice o (TrN.binds t).length c) ∧ RowF 8 (fun (b : ByteArray × Tr d) g off => CF W F g off (.string b.1) ∧ ExF W F d b.2 g (off + 1)) o (TrN.binds t)) ∧
    (∃ o c, CF W F g (off + 5) (.slice o (TrN.args t).length c) ∧ RowF 7 (fun (x : Tr d) g off => ExF W F d x g off) o (TrN.args t)) ∧
    (∃ o c, CF W F g (off + 6) (.slice o (TrN.alts t).length c) ∧ RowF 11 (fun (a : AltH × Tr d) g off => CF W F g off (.int .i64 a.1.kind) ∧ CF W F g (off + 1) (.string a.1.name) ∧ CF W F g (off + 2) (.int .i64 a.1.num) ∧ (∃ o c, CF W F g (off + 3) (.slice o a.1.vars.length c) ∧ TxF W F o a.1.vars) ∧ ExF W F d a.2 g (off + 4)) o (TrN.alts t))
def BdF (W : World) (F : Nat → Nat → Prop) (d : Nat) (b : ByteArray × Tr d) (g off : Nat) : Prop := CF W F g off (.string b.1) ∧ ExF W F d b.2 g (off + 1)
def AlF (W : World) (F : Nat → Nat → Prop) (d : Nat) (a : AltH × Tr d) (g off : Nat) : Prop := CF W F g off (.int .i64 a.1.kind) ∧ CF W F g (off + 1) (.string a.1.name) ∧ CF W F g (off + 2) (.int .i64 a.1.num) ∧ (∃ o c, CF W F g (off + 3) (.slice o a.1.vars.length c) ∧ TxF W F o a.1.vars) ∧ ExF W F d a.2 g (off + 4)
section
variable {W W' : World} {F F' : Nat → Nat → Prop}
theorem CF.mono (hF : ∀ g off, F g off → F' g off ∧ W'.cell? ⟨g, off, none⟩ = W.cell? ⟨g, off, none⟩) {g off : Nat} {v : Value} (h : CF W F g off v) : CF W' F' g off v := ⟨(hF _ _ h.1).1, (hF _ _ h.1).2.trans h.2⟩
theorem TxF.mono (hF : ∀ g off, F g off → F' g off ∧ W'.cell? ⟨g, off, none⟩ = W.cell? ⟨g, off, none⟩) {o : Option Addr} {l : List ByteArray} (h : TxF W F o l) : TxF W' F' o l := by
  rcases h with h | ⟨g, off, e, h⟩
  · exact .inl h
  · exact .inr ⟨g, off, e, fun k hk => CF.mono hF (h k hk)⟩
theorem RowF.mono {α : Type} {n : Nat} {P Q : α → Nat → Nat → Prop} {o : Option Addr} {l : List α} (h : RowF n P o l) (hpq : ∀ x g off, P x g off → Q x g off) : RowF n Q o l := by
  rcases h with h | ⟨g, off, e, h⟩
  · exact .inl h
  · exact .inr ⟨g, off, e, fun k hk => hpq _ _ _ (h k hk)⟩
theorem ExF.mono (hF : ∀ g off, F g off → F' g off ∧ W'.cell? ⟨g, off, none⟩ = W.cell? ⟨g, off, none⟩) : ∀ (d : Nat) (t : Tr d) (g off : Nat), ExF W F d t g off → ExF W' F' d t g off
  | 0, t, _, _, _ => nomatch t
  | d + 1, t, g, off, h => by
    obtain ⟨h0, h1, h2, ⟨o3, c3, h3, k3⟩, ⟨o4, c4, h4, k4⟩, ⟨o5, c5, h5, k5⟩, ⟨o6, c6, h6, k6⟩⟩ := h
    refine ⟨h0.mono hF, h1.mono hF, h2.mono hF, ⟨o3, c3, h3.mono hF, k3.mono hF⟩, ⟨o4, c4, h4.mono hF, k4.mono ?_⟩, ⟨o5, c5, h5.mono hF, k5.mono ?_⟩, ⟨o6, c6, h6.mono hF, k6.mono ?_⟩⟩
    · rintro x g off ⟨e1, e2⟩
      exact ⟨e1.mono hF, ExF.mono hF d _ _ _ e2⟩
    · intro x g off e
      exact ExF.mono hF d _ _ _ e
    · rintro x g off ⟨e1, e2, e3, ⟨o, c, e4, e5⟩, e6⟩
      exact ⟨e1.mono hF, e2.mono hF, e3.mono hF, ⟨o, c, e4.mono hF, e5.mono hF⟩, ExF.mono hF d _ _ _ e6⟩
theorem ExF.at {B : Nat} (hB : ∀ g off, F g off → g < B) : ∀ (d : Nat) (t : Tr d) (g off : Nat), ExF W F d t g off → ExAt W B d t g off
  | 0, t, _, _, _ => nomatch t
  | d + 1, t, g, off, h => by
    obtain ⟨h0, h1, h2, ⟨o3, c3, h3, k3⟩, ⟨o4, c4, h4, k4⟩, ⟨o5, c5, h5, k5⟩, ⟨o6, c6, h6, k6⟩⟩ := h
    have tx : ∀ {o : Option Addr} {l : List ByteArray}, TxF W F o l → TxIn W B o l := by
      intro o l h
      rcases h with h | ⟨g, off, e, h⟩
      · exact .inl h
      · by_cases hl : l = []
        · exact .inl hl
        · exact .inr ⟨g, off, e, hB _ _ (h 0 (List.length_pos_iff.2 hl)).1, fun k hk => (h k hk).2⟩
    refine ⟨hB _ _ h0.1, h0.2, h1.2, h2.2, ⟨o3, c3, h3.2, tx k3⟩, ⟨o4, c4, h4.2, ?_⟩, ⟨o5, c5, h5.2, ?_⟩, ⟨o6, c6, h6.2, ?_⟩⟩
    · rcases k4 with h | ⟨g, off, e, h⟩
      · exact .inl h
      · by_cases hl : TrN.binds t = []
        · exact .inl hl
        · exact .inr ⟨g, off, e, hB _ _ (h 0 (List.length_pos_iff.2 hl)).1.1, fun k hk => ⟨(h k hk).1.2, ExF.at hB d _ _ _ (h k hk).2⟩⟩
    · rcases k5 with h | ⟨g, off, e, h⟩
      · exact .inl h
      · by_cases hl : TrN.args t = []
        · exact .inl hl
        · exact .inr ⟨g, off, e, (ExF.at hB d _ _ _ (h 0 (List.length_pos_iff.2 hl))).lt, fun k hk => ExF.at hB d _ _ _ (h k hk)⟩
    · rcases k6 with h | ⟨g, off, e, h⟩
      · exact .inl h
      · by_cases hl : TrN.alts t = []
        · exact .inl hl
        · refine .inr ⟨g, off, e, hB _ _ (h 0 (List.length_pos_iff.2 hl)).1.1, fun k hk => ?_⟩
          obtain ⟨e1, e2, e3, ⟨o, c, e4, e5⟩, e6⟩ := h k hk
          exact ⟨e1.2, e2.2, e3.2, ⟨o, c, e4.2, tx e5⟩, ExF.at hB d _ _ _ e6⟩
end
/-- The same expression, of one depth more. -/
def lift1 : (d : Nat) → Tr d → Tr (d + 1)
  | 0, t => nomatch t
  | d + 1, t => (⟨TrN.kind t, TrN.name t, TrN.num t, TrN.params t, (TrN.binds t).map (fun b => (b.1, lift1 d b.2)), (TrN.args t).map (lift1 d), (TrN.alts t).map (fun a => (a.1, lift1 d a.2))⟩ : TrN (Tr (d + 1)))
def liftN {d : Nat} (t : Tr d) : (k : Nat) → Tr (d + k)
  | 0 => t
  | k + 1 => lift1 (d + k) (liftN t k)
theorem RowF.map {α β : Type} {n : Nat} {P : α → Nat → Nat → Prop} {Q : β → Nat → Nat → Prop} {o : Option Addr} {l : List α} {f : α → β} (h : RowF n P o l) (hpq : ∀ x g off, P x g off → Q (f x) g off) : RowF n Q o (l.map f) := by
  rcases h with h | ⟨g, off, e, h⟩
  · exact .inl (by rw [h]; rfl)
  · refine .inr ⟨g, off, e, fun k hk => ?_⟩
    rw [List.getElem_map]
    exact hpq _ _ _ (h k (by rw [List.length_map] at hk; exact hk))
theorem ExF.lift1 {W : World} {F : Nat → Nat → Prop} : ∀ (d : Nat) (t : Tr d) (g off : Nat), ExF W F d t g off → ExF W F (d + 1) (YtjmpjfggbhongaaDoor.lift1 d t) g off
  | 0, t, _, _, _ => nomatch t
  | d + 1, t, g, off, h => by
    obtain ⟨h0, h1, h2, k3, ⟨o4, c4, h4, k4⟩, ⟨o5, c5, h5, k5⟩, ⟨o6, c6, h6, k6⟩⟩ := h
    refine ⟨h0, h1, h2, k3, ⟨o4, c4, ?_, ?_⟩, ⟨o5, c5, ?_, ?_⟩, ⟨o6, c6, ?_, ?_⟩⟩
    · show CF _ _ _ _ (.slice o4 ((TrN.binds t).map _).length c4)
      rw [List.length_map]; exact h4
    · refine k4.map (f := fun (b : ByteArray × Tr d) => (b.1, YtjmpjfggbhongaaDoor.lift1 d b.2)) ?_
      rintro x g off ⟨e1, e2⟩
      exact ⟨e1, ExF.lift1 d _ _ _ e2⟩
    · show CF _ _ _ _ (.slice o5 ((TrN.args t).map _).length c5)
      rw [List.length_map]; exact h5
    · refine k5.map (f := YtjmpjfggbhongaaDoor.lift1 d) ?_
      intro x g off e
      exact ExF.lift1 d _ _ _ e
    · show CF _ _ _ _ (.slice o6 ((TrN.alts t).map _).length c6)
      rw [List.length_map]; exact h6
    · refine k6.map (f := fun (a : AltH × Tr d) => (a.1, YtjmpjfggbhongaaDoor.lift1 d a.2)) ?_
      rintro x g off ⟨e1, e2, e3, e4, e6⟩
      exact ⟨e1, e2, e3, e4, ExF.lift1 d _ _ _ e6⟩
theorem ExF.liftN {W : World} {F : Nat → Nat → Prop} {d : Nat} {t : Tr d} {g off : Nat} (h : ExF W F d t g off) : ∀ k, ExF W F (d + k) (YtjmpjfggbhongaaDoor.liftN t k) g off
  | 0 => h
  | k + 1 => ExF.lift1 (d + k) _ _ _ (ExF.liftN h k)
end Go.Proofs.YtjmpjfggbhongaaDoor
namespace Go.Proofs.YtjmpjfggbhongaaDoor
open Go.RowKit Go.Shelf Go.Maps
set_option linter.unusedVariables false
/-- A map of names to numbers in memory. -/
def NumMap (W : World) (m c : Nat) (φ : List UInt8 → Nat) : Prop := ∃ D : DataW Value, W.ownsMap Tryd.prog 9 heldElem m c D ∧ Maps.IsMap D ∧ ∀ x, D.atKey (.string x) (.held (.int .i64 0)) = .held (.int .i64 (φ x : Int))
theorem NumMap.lt {W : World} {m c : Nat} {φ : List UInt8 → Nat} (h : NumMap W m c φ) : m < W.heap.size := by
  obtain ⟨D, h1, _⟩ := h
  exact h1.lt
theorem NumMap.same {W W' : World} {m c : Nat} {φ : List UInt8 → Nat} (h : NumMap W m c φ) (hb : W'.heap[m]? = W.heap[m]?) : NumMap W' m c φ := by
  obtain ⟨D, ⟨es, clock, k1, k2⟩, h2⟩ := h
  exact ⟨D, ⟨es, clock, by rw [hb]; exact k1, k2⟩, h2⟩
end Go.Proofs.YtjmpjfggbhongaaDoor
namespace Go.Proofs.YtjmpjfggbhongaaDoor
open Go.RowKit Go.Shelf Go.Maps
set_option linter.unusedVariables false
/-- Where a substitution lies: its own block, its scope's map, the sets of names that are free and taken, the map of new numbers; below Z lies the tree that is written; the blocks of what comes; the name. -/
structure SbP where
  S : Nat
  m : Nat
  fr : Nat
  tk : Nat
  fh : Nat
  Z : Nat
  lob : Nat
  hib : Nat
  name : ByteArray
/-- What a substitution's own functions change: its block, its scope's map, the map of new numbers. -/
structure SbCh (P : SbP) (W W' : World) : Prop where
  os : W'.os = W.os
  tape : W'.tape = W.tape
  output : W'.output = W.output
  size : W.heap.size ≤ W'.heap.size
  block : ∀ k, k < W.heap.size → k ≠ P.S → k ≠ P.m → k ≠ P.fh → W'.heap[k]? = W.heap[k]?
theorem SbCh.refl (P : SbP) (W : World) : SbCh P W W := ⟨rfl, rfl, rfl, Nat.le_refl _, fun _ _ _ _ _ => rfl⟩
theorem SbCh.trans {P : SbP} {W1 W2 W3 : World} (h : SbCh P W1 W2) (k : SbCh P W2 W3) : SbCh P W1 W3 := ⟨k.os.trans h.os, k.tape.trans h.tape, k.output.trans h.output, Nat.le_trans h.size k.size, fun j hj h1 h2 h3 => (k.block j (Nat.lt_of_lt_of_le hj h.size) h1 h2 h3).trans (h.block j hj h1 h2 h3)⟩
theorem SbCh.below {P : SbP} {W W' : World} (h : Below W.heap.size W W') : SbCh P W W' := ⟨h.os, h.tape, h.output, h.size, fun k hk _ _ _ => h.block k hk⟩
theorem SbCh.set (P : SbP) (W : World) (j : Nat) (u : Value) : SbCh P W (W.setCell ⟨P.S, j, none⟩ u) := ⟨rfl, rfl, rfl, by rw [size_set7]; exact Nat.le_refl _, fun k hk h1 _ _ => heap_set_other _ _ _ _ _ h1⟩
/-- Blocks of frames stay. -/
def FrKeep (W W' : World) : Prop := ∀ (k : Nat) (cs : Array Value) (fz : Nat × Nat), W.heap[k]? = some (Obj.cells cs 148 fz) → W'.heap[k]? = some (Obj.cells cs 148 fz)
theorem FrKeep.below {W W' : World} (h : Below W.heap.size W W') : FrKeep W W' := fun k cs fz e => by rw [h.block k (Array.getElem?_eq_some_iff.1 e).1]; exact e
theorem FrKeep.set {W : World} {g : Nat} (h : Uf W g) (j : Nat) (u : Value) : FrKeep W (W.setCell ⟨g, j, none⟩ u) := fun k cs fz e => by
  by_cases hk : k = g
  · subst hk
    obtain ⟨cur, T, e2, hn⟩ := h
    rw [e] at e2
    cases e2
    exact absurd rfl hn
  · rw [heap_set_other _ _ _ _ _ hk]; exact e
theorem FrKeep.trans {W1 W2 W3 : World} (h : FrKeep W1 W2) (k : FrKeep W2 W3) : FrKeep W1 W3 := fun j cs fz e => k j cs fz (h j cs fz e)
section
variable {W W' : World} {P : SbP} {db : Nat} {b : Tr db} {F : List UInt8 → Bool} {L : List (List UInt8)} {c : Nat} {sc : Sc} {room : Int} {φ : List UInt8 → Nat} {cf last : Nat}
end
end Go.Proofs.YtjmpjfggbhongaaDoor
namespace Go.Proofs.YtjmpjfggbhongaaDoor
open Go.RowKit Go.Shelf Go.Maps
set_option linter.unusedVariables false
/-- What a bound name is called. -/
def rnB (F : List UInt8 → Bool) (φ : List UInt8 → Nat) (x : ByteArray) : ByteArray := if F x.data.toList then numB (φ x.data.toList) else x
def Ext (φ φ' : List UInt8 → Nat) : Prop := ∀ x, φ x ≠ 0 → φ' x = φ x
theorem Ext.refl (φ : List UInt8 → Nat) : Ext φ φ := fun _ _ => rfl
theorem Ext.trans {a b c : List UInt8 → Nat} (h : Ext a b) (k : Ext b c) : Ext a c := fun x hx => by
  have h1 := h x hx
  rw [k x (by rw [h1]; exact hx), h1]
end Go.Proofs.YtjmpjfggbhongaaDoor
namespace Go.Proofs.YtjmpjfggbhongaaDoor
open Go.RowKit Go.Shelf Go.Maps
set_option linter.unusedVariables false
/-- All blocks stay but those of the substitution's own and one. -/
structure TxCh (P : SbP) (g : Nat) (W W' : World) : Prop where
  os : W'.os = W.os
  tape : W'.tape = W.tape
  output : W'.output = W.output
  size : W.heap.size ≤ W'.heap.size
  block : ∀ k, k < W.heap.size → k ≠ P.S → k ≠ P.m → k ≠ P.fh → k ≠ g → W'.heap[k]? = W.heap[k]?
theorem SbCh.tx {P : SbP} {W W' : World} (h : SbCh P W W') (g : Nat) : TxCh P g W W' := ⟨h.os, h.tape, h.output, h.size, fun k hk h1 h2 h3 _ => h.block k hk h1 h2 h3⟩
theorem TxCh.trans {P : SbP} {g : Nat} {W1 W2 W3 : World} (h : TxCh P g W1 W2) (k : TxCh P g W2 W3) : TxCh P g W1 W3 := ⟨k.os.trans h.os, k.tape.trans h.tape, k.output.trans h.output, Nat.le_trans h.size k.size, fun j hj h1 h2 h3 h4 => (k.block j (Nat.lt_of_lt_of_le hj h.size) h1 h2 h3 h4).trans (h.block j hj h1 h2 h3 h4)⟩
theorem TxCh.set (P : SbP) (g : Nat) (W : World) (j : Nat) (u : Value) : TxCh P g W (W.setCell ⟨g, j, none⟩ u) := ⟨rfl, rfl, rfl, by rw [size_set7]; exact Nat.le_refl _, fun k hk _ _ _ h => heap_set_other _ _ _ _ _ h⟩
section
variable {W : World} {P : SbP} {db : Nat} {b : Tr db} {F : List UInt8 → Bool} {L : List (List UInt8)} {c : Nat} {sc : Sc} {room : Int} {φ : List UInt8 → Nat} {cf last : Nat}
end
theorem rnB_ext {F : List UInt8 → Bool} {φ φ' : List UInt8 → Nat} {x : ByteArray} (h : Ext φ φ') (h1 : F x.data.toList = true → φ x.data.toList ≠ 0) : rnB F φ' x = rnB F φ x := by
  unfold rnB
  cases e : F x.data.toList with
  | false => rfl
  | true => simp only [if_true]; rw [h _ (h1 e)]
end Go.Proofs.YtjmpjfggbhongaaDoor
namespace Go.Proofs.YtjmpjfggbhongaaDoor
open Go.RowKit Go.Shelf Go.Maps
set_option linter.unusedVariables false
/-- An expression as a value, its rows in a footprint. -/
def VlF (W : World) (F : Nat → Nat → Prop) : (d : Nat) → Tr d → Value → Prop
  | 0, t, _ => nomatch t
  | d + 1, t, v => ∃ o3 c3 o4 c4 o5 c5 o6 c6, v = .agg #[.int .i64 (TrN.kind t), .string (TrN.name t), .int .i64 (TrN.num t), .slice o3 (TrN.params t).length c3, .slice o4 (TrN.binds t).length c4, .slice o5 (TrN.args t).length c5, .slice o6 (TrN.alts t).length c6] ∧ TxF W F o3 (TrN.params t) ∧ RowF 8 (BdF W F d) o4 (TrN.binds t) ∧ RowF 7 (ExF W F d) o5 (TrN.args t) ∧ RowF 11 (AlF W F d) o6 (TrN.alts t)
theorem BdF.mono {W W' : World} {F F' : Nat → Nat → Prop} (hF : ∀ g off, F g off → F' g off ∧ W'.cell? ⟨g, off, none⟩ = W.cell? ⟨g, off, none⟩) {d : Nat} {x : ByteArray × Tr d} {g off : Nat} (h : BdF W F d x g off) : BdF W' F' d x g off := ⟨h.1.mono hF, ExF.mono hF d _ _ _ h.2⟩
theorem AlF.mono {W W' : World} {F F' : Nat → Nat → Prop} (hF : ∀ g off, F g off → F' g off ∧ W'.cell? ⟨g, off, none⟩ = W.cell? ⟨g, off, none⟩) {d : Nat} {x : AltH × Tr d} {g off : Nat} (h : AlF W F d x g off) : AlF W' F' d x g off := by
  obtain ⟨e1, e2, e3, ⟨o, c, e4, e5⟩, e6⟩ := h
  exact ⟨e1.mono hF, e2.mono hF, e3.mono hF, ⟨o, c, e4.mono hF, e5.mono hF⟩, ExF.mono hF d _ _ _ e6⟩
theorem VlF.mono {W W' : World} {F F' : Nat → Nat → Prop} (hF : ∀ g off, F g off → F' g off ∧ W'.cell? ⟨g, off, none⟩ = W.cell? ⟨g, off, none⟩) {d : Nat} {t : Tr d} {v : Value} (h : VlF W F d t v) : VlF W' F' d t v := by
  cases d with
  | zero => exact nomatch t
  | succ d =>
    obtain ⟨o3, c3, o4, c4, o5, c5, o6, c6, e, k3, k4, k5, k6⟩ := h
    exact ⟨o3, c3, o4, c4, o5, c5, o6, c6, e, k3.mono hF, k4.mono (fun x g off h => h.mono hF), k5.mono (fun x g off h => ExF.mono hF d _ _ _ h), k6.mono (fun x g off h => h.mono hF)⟩
/-- A value whose cells lie somewhere. -/
theorem VlF.at {W : World} {F : Nat → Nat → Prop} {d : Nat} {t : Tr d} {c0 c1 c2 c3 c4 c5 c6 : Value} (h : VlF W F d t (.agg #[c0, c1, c2, c3, c4, c5, c6])) {g off : Nat} (hF : ∀ o, off ≤ o → o < off + 7 → F g o) (h0 : W.cell? ⟨g, off, none⟩ = some c0) (h1 : W.cell? ⟨g, off + 1, none⟩ = some c1) (h2 : W.cell? ⟨g, off + 2, none⟩ = some c2) (h3 : W.cell? ⟨g, off + 3, none⟩ = some c3) (h4 : W.cell? ⟨g, off + 4, none⟩ = some c4) (h5 : W.cell? ⟨g, off + 5, none⟩ = some c5) (h6 : W.cell? ⟨g, off + 6, none⟩ = some c6) : ExF W F d t g off := by
  cases d with
  | zero => exact nomatch t
  | succ d =>
    obtain ⟨o3, c3, o4, c4, o5, c5, o6, c6, e, k3, k4, k5, k6⟩ := h
    cases e
    exact ⟨⟨hF _ (by omega) (by omega), h0⟩, ⟨hF _ (by omega) (by omega), h1⟩, ⟨hF _ (by omega) (by omega), h2⟩, ⟨o3, _, ⟨hF _ (by omega) (by omega), h3⟩, k3⟩, ⟨o4, _, ⟨hF _ (by omega) (by omega), h4⟩, k4⟩, ⟨o5, _, ⟨hF _ (by omega) (by omega), h5⟩, k5⟩, ⟨o6, _, ⟨hF _ (by omega) (by omega), h6⟩, k6⟩⟩
end Go.Proofs.YtjmpjfggbhongaaDoor
namespace Go.Proofs.YtjmpjfggbhongaaDoor
open Go.RowKit Go.Shelf Go.Maps
set_option linter.unusedVariables false
theorem TxCh.below {P : SbP} {g : Nat} {W W' : World} (h : Below W.heap.size W W') : TxCh P g W W' := (SbCh.below h).tx g
end Go.Proofs.YtjmpjfggbhongaaDoor
namespace Go.Proofs.YtjmpjfggbhongaaDoor
open Go.RowKit Go.Shelf Go.Maps
set_option linter.unusedVariables false
def All2 {α β : Type} (R : α → β → Prop) (l : List α) (l' : List β) : Prop := l'.length = l.length ∧ ∀ k (h : k < l.length) (h' : k < l'.length), R l[k] l'[k]
theorem All2.mono {α β : Type} {R Q : α → β → Prop} {l : List α} {l' : List β} (h : All2 R l l') (hRQ : ∀ a ∈ l, ∀ b, R a b → Q a b) : All2 Q l l' := ⟨h.1, fun k h1 h2 => hRQ _ (List.getElem_mem h1) _ (h.2 k h1 h2)⟩
/-- New names are there for these. -/
def NwOK (F : List UInt8 → Bool) (φ : List UInt8 → Nat) (l : List ByteArray) : Prop := ∀ x ∈ l, F x.data.toList = true → φ x.data.toList ≠ 0
theorem NwOK.ext {F : List UInt8 → Bool} {φ φ' : List UInt8 → Nat} {l : List ByteArray} (h : NwOK F φ l) (he : Ext φ φ') : NwOK F φ' l := fun x hx hF => by rw [he _ (h x hx hF)]; exact h x hx hF
theorem NwOK.map {F : List UInt8 → Bool} {φ φ' : List UInt8 → Nat} {l : List ByteArray} (h : NwOK F φ l) (he : Ext φ φ') : l.map (rnB F φ') = l.map (rnB F φ) := List.map_congr_left (fun x hx => rnB_ext he (h x hx))
/-- One expression is another one, with something in the place of a name, bound names called otherwise where they would catch a free one. -/
def SubR (nm : ByteArray) (F : List UInt8 → Bool) (db : Nat) (b : Tr db) (φ : List UInt8 → Nat) : (d : Nat) → List (List UInt8) → Tr d → Tr (db + d) → Prop
  | 0, _, t, _ => nomatch t
  | d + 1, ns, t, t' =>
    (TrN.kind t = 1 ∧ (dl (bndM t).reverse ++ ns).contains (TrN.name t).data.toList = false ∧ (TrN.name t).toList = nm.toList ∧ t' = liftN b (d + 1)) ∨
    (¬ (TrN.kind t = 1 ∧ (dl (bndM t).reverse ++ ns).contains (TrN.name t).data.toList = false ∧ (TrN.name t).toList = nm.toList) ∧
      (show TrN (Tr (db + d)) from t').kind = TrN.kind t ∧ (show TrN (Tr (db + d)) from t').num = TrN.num t ∧
      (show TrN (Tr (db + d)) from t').name = (if TrN.kind t = 1 ∧ (dl (bndM t).reverse ++ ns).contains (TrN.name t).data.toList = true then rnB F φ (TrN.name t) else TrN.name t) ∧
      (TrN.kind t = 1 → (dl (bndM t).reverse ++ ns).contains (TrN.name t).data.toList = true → NwOK F φ [TrN.name t]) ∧
      NwOK F φ (bndM t) ∧
      (show TrN (Tr (db + d)) from t').params = (TrN.params t).map (rnB F φ) ∧
      All2 (fun (p : ByteArray × Tr d) (q : ByteArray × Tr (db + d)) => q.1 = rnB F φ p.1 ∧ SubR nm F db b φ d (dl (bndM t).reverse ++ ns) p.2 q.2) (TrN.binds t) (show TrN (Tr (db + d)) from t').binds ∧
      All2 (fun (p : Tr d) (q : Tr (db + d)) => SubR nm F db b φ d (dl (bndM t).reverse ++ ns) p q) (TrN.args t) (show TrN (Tr (db + d)) from t').args ∧
      All2 (fun (p : AltH × Tr d) (q : AltH × Tr (db + d)) => NwOK F φ p.1.vars ∧ q.1 = ⟨p.1.kind, p.1.name, p.1.num, p.1.vars.map (rnB F φ)⟩ ∧ SubR nm F db b φ d (dl p.1.vars.reverse ++ (dl (bndM t).reverse ++ ns)) p.2 q.2) (TrN.alts t) (show TrN (Tr (db + d)) from t').alts)
theorem SubR.ext {nm : ByteArray} {F : List UInt8 → Bool} {db : Nat} {b : Tr db} {φ φ' : List UInt8 → Nat} (he : Ext φ φ') : ∀ (d : Nat) (ns : List (List UInt8)) (t : Tr d) (t' : Tr (db + d)), SubR nm F db b φ d ns t t' → SubR nm F db b φ' d ns t t'
  | 0, _, t, _, _ => nomatch t
  | d + 1, ns, t, t', h => by
    rcases h with h | ⟨h0, h1, h2, h3, h3b, h4, h5, h6, h7, h8⟩
    · exact .inl h
    · refine .inr ⟨h0, h1, h2, ?_, fun a1 a2 => (h3b a1 a2).ext he, h4.ext he, ?_, ?_, ?_, ?_⟩
      · rw [h3]
        by_cases hc : TrN.kind t = 1 ∧ (dl (bndM t).reverse ++ ns).contains (TrN.name t).data.toList = true
        · rw [if_pos hc, if_pos hc]
          exact (rnB_ext he (h3b hc.1 hc.2 _ (by simp))).symm
        · rw [if_neg hc, if_neg hc]
      · rw [h5]
        exact (NwOK.map (fun x hx => h4 x (List.mem_append_left _ hx)) he).symm
      · refine h6.mono (fun p hp q => ?_)
        rintro ⟨e1, e2⟩
        refine ⟨?_, SubR.ext he d _ _ _ e2⟩
        rw [e1]
        exact (rnB_ext he (h4 p.1 (List.mem_append_right _ (List.mem_map.2 ⟨p, hp, rfl⟩)))).symm
      · exact h7.mono (fun p hp q e => SubR.ext he d _ _ _ e)
      · refine h8.mono (fun p hp q => ?_)
        rintro ⟨e0, e1, e2⟩
        refine ⟨e0.ext he, ?_, SubR.ext he d _ _ _ e2⟩
        rw [e1, e0.map he]
/-- What is changed: the substitution's own, a stretch of cells in one block, some blocks. -/
structure ElCh (P : SbP) (g off n lo hi : Nat) (W W' : World) : Prop where
  os : W'.os = W.os
  tape : W'.tape = W.tape
  output : W'.output = W.output
  size : W.heap.size ≤ W'.heap.size
  block : ∀ k, k < W.heap.size → k ≠ P.S → k ≠ P.m → k ≠ P.fh → k ≠ g → ¬ (lo ≤ k ∧ k < hi) → W'.heap[k]? = W.heap[k]?
  cells : ∀ o, o < off ∨ off + n ≤ o → W'.cell? ⟨g, o, none⟩ = W.cell? ⟨g, o, none⟩
  uf : ∀ k, k < P.Z → Uf W k → Uf W' k
theorem ElCh.trans {P : SbP} {g off n lo hi : Nat} {W1 W2 W3 : World} (h : ElCh P g off n lo hi W1 W2) (k : ElCh P g off n lo hi W2 W3) : ElCh P g off n lo hi W1 W3 := ⟨k.os.trans h.os, k.tape.trans h.tape, k.output.trans h.output, Nat.le_trans h.size k.size, fun j hj h1 h2 h3 h4 h5 => (k.block j (Nat.lt_of_lt_of_le hj h.size) h1 h2 h3 h4 h5).trans (h.block j hj h1 h2 h3 h4 h5), fun o ho => (k.cells o ho).trans (h.cells o ho), fun j hj hu => k.uf j hj (h.uf j hj hu)⟩
end Go.Proofs.YtjmpjfggbhongaaDoor
