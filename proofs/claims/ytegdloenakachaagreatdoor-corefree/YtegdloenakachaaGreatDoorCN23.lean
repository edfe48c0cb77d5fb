/-
  Substitution as mathematics (a relation); what it changes; rows on their way.
  Substitution in a row of expressions, by a contract.
  Substitution in a row of bindings, by a contract.
  Substitution in one alternative: what is done call by call.
-/
import Derived.Test.YtegdloenakachaaGreatDoorCN22
namespace Go.Proofs.YtegdloenakachaaGreatDoor
open Go.RowKit Go.Shelf Go.Maps
set_option linter.unusedVariables false

def All2 {α β : Type} (R : α → β → Prop) (l : List α) (l' : List β) : Prop := l'.length = l.length ∧ ∀ k (h : k < l.length) (h' : k < l'.length), R l[k] l'[k]
theorem All2.mono {α β : Type} {R Q : α → β → Prop} {l : List α} {l' : List β} (h : All2 R l l') (hRQ : ∀ a ∈ l, ∀ b, R a b → Q a b) : All2 Q l l' := ⟨h.1, fun k h1 h2 => hRQ _ (List.getElem_mem h1) _ (h.2 k h1 h2)⟩
/-- New names are there for these. -/
def NwOK (F : List UInt8 → Bool) (φ : List UInt8 → Nat) (l : List ByteArray) : Prop := ∀ x ∈ l, F x.data.toList = true → φ x.data.toList ≠ 0
theorem NwOK.ext {F : List UInt8 → Bool} {φ φ' : List UInt8 → Nat} {l : List ByteArray} (h : NwOK F φ l) (he : Ext φ φ') : NwOK F φ' l := fun x hx hF => by rw [he _ (h x hx hF)]; exact h x hx hF
theorem NwOK.map {F : List UInt8 → Bool} {φ φ' : List UInt8 → Nat} {l : List ByteArray} (h : NwOK F φ l) (he : Ext φ φ') : l.map (rnB F φ') = l.map (rnB F φ) := List.map_congr_left (fun x hx => rnB_ext he (h x hx))
/-- One expression is another one, with something in the place of a name, bound names called otherwise where they would catch a free one. -/
def SubR (nm : ByteArray) (F : List UInt8 → Bool) (db : Nat) (b : Tr db) (φ : List UInt8 → Nat) : (d : Nat) → List (List UInt8) → Tr d → Tr (db + d) → Prop
  | 0, _, t, _ => nomatch t
  | d + 1, ns, t, t' =>
    (TrN.kind t = 1 ∧ (dl (bndM t).reverse ++ ns).contains (TrN.name t).data.toList = false ∧ (TrN.name t).toList = nm.toList ∧ t' = liftN b (d + 1)) ∨
    (¬ (TrN.kind t = 1 ∧ (dl (bndM t).reverse ++ ns).contains (TrN.name t).data.toList = false ∧ (TrN.name t).toList = nm.toList) ∧
      (show TrN (Tr (db + d)) from t').kind = TrN.kind t ∧ (show TrN (Tr (db + d)) from t').num = TrN.num t ∧
      (show TrN (Tr (db + d)) from t').name = (if TrN.kind t = 1 ∧ (dl (bndM t).reverse ++ ns).contains (TrN.name t).data.toList = true then rnB F φ (TrN.name t) else TrN.name t) ∧
      (TrN.kind t = 1 → (dl (bndM t).reverse ++ ns).contains (TrN.name t).data.toList = true → NwOK F φ [TrN.name t]) ∧
      NwOK F φ (bndM t) ∧
      (show TrN (Tr (db + d)) from t').params = (TrN.params t).map (rnB F φ) ∧
      All2 (fun (p : ByteArray × Tr d) (q : ByteArray × Tr (db + d)) => q.1 = rnB F φ p.1 ∧ SubR nm F db b φ d (dl (bndM t).reverse ++ ns) p.2 q.2) (TrN.binds t) (show TrN (Tr (db + d)) from t').binds ∧
      All2 (fun (p : Tr d) (q : Tr (db + d)) => SubR nm F db b φ d (dl (bndM t).reverse ++ ns) p q) (TrN.args t) (show TrN (Tr (db + d)) from t').args ∧
      All2 (fun (p : AltH × Tr d) (q : AltH × Tr (db + d)) => NwOK F φ p.1.vars ∧ q.1 = ⟨p.1.kind, p.1.name, p.1.num, p.1.vars.map (rnB F φ)⟩ ∧ SubR nm F db b φ d (dl p.1.vars.reverse ++ (dl (bndM t).reverse ++ ns)) p.2 q.2) (TrN.alts t) (show TrN (Tr (db + d)) from t').alts)
theorem SubR.ext {nm : ByteArray} {F : List UInt8 → Bool} {db : Nat} {b : Tr db} {φ φ' : List UInt8 → Nat} (he : Ext φ φ') : ∀ (d : Nat) (ns : List (List UInt8)) (t : Tr d) (t' : Tr (db + d)), SubR nm F db b φ d ns t t' → SubR nm F db b φ' d ns t t'
  | 0, _, t, _, _ => nomatch t
  | d + 1, ns, t, t', h => by
    rcases h with h | ⟨h0, h1, h2, h3, h3b, h4, h5, h6, h7, h8⟩
    · exact .inl h
    · refine .inr ⟨h0, h1, h2, ?_, fun a1 a2 => (h3b a1 a2).ext he, h4.ext he, ?_, ?_, ?_, ?_⟩
      · rw [h3]
        by_cases hc : TrN.kind t = 1 ∧ (dl (bndM t).reverse ++ ns).contains (TrN.name t).data.toList = true
        · rw [if_pos hc, if_pos hc]
          exact (rnB_ext he (h3b hc.1 hc.2 _ (by simp))).symm
        · rw [if_neg hc, if_neg hc]
      · rw [h5]
        exact (NwOK.map (fun x hx => h4 x (List.mem_append_left _ hx)) he).symm
      · refine h6.mono (fun p hp q => ?_)
        rintro ⟨e1, e2⟩
        refine ⟨?_, SubR.ext he d _ _ _ e2⟩
        rw [e1]
        exact (rnB_ext he (h4 p.1 (List.mem_append_right _ (List.mem_map.2 ⟨p, hp, rfl⟩)))).symm
      · exact h7.mono (fun p hp q e => SubR.ext he d _ _ _ e)
      · refine h8.mono (fun p hp q => ?_)
        rintro ⟨e0, e1, e2⟩
        refine ⟨e0.ext he, ?_, SubR.ext he d _ _ _ e2⟩
        rw [e1, e0.map he]
/-- What is changed: the substitution's own, a stretch of cells in one block, some blocks. -/
structure ElCh (P : SbP) (g off n lo hi : Nat) (W W' : World) : Prop where
  os : W'.os = W.os
  tape : W'.tape = W.tape
  output : W'.output = W.output
  size : W.heap.size ≤ W'.heap.size
  block : ∀ k, k < W.heap.size → k ≠ P.S → k ≠ P.m → k ≠ P.fh → k ≠ g → ¬ (lo ≤ k ∧ k < hi) → W'.heap[k]? = W.heap[k]?
  cells : ∀ o, o < off ∨ off + n ≤ o → W'.cell? ⟨g, o, none⟩ = W.cell? ⟨g, o, none⟩
  uf : ∀ k, k < P.Z → Uf W k → Uf W' k
theorem ElCh.trans {P : SbP} {g off n lo hi : Nat} {W1 W2 W3 : World} (h : ElCh P g off n lo hi W1 W2) (k : ElCh P g off n lo hi W2 W3) : ElCh P g off n lo hi W1 W3 := ⟨k.os.trans h.os, k.tape.trans h.tape, k.output.trans h.output, Nat.le_trans h.size k.size, fun j hj h1 h2 h3 h4 h5 => (k.block j (Nat.lt_of_lt_of_le hj h.size) h1 h2 h3 h4 h5).trans (h.block j hj h1 h2 h3 h4 h5), fun o ho => (k.cells o ho).trans (h.cells o ho), fun j hj hu => k.uf j hj (h.uf j hj hu)⟩
theorem ElCh.widen {P : SbP} {g off n lo hi off' n' lo' hi' : Nat} {W W' : World} (h : ElCh P g off n lo hi W W') (h1 : off' ≤ off) (h2 : off + n ≤ off' + n') (h3 : lo' ≤ lo) (h4 : hi ≤ hi') : ElCh P g off' n' lo' hi' W W' := ⟨h.os, h.tape, h.output, h.size, fun k a1 a2 a3 a4 a5 a6 => h.block k a1 a2 a3 a4 a5 (by omega), fun o ho => h.cells o (by omega), h.uf⟩
theorem ElCh.ofSb {P : SbP} {g off n lo hi : Nat} {W W' : World} (h : SbCh P W W') (ho : P.Ok) (hg : g < P.Z) (hgl : g < W.heap.size) (hZ : P.Z ≤ W.heap.size) : ElCh P g off n lo hi W W' := by
  have e : ∀ k, k < P.Z → W'.heap[k]? = W.heap[k]? := fun k hk => h.block k (by omega) (by have := ho.zm; have := ho.mS; omega) (by have := ho.zm; omega) (by have := ho.zf; omega)
  exact ⟨h.os, h.tape, h.output, h.size, fun k a1 a2 a3 a4 _ _ => h.block k a1 a2 a3 a4, fun o _ => cell_of_block (e g hg) o, fun k hk hu => hu.same (e k hk)⟩
/-- A row inside the blocks is changed. -/
theorem ElCh.ofTx {P : SbP} {g off n lo hi r : Nat} {W W' : World} (h : TxCh P r W W') (ho : P.Ok) (hg : g < P.Z) (hgr : g ≠ r) (hr : lo ≤ r ∧ r < hi) (hgl : g < W.heap.size) (hZ : P.Z ≤ W.heap.size) (hu : Uf W' r) : ElCh P g off n lo hi W W' := by
  have e : ∀ k, k < P.Z → k ≠ r → W'.heap[k]? = W.heap[k]? := fun k hk hn => h.block k (by omega) (by have := ho.zm; have := ho.mS; omega) (by have := ho.zm; omega) (by have := ho.zf; omega) hn
  exact ⟨h.os, h.tape, h.output, h.size, fun k a1 a2 a3 a4 _ a6 => h.block k a1 a2 a3 a4 (by omega), fun o _ => cell_of_block (e g hg hgr) o, fun k hk hu2 => by
    by_cases e9 : k = r
    · rw [e9]; exact hu
    · exact hu2.same (e k hk e9)⟩
/-- The footprint of a part that is done. -/
def FpE (P : SbP) (g off n lo hi N N' : Nat) (k o : Nat) : Prop := (k = g ∧ off ≤ o ∧ o < off + n) ∨ (lo ≤ k ∧ k < hi) ∨ (P.lob ≤ k ∧ k < P.hib) ∨ (N ≤ k ∧ k < N')
/-- A row on its way: the first parts are done, the others as they were. -/
structure SuI (P : SbP) {α β : Type} (sz : Nat) (U : World → α → Nat → Nat → Nat → Nat → Prop) (D : World → (Nat → Nat → Prop) → β → Nat → Nat → Prop) (l : List α) (G : Nat) (h : Nat → Nat) (w : World) (k : Nat) (ts : List β) (W : World) : Prop where
  len : ts.length = k
  done : ∀ j (hj : j < ts.length), D W (FpE P G 0 (k * sz) (h 0) (h k) w.heap.size W.heap.size) ts[j] G (j * sz)
  rest : ∀ j (hj : j < l.length), k ≤ j → U W l[j] G (j * sz) (h j) (h (j + 1))
  ch : ElCh P G 0 (k * sz) (h 0) (h k) w W
theorem SuI.next {P : SbP} {α β : Type} {sz : Nat} {U : World → α → Nat → Nat → Nat → Nat → Prop} {D : World → (Nat → Nat → Prop) → β → Nat → Nat → Prop} {l : List α} {G : Nat} {h : Nat → Nat} {w : World} {k : Nat} {ts : List β} {W W2 : World} (hI : SuI P sz U D l G h w k ts W)
    (ho : P.Ok) (hGZ : G < P.Z) (hG : G < h 0) (hm : ∀ j, j < l.length → h j ≤ h (j + 1)) (hZ : h l.length ≤ P.Z) (hSw : P.S < w.heap.size) (hk : k < l.length) (t : β)
    (hc : ElCh P G (k * sz) sz (h k) (h (k + 1)) W W2) (ht : D W2 (FpE P G (k * sz) sz (h k) (h (k + 1)) W.heap.size W2.heap.size) t G (k * sz))
    (hD : ∀ (W W' : World) (F F' : Nat → Nat → Prop) (x : β) (g off : Nat), (∀ g off, F g off → F' g off ∧ W'.cell? ⟨g, off, none⟩ = W.cell? ⟨g, off, none⟩) → D W F x g off → D W' F' x g off)
    (hU : ∀ (x : α) (off lo hi : Nat), (∀ q, q < sz → W2.cell? ⟨G, off + q, none⟩ = W.cell? ⟨G, off + q, none⟩) → (∀ m, lo ≤ m → m < hi → W2.heap[m]? = W.heap[m]?) → U W x G off lo hi → U W2 x G off lo hi) : SuI P sz U D l G h w (k + 1) (ts ++ [t]) W2 := by
  have s1 := hI.ch.size
  have s2 := hc.size
  have hle : ∀ a c, a ≤ c → c ≤ l.length → h a ≤ h c := fun a c h1 h2 => step_le hm a c h1 h2
  have hkk : (k + 1) * sz = k * sz + sz := by rw [Nat.add_mul, Nat.one_mul]
  have z0 := hle 0 k (Nat.zero_le _) (by omega)
  have z1 := hle k (k + 1) (Nat.le_succ _) hk
  have z2 := hle (k + 1) l.length hk (Nat.le_refl _)
  refine ⟨by rw [List.length_append, hI.len]; rfl, fun j hj => ?_, fun j hj hkj => ?_, ?_⟩
  · by_cases e : j < k
    · rw [List.getElem_append_left (by rw [hI.len]; exact e)]
      refine hD W W2 _ _ _ _ _ (fun g off hF => ?_) (hI.done j (by rw [hI.len]; exact e))
      rcases hF with ⟨rfl, a1, a2⟩ | ⟨a1, a2⟩ | ⟨a1, a2⟩ | ⟨a1, a2⟩
      · exact ⟨.inl ⟨rfl, Nat.zero_le _, by omega⟩, hc.cells off (.inl (by omega))⟩
      · exact ⟨.inr (.inl ⟨a1, by omega⟩), cell_of_block (hc.block g (by have := ho.zm; have := ho.mS; omega) (by have := ho.zm; have := ho.mS; omega) (by have := ho.zm; omega) (by have := ho.zf; omega) (by omega) (by omega)) off⟩
      · exact ⟨.inr (.inr (.inl ⟨a1, a2⟩)), cell_of_block (hc.block g (by have := ho.hS; omega) (by have := ho.hS; omega) (by have := ho.bm; omega) (by have := ho.bf; omega) (by have := ho.zb; omega) (by have := ho.zb; omega)) off⟩
      · exact ⟨.inr (.inr (.inr ⟨a1, by omega⟩)), cell_of_block (hc.block g a2 (by omega) (by have := ho.mS; omega) (by have := ho.fS; omega) (by have := ho.zm; have := ho.mS; omega) (by have := ho.zm; have := ho.mS; omega)) off⟩
    · have e1 : j = k := by rw [List.length_append, hI.len] at hj; simp at hj; omega
      subst e1
      rw [List.getElem_append_right (by rw [hI.len]; exact Nat.le_refl _)]
      simp only [hI.len, Nat.sub_self, List.getElem_cons_zero]
      refine hD W2 W2 _ _ _ _ _ (fun g off hF => ⟨?_, rfl⟩) ht
      rcases hF with ⟨rfl, a1, a2⟩ | ⟨a1, a2⟩ | ⟨a1, a2⟩ | ⟨a1, a2⟩
      · exact .inl ⟨rfl, Nat.zero_le _, by omega⟩
      · exact .inr (.inl ⟨by omega, a2⟩)
      · exact .inr (.inr (.inl ⟨a1, a2⟩))
      · exact .inr (.inr (.inr ⟨by omega, a2⟩))
  · have z3 := hle (k + 1) j hkj (by omega)
    have z4 := hle (j + 1) l.length hj (Nat.le_refl _)
    have z5 := Nat.mul_le_mul_right sz hkj
    refine hU _ _ _ _ (fun q hq => hc.cells _ (.inr (by omega))) (fun m h1 h2 => ?_) (hI.rest j hj (by omega))
    exact hc.block m (by have := ho.zm; have := ho.mS; omega) (by have := ho.zm; have := ho.mS; omega) (by have := ho.zm; omega) (by have := ho.zf; omega) (by omega) (by omega)
  · exact (hI.ch.widen (Nat.le_refl _) (by omega) (Nat.le_refl _) z1).trans (hc.widen (Nat.zero_le _) (by omega) z0 (Nat.le_refl _))
/-- How many names are asked for at most. -/
def rcM (d : Nat) (t : Tr d) : Nat := costM d t + sizeM d t
/-- What subst.expr does with an expression of a depth. -/
structure SuR (P : SbP) (db : Nat) (b : Tr db) (F : List UInt8 → Bool) (L : List (List UInt8)) (c C : Nat) (sc : Sc) (φ : List UInt8 → Nat) (k0 : Nat) (W' : World) (φ' : List UInt8 → Nat) : Prop where
  e : Ext φ φ'
  st : ∃ (c' cf' last' : Nat) (room' : Int), c' ≤ C ∧ NumOK F L φ' last' ∧ Bnd L cf' last' k0 ∧ -1048576 ≤ room' ∧ room' ≤ 1048576 ∧ SbSt W' P db b F L c' sc room' φ' cf' last'
def SuPost (P : SbP) (db : Nat) (b : Tr db) (F : List UInt8 → Bool) (L : List (List UInt8)) (c : Nat) (sc : Sc) (φ : List UInt8 → Nat) (k0 : Nat) (d : Nat) (t : Tr d) (g off lo hi : Nat) (W : World) (r : Ending) (W' : World) : Prop :=
  ∃ (φ' : List UInt8 → Nat) (t' : Tr (db + d)), r = .returned (.tuple #[]) ∧ SubR P.name F db b φ' d (nms sc) t t' ∧ SuR P db b F L c (c + 2 * costM d t) sc φ k0 W' φ' ∧ ExF W' (FpE P g off 7 lo hi W.heap.size W'.heap.size) (db + d) t' g off ∧ ElCh P g off 7 lo hi W W'
def SubOK (P : SbP) (db : Nat) (b : Tr db) (F : List UInt8 → Bool) (L : List (List UInt8)) (d : Nat) : Prop := ∀ (t : Tr d) (g off lo hi : Nat) (c : Nat) (sc : Sc) (room : Int) (φ : List UInt8 → Nat) (cf last k0 : Nat) (w : World), OwEx w d t g off lo hi → g < lo → hi ≤ P.Z → Uf w g → 0 < g → SbSt w P db b F L c sc room φ cf last → NumOK F L φ last → Bnd L cf last (k0 + rcM d t) → -1048576 ≤ room → room ≤ 1048576 → NmOK d t → Fit d t → c + 2 * costM d t ≤ 2000000 → sc.length + costM d t ≤ 2000000 →
  Calls Tryz.prog 34 #[.pointer (some ⟨P.S, 0, none⟩), .pointer (some ⟨g, off, none⟩)] w fun r w' => SuPost P db b F L c sc φ k0 d t g off lo hi w r w'
end Go.Proofs.YtegdloenakachaaGreatDoor

namespace Go.Proofs.YtegdloenakachaaGreatDoor
open Go.RowKit Go.Shelf Go.Maps
set_option linter.unusedVariables false

/-- What is changed by a row: the substitution's own, some blocks. -/
structure RoCh (P : SbP) (lo hi : Nat) (W W' : World) : Prop where
  os : W'.os = W.os
  tape : W'.tape = W.tape
  output : W'.output = W.output
  size : W.heap.size ≤ W'.heap.size
  block : ∀ k, k < W.heap.size → k ≠ P.S → k ≠ P.m → k ≠ P.fh → ¬ (lo ≤ k ∧ k < hi) → W'.heap[k]? = W.heap[k]?
  uf : ∀ k, k < P.Z → Uf W k → Uf W' k
theorem RoCh.refl (P : SbP) (lo hi : Nat) (W : World) : RoCh P lo hi W W := ⟨rfl, rfl, rfl, Nat.le_refl _, fun _ _ _ _ _ _ => rfl, fun _ _ h => h⟩
theorem ElCh.row {P : SbP} {g off n a c lo hi : Nat} {W W' : World} (h : ElCh P g off n a c W W') (h1 : lo ≤ g) (h2 : g < hi) (h3 : lo ≤ a) (h4 : c ≤ hi) : RoCh P lo hi W W' := ⟨h.os, h.tape, h.output, h.size, fun k a1 a2 a3 a4 a5 => h.block k a1 a2 a3 a4 (by omega) (by omega), h.uf⟩
theorem RoCh.el {P : SbP} {g off n a c lo hi : Nat} {W W' : World} (h : RoCh P lo hi W W') (ho : P.Ok) (hg : g < P.Z) (hgl : g < W.heap.size) (hn : ¬ (lo ≤ g ∧ g < hi)) (h3 : a ≤ lo) (h4 : hi ≤ c) : ElCh P g off n a c W W' := by
  have e : W'.heap[g]? = W.heap[g]? := h.block g hgl (by have := ho.zm; have := ho.mS; omega) (by have := ho.zm; omega) (by have := ho.zf; omega) hn
  exact ⟨h.os, h.tape, h.output, h.size, fun k a1 a2 a3 a4 a5 a6 => h.block k a1 a2 a3 a4 (by omega), fun o _ => cell_of_block e o, h.uf⟩
def FpR (P : SbP) (lo hi N N' : Nat) (k _o : Nat) : Prop := (lo ≤ k ∧ k < hi) ∨ (P.lob ≤ k ∧ k < P.hib) ∨ (N ≤ k ∧ k < N')
/-- What a row gives. -/
def SrPost (P : SbP) (db : Nat) (b : Tr db) (F : List UInt8 → Bool) (L : List (List UInt8)) (c C : Nat) (sc : Sc) (φ : List UInt8 → Nat) (k0 : Nat) {α β : Type} (R : (List UInt8 → Nat) → α → β → Prop) (n : Nat) (D : World → (Nat → Nat → Prop) → β → Nat → Nat → Prop) (l : List α) (o : Option Addr) (lo hi : Nat) (W : World) (r : Ending) (W' : World) : Prop :=
  ∃ (φ' : List UInt8 → Nat) (ts : List β), r = .returned (.tuple #[]) ∧ All2 (R φ') l ts ∧ SuR P db b F L c C sc φ k0 W' φ' ∧ RowF n (D W' (FpR P lo hi W.heap.size W'.heap.size)) o ts ∧ RoCh P lo hi W W'
theorem take_sum2 {α : Type} (f : α → Nat) (l : List α) (k : Nat) (h : k < l.length) : ((l.drop k).map f).sum = f l[k] + ((l.drop (k + 1)).map f).sum := by
  rw [List.drop_eq_getElem_cons h, List.map_cons, List.sum_cons]
set_option maxRecDepth 100000 in
set_option maxHeartbeats 4000000 in
theorem sub_exprs_c (P : SbP) (db : Nat) (b : Tr db) (F : List UInt8 → Bool) (L : List (List UInt8)) (d : Nat) (ih : SubOK P db b F L d) (l : List (Tr d)) (o : Option Addr) (cap lo hi : Nat) (c : Nat) (sc : Sc) (room : Int) (φ : List UInt8 → Nat) (cf last k0 : Nat) (w : World) (hr : OwRow w lo hi 7 (OwEx w d) o l) (hZ : hi ≤ P.Z) (hg0 : 0 < lo) (h : SbSt w P db b F L c sc room φ cf last) (hN : NumOK F L φ last) (hB : Bnd L cf last (k0 + (l.map (rcM d)).sum)) (hr1 : -1048576 ≤ room) (hr2 : room ≤ 1048576) (hNm : ∀ x ∈ l, NmOK d x) (hFt : ∀ x ∈ l, Fit d x) (hc : c + 2 * (l.map (costM d)).sum ≤ 2000000) (hsc : sc.length + (l.map (costM d)).sum ≤ 2000000) (hln : l.length ≤ 2000000) :
    Calls Tryz.prog 66 #[.pointer (some ⟨P.S, 0, none⟩), .slice o l.length cap] w fun r w' => SrPost P db b F L c (c + 2 * (l.map (costM d)).sum) sc φ k0 (fun φ' => SubR P.name F db b φ' d (nms sc)) 7 (fun W F' => ExF W F' (db + d)) l o lo hi w r w' := by
  obtain ⟨S, hS⟩ : ∃ S, P.S = S := ⟨_, rfl⟩
  have HS : Hid (P.S = S) := hS
  have lS := h.lt
  rw [hS] at lS ⊢
  by_cases hl0 : l = []
  · subst hl0
    have HE : Hid (SrPost P db b F L c (c + 2 * (([] : List (Tr d)).map (costM d)).sum) sc φ k0 (fun φ' => SubR P.name F db b φ' d (nms sc)) 7 (fun W F' => ExF W F' (db + d)) ([] : List (Tr d)) o lo hi w (.returned (.tuple #[])) w) := ⟨φ, [], rfl, ⟨rfl, fun k h _ => absurd h (Nat.not_lt_zero _)⟩, ⟨Ext.refl _, c, cf, last, room, Nat.le_add_right _ _, hN, hB.less (Nat.le_add_right _ _), hr1, hr2, h⟩, .inl rfl, RoCh.refl _ _ _ _⟩
    clear hr hZ hg0 h hN hB hr1 hr2 hNm hFt hc hsc hln ih hS
    show Calls Tryz.prog 66 #[.pointer (some ⟨S, 0, none⟩), .slice o 0 cap] w _
    go_enter Tryz.func66, Tryz.ntmps66
    go_wp2
    go_loopw [7] (fun v wr => v = .int .i64 0 ∧ wr = w) (fun v _ => 0)
    case atStart => exact ⟨rfl, rfl⟩
    case round =>
      obtain ⟨rfl, rfl⟩ := hrel
      go_wp2
      go_end0
      exact HE.out
  · obtain ⟨G, rfl, hG1, hGu, hf, hG2, hm, hhi, hE⟩ : ∃ g, o = some ⟨g, 0, none⟩ ∧ lo ≤ g ∧ Uf w g ∧ ∃ h : Nat → Nat, g < h 0 ∧ (∀ k, k < l.length → h k ≤ h (k + 1)) ∧ h l.length ≤ hi ∧ ∀ k (hk : k < l.length), OwEx w d l[k] g (k * 7) (h k) (h (k + 1)) := by
      rcases hr with h | h
      · exact absurd h hl0
      · exact h
    have hGh : G < hi := by have := step_le hm 0 l.length (Nat.zero_le _) (Nat.le_refl _); omega
    obtain ⟨n, hn⟩ : ∃ n, l.length = n := ⟨_, rfl⟩
    have ho := h.ok
    have H0 : Hid (l.length = n ∧ P.Ok ∧ G < P.Z ∧ lo ≤ G ∧ G < hi ∧ G < hf 0 ∧ (∀ k, k < l.length → hf k ≤ hf (k + 1)) ∧ hf l.length ≤ hi ∧ hi ≤ P.Z ∧ 0 < G ∧ P.S < w.heap.size) := ⟨hn, ho, by omega, hG1, hGh, hG2, hm, hhi, hZ, by omega, by rw [hS]; exact lS⟩
    have H1 : Hid ((∀ x ∈ l, NmOK d x) ∧ (∀ x ∈ l, Fit d x) ∧ c + 2 * (l.map (costM d)).sum ≤ 2000000 ∧ sc.length + (l.map (costM d)).sum ≤ 2000000) := ⟨hNm, hFt, hc, hsc⟩
    have HIh : Hid (SubOK P db b F L d) := ih
    have HGu : Hid (Uf w G) := hGu
    have HI0 : Hid (SuI P 7 (fun W => OwEx W d) (fun W F' => ExF W F' (db + d)) l G hf w 0 [] w) := ⟨rfl, fun j hj => absurd hj (Nat.not_lt_zero _), fun j hj _ => hE j hj, ⟨rfl, rfl, rfl, Nat.le_refl _, fun _ _ _ _ _ _ _ => rfl, fun _ _ => rfl, fun _ _ h => h⟩⟩
    have HR0 : Hid (SuR P db b F L c (c + 2 * ((l.take 0).map (costM d)).sum) sc φ (k0 + ((l.drop 0).map (rcM d)).sum) w φ) := ⟨Ext.refl _, c, cf, last, room, Nat.le_add_right _ _, hN, hB, hr1, hr2, h⟩
    have hni : (n : Int) ≤ 2000000 := by omega
    rw [hn]
    clear hr hZ hg0 h hN hB hr1 hr2 hNm hFt hc hsc hln ih hS hn ho hG1 hGu hG2 hm hhi hE hGh hl0
    go_enter Tryz.func66, Tryz.ntmps66
    go_wp2
    go_loopw [7] (fun v wr => ∃ k : Nat, v = .int .i64 (k : Int) ∧ Hid (k ≤ n ∧ ∃ (φ' : List UInt8 → Nat) (ts : List (Tr (db + d))), All2 (SubR P.name F db b φ' d (nms sc)) (l.take k) ts ∧ SuI P 7 (fun W => OwEx W d) (fun W F' => ExF W F' (db + d)) l G hf w k ts wr ∧ SuR P db b F L c (c + 2 * ((l.take k).map (costM d)).sum) sc φ (k0 + ((l.drop k).map (rcM d)).sum) wr φ')) (fun v _ => n - (intOf v).toNat)
    case atStart => exact ⟨0, rfl, ⟨Nat.zero_le _, φ, [], ⟨rfl, fun k h _ => absurd h (Nat.not_lt_zero _)⟩, HI0.out, HR0.out⟩⟩
    case round =>
      clear HI0 HR0
      obtain ⟨k, rfl, HI⟩ := hrel
      by_cases hk : k < n
      · obtain ⟨i1, φ1, ts, i2, i3, ⟨i4, c1, cf1, last1, room1, j1, j2, j3, j4, j5, j6⟩⟩ := HI.out
        obtain ⟨a1, a2, a3, a4, a5, a6, a7, a8, a9, a10, a11⟩ := H0.out
        obtain ⟨b1, b2, b3, b4⟩ := H1.out
        have hkl : k < l.length := by rw [a1]; exact hk
        have hEk := i3.rest k hkl (Nat.le_refl _)
        have hle := step_le a7
        have q1 := take_sum (costM d) l k hkl
        have q2 := take_le (costM d) l (k + 1)
        have q3 := take_sum2 (rcM d) l k hkl
        have q4 := hle 0 k (Nat.zero_le _) (by omega)
        have q5 := hle (k + 1) l.length hkl (Nat.le_refl _)
        have uG : Uf wr G := by
          have := i3.ch.uf G a3
          exact this (HGu.out)
        have HC : Hid (Calls Tryz.prog 34 #[.pointer (some ⟨P.S, 0, none⟩), .pointer (some ⟨G, k * 7, none⟩)] wr fun r w' => SuPost P db b F L c1 sc φ1 (k0 + ((l.drop (k + 1)).map (rcM d)).sum) d l[k] G (k * 7) (hf k) (hf (k + 1)) wr r w') := HIh.out l[k] G (k * 7) (hf k) (hf (k + 1)) c1 sc room1 φ1 cf1 last1 _ wr hEk (by omega) (by omega) uG (by omega) j6 j2 (by rw [q3] at j3; rw [show k0 + ((l.drop (k + 1)).map (rcM d)).sum + rcM d l[k] = k0 + (rcM d l[k] + ((l.drop (k + 1)).map (rcM d)).sum) by omega]; exact j3) j4 j5 (b1 _ (List.getElem_mem hkl)) (b2 _ (List.getElem_mem hkl)) (by omega) (by omega)
        rw [HS.out] at HC
        have lSr : S < wr.heap.size := by have := j6.lt; rw [HS.out] at this; exact this
        have lGr : G < wr.heap.size := uG.lt
        have HK : Hid (k < n ∧ ∃ h : k < l.length, ∃ c1, c1 ≤ c + 2 * ((l.take k).map (costM d)).sum ∧ Calls Tryz.prog 34 #[.pointer (some ⟨S, 0, none⟩), .pointer (some ⟨G, k * 7, none⟩)] wr fun r w' => SuPost P db b F L c1 sc φ1 (k0 + ((l.drop (k + 1)).map (rcM d)).sum) d l[k] G (k * 7) (hf k) (hf (k + 1)) wr r w') := ⟨hk, hkl, c1, j1, HC.out⟩
        have HJ : Hid (All2 (SubR P.name F db b φ1 d (nms sc)) (l.take k) ts ∧ SuI P 7 (fun W => OwEx W d) (fun W F' => ExF W F' (db + d)) l G hf w k ts wr ∧ Ext φ φ1) := ⟨i2, i3, i4⟩
        have hki : (k : Int) < (n : Int) := by omega
        clear i1 i2 i3 i4 j1 j2 j3 j4 j5 j6 a1 a2 a3 a4 a5 a6 a7 a8 a9 a10 a11 b1 b2 b3 b4 hEk hle q1 q2 q3 q4 q5 uG HC hk hkl HI
        obtain ⟨hk, hkl, c1, hc1, hCC⟩ := HK.out
        have HC : Hid (Calls Tryz.prog 34 #[.pointer (some ⟨S, 0, none⟩), .pointer (some ⟨G, k * 7, none⟩)] wr fun r w' => SuPost P db b F L c1 sc φ1 (k0 + ((l.drop (k + 1)).map (rcM d)).sum) d l[k] G (k * 7) (hf k) (hf (k + 1)) wr r w') := hCC
        have HK2 : Hid (k < n ∧ c1 ≤ c + 2 * ((l.take k).map (costM d)).sum) := ⟨hk, hc1⟩
        obtain ⟨tk, htk⟩ : ∃ tk, l[k] = tk := ⟨_, rfl⟩
        rw [htk] at HC
        have HT : Hid (∃ h : k < l.length, l[k] = tk) := ⟨hkl, htk⟩
        clear hCC hk hc1 HK htk hkl
        go_wp2_with (go_at_call 34; fail)
        refine HC.out.mono ?_
        rintro e9 w2 ⟨φ2, t', rfl, s1, ⟨s2, c2, cf2, last2, room2, s3, s4, s5, s6, s7, s8⟩, s9, s10⟩
        have HW : Hid (SubR P.name F db b φ2 d (nms sc) tk t' ∧ Ext φ1 φ2 ∧ c2 ≤ c1 + 2 * costM d tk ∧ NumOK F L φ2 last2 ∧ Bnd L cf2 last2 (k0 + ((l.drop (k + 1)).map (rcM d)).sum) ∧ -1048576 ≤ room2 ∧ room2 ≤ 1048576 ∧ SbSt w2 P db b F L c2 sc room2 φ2 cf2 last2 ∧ ExF w2 (FpE P G (k * 7) 7 (hf k) (hf (k + 1)) wr.heap.size w2.heap.size) (db + d) t' G (k * 7) ∧ ElCh P G (k * 7) 7 (hf k) (hf (k + 1)) wr w2) := ⟨s1, s2, s3, s4, s5, s6, s7, s8, s9, s10⟩
        clear s1 s2 s3 s4 s5 s6 s7 s8 s9 s10 HC
        go_wp2
        refine ⟨⟨k + 1, by congr 1, ?_⟩, ?_⟩
        · obtain ⟨hkl, htk⟩ := HT.out
          obtain ⟨s1, s2, s3, s4, s5, s6, s7, s8, s9, s10⟩ := HW.out
          obtain ⟨i2, i3, i4⟩ := HJ.out
          obtain ⟨a1, a2, a3, a4, a5, a6, a7, a8, a9, a10, a11⟩ := H0.out
          have q1 := take_sum (costM d) l k hkl
          rw [htk] at q1
          refine ⟨HK2.out.1, φ2, ts ++ [t'], ?_, i3.next a2 a3 a6 a7 (by omega) a11 hkl t' s10 s9 (fun W W' F1 F2 x g off hF h => ExF.mono hF _ _ _ _ h) (fun x off lo' hi' h1 h2 hx => OwEx.same d x G off lo' hi' hx h1 h2), ⟨i4.trans s2, c2, cf2, last2, room2, by have := HK2.out.2; omega, s4, s5, s6, s7, s8⟩⟩
          have hl1 : ts.length = (l.take k).length := i2.1
          refine ⟨?_, fun j h1 h2 => ?_⟩
          · rw [List.take_succ_eq_append_getElem hkl, List.length_append, List.length_append, hl1]; rfl
          · by_cases e : j < k
            · have h3 : j < ts.length := by rw [hl1, List.length_take]; omega
              rw [List.getElem_append_left h3, List.getElem_take]
              have h9 := i2.2 j (by rw [List.length_take]; omega) h3
              rw [List.getElem_take] at h9
              exact SubR.ext s2 d _ _ _ h9
            · have e1 : j = k := by rw [List.length_take] at h1; omega
              subst e1
              have h3 : ts.length = j := by rw [hl1, List.length_take]; omega
              rw [List.getElem_append_right (by omega), List.getElem_take, htk]
              simp only [h3, Nat.sub_self, List.getElem_cons_zero]
              exact s1
        · show n - ((k : Int) + 1).toNat < n - ((k : Int)).toNat
          have := HK2.out.1; omega
      · have hki : ¬ (k : Int) < (n : Int) := by omega
        have hkn : k = n := by have := HI.out.1; omega
        subst hkn
        clear hk
        go_wp2
        go_end0
        obtain ⟨i1, φ1, ts, i2, i3, i4⟩ := HI.out
        obtain ⟨a1, a2, a3, a4, a5, a6, a7, a8, a9, a10, a11⟩ := H0.out
        have et : l.take k = l := List.take_of_length_le (by omega)
        have ed : l.drop k = [] := List.drop_of_length_le (by omega)
        rw [et] at i2 i4
        rw [ed] at i4
        refine ⟨φ1, ts, rfl, i2, i4, .inr ⟨G, 0, rfl, fun j hj => ?_⟩, i3.ch.row a4 a5 (by omega) (by rw [← a1]; exact a8)⟩
        rw [Nat.zero_add]
        refine ExF.mono (fun g off hF => ⟨?_, rfl⟩) _ _ _ _ (i3.done j hj)
        rcases hF with ⟨rfl, b1, b2⟩ | ⟨b1, b2⟩ | b1 | b1
        · exact .inl ⟨a4, a5⟩
        · exact .inl ⟨by omega, by rw [← a1] at b2; omega⟩
        · exact .inr (.inl b1)
        · exact .inr (.inr b1)
end Go.Proofs.YtegdloenakachaaGreatDoor

namespace Go.Proofs.YtegdloenakachaaGreatDoor
open Go.RowKit Go.Shelf Go.Maps
set_option linter.unusedVariables false

def BdR (nm : ByteArray) (F : List UInt8 → Bool) (db : Nat) (b : Tr db) (φ : List UInt8 → Nat) (d : Nat) (ns : List (List UInt8)) (p : ByteArray × Tr d) (q : ByteArray × Tr (db + d)) : Prop := q.1 = rnB F φ p.1 ∧ NwOK F φ [p.1] ∧ SubR nm F db b φ d ns p.2 q.2
theorem BdR.ext {nm : ByteArray} {F : List UInt8 → Bool} {db : Nat} {b : Tr db} {φ φ' : List UInt8 → Nat} (he : Ext φ φ') {d : Nat} {ns : List (List UInt8)} {p : ByteArray × Tr d} {q : ByteArray × Tr (db + d)} (h : BdR nm F db b φ d ns p q) : BdR nm F db b φ' d ns p q := ⟨h.1.trans (rnB_ext he (h.2.1 p.1 (by simp))).symm, h.2.1.ext he, SubR.ext he d _ _ _ h.2.2⟩
theorem ElCh.set {P : SbP} {g off n lo hi j : Nat} {W : World} {u : Value} (hu : Uf W g) (h1 : off ≤ j) (h2 : j < off + n) : ElCh P g off n lo hi W (W.setCell ⟨g, j, none⟩ u) := ⟨rfl, rfl, rfl, by rw [size_set7]; exact Nat.le_refl _, fun k _ _ _ _ h _ => heap_set_other _ _ _ _ _ h, fun o ho => setCell_cell_other _ _ _ _ _ (by omega), fun k _ h => h.set _ _ _⟩
set_option maxRecDepth 100000 in
set_option maxHeartbeats 4000000 in
theorem sub_binds_c (P : SbP) (db : Nat) (b : Tr db) (F : List UInt8 → Bool) (L : List (List UInt8)) (d : Nat) (ih : SubOK P db b F L d) (l : List (ByteArray × Tr d)) (o : Option Addr) (cap lo hi : Nat) (c : Nat) (sc : Sc) (room : Int) (φ : List UInt8 → Nat) (cf last k0 : Nat) (w : World) (hr : OwRow w lo hi 8 (OwBd w d) o l) (hZ : hi ≤ P.Z) (hg0 : 0 < lo) (h : SbSt w P db b F L c sc room φ cf last) (hN : NumOK F L φ last) (hB : Bnd L cf last (k0 + (l.map (fun p => 1 + rcM d p.2)).sum)) (hr1 : -1048576 ≤ room) (hr2 : room ≤ 1048576) (hNm : ∀ x ∈ l, NmOK d x.2 ∧ x.1.size ≤ maxLen) (hFt : ∀ x ∈ l, Fit d x.2) (hc : c + 2 * (l.map (fun p => costM d p.2)).sum ≤ 2000000) (hsc : sc.length + (l.map (fun p => costM d p.2)).sum ≤ 2000000) (hln : l.length ≤ 2000000) :
    Calls Tryz.prog 65 #[.pointer (some ⟨P.S, 0, none⟩), .slice o l.length cap] w fun r w' => SrPost P db b F L c (c + 2 * (l.map (fun p => costM d p.2)).sum) sc φ k0 (fun φ' => BdR P.name F db b φ' d (nms sc)) 8 (fun W F' => BdF W F' (db + d)) l o lo hi w r w' := by
  obtain ⟨S, hS⟩ : ∃ S, P.S = S := ⟨_, rfl⟩
  have HS : Hid (P.S = S) := hS
  have lS := h.lt
  rw [hS] at lS ⊢
  by_cases hl0 : l = []
  · subst hl0
    have HE : Hid (SrPost P db b F L c (c + 2 * (([] : List (ByteArray × Tr d)).map (fun p => costM d p.2)).sum) sc φ k0 (fun φ' => BdR P.name F db b φ' d (nms sc)) 8 (fun W F' => BdF W F' (db + d)) ([] : List (ByteArray × Tr d)) o lo hi w (.returned (.tuple #[])) w) := ⟨φ, [], rfl, ⟨rfl, fun k h _ => absurd h (Nat.not_lt_zero _)⟩, ⟨Ext.refl _, c, cf, last, room, Nat.le_add_right _ _, hN, hB.less (Nat.le_add_right _ _), hr1, hr2, h⟩, .inl rfl, RoCh.refl _ _ _ _⟩
    clear hr hZ hg0 h hN hB hr1 hr2 hNm hFt hc hsc hln ih hS
    show Calls Tryz.prog 65 #[.pointer (some ⟨S, 0, none⟩), .slice o 0 cap] w _
    go_enter Tryz.func65, Tryz.ntmps65
    go_wp2
    go_loopw [7] (fun v wr => v = .int .i64 0 ∧ wr = w) (fun v _ => 0)
    case atStart => exact ⟨rfl, rfl⟩
    case round =>
      obtain ⟨rfl, rfl⟩ := hrel
      go_wp2
      go_end0
      exact HE.out
  · obtain ⟨G, rfl, hG1, hGu, hf, hG2, hm, hhi, hE⟩ : ∃ g, o = some ⟨g, 0, none⟩ ∧ lo ≤ g ∧ Uf w g ∧ ∃ h : Nat → Nat, g < h 0 ∧ (∀ k, k < l.length → h k ≤ h (k + 1)) ∧ h l.length ≤ hi ∧ ∀ k (hk : k < l.length), OwBd w d l[k] g (k * 8) (h k) (h (k + 1)) := by
      rcases hr with h | h
      · exact absurd h hl0
      · exact h
    have hGh : G < hi := by have := step_le hm 0 l.length (Nat.zero_le _) (Nat.le_refl _); omega
    obtain ⟨n, hn⟩ : ∃ n, l.length = n := ⟨_, rfl⟩
    have ho := h.ok
    have H0 : Hid (l.length = n ∧ P.Ok ∧ G < P.Z ∧ lo ≤ G ∧ G < hi ∧ G < hf 0 ∧ (∀ k, k < l.length → hf k ≤ hf (k + 1)) ∧ hf l.length ≤ hi ∧ hi ≤ P.Z ∧ 0 < G ∧ P.S < w.heap.size) := ⟨hn, ho, by omega, hG1, hGh, hG2, hm, hhi, hZ, by omega, by rw [hS]; exact lS⟩
    have H1 : Hid ((∀ x ∈ l, NmOK d x.2 ∧ x.1.size ≤ maxLen) ∧ (∀ x ∈ l, Fit d x.2) ∧ c + 2 * (l.map (fun p => costM d p.2)).sum ≤ 2000000 ∧ sc.length + (l.map (fun p => costM d p.2)).sum ≤ 2000000) := ⟨hNm, hFt, hc, hsc⟩
    have HIh : Hid (SubOK P db b F L d) := ih
    have HGu : Hid (Uf w G) := hGu
    have HI0 : Hid (SuI P 8 (fun W => OwBd W d) (fun W F' => BdF W F' (db + d)) l G hf w 0 [] w) := ⟨rfl, fun j hj => absurd hj (Nat.not_lt_zero _), fun j hj _ => hE j hj, ⟨rfl, rfl, rfl, Nat.le_refl _, fun _ _ _ _ _ _ _ => rfl, fun _ _ => rfl, fun _ _ h => h⟩⟩
    have HR0 : Hid (SuR P db b F L c (c + 2 * ((l.take 0).map (fun p => costM d p.2)).sum) sc φ (k0 + ((l.drop 0).map (fun p => 1 + rcM d p.2)).sum) w φ) := ⟨Ext.refl _, c, cf, last, room, Nat.le_add_right _ _, hN, hB, hr1, hr2, h⟩
    have hni : (n : Int) ≤ 2000000 := by omega
    rw [hn]
    clear hr hZ hg0 h hN hB hr1 hr2 hNm hFt hc hsc hln ih hS hn ho hG1 hGu hG2 hm hhi hE hGh hl0
    go_enter Tryz.func65, Tryz.ntmps65
    go_wp2
    go_loopw [7] (fun v wr => ∃ k : Nat, v = .int .i64 (k : Int) ∧ Hid (k ≤ n ∧ ∃ (φ' : List UInt8 → Nat) (ts : List (ByteArray × Tr (db + d))), All2 (BdR P.name F db b φ' d (nms sc)) (l.take k) ts ∧ SuI P 8 (fun W => OwBd W d) (fun W F' => BdF W F' (db + d)) l G hf w k ts wr ∧ SuR P db b F L c (c + 2 * ((l.take k).map (fun p => costM d p.2)).sum) sc φ (k0 + ((l.drop k).map (fun p => 1 + rcM d p.2)).sum) wr φ')) (fun v _ => n - (intOf v).toNat)
    case atStart => exact ⟨0, rfl, ⟨Nat.zero_le _, φ, [], ⟨rfl, fun k h _ => absurd h (Nat.not_lt_zero _)⟩, HI0.out, HR0.out⟩⟩
    case round =>
      clear HI0 HR0
      obtain ⟨k, rfl, HI⟩ := hrel
      by_cases hk : k < n
      · obtain ⟨i1, φ1, ts, i2, i3, ⟨i4, c1, cf1, last1, room1, j1, j2, j3, j4, j5, j6⟩⟩ := HI.out
        obtain ⟨a1, a2, a3, a4, a5, a6, a7, a8, a9, a10, a11⟩ := H0.out
        obtain ⟨b1, b2, b3, b4⟩ := H1.out
        have hkl : k < l.length := by rw [a1]; exact hk
        have hEk := i3.rest k hkl (Nat.le_refl _)
        have hle := step_le a7
        have q1 := take_sum (fun p : ByteArray × Tr d => costM d p.2) l k hkl
        have q2 := take_le (fun p : ByteArray × Tr d => costM d p.2) l (k + 1)
        have q3 := take_sum2 (fun p : ByteArray × Tr d => 1 + rcM d p.2) l k hkl
        have q4 := hle 0 k (Nat.zero_le _) (by omega)
        have q5 := hle (k + 1) l.length hkl (Nat.le_refl _)
        have uG : Uf wr G := by
          have := i3.ch.uf G a3
          exact this (HGu.out)
        obtain ⟨hx0, hEx⟩ := hEk
        have j3' : Bnd L cf1 last1 ((k0 + ((l.drop (k + 1)).map (fun p => 1 + rcM d p.2)).sum + rcM d l[k].2) + 1) := by
          rw [q3] at j3
          rw [show k0 + ((l.drop (k + 1)).map (fun p => 1 + rcM d p.2)).sum + rcM d l[k].2 + 1 = k0 + (1 + rcM d l[k].2 + ((l.drop (k + 1)).map (fun p => 1 + rcM d p.2)).sum) by omega]
          exact j3
        have lSr : S < wr.heap.size := by have := j6.lt; rw [HS.out] at this; exact this
        have lGr : G < wr.heap.size := uG.lt
        have HC : Hid (Calls Tryz.prog 112 #[.pointer (some ⟨P.S, 0, none⟩), .string l[k].1] wr fun r w' => RnPost P db b F L c1 sc room1 φ1 cf1 last1 l[k].1 wr r w') := renamed_c P db b F L c1 sc room1 φ1 cf1 last1 l[k].1 (b1 _ (List.getElem_mem hkl)).2 wr j6 j2 (by obtain ⟨y1, y2, y3⟩ := j3'; rw [Nat.add_mul] at y3; omega) (by obtain ⟨y1, y2, y3⟩ := j3'; omega)
        rw [HS.out] at HC
        have hZS : P.Z ≤ wr.heap.size := by have := a2.zm; have := a2.mS; rw [HS.out] at this; omega
        have HIh2 : Hid (∀ w3 c2 room2 φ2 cf2 last2, OwEx w3 d l[k].2 G (k * 8 + 1) (hf k) (hf (k + 1)) → Uf w3 G → SbSt w3 P db b F L c2 sc room2 φ2 cf2 last2 → NumOK F L φ2 last2 → Bnd L cf2 last2 (k0 + ((l.drop (k + 1)).map (fun p => 1 + rcM d p.2)).sum + rcM d l[k].2) → -1048576 ≤ room2 → room2 ≤ 1048576 → c2 ≤ c1 → Calls Tryz.prog 34 #[.pointer (some ⟨S, 0, none⟩), .pointer (some ⟨G, k * 8 + 1, none⟩)] w3 fun r w' => SuPost P db b F L c2 sc φ2 (k0 + ((l.drop (k + 1)).map (fun p => 1 + rcM d p.2)).sum) d l[k].2 G (k * 8 + 1) (hf k) (hf (k + 1)) w3 r w') := by
          intro w3 c2 room2 φ2 cf2 last2 g1 g2 g3 g4 g5 g6 g7 g8
          have h9 := HIh.out l[k].2 G (k * 8 + 1) (hf k) (hf (k + 1)) c2 sc room2 φ2 cf2 last2 _ w3 g1 (by omega) (by omega) g2 (by omega) g3 g4 g5 g6 g7 (b1 _ (List.getElem_mem hkl)).1 (b2 _ (List.getElem_mem hkl)) (by omega) (by omega)
          rw [HS.out] at h9
          exact h9
        have HK2 : Hid (k < n ∧ c1 ≤ c + 2 * ((l.take k).map (fun p => costM d p.2)).sum) := ⟨hk, j1⟩
        have HSt : Hid (-1048576 ≤ room1 ∧ room1 ≤ 1048576 ∧ Bnd L cf1 last1 ((k0 + ((l.drop (k + 1)).map (fun p => 1 + rcM d p.2)).sum + rcM d l[k].2) + 1) ∧ OwEx wr d l[k].2 G (k * 8 + 1) (hf k) (hf (k + 1)) ∧ Uf wr G ∧ P.Z ≤ wr.heap.size) := ⟨j4, j5, j3', hEx, uG, hZS⟩
        have HJ : Hid (All2 (BdR P.name F db b φ1 d (nms sc)) (l.take k) ts ∧ SuI P 8 (fun W => OwBd W d) (fun W F' => BdF W F' (db + d)) l G hf w k ts wr ∧ Ext φ φ1) := ⟨i2, i3, i4⟩
        have hki : (k : Int) < (n : Int) := by omega
        obtain ⟨tk, htk⟩ : ∃ tk, l[k] = tk := ⟨_, rfl⟩
        rw [htk] at HC hx0 HIh2 HSt
        have HT : Hid (∃ h : k < l.length, l[k] = tk) := ⟨hkl, htk⟩
        obtain ⟨xk, ek⟩ := tk
        simp only at HC hx0 HIh2 HSt
        clear i1 i2 i3 i4 j1 j2 j3 j4 j5 j6 a1 a2 a3 a4 a5 a6 a7 a8 a9 a10 a11 b1 b2 b3 b4 hEx hle q1 q2 q3 q4 q5 uG hk htk hkl HI j3' hZS
        go_wp2_with (go_at_call 112; fail)
        refine HC.out.mono ?_
        rintro e9 w2 ⟨φ2, cf2, last2, rfl, u1, u2, u3, u4, u5, u6, u7⟩
        have ho := H0.out.2.1
        have hGZ := H0.out.2.2.1
        have hgb : w2.heap[G]? = wr.heap[G]? := u7.block G lGr (by have := ho.zm; have := ho.mS; omega) (by have := ho.zm; omega) (by have := ho.zf; omega)
        have hx2 : w2.cell? ⟨G, k * 8, none⟩ = some (.string xk) := (cell_of_block hgb _).trans hx0
        have hu2 : Uf w2 G := HSt.out.2.2.2.2.1.same hgb
        have hf2 := hu2.frozen (k * 8)
        have lg2 := hu2.lt
        have lS2 : S < w2.heap.size := by have := u6.lt; rw [HS.out] at this; exact this
        obtain ⟨rn, hrn⟩ : ∃ rn, rnB F φ2 xk = rn := ⟨_, rfl⟩
        rw [hrn]
        obtain ⟨w3, hw3⟩ : ∃ w3, w2.setCell ⟨G, k * 8, none⟩ (.string rn) = w3 := ⟨_, rfl⟩
        have hu3 : Uf w3 G := by rw [← hw3]; exact hu2.set _ _ _
        have hst3 : SbSt w3 P db b F L c1 sc room1 φ2 cf2 last2 := by rw [← hw3]; exact u6.setT hGZ hu2 (by have := H0.out.2.2.2.2.2.2.2.2.2.1; omega) _ _
        have hel3 : ElCh P G (k * 8) 8 (hf k) (hf (k + 1)) wr w3 := by
          rw [← hw3]
          exact (ElCh.ofSb u7 ho hGZ lGr HSt.out.2.2.2.2.2).trans (ElCh.set hu2 (Nat.le_refl _) (by omega))
        have hE3 : OwEx w3 d ek G (k * 8 + 1) (hf k) (hf (k + 1)) := by
          have hm0 := step_le H0.out.2.2.2.2.2.2.1 0 k (Nat.zero_le _) (by obtain ⟨hkl, -⟩ := HT.out; omega)
          have hm1 := step_le H0.out.2.2.2.2.2.2.1 (k + 1) l.length (by obtain ⟨hkl, -⟩ := HT.out; omega) (Nat.le_refl _)
          have hz0 := H0.out
          refine OwEx.same d ek G _ _ _ HSt.out.2.2.2.1 (fun q hq => ?_) (fun m h1 h2 => ?_)
          · rw [← hw3, setCell_cell_other _ _ _ _ _ (by omega)]; exact cell_of_block hgb _
          · rw [← hw3, heap_set_other _ _ _ _ _ (by omega)]
            exact u7.block m (by have := HSt.out.2.2.2.2.2; omega) (by have := ho.zm; have := ho.mS; omega) (by have := ho.zm; omega) (by have := ho.zf; omega)
        have HC3 : Hid (Calls Tryz.prog 34 #[.pointer (some ⟨S, 0, none⟩), .pointer (some ⟨G, k * 8 + 1, none⟩)] (w2.setCell ⟨G, k * 8, none⟩ (.string rn)) fun r w' => SuPost P db b F L c1 sc φ2 (k0 + ((l.drop (k + 1)).map (fun p => 1 + rcM d p.2)).sum) d ek G (k * 8 + 1) (hf k) (hf (k + 1)) w3 r w') := by
          show Calls _ _ _ _ _
          rw [hw3]
          exact HIh2.out w3 c1 room1 φ2 cf2 last2 hE3 hu3 hst3 u3 (HSt.out.2.2.1.step u4 u5) HSt.out.1 HSt.out.2.1 (Nat.le_refl _)
        have c30 : w3.cell? ⟨G, k * 8, none⟩ = some (.string rn) := by rw [← hw3]; exact setCell_cell_same _ _ _ _ _ hx2
        have HU : Hid (rnB F φ2 xk = rn ∧ (F xk.data.toList = true → φ2 xk.data.toList ≠ 0) ∧ Ext φ1 φ2 ∧ ElCh P G (k * 8) 8 (hf k) (hf (k + 1)) wr w3 ∧ w3.cell? ⟨G, k * 8, none⟩ = some (.string rn)) := ⟨hrn, u1, u2, hel3, c30⟩
        clear u1 u2 u3 u4 u5 u6 u7 HC hgb hrn hu3 hst3 hel3 hE3 hw3 hu2 c30 ho hGZ
        go_wp2_with (go_at_call 34; fail)
        refine HC3.out.mono ?_
        rintro e9 w4 ⟨φ4, t', rfl, s1, ⟨s2, c2, cf4, last4, room4, s3, s4, s5, s6, s7, s8⟩, s9, s10⟩
        have HW : Hid (BdR P.name F db b φ4 d (nms sc) (xk, ek) (rn, t') ∧ Ext φ1 φ4 ∧ c2 ≤ c1 + 2 * costM d ek ∧ NumOK F L φ4 last4 ∧ Bnd L cf4 last4 (k0 + ((l.drop (k + 1)).map (fun p => 1 + rcM d p.2)).sum) ∧ -1048576 ≤ room4 ∧ room4 ≤ 1048576 ∧ SbSt w4 P db b F L c2 sc room4 φ4 cf4 last4 ∧ BdF w4 (FpE P G (k * 8) 8 (hf k) (hf (k + 1)) wr.heap.size w4.heap.size) (db + d) (rn, t') G (k * 8) ∧ ElCh P G (k * 8) 8 (hf k) (hf (k + 1)) wr w4) := by
          obtain ⟨v1, v2, v3, v4, v5⟩ := HU.out
          have z3 := v4.size
          refine ⟨⟨?_, ?_, s1⟩, v3.trans s2, s3, s4, s5, s6, s7, s8, ⟨⟨.inl ⟨rfl, Nat.le_refl _, by omega⟩, (s10.cells _ (.inl (by omega))).trans v5⟩, ExF.mono (fun g off hF => ⟨?_, rfl⟩) _ _ _ _ s9⟩, v4.trans (s10.widen (by omega) (by omega) (Nat.le_refl _) (Nat.le_refl _))⟩
          · rw [rnB_ext s2 v2]; exact v1.symm
          · intro x hx hF
            have : x = xk := by simpa using hx
            subst this
            rw [s2 _ (v2 hF)]; exact v2 hF
          · rcases hF with ⟨rfl, y1, y2⟩ | y1 | y1 | ⟨y1, y2⟩
            · exact .inl ⟨rfl, by omega, by omega⟩
            · exact .inr (.inl y1)
            · exact .inr (.inr (.inl y1))
            · exact .inr (.inr (.inr ⟨by omega, y2⟩))
        clear s1 s2 s3 s4 s5 s6 s7 s8 s9 s10 HC3
        go_wp2
        refine ⟨⟨k + 1, by congr 1, ?_⟩, ?_⟩
        · obtain ⟨hkl, htk⟩ := HT.out
          obtain ⟨s1, s2, s3, s4, s5, s6, s7, s8, s9, s10⟩ := HW.out
          obtain ⟨i2, i3, i4⟩ := HJ.out
          obtain ⟨a1, a2, a3, a4, a5, a6, a7, a8, a9, a10, a11⟩ := H0.out
          have q1 := take_sum (fun p : ByteArray × Tr d => costM d p.2) l k hkl
          rw [htk] at q1
          simp only at q1
          refine ⟨HK2.out.1, φ4, ts ++ [(rn, t')], ?_, i3.next a2 a3 a6 a7 (by omega) a11 hkl (rn, t') s10 s9 (fun W W' F1 F2 x g off hF h => h.mono hF) (fun x off lo' hi' h1 h2 hx => ⟨(h1 0 (by omega)).trans hx.1, OwEx.same d x.2 G (off + 1) lo' hi' hx.2 (fun q hq => by have := h1 (1 + q) (by omega); rw [← Nat.add_assoc] at this; exact this) h2⟩), ⟨i4.trans s2, c2, cf4, last4, room4, by have := HK2.out.2; omega, s4, s5, s6, s7, s8⟩⟩
          have hl1 : ts.length = (l.take k).length := i2.1
          refine ⟨?_, fun j h1 h2 => ?_⟩
          · rw [List.take_succ_eq_append_getElem hkl, List.length_append, List.length_append, hl1]; rfl
          · by_cases e : j < k
            · have h3 : j < ts.length := by rw [hl1, List.length_take]; omega
              rw [List.getElem_append_left h3, List.getElem_take]
              have h9 := i2.2 j (by rw [List.length_take]; omega) h3
              rw [List.getElem_take] at h9
              exact BdR.ext s2 h9
            · have e1 : j = k := by rw [List.length_take] at h1; omega
              subst e1
              have h3 : ts.length = j := by rw [hl1, List.length_take]; omega
              rw [List.getElem_append_right (by omega), List.getElem_take, htk]
              simp only [h3, Nat.sub_self, List.getElem_cons_zero]
              exact s1
        · show n - ((k : Int) + 1).toNat < n - ((k : Int)).toNat
          have := HK2.out.1; omega
      · have hki : ¬ (k : Int) < (n : Int) := by omega
        have hkn : k = n := by have := HI.out.1; omega
        subst hkn
        clear hk
        go_wp2
        go_end0
        obtain ⟨i1, φ1, ts, i2, i3, i4⟩ := HI.out
        obtain ⟨a1, a2, a3, a4, a5, a6, a7, a8, a9, a10, a11⟩ := H0.out
        have et : l.take k = l := List.take_of_length_le (by omega)
        have ed : l.drop k = [] := List.drop_of_length_le (by omega)
        rw [et] at i2 i4
        rw [ed] at i4
        refine ⟨φ1, ts, rfl, i2, i4, .inr ⟨G, 0, rfl, fun j hj => ?_⟩, i3.ch.row a4 a5 (by omega) (by rw [← a1]; exact a8)⟩
        rw [Nat.zero_add]
        refine BdF.mono (fun g off hF => ⟨?_, rfl⟩) (i3.done j hj)
        rcases hF with ⟨rfl, b1, b2⟩ | ⟨b1, b2⟩ | b1 | b1
        · exact .inl ⟨a4, a5⟩
        · exact .inl ⟨by omega, by rw [← a1] at b2; omega⟩
        · exact .inr (.inl b1)
        · exact .inr (.inr b1)
end Go.Proofs.YtegdloenakachaaGreatDoor

namespace Go.Proofs.YtegdloenakachaaGreatDoor
open Go.RowKit Go.Shelf Go.Maps
set_option linter.unusedVariables false

def csA (d : Nat) (a : AltH × Tr d) : Nat := a.1.vars.length + costM d a.2
def rcA (d : Nat) (a : AltH × Tr d) : Nat := a.1.vars.length + rcM d a.2
def AlR (nm : ByteArray) (F : List UInt8 → Bool) (db : Nat) (b : Tr db) (φ : List UInt8 → Nat) (d : Nat) (ns : List (List UInt8)) (p : AltH × Tr d) (q : AltH × Tr (db + d)) : Prop := NwOK F φ p.1.vars ∧ q.1 = ⟨p.1.kind, p.1.name, p.1.num, p.1.vars.map (rnB F φ)⟩ ∧ SubR nm F db b φ d (dl p.1.vars.reverse ++ ns) p.2 q.2
theorem AlR.ext {nm : ByteArray} {F : List UInt8 → Bool} {db : Nat} {b : Tr db} {φ φ' : List UInt8 → Nat} (he : Ext φ φ') {d : Nat} {ns : List (List UInt8)} {p : AltH × Tr d} {q : AltH × Tr (db + d)} (h : AlR nm F db b φ d ns p q) : AlR nm F db b φ' d ns p q := ⟨h.1.ext he, by rw [h.1.map he]; exact h.2.1, SubR.ext he d _ _ _ h.2.2⟩
theorem OwAl.same {W W' : World} {d : Nat} {x : AltH × Tr d} {G off lo hi : Nat} (hx : OwAl W d x G off lo hi) (h1 : ∀ q, q < 11 → W'.cell? ⟨G, off + q, none⟩ = W.cell? ⟨G, off + q, none⟩) (h2 : ∀ m, lo ≤ m → m < hi → W'.heap[m]? = W.heap[m]?) : OwAl W' d x G off lo hi := by
  obtain ⟨e1, e2, e3, m, q1, q2, ⟨o, c, e4, e5⟩, e6⟩ := hx
  refine ⟨(h1 0 (by omega)).trans e1, (h1 1 (by omega)).trans e2, (h1 2 (by omega)).trans e3, m, q1, q2, ⟨o, c, (h1 3 (by omega)).trans e4, e5.same (fun k a1 a2 => h2 k (by omega) (by omega))⟩, OwEx.same d _ _ _ _ _ e6 (fun q hq => ?_) (fun k a1 a2 => h2 k (by omega) (by omega))⟩
  have := h1 (4 + q) (by omega)
  rw [← Nat.add_assoc] at this; exact this
/-- What one alternative gives. -/
def AlEnd (P : SbP) (db : Nat) (b : Tr db) (F : List UInt8 → Bool) (L : List (List UInt8)) (d G off lo hi : Nat) (a : AltH × Tr d) (c : Nat) (sc : Sc) (φ : List UInt8 → Nat) (k0 : Nat) (W W' : World) : Prop :=
  ∃ (φ' : List UInt8 → Nat) (a' : AltH × Tr (db + d)), AlR P.name F db b φ' d (nms sc) a a' ∧ SuR P db b F L c (c + 2 * csA d a) sc φ k0 W' φ' ∧ AlF W' (FpE P G off 11 lo hi W.heap.size W'.heap.size) (db + d) a' G off ∧ ElCh P G off 11 lo hi W W'
def AlStep3 (P : SbP) (db : Nat) (b : Tr db) (F : List UInt8 → Bool) (L : List (List UInt8)) (d S G off lo hi : Nat) (a : AltH × Tr d) (c : Nat) (sc : Sc) (φ : List UInt8 → Nat) (k0 : Nat) (W w3 : World) : Prop := S < w3.heap.size ∧ Calls Tryz.prog 69 #[.pointer (some ⟨S, 9, none⟩), top sc] w3 fun e w4 => e = .returned (.tuple #[]) ∧ AlEnd P db b F L d G off lo hi a c sc φ k0 W w4
def AlStep2 (P : SbP) (db : Nat) (b : Tr db) (F : List UInt8 → Bool) (L : List (List UInt8)) (d S G off lo hi : Nat) (a : AltH × Tr d) (c : Nat) (sc : Sc) (φ : List UInt8 → Nat) (k0 : Nat) (W w2 : World) : Prop := S < w2.heap.size ∧ G < w2.heap.size ∧ Calls Tryz.prog 34 #[.pointer (some ⟨S, 0, none⟩), .pointer (some ⟨G, off + 4, none⟩)] w2 fun e w3 => e = .returned (.tuple #[]) ∧ AlStep3 P db b F L d S G off lo hi a c sc φ k0 W w3
def AlStep1 (P : SbP) (db : Nat) (b : Tr db) (F : List UInt8 → Bool) (L : List (List UInt8)) (d S G off lo hi : Nat) (a : AltH × Tr d) (c : Nat) (sc : Sc) (φ : List UInt8 → Nat) (k0 : Nat) (ov : Option Addr) (cv : Nat) (W w1 : World) : Prop := S < w1.heap.size ∧ G < w1.heap.size ∧ w1.cell? ⟨G, off + 3, none⟩ = some (.slice ov a.1.vars.length cv) ∧ Calls Tryz.prog 64 #[.pointer (some ⟨S, 0, none⟩), .slice ov a.1.vars.length cv] w1 fun e w2 => e = .returned (.tuple #[]) ∧ AlStep2 P db b F L d S G off lo hi a c sc φ k0 W w2
def AlStep (P : SbP) (db : Nat) (b : Tr db) (F : List UInt8 → Bool) (L : List (List UInt8)) (d S G off lo hi : Nat) (a : AltH × Tr d) (c : Nat) (sc : Sc) (φ : List UInt8 → Nat) (k0 : Nat) (W : World) : Prop := ∀ ov cv, W.cell? ⟨G, off + 3, none⟩ = some (.slice ov a.1.vars.length cv) → True ∧ Calls Tryz.prog 86 #[.pointer (some ⟨S, 9, none⟩), .slice ov a.1.vars.length cv] W.drew fun e w1 => e = .returned (.tuple #[]) ∧ AlStep1 P db b F L d S G off lo hi a c sc φ k0 ov cv W w1
/-- A row of names of its own, renamed. -/
def RePost (P : SbP) (db : Nat) (b : Tr db) (F : List UInt8 → Bool) (L : List (List UInt8)) (c : Nat) (sc : Sc) (room : Int) (φ : List UInt8 → Nat) (k0 : Nat) (l : List ByteArray) (o : Option Addr) (lo hi : Nat) (W : World) (r : Ending) (W' : World) : Prop :=
  ∃ (φ' : List UInt8 → Nat) (cf' last' : Nat), r = .returned (.tuple #[]) ∧ NwOK F φ' l ∧ Ext φ φ' ∧ NumOK F L φ' last' ∧ Bnd L cf' last' k0 ∧ SbSt W' P db b F L c sc room φ' cf' last' ∧ TxF W' (fun k _ => lo ≤ k ∧ k < hi) o (l.map (rnB F φ')) ∧ RoCh P lo hi W W'
set_option maxRecDepth 100000 in
set_option maxHeartbeats 4000000 in
theorem renameE_c (P : SbP) (db : Nat) (b : Tr db) (F : List UInt8 → Bool) (L : List (List UInt8)) (c : Nat) (sc : Sc) (room : Int) (φ : List UInt8 → Nat) (cf last k0 : Nat) (l : List ByteArray) (hls : ∀ x ∈ l, x.size ≤ maxLen) (o : Option Addr) (cap lo hi : Nat) (w : World) (h : SbSt w P db b F L c sc room φ cf last) (hN : NumOK F L φ last) (hB : Bnd L cf last (k0 + l.length)) (hZ : hi ≤ P.Z) (hg0 : 0 < lo) (ht : OwTx w lo hi o l) (hln : l.length ≤ 2000000) :
    Calls Tryz.prog 64 #[.pointer (some ⟨P.S, 0, none⟩), .slice o l.length cap] w fun r w' => RePost P db b F L c sc room φ k0 l o lo hi w r w' := by
  by_cases hl0 : l = []
  · subst hl0
    have HE : Hid (RePost P db b F L c sc room φ k0 [] o lo hi w (.returned (.tuple #[])) w) := ⟨φ, cf, last, rfl, fun x hx => (by cases hx), Ext.refl _, hN, hB, h, .inl rfl, RoCh.refl _ _ _ _⟩
    obtain ⟨S, hS⟩ : ∃ S, P.S = S := ⟨_, rfl⟩
    have lS := h.lt
    rw [hS] at lS ⊢
    clear h hN hB hZ hg0 ht hln hls hS
    show Calls Tryz.prog 64 #[.pointer (some ⟨S, 0, none⟩), .slice o 0 cap] w _
    go_enter Tryz.func64, Tryz.ntmps64
    go_wp2
    go_loopw [8] (fun v wr => v = .int .i64 0 ∧ wr = w) (fun v _ => 0)
    case atStart => exact ⟨rfl, rfl⟩
    case round =>
      obtain ⟨rfl, rfl⟩ := hrel
      go_wp2
      go_end0
      exact HE.out
  · rcases ht with ht | ⟨g, rfl, g1, g2, g3, g4⟩
    · exact absurd ht hl0
    · refine (rename_c P db b F L c sc room φ cf last k0 l hls hl0 g cap w h hN hB (by omega) (by omega) g3 g4 hln).mono ?_
      rintro r w' ⟨φ', cf', last', rfl, u1, u2, u3, u4, u5, u6, u7, u8⟩
      have ho := h.ok
      have hS := h.lt
      refine ⟨φ', cf', last', rfl, u1, u2, u3, u4, u5, .inr ⟨g, 0, rfl, fun k hk => ⟨⟨g1, g2⟩, ?_⟩⟩, ⟨u8.os, u8.tape, u8.output, u8.size, fun k a1 a2 a3 a4 a5 => u8.block k a1 a2 a3 a4 (fun e => a5 (by omega)), fun k hk hu => ?_⟩⟩
      · rw [Nat.zero_add, List.getElem_map]
        exact u6 k (by rw [List.length_map] at hk; exact hk)
      · by_cases e : k = g
        · rw [e]; exact u7
        · exact hu.same (u8.block k (by have := ho.zm; have := ho.mS; omega) (by have := ho.zm; have := ho.mS; omega) (by have := ho.zm; omega) (by have := ho.zf; omega) e)
theorem SbCh.ofDrew {P : SbP} {W W' : World} (h : SbCh P W.drew W') : SbCh P W W' := ⟨h.os, h.tape, h.output, h.size, h.block⟩
theorem SbCh.low {P : SbP} {W W' : World} (h : SbCh P W W') (ho : P.Ok) (hS : P.S < W.heap.size) {k : Nat} (hk : k < P.Z) : W'.heap[k]? = W.heap[k]? := h.block k (by have := ho.zm; have := ho.mS; omega) (by have := ho.zm; have := ho.mS; omega) (by have := ho.zm; omega) (by have := ho.zf; omega)
theorem RoCh.low {P : SbP} {lo hi : Nat} {W W' : World} (h : RoCh P lo hi W W') (ho : P.Ok) (hS : P.S < W.heap.size) {k : Nat} (hk : k < P.Z) (hn : ¬ (lo ≤ k ∧ k < hi)) : W'.heap[k]? = W.heap[k]? := h.block k (by have := ho.zm; have := ho.mS; omega) (by have := ho.zm; have := ho.mS; omega) (by have := ho.zm; omega) (by have := ho.zf; omega) hn
theorem ElCh.low {P : SbP} {g off n lo hi : Nat} {W W' : World} (h : ElCh P g off n lo hi W W') (ho : P.Ok) (hS : P.S < W.heap.size) {k : Nat} (hk : k < P.Z) (hg : k ≠ g) (hn : ¬ (lo ≤ k ∧ k < hi)) : W'.heap[k]? = W.heap[k]? := h.block k (by have := ho.zm; have := ho.mS; omega) (by have := ho.zm; have := ho.mS; omega) (by have := ho.zm; omega) (by have := ho.zf; omega) hg hn
/-- The scope's functions leave what is done. -/
theorem FpE.scope {P : SbP} {g off n lo hi N N' : Nat} {W W' : World} (ho : P.Ok) (hg : g < P.Z) (hZ : hi ≤ P.Z) (hS : P.S < N) (hN : N ≤ W.heap.size) (hN' : N' ≤ W.heap.size) (hc : ScChg P.S 9 P.m W W') {k o : Nat} (h : FpE P g off n lo hi N N' k o) : W'.heap[k]? = W.heap[k]? := by
  have h1 := ho.zm
  have h2 := ho.mS
  have h3 := ho.hS
  have h4 := ho.bm
  refine hc.block k ?_ ?_ ?_ <;> rcases h with ⟨a, -, -⟩ | ⟨a, b⟩ | ⟨a, b⟩ | ⟨a, b⟩ <;> omega
set_option maxHeartbeats 2000000 in
theorem alt_step (P : SbP) (db : Nat) (b : Tr db) (F : List UInt8 → Bool) (L : List (List UInt8)) (d : Nat) (ih : SubOK P db b F L d) (a : AltH × Tr d) (G off lo hi : Nat) (c : Nat) (sc : Sc) (room : Int) (φ : List UInt8 → Nat) (cf last k0 : Nat) (w : World) (hA : OwAl w d a G off lo hi) (hG : G < lo) (hZ : hi ≤ P.Z) (hGZ : G < P.Z) (hu : Uf w G) (hg0 : 0 < G) (h : SbSt w P db b F L c sc room φ cf last) (hN : NumOK F L φ last) (hB : Bnd L cf last (k0 + (a.1.vars.length + rcM d a.2))) (hr1 : -1048576 ≤ room) (hr2 : room ≤ 1048576) (hNm : NmOK d a.2 ∧ (∀ y ∈ a.1.vars, y.size ≤ maxLen) ∧ a.1.vars.length ≤ 2000000) (hFt : Fit d a.2) (hc : c + 2 * csA d a ≤ 2000000) (hsc : sc.length + csA d a ≤ 2000000) :
    AlStep P db b F L d P.S G off lo hi a c sc φ k0 w := by
  intro ov cv hv
  refine ⟨trivial, ?_⟩
  obtain ⟨x0, x1, x2, m', q1, q2, ⟨ov', cv', x3, x4⟩, x5⟩ := hA
  rw [x3] at hv
  cases hv
  obtain ⟨n1, n2, n3⟩ := hNm
  have ho := h.ok
  have hS := h.lt
  have e1 := ho.zm
  have e2 := ho.mS
  unfold csA at hc hsc
  have h0 : SbSt w.drew P db b F L c sc room φ cf last := h.below ((Below.refl _ w).drew)
  have tx : TxIn w.drew P.Z ov a.1.vars := by
    rcases x4 with x4 | ⟨g, y1, y2, y3, y4, y5⟩
    · exact .inl x4
    · exact .inr ⟨g, 0, y1, by omega, fun k hk => by rw [Nat.zero_add]; exact y5 k hk⟩
  refine (bindAll_c a.1.vars n2 ov cv P.Z P.S 9 P.m c sc w.drew tx (by omega) e1 (by show P.Z ≤ w.heap.size; omega) h0.sc (by omega) (by omega)).mono ?_
  rintro r1 w1 ⟨rfl, ext, y1, y2, y3⟩
  have hel : ext.length = a.1.vars.length := by
    have := congrArg List.length y1
    rw [List.length_map, List.length_reverse] at this
    exact this
  have h1 : SbSt w1 P db b F L (c + a.1.vars.length) (ext ++ sc) room φ cf last := h0.scope y2 y3
  have c1 : SbCh P w w1 := (SbCh.ofSc y3).ofDrew
  have s1 : w.heap.size ≤ w1.heap.size := c1.size
  have hS1 := h1.lt
  have bG1 : w1.heap[G]? = w.heap[G]? := c1.low ho hS hGZ
  refine ⟨rfl, hS1, by have := hu.lt; omega, (cell_of_block bG1 _).trans x3, ?_⟩
  have tx1 : OwTx w1 lo m' ov a.1.vars := x4.same (fun k a1 a2 => c1.low ho hS (by omega))
  refine (renameE_c P db b F L (c + a.1.vars.length) (ext ++ sc) room φ cf last (k0 + rcM d a.2) a.1.vars n2 ov cv lo m' w1 h1 hN (by rw [show k0 + rcM d a.2 + a.1.vars.length = k0 + (a.1.vars.length + rcM d a.2) by omega]; exact hB) (by omega) (by omega) tx1 n3).mono ?_
  rintro r2 w2 ⟨φ2, cf2, last2, rfl, u1, u2, u3, u4, u5, u6, u7⟩
  have hS2 := u5.lt
  have bG2 : w2.heap[G]? = w1.heap[G]? := u7.low ho hS1 hGZ (by omega)
  have uG2 : Uf w2 G := (hu.same bG1).same bG2
  have s2 := u7.size
  refine ⟨rfl, hS2, uG2.lt, ?_⟩
  have ox : OwEx w2 d a.2 G (off + 4) m' hi := OwEx.same d _ _ _ _ _ x5 (fun q _ => (cell_of_block bG2 _).trans (cell_of_block bG1 _)) (fun k a1 a2 => (u7.low ho hS1 (by omega) (by omega)).trans (c1.low ho hS (by omega)))
  refine (ih a.2 G (off + 4) m' hi (c + a.1.vars.length) (ext ++ sc) room φ2 cf2 last2 k0 w2 ox (by omega) hZ uG2 hg0 u5 u3 u4 hr1 hr2 n1 hFt (by omega) (by rw [List.length_append, hel]; omega)).mono ?_
  rintro r3 w3 ⟨φ3, t', rfl, v1, ⟨v2, c3, cf3, last3, room3, v3, v4, v5, v6, v7, v8⟩, v9, v10⟩
  have hS3 := v8.lt
  have s3 := v10.size
  refine ⟨rfl, hS3, ?_⟩
  have hlx : ∀ p ∈ ext, p.1.size ≤ maxLen := fun p hp => n2 _ (by
    have : p.1 ∈ ext.map Prod.fst := List.mem_map.2 ⟨p, hp, rfl⟩
    rw [y1, List.mem_reverse] at this
    exact this)
  refine (leave_c ext sc hlx P.S 9 P.m c3 w3 v8.sc (by omega)).mono ?_
  rintro r4 w4 ⟨rfl, z1, z2⟩
  have c4 : SbCh P w3 w4 := SbCh.ofSc z2
  have s4 := c4.size
  have bG4 : w4.heap[G]? = w3.heap[G]? := c4.low ho hS3 hGZ
  have cel : ∀ q, q < 4 → w4.cell? ⟨G, off + q, none⟩ = w.cell? ⟨G, off + q, none⟩ := fun q hq => (cell_of_block bG4 _).trans ((v10.cells _ (.inl (by omega))).trans ((cell_of_block bG2 _).trans (cell_of_block bG1 _)))
  have hcf : ∀ q, q < 11 → FpE P G off 11 lo hi w.heap.size w4.heap.size G (off + q) := fun q hq => .inl ⟨rfl, by omega, by omega⟩
  refine ⟨rfl, φ3, (⟨a.1.kind, a.1.name, a.1.num, a.1.vars.map (rnB F φ3)⟩, t'), ⟨u1.ext v2, rfl, by rw [nms_grown y1] at v1; exact v1⟩, ⟨u2.trans v2, c3 + ext.length, cf3, last3, room3, by unfold csA; omega, v4, v5, v6, v7, v8.scope z1 z2⟩, ⟨⟨hcf 0 (by omega), (cel 0 (by omega)).trans x0⟩, ⟨hcf 1 (by omega), (cel 1 (by omega)).trans x1⟩, ⟨hcf 2 (by omega), (cel 2 (by omega)).trans x2⟩, ⟨ov, cv, ⟨hcf 3 (by omega), ?_⟩, ?_⟩, ?_⟩, ?_⟩
  · rw [List.length_map]; exact (cel 3 (by omega)).trans x3
  · show TxF w4 _ ov (a.1.vars.map (rnB F φ3))
    rw [u1.map v2]
    refine u6.mono (fun k o hF => ⟨.inr (.inl ⟨hF.1, by omega⟩), ?_⟩)
    exact (cell_of_block (c4.low ho hS3 (by omega)) _).trans (cell_of_block (v10.low ho hS2 (by omega) (by omega) (by omega)) _)
  · refine ExF.mono (fun k o hF => ⟨?_, cell_of_block (FpE.scope ho hGZ hZ (by omega) s3 (Nat.le_refl _) z2 hF) _⟩) _ _ _ _ v9
    rcases hF with ⟨rfl, a1, a2⟩ | ⟨a1, a2⟩ | a1 | ⟨a1, a2⟩
    · exact .inl ⟨rfl, by omega, by omega⟩
    · exact .inr (.inl ⟨by omega, a2⟩)
    · exact .inr (.inr (.inl a1))
    · exact .inr (.inr (.inr ⟨by omega, by omega⟩))
  · have gl := hu.lt
    exact (((ElCh.ofSb c1 ho hGZ gl (by omega)).trans (u7.el ho hGZ (by omega) (by omega) (Nat.le_refl _) q2)).trans (v10.widen (by omega) (by omega) q1 (Nat.le_refl _))).trans (ElCh.ofSb c4 ho hGZ (by omega) (by omega))
end Go.Proofs.YtegdloenakachaaGreatDoor
