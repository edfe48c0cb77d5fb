/-
  The numbers of new names in memory; numbered, by a contract.
  What the listed variables hold gives the walks what they ask.
  A substitution in memory; a name that is not taken, by a contract.
-/
import Derived.Test.YtegdloenakachaaGreatDoorCN11
import Derived.Test.YtegdloenakachaaGreatDoorCN17
import Derived.Lib.LaidTab
import Derived.Lib.AppendIntMem
import Derived.Lib.ItoaMem
import Derived.Lib.ItoaLen
import Derived.Laws.Concat
import Derived.Test.YtegdloenakachaaGreatDoorRows
import Derived.LaidSub
import Derived.MakeChecks
import Derived.Test.YtegdloenakachaaGreatDoorCN03
namespace Go.Proofs.YtegdloenakachaaGreatDoor
open Go.RowKit Go.Shelf Go.Maps
set_option linter.unusedVariables false

/-- A map of names to numbers in memory. -/
def NumMap (W : World) (m c : Nat) (φ : List UInt8 → Nat) : Prop := ∃ D : DataW Value, W.ownsMap Tryz.prog 9 heldElem m c D ∧ Maps.IsMap D ∧ ∀ x, D.atKey (.string x) (.held (.int .i64 0)) = .held (.int .i64 (φ x : Int))
theorem NumMap.lt {W : World} {m c : Nat} {φ : List UInt8 → Nat} (h : NumMap W m c φ) : m < W.heap.size := by
  obtain ⟨D, h1, _⟩ := h
  exact h1.lt
theorem NumMap.same {W W' : World} {m c : Nat} {φ : List UInt8 → Nat} (h : NumMap W m c φ) (hb : W'.heap[m]? = W.heap[m]?) : NumMap W' m c φ := by
  obtain ⟨D, ⟨es, clock, k1, k2⟩, h2⟩ := h
  exact ⟨D, ⟨es, clock, by rw [hb]; exact k1, k2⟩, h2⟩
theorem numMap_new (W : World) : NumMap (W.alloc (.map #[] 0)) W.heap.size 0 (fun _ => 0) := ⟨.map [], World.ownsMap_made W Tryz.prog 9 heldElem, ⟨_, rfl⟩, fun x => rfl⟩
theorem NumMap.look {W : World} {m c : Nat} {φ : List UInt8 → Nat} (h : NumMap W m c φ) (s : ByteArray) (hs : s.size ≤ maxLen) : (Instr.lookup 108 (.map (some m)) (.string s) false).run Tryz.prog W = .ok (.int .i64 (φ s.data.toList : Int)) W := by
  obtain ⟨D, ⟨es, clock, hb, F, hsz, rfl⟩, hD, hall⟩ := h
  have hz : (zeroValue 3).run Tryz.prog W = .ok (.int .i64 0) W := by kernel_rfl
  have hx := hall s.data.toList
  rcases Maps.fit_look false (string_keyed Tryz.underlying9) Tryz.underlying108 hz hb F (key_str s hs) with ⟨h1, _, h3⟩ | ⟨e0, y, _, _, h1, h2, h3, _⟩
  · rw [h3] at hx
    have e : (.int .i64 (φ s.data.toList : Int) : Value) = .int .i64 0 := (DataW.held.inj hx).symm
    rw [e]
    rw [if_neg (by decide)] at h1
    exact h1
  · rw [h3] at hx
    have h2' : y = (.held e0.val, []) := (Option.some.inj h2).symm
    subst h2'
    have e : e0.val = .int .i64 (φ s.data.toList : Int) := DataW.held.inj hx
    rw [← e]
    rw [if_neg (by decide)] at h1
    exact h1
theorem NumMap.put {W : World} {m c : Nat} {φ : List UInt8 → Nat} (h : NumMap W m c φ) (hc : c < 4000000) (s : ByteArray) (hs : s.size ≤ maxLen) (n : Nat) :
    ∃ W', (Instr.mapUpdate 108 (.map (some m)) (.string s) (.int .i64 (n : Int))).run Tryz.prog W = .ok () W' ∧ NumMap W' m (c + 1) (fun x => if x = s.data.toList then n else φ x) ∧ But m W W' := by
  obtain ⟨D, hown, hD, hall⟩ := h
  obtain ⟨w', h5, h6, h7⟩ := hown.store (string_keyed Tryz.underlying9) Tryz.underlying108 (by unfold maxLen; omega) (key_str s hs) (d := .held (.int .i64 (n : Int))) (ps := []) rfl
  refine ⟨w', h5, ⟨_, h6, ?_, fun x => ?_⟩, ?_⟩
  · obtain ⟨es2, rfl⟩ := hD
    exact ⟨_, rfl⟩
  · by_cases hx : x = s.data.toList
    · subst hx
      rw [Maps.atKey_put_same hD (by constructor)]
      simp
    · rw [Maps.atKey_put_other (by simpa using hx), hall x]
      simp [hx]
  · obtain ⟨es, clock, es', clock', hb, rfl⟩ := h7
    refine ⟨rfl, rfl, rfl, ?_, fun k hk hn => Go.ChangeMaps.heap_setBlock_other hb _ hn⟩
    show _ ≤ (W.heap.setIfInBounds m _).size
    simp
/-- The library's table of powers of ten lies in its place. -/
def GT (w : World) : Prop := Lib.TabIs Tryz.prog w "internal/strconv.uint64pow10" .u64 Lib.pow10Tab ∧ 0 < w.heap.size
theorem GT.same {w w' : World} (h : GT w) (hb : w'.heap[0]? = w.heap[0]?) (hs : w.heap.size ≤ w'.heap.size) : GT w' := by
  refine ⟨?_, by have := h.2; omega⟩
  have h1 := h.1
  have hn : Tryz.prog.globalNamed "internal/strconv.uint64pow10" = some 0 := by kernel_rfl
  simp only [Lib.TabIs, World.var?, hn, Option.bind_some] at h1 ⊢
  rw [hb]
  exact h1
theorem GT.below {w w' : World} (h : GT w) (hb : Below w.heap.size w w') : GT w' := h.same (hb.block _ h.2) hb.size
set_option maxRecDepth 100000 in
set_option maxHeartbeats 2000000 in
theorem numbered_c (n : Nat) (hn : n ≤ 9223372036854775807) (w : World) (hG : GT w) : Calls Tryz.prog 142 #[.int .i64 (n : Int)] w fun e w' => e = .returned (.string (numB n)) ∧ Below w.heap.size w w' := by
  have HI : Hid (Calls Tryz.prog 164 #[.int .i64 (n : Int)] w fun e w' => e = .returned (.string ⟨(Lib.decDigits n).toArray⟩) ∧ Below w.heap.size w w') := by
    refine (Tryz.strconv_Itoa (n : Int) (by omega) (by omega) w hG.1).mono ?_
    rintro e w' ⟨rfl, k, os, rfl⟩
    exact ⟨by rw [Lib.itoa_nonneg], Lib.below_grow _ w (Nat.le_refl _) k os⟩
  have hadd : ∀ W : World, (Op.stringOp .add ⟨#[118]⟩ ⟨(Lib.decDigits n).toArray⟩).run Tryz.prog W = .ok (.string (numB n)) W := fun W => by
    have hl := Lib.itoa_length_le (n : Int) (by omega) (by omega)
    rw [Lib.itoa_nonneg] at hl
    exact run_string_add_lists W [118] (Lib.decDigits n) (by show (1 : Int) ≤ _; omega) (by omega)
  clear hG
  go_enter Tryz.func142, Tryz.ntmps142
  go_wp2_with (go_at_call 164; fail)
  refine HI.out.mono ?_
  rintro e w1 ⟨rfl, h1⟩
  have H1 : Hid (Below w.heap.size w w1) := h1
  clear h1 HI
  go_wp2
  go_ret
  exact ⟨rfl, H1.out⟩
end Go.Proofs.YtegdloenakachaaGreatDoor

namespace Go.Proofs.YtegdloenakachaaGreatDoor
open Go.RowKit Go.Shelf
set_option linter.unusedVariables false

theorem gPow : Tryz.prog.globalNamed "internal/strconv.uint64pow10" = some 0 := by kernel_rfl
theorem tPow : (Tryz.prog.globals[0]?).map (·.type) = some 218 := by kernel_rfl
theorem cellsPow : Tryz.prog.cellsOf 218 = 20 := by kernel_rfl
theorem cellsU64 : Tryz.prog.cellsOf 189 = 1 := by kernel_rfl
theorem only {W : World} {l : List (String × DataW Unit)} (h : laidMetH Tryz.prog l W) (n : String) (d : DataW Unit) (hf : l.filter (fun x => x.1 == n) = [(n, d)]) (hp : d.handleName? = none) : laidMet Tryz.prog [(n, d)] W := by
  have h1 := laidMetH.filter (fun x => x.1 == n) h
  rw [hf] at h1
  have h2 := (laidMetH_iff.1 h1).1
  simpa [hp] using h2
theorem gt_of_laid {W : World} (h : laidMetH Tryz.prog Rows.coreNamesRow.laid W) : GT W := by
  have h3 := only h "internal/strconv.uint64pow10" Rows.laid_internal_strconv_uint64pow10 (by rfl) (by rfl)
  have ht : Lib.TabIs Tryz.prog W "internal/strconv.uint64pow10" .u64 Lib.pow10Tab := Lib.tabIs_of_head (rest := []) (zs := Lib.pow10Tab) gPow tPow Tryz.underlying218 Tryz.underlying189 cellsU64 cellsPow h3
  refine ⟨ht, ?_⟩
  rcases Nat.lt_or_ge 0 W.heap.size with h | h
  · exact h
  · simp only [Lib.TabIs, World.var?, gPow, Option.bind_some] at ht
    simp [Array.getElem?_eq_none h] at ht
end Go.Proofs.YtegdloenakachaaGreatDoor

namespace Go.Proofs.YtegdloenakachaaGreatDoor
open Go.RowKit Go.Shelf Go.Maps
set_option linter.unusedVariables false

/-- Where a substitution lies: its own block, its scope's map, the sets of names that are free and taken, the map of new numbers; below Z lies the tree that is written; the blocks of what comes; the name. -/
structure SbP where
  S : Nat
  m : Nat
  fr : Nat
  tk : Nat
  fh : Nat
  Z : Nat
  lob : Nat
  hib : Nat
  name : ByteArray
structure SbP.Ok (P : SbP) : Prop where
  zb : P.Z ≤ P.lob
  lh : P.lob ≤ P.hib
  hS : P.hib ≤ P.S
  zm : P.Z ≤ P.m
  zr : P.Z ≤ P.fr
  zt : P.Z ≤ P.tk
  zf : P.Z ≤ P.fh
  mS : P.m < P.S
  rS : P.fr < P.S
  tS : P.tk < P.S
  fS : P.fh < P.S
  mr : P.m ≠ P.fr
  mt : P.m ≠ P.tk
  mf : P.m ≠ P.fh
  rf : P.fr ≠ P.fh
  tf : P.tk ≠ P.fh
  bm : P.m < P.lob ∨ P.hib ≤ P.m
  bf : P.fh < P.lob ∨ P.hib ≤ P.fh
/-- A substitution in memory. -/
structure SbSt (W : World) (P : SbP) (db : Nat) (b : Tr db) (F : List UInt8 → Bool) (L : List (List UInt8)) (c : Nat) (sc : Sc) (room : Int) (φ : List UInt8 → Nat) (cf last : Nat) : Prop where
  ok : P.Ok
  gt : GT W
  g0 : 0 ≠ P.S ∧ 0 ≠ P.m ∧ 0 ≠ P.fh
  sc : ScAt W P.S 9 P.m c sc
  fz : ∀ j, W.frozen? ⟨P.S, j, none⟩ = false
  nm : W.cell? ⟨P.S, 0, none⟩ = some (.string P.name)
  by_ : OwEx W db b P.S 1 P.lob P.hib
  rm : W.cell? ⟨P.S, 8, none⟩ = some (.int .i64 room)
  c11 : W.cell? ⟨P.S, 11, none⟩ = some (.map (some P.fr))
  c12 : W.cell? ⟨P.S, 12, none⟩ = some (.map (some P.tk))
  c13 : W.cell? ⟨P.S, 13, none⟩ = some (.map (some P.fh))
  c14 : W.cell? ⟨P.S, 14, none⟩ = some (.int .i64 (last : Int))
  fre : ∃ c, SetIs W P.fr c F
  tak : ∃ c, SetIs W P.tk c (fun x => decide (x ∈ L))
  fsh : NumMap W P.fh cf φ
/-- What a substitution's own functions change: its block, its scope's map, the map of new numbers. -/
structure SbCh (P : SbP) (W W' : World) : Prop where
  os : W'.os = W.os
  tape : W'.tape = W.tape
  output : W'.output = W.output
  size : W.heap.size ≤ W'.heap.size
  block : ∀ k, k < W.heap.size → k ≠ P.S → k ≠ P.m → k ≠ P.fh → W'.heap[k]? = W.heap[k]?
theorem SbCh.refl (P : SbP) (W : World) : SbCh P W W := ⟨rfl, rfl, rfl, Nat.le_refl _, fun _ _ _ _ _ => rfl⟩
theorem SbCh.trans {P : SbP} {W1 W2 W3 : World} (h : SbCh P W1 W2) (k : SbCh P W2 W3) : SbCh P W1 W3 := ⟨k.os.trans h.os, k.tape.trans h.tape, k.output.trans h.output, Nat.le_trans h.size k.size, fun j hj h1 h2 h3 => (k.block j (Nat.lt_of_lt_of_le hj h.size) h1 h2 h3).trans (h.block j hj h1 h2 h3)⟩
theorem SbCh.below {P : SbP} {W W' : World} (h : Below W.heap.size W W') : SbCh P W W' := ⟨h.os, h.tape, h.output, h.size, fun k hk _ _ _ => h.block k hk⟩
theorem SbCh.set (P : SbP) (W : World) (j : Nat) (u : Value) : SbCh P W (W.setCell ⟨P.S, j, none⟩ u) := ⟨rfl, rfl, rfl, by rw [size_set7]; exact Nat.le_refl _, fun k hk h1 _ _ => heap_set_other _ _ _ _ _ h1⟩
theorem SbCh.ofBut {P : SbP} {W W' : World} (h : But P.fh W W') : SbCh P W W' := ⟨h.os, h.tape, h.output, h.size, fun k hk _ _ h3 => h.block k hk h3⟩
theorem SbCh.ofSc {P : SbP} {W W' : World} (h : ScChg P.S 9 P.m W W') : SbCh P W W' := ⟨h.os, h.tape, h.output, h.size, fun k hk h1 h2 _ => h.block k hk h1 h2⟩
/-- Blocks of frames stay. -/
def FrKeep (W W' : World) : Prop := ∀ (k : Nat) (cs : Array Value) (fz : Nat × Nat), W.heap[k]? = some (Obj.cells cs 149 fz) → W'.heap[k]? = some (Obj.cells cs 149 fz)
theorem FrAt.kept {W W' : World} {S m : Nat} (hk : FrKeep W W') : ∀ {sc : Sc}, FrAt W S m sc → FrAt W' S m sc
  | [], _ => trivial
  | p :: r, ⟨h1, h2, h3, h4⟩ => ⟨h1, h2, hk _ _ _ h3, FrAt.kept hk h4⟩
theorem FrKeep.below {W W' : World} (h : Below W.heap.size W W') : FrKeep W W' := fun k cs fz e => by rw [h.block k (Array.getElem?_eq_some_iff.1 e).1]; exact e
theorem FrKeep.set {W : World} {g : Nat} (h : Uf W g) (j : Nat) (u : Value) : FrKeep W (W.setCell ⟨g, j, none⟩ u) := fun k cs fz e => by
  by_cases hk : k = g
  · subst hk
    obtain ⟨cur, T, e2, hn⟩ := h
    rw [e] at e2
    cases e2
    exact absurd rfl hn
  · rw [heap_set_other _ _ _ _ _ hk]; exact e
theorem FrKeep.trans {W1 W2 W3 : World} (h : FrKeep W1 W2) (k : FrKeep W2 W3) : FrKeep W1 W3 := fun j cs fz e => k j cs fz (h j cs fz e)
theorem ScAt.keep {W W' : World} {S so m c : Nat} {sc : Sc} (h : ScAt W S so m c sc) (h1 : W'.cell? ⟨S, so, none⟩ = W.cell? ⟨S, so, none⟩) (h2 : W'.cell? ⟨S, so + 1, none⟩ = W.cell? ⟨S, so + 1, none⟩) (hf : W'.frozen? ⟨S, so, none⟩ = W.frozen? ⟨S, so, none⟩) (hm : W'.heap[m]? = W.heap[m]?) (hk : FrKeep W W') (hs : W.heap.size ≤ W'.heap.size) : ScAt W' S so m c sc :=
  ⟨h.ne, h1.trans h.inner, hf.trans h.innerF, h2.trans h.named, h.map.same hm, h.frames.kept hk, by have := h.lt; omega⟩
theorem ScAt.keepS {W W' : World} {S so m c : Nat} {sc : Sc} (h : ScAt W S so m c sc) (h1 : W'.cell? ⟨S, so, none⟩ = W.cell? ⟨S, so, none⟩) (h2 : W'.cell? ⟨S, so + 1, none⟩ = W.cell? ⟨S, so + 1, none⟩) (hf : W'.frozen? ⟨S, so, none⟩ = W.frozen? ⟨S, so, none⟩) (hm : W'.heap[m]? = W.heap[m]?) (hk : ∀ k, k < W.heap.size → k ≠ S → k ≠ m → W'.heap[k]? = W.heap[k]?) (hs : W.heap.size ≤ W'.heap.size) : ScAt W' S so m c sc :=
  ⟨h.ne, h1.trans h.inner, hf.trans h.innerF, h2.trans h.named, h.map.same hm, h.frames.same hk, by have := h.lt; omega⟩
section
variable {W W' : World} {P : SbP} {db : Nat} {b : Tr db} {F : List UInt8 → Bool} {L : List (List UInt8)} {c : Nat} {sc : Sc} {room : Int} {φ : List UInt8 → Nat} {cf last : Nat}
theorem SbSt.lt (h : SbSt W P db b F L c sc room φ cf last) : P.S < W.heap.size := h.sc.lt
/-- New blocks change nothing. -/
theorem SbSt.below (h : SbSt W P db b F L c sc room φ cf last) (hb : Below W.heap.size W W') : SbSt W' P db b F L c sc room φ cf last := by
  have hS := h.lt
  have ho := h.ok
  have e : ∀ j, W'.cell? ⟨P.S, j, none⟩ = W.cell? ⟨P.S, j, none⟩ := fun j => cell_of_block (hb.block _ hS) j
  obtain ⟨c1, h1⟩ := h.fre
  obtain ⟨c2, h2⟩ := h.tak
  exact ⟨ho, h.gt.below hb, h.g0, h.sc.keep (e _) (e _) (frozen_of_block (hb.block _ hS) _) (hb.block _ h.sc.map.lt) (FrKeep.below hb) hb.size, fun j => (frozen_of_block (hb.block _ hS) j).trans (h.fz j), (e _).trans h.nm, OwEx.same db b _ _ _ _ h.by_ (fun q _ => e _) (fun k h1 h2 => hb.block k (by have := ho.hS; omega)), (e _).trans h.rm, (e _).trans h.c11, (e _).trans h.c12, (e _).trans h.c13, (e _).trans h.c14, ⟨c1, h1.same (hb.block _ h1.lt)⟩, ⟨c2, h2.same (hb.block _ h2.lt)⟩, h.fsh.same (hb.block _ h.fsh.lt)⟩
/-- A cell of its own is written: the counter, or the room. -/
theorem SbSt.setS (h : SbSt W P db b F L c sc room φ cf last) (j : Nat) (u : Value) (room' : Int) (last' : Nat) (h8 : j = 8 ∧ u = .int .i64 room' ∧ last' = last ∨ j = 14 ∧ u = .int .i64 (last' : Int) ∧ room' = room) : SbSt (W.setCell ⟨P.S, j, none⟩ u) P db b F L c sc room' φ cf last' := by
  have ho := h.ok
  have hj : j = 8 ∨ j = 14 := by rcases h8 with h | h <;> omega
  have e : ∀ o, o ≠ j → (W.setCell ⟨P.S, j, none⟩ u).cell? ⟨P.S, o, none⟩ = W.cell? ⟨P.S, o, none⟩ := fun o h => setCell_cell_other _ _ _ _ _ h
  have eb : ∀ k, k ≠ P.S → (W.setCell ⟨P.S, j, none⟩ u).heap[k]? = W.heap[k]? := fun k h => heap_set_other _ _ _ _ _ h
  have hsz : (W.setCell ⟨P.S, j, none⟩ u).heap.size = W.heap.size := size_set7 _ _ _
  obtain ⟨c1, h1⟩ := h.fre
  obtain ⟨c2, h2⟩ := h.tak
  have e8 : (W.setCell ⟨P.S, j, none⟩ u).cell? ⟨P.S, 8, none⟩ = some (.int .i64 room') := by
    rcases h8 with ⟨rfl, rfl, _⟩ | ⟨rfl, _, rfl⟩
    · exact setCell_cell_same _ _ _ _ _ h.rm
    · exact (e 8 (by omega)).trans h.rm
  have e14 : (W.setCell ⟨P.S, j, none⟩ u).cell? ⟨P.S, 14, none⟩ = some (.int .i64 (last' : Int)) := by
    rcases h8 with ⟨rfl, _, rfl⟩ | ⟨rfl, rfl, _⟩
    · exact (e 14 (by omega)).trans h.c14
    · exact setCell_cell_same _ _ _ _ _ h.c14
  exact ⟨ho, h.gt.same (eb _ h.g0.1) (by omega), h.g0, h.sc.keepS (e _ (by omega)) (e _ (by omega)) (setCell_frozen _ _ _ _ _) (eb _ (by have := ho.mS; omega)) (fun k _ h1 _ => eb k h1) (by omega), fun j => (setCell_frozen _ _ _ _ _).trans (h.fz j), (e _ (by omega)).trans h.nm, OwEx.same db b _ _ _ _ h.by_ (fun q hq => e _ (by omega)) (fun k h1 h2 => eb k (by have := ho.hS; omega)), e8, (e _ (by omega)).trans h.c11, (e _ (by omega)).trans h.c12, (e _ (by omega)).trans h.c13, e14, ⟨c1, h1.same (eb _ (by have := ho.rS; omega))⟩, ⟨c2, h2.same (eb _ (by have := ho.tS; omega))⟩, h.fsh.same (eb _ (by have := ho.fS; omega))⟩
/-- The map of new numbers is written. -/
theorem SbSt.putF (h : SbSt W P db b F L c sc room φ cf last) {φ' : List UInt8 → Nat} {cf' : Nat} (hb : But P.fh W W') (hm : NumMap W' P.fh cf' φ') : SbSt W' P db b F L c sc room φ' cf' last := by
  have ho := h.ok
  have hS := h.lt
  have hSf : P.S ≠ P.fh := by have := ho.fS; omega
  have e : ∀ j, W'.cell? ⟨P.S, j, none⟩ = W.cell? ⟨P.S, j, none⟩ := fun j => cell_of_block (hb.block _ hS hSf) j
  obtain ⟨c1, h1⟩ := h.fre
  obtain ⟨c2, h2⟩ := h.tak
  have hk : FrKeep W W' := fun k cs fz e => by
    by_cases hk : k = P.fh
    · subst hk
      obtain ⟨D, ⟨es, clock, k1, k2⟩, -⟩ := h.fsh
      rw [e] at k1
      cases k1
    · rw [hb.block k (Array.getElem?_eq_some_iff.1 e).1 hk]; exact e
  exact ⟨ho, h.gt.same (hb.block _ h.gt.2 h.g0.2.2) hb.size, h.g0, h.sc.keep (e _) (e _) (frozen_of_block (hb.block _ hS hSf) _) (hb.block _ h.sc.map.lt ho.mf) hk hb.size, fun j => (frozen_of_block (hb.block _ hS hSf) j).trans (h.fz j), (e _).trans h.nm, OwEx.same db b _ _ _ _ h.by_ (fun q _ => e _) (fun k h1 h2 => hb.block k (by have := ho.hS; omega) (by have := ho.bf; omega)), (e _).trans h.rm, (e _).trans h.c11, (e _).trans h.c12, (e _).trans h.c13, (e _).trans h.c14, ⟨c1, h1.same (hb.block _ h1.lt ho.rf)⟩, ⟨c2, h2.same (hb.block _ h2.lt ho.tf)⟩, hm⟩
/-- Its scope is changed. -/
theorem SbSt.scope (h : SbSt W P db b F L c sc room φ cf last) {c' : Nat} {sc' : Sc} (hs : ScAt W' P.S 9 P.m c' sc') (hc : ScChg P.S 9 P.m W W') : SbSt W' P db b F L c' sc' room φ cf last := by
  have ho := h.ok
  have hS := h.lt
  have e : ∀ j, j ≠ 9 → W'.cell? ⟨P.S, j, none⟩ = W.cell? ⟨P.S, j, none⟩ := fun j hj => hc.cells j hj
  obtain ⟨c1, h1⟩ := h.fre
  obtain ⟨c2, h2⟩ := h.tak
  have eb : ∀ k, k < W.heap.size → k ≠ P.S → k ≠ P.m → W'.heap[k]? = W.heap[k]? := hc.block
  exact ⟨ho, h.gt.same (eb _ h.gt.2 h.g0.1 h.g0.2.1) hc.size, h.g0, hs, fun j => (hc.frozen j).trans (h.fz j), (e _ (by omega)).trans h.nm, OwEx.same db b _ _ _ _ h.by_ (fun q hq => e _ (by omega)) (fun k h1 h2 => eb k (by have := ho.hS; omega) (by have := ho.hS; omega) (by have := ho.bm; omega)), (e _ (by omega)).trans h.rm, (e _ (by omega)).trans h.c11, (e _ (by omega)).trans h.c12, (e _ (by omega)).trans h.c13, (e _ (by omega)).trans h.c14, ⟨c1, h1.same (eb _ h1.lt (by have := ho.rS; omega) ho.mr.symm)⟩, ⟨c2, h2.same (eb _ h2.lt (by have := ho.tS; omega) ho.mt.symm)⟩, h.fsh.same (eb _ h.fsh.lt (by have := ho.fS; omega) ho.mf.symm)⟩
end
end Go.Proofs.YtegdloenakachaaGreatDoor
