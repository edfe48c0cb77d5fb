/-
  What a bound name is called, by a contract.
  Names in a row called otherwise, by a contract.
  copiedExprs, by a contract.
  copiedBinds, by a contract.
  copiedAlts, by a contract.
-/
import Derived.Test.YtegdloenakachaaGreatDoorCN19
import Derived.Test.YtegdloenakachaaGreatDoorCN11
namespace Go.Proofs.YtegdloenakachaaGreatDoor
open Go.RowKit Go.Shelf Go.Maps
set_option linter.unusedVariables false

/-- What a bound name is called. -/
def rnB (F : List UInt8 → Bool) (φ : List UInt8 → Nat) (x : ByteArray) : ByteArray := if F x.data.toList then numB (φ x.data.toList) else x
/-- Numbers that are there stay; new ones are of names that are not taken, each another one. -/
structure NumOK (F : List UInt8 → Bool) (L : List (List UInt8)) (φ : List UInt8 → Nat) (last : Nat) : Prop where
  le : ∀ x, φ x ≤ last
  new : ∀ x, φ x ≠ 0 → nmL (φ x) ∉ L
  inj : ∀ x y, φ x ≠ 0 → φ x = φ y → x = y
def Ext (φ φ' : List UInt8 → Nat) : Prop := ∀ x, φ x ≠ 0 → φ' x = φ x
theorem Ext.refl (φ : List UInt8 → Nat) : Ext φ φ := fun _ _ => rfl
theorem Ext.trans {a b c : List UInt8 → Nat} (h : Ext a b) (k : Ext b c) : Ext a c := fun x hx => by
  have h1 := h x hx
  rw [k x (by rw [h1]; exact hx), h1]
/-- What renamed gives. -/
def RnPost (P : SbP) (db : Nat) (b : Tr db) (F : List UInt8 → Bool) (L : List (List UInt8)) (c : Nat) (sc : Sc) (room : Int) (φ : List UInt8 → Nat) (cf last : Nat) (x : ByteArray) (W : World) (r : Ending) (W' : World) : Prop :=
  ∃ (φ' : List UInt8 → Nat) (cf' last' : Nat), r = .returned (.string (rnB F φ' x)) ∧ (F x.data.toList = true → φ' x.data.toList ≠ 0) ∧ Ext φ φ' ∧ NumOK F L φ' last' ∧ cf' ≤ cf + 1 ∧ last' ≤ last + L.length + 1 ∧ SbSt W' P db b F L c sc room φ' cf' last' ∧ SbCh P W W'
theorem numB_size (n : Nat) (hn : n ≤ 9223372036854775807) : (numB n).size ≤ 30 := by
  have hl2 := Lib.itoa_length_le (n : Int) (by omega) (by omega)
  rw [Lib.itoa_nonneg] at hl2
  show ((118 : UInt8) :: Lib.decDigits n).toArray.size ≤ _
  simp only [List.size_toArray, List.length_cons]
  omega
set_option maxRecDepth 100000 in
set_option maxHeartbeats 4000000 in
theorem renamed_c (P : SbP) (db : Nat) (b : Tr db) (F : List UInt8 → Bool) (L : List (List UInt8)) (c : Nat) (sc : Sc) (room : Int) (φ : List UInt8 → Nat) (cf last : Nat) (x : ByteArray) (hx : x.size ≤ maxLen) (w : World) (h : SbSt w P db b F L c sc room φ cf last) (hN : NumOK F L φ last) (hl : last + L.length + 1 ≤ 1000000000000000) (hcf : cf < 4000000) :
    Calls Tryz.prog 112 #[.pointer (some ⟨P.S, 0, none⟩), .string x] w fun r w' => RnPost P db b F L c sc room φ cf last x w r w' := by
  have hdep : Tryz.prog.follows Departure.mixedOrders = true := by kernel_rfl
  have H0 : Hid (SbSt w P db b F L c sc room φ cf last ∧ NumOK F L φ last ∧ last + L.length + 1 ≤ 1000000000000000 ∧ cf < 4000000) := ⟨h, hN, hl, hcf⟩
  obtain ⟨cr, hfr⟩ := h.fre
  have r1 := hfr.look x hx
  have lS := h.lt
  have x11 := h.c11
  have x13 := h.c13
  have b1 := below1 w (.cells #[] 63)
  have h1 := h.below b1
  have HU : Hid (∀ W, SbSt W P db b F L c sc room φ cf last → Calls Tryz.prog 141 #[.pointer (some ⟨P.S, 0, none⟩)] W fun r w' => UnPost P db b F L c sc room φ cf last W r w') := fun W hW => unused_c P db b F L c sc room φ cf last W hW hl
  have HW1 : Hid (SbSt (w.alloc (.cells #[] 63)) P db b F L c sc room φ cf last ∧ Below w.heap.size w (w.alloc (.cells #[] 63))) := ⟨h1, b1⟩
  have r2 := h1.fsh.look x hx
  have HX : Hid (x.size ≤ maxLen) := hx
  obtain ⟨S, hS⟩ : ∃ S, P.S = S := ⟨_, rfl⟩
  have HS : Hid (P.S = S) := hS
  rw [hS] at lS x11 x13 HU ⊢
  obtain ⟨fr, hfr2⟩ : ∃ k, P.fr = k := ⟨_, rfl⟩
  obtain ⟨fh, hfh⟩ : ∃ k, P.fh = k := ⟨_, rfl⟩
  have HF : Hid (P.fr = fr ∧ P.fh = fh) := ⟨hfr2, hfh⟩
  rw [hfr2] at r1 x11
  rw [hfh] at r2 x13
  clear h hN hl hcf hfr h1 b1 hS hx hfr2 hfh
  cases hF : F x.data.toList with
  | false =>
    rw [hF] at r1
    have HFx : Hid (F x.data.toList = false) := hF
    clear hF r2
    go_enter Tryz.func112, Tryz.ntmps112
    go_wp2
    go_ret
    refine ⟨φ, cf, last, ?_, fun e => (by rw [HFx.out] at e; cases e), Ext.refl _, H0.out.2.1, by omega, by omega, HW1.out.1, SbCh.below HW1.out.2⟩
    have e : rnB F φ x = x := by unfold rnB; rw [HFx.out]; rfl
    rw [e]; rfl
  | true =>
    rw [hF] at r1
    have HFx : Hid (F x.data.toList = true) := hF
    clear hF
    by_cases hp : φ x.data.toList = 0
    · have HP0 : Hid (φ x.data.toList = 0) := hp
      rw [hp] at r2
      clear hp
      go_enter Tryz.func112, Tryz.ntmps112
      obtain ⟨V, hV⟩ : ∃ V, w.alloc (.cells #[] 63) = V := ⟨_, rfl⟩
      have HEV : Hid (w.alloc (.cells #[] 63) = V) := hV
      have HV : Hid (SbSt V P db b F L c sc room φ cf last ∧ Below w.heap.size w V) := by rw [← hV]; exact HW1.out
      clear hV
      go_wp2
      rw [HEV.out]
      have lV : S < V.heap.size := by have := HV.out.1.lt; rw [HS.out] at this; exact this
      have d13 : V.drew.cell? ⟨S, 13, none⟩ = some (.map (some fh)) := by have := HV.out.1.c13; rw [HS.out, HF.out.2] at this; exact this
      have f13 : V.cell? ⟨S, 13, none⟩ = some (.map (some fh)) := d13
      have HArm : Hid (∀ w2 (n : Nat), SbSt w2 P db b F L c sc room φ cf n → ∃ W3, (Instr.mapUpdate 108 (.map (some fh)) (.string x) (.int .i64 (n : Int))).run Tryz.prog w2 = .ok () W3 ∧ SbSt W3 P db b F L c sc room (fun y => if y = x.data.toList then n else φ y) (cf + 1) n ∧ SbCh P w2 W3 ∧ S < w2.heap.size ∧ w2.cell? ⟨S, 13, none⟩ = some (.map (some fh))) := by
        intro w2 n hst
        obtain ⟨W3, a1, a2, a3⟩ := hst.fsh.put H0.out.2.2.2 x HX.out n
        rw [HF.out.2] at a1
        have l2 := hst.lt
        have y13 := hst.c13
        rw [HS.out] at l2 y13
        rw [HF.out.2] at y13
        exact ⟨W3, a1, hst.putF a3 a2, SbCh.ofBut a3, l2, y13⟩
      go_region_with (go_at_call 141; refine (HU.out _ (HV.out.1.below ((Below.refl _ V).drew))).mono ?_; rintro e w2 ⟨n, rfl, u1, u2, u3, u4, u5⟩; obtain ⟨W3, a1, a2, a3, a4, a5⟩ := HArm.out w2 n u4; have HA : Hid (last < n ∧ n ≤ last + L.length + 1 ∧ nmL n ∉ L ∧ SbSt W3 P db b F L c sc room (fun y => if y = x.data.toList then n else φ y) (cf + 1) n ∧ SbCh P w W3) := ⟨u1, u2, u3, a2, (((SbCh.below HV.out.2).trans (SbCh.below (Below.refl _ V).drew)).trans u5).trans a3⟩; clear u1 u2 u3 u4 u5 a2 a3)
      all_goals
        have l3 : S < W3.heap.size := by have := HA.out.2.2.2.1.lt; rw [HS.out] at this; exact this
        have z13 : W3.cell? ⟨S, 13, none⟩ = some (.map (some fh)) := by have := HA.out.2.2.2.1.c13; rw [HS.out, HF.out.2] at this; exact this
        have r3 : (Instr.lookup 108 (.map (some fh)) (.string x) false).run Tryz.prog W3 = .ok (.int .i64 (n : Int)) W3 := by
          have h9 := HA.out.2.2.2.1.fsh.look x HX.out
          rw [HF.out.2] at h9
          simpa using h9
        have HN : Hid (Calls Tryz.prog 142 #[.int .i64 (n : Int)] W3 fun e w' => e = .returned (.string (numB n)) ∧ Below W3.heap.size W3 w') := numbered_c n (by have := HA.out.2.1; have := H0.out.2.2.1; omega) _ HA.out.2.2.2.1.gt
        clear a1 a4 a5 r1 r2 x11 x13 d13 f13 lV lS
        go_wp2_with (go_at_call 142; fail)
        refine HN.out.mono ?_
        rintro e w4 ⟨rfl, h4⟩
        have H4 : Hid (SbSt w4 P db b F L c sc room (fun y => if y = x.data.toList then n else φ y) (cf + 1) n ∧ SbCh P w w4) := ⟨HA.out.2.2.2.1.below h4, HA.out.2.2.2.2.trans (SbCh.below h4)⟩
        clear h4 HN
        go_wp2
        go_ret
        obtain ⟨a1, a2, a3, -, -⟩ := HA.out
        have hN := H0.out.2.1
        refine ⟨fun y => if y = x.data.toList then n else φ y, cf + 1, n, ?_, fun e => ?_, fun y hy => ?_, ⟨fun y => ?_, fun y hy => ?_, fun y z hy e => ?_⟩, Nat.le_refl _, a2, H4.out.1, H4.out.2⟩
        · have e : rnB F (fun y => if y = x.data.toList then n else φ y) x = numB n := by unfold rnB; rw [HFx.out]; simp
          rw [e]; rfl
        · simp; omega
        · have : y ≠ x.data.toList := fun e => hy (by rw [e]; exact HP0.out)
          simp [this]
        · show (if y = x.data.toList then n else φ y) ≤ n
          split
          · exact Nat.le_refl _
          · have := hN.le y; omega
        · show nmL (if y = x.data.toList then n else φ y) ∉ L
          by_cases e : y = x.data.toList
          · rw [if_pos e]; exact a3
          · rw [if_neg e]
            exact hN.new y (by simpa [e] using hy)
        · skip
          by_cases e1 : y = x.data.toList
          · by_cases e2 : z = x.data.toList
            · rw [e1, e2]
            · rw [if_pos e1, if_neg e2] at e
              have := hN.le z; omega
          · rw [if_neg e1] at hy e
            by_cases e2 : z = x.data.toList
            · rw [if_pos e2] at e
              have := hN.le y; omega
            · rw [if_neg e2] at e
              exact hN.inj y z hy e
    · obtain ⟨q, hq⟩ : ∃ q, φ x.data.toList = q := ⟨_, rfl⟩
      rw [hq] at r2 hp
      have HQ : Hid (φ x.data.toList = q) := hq
      have e0 : ¬ (q : Int) = 0 := by omega
      have e1 : ((q : Int) == 0) = false := by simp; omega
      have HN : Hid (Calls Tryz.prog 142 #[.int .i64 (q : Int)] (w.alloc (.cells #[] 63)) fun e w' => e = .returned (.string (numB q)) ∧ Below (w.alloc (.cells #[] 63)).heap.size (w.alloc (.cells #[] 63)) w') := numbered_c q (by have := H0.out.2.1.le x.data.toList; have := H0.out.2.2.1; omega) _ HW1.out.1.gt
      clear hp hq
      go_enter Tryz.func112, Tryz.ntmps112
      go_wp2_with (go_at_call 142; fail)
      refine HN.out.mono ?_
      rintro e w2 ⟨rfl, h2⟩
      have H2 : Hid (SbSt w2 P db b F L c sc room φ cf last ∧ SbCh P w w2) := ⟨HW1.out.1.below h2, (SbCh.below HW1.out.2).trans (SbCh.below h2)⟩
      clear h2 HN
      go_wp2
      go_ret
      refine ⟨φ, cf, last, ?_, fun e => (by rw [HQ.out]; omega), Ext.refl _, H0.out.2.1, by omega, by omega, H2.out.1, H2.out.2⟩
      have e : rnB F φ x = numB q := by unfold rnB; rw [HFx.out, HQ.out]; rfl
      rw [e]; rfl
end Go.Proofs.YtegdloenakachaaGreatDoor

namespace Go.Proofs.YtegdloenakachaaGreatDoor
open Go.RowKit Go.Shelf Go.Maps
set_option linter.unusedVariables false

/-- All blocks stay but those of the substitution's own and one. -/
structure TxCh (P : SbP) (g : Nat) (W W' : World) : Prop where
  os : W'.os = W.os
  tape : W'.tape = W.tape
  output : W'.output = W.output
  size : W.heap.size ≤ W'.heap.size
  block : ∀ k, k < W.heap.size → k ≠ P.S → k ≠ P.m → k ≠ P.fh → k ≠ g → W'.heap[k]? = W.heap[k]?
theorem SbCh.tx {P : SbP} {W W' : World} (h : SbCh P W W') (g : Nat) : TxCh P g W W' := ⟨h.os, h.tape, h.output, h.size, fun k hk h1 h2 h3 _ => h.block k hk h1 h2 h3⟩
theorem TxCh.trans {P : SbP} {g : Nat} {W1 W2 W3 : World} (h : TxCh P g W1 W2) (k : TxCh P g W2 W3) : TxCh P g W1 W3 := ⟨k.os.trans h.os, k.tape.trans h.tape, k.output.trans h.output, Nat.le_trans h.size k.size, fun j hj h1 h2 h3 h4 => (k.block j (Nat.lt_of_lt_of_le hj h.size) h1 h2 h3 h4).trans (h.block j hj h1 h2 h3 h4)⟩
theorem TxCh.set (P : SbP) (g : Nat) (W : World) (j : Nat) (u : Value) : TxCh P g W (W.setCell ⟨g, j, none⟩ u) := ⟨rfl, rfl, rfl, by rw [size_set7]; exact Nat.le_refl _, fun k hk _ _ _ h => heap_set_other _ _ _ _ _ h⟩
section
variable {W : World} {P : SbP} {db : Nat} {b : Tr db} {F : List UInt8 → Bool} {L : List (List UInt8)} {c : Nat} {sc : Sc} {room : Int} {φ : List UInt8 → Nat} {cf last : Nat}
/-- A cell of the tree is written: the substitution stays. -/
theorem SbSt.setT (h : SbSt W P db b F L c sc room φ cf last) {g : Nat} (hg : g < P.Z) (hu : Uf W g) (hg0 : 0 ≠ g) (j : Nat) (u : Value) : SbSt (W.setCell ⟨g, j, none⟩ u) P db b F L c sc room φ cf last := by
  have ho := h.ok
  have eb : ∀ k, k ≠ g → (W.setCell ⟨g, j, none⟩ u).heap[k]? = W.heap[k]? := fun k h => heap_set_other _ _ _ _ _ h
  have hsz : (W.setCell ⟨g, j, none⟩ u).heap.size = W.heap.size := size_set7 _ _ _
  have hSg : P.S ≠ g := by have := ho.zm; have := ho.mS; omega
  have e : ∀ o, (W.setCell ⟨g, j, none⟩ u).cell? ⟨P.S, o, none⟩ = W.cell? ⟨P.S, o, none⟩ := fun o => cell_of_block (eb _ hSg) o
  obtain ⟨c1, h1⟩ := h.fre
  obtain ⟨c2, h2⟩ := h.tak
  exact ⟨ho, h.gt.same (eb _ hg0) (by omega), h.g0, h.sc.keep (e _) (e _) (frozen_of_block (eb _ hSg) _) (eb _ (by have := ho.zm; omega)) (FrKeep.set hu _ _) (by omega), fun j => (frozen_of_block (eb _ hSg) j).trans (h.fz j), (e _).trans h.nm, OwEx.same db b _ _ _ _ h.by_ (fun q hq => e _) (fun k h1 h2 => eb k (by have := ho.zb; omega)), (e _).trans h.rm, (e _).trans h.c11, (e _).trans h.c12, (e _).trans h.c13, (e _).trans h.c14, ⟨c1, h1.same (eb _ (by have := ho.zr; omega))⟩, ⟨c2, h2.same (eb _ (by have := ho.zt; omega))⟩, h.fsh.same (eb _ (by have := ho.zf; omega))⟩
end
/-- Bounds that hold all along. -/
def Bnd (L : List (List UInt8)) (cf last k : Nat) : Prop := L.length ≤ 1000000 ∧ cf + k ≤ 3000000 ∧ last + k * (L.length + 1) + L.length + 1 ≤ 1000000000000000
theorem Bnd.step {L : List (List UInt8)} {cf last k cf' last' : Nat} (h : Bnd L cf last (k + 1)) (h1 : cf' ≤ cf + 1) (h2 : last' ≤ last + L.length + 1) : Bnd L cf' last' k := by
  obtain ⟨a, b, c⟩ := h
  refine ⟨a, by omega, ?_⟩
  rw [Nat.add_mul] at c
  omega
theorem Bnd.less {L : List (List UInt8)} {cf last k k' : Nat} (h : Bnd L cf last k) (hk : k' ≤ k) : Bnd L cf last k' := by
  obtain ⟨a, b, c⟩ := h
  have := Nat.mul_le_mul_right (L.length + 1) hk
  exact ⟨a, by omega, by omega⟩
/-- What the renaming of a row gives. -/
def RwPost (P : SbP) (db : Nat) (b : Tr db) (F : List UInt8 → Bool) (L : List (List UInt8)) (c : Nat) (sc : Sc) (room : Int) (φ : List UInt8 → Nat) (cf last k0 : Nat) (l : List ByteArray) (g : Nat) (W : World) (r : Ending) (W' : World) : Prop :=
  ∃ (φ' : List UInt8 → Nat) (cf' last' : Nat), r = .returned (.tuple #[]) ∧ (∀ x ∈ l, F x.data.toList = true → φ' x.data.toList ≠ 0) ∧ Ext φ φ' ∧ NumOK F L φ' last' ∧ Bnd L cf' last' k0 ∧ SbSt W' P db b F L c sc room φ' cf' last' ∧ (∀ k (h : k < l.length), W'.cell? ⟨g, k, none⟩ = some (.string (rnB F φ' l[k]))) ∧ Uf W' g ∧ TxCh P g W W'
theorem rnB_ext {F : List UInt8 → Bool} {φ φ' : List UInt8 → Nat} {x : ByteArray} (h : Ext φ φ') (h1 : F x.data.toList = true → φ x.data.toList ≠ 0) : rnB F φ' x = rnB F φ x := by
  unfold rnB
  cases e : F x.data.toList with
  | false => rfl
  | true => simp only [if_true]; rw [h _ (h1 e)]
set_option maxRecDepth 100000 in
set_option maxHeartbeats 4000000 in
theorem rename_c (P : SbP) (db : Nat) (b : Tr db) (F : List UInt8 → Bool) (L : List (List UInt8)) (c : Nat) (sc : Sc) (room : Int) (φ : List UInt8 → Nat) (cf last k0 : Nat) (l : List ByteArray) (hls : ∀ x ∈ l, x.size ≤ maxLen) (hl0 : l ≠ []) (g cap : Nat) (w : World) (h : SbSt w P db b F L c sc room φ cf last) (hN : NumOK F L φ last) (hB : Bnd L cf last (k0 + l.length)) (hg : g < P.Z) (hg0 : 0 ≠ g) (hu : Uf w g) (hc : ∀ k (h : k < l.length), w.cell? ⟨g, k, none⟩ = some (.string l[k])) (hln : l.length ≤ 2000000) :
    Calls Tryz.prog 64 #[.pointer (some ⟨P.S, 0, none⟩), .slice (some ⟨g, 0, none⟩) l.length cap] w fun r w' => RwPost P db b F L c sc room φ cf last k0 l g w r w' := by
  obtain ⟨n, hn⟩ : ∃ n, l.length = n := ⟨_, rfl⟩
  have H0 : Hid (l.length = n ∧ (∀ x ∈ l, x.size ≤ maxLen) ∧ g < P.Z ∧ 0 ≠ g ∧ ∀ k (h : k < l.length), w.cell? ⟨g, k, none⟩ = some (.string l[k])) := ⟨hn, hls, hg, hg0, hc⟩
  have HS0 : Hid (SbSt w P db b F L c sc room φ cf last ∧ NumOK F L φ last ∧ Bnd L cf last (k0 + n) ∧ Uf w g) := ⟨h, hN, by rw [← hn]; exact hB, hu⟩
  obtain ⟨S, hS⟩ : ∃ S, P.S = S := ⟨_, rfl⟩
  have HS : Hid (P.S = S) := hS
  have hni : (n : Int) ≤ 2000000 := by omega
  rw [hS, hn]
  clear h hN hB hg hg0 hu hc hls hl0 hn hS hln
  go_enter Tryz.func64, Tryz.ntmps64
  go_wp2
  go_loopw [8] (fun v wr => ∃ k : Nat, v = .int .i64 (k : Int) ∧ Hid (k ≤ n ∧ ∃ (φ' : List UInt8 → Nat) (cf' last' : Nat), (∀ x ∈ l.take k, F x.data.toList = true → φ' x.data.toList ≠ 0) ∧ Ext φ φ' ∧ NumOK F L φ' last' ∧ Bnd L cf' last' (k0 + (n - k)) ∧ SbSt wr P db b F L c sc room φ' cf' last' ∧ (∀ j (h : j < l.length), wr.cell? ⟨g, j, none⟩ = some (.string (if j < k then rnB F φ' l[j] else l[j]))) ∧ Uf wr g ∧ TxCh P g w wr)) (fun v _ => n - (intOf v).toNat)
  case atStart => exact ⟨0, rfl, ⟨Nat.zero_le _, φ, cf, last, fun x hx => (by cases hx), Ext.refl _, HS0.out.2.1, HS0.out.2.2.1, HS0.out.1, fun j h => by rw [if_neg (Nat.not_lt_zero _)]; exact H0.out.2.2.2.2 j h, HS0.out.2.2.2, (SbCh.refl P w).tx g⟩⟩
  case round =>
    obtain ⟨k, rfl, HI⟩ := hrel
    by_cases hk : k < n
    · obtain ⟨i1, φ1, cf1, last1, i2, i3, i4, i5, i6, i7, i8, i9⟩ := HI.out
      have hkl : k < l.length := by rw [H0.out.1]; exact hk
      have hx := i7 k hkl
      rw [if_neg (Nat.lt_irrefl _)] at hx
      have lg := i8.lt
      have i5' : Bnd L cf1 last1 ((k0 + (n - (k + 1))) + 1) := by rw [show k0 + (n - (k + 1)) + 1 = k0 + (n - k) by omega]; exact i5
      have HC : Hid (Calls Tryz.prog 112 #[.pointer (some ⟨P.S, 0, none⟩), .string l[k]] wr fun r w' => RnPost P db b F L c sc room φ1 cf1 last1 l[k] wr r w') := renamed_c P db b F L c sc room φ1 cf1 last1 l[k] (H0.out.2.1 _ (List.getElem_mem hkl)) wr i6 i4 (by obtain ⟨a, b, c⟩ := i5'; rw [Nat.add_mul] at c; omega) (by obtain ⟨a, b, c⟩ := i5'; omega)
      rw [HS.out] at HC
      have HI2 : Hid ((∀ x ∈ l.take k, F x.data.toList = true → φ1 x.data.toList ≠ 0) ∧ Ext φ φ1 ∧ Bnd L cf1 last1 ((k0 + (n - (k + 1))) + 1) ∧ (∀ j (h : j < l.length), wr.cell? ⟨g, j, none⟩ = some (.string (if j < k then rnB F φ1 l[j] else l[j]))) ∧ Uf wr g ∧ TxCh P g w wr) := ⟨i2, i3, i5', i7, i8, i9⟩
      obtain ⟨xk, hxk⟩ : ∃ xk, l[k] = xk := ⟨_, rfl⟩
      rw [hxk] at hx HC
      have HK : Hid (k < n ∧ ∃ h : k < l.length, l[k] = xk) := ⟨hk, hkl, hxk⟩
      have hki : (k : Int) < (n : Int) := by omega
      clear i1 i2 i3 i4 i5 i6 i7 i8 i9 i5' hk hxk hkl HI
      go_wp2_with (go_at_call 112; fail)
      refine HC.out.mono ?_
      rintro e w2 ⟨φ2, cf2, last2, rfl, u1, u2, u3, u4, u5, u6, u7⟩
      have hgb : w2.heap[g]? = wr.heap[g]? := by
        have ho := u6.ok
        have hZ := H0.out.2.2.1
        exact u7.block g lg (by have := ho.zm; have := ho.mS; omega) (by have := ho.zm; omega) (by have := ho.zf; omega)
      have hx2 : w2.cell? ⟨g, k, none⟩ = some (.string xk) := (cell_of_block hgb _).trans hx
      have hf2 : w2.frozen? ⟨g, k, none⟩ = false := (frozen_of_block hgb _).trans (HI2.out.2.2.2.2.1.frozen k)
      have lg2 : g < w2.heap.size := Nat.lt_of_lt_of_le lg u7.size
      have HU : Hid ((F xk.data.toList = true → φ2 xk.data.toList ≠ 0) ∧ Ext φ1 φ2 ∧ NumOK F L φ2 last2 ∧ cf2 ≤ cf1 + 1 ∧ last2 ≤ last1 + L.length + 1 ∧ SbSt w2 P db b F L c sc room φ2 cf2 last2 ∧ SbCh P wr w2 ∧ w2.heap[g]? = wr.heap[g]?) := ⟨u1, u2, u3, u4, u5, u6, u7, hgb⟩
      clear u1 u2 u3 u4 u5 u6 u7 HC hgb hx lg
      generalize hrn : rnB F φ2 xk = rn
      have HRn : Hid (rnB F φ2 xk = rn) := hrn
      clear hrn
      go_wp2
      refine ⟨⟨k + 1, by congr 1, ?_⟩, ?_⟩
      · obtain ⟨hk, hkl, hxk⟩ := HK.out
        obtain ⟨a1, a2, a3, a4, a5, a6⟩ := HI2.out
        obtain ⟨u1, u2, u3, u4, u5, u6, u7, hgb⟩ := HU.out
        have hu2 : Uf w2 g := a5.same hgb
        refine ⟨hk, φ2, cf2, last2, fun x hx hF => ?_, a2.trans u2, u3, a3.step u4 u5, u6.setT H0.out.2.2.1 hu2 H0.out.2.2.2.1 _ _, fun j hj => ?_, hu2.set _ _ _, (a6.trans (u7.tx g)).trans (TxCh.set _ _ _ _ _)⟩
        · rw [List.take_succ_eq_append_getElem hkl, hxk] at hx
          rcases List.mem_append.1 hx with hx | hx
          · have h9 := a1 x hx hF
            rw [u2 _ h9]; exact h9
          · have : x = xk := by simpa using hx
            subst this; exact u1 hF
        · by_cases e : j = k
          · subst e
            rw [if_pos (Nat.lt_succ_self _), hxk, HRn.out]
            exact setCell_cell_same _ _ _ _ _ hx2
          · rw [setCell_cell_other _ _ _ _ _ e, cell_of_block hgb, a4 j hj]
            by_cases h1 : j < k
            · rw [if_pos h1, if_pos (by omega)]
              rw [rnB_ext u2 (a1 l[j] (by rw [List.mem_take_iff_getElem]; exact ⟨j, by omega, rfl⟩))]
            · rw [if_neg h1, if_neg (by omega)]
      · show n - ((k : Int) + 1).toNat < n - ((k : Int)).toNat
        have := HK.out.1; omega
    · have hki : ¬ (k : Int) < (n : Int) := by omega
      have hkn : k = n := by have := HI.out.1; omega
      subst hkn
      clear hk
      go_wp2
      go_end0
      obtain ⟨i1, φ1, cf1, last1, i2, i3, i4, i5, i6, i7, i8, i9⟩ := HI.out
      refine ⟨φ1, cf1, last1, rfl, fun x hx => i2 x (by rw [List.take_of_length_le (by have := H0.out.1; omega)]; exact hx), i3, i4, by rw [Nat.sub_self] at i5; exact i5, i6, fun j hj => ?_, i8, i9⟩
      have := i7 j hj
      rw [if_pos (by have := H0.out.1; omega)] at this
      exact this
end Go.Proofs.YtegdloenakachaaGreatDoor

namespace Go.Proofs.YtegdloenakachaaGreatDoor
open Go.RowKit Go.Shelf Go.Maps
set_option linter.unusedVariables false

/-- Where the copying of a row stands: the first parts are copied, the others are as they lay. -/
structure CpI (w w1 : World) (g n size : Nat) {α : Type} (P : World → α → Nat → Nat → Nat → Nat → Prop) (l : List α) (k : Nat) (W : World) : Prop where
  le : k ≤ n
  h : ∃ h : Nat → Nat, g < h 0 ∧ (∀ j, j < k → h j ≤ h (j + 1)) ∧ h k ≤ W.heap.size ∧ ∀ j (hj : j < l.length), j < k → P W l[j] g (j * size) (h j) (h (j + 1))
  rest : ∀ j, k * size ≤ j → W.cell? ⟨g, j, none⟩ = w1.cell? ⟨g, j, none⟩
  uf : Uf W g
  b : Below w.heap.size w W
theorem CpI.start {w w1 : World} {g n size : Nat} {α : Type} {P : World → α → Nat → Nat → Nat → Nat → Prop} {l : List α} (hg : g < w1.heap.size) (hu : Uf w1 g) (hb : Below w.heap.size w w1) : CpI w w1 g n size P l 0 w1 :=
  ⟨Nat.zero_le _, ⟨fun _ => w1.heap.size, hg, fun j hj => absurd hj (Nat.not_lt_zero _), Nat.le_refl _, fun j _ hj => absurd hj (Nat.not_lt_zero _)⟩, fun _ _ => rfl, hu, hb⟩
theorem CpI.done {w w1 W : World} {g n size : Nat} {α : Type} {P : World → α → Nat → Nat → Nat → Nat → Prop} {l : List α} (h : CpI w w1 g n size P l n W) (hl : l.length = n) (hg : w.heap.size ≤ g) : OwRow W w.heap.size W.heap.size size (P W) (some ⟨g, 0, none⟩) l := by
  obtain ⟨f, h1, h2, h3, h4⟩ := h.h
  exact .inr ⟨g, rfl, hg, h.uf, f, h1, by rw [hl]; exact h2, by rw [hl]; exact h3, fun k hk => h4 k hk (by omega)⟩
theorem CpI.next {w w1 W V U : World} {g n size : Nat} {α : Type} {P : World → α → Nat → Nat → Nat → Nat → Prop} {l : List α} {k : Nat} (h : CpI w w1 g n size P l k W) (hk : k < n) (hkl : k < l.length) (hV : Below W.heap.size W V) (hUs : U.heap.size = V.heap.size) (hUo : ∀ j, j ≠ g → U.heap[j]? = V.heap[j]?) (hUc : ∀ j, j < k * size ∨ k * size + size ≤ j → U.cell? ⟨g, j, none⟩ = V.cell? ⟨g, j, none⟩) (hUu : Uf V g → Uf U g) (hUb : Below w.heap.size w U)
    (hP : P U l[k] g (k * size) W.heap.size V.heap.size) (hm : ∀ a b a' b', a' ≤ a → b ≤ b' → P U l[k] g (k * size) a b → P U l[k] g (k * size) a' b')
    (hs : ∀ (x : α) (j a b : Nat), g < a → b ≤ W.heap.size → j < k → P W x g (j * size) a b → (∀ q, q < size → U.cell? ⟨g, j * size + q, none⟩ = W.cell? ⟨g, j * size + q, none⟩) → (∀ m, a ≤ m → m < b → U.heap[m]? = W.heap[m]?) → P U x g (j * size) a b) : CpI w w1 g n size P l (k + 1) U := by
  obtain ⟨f, h1, h2, h3, h4⟩ := h.h
  have hgW : g < W.heap.size := h.uf.lt
  have hcg : ∀ j, V.cell? ⟨g, j, none⟩ = W.cell? ⟨g, j, none⟩ := fun j => cell_of_block (hV.block g hgW) j
  have hle : ∀ j, j ≤ k → f j ≤ f k := fun j hj => step_le h2 j k hj (Nat.le_refl _)
  refine ⟨hk, ⟨fun j => if j ≤ k then f j else V.heap.size, ?_, ?_, ?_, ?_⟩, fun j hj => ?_, hUu (h.uf.same (hV.block g hgW)), ?_⟩
  · simpa using h1
  · intro j hj
    by_cases e : j = k
    · subst e
      simp only [Nat.le_refl, if_true, show ¬ j + 1 ≤ j by omega, if_false]
      exact Nat.le_trans h3 hV.size
    · simp only [show j ≤ k by omega, show j + 1 ≤ k by omega, if_true]
      exact h2 j (by omega)
  · simp only [show ¬ k + 1 ≤ k by omega, if_false]
    rw [hUs]; exact Nat.le_refl _
  · intro j hj hjk
    by_cases e : j = k
    · subst e
      simp only [Nat.le_refl, if_true, show ¬ j + 1 ≤ j by omega, if_false]
      exact hm _ _ _ _ h3 (Nat.le_refl _) hP
    · simp only [show j ≤ k by omega, show j + 1 ≤ k by omega, if_true]
      have hb1 : f (j + 1) ≤ W.heap.size := Nat.le_trans (hle (j + 1) (by omega)) h3
      have ha1 : g < f j := Nat.lt_of_lt_of_le h1 (step_le h2 0 j (by omega) (by omega))
      refine hs _ j _ _ ha1 hb1 (by omega) (h4 j hj (by omega)) (fun q hq => ?_) (fun m hm1 hm2 => ?_)
      · have hx : (j + 1) * size ≤ k * size := Nat.mul_le_mul_right _ (by omega)
        rw [Nat.add_mul, Nat.one_mul] at hx
        exact (hUc _ (.inl (by omega))).trans (hcg _)
      · exact (hUo m (by omega)).trans (hV.block m (by omega))
  · rw [Nat.add_mul, Nat.one_mul] at hj
    exact ((hUc j (.inr (by omega))).trans (hcg j)).trans (h.rest j (by omega))
  · exact hUb
/-- What the copy of a row is. -/
def CrPost (w : World) {α : Type} (size : Nat) (P : World → α → Nat → Nat → Nat → Nat → Prop) (l : List α) (n : Nat) (r : Ending) (w' : World) : Prop := ∃ o' c', r = .returned (.slice o' n c') ∧ OwRow w' w.heap.size w'.heap.size size (P w') o' l ∧ Below w.heap.size w w'
set_option maxRecDepth 100000 in
set_option maxHeartbeats 4000000 in
theorem copiedExprs_c (d : Nat) (ih : CpyOK d) (l : List (Tr d)) (o : Option Addr) (cap B : Nat) (w : World) (hl : RowIn B 7 (fun (x : Tr d) g off => ExAt w B d x g off) o l) (hw : B ≤ w.heap.size) (hn : l.length ≤ 2000000) (hF : ∀ x ∈ l, Fit d x) :
    Calls Tryz.prog 56 #[.slice o l.length cap] w fun r w' => CrPost w 7 (fun W => OwEx W d) l l.length r w' := by
  by_cases hl0 : l = []
  · subst hl0
    have HZ : Hid (Calls Tryz.prog 104 #[.slice o 0 cap] w fun r w' => ClZero w r w') := cloneExpr_zero o cap w
    clear hl hw hn hF ih
    show Calls Tryz.prog 56 #[.slice o 0 cap] w _
    go_enter Tryz.func56, Tryz.ntmps56
    go_wp2_with (go_at_call 104; fail)
    refine HZ.out.mono ?_
    rintro e w1 ⟨o1, c1, rfl, hb1⟩
    have HB1 : Hid (Below w.heap.size w w1) := hb1
    clear hb1
    go_wp2
    go_loopw [8] (fun v wr => v = .int .i64 0 ∧ wr = w1) (fun v _ => 0)
    case atStart => exact ⟨rfl, rfl⟩
    case round =>
      obtain ⟨rfl, rfl⟩ := hrel
      go_wp2
      go_ret
      exact ⟨o1, c1, rfl, .inl rfl, HB1.out⟩
  · obtain ⟨g0, off, rfl, hg0, hE⟩ : ∃ g off, o = some ⟨g, off, none⟩ ∧ g < B ∧ ∀ k (h : k < l.length), ExAt w B d l[k] g (off + k * 7) := by
      rcases hl with h | h
      · exact absurd h hl0
      · exact h
    obtain ⟨n, hln⟩ : ∃ n, l.length = n := ⟨_, rfl⟩
    have HCl : Hid (Calls Tryz.prog 104 #[.slice (some ⟨g0, off, none⟩) n cap] w fun r w' => ClPost w g0 off n 7 r w') := cloneExpr_c g0 off n cap w (by omega) (row_cells (α := Tr d) (by decide) (fun k hk => ex_cells (hE k (by omega))))
    have HE : Hid (l.length = n ∧ B ≤ w.heap.size ∧ g0 < B ∧ (∀ x ∈ l, Fit d x) ∧ ∀ k (h : k < l.length), ExAt w B d l[k] g0 (off + k * 7)) := ⟨hln, hw, hg0, hF, hE⟩
    have HIh : Hid (CpyOK d) := ih
    have hni : (n : Int) ≤ 2000000 := by omega
    rw [hln]
    clear hl hw hn hF hE hln hg0 hl0 ih
    go_enter Tryz.func56, Tryz.ntmps56
    go_wp2_with (go_at_call 104; fail)
    refine HCl.out.mono ?_
    rintro e w1 ⟨g, c1, rfl, hg1, hg2, hu1, hc1, hb1⟩
    have H1 : Hid (w.heap.size ≤ g ∧ g < w1.heap.size ∧ (∀ j, j < n * 7 → w1.cell? ⟨g, j, none⟩ = w.cell? ⟨g0, off + j, none⟩)) := ⟨hg1, hg2, hc1⟩
    have HS : Hid (CpI w w1 g n 7 (fun W => OwEx W d) l 0 w1) := CpI.start hg2 hu1 hb1
    clear hg1 hg2 hu1 hc1 hb1 HCl
    go_wp2
    go_loopw [8] (fun v wr => ∃ k : Nat, v = .int .i64 (k : Int) ∧ Hid (CpI w w1 g n 7 (fun W => OwEx W d) l k wr)) (fun v _ => n - (intOf v).toNat)
    case atStart => exact ⟨0, rfl, HS.out⟩
    case round =>
      clear HS
      obtain ⟨k, rfl, HI⟩ := hrel
      by_cases hk : k < n
      · have hkl : k < l.length := by rw [HE.out.1]; exact hk
        have hki : (k : Int) < (n : Int) := by omega
        have hgr : g < wr.heap.size := HI.out.uf.lt
        have hEx : ExAt wr (g + 1) d l[k] g (k * 7) := by
          obtain ⟨e1, e2, e3, e4, e5⟩ := HE.out
          have hbb := HI.out.b
          refine ExAt.moved (fun g off hg => cell_of_block (hbb.block g (by omega)) off) (by have := H1.out.1; omega) (e5 k hkl) (by omega) (fun q hq => ?_)
          rw [HI.out.rest _ (by omega), H1.out.2.2 _ (by omega)]
          congr 2
          omega
        have HC : Hid (Calls Tryz.prog 31 #[.pointer (some ⟨g, k * 7, none⟩)] wr fun r w' => ∃ v, r = .returned v ∧ OwV w' d l[k] v wr.heap.size w'.heap.size ∧ Below wr.heap.size wr w') := HIh.out l[k] (g + 1) g (k * 7) wr hEx hgr (HE.out.2.2.2.1 _ (List.getElem_mem hkl))
        have HCe : Hid (∀ q, q < 7 → ∃ x, wr.cell? ⟨g, k * 7 + q, none⟩ = some x) := fun q hq => by obtain ⟨u, hu, -⟩ := ex_cells hEx q hq; exact ⟨u, hu⟩
        obtain ⟨tk, htk⟩ : ∃ tk, l[k] = tk := ⟨_, rfl⟩
        rw [htk] at HC
        have HK : Hid (k < n ∧ ∃ h : k < l.length, l[k] = tk) := ⟨hk, hkl, htk⟩
        clear hEx hk htk hkl
        go_wp2_with (go_at_call 31; fail)
        refine HC.out.mono ?_
        rintro e V ⟨v, rfl, hv, hV⟩
        have hcg : ∀ j, V.cell? ⟨g, j, none⟩ = wr.cell? ⟨g, j, none⟩ := fun j => cell_of_block (hV.block g hgr) j
        obtain ⟨k0, n1, m2, o3, l3, c3, o4, l4, c4, o5, l5, c5, o6, l6, c6, rfl, hO⟩ := hv.stored g (k * 7) hgr (fun q hq => by rw [hcg]; exact HCe.out q hq)
        have HO : Hid (OwEx (st7 V g (k * 7) (.int .i64 k0) (.string n1) (.int .i64 m2) (.slice o3 l3 c3) (.slice o4 l4 c4) (.slice o5 l5 c5) (.slice o6 l6 c6)) d tk g (k * 7) wr.heap.size V.heap.size ∧ Below wr.heap.size wr V) := ⟨hO, hV⟩
        obtain ⟨x0, y0⟩ := HCe.out 0 (by omega)
        obtain ⟨x1, y1⟩ := HCe.out 1 (by omega)
        obtain ⟨x2, y2⟩ := HCe.out 2 (by omega)
        obtain ⟨x3, y3⟩ := HCe.out 3 (by omega)
        obtain ⟨x4, y4⟩ := HCe.out 4 (by omega)
        obtain ⟨x5, y5⟩ := HCe.out 5 (by omega)
        obtain ⟨x6, y6⟩ := HCe.out 6 (by omega)
        rw [← hcg] at y0 y1 y2 y3 y4 y5 y6
        rw [Nat.add_zero] at y0
        have huV : Uf V g := HI.out.uf.same (hV.block g hgr)
        have f0 := huV.frozen (k * 7)
        have f1 := huV.frozen (k * 7 + 1)
        have f2 := huV.frozen (k * 7 + 2)
        have f3 := huV.frozen (k * 7 + 3)
        have f4 := huV.frozen (k * 7 + 4)
        have f5 := huV.frozen (k * 7 + 5)
        have f6 := huV.frozen (k * 7 + 6)
        have hgV : g < V.heap.size := huV.lt
        clear hv hO hV hcg huV HC
        go_wp2
        refine ⟨⟨k + 1, by congr 1, ?_⟩, ?_⟩
        · obtain ⟨hk, hkl, htk⟩ := HK.out
          have hU : CpI w w1 g n 7 (fun W => OwEx W d) l (k + 1) (st7 V g (k * 7) (.int .i64 k0) (.string n1) (.int .i64 m2) (.slice o3 l3 c3) (.slice o4 l4 c4) (.slice o5 l5 c5) (.slice o6 l6 c6)) := HI.out.next hk hkl HO.out.2 (st7_size _ _ _ _ _ _ _ _ _ _) (fun j hj => st7_other _ _ _ _ _ _ _ _ _ _ _ hj) (fun j hj => st7_cell _ _ _ _ _ _ _ _ _ _ _ hj) (fun h => st7_uf h _ _ _ _ _ _ _ _ _) (st7_below (HI.out.b.trans (HO.out.2.mono HI.out.b.size)) _ _ H1.out.1 _ _ _ _ _ _ _) (by rw [htk]; exact HO.out.1) (fun a b a' b' h1 h2 h => h.mono h1 h2) (fun x j a b h1 h2 h3 h4 h5 h6 => OwEx.same d x g _ a b h4 h5 h6)
          exact hU
        · show n - ((k : Int) + 1).toNat < n - ((k : Int)).toNat
          have := HK.out.1; omega
      · have hki : ¬ (k : Int) < (n : Int) := by omega
        have hkn : k = n := by have := HI.out.le; omega
        clear hk
        go_wp2
        go_ret
        subst hkn
        exact ⟨_, c1, rfl, HI.out.done HE.out.1 H1.out.1, HI.out.b⟩
end Go.Proofs.YtegdloenakachaaGreatDoor

namespace Go.Proofs.YtegdloenakachaaGreatDoor
open Go.RowKit Go.Shelf Go.Maps
set_option linter.unusedVariables false

set_option maxRecDepth 100000 in
set_option maxHeartbeats 4000000 in
theorem copiedBinds_c (d : Nat) (ih : CpyOK d) (l : List (ByteArray × Tr d)) (o : Option Addr) (cap B : Nat) (w : World) (hl : RowIn B 8 (fun (b : ByteArray × Tr d) g off => w.cell? ⟨g, off, none⟩ = some (.string b.1) ∧ ExAt w B d b.2 g (off + 1)) o l) (hw : B ≤ w.heap.size) (hn : l.length ≤ 2000000) (hF : ∀ x ∈ l, Fit d x.2) :
    Calls Tryz.prog 55 #[.slice o l.length cap] w fun r w' => CrPost w 8 (fun W => OwBd W d) l l.length r w' := by
  by_cases hl0 : l = []
  · subst hl0
    have HZ : Hid (Calls Tryz.prog 103 #[.slice o 0 cap] w fun r w' => ClZero w r w') := cloneBind_zero o cap w
    clear hl hw hn hF ih
    show Calls Tryz.prog 55 #[.slice o 0 cap] w _
    go_enter Tryz.func55, Tryz.ntmps55
    go_wp2_with (go_at_call 103; fail)
    refine HZ.out.mono ?_
    rintro e w1 ⟨o1, c1, rfl, hb1⟩
    have HB1 : Hid (Below w.heap.size w w1) := hb1
    clear hb1
    go_wp2
    go_loopw [8] (fun v wr => v = .int .i64 0 ∧ wr = w1) (fun v _ => 0)
    case atStart => exact ⟨rfl, rfl⟩
    case round =>
      obtain ⟨rfl, rfl⟩ := hrel
      go_wp2
      go_ret
      exact ⟨o1, c1, rfl, .inl rfl, HB1.out⟩
  · obtain ⟨g0, off, rfl, hg0, hE⟩ : ∃ g off, o = some ⟨g, off, none⟩ ∧ g < B ∧ ∀ k (h : k < l.length), w.cell? ⟨g, off + k * 8, none⟩ = some (.string l[k].1) ∧ ExAt w B d l[k].2 g (off + k * 8 + 1) := by
      rcases hl with h | h
      · exact absurd h hl0
      · exact h
    obtain ⟨n, hln⟩ : ∃ n, l.length = n := ⟨_, rfl⟩
    have HCl : Hid (Calls Tryz.prog 103 #[.slice (some ⟨g0, off, none⟩) n cap] w fun r w' => ClPost w g0 off n 8 r w') := cloneBind_c g0 off n cap w (by omega) (row_cells (α := Tr d) (by decide) (fun k hk => bd_cells (hE k (by omega))))
    have HE : Hid (l.length = n ∧ B ≤ w.heap.size ∧ g0 < B ∧ (∀ x ∈ l, Fit d x.2) ∧ ∀ k (h : k < l.length), w.cell? ⟨g0, off + k * 8, none⟩ = some (.string l[k].1) ∧ ExAt w B d l[k].2 g0 (off + k * 8 + 1)) := ⟨hln, hw, hg0, hF, hE⟩
    have HIh : Hid (CpyOK d) := ih
    have hni : (n : Int) ≤ 2000000 := by omega
    rw [hln]
    clear hl hw hn hF hE hln hg0 hl0 ih
    go_enter Tryz.func55, Tryz.ntmps55
    go_wp2_with (go_at_call 103; fail)
    refine HCl.out.mono ?_
    rintro e w1 ⟨g, c1, rfl, hg1, hg2, hu1, hc1, hb1⟩
    have H1 : Hid (w.heap.size ≤ g ∧ g < w1.heap.size ∧ (∀ j, j < n * 8 → w1.cell? ⟨g, j, none⟩ = w.cell? ⟨g0, off + j, none⟩)) := ⟨hg1, hg2, hc1⟩
    have HS : Hid (CpI w w1 g n 8 (fun W => OwBd W d) l 0 w1) := CpI.start hg2 hu1 hb1
    clear hg1 hg2 hu1 hc1 hb1 HCl
    go_wp2
    go_loopw [8] (fun v wr => ∃ k : Nat, v = .int .i64 (k : Int) ∧ Hid (CpI w w1 g n 8 (fun W => OwBd W d) l k wr)) (fun v _ => n - (intOf v).toNat)
    case atStart => exact ⟨0, rfl, HS.out⟩
    case round =>
      clear HS
      obtain ⟨k, rfl, HI⟩ := hrel
      by_cases hk : k < n
      · have hkl : k < l.length := by rw [HE.out.1]; exact hk
        have hki : (k : Int) < (n : Int) := by omega
        have hgr : g < wr.heap.size := HI.out.uf.lt
        have hEx : ExAt wr (g + 1) d l[k].2 g (k * 8 + 1) := by
          obtain ⟨e1, e2, e3, e4, e5⟩ := HE.out
          have hbb := HI.out.b
          refine ExAt.moved (fun g off hg => cell_of_block (hbb.block g (by omega)) off) (by have := H1.out.1; omega) (e5 k hkl).2 (by omega) (fun q hq => ?_)
          rw [HI.out.rest _ (by omega), H1.out.2.2 _ (by omega)]
          congr 2
          omega
        have HC : Hid (Calls Tryz.prog 31 #[.pointer (some ⟨g, k * 8 + 1, none⟩)] wr fun r w' => ∃ v, r = .returned v ∧ OwV w' d l[k].2 v wr.heap.size w'.heap.size ∧ Below wr.heap.size wr w') := HIh.out l[k].2 (g + 1) g (k * 8 + 1) wr hEx hgr (HE.out.2.2.2.1 _ (List.getElem_mem hkl))
        have HCe : Hid (∀ q, q < 7 → ∃ x, wr.cell? ⟨g, k * 8 + 1 + q, none⟩ = some x) := fun q hq => by obtain ⟨u, hu, -⟩ := ex_cells hEx q hq; exact ⟨u, hu⟩
        have hnm : wr.cell? ⟨g, k * 8, none⟩ = some (.string l[k].1) := by
          obtain ⟨e1, e2, e3, e4, e5⟩ := HE.out
          rw [HI.out.rest _ (by omega), H1.out.2.2 _ (by omega)]
          exact (e5 k hkl).1
        obtain ⟨tk, htk⟩ : ∃ tk, l[k].2 = tk := ⟨_, rfl⟩
        rw [htk] at HC
        have HK : Hid (k < n ∧ ∃ h : k < l.length, l[k].2 = tk ∧ wr.cell? ⟨g, k * 8, none⟩ = some (.string l[k].1)) := ⟨hk, hkl, htk, hnm⟩
        clear hEx hk htk hnm hkl
        go_wp2_with (go_at_call 31; fail)
        refine HC.out.mono ?_
        rintro e V ⟨v, rfl, hv, hV⟩
        have hcg : ∀ j, V.cell? ⟨g, j, none⟩ = wr.cell? ⟨g, j, none⟩ := fun j => cell_of_block (hV.block g hgr) j
        obtain ⟨k0, n1, m2, o3, l3, c3, o4, l4, c4, o5, l5, c5, o6, l6, c6, rfl, hO⟩ := hv.stored g (k * 8 + 1) hgr (fun q hq => by rw [hcg]; exact HCe.out q hq)
        have HO : Hid (OwEx (st7 V g (k * 8 + 1) (.int .i64 k0) (.string n1) (.int .i64 m2) (.slice o3 l3 c3) (.slice o4 l4 c4) (.slice o5 l5 c5) (.slice o6 l6 c6)) d tk g (k * 8 + 1) wr.heap.size V.heap.size ∧ Below wr.heap.size wr V) := ⟨hO, hV⟩
        obtain ⟨x0, y0⟩ := HCe.out 0 (by omega)
        obtain ⟨x1, y1⟩ := HCe.out 1 (by omega)
        obtain ⟨x2, y2⟩ := HCe.out 2 (by omega)
        obtain ⟨x3, y3⟩ := HCe.out 3 (by omega)
        obtain ⟨x4, y4⟩ := HCe.out 4 (by omega)
        obtain ⟨x5, y5⟩ := HCe.out 5 (by omega)
        obtain ⟨x6, y6⟩ := HCe.out 6 (by omega)
        rw [← hcg] at y0 y1 y2 y3 y4 y5 y6
        simp only [Nat.add_assoc, Nat.reduceAdd] at y0 y1 y2 y3 y4 y5 y6
        have huV : Uf V g := HI.out.uf.same (hV.block g hgr)
        have f0 := huV.frozen (k * 8 + 1)
        have f1 := huV.frozen (k * 8 + 2)
        have f2 := huV.frozen (k * 8 + 3)
        have f3 := huV.frozen (k * 8 + 4)
        have f4 := huV.frozen (k * 8 + 5)
        have f5 := huV.frozen (k * 8 + 6)
        have f6 := huV.frozen (k * 8 + 7)
        have hgV : g < V.heap.size := huV.lt
        clear hv hO hV hcg huV HC
        go_wp2
        refine ⟨⟨k + 1, by congr 1, ?_⟩, ?_⟩
        · obtain ⟨hk, hkl, htk, hnm⟩ := HK.out
          have hgr2 := HI.out.uf.lt
          have hU : CpI w w1 g n 8 (fun W => OwBd W d) l (k + 1) (st7 V g (k * 8 + 1) (.int .i64 k0) (.string n1) (.int .i64 m2) (.slice o3 l3 c3) (.slice o4 l4 c4) (.slice o5 l5 c5) (.slice o6 l6 c6)) := HI.out.next hk hkl HO.out.2 (st7_size _ _ _ _ _ _ _ _ _ _) (fun j hj => st7_other _ _ _ _ _ _ _ _ _ _ _ hj) (fun j hj => st7_cell _ _ _ _ _ _ _ _ _ _ _ (by omega)) (fun h => st7_uf h _ _ _ _ _ _ _ _ _) (st7_below (HI.out.b.trans (HO.out.2.mono HI.out.b.size)) _ _ H1.out.1 _ _ _ _ _ _ _) ⟨((st7_cell _ _ _ _ _ _ _ _ _ _ _ (by omega)).trans (cell_of_block (HO.out.2.block g hgr2) _)).trans hnm, by rw [htk]; exact HO.out.1⟩ (fun a b a' b' h1 h2 h => ⟨h.1, h.2.mono h1 h2⟩) (fun x j a b h1 h2 h3 h4 h5 h6 => ⟨(h5 0 (by omega)).trans h4.1, OwEx.same d x.2 g _ a b h4.2 (fun q hq => by have := h5 (1 + q) (by omega); rw [← Nat.add_assoc] at this; exact this) h6⟩)
          exact hU
        · show n - ((k : Int) + 1).toNat < n - ((k : Int)).toNat
          have := HK.out.1; omega
      · have hki : ¬ (k : Int) < (n : Int) := by omega
        have hkn : k = n := by have := HI.out.le; omega
        clear hk
        go_wp2
        go_ret
        subst hkn
        exact ⟨_, c1, rfl, HI.out.done HE.out.1 H1.out.1, HI.out.b⟩
end Go.Proofs.YtegdloenakachaaGreatDoor

namespace Go.Proofs.YtegdloenakachaaGreatDoor
open Go.RowKit Go.Shelf Go.Maps
set_option linter.unusedVariables false

/-- What a copy of texts is. -/
def TxPost (w : World) (l : List ByteArray) (n : Nat) (r : Ending) (w' : World) : Prop := ∃ o' c', r = .returned (.slice o' n c') ∧ OwTx w' w.heap.size w'.heap.size o' l ∧ Below w.heap.size w w'
theorem cloneTx_c (l : List ByteArray) (o : Option Addr) (c B : Nat) (w : World) (h : TxIn w B o l) (hn : l.length ≤ 2000000) : Calls Tryz.prog 54 #[.slice o l.length c] w fun r w' => TxPost w l l.length r w' := by
  rcases h with rfl | ⟨g, off, rfl, hg, hc⟩
  · refine (cloneTxt_zero o c w).mono ?_
    rintro r w' ⟨o', c', rfl, hb⟩
    exact ⟨o', c', rfl, .inl rfl, hb⟩
  · refine (cloneTxt_c g off l.length c w hn (fun j hj => ⟨_, hc j (by omega), rfl⟩)).mono ?_
    rintro r w' ⟨g', c', rfl, h1, h2, h3, h4, h5⟩
    exact ⟨_, c', rfl, .inr ⟨g', rfl, h1, h2, h3, fun k hk => (h4 k (by omega)).trans (hc k hk)⟩, h5⟩
theorem CpI.next2 {w w1 W U : World} {g n size : Nat} {α : Type} {P : World → α → Nat → Nat → Nat → Nat → Prop} {l : List α} {k : Nat} (h : CpI w w1 g n size P l k W) (hk : k < n) (hkl : k < l.length) (hsz : W.heap.size ≤ U.heap.size) (hUo : ∀ j, j < W.heap.size → j ≠ g → U.heap[j]? = W.heap[j]?) (hUc : ∀ j, j < k * size ∨ k * size + size ≤ j → U.cell? ⟨g, j, none⟩ = W.cell? ⟨g, j, none⟩) (hUu : Uf U g) (hUb : Below w.heap.size w U)
    (hP : P U l[k] g (k * size) W.heap.size U.heap.size) (hm : ∀ a b a' b', a' ≤ a → b ≤ b' → P U l[k] g (k * size) a b → P U l[k] g (k * size) a' b')
    (hs : ∀ (x : α) (j a b : Nat), g < a → b ≤ W.heap.size → j < k → P W x g (j * size) a b → (∀ q, q < size → U.cell? ⟨g, j * size + q, none⟩ = W.cell? ⟨g, j * size + q, none⟩) → (∀ m, a ≤ m → m < b → U.heap[m]? = W.heap[m]?) → P U x g (j * size) a b) : CpI w w1 g n size P l (k + 1) U := by
  obtain ⟨f, h1, h2, h3, h4⟩ := h.h
  have hgW : g < W.heap.size := h.uf.lt
  have hle : ∀ j, j ≤ k → f j ≤ f k := fun j hj => step_le h2 j k hj (Nat.le_refl _)
  refine ⟨hk, ⟨fun j => if j ≤ k then f j else U.heap.size, ?_, ?_, ?_, ?_⟩, fun j hj => ?_, hUu, hUb⟩
  · simpa using h1
  · intro j hj
    by_cases e : j = k
    · subst e
      simp only [Nat.le_refl, if_true, show ¬ j + 1 ≤ j by omega, if_false]
      exact Nat.le_trans h3 hsz
    · simp only [show j ≤ k by omega, show j + 1 ≤ k by omega, if_true]
      exact h2 j (by omega)
  · simp only [show ¬ k + 1 ≤ k by omega, if_false]
    exact Nat.le_refl _
  · intro j hj hjk
    by_cases e : j = k
    · subst e
      simp only [Nat.le_refl, if_true, show ¬ j + 1 ≤ j by omega, if_false]
      exact hm _ _ _ _ h3 (Nat.le_refl _) hP
    · simp only [show j ≤ k by omega, show j + 1 ≤ k by omega, if_true]
      have hb1 : f (j + 1) ≤ W.heap.size := Nat.le_trans (hle (j + 1) (by omega)) h3
      have ha1 : g < f j := Nat.lt_of_lt_of_le h1 (step_le h2 0 j (by omega) (by omega))
      refine hs _ j _ _ ha1 hb1 (by omega) (h4 j hj (by omega)) (fun q hq => ?_) (fun m hm1 hm2 => hUo m (by omega) (by omega))
      have hx : (j + 1) * size ≤ k * size := Nat.mul_le_mul_right _ (by omega)
      rw [Nat.add_mul, Nat.one_mul] at hx
      exact hUc _ (.inl (by omega))
  · rw [Nat.add_mul, Nat.one_mul] at hj
    exact (hUc j (.inr (by omega))).trans (h.rest j (by omega))
set_option maxRecDepth 100000 in
set_option maxHeartbeats 4000000 in
theorem copiedAlts_c (d : Nat) (ih : CpyOK d) (l : List (AltH × Tr d)) (o : Option Addr) (cap B : Nat) (w : World) (hl : RowIn B 11 (AltAt w B d) o l) (hw : B ≤ w.heap.size) (hn : l.length ≤ 2000000) (hF : ∀ x ∈ l, Fit d x.2 ∧ x.1.vars.length ≤ 2000000) :
    Calls Tryz.prog 57 #[.slice o l.length cap] w fun r w' => CrPost w 11 (fun W => OwAl W d) l l.length r w' := by
  by_cases hl0 : l = []
  · subst hl0
    have HZ : Hid (Calls Tryz.prog 105 #[.slice o 0 cap] w fun r w' => ClZero w r w') := cloneAlt_zero o cap w
    clear hl hw hn hF ih
    show Calls Tryz.prog 57 #[.slice o 0 cap] w _
    go_enter Tryz.func57, Tryz.ntmps57
    go_wp2_with (go_at_call 105; fail)
    refine HZ.out.mono ?_
    rintro e w1 ⟨o1, c1, rfl, hb1⟩
    have HB1 : Hid (Below w.heap.size w w1) := hb1
    clear hb1
    go_wp2
    go_loopw [8] (fun v wr => v = .int .i64 0 ∧ wr = w1) (fun v _ => 0)
    case atStart => exact ⟨rfl, rfl⟩
    case round =>
      obtain ⟨rfl, rfl⟩ := hrel
      go_wp2
      go_ret
      exact ⟨o1, c1, rfl, .inl rfl, HB1.out⟩
  · obtain ⟨g0, off, rfl, hg0, hE⟩ : ∃ g off, o = some ⟨g, off, none⟩ ∧ g < B ∧ ∀ k (h : k < l.length), AltAt w B d l[k] g (off + k * 11) := by
      rcases hl with h | h
      · exact absurd h hl0
      · exact h
    obtain ⟨n, hln⟩ : ∃ n, l.length = n := ⟨_, rfl⟩
    have HCl : Hid (Calls Tryz.prog 105 #[.slice (some ⟨g0, off, none⟩) n cap] w fun r w' => ClPost w g0 off n 11 r w') := cloneAlt_c g0 off n cap w (by omega) (row_cells (α := Tr d) (by decide) (fun k hk => al_cells (hE k (by omega))))
    have HE : Hid (l.length = n ∧ B ≤ w.heap.size ∧ g0 < B ∧ (∀ x ∈ l, Fit d x.2 ∧ x.1.vars.length ≤ 2000000) ∧ ∀ k (h : k < l.length), AltAt w B d l[k] g0 (off + k * 11)) := ⟨hln, hw, hg0, hF, hE⟩
    have HIh : Hid (CpyOK d) := ih
    have hni : (n : Int) ≤ 2000000 := by omega
    rw [hln]
    clear hl hw hn hF hE hln hg0 hl0 ih
    go_enter Tryz.func57, Tryz.ntmps57
    go_wp2_with (go_at_call 105; fail)
    refine HCl.out.mono ?_
    rintro e w1 ⟨g, c1, rfl, hg1, hg2, hu1, hc1, hb1⟩
    have H1 : Hid (w.heap.size ≤ g ∧ g < w1.heap.size ∧ (∀ j, j < n * 11 → w1.cell? ⟨g, j, none⟩ = w.cell? ⟨g0, off + j, none⟩)) := ⟨hg1, hg2, hc1⟩
    have HS : Hid (CpI w w1 g n 11 (fun W => OwAl W d) l 0 w1) := CpI.start hg2 hu1 hb1
    clear hg1 hg2 hu1 hc1 hb1 HCl
    go_wp2
    go_loopw [8] (fun v wr => ∃ k : Nat, v = .int .i64 (k : Int) ∧ Hid (CpI w w1 g n 11 (fun W => OwAl W d) l k wr)) (fun v _ => n - (intOf v).toNat)
    case atStart => exact ⟨0, rfl, HS.out⟩
    case round =>
      clear HS
      obtain ⟨k, rfl, HI⟩ := hrel
      by_cases hk : k < n
      · have hkl : k < l.length := by rw [HE.out.1]; exact hk
        have hki : (k : Int) < (n : Int) := by omega
        have hgr : g < wr.heap.size := HI.out.uf.lt
        have hcw : ∀ q, q < 11 → wr.cell? ⟨g, k * 11 + q, none⟩ = w.cell? ⟨g0, off + k * 11 + q, none⟩ := fun q hq => by
          rw [HI.out.rest _ (by omega), H1.out.2.2 _ (by omega), Nat.add_assoc]
        obtain ⟨a0, a1, a2, ⟨ov, cv, a3, tv⟩, hEk⟩ := HE.out.2.2.2.2 k hkl
        have hbb := HI.out.b
        have hsame : ∀ (W : World), Below w.heap.size w W → ∀ g off, g < B → W.cell? ⟨g, off, none⟩ = w.cell? ⟨g, off, none⟩ := fun W hW g off hg => cell_of_block (hW.block g (by have := HE.out.2.1; omega)) off
        have b3 : wr.cell? ⟨g, k * 11 + 3, none⟩ = some (.slice ov l[k].1.vars.length cv) := (hcw 3 (by omega)).trans a3
        obtain ⟨nv, hnv⟩ : ∃ nv, l[k].1.vars.length = nv := ⟨_, rfl⟩
        have HV : Hid (Calls Tryz.prog 54 #[.slice ov nv cv] wr fun r w' => TxPost wr l[k].1.vars nv r w') := by
          have := cloneTx_c l[k].1.vars ov cv B wr (tv.same (hsame wr hbb)) (HE.out.2.2.2.1 _ (List.getElem_mem hkl)).2
          rw [hnv] at this; exact this
        rw [hnv] at b3
        have f3 := HI.out.uf.frozen (k * 11 + 3)
        obtain ⟨A, hA⟩ : ∃ A, l[k] = A := ⟨_, rfl⟩
        have HK : Hid (k < n ∧ ∃ h : k < l.length, l[k] = A) := ⟨hk, hkl, hA⟩
        have HA : Hid (A.1.vars.length = nv ∧ wr.cell? ⟨g, k * 11, none⟩ = some (.int .i64 A.1.kind) ∧ wr.cell? ⟨g, k * 11 + 1, none⟩ = some (.string A.1.name) ∧ wr.cell? ⟨g, k * 11 + 2, none⟩ = some (.int .i64 A.1.num) ∧ wr.cell? ⟨g, k * 11 + 3, none⟩ = some (.slice ov nv cv) ∧ (∀ q, q < 7 → ∃ x, wr.cell? ⟨g, k * 11 + 4 + q, none⟩ = some x)) := by
          subst hA
          refine ⟨hnv, (hcw 0 (by omega)).trans a0, (hcw 1 (by omega)).trans a1, (hcw 2 (by omega)).trans a2, b3, fun q hq => ?_⟩
          obtain ⟨u, hu, -⟩ := ex_cells hEk q hq
          exact ⟨u, by rw [Nat.add_assoc, hcw _ (by omega), ← Nat.add_assoc]; exact hu⟩
        have HX : Hid (∀ U1 : World, U1.heap.size ≥ wr.heap.size → Below w.heap.size w U1 → (∀ q, q < 7 → U1.cell? ⟨g, k * 11 + 4 + q, none⟩ = wr.cell? ⟨g, k * 11 + 4 + q, none⟩) → Calls Tryz.prog 31 #[.pointer (some ⟨g, k * 11 + 4, none⟩)] U1 fun r w' => ∃ v, r = .returned v ∧ OwV w' d A.2 v U1.heap.size w'.heap.size ∧ Below U1.heap.size U1 w') := by
          intro U1 h1 h2 h3
          subst hA
          refine HIh.out l[k].2 (g + 1) g (k * 11 + 4) U1 ?_ (by omega) (HE.out.2.2.2.1 _ (List.getElem_mem hkl)).1
          refine ExAt.moved (hsame U1 h2) (by have := H1.out.1; have := HE.out.2.1; omega) hEk (by omega) (fun q hq => ?_)
          rw [h3 q hq, Nat.add_assoc, hcw _ (by omega), ← Nat.add_assoc]
        rw [hA] at HV
        clear hk hA hkl hcw a0 a1 a2 a3 tv hEk hbb hsame hnv
        go_wp2_with (go_at_call 54; fail)
        refine HV.out.mono ?_
        rintro e V ⟨o1, c2, rfl, hT, hV⟩
        have b3V : V.cell? ⟨g, k * 11 + 3, none⟩ = some (.slice ov nv cv) := (cell_of_block (hV.block g hgr) _).trans b3
        have f3V : V.frozen? ⟨g, k * 11 + 3, none⟩ = false := (frozen_of_block (hV.block g hgr) _).trans f3
        have hgV : g < V.heap.size := Nat.lt_of_lt_of_le hgr hV.size
        have HTV : Hid (OwTx V wr.heap.size V.heap.size o1 A.1.vars ∧ Below wr.heap.size wr V) := ⟨hT, hV⟩
        obtain ⟨U1, hU1⟩ : ∃ U1, V.setCell ⟨g, k * 11 + 3, none⟩ (.slice o1 nv c2) = U1 := ⟨_, rfl⟩
        have HU1 : Hid (V.setCell ⟨g, k * 11 + 3, none⟩ (.slice o1 nv c2) = U1) := hU1
        have HCp : Hid (Calls Tryz.prog 31 #[.pointer (some ⟨g, k * 11 + 4, none⟩)] (V.setCell ⟨g, k * 11 + 3, none⟩ (.slice o1 nv c2)) fun r w' => ∃ v, r = .returned v ∧ OwV w' d A.2 v U1.heap.size w'.heap.size ∧ Below U1.heap.size U1 w') := by
          show Calls _ _ _ _ _
          have hs : U1.heap.size = V.heap.size := by rw [← hU1, size_set7]
          rw [hU1]
          refine HX.out U1 (by rw [hs]; exact hV.size) (by rw [← hU1]; exact (HI.out.b.trans (hV.mono HI.out.b.size)).setCell (p := ⟨g, k * 11 + 3, none⟩) H1.out.1 _) (fun q hq => ?_)
          rw [← hU1, setCell_cell_other _ _ _ _ _ (by omega)]
          exact cell_of_block (hV.block g hgr) _
        clear hT hV b3 f3 HV HX hU1
        go_wp2_with (go_at_call 31; fail)
        refine HCp.out.mono ?_
        rintro e V2 ⟨v, rfl, hv, hV2⟩
        have hgU : g < U1.heap.size := by rw [← HU1.out, size_set7]; exact hgV
        have hcg : ∀ j, V2.cell? ⟨g, j, none⟩ = U1.cell? ⟨g, j, none⟩ := fun j => cell_of_block (hV2.block g hgU) j
        have HCe : Hid (∀ q, q < 7 → ∃ x, V2.cell? ⟨g, k * 11 + 4 + q, none⟩ = some x) := fun q hq => by
          rw [hcg, ← HU1.out, setCell_cell_other _ _ _ _ _ (by omega), cell_of_block (HTV.out.2.block g hgr) _]
          exact HA.out.2.2.2.2.2 q hq
        obtain ⟨k0, n1, m2, o3, l3, c3, o4, l4, c4, o5, l5, c5, o6, l6, c6, rfl, hO⟩ := hv.stored g (k * 11 + 4) hgU HCe.out
        have HO : Hid (OwEx (st7 V2 g (k * 11 + 4) (.int .i64 k0) (.string n1) (.int .i64 m2) (.slice o3 l3 c3) (.slice o4 l4 c4) (.slice o5 l5 c5) (.slice o6 l6 c6)) d A.2 g (k * 11 + 4) U1.heap.size V2.heap.size ∧ Below U1.heap.size U1 V2) := ⟨hO, hV2⟩
        obtain ⟨x0, y0⟩ := HCe.out 0 (by omega)
        obtain ⟨x1, y1⟩ := HCe.out 1 (by omega)
        obtain ⟨x2, y2⟩ := HCe.out 2 (by omega)
        obtain ⟨x3, y3⟩ := HCe.out 3 (by omega)
        obtain ⟨x4, y4⟩ := HCe.out 4 (by omega)
        obtain ⟨x5, y5⟩ := HCe.out 5 (by omega)
        obtain ⟨x6, y6⟩ := HCe.out 6 (by omega)
        simp only [Nat.add_assoc, Nat.reduceAdd] at y0 y1 y2 y3 y4 y5 y6
        have HuV : Hid (Uf V2 g) := ((HI.out.uf.same (HTV.out.2.block g hgr)).set g (k * 11 + 3) (.slice o1 nv c2)).same (by rw [HU1.out]; exact hV2.block g hgU)
        have f0 := HuV.out.frozen (k * 11 + 4)
        have f1 := HuV.out.frozen (k * 11 + 5)
        have f2 := HuV.out.frozen (k * 11 + 6)
        have f3 := HuV.out.frozen (k * 11 + 7)
        have f4 := HuV.out.frozen (k * 11 + 8)
        have f5 := HuV.out.frozen (k * 11 + 9)
        have f6 := HuV.out.frozen (k * 11 + 10)
        have hgV2 : g < V2.heap.size := HuV.out.lt
        clear hv hO hV2 hcg HCp b3V f3V HCe
        go_wp2
        refine ⟨⟨k + 1, by congr 1, ?_⟩, ?_⟩
        · obtain ⟨hk, hkl, hA⟩ := HK.out
          subst hA
          have hs1 : U1.heap.size = V.heap.size := by rw [← HU1.out, size_set7]
          have z1 := HTV.out.2.size
          have z2 := HO.out.2.size
          have hblk : ∀ j, j < wr.heap.size → j ≠ g → V2.heap[j]? = wr.heap[j]? := fun j hj hn => by
            rw [HO.out.2.block j (by omega), ← HU1.out, heap_set_other _ _ _ _ _ hn]; exact HTV.out.2.block j hj
          have hcl : ∀ j, j ≠ k * 11 + 3 → V2.cell? ⟨g, j, none⟩ = wr.cell? ⟨g, j, none⟩ := fun j hj => by
            rw [cell_of_block (HO.out.2.block g hgU) _, ← HU1.out, setCell_cell_other _ _ _ _ _ hj]; exact cell_of_block (HTV.out.2.block g hgr) _
          have h3 : V2.cell? ⟨g, k * 11 + 3, none⟩ = some (.slice o1 nv c2) := by
            rw [cell_of_block (HO.out.2.block g hgU) _, ← HU1.out]
            exact setCell_cell_same _ _ _ _ _ ((cell_of_block (HTV.out.2.block g hgr) _).trans HA.out.2.2.2.2.1)
          have hBw : Below w.heap.size w V2 := by
            have e1 : Below w.heap.size w U1 := by rw [← HU1.out]; exact (HI.out.b.trans (HTV.out.2.mono HI.out.b.size)).setCell (p := ⟨g, k * 11 + 3, none⟩) H1.out.1 _
            exact e1.trans (HO.out.2.mono e1.size)
          have hU : CpI w w1 g n 11 (fun W => OwAl W d) l (k + 1) (st7 V2 g (k * 11 + 4) (.int .i64 k0) (.string n1) (.int .i64 m2) (.slice o3 l3 c3) (.slice o4 l4 c4) (.slice o5 l5 c5) (.slice o6 l6 c6)) := by
            refine HI.out.next2 hk hkl (by rw [st7_size]; omega) (fun j hj hn => (st7_other _ _ _ _ _ _ _ _ _ _ _ hn).trans (hblk j hj hn)) (fun j hj => (st7_cell _ _ _ _ _ _ _ _ _ _ _ (by omega)).trans (hcl j (by omega))) (st7_uf HuV.out _ _ _ _ _ _ _ _ _) (st7_below hBw _ _ H1.out.1 _ _ _ _ _ _ _) ?_ (fun a b a' b' h1 h2 h => h.mono h1 h2) ?_
            · refine ⟨((st7_cell _ _ _ _ _ _ _ _ _ _ _ (by omega)).trans (hcl _ (by omega))).trans HA.out.2.1, ((st7_cell _ _ _ _ _ _ _ _ _ _ _ (by omega)).trans (hcl _ (by omega))).trans HA.out.2.2.1, ((st7_cell _ _ _ _ _ _ _ _ _ _ _ (by omega)).trans (hcl _ (by omega))).trans HA.out.2.2.2.1, V.heap.size, z1, by rw [st7_size]; omega, ⟨o1, c2, ?_, ?_⟩, ?_⟩
              · rw [HA.out.1]
                exact (st7_cell _ _ _ _ _ _ _ _ _ _ _ (by omega)).trans h3
              · refine HTV.out.1.same (fun j h1 h2 => ?_)
                rw [st7_other _ _ _ _ _ _ _ _ _ _ _ (by omega), HO.out.2.block j (by omega), ← HU1.out, heap_set_other _ _ _ _ _ (by omega)]
              · have h9 := HO.out.1
                rw [hs1] at h9
                rw [st7_size]
                exact h9
            · rintro x j a b h1 h2 h3 ⟨e1, e2, e3, m, q1, q2, ⟨o, c, e4, e5⟩, e6⟩ h5 h6
              refine ⟨(h5 0 (by omega)).trans e1, (h5 1 (by omega)).trans e2, (h5 2 (by omega)).trans e3, m, q1, q2, ⟨o, c, (h5 3 (by omega)).trans e4, e5.same (fun k h1 h2 => h6 k (by omega) (by omega))⟩, OwEx.same d _ _ _ _ _ e6 (fun q hq => ?_) (fun k h1 h2 => h6 k (by omega) (by omega))⟩
              have := h5 (4 + q) (by omega)
              rw [← Nat.add_assoc] at this; exact this
          exact hU
        · show n - ((k : Int) + 1).toNat < n - ((k : Int)).toNat
          have := HK.out.1; omega
      · have hki : ¬ (k : Int) < (n : Int) := by omega
        have hkn : k = n := by have := HI.out.le; omega
        clear hk
        go_wp2
        go_ret
        subst hkn
        exact ⟨_, c1, rfl, HI.out.done HE.out.1 H1.out.1, HI.out.b⟩
end Go.Proofs.YtegdloenakachaaGreatDoor
