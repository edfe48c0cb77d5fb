/-
  What stands in a name's place, by a contract: the walk.
  A variable, substituted, by a contract.
-/
import Derived.Test.YtegdloenakachaaGreatDoorCN21
namespace Go.Proofs.YtegdloenakachaaGreatDoor
open Go.RowKit Go.Shelf Go.Maps
set_option linter.unusedVariables false

theorem VlF.exVal {W : World} {F : Nat → Nat → Prop} {B d : Nat} {t : Tr (d + 1)} {v : Value} (h : VlF W F (d + 1) t v) (hB : ∀ g off, F g off → g < B) : ExVal W B d t v := by
  obtain ⟨o3, c3, o4, c4, o5, c5, o6, c6, e, k3, k4, k5, k6⟩ := h
  have tx : ∀ {o : Option Addr} {l : List ByteArray}, TxF W F o l → TxIn W B o l := by
    intro o l h
    rcases h with h | ⟨g, off, e, h⟩
    · exact .inl h
    · by_cases hl : l = []
      · exact .inl hl
      · exact .inr ⟨g, off, e, hB _ _ (h 0 (List.length_pos_iff.2 hl)).1, fun k hk => (h k hk).2⟩
  refine ⟨o3, c3, o4, c4, o5, c5, o6, c6, e, tx k3, ?_, ?_, ?_⟩
  · rcases k4 with h | ⟨g, off, e, h⟩
    · exact .inl h
    · by_cases hl : TrN.binds t = []
      · exact .inl hl
      · exact .inr ⟨g, off, e, hB _ _ (h 0 (List.length_pos_iff.2 hl)).1.1, fun k hk => ⟨(h k hk).1.2, ExF.at hB d _ _ _ (h k hk).2⟩⟩
  · rcases k5 with h | ⟨g, off, e, h⟩
    · exact .inl h
    · by_cases hl : TrN.args t = []
      · exact .inl hl
      · exact .inr ⟨g, off, e, (ExF.at hB d _ _ _ (h 0 (List.length_pos_iff.2 hl))).lt, fun k hk => ExF.at hB d _ _ _ (h k hk)⟩
  · rcases k6 with h | ⟨g, off, e, h⟩
    · exact .inl h
    · by_cases hl : TrN.alts t = []
      · exact .inl hl
      · refine .inr ⟨g, off, e, hB _ _ (h 0 (List.length_pos_iff.2 hl)).1.1, fun k hk => ?_⟩
        obtain ⟨e1, e2, e3, ⟨o, c, e4, e5⟩, e6⟩ := h k hk
        exact ⟨e1.2, e2.2, e3.2, ⟨o, c, e4.2, tx e5⟩, ExF.at hB d _ _ _ e6⟩
theorem OwEx.val {W : World} {d : Nat} {t : Tr d} {g off lo hi : Nat} (h : OwEx W d t g off lo hi) : ∃ (k0 : Int) (n1 : ByteArray) (m2 : Int) (o3 : Option Addr) (l3 c3 : Nat) (o4 : Option Addr) (l4 c4 : Nat) (o5 : Option Addr) (l5 c5 : Nat) (o6 : Option Addr) (l6 c6 : Nat), OwV W d t (.agg #[.int .i64 k0, .string n1, .int .i64 m2, .slice o3 l3 c3, .slice o4 l4 c4, .slice o5 l5 c5, .slice o6 l6 c6]) lo hi ∧ W.cell? ⟨g, off, none⟩ = some (.int .i64 k0) ∧ W.cell? ⟨g, off + 1, none⟩ = some (.string n1) ∧ W.cell? ⟨g, off + 2, none⟩ = some (.int .i64 m2) ∧ W.cell? ⟨g, off + 3, none⟩ = some (.slice o3 l3 c3) ∧ W.cell? ⟨g, off + 4, none⟩ = some (.slice o4 l4 c4) ∧ W.cell? ⟨g, off + 5, none⟩ = some (.slice o5 l5 c5) ∧ W.cell? ⟨g, off + 6, none⟩ = some (.slice o6 l6 c6) := by
  cases d with
  | zero => exact nomatch t
  | succ d =>
    obtain ⟨h0, h1, h2, m1, m2, m3, l1, l2, l3, l4, ⟨o3, c3, h3, k3⟩, ⟨o4, c4, h4, k4⟩, ⟨o5, c5, h5, k5⟩, ⟨o6, c6, h6, k6⟩⟩ := h
    exact ⟨_, _, _, o3, _, c3, o4, _, c4, o5, _, c5, o6, _, c6, ⟨m1, m2, m3, o3, c3, o4, c4, o5, c5, o6, c6, l1, l2, l3, l4, rfl, k3, k4, k5, k6⟩, h0, h1, h2, h3, h4, h5, h6⟩
section
variable {W : World} {P : SbP} {db : Nat} {b : Tr db} {F : List UInt8 → Bool} {L : List (List UInt8)} {c : Nat} {sc : Sc} {room : Int} {φ : List UInt8 → Nat} {cf last : Nat}
/-- A cell of a later block is written: the substitution stays. -/
theorem SbSt.setN (h : SbSt W P db b F L c sc room φ cf last) {g : Nat} (hg : P.S < g) (hu : Uf W g) (hg0 : 0 ≠ g) (j : Nat) (u : Value) : SbSt (W.setCell ⟨g, j, none⟩ u) P db b F L c sc room φ cf last := by
  have ho := h.ok
  have eb : ∀ k, k ≠ g → (W.setCell ⟨g, j, none⟩ u).heap[k]? = W.heap[k]? := fun k h => heap_set_other _ _ _ _ _ h
  have hsz : (W.setCell ⟨g, j, none⟩ u).heap.size = W.heap.size := size_set7 _ _ _
  have hSg : P.S ≠ g := by omega
  have e : ∀ o, (W.setCell ⟨g, j, none⟩ u).cell? ⟨P.S, o, none⟩ = W.cell? ⟨P.S, o, none⟩ := fun o => cell_of_block (eb _ hSg) o
  obtain ⟨c1, h1⟩ := h.fre
  obtain ⟨c2, h2⟩ := h.tak
  exact ⟨ho, h.gt.same (eb _ hg0) (by omega), h.g0, h.sc.keep (e _) (e _) (frozen_of_block (eb _ hSg) _) (eb _ (by have := ho.mS; omega)) (FrKeep.set hu _ _) (by omega), fun j => (frozen_of_block (eb _ hSg) j).trans (h.fz j), (e _).trans h.nm, OwEx.same db b _ _ _ _ h.by_ (fun q hq => e _) (fun k h1 h2 => eb k (by have := ho.hS; omega)), (e _).trans h.rm, (e _).trans h.c11, (e _).trans h.c12, (e _).trans h.c13, (e _).trans h.c14, ⟨c1, h1.same (eb _ (by have := ho.rS; omega))⟩, ⟨c2, h2.same (eb _ (by have := ho.tS; omega))⟩, h.fsh.same (eb _ (by have := ho.fS; omega))⟩
theorem SbSt.st7N (h : SbSt W P db b F L c sc room φ cf last) {g : Nat} (hg : P.S < g) (hu : Uf W g) (hg0 : 0 ≠ g) (off : Nat) (v0 v1 v2 v3 v4 v5 v6 : Value) : SbSt (st7 W g off v0 v1 v2 v3 v4 v5 v6) P db b F L c sc room φ cf last := by
  unfold st7
  exact ((((((h.setN hg hu hg0 _ _).setN hg (hu.set _ _ _) hg0 _ _).setN hg ((hu.set _ _ _).set _ _ _) hg0 _ _).setN hg (((hu.set _ _ _).set _ _ _).set _ _ _) hg0 _ _).setN hg ((((hu.set _ _ _).set _ _ _).set _ _ _).set _ _ _) hg0 _ _).setN hg (((((hu.set _ _ _).set _ _ _).set _ _ _).set _ _ _).set _ _ _) hg0 _ _).setN hg ((((((hu.set _ _ _).set _ _ _).set _ _ _).set _ _ _).set _ _ _).set _ _ _) hg0 _ _
theorem SbSt.st7T (h : SbSt W P db b F L c sc room φ cf last) {g : Nat} (hg : g < P.Z) (hu : Uf W g) (hg0 : 0 ≠ g) (off : Nat) (v0 v1 v2 v3 v4 v5 v6 : Value) : SbSt (st7 W g off v0 v1 v2 v3 v4 v5 v6) P db b F L c sc room φ cf last := by
  unfold st7
  exact ((((((h.setT hg hu hg0 _ _).setT hg (hu.set _ _ _) hg0 _ _).setT hg ((hu.set _ _ _).set _ _ _) hg0 _ _).setT hg (((hu.set _ _ _).set _ _ _).set _ _ _) hg0 _ _).setT hg ((((hu.set _ _ _).set _ _ _).set _ _ _).set _ _ _) hg0 _ _).setT hg (((((hu.set _ _ _).set _ _ _).set _ _ _).set _ _ _).set _ _ _) hg0 _ _).setT hg ((((((hu.set _ _ _).set _ _ _).set _ _ _).set _ _ _).set _ _ _).set _ _ _) hg0 _ _
end
theorem SbCh.setN {P : SbP} {w X : World} (h : SbCh P w X) {g : Nat} (hg : w.heap.size ≤ g) (j : Nat) (u : Value) : SbCh P w (X.setCell ⟨g, j, none⟩ u) := ⟨h.os, h.tape, h.output, by rw [size_set7]; exact h.size, fun k hk a1 a2 a3 => (heap_set_other _ _ _ _ _ (by omega)).trans (h.block k hk a1 a2 a3)⟩
theorem SbCh.st7N {P : SbP} {w X : World} (h : SbCh P w X) {g : Nat} (hg : w.heap.size ≤ g) (off : Nat) (v0 v1 v2 v3 v4 v5 v6 : Value) : SbCh P w (st7 X g off v0 v1 v2 v3 v4 v5 v6) := by
  unfold st7
  exact ((((((h.setN hg _ _).setN hg _ _).setN hg _ _).setN hg _ _).setN hg _ _).setN hg _ _).setN hg _ _
theorem placed_end {w w3 U : World} {P : SbP} {e : Nat} {b : Tr (e + 1)} {F : List UInt8 → Bool} {L : List (List UInt8)} {c : Nat} {sc : Sc} {room : Int} {φ : List UInt8 → Nat} {cf last : Nat} {K0 : Int} {N1 : ByteArray} {M2 : Int} {O3 O4 O5 O6 : Option Addr} {L3 C3 L4 C4 L5 C5 L6 C6 : Nat} (hv : OwV w3 (e + 1) b (.agg #[.int .i64 K0, .string N1, .int .i64 M2, .slice O3 L3 C3, .slice O4 L4 C4, .slice O5 L5 C5, .slice O6 L6 C6]) U.heap.size w3.heap.size) (hb3 : Below U.heap.size U w3) (k3 : Blk w3 w.heap.size #[.int .i64 0, .string ⟨#[]⟩, .int .i64 0, .slice none 0 0, .slice none 0 0, .slice none 0 0, .slice none 0 0] 31) (hstU : SbSt U P (e + 1) b F L c sc room φ cf last) (hchU : SbCh P w U) (hsw : w.heap.size < U.heap.size) (hSw : P.S < w.heap.size) (hg0 : 0 < w.heap.size) (hr1 : -1048576 ≤ room) (hr2 : room ≤ 1048576) :
    PlPost P (e + 1) b F L c sc φ cf last w (.returned (.agg #[.int .i64 K0, .string N1, .int .i64 M2, .slice O3 L3 C3, .slice O4 L4 C4, .slice O5 L5 C5, .slice O6 L6 C6])) (st7 w3 w.heap.size 0 (.int .i64 K0) (.string N1) (.int .i64 M2) (.slice O3 L3 C3) (.slice O4 L4 C4) (.slice O5 L5 C5) (.slice O6 L6 C6)) := by
  have hst3 := hstU.below hb3
  have hu3 : Uf w3 w.heap.size := k3.uf (by decide)
  have hne : 0 ≠ w.heap.size := by omega
  have h7 := hst3.st7N hSw hu3 hne 0 (.int .i64 K0) (.string N1) (.int .i64 M2) (.slice O3 L3 C3) (.slice O4 L4 C4) (.slice O5 L5 C5) (.slice O6 L6 C6)
  have h8 := hchU.trans (SbCh.below hb3)
  refine ⟨_, room, rfl, ?_, hr1, hr2, h7, ?_⟩
  · refine hv.vlF.mono (fun g off hg => ⟨.inr ⟨by omega, by rw [st7_size]; exact hg.2⟩, ?_⟩)
    exact cell_of_block (st7_other _ _ _ _ _ _ _ _ _ _ _ (by omega)) _
  · exact h8.st7N (Nat.le_refl _) _ _ _ _ _ _ _ _
set_option maxRecDepth 100000 in
set_option maxHeartbeats 4000000 in
theorem placed_c (P : SbP) (e : Nat) (b : Tr (e + 1)) (hFb : Fit (e + 1) b) (hsb : sizeM (e + 1) b ≤ 1048576) (hdb : e + 1 ≤ 4096) (F : List UInt8 → Bool) (L : List (List UInt8)) (c : Nat) (sc : Sc) (room : Int) (φ : List UInt8 → Nat) (cf last : Nat) (w : World) (h : SbSt w P (e + 1) b F L c sc room φ cf last) (hr1 : -1048576 ≤ room) (hr2 : room ≤ 1048576) :
    Calls Tryz.prog 113 #[.pointer (some ⟨P.S, 0, none⟩)] w fun r w' => PlPost P (e + 1) b F L c sc φ cf last w r w' := by
  have hdep : Tryz.prog.follows Departure.mixedOrders = true := by kernel_rfl
  have H0 : Hid (SbSt w P (e + 1) b F L c sc room φ cf last ∧ -1048576 ≤ room ∧ room ≤ 1048576) := ⟨h, hr1, hr2⟩
  obtain ⟨k0, n1, m2, o3, l3, c3, o4, l4, c4, o5, l5, c5, o6, l6, c6, hV, x1, x2, x3, x4, x5, x6, x7⟩ := OwEx.val h.by_
  have HVl : Hid (VlF w (fun k _ => P.lob ≤ k ∧ k < P.hib) (e + 1) b (.agg #[.int .i64 k0, .string n1, .int .i64 m2, .slice o3 l3 c3, .slice o4 l4 c4, .slice o5 l5 c5, .slice o6 l6 c6])) := hV.vlF
  have lS := h.lt
  have x8 := h.rm
  have y8 := h.fz 8
  have HFb : Hid (Fit (e + 1) b ∧ sizeM (e + 1) b ≤ 1048576 ∧ e + 1 ≤ 4096) := ⟨hFb, hsb, hdb⟩
  have HoK : Hid (P.hib ≤ P.S) := h.ok.hS
  obtain ⟨S, hS⟩ : ∃ S, P.S = S := ⟨_, rfl⟩
  have HS : Hid (P.S = S) := hS
  rw [hS] at lS x1 x2 x3 x4 x5 x6 x7 x8 y8 ⊢
  clear h hV hFb hsb hdb hS
  by_cases hr : room < 0
  · have hb := below1 w (.cells #[.int .i64 k0, .string n1, .int .i64 m2, .slice o3 l3 c3, .slice o4 l4 c4, .slice o5 l5 c5, .slice o6 l6 c6] 31)
    have HB : Hid (Below w.heap.size w (w.alloc (.cells #[.int .i64 k0, .string n1, .int .i64 m2, .slice o3 l3 c3, .slice o4 l4 c4, .slice o5 l5 c5, .slice o6 l6 c6] 31)) ∧ Blk (w.alloc (.cells #[.int .i64 k0, .string n1, .int .i64 m2, .slice o3 l3 c3, .slice o4 l4 c4, .slice o5 l5 c5, .slice o6 l6 c6] 31)) w.heap.size #[.int .i64 k0, .string n1, .int .i64 m2, .slice o3 l3 c3, .slice o4 l4 c4, .slice o5 l5 c5, .slice o6 l6 c6] 31) := ⟨hb, Blk.new w _ _⟩
    clear hb
    go_enter Tryz.func113, Tryz.ntmps113
    go_wp2
    (try simp only [Exit.inBlock, Exit.then])
    refine bodyPost_ret (results_cell_row rfl _ _ w.heap.size 31 _ _ _ rfl HB.out.2 Tryz.underlying31 rfl rfl) rfl ?_
    refine ⟨_, room, rfl, ?_, H0.out.2.1, H0.out.2.2, H0.out.1.below HB.out.1, SbCh.below HB.out.1⟩
    exact HVl.out.mono (fun g off hg => ⟨.inl hg, cell_of_block (HB.out.1.block g (by have := HoK.out; rw [HS.out] at this; omega)) off⟩)
  · obtain ⟨V, hV⟩ : ∃ V, w.alloc (.cells #[.int .i64 0, .string ⟨#[]⟩, .int .i64 0, .slice none 0 0, .slice none 0 0, .slice none 0 0, .slice none 0 0] 31) = V := ⟨_, rfl⟩
    have HEV : Hid (w.alloc (.cells #[.int .i64 0, .string ⟨#[]⟩, .int .i64 0, .slice none 0 0, .slice none 0 0, .slice none 0 0, .slice none 0 0] 31) = V) := hV
    have bV : Below w.heap.size w V := by rw [← hV]; exact below1 w _
    have HV : Hid (Below w.heap.size w V ∧ Blk V w.heap.size #[.int .i64 0, .string ⟨#[]⟩, .int .i64 0, .slice none 0 0, .slice none 0 0, .slice none 0 0, .slice none 0 0] 31 ∧ SbSt V P (e + 1) b F L c sc room φ cf last) := ⟨bV, by rw [← hV]; exact Blk.new w _ _, H0.out.1.below bV⟩
    obtain ⟨sz, hsz⟩ : ∃ sz, sizeM (e + 1) b = sz := ⟨_, rfl⟩
    have HSz : Hid (sizeM (e + 1) b = sz ∧ sz ≤ 1048576) := ⟨hsz, by rw [← hsz]; exact HFb.out.2.1⟩
    have HCs : Hid (∀ W, Below V.heap.size V W → Calls Tryz.prog 15 #[.agg #[.int .i64 k0, .string n1, .int .i64 m2, .slice o3 l3 c3, .slice o4 l4 c4, .slice o5 l5 c5, .slice o6 l6 c6]] W fun e w' => e = .returned (.int .i64 (sz : Int)) ∧ Below W.heap.size W w') := fun W hW => by
      have hbw : Below w.heap.size w W := HV.out.1.trans (hW.mono HV.out.1.size)
      have h1 : VlF W (fun k _ => P.lob ≤ k ∧ k < P.hib) (e + 1) b (.agg #[.int .i64 k0, .string n1, .int .i64 m2, .slice o3 l3 c3, .slice o4 l4 c4, .slice o5 l5 c5, .slice o6 l6 c6]) := HVl.out.mono (fun g off hg => ⟨hg, cell_of_block (hbw.block g (by have := HoK.out; rw [HS.out] at this; omega)) off⟩)
      have h9 := Size_c e b _ P.hib W (h1.exVal (fun g off hg => hg.2)) (by have := HoK.out; rw [HS.out] at this; have := hbw.size; omega) HFb.out.2.1 HFb.out.2.2
      rw [hsz] at h9
      exact h9
    have HAr : Hid (∀ W w2, Below V.heap.size V W → Below W.heap.size W w2 → Below V.heap.size V w2 ∧ S < w2.heap.size ∧ w2.frozen? ⟨S, 8, none⟩ = false ∧ w2.cell? ⟨S, 1, none⟩ = some (.int .i64 k0) ∧ w2.cell? ⟨S, 2, none⟩ = some (.string n1) ∧ w2.cell? ⟨S, 3, none⟩ = some (.int .i64 m2) ∧ w2.cell? ⟨S, 4, none⟩ = some (.slice o3 l3 c3) ∧ w2.cell? ⟨S, 5, none⟩ = some (.slice o4 l4 c4) ∧ w2.cell? ⟨S, 6, none⟩ = some (.slice o5 l5 c5) ∧ w2.cell? ⟨S, 7, none⟩ = some (.slice o6 l6 c6) ∧ w2.cell? ⟨S, 8, none⟩ = some (.int .i64 room)) := fun W w2 h1 h2 => by
      have h3 : Below V.heap.size V w2 := h1.trans (h2.mono h1.size)
      have h4 : Below w.heap.size w w2 := HV.out.1.trans (h3.mono HV.out.1.size)
      have eb := h4.block S lS
      exact ⟨h3, Nat.lt_of_lt_of_le lS h4.size, (frozen_of_block eb _).trans y8, (cell_of_block eb _).trans x1, (cell_of_block eb _).trans x2, (cell_of_block eb _).trans x3, (cell_of_block eb _).trans x4, (cell_of_block eb _).trans x5, (cell_of_block eb _).trans x6, (cell_of_block eb _).trans x7, (cell_of_block eb _).trans x8⟩
    obtain ⟨-, lV, v8, z1, z2, z3, z4, z5, z6, z7, z8⟩ := HAr.out V V (Below.refl _ _) (Below.refl _ _)
    have hri : (0 : Int) ≤ room := by omega
    have hrj : room ≤ 1048576 := H0.out.2.2
    have hsi : (sz : Int) ≤ 1048576 := by have := HSz.out.2; omega
    clear hV bV hsz x1 x2 x3 x4 x5 x6 x7 y8
    go_enter Tryz.func113, Tryz.ntmps113
    go_wp2
    rw [HEV.out]
    go_region_with (go_at_call 15; refine (HCs.out _ ((Below.refl _ V).drew)).mono ?_; rintro e9 w2 ⟨rfl, q2⟩; obtain ⟨p1, p2, p3, t1, t2, t3, t4, t5, t6, t7, t8⟩ := HAr.out _ w2 ((Below.refl _ V).drew) q2; have HP : Hid (Below V.heap.size V w2) := p1; clear q2 p1)
    all_goals
      have hwr : IntKind.i64.wrap (room - (sz : Int)) = room - (sz : Int) := by rw [IntKind.wrap_i64]; omega
      rw [hwr]
      obtain ⟨U, hU⟩ : ∃ U, w2.setCell ⟨S, 8, none⟩ (.int .i64 (room - (sz : Int))) = U := ⟨_, rfl⟩
      have hst2 : SbSt w2 P (e + 1) b F L c sc room φ cf last := HV.out.2.2.below HP.out
      have hstU : SbSt U P (e + 1) b F L c sc (room - (sz : Int)) φ cf last := by
        have h9 := hst2.setS 8 (.int .i64 (room - (sz : Int))) (room - (sz : Int)) last (.inl ⟨rfl, rfl, rfl⟩)
        rw [HS.out, hU] at h9
        exact h9
      have hchU : SbCh P w U := by
        have h9 := (((SbCh.below HV.out.1).trans (SbCh.below HP.out)).trans (SbCh.set P w2 8 (.int .i64 (room - (sz : Int)))))
        rw [HS.out, hU] at h9
        exact h9
      have kU : Blk U w.heap.size #[.int .i64 0, .string ⟨#[]⟩, .int .i64 0, .slice none 0 0, .slice none 0 0, .slice none 0 0, .slice none 0 0] 31 := by
        have h9 := HV.out.2.1.below HP.out
        unfold Blk at h9 ⊢
        rw [← hU, heap_set_other _ _ _ _ _ (by omega)]
        exact h9
      have HU : Hid (SbSt U P (e + 1) b F L c sc (room - (sz : Int)) φ cf last ∧ SbCh P w U ∧ Blk U w.heap.size #[.int .i64 0, .string ⟨#[]⟩, .int .i64 0, .slice none 0 0, .slice none 0 0, .slice none 0 0, .slice none 0 0] 31) := ⟨hstU, hchU, kU⟩
      have HCp : Hid (Calls Tryz.prog 31 #[.pointer (some ⟨S, 1, none⟩)] U fun r w' => ∃ v, r = .returned v ∧ OwV w' (e + 1) b v U.heap.size w'.heap.size ∧ Below U.heap.size U w') := by
        have h9 := copiedOK (e + 1) b (S + 1) S 1 U (by
          have h8 := hstU.by_
          rw [HS.out] at h8
          exact OwEx.ex _ _ _ _ _ _ h8 (by omega) (by have := HoK.out; rw [HS.out] at this; omega)) (by have := hstU.lt; rw [HS.out] at this; omega) HFb.out.1
        exact h9
      have lU : S < U.heap.size := by have := hstU.lt; rw [HS.out] at this; exact this
      rw [hU]
      clear hU hst2 hstU hchU kU hwr t1 t2 t3 t4 t5 t6 t7 t8 p2 p3 z1 z2 z3 z4 z5 z6 z7 z8 v8 lV x8
      go_wp2_with (go_at_call 31; fail)
      refine HCp.out.mono ?_
      rintro e9 w3 ⟨v, rfl, hv, hb3⟩
      obtain ⟨K0, N1, M2, O3, L3, C3, O4, L4, C4, O5, L5, C5, O6, L6, C6, rfl⟩ := hv.vlF.shape
      have k3 : Blk w3 w.heap.size #[.int .i64 0, .string ⟨#[]⟩, .int .i64 0, .slice none 0 0, .slice none 0 0, .slice none 0 0, .slice none 0 0] 31 := HU.out.2.2.below hb3
      obtain ⟨⟨r0, r1, r2, r3, r4, r5, r6⟩, s0, s1, s2, s3, s4, s5, s6⟩ := k3.all7
      have l3w : w.heap.size < w3.heap.size := k3.lt
      have HW3 : Hid (OwV w3 (e + 1) b (.agg #[.int .i64 K0, .string N1, .int .i64 M2, .slice O3 L3 C3, .slice O4 L4 C4, .slice O5 L5 C5, .slice O6 L6 C6]) U.heap.size w3.heap.size ∧ Below U.heap.size U w3 ∧ Blk w3 w.heap.size #[.int .i64 0, .string ⟨#[]⟩, .int .i64 0, .slice none 0 0, .slice none 0 0, .slice none 0 0, .slice none 0 0] 31) := ⟨hv, hb3, k3⟩
      clear hv hb3 k3 HCp
      have HEnd : Hid (Blk (st7 w3 w.heap.size 0 (.int .i64 K0) (.string N1) (.int .i64 M2) (.slice O3 L3 C3) (.slice O4 L4 C4) (.slice O5 L5 C5) (.slice O6 L6 C6)) w.heap.size #[.int .i64 K0, .string N1, .int .i64 M2, .slice O3 L3 C3, .slice O4 L4 C4, .slice O5 L5 C5, .slice O6 L6 C6] 31) := by
        have h1 := HW3.out.2.2
        exact ((((((h1.set 0 _).set 1 _).set 2 _).set 3 _).set 4 _).set 5 _).set 6 _
      go_wp2
      (try simp only [Exit.inBlock, Exit.then])
      refine bodyPost_ret (results_cell_row rfl _ _ w.heap.size 31 _ _ _ rfl HEnd.out Tryz.underlying31 rfl rfl) rfl ?_
      obtain ⟨hv, hb3, k3⟩ := HW3.out
      obtain ⟨hstU, hchU, kU⟩ := HU.out
      have h9 := placed_end hv hb3 k3 hstU hchU kU.lt (by rw [HS.out]; exact lS) H0.out.1.gt.2 (by omega) (by omega)
      exact h9
end Go.Proofs.YtegdloenakachaaGreatDoor

namespace Go.Proofs.YtegdloenakachaaGreatDoor
open Go.RowKit Go.Shelf Go.Maps
set_option linter.unusedVariables false

/-- What becomes of a variable of name x at a place. -/
def VrPost (P : SbP) (db : Nat) (b : Tr db) (F : List UInt8 → Bool) (L : List (List UInt8)) (c : Nat) (sc : Sc) (φ : List UInt8 → Nat) (cf last k0 : Nat) (x : ByteArray) (g off : Nat) (W : World) (r : Ending) (W' : World) : Prop :=
  ∃ (φ' : List UInt8 → Nat) (cf' last' : Nat) (room' : Int), r = .returned (.tuple #[]) ∧ Ext φ φ' ∧ NumOK F L φ' last' ∧ Bnd L cf' last' k0 ∧ -1048576 ≤ room' ∧ room' ≤ 1048576 ∧ SbSt W' P db b F L c sc room' φ' cf' last' ∧ Uf W' g ∧ TxCh P g W W' ∧ (∀ o, o < off ∨ off + 7 ≤ o → W'.cell? ⟨g, o, none⟩ = W.cell? ⟨g, o, none⟩) ∧
  (((nms sc).contains x.data.toList = true ∧ (F x.data.toList = true → φ' x.data.toList ≠ 0) ∧ W'.cell? ⟨g, off + 1, none⟩ = some (.string (rnB F φ' x)) ∧ ∀ o, o ≠ off + 1 → W'.cell? ⟨g, o, none⟩ = W.cell? ⟨g, o, none⟩) ∨
   ((nms sc).contains x.data.toList = false ∧ x.toList = P.name.toList ∧ ∃ c0 c1 c2 c3 c4 c5 c6, VlF W' (FpP P W.heap.size W'.heap.size) db b (.agg #[c0, c1, c2, c3, c4, c5, c6]) ∧ W'.cell? ⟨g, off, none⟩ = some c0 ∧ W'.cell? ⟨g, off + 1, none⟩ = some c1 ∧ W'.cell? ⟨g, off + 2, none⟩ = some c2 ∧ W'.cell? ⟨g, off + 3, none⟩ = some c3 ∧ W'.cell? ⟨g, off + 4, none⟩ = some c4 ∧ W'.cell? ⟨g, off + 5, none⟩ = some c5 ∧ W'.cell? ⟨g, off + 6, none⟩ = some c6) ∨
   ((nms sc).contains x.data.toList = false ∧ x.toList ≠ P.name.toList ∧ ∀ o, W'.cell? ⟨g, o, none⟩ = W.cell? ⟨g, o, none⟩))
theorem TxCh.below {P : SbP} {g : Nat} {W W' : World} (h : Below W.heap.size W W') : TxCh P g W W' := (SbCh.below h).tx g
theorem TxCh.st7 {P : SbP} {g : Nat} {w X : World} (h : TxCh P g w X) (off : Nat) (v0 v1 v2 v3 v4 v5 v6 : Value) : TxCh P g w (st7 X g off v0 v1 v2 v3 v4 v5 v6) := by
  unfold YtegdloenakachaaGreatDoor.st7
  exact ((((((h.trans (TxCh.set _ _ _ _ _)).trans (TxCh.set _ _ _ _ _)).trans (TxCh.set _ _ _ _ _)).trans (TxCh.set _ _ _ _ _)).trans (TxCh.set _ _ _ _ _)).trans (TxCh.set _ _ _ _ _)).trans (TxCh.set _ _ _ _ _)
set_option maxRecDepth 100000 in
set_option maxHeartbeats 4000000 in
theorem variable_c (P : SbP) (e : Nat) (b : Tr (e + 1)) (hFb : Fit (e + 1) b) (hsb : sizeM (e + 1) b ≤ 1048576) (hdb : e + 1 ≤ 4096) (F : List UInt8 → Bool) (L : List (List UInt8)) (c : Nat) (sc : Sc) (room : Int) (φ : List UInt8 → Nat) (cf last k0 : Nat) (x : ByteArray) (hx : x.size ≤ maxLen) (g off : Nat) (w : World) (h : SbSt w P (e + 1) b F L c sc room φ cf last) (hN : NumOK F L φ last) (hB : Bnd L cf last (k0 + 1)) (hr1 : -1048576 ≤ room) (hr2 : room ≤ 1048576) (hg : g < P.Z) (hg0 : 0 ≠ g) (hu : Uf w g) (h1 : w.cell? ⟨g, off + 1, none⟩ = some (.string x)) (hc : ∀ q, q < 7 → ∃ v, w.cell? ⟨g, off + q, none⟩ = some v) :
    Calls Tryz.prog 68 #[.pointer (some ⟨P.S, 0, none⟩), .pointer (some ⟨g, off, none⟩)] w fun r w' => VrPost P (e + 1) b F L c sc φ cf last k0 x g off w r w' := by
  have hgS : g ≠ P.S ∧ g ≠ P.m ∧ g ≠ P.fh := by have := h.ok.zm; have := h.ok.mS; have := h.ok.zf; omega
  have H0 : Hid (SbSt w P (e + 1) b F L c sc room φ cf last ∧ NumOK F L φ last ∧ Bnd L cf last (k0 + 1) ∧ -1048576 ≤ room ∧ room ≤ 1048576 ∧ g < P.Z ∧ 0 ≠ g ∧ Uf w g ∧ (∀ q, q < 7 → ∃ v, w.cell? ⟨g, off + q, none⟩ = some v) ∧ g ≠ P.S ∧ g ≠ P.m ∧ g ≠ P.fh) := ⟨h, hN, hB, hr1, hr2, hg, hg0, hu, hc, hgS⟩
  have lS := h.lt
  have lg := hu.lt
  have x0 := h.nm
  have HH : Hid (∀ n, Calls Tryz.prog 106 #[.pointer (some ⟨P.S, 9, none⟩), .string x] (w.drewN n) fun e w' => e = .returned (.bool ((nms sc).contains x.data.toList)) ∧ w' = w.drewN n) := fun n => by
    have h9 := has_c x hx P.S 9 P.m c sc (w.drewN n) (h.sc.drewN n)
    rw [lvl_pos] at h9
    exact h9
  have HR : Hid (∀ W, SbSt W P (e + 1) b F L c sc room φ cf last → Calls Tryz.prog 112 #[.pointer (some ⟨P.S, 0, none⟩), .string x] W fun r w' => RnPost P (e + 1) b F L c sc room φ cf last x W r w') := fun W hW => renamed_c P (e + 1) b F L c sc room φ cf last x hx W hW hN (by obtain ⟨a, b, c⟩ := hB; rw [Nat.add_mul] at c; omega) (by obtain ⟨a, b, c⟩ := hB; omega)
  have HP : Hid (∀ W, SbSt W P (e + 1) b F L c sc room φ cf last → Calls Tryz.prog 113 #[.pointer (some ⟨P.S, 0, none⟩)] W fun r w' => PlPost P (e + 1) b F L c sc φ cf last W r w') := fun W hW => placed_c P e b hFb hsb hdb F L c sc room φ cf last W hW hr1 hr2
  obtain ⟨S, hS⟩ : ∃ S, P.S = S := ⟨_, rfl⟩
  have HS : Hid (P.S = S) := hS
  rw [hS] at lS x0 HH HR HP ⊢
  obtain ⟨nm, hnm⟩ : ∃ nm, P.name = nm := ⟨_, rfl⟩
  have HNm : Hid (P.name = nm) := hnm
  rw [hnm] at x0
  clear h hN hB hr1 hr2 hg hg0 hu hc hx hFb hsb hdb hS hgS hnm
  cases hbd : (nms sc).contains x.data.toList with
  | true =>
    have HBd : Hid ((nms sc).contains x.data.toList = true) := hbd
    rw [hbd] at HH
    clear hbd HP
    go_enter Tryz.func68, Tryz.ntmps68
    go_wp2
    go_big_quiet ((go_at_call 106; exact Calls.quiet_of_same (HH.out _)))
    obtain ⟨V, hV⟩ : ∃ V, w.drewN nq = V := ⟨_, rfl⟩
    have bV : Below w.heap.size w V := by rw [← hV]; exact dqb w _
    have h1V : V.cell? ⟨g, off + 1, none⟩ = some (.string x) := (cell_of_block (bV.block g lg) _).trans h1
    have lgV : g < V.heap.size := Nat.lt_of_lt_of_le lg bV.size
    have lSV : S < V.heap.size := Nat.lt_of_lt_of_le lS bV.size
    have HV : Hid (Below w.heap.size w V ∧ SbSt V P (e + 1) b F L c sc room φ cf last) := ⟨bV, H0.out.1.below bV⟩
    rw [hV]
    clear hV bV h1 lg lS x0 HH
    go_wp2_with (go_at_call 112; fail)
    refine (HR.out V HV.out.2).mono ?_
    rintro e9 w2 ⟨φ2, cf2, last2, rfl, u1, u2, u3, u4, u5, u6, u7⟩
    have hgb : w2.heap[g]? = V.heap[g]? := u7.block g lgV H0.out.2.2.2.2.2.2.2.2.2.1 H0.out.2.2.2.2.2.2.2.2.2.2.1 H0.out.2.2.2.2.2.2.2.2.2.2.2
    have hx2 : w2.cell? ⟨g, off + 1, none⟩ = some (.string x) := (cell_of_block hgb _).trans h1V
    have huV : Uf V g := H0.out.2.2.2.2.2.2.2.1.same (HV.out.1.block g H0.out.2.2.2.2.2.2.2.1.lt)
    have hu2 : Uf w2 g := huV.same hgb
    have hf2 := hu2.frozen (off + 1)
    have lg2 := hu2.lt
    generalize hrn : rnB F φ2 x = rn
    have HU : Hid (rnB F φ2 x = rn ∧ (F x.data.toList = true → φ2 x.data.toList ≠ 0) ∧ Ext φ φ2 ∧ NumOK F L φ2 last2 ∧ cf2 ≤ cf + 1 ∧ last2 ≤ last + L.length + 1 ∧ SbSt w2 P (e + 1) b F L c sc room φ2 cf2 last2 ∧ SbCh P V w2 ∧ w2.heap[g]? = V.heap[g]? ∧ Uf w2 g) := ⟨hrn, u1, u2, u3, u4, u5, u6, u7, hgb, hu2⟩
    clear u1 u2 u3 u4 u5 u6 u7 hgb huV hu2 hrn h1V
    go_wp2
    go_end0
    obtain ⟨hrn, u1, u2, u3, u4, u5, u6, u7, hgb, hu2⟩ := HU.out
    obtain ⟨a1, a2, a3, a4, a5, a6, a7, a8, a9, a10⟩ := H0.out
    have ec : ∀ o, w2.cell? ⟨g, o, none⟩ = w.cell? ⟨g, o, none⟩ := fun o => (cell_of_block hgb o).trans (cell_of_block (HV.out.1.block g a8.lt) o)
    refine ⟨φ2, cf2, last2, room, rfl, u2, u3, a3.step u4 u5, a4, a5, u6.setT a6 hu2 a7 _ _, hu2.set _ _ _, ((TxCh.below HV.out.1).trans (u7.tx g)).trans (TxCh.set _ _ _ _ _), fun o ho => (setCell_cell_other _ _ _ _ _ (by omega)).trans (ec o), .inl ⟨HBd.out, u1, ?_, fun o ho => (setCell_cell_other _ _ _ _ _ ho).trans (ec o)⟩⟩
    rw [hrn]; exact setCell_cell_same _ _ _ _ _ hx2
  | false =>
    have HBd : Hid ((nms sc).contains x.data.toList = false) := hbd
    rw [hbd] at HH
    clear hbd HR
    by_cases hnx : x.toList = nm.toList
    · have e0 : (x.toList == nm.toList) = true := by rw [hnx]; simp
      have HX : Hid (x.toList = nm.toList) := hnx
      clear hnx
      go_enter Tryz.func68, Tryz.ntmps68
      go_wp2
      go_big_quiet ((go_at_call 106; exact Calls.quiet_of_same (HH.out _)))
      obtain ⟨V, hV⟩ : ∃ V, w.drewN nq = V := ⟨_, rfl⟩
      have bV : Below w.heap.size w V := by rw [← hV]; exact dqb w _
      have h1V : V.cell? ⟨g, off + 1, none⟩ = some (.string x) := (cell_of_block (bV.block g lg) _).trans h1
      have x0V : V.cell? ⟨S, 0, none⟩ = some (.string nm) := (cell_of_block (bV.block S lS) _).trans x0
      have lgV : g < V.heap.size := Nat.lt_of_lt_of_le lg bV.size
      have lSV : S < V.heap.size := Nat.lt_of_lt_of_le lS bV.size
      have HV : Hid (Below w.heap.size w V) := bV
      rw [hV]
      clear hV bV h1 lg lS x0 HH
      go_wp2
      go_big_quiet (fail)
      obtain ⟨V2, hV2⟩ : ∃ V2, V.drewN nq = V2 := ⟨_, rfl⟩
      have bV2 : Below V.heap.size V V2 := by rw [← hV2]; exact dqb V _
      have lgV2 : g < V2.heap.size := Nat.lt_of_lt_of_le lgV bV2.size
      have HV2 : Hid (Below w.heap.size w V2 ∧ SbSt V2 P (e + 1) b F L c sc room φ cf last) := ⟨HV.out.trans (bV2.mono HV.out.size), H0.out.1.below (HV.out.trans (bV2.mono HV.out.size))⟩
      rw [hV2]
      clear hV2 bV2 h1V x0V lgV
      go_wp2_with (go_at_call 113; fail)
      refine (HP.out V2 HV2.out.2).mono ?_
      rintro e9 w3 ⟨v, room2, rfl, hvl, hr1, hr2, hst, hch⟩
      obtain ⟨K0, N1, M2, O3, L3, C3, O4, L4, C4, O5, L5, C5, O6, L6, C6, rfl⟩ := hvl.shape
      have huV : Uf V2 g := H0.out.2.2.2.2.2.2.2.1.same (HV2.out.1.block g H0.out.2.2.2.2.2.2.2.1.lt)
      have hgb : w3.heap[g]? = V2.heap[g]? := hch.block g lgV2 H0.out.2.2.2.2.2.2.2.2.2.1 H0.out.2.2.2.2.2.2.2.2.2.2.1 H0.out.2.2.2.2.2.2.2.2.2.2.2
      have hu3 : Uf w3 g := huV.same hgb
      have ec : ∀ o, w3.cell? ⟨g, o, none⟩ = w.cell? ⟨g, o, none⟩ := fun o => (cell_of_block hgb o).trans (cell_of_block (HV2.out.1.block g H0.out.2.2.2.2.2.2.2.1.lt) o)
      have HCe : Hid (∀ q, q < 7 → ∃ v, w3.cell? ⟨g, off + q, none⟩ = some v) := fun q hq => by rw [ec]; exact H0.out.2.2.2.2.2.2.2.2.1 q hq
      obtain ⟨v0, y0⟩ := HCe.out 0 (by omega)
      obtain ⟨v1, y1⟩ := HCe.out 1 (by omega)
      obtain ⟨v2, y2⟩ := HCe.out 2 (by omega)
      obtain ⟨v3, y3⟩ := HCe.out 3 (by omega)
      obtain ⟨v4, y4⟩ := HCe.out 4 (by omega)
      obtain ⟨v5, y5⟩ := HCe.out 5 (by omega)
      obtain ⟨v6, y6⟩ := HCe.out 6 (by omega)
      rw [Nat.add_zero] at y0
      have f0 := hu3.frozen off
      have f1 := hu3.frozen (off + 1)
      have f2 := hu3.frozen (off + 2)
      have f3 := hu3.frozen (off + 3)
      have f4 := hu3.frozen (off + 4)
      have f5 := hu3.frozen (off + 5)
      have f6 := hu3.frozen (off + 6)
      have lg3 := hu3.lt
      have HW : Hid (VlF w3 (FpP P V2.heap.size w3.heap.size) (e + 1) b (.agg #[.int .i64 K0, .string N1, .int .i64 M2, .slice O3 L3 C3, .slice O4 L4 C4, .slice O5 L5 C5, .slice O6 L6 C6]) ∧ -1048576 ≤ room2 ∧ room2 ≤ 1048576 ∧ SbSt w3 P (e + 1) b F L c sc room2 φ cf last ∧ SbCh P V2 w3 ∧ Uf w3 g ∧ ∀ o, w3.cell? ⟨g, o, none⟩ = w.cell? ⟨g, o, none⟩) := ⟨hvl, hr1, hr2, hst, hch, hu3, ec⟩
      clear hvl hr1 hr2 hst hch hu3 ec huV hgb HP
      go_wp2
      go_end0
      obtain ⟨hvl, hr1, hr2, hst, hch, hu3, ec⟩ := HW.out
      obtain ⟨a1, a2, a3, a4, a5, a6, a7, a8, a9, a10, a11, a12⟩ := H0.out
      have hst2 := hst.st7T a6 hu3 a7 off (.int .i64 K0) (.string N1) (.int .i64 M2) (.slice O3 L3 C3) (.slice O4 L4 C4) (.slice O5 L5 C5) (.slice O6 L6 C6)
      have hu4 := st7_uf hu3 g off (.int .i64 K0) (.string N1) (.int .i64 M2) (.slice O3 L3 C3) (.slice O4 L4 C4) (.slice O5 L5 C5) (.slice O6 L6 C6)
      have hch2 := ((TxCh.below HV2.out.1).trans (hch.tx g)).st7 off (.int .i64 K0) (.string N1) (.int .i64 M2) (.slice O3 L3 C3) (.slice O4 L4 C4) (.slice O5 L5 C5) (.slice O6 L6 C6)
      obtain ⟨q0, q1, q2, q3, q4, q5, q6⟩ := st7_at w3 g off (.int .i64 K0) (.string N1) (.int .i64 M2) (.slice O3 L3 C3) (.slice O4 L4 C4) (.slice O5 L5 C5) (.slice O6 L6 C6) HCe.out
      have hco := fun j h => st7_cell w3 g off (.int .i64 K0) (.string N1) (.int .i64 M2) (.slice O3 L3 C3) (.slice O4 L4 C4) (.slice O5 L5 C5) (.slice O6 L6 C6) j h
      have hbo := fun k h => st7_other w3 g off (.int .i64 K0) (.string N1) (.int .i64 M2) (.slice O3 L3 C3) (.slice O4 L4 C4) (.slice O5 L5 C5) (.slice O6 L6 C6) k h
      have hsz := st7_size w3 g off (.int .i64 K0) (.string N1) (.int .i64 M2) (.slice O3 L3 C3) (.slice O4 L4 C4) (.slice O5 L5 C5) (.slice O6 L6 C6)
      have hzb := a1.ok.zb
      have hs2 := HV2.out.1.size
      have hVx : ∃ X, st7 w3 g off (.int .i64 K0) (.string N1) (.int .i64 M2) (.slice O3 L3 C3) (.slice O4 L4 C4) (.slice O5 L5 C5) (.slice O6 L6 C6) = X := ⟨_, rfl⟩
      obtain ⟨X, hX⟩ := hVx
      show VrPost P (e + 1) b F L c sc φ cf last k0 x g off w _ (st7 w3 g off (.int .i64 K0) (.string N1) (.int .i64 M2) (.slice O3 L3 C3) (.slice O4 L4 C4) (.slice O5 L5 C5) (.slice O6 L6 C6))
      rw [hX] at hst2 hu4 hch2 q0 q1 q2 q3 q4 q5 q6 hco hbo hsz ⊢
      refine ⟨φ, cf, last, room2, rfl, Ext.refl _, a2, a3.less (Nat.le_succ _), hr1, hr2, hst2, hu4, hch2, fun o ho => (hco o ho).trans (ec o), .inr (.inl ⟨HBd.out, by rw [HNm.out]; exact HX.out, _, _, _, _, _, _, _, ?_, q0, q1, q2, q3, q4, q5, q6⟩)⟩
      refine hvl.mono (fun k o hk => ⟨?_, ?_⟩)
      · rcases hk with hk | hk
        · exact .inl hk
        · exact .inr ⟨by omega, by omega⟩
      · refine cell_of_block (hbo k ?_) o
        rcases hk with hk | hk <;> omega
    · have e0 : (x.toList == nm.toList) = false := by simpa using hnx
      have HX : Hid (x.toList ≠ nm.toList) := hnx
      clear hnx
      go_enter Tryz.func68, Tryz.ntmps68
      go_wp2
      go_big_quiet ((go_at_call 106; exact Calls.quiet_of_same (HH.out _)))
      obtain ⟨V, hV⟩ : ∃ V, w.drewN nq = V := ⟨_, rfl⟩
      have bV : Below w.heap.size w V := by rw [← hV]; exact dqb w _
      have h1V : V.cell? ⟨g, off + 1, none⟩ = some (.string x) := (cell_of_block (bV.block g lg) _).trans h1
      have x0V : V.cell? ⟨S, 0, none⟩ = some (.string nm) := (cell_of_block (bV.block S lS) _).trans x0
      have lgV : g < V.heap.size := Nat.lt_of_lt_of_le lg bV.size
      have lSV : S < V.heap.size := Nat.lt_of_lt_of_le lS bV.size
      have HV : Hid (Below w.heap.size w V) := bV
      rw [hV]
      clear hV bV h1 lg lS x0 HH
      go_wp2
      go_big_quiet (fail)
      obtain ⟨V2, hV2⟩ : ∃ V2, V.drewN nq = V2 := ⟨_, rfl⟩
      have bV2 : Below V.heap.size V V2 := by rw [← hV2]; exact dqb V _
      have HV2 : Hid (Below w.heap.size w V2 ∧ SbSt V2 P (e + 1) b F L c sc room φ cf last) := ⟨HV.out.trans (bV2.mono HV.out.size), H0.out.1.below (HV.out.trans (bV2.mono HV.out.size))⟩
      rw [hV2]
      clear hV2 bV2 h1V x0V lgV
      go_wp2
      go_end0
      obtain ⟨a1, a2, a3, a4, a5, a6, a7, a8, a9, a10, a11, a12⟩ := H0.out
      have ec : ∀ o, V2.cell? ⟨g, o, none⟩ = w.cell? ⟨g, o, none⟩ := fun o => cell_of_block (HV2.out.1.block g a8.lt) o
      exact ⟨φ, cf, last, room, rfl, Ext.refl _, a2, a3.less (Nat.le_succ _), a4, a5, HV2.out.2, a8.same (HV2.out.1.block g a8.lt), TxCh.below HV2.out.1, fun o _ => ec o, .inr (.inr ⟨HBd.out, by rw [HNm.out]; exact HX.out, ec⟩)⟩
end Go.Proofs.YtegdloenakachaaGreatDoor
