/-
  Package occur (stage 16): Of, Count, by contracts.
-/
import Derived.Test.YtjmpjfggbhongaaDoorUo
namespace Go.Proofs.YtjmpjfggbhongaaDoor
open Go.RowKit Go.Shelf Go.Maps
set_option linter.unusedVariables false

set_option maxHeartbeats 8000000 in
set_option maxRecDepth 100000 in
theorem Of_c16 (d : Nat) (t : Tr (d + 1)) (va : Value) (nm : ByteArray) (B : Nat) (w : World) (ha : ExVal w B d t va) (hB : B ≤ w.heap.size) (hz : sizeM (d + 1) t ≤ 1048576) (hd : d + 1 ≤ 4096) (hN : NmOK (d + 1) t) (hs : nm.size ≤ maxLen) (hG : GT16 w) (ht : 8 + wM (d + 1) t ≤ 3000000) :
    Calls Tryd.prog 13 #[va, .string nm] w fun e w' => e = .returned (.tuple #[.int .i64 (ofM (d + 1) t nm.data.toList : Nat), .int .i64 0]) ∧ Below w.heap.size w w' := by
  obtain ⟨o3, c3, o4, c4, o5, c5, o6, c6, ea, -⟩ := id ha
  subst ea
  obtain ⟨V, hV⟩ : ∃ V, w.alloc (.cells #[.int .i64 (TrN.kind t), .string (TrN.name t), .int .i64 (TrN.num t), .slice o3 (TrN.params t).length c3, .slice o4 (TrN.binds t).length c4, .slice o5 (TrN.args t).length c5, .slice o6 (TrN.alts t).length c6] 29) = V := ⟨_, rfl⟩
  have k0 : Blk V w.heap.size #[.int .i64 (TrN.kind t), .string (TrN.name t), .int .i64 (TrN.num t), .slice o3 (TrN.params t).length c3, .slice o4 (TrN.binds t).length c4, .slice o5 (TrN.args t).length c5, .slice o6 (TrN.alts t).length c6] 29 := by rw [← hV]; exact Blk.new w _ _
  have b0 : Below w.heap.size w V := by rw [← hV]; exact below1 w _
  have hx := ha.same (W' := V) (fun g off hg => b0.cell (p := ⟨g, off, none⟩) (by show g < w.heap.size; omega))
  have HM : Hid (Calls Tryd.prog 25 #[.pointer (some ⟨w.heap.size, 0, none⟩), .string nm] V fun e w' => ∃ n' x3 x4 x5 hh, e = .returned (.tuple #[.agg #[.string n', .int .i64 (ofM (d + 1) t nm.data.toList : Nat), .int .i64 (cntN (d + 1) t nm.data.toList : Nat), .int .i64 x3, .int .i64 x4, .int .i64 x5, .pointer hh], .int .i64 0]) ∧ Below V.heap.size V w') :=
    metIn_c d t _ nm B w.heap.size V hx k0 hB hz hd hN hs (hG.below (F := w.heap.size) hG.size b0) ht
  have HB : Hid (Below w.heap.size w V) := b0
  generalize ofM (d + 1) t nm.data.toList = oc at HM ⊢
  generalize cntN (d + 1) t nm.data.toList = cn at HM ⊢
  clear ha hB hz hd hN hs hG ht k0 b0 hx
  go_enter Tryd.func13, Tryd.ntmps13
  go_wp2_with (go_at_call 25; fail)
  (try rw [hV])
  refine HM.out.mono ?_
  rintro e w1 ⟨n', x3, x4, x5, hh, rfl, h1⟩
  have H1 : Hid (Below w.heap.size w w1) := HB.out.trans (h1.mono HB.out.size)
  clear h1 HM
  obtain ⟨U0, hU0⟩ : ∃ U, w1.alloc (.cells #[.string ⟨#[]⟩, .int .i64 0, .int .i64 0, .int .i64 0, .int .i64 0, .int .i64 0, .pointer none] 59) = U := ⟨_, rfl⟩
  have k0 : Blk U0 w1.heap.size #[.string ⟨#[]⟩, .int .i64 0, .int .i64 0, .int .i64 0, .int .i64 0, .int .i64 0, .pointer none] 59 := by rw [← hU0]; exact Blk.new w1 _ _
  have bU : Below w1.heap.size w1 U0 := by rw [← hU0]; exact below1 w1 _
  obtain ⟨r0, r1, r2, r3, r4, r5, r6⟩ := k0.cells7
  have lR := k0.lt
  have f0 := k0.frozen 0; have f1 := k0.frozen 1; have f2 := k0.frozen 2; have f3 := k0.frozen 3; have f4 := k0.frozen 4; have f5 := k0.frozen 5; have f6 := k0.frozen 6
  have HU : Hid (Below w1.heap.size w1 U0) := bU
  clear k0 bU
  go_wp2
  (try rw [hU0])
  first | go_ret2 | go_ret
  have hl := H1.out.size
  refine ⟨rfl, ?_⟩
  have hb := H1.out.trans (HU.out.mono hl)
  exact ((((((hb.setCell (p := ⟨w1.heap.size, 0, none⟩) hl _).setCell (p := ⟨w1.heap.size, 1, none⟩) hl _).setCell (p := ⟨w1.heap.size, 2, none⟩) hl _).setCell (p := ⟨w1.heap.size, 3, none⟩) hl _).setCell (p := ⟨w1.heap.size, 4, none⟩) hl _).setCell (p := ⟨w1.heap.size, 5, none⟩) hl _).setCell (p := ⟨w1.heap.size, 6, none⟩) hl _
set_option maxHeartbeats 8000000 in
set_option maxRecDepth 100000 in
theorem Count_c16 (d : Nat) (t : Tr (d + 1)) (va : Value) (nm : ByteArray) (B : Nat) (w : World) (ha : ExVal w B d t va) (hB : B ≤ w.heap.size) (hz : sizeM (d + 1) t ≤ 1048576) (hd : d + 1 ≤ 4096) (hN : NmOK (d + 1) t) (hs : nm.size ≤ maxLen) (hG : GT16 w) (ht : 8 + wM (d + 1) t ≤ 3000000) :
    Calls Tryd.prog 15 #[va, .string nm] w fun e w' => e = .returned (.tuple #[.int .i64 (cntN (d + 1) t nm.data.toList : Nat), .int .i64 0]) ∧ Below w.heap.size w w' := by
  obtain ⟨o3, c3, o4, c4, o5, c5, o6, c6, ea, -⟩ := id ha
  subst ea
  obtain ⟨V, hV⟩ : ∃ V, w.alloc (.cells #[.int .i64 (TrN.kind t), .string (TrN.name t), .int .i64 (TrN.num t), .slice o3 (TrN.params t).length c3, .slice o4 (TrN.binds t).length c4, .slice o5 (TrN.args t).length c5, .slice o6 (TrN.alts t).length c6] 29) = V := ⟨_, rfl⟩
  have k0 : Blk V w.heap.size #[.int .i64 (TrN.kind t), .string (TrN.name t), .int .i64 (TrN.num t), .slice o3 (TrN.params t).length c3, .slice o4 (TrN.binds t).length c4, .slice o5 (TrN.args t).length c5, .slice o6 (TrN.alts t).length c6] 29 := by rw [← hV]; exact Blk.new w _ _
  have b0 : Below w.heap.size w V := by rw [← hV]; exact below1 w _
  have hx := ha.same (W' := V) (fun g off hg => b0.cell (p := ⟨g, off, none⟩) (by show g < w.heap.size; omega))
  have HM : Hid (Calls Tryd.prog 25 #[.pointer (some ⟨w.heap.size, 0, none⟩), .string nm] V fun e w' => ∃ n' x3 x4 x5 hh, e = .returned (.tuple #[.agg #[.string n', .int .i64 (ofM (d + 1) t nm.data.toList : Nat), .int .i64 (cntN (d + 1) t nm.data.toList : Nat), .int .i64 x3, .int .i64 x4, .int .i64 x5, .pointer hh], .int .i64 0]) ∧ Below V.heap.size V w') :=
    metIn_c d t _ nm B w.heap.size V hx k0 hB hz hd hN hs (hG.below (F := w.heap.size) hG.size b0) ht
  have HB : Hid (Below w.heap.size w V) := b0
  generalize ofM (d + 1) t nm.data.toList = oc at HM ⊢
  generalize cntN (d + 1) t nm.data.toList = cn at HM ⊢
  clear ha hB hz hd hN hs hG ht k0 b0 hx
  go_enter Tryd.func15, Tryd.ntmps15
  go_wp2_with (go_at_call 25; fail)
  (try rw [hV])
  refine HM.out.mono ?_
  rintro e w1 ⟨n', x3, x4, x5, hh, rfl, h1⟩
  have H1 : Hid (Below w.heap.size w w1) := HB.out.trans (h1.mono HB.out.size)
  clear h1 HM
  obtain ⟨U0, hU0⟩ : ∃ U, w1.alloc (.cells #[.string ⟨#[]⟩, .int .i64 0, .int .i64 0, .int .i64 0, .int .i64 0, .int .i64 0, .pointer none] 59) = U := ⟨_, rfl⟩
  have k0 : Blk U0 w1.heap.size #[.string ⟨#[]⟩, .int .i64 0, .int .i64 0, .int .i64 0, .int .i64 0, .int .i64 0, .pointer none] 59 := by rw [← hU0]; exact Blk.new w1 _ _
  have bU : Below w1.heap.size w1 U0 := by rw [← hU0]; exact below1 w1 _
  obtain ⟨r0, r1, r2, r3, r4, r5, r6⟩ := k0.cells7
  have lR := k0.lt
  have f0 := k0.frozen 0; have f1 := k0.frozen 1; have f2 := k0.frozen 2; have f3 := k0.frozen 3; have f4 := k0.frozen 4; have f5 := k0.frozen 5; have f6 := k0.frozen 6
  have HU : Hid (Below w1.heap.size w1 U0) := bU
  clear k0 bU
  go_wp2
  (try rw [hU0])
  first | go_ret2 | go_ret
  have hl := H1.out.size
  refine ⟨rfl, ?_⟩
  have hb := H1.out.trans (HU.out.mono hl)
  exact ((((((hb.setCell (p := ⟨w1.heap.size, 0, none⟩) hl _).setCell (p := ⟨w1.heap.size, 1, none⟩) hl _).setCell (p := ⟨w1.heap.size, 2, none⟩) hl _).setCell (p := ⟨w1.heap.size, 3, none⟩) hl _).setCell (p := ⟨w1.heap.size, 4, none⟩) hl _).setCell (p := ⟨w1.heap.size, 5, none⟩) hl _).setCell (p := ⟨w1.heap.size, 6, none⟩) hl _
end Go.Proofs.YtjmpjfggbhongaaDoor
