/-
  The law's own makers (stage 16), and whether a name occurs so.
-/
import Derived.Test.YtjmpjfggbhongaaDoorUp
namespace Go.Proofs.YtjmpjfggbhongaaDoor
open Go.RowKit Go.Shelf Go.Maps
set_option linter.unusedVariables false

set_option maxRecDepth 100000 in
set_option maxHeartbeats 4000000 in
theorem lv16_c (s : ByteArray) (w : World) : Calls Tryd.prog 9 #[.string s] w fun e w' => e = .returned (.agg #[.int .i64 1, .string s, .int .i64 0, .slice none 0 0, .slice none 0 0, .slice none 0 0, .slice none 0 0]) ∧ Below w.heap.size w w' := by
  obtain ⟨V0, hV0⟩ : ∃ V, w.alloc (.cells #[.int .i64 0, .string ⟨#[]⟩, .int .i64 0, .slice none 0 0, .slice none 0 0, .slice none 0 0, .slice none 0 0] 29) = V := ⟨_, rfl⟩
  have k0 : Blk V0 w.heap.size #[.int .i64 0, .string ⟨#[]⟩, .int .i64 0, .slice none 0 0, .slice none 0 0, .slice none 0 0, .slice none 0 0] 29 := by rw [← hV0]; exact Blk.new w _ _
  have b0 : Below w.heap.size w V0 := by rw [← hV0]; exact below1 w _
  obtain ⟨N, hN⟩ : ∃ N, w.heap.size = N := ⟨_, rfl⟩
  rw [hN] at k0 b0 ⊢
  obtain ⟨V1, hV1⟩ : ∃ V, V0.setCell ⟨N, 0, none⟩ (.int .i64 1) = V := ⟨_, rfl⟩
  have e0 : V0.cell? ⟨N, 0, none⟩ = some (.int .i64 0) := k0.cell 0 _ rfl
  have g0 := k0.frozen 0
  have k1 : Blk V1 N #[.int .i64 1, .string ⟨#[]⟩, .int .i64 0, .slice none 0 0, .slice none 0 0, .slice none 0 0, .slice none 0 0] 29 := by rw [← hV1]; exact k0.set 0 _
  have b1 : Below N w V1 := by rw [← hV1]; exact b0.setCell (p := ⟨N, 0, none⟩) (Nat.le_refl _) _
  obtain ⟨V2, hV2⟩ : ∃ V, V1.setCell ⟨N, 1, none⟩ (.string s) = V := ⟨_, rfl⟩
  have e1 : V1.cell? ⟨N, 1, none⟩ = some (.string ⟨#[]⟩) := k1.cell 1 _ rfl
  have g1 := k1.frozen 1
  have k2 : Blk V2 N #[.int .i64 1, .string s, .int .i64 0, .slice none 0 0, .slice none 0 0, .slice none 0 0, .slice none 0 0] 29 := by rw [← hV2]; exact k1.set 1 _
  have b2 : Below N w V2 := by rw [← hV2]; exact b1.setCell (p := ⟨N, 1, none⟩) (Nat.le_refl _) _
  obtain ⟨V3, hV3⟩ : ∃ V, V2.setCell ⟨N, 2, none⟩ (.int .i64 0) = V := ⟨_, rfl⟩
  have e2 : V2.cell? ⟨N, 2, none⟩ = some (.int .i64 0) := k2.cell 2 _ rfl
  have g2 := k2.frozen 2
  have k3 : Blk V3 N #[.int .i64 1, .string s, .int .i64 0, .slice none 0 0, .slice none 0 0, .slice none 0 0, .slice none 0 0] 29 := by rw [← hV3]; exact k2.set 2 _
  have b3 : Below N w V3 := by rw [← hV3]; exact b2.setCell (p := ⟨N, 2, none⟩) (Nat.le_refl _) _
  obtain ⟨V4, hV4⟩ : ∃ V, V3.setCell ⟨N, 3, none⟩ (.slice none 0 0) = V := ⟨_, rfl⟩
  have e3 : V3.cell? ⟨N, 3, none⟩ = some (.slice none 0 0) := k3.cell 3 _ rfl
  have g3 := k3.frozen 3
  have k4 : Blk V4 N #[.int .i64 1, .string s, .int .i64 0, .slice none 0 0, .slice none 0 0, .slice none 0 0, .slice none 0 0] 29 := by rw [← hV4]; exact k3.set 3 _
  have b4 : Below N w V4 := by rw [← hV4]; exact b3.setCell (p := ⟨N, 3, none⟩) (Nat.le_refl _) _
  obtain ⟨V5, hV5⟩ : ∃ V, V4.setCell ⟨N, 4, none⟩ (.slice none 0 0) = V := ⟨_, rfl⟩
  have e4 : V4.cell? ⟨N, 4, none⟩ = some (.slice none 0 0) := k4.cell 4 _ rfl
  have g4 := k4.frozen 4
  have k5 : Blk V5 N #[.int .i64 1, .string s, .int .i64 0, .slice none 0 0, .slice none 0 0, .slice none 0 0, .slice none 0 0] 29 := by rw [← hV5]; exact k4.set 4 _
  have b5 : Below N w V5 := by rw [← hV5]; exact b4.setCell (p := ⟨N, 4, none⟩) (Nat.le_refl _) _
  obtain ⟨V6, hV6⟩ : ∃ V, V5.setCell ⟨N, 5, none⟩ (.slice none 0 0) = V := ⟨_, rfl⟩
  have e5 : V5.cell? ⟨N, 5, none⟩ = some (.slice none 0 0) := k5.cell 5 _ rfl
  have g5 := k5.frozen 5
  have k6 : Blk V6 N #[.int .i64 1, .string s, .int .i64 0, .slice none 0 0, .slice none 0 0, .slice none 0 0, .slice none 0 0] 29 := by rw [← hV6]; exact k5.set 5 _
  have b6 : Below N w V6 := by rw [← hV6]; exact b5.setCell (p := ⟨N, 5, none⟩) (Nat.le_refl _) _
  obtain ⟨V7, hV7⟩ : ∃ V, V6.setCell ⟨N, 6, none⟩ (.slice none 0 0) = V := ⟨_, rfl⟩
  have e6 : V6.cell? ⟨N, 6, none⟩ = some (.slice none 0 0) := k6.cell 6 _ rfl
  have g6 := k6.frozen 6
  have k7 : Blk V7 N #[.int .i64 1, .string s, .int .i64 0, .slice none 0 0, .slice none 0 0, .slice none 0 0, .slice none 0 0] 29 := by rw [← hV7]; exact k6.set 6 _
  have b7 : Below N w V7 := by rw [← hV7]; exact b6.setCell (p := ⟨N, 6, none⟩) (Nat.le_refl _) _
  have f0 : V7.cell? ⟨N, 0, none⟩ = some (.int .i64 1) := k7.cell 0 _ rfl
  have f1 : V7.cell? ⟨N, 1, none⟩ = some (.string s) := k7.cell 1 _ rfl
  have f2 : V7.cell? ⟨N, 2, none⟩ = some (.int .i64 0) := k7.cell 2 _ rfl
  have f3 : V7.cell? ⟨N, 3, none⟩ = some (.slice none 0 0) := k7.cell 3 _ rfl
  have f4 : V7.cell? ⟨N, 4, none⟩ = some (.slice none 0 0) := k7.cell 4 _ rfl
  have f5 : V7.cell? ⟨N, 5, none⟩ = some (.slice none 0 0) := k7.cell 5 _ rfl
  have f6 : V7.cell? ⟨N, 6, none⟩ = some (.slice none 0 0) := k7.cell 6 _ rfl
  have HK : Hid (Blk V7 N #[.int .i64 1, .string s, .int .i64 0, .slice none 0 0, .slice none 0 0, .slice none 0 0, .slice none 0 0] 29 ∧ Below N w V7) := ⟨k7, b7⟩
  clear k0 b0 k1 b1 k2 b2 k3 b3 k4 b4 k5 b5 k6 b6 k7 b7
  go_enter Tryd.func9, Tryd.ntmps9
  go_wp2
  (try simp only [Exit.inBlock, Exit.then])
  refine bodyPost_ret (results_cell_row rfl _ _ N 29 _ _ _ rfl HK.out.1 Tryd.underlying29 rfl rfl) rfl ?_
  exact ⟨rfl, HK.out.2⟩
set_option maxRecDepth 100000 in
set_option maxHeartbeats 4000000 in
theorem lnum16_c (k : Int) (w : World) : Calls Tryd.prog 10 #[.int .i64 k] w fun e w' => e = .returned (.agg #[.int .i64 2, .string ⟨#[]⟩, .int .i64 k, .slice none 0 0, .slice none 0 0, .slice none 0 0, .slice none 0 0]) ∧ Below w.heap.size w w' := by
  obtain ⟨V0, hV0⟩ : ∃ V, w.alloc (.cells #[.int .i64 0, .string ⟨#[]⟩, .int .i64 0, .slice none 0 0, .slice none 0 0, .slice none 0 0, .slice none 0 0] 29) = V := ⟨_, rfl⟩
  have k0 : Blk V0 w.heap.size #[.int .i64 0, .string ⟨#[]⟩, .int .i64 0, .slice none 0 0, .slice none 0 0, .slice none 0 0, .slice none 0 0] 29 := by rw [← hV0]; exact Blk.new w _ _
  have b0 : Below w.heap.size w V0 := by rw [← hV0]; exact below1 w _
  obtain ⟨N, hN⟩ : ∃ N, w.heap.size = N := ⟨_, rfl⟩
  rw [hN] at k0 b0 ⊢
  obtain ⟨V1, hV1⟩ : ∃ V, V0.setCell ⟨N, 0, none⟩ (.int .i64 2) = V := ⟨_, rfl⟩
  have e0 : V0.cell? ⟨N, 0, none⟩ = some (.int .i64 0) := k0.cell 0 _ rfl
  have g0 := k0.frozen 0
  have k1 : Blk V1 N #[.int .i64 2, .string ⟨#[]⟩, .int .i64 0, .slice none 0 0, .slice none 0 0, .slice none 0 0, .slice none 0 0] 29 := by rw [← hV1]; exact k0.set 0 _
  have b1 : Below N w V1 := by rw [← hV1]; exact b0.setCell (p := ⟨N, 0, none⟩) (Nat.le_refl _) _
  obtain ⟨V2, hV2⟩ : ∃ V, V1.setCell ⟨N, 1, none⟩ (.string ⟨#[]⟩) = V := ⟨_, rfl⟩
  have e1 : V1.cell? ⟨N, 1, none⟩ = some (.string ⟨#[]⟩) := k1.cell 1 _ rfl
  have g1 := k1.frozen 1
  have k2 : Blk V2 N #[.int .i64 2, .string ⟨#[]⟩, .int .i64 0, .slice none 0 0, .slice none 0 0, .slice none 0 0, .slice none 0 0] 29 := by rw [← hV2]; exact k1.set 1 _
  have b2 : Below N w V2 := by rw [← hV2]; exact b1.setCell (p := ⟨N, 1, none⟩) (Nat.le_refl _) _
  obtain ⟨V3, hV3⟩ : ∃ V, V2.setCell ⟨N, 2, none⟩ (.int .i64 k) = V := ⟨_, rfl⟩
  have e2 : V2.cell? ⟨N, 2, none⟩ = some (.int .i64 0) := k2.cell 2 _ rfl
  have g2 := k2.frozen 2
  have k3 : Blk V3 N #[.int .i64 2, .string ⟨#[]⟩, .int .i64 k, .slice none 0 0, .slice none 0 0, .slice none 0 0, .slice none 0 0] 29 := by rw [← hV3]; exact k2.set 2 _
  have b3 : Below N w V3 := by rw [← hV3]; exact b2.setCell (p := ⟨N, 2, none⟩) (Nat.le_refl _) _
  obtain ⟨V4, hV4⟩ : ∃ V, V3.setCell ⟨N, 3, none⟩ (.slice none 0 0) = V := ⟨_, rfl⟩
  have e3 : V3.cell? ⟨N, 3, none⟩ = some (.slice none 0 0) := k3.cell 3 _ rfl
  have g3 := k3.frozen 3
  have k4 : Blk V4 N #[.int .i64 2, .string ⟨#[]⟩, .int .i64 k, .slice none 0 0, .slice none 0 0, .slice none 0 0, .slice none 0 0] 29 := by rw [← hV4]; exact k3.set 3 _
  have b4 : Below N w V4 := by rw [← hV4]; exact b3.setCell (p := ⟨N, 3, none⟩) (Nat.le_refl _) _
  obtain ⟨V5, hV5⟩ : ∃ V, V4.setCell ⟨N, 4, none⟩ (.slice none 0 0) = V := ⟨_, rfl⟩
  have e4 : V4.cell? ⟨N, 4, none⟩ = some (.slice none 0 0) := k4.cell 4 _ rfl
  have g4 := k4.frozen 4
  have k5 : Blk V5 N #[.int .i64 2, .string ⟨#[]⟩, .int .i64 k, .slice none 0 0, .slice none 0 0, .slice none 0 0, .slice none 0 0] 29 := by rw [← hV5]; exact k4.set 4 _
  have b5 : Below N w V5 := by rw [← hV5]; exact b4.setCell (p := ⟨N, 4, none⟩) (Nat.le_refl _) _
  obtain ⟨V6, hV6⟩ : ∃ V, V5.setCell ⟨N, 5, none⟩ (.slice none 0 0) = V := ⟨_, rfl⟩
  have e5 : V5.cell? ⟨N, 5, none⟩ = some (.slice none 0 0) := k5.cell 5 _ rfl
  have g5 := k5.frozen 5
  have k6 : Blk V6 N #[.int .i64 2, .string ⟨#[]⟩, .int .i64 k, .slice none 0 0, .slice none 0 0, .slice none 0 0, .slice none 0 0] 29 := by rw [← hV6]; exact k5.set 5 _
  have b6 : Below N w V6 := by rw [← hV6]; exact b5.setCell (p := ⟨N, 5, none⟩) (Nat.le_refl _) _
  obtain ⟨V7, hV7⟩ : ∃ V, V6.setCell ⟨N, 6, none⟩ (.slice none 0 0) = V := ⟨_, rfl⟩
  have e6 : V6.cell? ⟨N, 6, none⟩ = some (.slice none 0 0) := k6.cell 6 _ rfl
  have g6 := k6.frozen 6
  have k7 : Blk V7 N #[.int .i64 2, .string ⟨#[]⟩, .int .i64 k, .slice none 0 0, .slice none 0 0, .slice none 0 0, .slice none 0 0] 29 := by rw [← hV7]; exact k6.set 6 _
  have b7 : Below N w V7 := by rw [← hV7]; exact b6.setCell (p := ⟨N, 6, none⟩) (Nat.le_refl _) _
  have f0 : V7.cell? ⟨N, 0, none⟩ = some (.int .i64 2) := k7.cell 0 _ rfl
  have f1 : V7.cell? ⟨N, 1, none⟩ = some (.string ⟨#[]⟩) := k7.cell 1 _ rfl
  have f2 : V7.cell? ⟨N, 2, none⟩ = some (.int .i64 k) := k7.cell 2 _ rfl
  have f3 : V7.cell? ⟨N, 3, none⟩ = some (.slice none 0 0) := k7.cell 3 _ rfl
  have f4 : V7.cell? ⟨N, 4, none⟩ = some (.slice none 0 0) := k7.cell 4 _ rfl
  have f5 : V7.cell? ⟨N, 5, none⟩ = some (.slice none 0 0) := k7.cell 5 _ rfl
  have f6 : V7.cell? ⟨N, 6, none⟩ = some (.slice none 0 0) := k7.cell 6 _ rfl
  have HK : Hid (Blk V7 N #[.int .i64 2, .string ⟨#[]⟩, .int .i64 k, .slice none 0 0, .slice none 0 0, .slice none 0 0, .slice none 0 0] 29 ∧ Below N w V7) := ⟨k7, b7⟩
  clear k0 b0 k1 b1 k2 b2 k3 b3 k4 b4 k5 b5 k6 b6 k7 b7
  go_enter Tryd.func10, Tryd.ntmps10
  go_wp2
  (try simp only [Exit.inBlock, Exit.then])
  refine bodyPost_ret (results_cell_row rfl _ _ N 29 _ _ _ rfl HK.out.1 Tryd.underlying29 rfl rfl) rfl ?_
  exact ⟨rfl, HK.out.2⟩
set_option maxHeartbeats 8000000 in
set_option maxRecDepth 100000 in
theorem is16_c (d : Nat) (t : Tr (d + 1)) (va : Value) (k : Nat) (w : World) (ha : ExVal w w.heap.size d t va) (hz : sizeM (d + 1) t ≤ 1048576) (hd : d + 1 ≤ 4096) (hN : NmOK (d + 1) t) (hG : GT16 w) (ht : 8 + wM (d + 1) t ≤ 3000000) :
    Calls Tryd.prog 7 #[va, .int .i64 (k : Int)] w fun e w' => e = .returned (.bool (decide (ofM (d + 1) t [120] = k))) ∧ Below w.heap.size w w' := by
  obtain ⟨o3, c3, o4, c4, o5, c5, o6, c6, ea, -⟩ := id ha
  subst ea
  obtain ⟨V, hV⟩ : ∃ V, w.alloc (.cells #[.int .i64 (TrN.kind t), .string (TrN.name t), .int .i64 (TrN.num t), .slice o3 (TrN.params t).length c3, .slice o4 (TrN.binds t).length c4, .slice o5 (TrN.args t).length c5, .slice o6 (TrN.alts t).length c6] 29) = V := ⟨_, rfl⟩
  have k0 : Blk V w.heap.size #[.int .i64 (TrN.kind t), .string (TrN.name t), .int .i64 (TrN.num t), .slice o3 (TrN.params t).length c3, .slice o4 (TrN.binds t).length c4, .slice o5 (TrN.args t).length c5, .slice o6 (TrN.alts t).length c6] 29 := by rw [← hV]; exact Blk.new w _ _
  have b0 : Below w.heap.size w V := by rw [← hV]; exact below1 w _
  have hx := ha.same (W' := V) (fun g off hg => b0.cell (p := ⟨g, off, none⟩) hg)
  have HO : Hid (Calls Tryd.prog 13 #[.agg #[.int .i64 (TrN.kind t), .string (TrN.name t), .int .i64 (TrN.num t), .slice o3 (TrN.params t).length c3, .slice o4 (TrN.binds t).length c4, .slice o5 (TrN.args t).length c5, .slice o6 (TrN.alts t).length c6], .string ⟨#[120]⟩] V fun e w' => e = .returned (.tuple #[.int .i64 (ofM (d + 1) t [120] : Nat), .int .i64 0]) ∧ Below V.heap.size V w') :=
    Of_c16 d t _ ⟨#[120]⟩ w.heap.size V hx b0.size hz hd hN (by unfold maxLen; decide) (hG.below (F := w.heap.size) hG.size b0) ht
  have HB : Hid (Below w.heap.size w V) := b0
  obtain ⟨q0, q1, q2, q3, q4, q5, q6⟩ := k0.cells7
  have lV := k0.lt
  generalize ofM (d + 1) t [120] = oc at HO ⊢
  clear ha hz hd hN hG ht k0 b0 hx
  have hck : decide ((oc : Int) = (k : Int)) = decide (oc = k) := by
    by_cases h : oc = k
    · rw [decide_eq_true h, decide_eq_true (by omega)]
    · rw [decide_eq_false h, decide_eq_false (by omega)]
  by_cases hk : oc = k
  · subst hk
    go_enter Tryd.func7, Tryd.ntmps7
    go_wp2_with (go_at_call 13; fail)
    (try rw [hV])
    refine HO.out.mono ?_
    rintro e w1 ⟨rfl, h1⟩
    have H1 : Hid (Below w.heap.size w w1) := HB.out.trans (h1.mono HB.out.size)
    clear h1 HO
    go_wp2
    go_ret
    have e9 : decide (oc = oc) = true := decide_eq_true rfl
    first | exact ⟨rfl, H1.out⟩ | (rw [e9]; exact ⟨rfl, H1.out⟩)
  · have hkI : ¬ ((oc : Int) = (k : Int)) := by omega
    go_enter Tryd.func7, Tryd.ntmps7
    go_wp2_with (go_at_call 13; fail)
    (try rw [hV])
    refine HO.out.mono ?_
    rintro e w1 ⟨rfl, h1⟩
    have H1 : Hid (Below w.heap.size w w1) := HB.out.trans (h1.mono HB.out.size)
    clear h1 HO
    go_wp2
    go_ret
    have e9 : decide (oc = k) = false := decide_eq_false hk
    rw [e9]
    exact ⟨rfl, H1.out⟩
def varT16 (y : ByteArray) : Tr 1 := (⟨1, y, 0, [], [], [], []⟩ : TrN (Tr 0))
def numT16 (k : Int) : Tr 1 := (⟨2, ⟨#[]⟩, k, [], [], [], []⟩ : TrN (Tr 0))
def lamT16 (x y : ByteArray) : Tr 2 := (⟨5, ⟨#[]⟩, 0, [x], [], [varT16 y], []⟩ : TrN (Tr 1))
def appT16 (x y : ByteArray) : Tr 2 := (⟨6, ⟨#[]⟩, 0, [], [], [varT16 x, varT16 y], []⟩ : TrN (Tr 1))
def chT16 (a b c : Tr 1) : Tr 2 := (⟨8, ⟨#[]⟩, 0, [], [], [a], [(⟨2, ⟨#[]⟩, 1, []⟩, b), (⟨4, ⟨#[]⟩, 0, []⟩, c)]⟩ : TrN (Tr 1))
def vV (y : ByteArray) : Array Value := #[.int .i64 1, .string y, .int .i64 0, .slice none 0 0, .slice none 0 0, .slice none 0 0, .slice none 0 0]
def nV (k : Int) : Array Value := #[.int .i64 2, .string ⟨#[]⟩, .int .i64 k, .slice none 0 0, .slice none 0 0, .slice none 0 0, .slice none 0 0]
theorem var_val16 (y : ByteArray) (W : World) : ExVal W W.heap.size 0 (varT16 y) (.agg (vV y)) := ⟨none, 0, none, 0, none, 0, none, 0, rfl, .inl rfl, .inl rfl, .inl rfl, .inl rfl⟩
theorem num_val16 (k : Int) (W : World) : ExVal W W.heap.size 0 (numT16 k) (.agg (nV k)) := ⟨none, 0, none, 0, none, 0, none, 0, rfl, .inl rfl, .inl rfl, .inl rfl, .inl rfl⟩
/-- A leaf in memory. -/
theorem leaf_at {W : World} {B N off : Nat} {t : Tr 1} {b : ByteArray} {k n : Int} (ht : t = (⟨k, b, n, [], [], [], []⟩ : TrN (Tr 0))) (hN : N < B) (h0 : W.cell? ⟨N, off, none⟩ = some (.int .i64 k)) (h1 : W.cell? ⟨N, off + 1, none⟩ = some (.string b)) (h2 : W.cell? ⟨N, off + 2, none⟩ = some (.int .i64 n)) (h3 : W.cell? ⟨N, off + 3, none⟩ = some (.slice none 0 0)) (h4 : W.cell? ⟨N, off + 4, none⟩ = some (.slice none 0 0)) (h5 : W.cell? ⟨N, off + 5, none⟩ = some (.slice none 0 0)) (h6 : W.cell? ⟨N, off + 6, none⟩ = some (.slice none 0 0)) : ExAt W B 1 t N off := by
  subst ht
  exact ⟨hN, h0, h1, h2, ⟨none, 0, h3, .inl rfl⟩, ⟨none, 0, h4, .inl rfl⟩, ⟨none, 0, h5, .inl rfl⟩, ⟨none, 0, h6, .inl rfl⟩⟩
theorem lam_val16 {W : World} {x y : ByteArray} {N M : Nat} (h : Blk W N #[.string x] 9) (k : Blk W M (vV y) 29) : ExVal W W.heap.size 1 (lamT16 x y) (.agg #[.int .i64 5, .string ⟨#[]⟩, .int .i64 0, .slice (some ⟨N, 0, none⟩) 1 1, .slice none 0 0, .slice (some ⟨M, 0, none⟩) 1 1, .slice none 0 0]) := by
  refine ⟨some ⟨N, 0, none⟩, 1, none, 0, some ⟨M, 0, none⟩, 1, none, 0, rfl, .inr ⟨N, 0, rfl, h.lt, fun j hj => ?_⟩, .inl rfl, .inr ⟨M, 0, rfl, k.lt, fun j hj => ?_⟩, .inl rfl⟩
  · have : j = 0 := Nat.lt_one_iff.1 hj
    subst this; exact h.cell 0 _ rfl
  · have : j = 0 := Nat.lt_one_iff.1 hj
    subst this
    exact leaf_at rfl k.lt (k.cell 0 _ rfl) (k.cell 1 _ rfl) (k.cell 2 _ rfl) (k.cell 3 _ rfl) (k.cell 4 _ rfl) (k.cell 5 _ rfl) (k.cell 6 _ rfl)
theorem app_val16 {W : World} {x y : ByteArray} {M : Nat} (k : Blk W M (vV x ++ vV y) 29) : ExVal W W.heap.size 1 (appT16 x y) (.agg #[.int .i64 6, .string ⟨#[]⟩, .int .i64 0, .slice none 0 0, .slice none 0 0, .slice (some ⟨M, 0, none⟩) 2 2, .slice none 0 0]) := by
  refine ⟨none, 0, none, 0, some ⟨M, 0, none⟩, 2, none, 0, rfl, .inl rfl, .inl rfl, .inr ⟨M, 0, rfl, k.lt, fun j hj => ?_⟩, .inl rfl⟩
  have hj2 : j < 2 := hj
  rcases (by omega : j = 0 ∨ j = 1) with rfl | rfl
  · exact leaf_at rfl k.lt (k.cell 0 _ rfl) (k.cell 1 _ rfl) (k.cell 2 _ rfl) (k.cell 3 _ rfl) (k.cell 4 _ rfl) (k.cell 5 _ rfl) (k.cell 6 _ rfl)
  · exact leaf_at rfl k.lt (k.cell 7 _ rfl) (k.cell 8 _ rfl) (k.cell 9 _ rfl) (k.cell 10 _ rfl) (k.cell 11 _ rfl) (k.cell 12 _ rfl) (k.cell 13 _ rfl)
theorem nm_leaf16 {t : Tr 1} {b : ByteArray} {k n : Int} (ht : t = (⟨k, b, n, [], [], [], []⟩ : TrN (Tr 0))) (hb : b.size ≤ maxLen) : NmOK 1 t := by
  subst ht
  exact ⟨hb, fun x hx => (by cases hx), fun x hx => (by cases hx), fun x hx => (by cases hx), fun x hx => (by cases hx)⟩
theorem is_val16 (d : Nat) (t : Tr (d + 1)) (va : Value) (k : Nat) (w : World) (ha : ExVal w w.heap.size d t va) (hG : GT16 w) (hN : NmOK (d + 1) t) (hz : sizeM (d + 1) t ≤ 10) (hc : costM (d + 1) t ≤ 10) (hd : d + 1 ≤ 10) (hk : ofM (d + 1) t [120] = k) :
    Calls Tryd.prog 7 #[va, .int .i64 (k : Int)] w fun e w' => e = .returned (.bool true) ∧ Below w.heap.size w w' := by
  refine (is16_c d t va k w ha (by omega) (by omega) hN hG (by unfold wM; omega)).mono ?_
  rintro e w' ⟨rfl, h⟩
  have e9 : decide (ofM (d + 1) t [120] = k) = true := decide_eq_true hk
  rw [e9]
  exact ⟨rfl, h⟩
end Go.Proofs.YtjmpjfggbhongaaDoor
