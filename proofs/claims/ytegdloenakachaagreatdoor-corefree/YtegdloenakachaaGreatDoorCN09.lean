/-
  The laws' own v, num, app, con, prim: expressions made, by contracts.
  The laws' own lam, by a contract.
  boundBy: the names that bindings bind, by a contract.
  isName, by a contract.
  programFits, by a contract.
-/
import Derived.Test.YtegdloenakachaaGreatDoorCN08
import Derived.Laws.Rows
import Derived.Deep.OwnRows
namespace Go.Proofs.YtegdloenakachaaGreatDoor
open Go.RowKit Go.Shelf Go.Maps
set_option linter.unusedVariables false

set_option maxRecDepth 100000 in
set_option maxHeartbeats 4000000 in
theorem lv_c (s : ByteArray) (w : World) : Calls Tryz.prog 10 #[.string s] w fun e w' => e = .returned (.agg #[.int .i64 1, .string s, .int .i64 0, .slice none 0 0, .slice none 0 0, .slice none 0 0, .slice none 0 0]) ∧ Below w.heap.size w w' := by
  obtain ⟨V0, hV0⟩ : ∃ V, w.alloc (.cells #[.int .i64 0, .string ⟨#[]⟩, .int .i64 0, .slice none 0 0, .slice none 0 0, .slice none 0 0, .slice none 0 0] 31) = V := ⟨_, rfl⟩
  have k0 : Blk V0 w.heap.size #[.int .i64 0, .string ⟨#[]⟩, .int .i64 0, .slice none 0 0, .slice none 0 0, .slice none 0 0, .slice none 0 0] 31 := by rw [← hV0]; exact Blk.new w _ _
  have b0 : Below w.heap.size w V0 := by rw [← hV0]; exact below1 w _
  obtain ⟨N, hN⟩ : ∃ N, w.heap.size = N := ⟨_, rfl⟩
  rw [hN] at k0 b0 ⊢
  obtain ⟨V1, hV1⟩ : ∃ V, V0.setCell ⟨N, 0, none⟩ (.int .i64 1) = V := ⟨_, rfl⟩
  have e0 : V0.cell? ⟨N, 0, none⟩ = some (.int .i64 0) := k0.cell 0 _ rfl
  have g0 := k0.frozen 0
  have k1 : Blk V1 N #[.int .i64 1, .string ⟨#[]⟩, .int .i64 0, .slice none 0 0, .slice none 0 0, .slice none 0 0, .slice none 0 0] 31 := by rw [← hV1]; exact k0.set 0 _
  have b1 : Below N w V1 := by rw [← hV1]; exact b0.setCell (p := ⟨N, 0, none⟩) (Nat.le_refl _) _
  obtain ⟨V2, hV2⟩ : ∃ V, V1.setCell ⟨N, 1, none⟩ (.string s) = V := ⟨_, rfl⟩
  have e1 : V1.cell? ⟨N, 1, none⟩ = some (.string ⟨#[]⟩) := k1.cell 1 _ rfl
  have g1 := k1.frozen 1
  have k2 : Blk V2 N #[.int .i64 1, .string s, .int .i64 0, .slice none 0 0, .slice none 0 0, .slice none 0 0, .slice none 0 0] 31 := by rw [← hV2]; exact k1.set 1 _
  have b2 : Below N w V2 := by rw [← hV2]; exact b1.setCell (p := ⟨N, 1, none⟩) (Nat.le_refl _) _
  obtain ⟨V3, hV3⟩ : ∃ V, V2.setCell ⟨N, 2, none⟩ (.int .i64 0) = V := ⟨_, rfl⟩
  have e2 : V2.cell? ⟨N, 2, none⟩ = some (.int .i64 0) := k2.cell 2 _ rfl
  have g2 := k2.frozen 2
  have k3 : Blk V3 N #[.int .i64 1, .string s, .int .i64 0, .slice none 0 0, .slice none 0 0, .slice none 0 0, .slice none 0 0] 31 := by rw [← hV3]; exact k2.set 2 _
  have b3 : Below N w V3 := by rw [← hV3]; exact b2.setCell (p := ⟨N, 2, none⟩) (Nat.le_refl _) _
  obtain ⟨V4, hV4⟩ : ∃ V, V3.setCell ⟨N, 3, none⟩ (.slice none 0 0) = V := ⟨_, rfl⟩
  have e3 : V3.cell? ⟨N, 3, none⟩ = some (.slice none 0 0) := k3.cell 3 _ rfl
  have g3 := k3.frozen 3
  have k4 : Blk V4 N #[.int .i64 1, .string s, .int .i64 0, .slice none 0 0, .slice none 0 0, .slice none 0 0, .slice none 0 0] 31 := by rw [← hV4]; exact k3.set 3 _
  have b4 : Below N w V4 := by rw [← hV4]; exact b3.setCell (p := ⟨N, 3, none⟩) (Nat.le_refl _) _
  obtain ⟨V5, hV5⟩ : ∃ V, V4.setCell ⟨N, 4, none⟩ (.slice none 0 0) = V := ⟨_, rfl⟩
  have e4 : V4.cell? ⟨N, 4, none⟩ = some (.slice none 0 0) := k4.cell 4 _ rfl
  have g4 := k4.frozen 4
  have k5 : Blk V5 N #[.int .i64 1, .string s, .int .i64 0, .slice none 0 0, .slice none 0 0, .slice none 0 0, .slice none 0 0] 31 := by rw [← hV5]; exact k4.set 4 _
  have b5 : Below N w V5 := by rw [← hV5]; exact b4.setCell (p := ⟨N, 4, none⟩) (Nat.le_refl _) _
  obtain ⟨V6, hV6⟩ : ∃ V, V5.setCell ⟨N, 5, none⟩ (.slice none 0 0) = V := ⟨_, rfl⟩
  have e5 : V5.cell? ⟨N, 5, none⟩ = some (.slice none 0 0) := k5.cell 5 _ rfl
  have g5 := k5.frozen 5
  have k6 : Blk V6 N #[.int .i64 1, .string s, .int .i64 0, .slice none 0 0, .slice none 0 0, .slice none 0 0, .slice none 0 0] 31 := by rw [← hV6]; exact k5.set 5 _
  have b6 : Below N w V6 := by rw [← hV6]; exact b5.setCell (p := ⟨N, 5, none⟩) (Nat.le_refl _) _
  obtain ⟨V7, hV7⟩ : ∃ V, V6.setCell ⟨N, 6, none⟩ (.slice none 0 0) = V := ⟨_, rfl⟩
  have e6 : V6.cell? ⟨N, 6, none⟩ = some (.slice none 0 0) := k6.cell 6 _ rfl
  have g6 := k6.frozen 6
  have k7 : Blk V7 N #[.int .i64 1, .string s, .int .i64 0, .slice none 0 0, .slice none 0 0, .slice none 0 0, .slice none 0 0] 31 := by rw [← hV7]; exact k6.set 6 _
  have b7 : Below N w V7 := by rw [← hV7]; exact b6.setCell (p := ⟨N, 6, none⟩) (Nat.le_refl _) _
  have f0 : V7.cell? ⟨N, 0, none⟩ = some (.int .i64 1) := k7.cell 0 _ rfl
  have f1 : V7.cell? ⟨N, 1, none⟩ = some (.string s) := k7.cell 1 _ rfl
  have f2 : V7.cell? ⟨N, 2, none⟩ = some (.int .i64 0) := k7.cell 2 _ rfl
  have f3 : V7.cell? ⟨N, 3, none⟩ = some (.slice none 0 0) := k7.cell 3 _ rfl
  have f4 : V7.cell? ⟨N, 4, none⟩ = some (.slice none 0 0) := k7.cell 4 _ rfl
  have f5 : V7.cell? ⟨N, 5, none⟩ = some (.slice none 0 0) := k7.cell 5 _ rfl
  have f6 : V7.cell? ⟨N, 6, none⟩ = some (.slice none 0 0) := k7.cell 6 _ rfl
  have HK : Hid (Blk V7 N #[.int .i64 1, .string s, .int .i64 0, .slice none 0 0, .slice none 0 0, .slice none 0 0, .slice none 0 0] 31 ∧ Below N w V7) := ⟨k7, b7⟩
  clear k0 b0 k1 b1 k2 b2 k3 b3 k4 b4 k5 b5 k6 b6 k7 b7
  go_enter Tryz.func10, Tryz.ntmps10
  go_wp2
  (try simp only [Exit.inBlock, Exit.then])
  refine bodyPost_ret (results_cell_row rfl _ _ N 31 _ _ _ rfl HK.out.1 Tryz.underlying31 rfl rfl) rfl ?_
  exact ⟨rfl, HK.out.2⟩
set_option maxRecDepth 100000 in
set_option maxHeartbeats 4000000 in
theorem lnum_c (k : Int) (w : World) : Calls Tryz.prog 11 #[.int .i64 k] w fun e w' => e = .returned (.agg #[.int .i64 2, .string ⟨#[]⟩, .int .i64 k, .slice none 0 0, .slice none 0 0, .slice none 0 0, .slice none 0 0]) ∧ Below w.heap.size w w' := by
  obtain ⟨V0, hV0⟩ : ∃ V, w.alloc (.cells #[.int .i64 0, .string ⟨#[]⟩, .int .i64 0, .slice none 0 0, .slice none 0 0, .slice none 0 0, .slice none 0 0] 31) = V := ⟨_, rfl⟩
  have k0 : Blk V0 w.heap.size #[.int .i64 0, .string ⟨#[]⟩, .int .i64 0, .slice none 0 0, .slice none 0 0, .slice none 0 0, .slice none 0 0] 31 := by rw [← hV0]; exact Blk.new w _ _
  have b0 : Below w.heap.size w V0 := by rw [← hV0]; exact below1 w _
  obtain ⟨N, hN⟩ : ∃ N, w.heap.size = N := ⟨_, rfl⟩
  rw [hN] at k0 b0 ⊢
  obtain ⟨V1, hV1⟩ : ∃ V, V0.setCell ⟨N, 0, none⟩ (.int .i64 2) = V := ⟨_, rfl⟩
  have e0 : V0.cell? ⟨N, 0, none⟩ = some (.int .i64 0) := k0.cell 0 _ rfl
  have g0 := k0.frozen 0
  have k1 : Blk V1 N #[.int .i64 2, .string ⟨#[]⟩, .int .i64 0, .slice none 0 0, .slice none 0 0, .slice none 0 0, .slice none 0 0] 31 := by rw [← hV1]; exact k0.set 0 _
  have b1 : Below N w V1 := by rw [← hV1]; exact b0.setCell (p := ⟨N, 0, none⟩) (Nat.le_refl _) _
  obtain ⟨V2, hV2⟩ : ∃ V, V1.setCell ⟨N, 1, none⟩ (.string ⟨#[]⟩) = V := ⟨_, rfl⟩
  have e1 : V1.cell? ⟨N, 1, none⟩ = some (.string ⟨#[]⟩) := k1.cell 1 _ rfl
  have g1 := k1.frozen 1
  have k2 : Blk V2 N #[.int .i64 2, .string ⟨#[]⟩, .int .i64 0, .slice none 0 0, .slice none 0 0, .slice none 0 0, .slice none 0 0] 31 := by rw [← hV2]; exact k1.set 1 _
  have b2 : Below N w V2 := by rw [← hV2]; exact b1.setCell (p := ⟨N, 1, none⟩) (Nat.le_refl _) _
  obtain ⟨V3, hV3⟩ : ∃ V, V2.setCell ⟨N, 2, none⟩ (.int .i64 k) = V := ⟨_, rfl⟩
  have e2 : V2.cell? ⟨N, 2, none⟩ = some (.int .i64 0) := k2.cell 2 _ rfl
  have g2 := k2.frozen 2
  have k3 : Blk V3 N #[.int .i64 2, .string ⟨#[]⟩, .int .i64 k, .slice none 0 0, .slice none 0 0, .slice none 0 0, .slice none 0 0] 31 := by rw [← hV3]; exact k2.set 2 _
  have b3 : Below N w V3 := by rw [← hV3]; exact b2.setCell (p := ⟨N, 2, none⟩) (Nat.le_refl _) _
  obtain ⟨V4, hV4⟩ : ∃ V, V3.setCell ⟨N, 3, none⟩ (.slice none 0 0) = V := ⟨_, rfl⟩
  have e3 : V3.cell? ⟨N, 3, none⟩ = some (.slice none 0 0) := k3.cell 3 _ rfl
  have g3 := k3.frozen 3
  have k4 : Blk V4 N #[.int .i64 2, .string ⟨#[]⟩, .int .i64 k, .slice none 0 0, .slice none 0 0, .slice none 0 0, .slice none 0 0] 31 := by rw [← hV4]; exact k3.set 3 _
  have b4 : Below N w V4 := by rw [← hV4]; exact b3.setCell (p := ⟨N, 3, none⟩) (Nat.le_refl _) _
  obtain ⟨V5, hV5⟩ : ∃ V, V4.setCell ⟨N, 4, none⟩ (.slice none 0 0) = V := ⟨_, rfl⟩
  have e4 : V4.cell? ⟨N, 4, none⟩ = some (.slice none 0 0) := k4.cell 4 _ rfl
  have g4 := k4.frozen 4
  have k5 : Blk V5 N #[.int .i64 2, .string ⟨#[]⟩, .int .i64 k, .slice none 0 0, .slice none 0 0, .slice none 0 0, .slice none 0 0] 31 := by rw [← hV5]; exact k4.set 4 _
  have b5 : Below N w V5 := by rw [← hV5]; exact b4.setCell (p := ⟨N, 4, none⟩) (Nat.le_refl _) _
  obtain ⟨V6, hV6⟩ : ∃ V, V5.setCell ⟨N, 5, none⟩ (.slice none 0 0) = V := ⟨_, rfl⟩
  have e5 : V5.cell? ⟨N, 5, none⟩ = some (.slice none 0 0) := k5.cell 5 _ rfl
  have g5 := k5.frozen 5
  have k6 : Blk V6 N #[.int .i64 2, .string ⟨#[]⟩, .int .i64 k, .slice none 0 0, .slice none 0 0, .slice none 0 0, .slice none 0 0] 31 := by rw [← hV6]; exact k5.set 5 _
  have b6 : Below N w V6 := by rw [← hV6]; exact b5.setCell (p := ⟨N, 5, none⟩) (Nat.le_refl _) _
  obtain ⟨V7, hV7⟩ : ∃ V, V6.setCell ⟨N, 6, none⟩ (.slice none 0 0) = V := ⟨_, rfl⟩
  have e6 : V6.cell? ⟨N, 6, none⟩ = some (.slice none 0 0) := k6.cell 6 _ rfl
  have g6 := k6.frozen 6
  have k7 : Blk V7 N #[.int .i64 2, .string ⟨#[]⟩, .int .i64 k, .slice none 0 0, .slice none 0 0, .slice none 0 0, .slice none 0 0] 31 := by rw [← hV7]; exact k6.set 6 _
  have b7 : Below N w V7 := by rw [← hV7]; exact b6.setCell (p := ⟨N, 6, none⟩) (Nat.le_refl _) _
  have f0 : V7.cell? ⟨N, 0, none⟩ = some (.int .i64 2) := k7.cell 0 _ rfl
  have f1 : V7.cell? ⟨N, 1, none⟩ = some (.string ⟨#[]⟩) := k7.cell 1 _ rfl
  have f2 : V7.cell? ⟨N, 2, none⟩ = some (.int .i64 k) := k7.cell 2 _ rfl
  have f3 : V7.cell? ⟨N, 3, none⟩ = some (.slice none 0 0) := k7.cell 3 _ rfl
  have f4 : V7.cell? ⟨N, 4, none⟩ = some (.slice none 0 0) := k7.cell 4 _ rfl
  have f5 : V7.cell? ⟨N, 5, none⟩ = some (.slice none 0 0) := k7.cell 5 _ rfl
  have f6 : V7.cell? ⟨N, 6, none⟩ = some (.slice none 0 0) := k7.cell 6 _ rfl
  have HK : Hid (Blk V7 N #[.int .i64 2, .string ⟨#[]⟩, .int .i64 k, .slice none 0 0, .slice none 0 0, .slice none 0 0, .slice none 0 0] 31 ∧ Below N w V7) := ⟨k7, b7⟩
  clear k0 b0 k1 b1 k2 b2 k3 b3 k4 b4 k5 b5 k6 b6 k7 b7
  go_enter Tryz.func11, Tryz.ntmps11
  go_wp2
  (try simp only [Exit.inBlock, Exit.then])
  refine bodyPost_ret (results_cell_row rfl _ _ N 31 _ _ _ rfl HK.out.1 Tryz.underlying31 rfl rfl) rfl ?_
  exact ⟨rfl, HK.out.2⟩
set_option maxRecDepth 100000 in
set_option maxHeartbeats 4000000 in
theorem lapp_c (o : Option Addr) (n c : Nat) (w : World) : Calls Tryz.prog 9 #[.slice o n c] w fun e w' => e = .returned (.agg #[.int .i64 6, .string ⟨#[]⟩, .int .i64 0, .slice none 0 0, .slice none 0 0, .slice o n c, .slice none 0 0]) ∧ Below w.heap.size w w' := by
  obtain ⟨V0, hV0⟩ : ∃ V, w.alloc (.cells #[.int .i64 0, .string ⟨#[]⟩, .int .i64 0, .slice none 0 0, .slice none 0 0, .slice none 0 0, .slice none 0 0] 31) = V := ⟨_, rfl⟩
  have k0 : Blk V0 w.heap.size #[.int .i64 0, .string ⟨#[]⟩, .int .i64 0, .slice none 0 0, .slice none 0 0, .slice none 0 0, .slice none 0 0] 31 := by rw [← hV0]; exact Blk.new w _ _
  have b0 : Below w.heap.size w V0 := by rw [← hV0]; exact below1 w _
  obtain ⟨N, hN⟩ : ∃ N, w.heap.size = N := ⟨_, rfl⟩
  rw [hN] at k0 b0 ⊢
  obtain ⟨V1, hV1⟩ : ∃ V, V0.setCell ⟨N, 0, none⟩ (.int .i64 6) = V := ⟨_, rfl⟩
  have e0 : V0.cell? ⟨N, 0, none⟩ = some (.int .i64 0) := k0.cell 0 _ rfl
  have g0 := k0.frozen 0
  have k1 : Blk V1 N #[.int .i64 6, .string ⟨#[]⟩, .int .i64 0, .slice none 0 0, .slice none 0 0, .slice none 0 0, .slice none 0 0] 31 := by rw [← hV1]; exact k0.set 0 _
  have b1 : Below N w V1 := by rw [← hV1]; exact b0.setCell (p := ⟨N, 0, none⟩) (Nat.le_refl _) _
  obtain ⟨V2, hV2⟩ : ∃ V, V1.setCell ⟨N, 1, none⟩ (.string ⟨#[]⟩) = V := ⟨_, rfl⟩
  have e1 : V1.cell? ⟨N, 1, none⟩ = some (.string ⟨#[]⟩) := k1.cell 1 _ rfl
  have g1 := k1.frozen 1
  have k2 : Blk V2 N #[.int .i64 6, .string ⟨#[]⟩, .int .i64 0, .slice none 0 0, .slice none 0 0, .slice none 0 0, .slice none 0 0] 31 := by rw [← hV2]; exact k1.set 1 _
  have b2 : Below N w V2 := by rw [← hV2]; exact b1.setCell (p := ⟨N, 1, none⟩) (Nat.le_refl _) _
  obtain ⟨V3, hV3⟩ : ∃ V, V2.setCell ⟨N, 2, none⟩ (.int .i64 0) = V := ⟨_, rfl⟩
  have e2 : V2.cell? ⟨N, 2, none⟩ = some (.int .i64 0) := k2.cell 2 _ rfl
  have g2 := k2.frozen 2
  have k3 : Blk V3 N #[.int .i64 6, .string ⟨#[]⟩, .int .i64 0, .slice none 0 0, .slice none 0 0, .slice none 0 0, .slice none 0 0] 31 := by rw [← hV3]; exact k2.set 2 _
  have b3 : Below N w V3 := by rw [← hV3]; exact b2.setCell (p := ⟨N, 2, none⟩) (Nat.le_refl _) _
  obtain ⟨V4, hV4⟩ : ∃ V, V3.setCell ⟨N, 3, none⟩ (.slice none 0 0) = V := ⟨_, rfl⟩
  have e3 : V3.cell? ⟨N, 3, none⟩ = some (.slice none 0 0) := k3.cell 3 _ rfl
  have g3 := k3.frozen 3
  have k4 : Blk V4 N #[.int .i64 6, .string ⟨#[]⟩, .int .i64 0, .slice none 0 0, .slice none 0 0, .slice none 0 0, .slice none 0 0] 31 := by rw [← hV4]; exact k3.set 3 _
  have b4 : Below N w V4 := by rw [← hV4]; exact b3.setCell (p := ⟨N, 3, none⟩) (Nat.le_refl _) _
  obtain ⟨V5, hV5⟩ : ∃ V, V4.setCell ⟨N, 4, none⟩ (.slice none 0 0) = V := ⟨_, rfl⟩
  have e4 : V4.cell? ⟨N, 4, none⟩ = some (.slice none 0 0) := k4.cell 4 _ rfl
  have g4 := k4.frozen 4
  have k5 : Blk V5 N #[.int .i64 6, .string ⟨#[]⟩, .int .i64 0, .slice none 0 0, .slice none 0 0, .slice none 0 0, .slice none 0 0] 31 := by rw [← hV5]; exact k4.set 4 _
  have b5 : Below N w V5 := by rw [← hV5]; exact b4.setCell (p := ⟨N, 4, none⟩) (Nat.le_refl _) _
  obtain ⟨V6, hV6⟩ : ∃ V, V5.setCell ⟨N, 5, none⟩ (.slice o n c) = V := ⟨_, rfl⟩
  have e5 : V5.cell? ⟨N, 5, none⟩ = some (.slice none 0 0) := k5.cell 5 _ rfl
  have g5 := k5.frozen 5
  have k6 : Blk V6 N #[.int .i64 6, .string ⟨#[]⟩, .int .i64 0, .slice none 0 0, .slice none 0 0, .slice o n c, .slice none 0 0] 31 := by rw [← hV6]; exact k5.set 5 _
  have b6 : Below N w V6 := by rw [← hV6]; exact b5.setCell (p := ⟨N, 5, none⟩) (Nat.le_refl _) _
  obtain ⟨V7, hV7⟩ : ∃ V, V6.setCell ⟨N, 6, none⟩ (.slice none 0 0) = V := ⟨_, rfl⟩
  have e6 : V6.cell? ⟨N, 6, none⟩ = some (.slice none 0 0) := k6.cell 6 _ rfl
  have g6 := k6.frozen 6
  have k7 : Blk V7 N #[.int .i64 6, .string ⟨#[]⟩, .int .i64 0, .slice none 0 0, .slice none 0 0, .slice o n c, .slice none 0 0] 31 := by rw [← hV7]; exact k6.set 6 _
  have b7 : Below N w V7 := by rw [← hV7]; exact b6.setCell (p := ⟨N, 6, none⟩) (Nat.le_refl _) _
  have f0 : V7.cell? ⟨N, 0, none⟩ = some (.int .i64 6) := k7.cell 0 _ rfl
  have f1 : V7.cell? ⟨N, 1, none⟩ = some (.string ⟨#[]⟩) := k7.cell 1 _ rfl
  have f2 : V7.cell? ⟨N, 2, none⟩ = some (.int .i64 0) := k7.cell 2 _ rfl
  have f3 : V7.cell? ⟨N, 3, none⟩ = some (.slice none 0 0) := k7.cell 3 _ rfl
  have f4 : V7.cell? ⟨N, 4, none⟩ = some (.slice none 0 0) := k7.cell 4 _ rfl
  have f5 : V7.cell? ⟨N, 5, none⟩ = some (.slice o n c) := k7.cell 5 _ rfl
  have f6 : V7.cell? ⟨N, 6, none⟩ = some (.slice none 0 0) := k7.cell 6 _ rfl
  have HK : Hid (Blk V7 N #[.int .i64 6, .string ⟨#[]⟩, .int .i64 0, .slice none 0 0, .slice none 0 0, .slice o n c, .slice none 0 0] 31 ∧ Below N w V7) := ⟨k7, b7⟩
  clear k0 b0 k1 b1 k2 b2 k3 b3 k4 b4 k5 b5 k6 b6 k7 b7
  go_enter Tryz.func9, Tryz.ntmps9
  go_wp2
  (try simp only [Exit.inBlock, Exit.then])
  refine bodyPost_ret (results_cell_row rfl _ _ N 31 _ _ _ rfl HK.out.1 Tryz.underlying31 rfl rfl) rfl ?_
  exact ⟨rfl, HK.out.2⟩
set_option maxRecDepth 100000 in
set_option maxHeartbeats 4000000 in
theorem lcon_c (s : ByteArray) (o : Option Addr) (n c : Nat) (w : World) : Calls Tryz.prog 19 #[.string s, .slice o n c] w fun e w' => e = .returned (.agg #[.int .i64 4, .string s, .int .i64 0, .slice none 0 0, .slice none 0 0, .slice o n c, .slice none 0 0]) ∧ Below w.heap.size w w' := by
  obtain ⟨V0, hV0⟩ : ∃ V, w.alloc (.cells #[.int .i64 0, .string ⟨#[]⟩, .int .i64 0, .slice none 0 0, .slice none 0 0, .slice none 0 0, .slice none 0 0] 31) = V := ⟨_, rfl⟩
  have k0 : Blk V0 w.heap.size #[.int .i64 0, .string ⟨#[]⟩, .int .i64 0, .slice none 0 0, .slice none 0 0, .slice none 0 0, .slice none 0 0] 31 := by rw [← hV0]; exact Blk.new w _ _
  have b0 : Below w.heap.size w V0 := by rw [← hV0]; exact below1 w _
  obtain ⟨N, hN⟩ : ∃ N, w.heap.size = N := ⟨_, rfl⟩
  rw [hN] at k0 b0 ⊢
  obtain ⟨V1, hV1⟩ : ∃ V, V0.setCell ⟨N, 0, none⟩ (.int .i64 4) = V := ⟨_, rfl⟩
  have e0 : V0.cell? ⟨N, 0, none⟩ = some (.int .i64 0) := k0.cell 0 _ rfl
  have g0 := k0.frozen 0
  have k1 : Blk V1 N #[.int .i64 4, .string ⟨#[]⟩, .int .i64 0, .slice none 0 0, .slice none 0 0, .slice none 0 0, .slice none 0 0] 31 := by rw [← hV1]; exact k0.set 0 _
  have b1 : Below N w V1 := by rw [← hV1]; exact b0.setCell (p := ⟨N, 0, none⟩) (Nat.le_refl _) _
  obtain ⟨V2, hV2⟩ : ∃ V, V1.setCell ⟨N, 1, none⟩ (.string s) = V := ⟨_, rfl⟩
  have e1 : V1.cell? ⟨N, 1, none⟩ = some (.string ⟨#[]⟩) := k1.cell 1 _ rfl
  have g1 := k1.frozen 1
  have k2 : Blk V2 N #[.int .i64 4, .string s, .int .i64 0, .slice none 0 0, .slice none 0 0, .slice none 0 0, .slice none 0 0] 31 := by rw [← hV2]; exact k1.set 1 _
  have b2 : Below N w V2 := by rw [← hV2]; exact b1.setCell (p := ⟨N, 1, none⟩) (Nat.le_refl _) _
  obtain ⟨V3, hV3⟩ : ∃ V, V2.setCell ⟨N, 2, none⟩ (.int .i64 0) = V := ⟨_, rfl⟩
  have e2 : V2.cell? ⟨N, 2, none⟩ = some (.int .i64 0) := k2.cell 2 _ rfl
  have g2 := k2.frozen 2
  have k3 : Blk V3 N #[.int .i64 4, .string s, .int .i64 0, .slice none 0 0, .slice none 0 0, .slice none 0 0, .slice none 0 0] 31 := by rw [← hV3]; exact k2.set 2 _
  have b3 : Below N w V3 := by rw [← hV3]; exact b2.setCell (p := ⟨N, 2, none⟩) (Nat.le_refl _) _
  obtain ⟨V4, hV4⟩ : ∃ V, V3.setCell ⟨N, 3, none⟩ (.slice none 0 0) = V := ⟨_, rfl⟩
  have e3 : V3.cell? ⟨N, 3, none⟩ = some (.slice none 0 0) := k3.cell 3 _ rfl
  have g3 := k3.frozen 3
  have k4 : Blk V4 N #[.int .i64 4, .string s, .int .i64 0, .slice none 0 0, .slice none 0 0, .slice none 0 0, .slice none 0 0] 31 := by rw [← hV4]; exact k3.set 3 _
  have b4 : Below N w V4 := by rw [← hV4]; exact b3.setCell (p := ⟨N, 3, none⟩) (Nat.le_refl _) _
  obtain ⟨V5, hV5⟩ : ∃ V, V4.setCell ⟨N, 4, none⟩ (.slice none 0 0) = V := ⟨_, rfl⟩
  have e4 : V4.cell? ⟨N, 4, none⟩ = some (.slice none 0 0) := k4.cell 4 _ rfl
  have g4 := k4.frozen 4
  have k5 : Blk V5 N #[.int .i64 4, .string s, .int .i64 0, .slice none 0 0, .slice none 0 0, .slice none 0 0, .slice none 0 0] 31 := by rw [← hV5]; exact k4.set 4 _
  have b5 : Below N w V5 := by rw [← hV5]; exact b4.setCell (p := ⟨N, 4, none⟩) (Nat.le_refl _) _
  obtain ⟨V6, hV6⟩ : ∃ V, V5.setCell ⟨N, 5, none⟩ (.slice o n c) = V := ⟨_, rfl⟩
  have e5 : V5.cell? ⟨N, 5, none⟩ = some (.slice none 0 0) := k5.cell 5 _ rfl
  have g5 := k5.frozen 5
  have k6 : Blk V6 N #[.int .i64 4, .string s, .int .i64 0, .slice none 0 0, .slice none 0 0, .slice o n c, .slice none 0 0] 31 := by rw [← hV6]; exact k5.set 5 _
  have b6 : Below N w V6 := by rw [← hV6]; exact b5.setCell (p := ⟨N, 5, none⟩) (Nat.le_refl _) _
  obtain ⟨V7, hV7⟩ : ∃ V, V6.setCell ⟨N, 6, none⟩ (.slice none 0 0) = V := ⟨_, rfl⟩
  have e6 : V6.cell? ⟨N, 6, none⟩ = some (.slice none 0 0) := k6.cell 6 _ rfl
  have g6 := k6.frozen 6
  have k7 : Blk V7 N #[.int .i64 4, .string s, .int .i64 0, .slice none 0 0, .slice none 0 0, .slice o n c, .slice none 0 0] 31 := by rw [← hV7]; exact k6.set 6 _
  have b7 : Below N w V7 := by rw [← hV7]; exact b6.setCell (p := ⟨N, 6, none⟩) (Nat.le_refl _) _
  have f0 : V7.cell? ⟨N, 0, none⟩ = some (.int .i64 4) := k7.cell 0 _ rfl
  have f1 : V7.cell? ⟨N, 1, none⟩ = some (.string s) := k7.cell 1 _ rfl
  have f2 : V7.cell? ⟨N, 2, none⟩ = some (.int .i64 0) := k7.cell 2 _ rfl
  have f3 : V7.cell? ⟨N, 3, none⟩ = some (.slice none 0 0) := k7.cell 3 _ rfl
  have f4 : V7.cell? ⟨N, 4, none⟩ = some (.slice none 0 0) := k7.cell 4 _ rfl
  have f5 : V7.cell? ⟨N, 5, none⟩ = some (.slice o n c) := k7.cell 5 _ rfl
  have f6 : V7.cell? ⟨N, 6, none⟩ = some (.slice none 0 0) := k7.cell 6 _ rfl
  have HK : Hid (Blk V7 N #[.int .i64 4, .string s, .int .i64 0, .slice none 0 0, .slice none 0 0, .slice o n c, .slice none 0 0] 31 ∧ Below N w V7) := ⟨k7, b7⟩
  clear k0 b0 k1 b1 k2 b2 k3 b3 k4 b4 k5 b5 k6 b6 k7 b7
  go_enter Tryz.func19, Tryz.ntmps19
  go_wp2
  (try simp only [Exit.inBlock, Exit.then])
  refine bodyPost_ret (results_cell_row rfl _ _ N 31 _ _ _ rfl HK.out.1 Tryz.underlying31 rfl rfl) rfl ?_
  exact ⟨rfl, HK.out.2⟩
set_option maxRecDepth 100000 in
set_option maxHeartbeats 4000000 in
theorem lprim_c (s : ByteArray) (o : Option Addr) (n c : Nat) (w : World) : Calls Tryz.prog 20 #[.string s, .slice o n c] w fun e w' => e = .returned (.agg #[.int .i64 9, .string s, .int .i64 0, .slice none 0 0, .slice none 0 0, .slice o n c, .slice none 0 0]) ∧ Below w.heap.size w w' := by
  obtain ⟨V0, hV0⟩ : ∃ V, w.alloc (.cells #[.int .i64 0, .string ⟨#[]⟩, .int .i64 0, .slice none 0 0, .slice none 0 0, .slice none 0 0, .slice none 0 0] 31) = V := ⟨_, rfl⟩
  have k0 : Blk V0 w.heap.size #[.int .i64 0, .string ⟨#[]⟩, .int .i64 0, .slice none 0 0, .slice none 0 0, .slice none 0 0, .slice none 0 0] 31 := by rw [← hV0]; exact Blk.new w _ _
  have b0 : Below w.heap.size w V0 := by rw [← hV0]; exact below1 w _
  obtain ⟨N, hN⟩ : ∃ N, w.heap.size = N := ⟨_, rfl⟩
  rw [hN] at k0 b0 ⊢
  obtain ⟨V1, hV1⟩ : ∃ V, V0.setCell ⟨N, 0, none⟩ (.int .i64 9) = V := ⟨_, rfl⟩
  have e0 : V0.cell? ⟨N, 0, none⟩ = some (.int .i64 0) := k0.cell 0 _ rfl
  have g0 := k0.frozen 0
  have k1 : Blk V1 N #[.int .i64 9, .string ⟨#[]⟩, .int .i64 0, .slice none 0 0, .slice none 0 0, .slice none 0 0, .slice none 0 0] 31 := by rw [← hV1]; exact k0.set 0 _
  have b1 : Below N w V1 := by rw [← hV1]; exact b0.setCell (p := ⟨N, 0, none⟩) (Nat.le_refl _) _
  obtain ⟨V2, hV2⟩ : ∃ V, V1.setCell ⟨N, 1, none⟩ (.string s) = V := ⟨_, rfl⟩
  have e1 : V1.cell? ⟨N, 1, none⟩ = some (.string ⟨#[]⟩) := k1.cell 1 _ rfl
  have g1 := k1.frozen 1
  have k2 : Blk V2 N #[.int .i64 9, .string s, .int .i64 0, .slice none 0 0, .slice none 0 0, .slice none 0 0, .slice none 0 0] 31 := by rw [← hV2]; exact k1.set 1 _
  have b2 : Below N w V2 := by rw [← hV2]; exact b1.setCell (p := ⟨N, 1, none⟩) (Nat.le_refl _) _
  obtain ⟨V3, hV3⟩ : ∃ V, V2.setCell ⟨N, 2, none⟩ (.int .i64 0) = V := ⟨_, rfl⟩
  have e2 : V2.cell? ⟨N, 2, none⟩ = some (.int .i64 0) := k2.cell 2 _ rfl
  have g2 := k2.frozen 2
  have k3 : Blk V3 N #[.int .i64 9, .string s, .int .i64 0, .slice none 0 0, .slice none 0 0, .slice none 0 0, .slice none 0 0] 31 := by rw [← hV3]; exact k2.set 2 _
  have b3 : Below N w V3 := by rw [← hV3]; exact b2.setCell (p := ⟨N, 2, none⟩) (Nat.le_refl _) _
  obtain ⟨V4, hV4⟩ : ∃ V, V3.setCell ⟨N, 3, none⟩ (.slice none 0 0) = V := ⟨_, rfl⟩
  have e3 : V3.cell? ⟨N, 3, none⟩ = some (.slice none 0 0) := k3.cell 3 _ rfl
  have g3 := k3.frozen 3
  have k4 : Blk V4 N #[.int .i64 9, .string s, .int .i64 0, .slice none 0 0, .slice none 0 0, .slice none 0 0, .slice none 0 0] 31 := by rw [← hV4]; exact k3.set 3 _
  have b4 : Below N w V4 := by rw [← hV4]; exact b3.setCell (p := ⟨N, 3, none⟩) (Nat.le_refl _) _
  obtain ⟨V5, hV5⟩ : ∃ V, V4.setCell ⟨N, 4, none⟩ (.slice none 0 0) = V := ⟨_, rfl⟩
  have e4 : V4.cell? ⟨N, 4, none⟩ = some (.slice none 0 0) := k4.cell 4 _ rfl
  have g4 := k4.frozen 4
  have k5 : Blk V5 N #[.int .i64 9, .string s, .int .i64 0, .slice none 0 0, .slice none 0 0, .slice none 0 0, .slice none 0 0] 31 := by rw [← hV5]; exact k4.set 4 _
  have b5 : Below N w V5 := by rw [← hV5]; exact b4.setCell (p := ⟨N, 4, none⟩) (Nat.le_refl _) _
  obtain ⟨V6, hV6⟩ : ∃ V, V5.setCell ⟨N, 5, none⟩ (.slice o n c) = V := ⟨_, rfl⟩
  have e5 : V5.cell? ⟨N, 5, none⟩ = some (.slice none 0 0) := k5.cell 5 _ rfl
  have g5 := k5.frozen 5
  have k6 : Blk V6 N #[.int .i64 9, .string s, .int .i64 0, .slice none 0 0, .slice none 0 0, .slice o n c, .slice none 0 0] 31 := by rw [← hV6]; exact k5.set 5 _
  have b6 : Below N w V6 := by rw [← hV6]; exact b5.setCell (p := ⟨N, 5, none⟩) (Nat.le_refl _) _
  obtain ⟨V7, hV7⟩ : ∃ V, V6.setCell ⟨N, 6, none⟩ (.slice none 0 0) = V := ⟨_, rfl⟩
  have e6 : V6.cell? ⟨N, 6, none⟩ = some (.slice none 0 0) := k6.cell 6 _ rfl
  have g6 := k6.frozen 6
  have k7 : Blk V7 N #[.int .i64 9, .string s, .int .i64 0, .slice none 0 0, .slice none 0 0, .slice o n c, .slice none 0 0] 31 := by rw [← hV7]; exact k6.set 6 _
  have b7 : Below N w V7 := by rw [← hV7]; exact b6.setCell (p := ⟨N, 6, none⟩) (Nat.le_refl _) _
  have f0 : V7.cell? ⟨N, 0, none⟩ = some (.int .i64 9) := k7.cell 0 _ rfl
  have f1 : V7.cell? ⟨N, 1, none⟩ = some (.string s) := k7.cell 1 _ rfl
  have f2 : V7.cell? ⟨N, 2, none⟩ = some (.int .i64 0) := k7.cell 2 _ rfl
  have f3 : V7.cell? ⟨N, 3, none⟩ = some (.slice none 0 0) := k7.cell 3 _ rfl
  have f4 : V7.cell? ⟨N, 4, none⟩ = some (.slice none 0 0) := k7.cell 4 _ rfl
  have f5 : V7.cell? ⟨N, 5, none⟩ = some (.slice o n c) := k7.cell 5 _ rfl
  have f6 : V7.cell? ⟨N, 6, none⟩ = some (.slice none 0 0) := k7.cell 6 _ rfl
  have HK : Hid (Blk V7 N #[.int .i64 9, .string s, .int .i64 0, .slice none 0 0, .slice none 0 0, .slice o n c, .slice none 0 0] 31 ∧ Below N w V7) := ⟨k7, b7⟩
  clear k0 b0 k1 b1 k2 b2 k3 b3 k4 b4 k5 b5 k6 b6 k7 b7
  go_enter Tryz.func20, Tryz.ntmps20
  go_wp2
  (try simp only [Exit.inBlock, Exit.then])
  refine bodyPost_ret (results_cell_row rfl _ _ N 31 _ _ _ rfl HK.out.1 Tryz.underlying31 rfl rfl) rfl ?_
  exact ⟨rfl, HK.out.2⟩
end Go.Proofs.YtegdloenakachaaGreatDoor

namespace Go.Proofs.YtegdloenakachaaGreatDoor
open Go.RowKit Go.Shelf Go.Maps
set_option linter.unusedVariables false

set_option maxRecDepth 100000 in
set_option maxHeartbeats 4000000 in
theorem llam_c (x0 : Int) (x1 : ByteArray) (x2 : Int) (x3 x4 x5 x6 : Option Addr) (y3 z3 y4 z4 y5 z5 y6 z6 : Nat) (o : Option Addr) (n c : Nat) (w : World) : Calls Tryz.prog 13 #[.agg #[.int .i64 x0, .string x1, .int .i64 x2, .slice x3 y3 z3, .slice x4 y4 z4, .slice x5 y5 z5, .slice x6 y6 z6], .slice o n c] w fun e w' => ∃ M, e = .returned (.agg #[.int .i64 5, .string ⟨#[]⟩, .int .i64 0, .slice o n c, .slice none 0 0, .slice (some ⟨M, 0, none⟩) 1 1, .slice none 0 0]) ∧ w.heap.size ≤ M ∧ Blk w' M #[.int .i64 x0, .string x1, .int .i64 x2, .slice x3 y3 z3, .slice x4 y4 z4, .slice x5 y5 z5, .slice x6 y6 z6] 31 ∧ Below w.heap.size w w' := by
  obtain ⟨V, hV⟩ : ∃ V, w.alloc (.cells #[.int .i64 x0, .string x1, .int .i64 x2, .slice x3 y3 z3, .slice x4 y4 z4, .slice x5 y5 z5, .slice x6 y6 z6] 31) = V := ⟨_, rfl⟩
  have kV : Blk V w.heap.size #[.int .i64 x0, .string x1, .int .i64 x2, .slice x3 y3 z3, .slice x4 y4 z4, .slice x5 y5 z5, .slice x6 y6 z6] 31 := by rw [← hV]; exact Blk.new w _ _
  have bV : Below w.heap.size w V := by rw [← hV]; exact below1 w _
  have sV : V.heap.size = w.heap.size + 1 := by rw [← hV]; exact Array.size_push _
  obtain ⟨U, hU⟩ : ∃ U, V.alloc (.cells #[.int .i64 0, .string ⟨#[]⟩, .int .i64 0, .slice none 0 0, .slice none 0 0, .slice none 0 0, .slice none 0 0] 31) = U := ⟨_, rfl⟩
  have kU : Blk U V.heap.size #[.int .i64 0, .string ⟨#[]⟩, .int .i64 0, .slice none 0 0, .slice none 0 0, .slice none 0 0, .slice none 0 0] 31 := by rw [← hU]; exact Blk.new V _ _
  have bU : Below V.heap.size V U := by rw [← hU]; exact below1 V _
  have sU : U.heap.size = w.heap.size + 1 + 1 := by rw [← sV, ← hU]; exact Array.size_push _
  have kVU : Blk U w.heap.size #[.int .i64 x0, .string x1, .int .i64 x2, .slice x3 y3 z3, .slice x4 y4 z4, .slice x5 y5 z5, .slice x6 y6 z6] 31 := by unfold Blk; rw [bU.block _ (by omega)]; exact kV
  obtain ⟨V0, hV0⟩ : ∃ T, U.alloc (.cells #[.int .i64 x0, .string x1, .int .i64 x2, .slice x3 y3 z3, .slice x4 y4 z4, .slice x5 y5 z5, .slice x6 y6 z6] 31) = T := ⟨_, rfl⟩
  have kM : Blk V0 U.heap.size #[.int .i64 x0, .string x1, .int .i64 x2, .slice x3 y3 z3, .slice x4 y4 z4, .slice x5 y5 z5, .slice x6 y6 z6] 31 := by rw [← hV0]; exact Blk.new U _ _
  have bT : Below U.heap.size U V0 := by rw [← hV0]; exact below1 U _
  obtain ⟨N, hN⟩ : ∃ N, w.heap.size = N := ⟨_, rfl⟩
  rw [sV, hN] at kU
  rw [sU, hN] at kM
  rw [hN] at kVU
  have k0 : Blk V0 (N + 1) #[.int .i64 0, .string ⟨#[]⟩, .int .i64 0, .slice none 0 0, .slice none 0 0, .slice none 0 0, .slice none 0 0] 31 := by unfold Blk; rw [bT.block _ (by omega)]; exact kU
  have b0 : Below N w V0 := by rw [← hN]; exact (bV.trans (bU.mono (by omega))).trans (bT.mono (by omega))
  have c0 : U.cell? ⟨N, 0, none⟩ = some (.int .i64 x0) := kVU.cell 0 _ rfl
  have c1 : U.cell? ⟨N, 1, none⟩ = some (.string x1) := kVU.cell 1 _ rfl
  have c2 : U.cell? ⟨N, 2, none⟩ = some (.int .i64 x2) := kVU.cell 2 _ rfl
  have c3 : U.cell? ⟨N, 3, none⟩ = some (.slice x3 y3 z3) := kVU.cell 3 _ rfl
  have c4 : U.cell? ⟨N, 4, none⟩ = some (.slice x4 y4 z4) := kVU.cell 4 _ rfl
  have c5 : U.cell? ⟨N, 5, none⟩ = some (.slice x5 y5 z5) := kVU.cell 5 _ rfl
  have c6 : U.cell? ⟨N, 6, none⟩ = some (.slice x6 y6 z6) := kVU.cell 6 _ rfl
  have lN : N < U.heap.size := by omega
  obtain ⟨V1, hV1⟩ : ∃ T, V0.setCell ⟨N + 1, 0, none⟩ (.int .i64 5) = T := ⟨_, rfl⟩
  have e0 : V0.cell? ⟨N + 1, 0, none⟩ = some (.int .i64 0) := k0.cell 0 _ rfl
  have g0 := k0.frozen 0
  have k1 : Blk V1 (N + 1) #[.int .i64 5, .string ⟨#[]⟩, .int .i64 0, .slice none 0 0, .slice none 0 0, .slice none 0 0, .slice none 0 0] 31 := by rw [← hV1]; exact k0.set 0 _
  have b1 : Below N w V1 := by rw [← hV1]; exact b0.setCell (p := ⟨N + 1, 0, none⟩) (by show N ≤ N + 1; omega) _
  have m1 : V1.heap[N + 1 + 1]? = V0.heap[N + 1 + 1]? := by rw [← hV1]; exact Below.heap_setCell _ ⟨N + 1, 0, none⟩ _ _ (by show N + 1 + 1 ≠ N + 1; omega)
  obtain ⟨V2, hV2⟩ : ∃ T, V1.setCell ⟨N + 1, 1, none⟩ (.string ⟨#[]⟩) = T := ⟨_, rfl⟩
  have e1 : V1.cell? ⟨N + 1, 1, none⟩ = some (.string ⟨#[]⟩) := k1.cell 1 _ rfl
  have g1 := k1.frozen 1
  have k2 : Blk V2 (N + 1) #[.int .i64 5, .string ⟨#[]⟩, .int .i64 0, .slice none 0 0, .slice none 0 0, .slice none 0 0, .slice none 0 0] 31 := by rw [← hV2]; exact k1.set 1 _
  have b2 : Below N w V2 := by rw [← hV2]; exact b1.setCell (p := ⟨N + 1, 1, none⟩) (by show N ≤ N + 1; omega) _
  have m2 : V2.heap[N + 1 + 1]? = V1.heap[N + 1 + 1]? := by rw [← hV2]; exact Below.heap_setCell _ ⟨N + 1, 1, none⟩ _ _ (by show N + 1 + 1 ≠ N + 1; omega)
  obtain ⟨V3, hV3⟩ : ∃ T, V2.setCell ⟨N + 1, 2, none⟩ (.int .i64 0) = T := ⟨_, rfl⟩
  have e2 : V2.cell? ⟨N + 1, 2, none⟩ = some (.int .i64 0) := k2.cell 2 _ rfl
  have g2 := k2.frozen 2
  have k3 : Blk V3 (N + 1) #[.int .i64 5, .string ⟨#[]⟩, .int .i64 0, .slice none 0 0, .slice none 0 0, .slice none 0 0, .slice none 0 0] 31 := by rw [← hV3]; exact k2.set 2 _
  have b3 : Below N w V3 := by rw [← hV3]; exact b2.setCell (p := ⟨N + 1, 2, none⟩) (by show N ≤ N + 1; omega) _
  have m3 : V3.heap[N + 1 + 1]? = V2.heap[N + 1 + 1]? := by rw [← hV3]; exact Below.heap_setCell _ ⟨N + 1, 2, none⟩ _ _ (by show N + 1 + 1 ≠ N + 1; omega)
  obtain ⟨V4, hV4⟩ : ∃ T, V3.setCell ⟨N + 1, 3, none⟩ (.slice o n c) = T := ⟨_, rfl⟩
  have e3 : V3.cell? ⟨N + 1, 3, none⟩ = some (.slice none 0 0) := k3.cell 3 _ rfl
  have g3 := k3.frozen 3
  have k4 : Blk V4 (N + 1) #[.int .i64 5, .string ⟨#[]⟩, .int .i64 0, .slice o n c, .slice none 0 0, .slice none 0 0, .slice none 0 0] 31 := by rw [← hV4]; exact k3.set 3 _
  have b4 : Below N w V4 := by rw [← hV4]; exact b3.setCell (p := ⟨N + 1, 3, none⟩) (by show N ≤ N + 1; omega) _
  have m4 : V4.heap[N + 1 + 1]? = V3.heap[N + 1 + 1]? := by rw [← hV4]; exact Below.heap_setCell _ ⟨N + 1, 3, none⟩ _ _ (by show N + 1 + 1 ≠ N + 1; omega)
  obtain ⟨V5, hV5⟩ : ∃ T, V4.setCell ⟨N + 1, 4, none⟩ (.slice none 0 0) = T := ⟨_, rfl⟩
  have e4 : V4.cell? ⟨N + 1, 4, none⟩ = some (.slice none 0 0) := k4.cell 4 _ rfl
  have g4 := k4.frozen 4
  have k5 : Blk V5 (N + 1) #[.int .i64 5, .string ⟨#[]⟩, .int .i64 0, .slice o n c, .slice none 0 0, .slice none 0 0, .slice none 0 0] 31 := by rw [← hV5]; exact k4.set 4 _
  have b5 : Below N w V5 := by rw [← hV5]; exact b4.setCell (p := ⟨N + 1, 4, none⟩) (by show N ≤ N + 1; omega) _
  have m5 : V5.heap[N + 1 + 1]? = V4.heap[N + 1 + 1]? := by rw [← hV5]; exact Below.heap_setCell _ ⟨N + 1, 4, none⟩ _ _ (by show N + 1 + 1 ≠ N + 1; omega)
  obtain ⟨V6, hV6⟩ : ∃ T, V5.setCell ⟨N + 1, 5, none⟩ (.slice (some ⟨N + 1 + 1, 0, none⟩) 1 1) = T := ⟨_, rfl⟩
  have e5 : V5.cell? ⟨N + 1, 5, none⟩ = some (.slice none 0 0) := k5.cell 5 _ rfl
  have g5 := k5.frozen 5
  have k6 : Blk V6 (N + 1) #[.int .i64 5, .string ⟨#[]⟩, .int .i64 0, .slice o n c, .slice none 0 0, .slice (some ⟨N + 1 + 1, 0, none⟩) 1 1, .slice none 0 0] 31 := by rw [← hV6]; exact k5.set 5 _
  have b6 : Below N w V6 := by rw [← hV6]; exact b5.setCell (p := ⟨N + 1, 5, none⟩) (by show N ≤ N + 1; omega) _
  have m6 : V6.heap[N + 1 + 1]? = V5.heap[N + 1 + 1]? := by rw [← hV6]; exact Below.heap_setCell _ ⟨N + 1, 5, none⟩ _ _ (by show N + 1 + 1 ≠ N + 1; omega)
  obtain ⟨V7, hV7⟩ : ∃ T, V6.setCell ⟨N + 1, 6, none⟩ (.slice none 0 0) = T := ⟨_, rfl⟩
  have e6 : V6.cell? ⟨N + 1, 6, none⟩ = some (.slice none 0 0) := k6.cell 6 _ rfl
  have g6 := k6.frozen 6
  have k7 : Blk V7 (N + 1) #[.int .i64 5, .string ⟨#[]⟩, .int .i64 0, .slice o n c, .slice none 0 0, .slice (some ⟨N + 1 + 1, 0, none⟩) 1 1, .slice none 0 0] 31 := by rw [← hV7]; exact k6.set 6 _
  have b7 : Below N w V7 := by rw [← hV7]; exact b6.setCell (p := ⟨N + 1, 6, none⟩) (by show N ≤ N + 1; omega) _
  have m7 : V7.heap[N + 1 + 1]? = V6.heap[N + 1 + 1]? := by rw [← hV7]; exact Below.heap_setCell _ ⟨N + 1, 6, none⟩ _ _ (by show N + 1 + 1 ≠ N + 1; omega)
  have f0 : V7.cell? ⟨N + 1, 0, none⟩ = some (.int .i64 5) := k7.cell 0 _ rfl
  have f1 : V7.cell? ⟨N + 1, 1, none⟩ = some (.string ⟨#[]⟩) := k7.cell 1 _ rfl
  have f2 : V7.cell? ⟨N + 1, 2, none⟩ = some (.int .i64 0) := k7.cell 2 _ rfl
  have f3 : V7.cell? ⟨N + 1, 3, none⟩ = some (.slice o n c) := k7.cell 3 _ rfl
  have f4 : V7.cell? ⟨N + 1, 4, none⟩ = some (.slice none 0 0) := k7.cell 4 _ rfl
  have f5 : V7.cell? ⟨N + 1, 5, none⟩ = some (.slice (some ⟨N + 1 + 1, 0, none⟩) 1 1) := k7.cell 5 _ rfl
  have f6 : V7.cell? ⟨N + 1, 6, none⟩ = some (.slice none 0 0) := k7.cell 6 _ rfl
  have HM : Blk V7 (N + 1 + 1) #[.int .i64 x0, .string x1, .int .i64 x2, .slice x3 y3 z3, .slice x4 y4 z4, .slice x5 y5 z5, .slice x6 y6 z6] 31 := by unfold Blk; rw [m7, m6, m5, m4, m3, m2, m1]; exact kM
  have HK : Hid (Blk V7 (N + 1) #[.int .i64 5, .string ⟨#[]⟩, .int .i64 0, .slice o n c, .slice none 0 0, .slice (some ⟨N + 1 + 1, 0, none⟩) 1 1, .slice none 0 0] 31 ∧ Below N w V7 ∧ Blk V7 (N + 1 + 1) #[.int .i64 x0, .string x1, .int .i64 x2, .slice x3 y3 z3, .slice x4 y4 z4, .slice x5 y5 z5, .slice x6 y6 z6] 31) := ⟨k7, b7, HM⟩
  clear k0 b0 k1 b1 k2 b2 k3 b3 k4 b4 k5 b5 k6 b6 k7 b7 m1 m2 m3 m4 m5 m6 m7 HM kV bV kU bU kM bT kVU
  rw [hN]
  rw [hN] at sV sU
  go_enter Tryz.func13, Tryz.ntmps13
  go_wp2
  (try simp only [Exit.inBlock, Exit.then])
  refine bodyPost_ret (results_cell_row rfl _ _ (N + 1) 31 _ _ _ rfl HK.out.1 Tryz.underlying31 rfl rfl) rfl ?_
  exact ⟨N + 1 + 1, rfl, by omega, HK.out.2.2, HK.out.2.1⟩
end Go.Proofs.YtegdloenakachaaGreatDoor

namespace Go.Proofs.YtegdloenakachaaGreatDoor
open Go.RowKit Go.Shelf Go.Maps
set_option linter.unusedVariables false

theorem infoStr7 : (Tryz.prog.info? 9).map (fun i => (i.zero, i.size, i.bytes)) = some (some (.string ⟨#[]⟩), 1, 16) := by kernel_rfl
set_option maxRecDepth 100000 in
set_option maxHeartbeats 4000000 in
theorem boundBy_c (d : Nat) (l : List (ByteArray × Tr d)) (o : Option Addr) (cap B : Nat) (w : World) (hl : RowIn B 8 (fun (b : ByteArray × Tr d) g off => w.cell? ⟨g, off, none⟩ = some (.string b.1) ∧ ExAt w B d b.2 g (off + 1)) o l) (hw : B ≤ w.heap.size) (hn : l.length ≤ 2000000) :
    Calls Tryz.prog 42 #[.slice o l.length cap] w fun e w' => e = .returned (.slice (some ⟨w.heap.size, 0, none⟩) l.length l.length) ∧ TxIn w' (w.heap.size + 1) (some ⟨w.heap.size, 0, none⟩) (l.map Prod.fst) ∧ Below w.heap.size w w' := by
  obtain ⟨n, hln⟩ : ∃ n, l.length = n := ⟨_, rfl⟩
  have hmk : ∀ W : World, (Instr.makeSlice 26 (.int .i64 (n : Int)) (.int .i64 (n : Int))).run Tryz.prog W = .ok (.slice (some ⟨W.heap.size, 0, none⟩) n n) (W.alloc (.cells (madeCells #[.string ⟨#[]⟩] n) 9)) := fun W => run_make_row' 26 9 (.string ⟨#[]⟩) 16 Tryz.underlying26 infoStr7 rfl .i64 .i64 n (by omega) (by omega) W
  have HL : Hid (RowIn B 8 (fun (b : ByteArray × Tr d) g off => w.cell? ⟨g, off, none⟩ = some (.string b.1) ∧ ExAt w B d b.2 g (off + 1)) o l ∧ B ≤ w.heap.size ∧ l.length = n) := ⟨hl, hw, hln⟩
  have hni : (n : Int) ≤ 2000000 := by omega
  have H0 : Hid (Blk (w.alloc (.cells (madeCells #[.string ⟨#[]⟩] n) 9)) w.heap.size (madeCells #[.string ⟨#[]⟩] n) 9 ∧ (madeCells #[.string ⟨#[]⟩] n).size = n ∧ Below w.heap.size w (w.alloc (.cells (madeCells #[.string ⟨#[]⟩] n) 9))) := ⟨Blk.new w _ _, size_madeCells _ _, below1 w _⟩
  rw [hln]
  clear hl hw hn hln
  go_enter Tryz.func42, Tryz.ntmps42
  go_wp2
  clear hmk
  go_loopw [10] (fun v wr => ∃ k : Nat, v = .int .i64 (k : Int) ∧ Hid (k ≤ n ∧ ∃ arr : Array Value, Blk wr w.heap.size arr 9 ∧ arr.size = n ∧ (∀ i (h : i < l.length), i < k → arr[i]? = some (.string l[i].1)) ∧ Below w.heap.size w wr)) (fun v _ => n - (intOf v).toNat)
  case atStart => exact ⟨0, rfl, ⟨Nat.zero_le _, _, H0.out.1, H0.out.2.1, fun i h hi => by omega, H0.out.2.2⟩⟩
  case round =>
    clear H0
    obtain ⟨k, rfl, HI⟩ := hrel
    by_cases hk : k < n
    · obtain ⟨-, arr, h1, h2, h3, h4⟩ := HI.out
      have hkl : k < l.length := by rw [HL.out.2.2]; exact hk
      obtain ⟨g, off, rfl, hg, hx⟩ : ∃ g off, o = some ⟨g, off, none⟩ ∧ g < B ∧ w.cell? ⟨g, off + k * 8, none⟩ = some (.string l[k].1) := by
        rcases HL.out.1 with h9 | ⟨g, off, e, hg, h9⟩
        · rw [h9] at hkl; exact absurd hkl (Nat.not_lt_zero _)
        · exact ⟨g, off, e, hg, (h9 k hkl).1⟩
      have hgw : g < wr.heap.size := by have := h4.size; have := HL.out.2.1; omega
      have hcx : wr.cell? ⟨g, off + k * 8, none⟩ = some (.string l[k].1) := (h4.cell (p := ⟨g, off + k * 8, none⟩) (by show g < w.heap.size; have := HL.out.2.1; omega)).trans hx
      obtain ⟨old, hold⟩ : ∃ old, arr[k]? = some old := ⟨_, Array.getElem?_eq_getElem (by omega)⟩
      have hco : wr.cell? ⟨w.heap.size, k, none⟩ = some old := h1.cell k _ hold
      have hfo : wr.frozen? ⟨w.heap.size, k, none⟩ = false := h1.frozen k
      have hlo := h1.lt
      have hki : (k : Int) < (n : Int) := by omega
      obtain ⟨nm, hnm⟩ : ∃ nm, l[k].1 = nm := ⟨_, rfl⟩
      rw [hnm] at hcx
      have HK : Hid (k < n ∧ ∃ h : k < l.length, l[k].1 = nm) := ⟨hk, hkl, hnm⟩
      clear h1 h2 h3 h4 hk hx hold hnm hkl
      go_wp2
      refine ⟨⟨k + 1, by congr 1, ⟨HK.out.1, ?_⟩⟩, ?_⟩
      · obtain ⟨-, arr, h1, h2, h3, h4⟩ := HI.out
        refine ⟨arr.setIfInBounds k (.string nm), h1.set k _, by simpa using h2, fun i hi hik => ?_, h4.setCell (p := ⟨w.heap.size, k, none⟩) (Nat.le_refl _) _⟩
        obtain ⟨q1, q2⟩ := HK.out.2
        by_cases e : i = k
        · subst e
          rw [Array.getElem?_setIfInBounds_self_of_lt (by have := HK.out.1; omega), q2]
        · rw [Array.getElem?_setIfInBounds_ne (Ne.symm e)]
          exact h3 i hi (by omega)
      · show n - ((k : Int) + 1).toNat < n - ((k : Int)).toNat
        have := HK.out.1; omega
    · have hki : ¬ (k : Int) < (n : Int) := by omega
      have HX : Hid (TxIn wr (w.heap.size + 1) (some ⟨w.heap.size, 0, none⟩) (l.map Prod.fst) ∧ Below w.heap.size w wr) := by
        obtain ⟨q0, arr, h1, h2, h3, h4⟩ := HI.out
        refine ⟨.inr ⟨w.heap.size, 0, rfl, by omega, fun i hi => ?_⟩, h4⟩
        rw [List.length_map] at hi
        rw [Nat.zero_add, List.getElem_map]
        exact h1.cell i _ (h3 i hi (by have := HL.out.2.2; omega))
      clear hk
      go_wp2
      go_ret
      exact ⟨rfl, HX.out⟩
end Go.Proofs.YtegdloenakachaaGreatDoor

namespace Go.Proofs.YtegdloenakachaaGreatDoor
open Go.RowKit Go.Shelf Go.Maps
set_option linter.unusedVariables false

/-- May a name be? -/
def nameB (l : List UInt8) : Bool := decide (1 ≤ l.length) && decide (l.length ≤ 65536) && l.all (fun b => decide (33 ≤ b.toNat) && decide (b.toNat ≤ 126))
set_option maxRecDepth 100000 in
set_option maxHeartbeats 4000000 in
theorem isName_c (s : ByteArray) (hs : s.size ≤ 9223372036854775807) (w : World) : Calls Tryz.prog 77 #[.string s] w fun e w' => e = .returned (.bool (nameB s.data.toList)) ∧ w' = w := by
  obtain ⟨n, hn⟩ : ∃ n, s.size = n := ⟨_, rfl⟩
  have hl : s.data.toList.length = s.size := by rw [Array.length_toList]; rfl
  have HN : Hid (s.size = n ∧ s.data.toList.length = n) := ⟨hn, hl.trans hn⟩
  have hszi : (s.size : Int) = (n : Int) := by omega
  have hni : (n : Int) ≤ 9223372036854775807 := by omega
  clear hl
  by_cases h1 : n < 1
  · have HX : Hid (nameB s.data.toList = false) := by
      show _ = _
      unfold nameB; rw [HN.out.2, decide_eq_false (by omega : ¬ 1 ≤ n)]; rfl
    have h1i : (n : Int) < 1 := by omega
    go_enter Tryz.func77, Tryz.ntmps77
    go_wp2
    go_ret
    rw [HX.out]
    exact ⟨rfl, rfl⟩
  · have h1i : ¬ (n : Int) < 1 := by omega
    by_cases h2 : 65536 < n
    · have HX : Hid (nameB s.data.toList = false) := by
        show _ = _
        unfold nameB; rw [HN.out.2, decide_eq_false (by omega : ¬ n ≤ 65536), Bool.and_false]; rfl
      have h2i : (n : Int) > 65536 := by omega
      have h2j : (65536 : Int) < (n : Int) := by omega
      go_enter Tryz.func77, Tryz.ntmps77
      go_wp2
      go_ret
      rw [HX.out]
      exact ⟨rfl, rfl⟩
    · have h2i : ¬ (n : Int) > 65536 := by omega
      have h2j : ¬ (65536 : Int) < (n : Int) := by omega
      have HE : Hid (nameB s.data.toList = s.data.toList.all (fun b => decide (33 ≤ b.toNat) && decide (b.toNat ≤ 126))) := by
        show _ = _
        unfold nameB; rw [HN.out.2, decide_eq_true (by omega : 1 ≤ n), decide_eq_true (by omega : n ≤ 65536)]; rfl
      clear h1 h2
      go_enter Tryz.func77, Tryz.ntmps77
      go_wp2
      go_loopw [14] (fun v wr => ∃ k : Nat, v = .int .i64 (k : Int) ∧ wr = w ∧ Hid (k ≤ n ∧ (s.data.toList.take k).all (fun b => decide (33 ≤ b.toNat) && decide (b.toNat ≤ 126)) = true)) (fun v _ => n - (intOf v).toNat)
      case atStart => exact ⟨0, rfl, rfl, ⟨Nat.zero_le _, rfl⟩⟩
      case round =>
        obtain ⟨k, rfl, hwr, HI⟩ := hrel
        have hwr := hwr.symm
        subst hwr
        by_cases hk : k < n
        · have hki : (k : Int) < (n : Int) := by omega
          have hks : k < s.size := by have := HN.out.1; omega
          have hkl : k < s.data.toList.length := by have := HN.out.2; omega
          have HT : Hid (s.data.toList.take (k + 1) = s.data.toList.take k ++ [(s[k]'hks)] ∧ (s[k]'hks) ∈ s.data.toList ∧ k < n) := ⟨by rw [List.take_succ_eq_append_getElem hkl]; rfl, by have := List.getElem_mem hkl; exact this, hk⟩
          clear hk hkl
          by_cases hb : 33 ≤ (s[k]'hks).toNat ∧ (s[k]'hks).toNat ≤ 126
          · have HB : Hid (33 ≤ (s[k]'hks).toNat ∧ (s[k]'hks).toNat ≤ 126) := hb
            have i1 : ¬ (((s[k]'hks).toNat : Int) < 33) := by omega
            have i2 : ¬ ((126 : Int) < ((s[k]'hks).toNat : Int)) := by omega
            clear hb
            go_wp2
            refine ⟨⟨k + 1, by congr 1, trivial, ⟨HT.out.2.2, ?_⟩⟩, ?_⟩
            · rw [HT.out.1, List.all_append, HI.out.2]
              simp [HB.out.1, HB.out.2]
            · show n - ((k : Int) + 1).toNat < n - ((k : Int)).toNat
              have := HT.out.2.2; omega
          · have HX : Hid (nameB s.data.toList = false) := by
              show _ = _
              rw [HE.out]
              cases e : s.data.toList.all (fun b => decide (33 ≤ b.toNat) && decide (b.toNat ≤ 126)) with
              | false => rfl
              | true =>
                have := List.all_eq_true.1 e _ HT.out.2.1
                simp at this
                exact absurd this hb
            by_cases h3 : (s[k]'hks).toNat < 33
            · have i1 : ((s[k]'hks).toNat : Int) < 33 := by omega
              clear hb h3
              go_wp2
              go_ret
              rw [HX.out]
              exact ⟨rfl, rfl⟩
            · have i1 : ¬ (((s[k]'hks).toNat : Int) < 33) := by omega
              have i2 : (126 : Int) < ((s[k]'hks).toNat : Int) := by omega
              clear hb h3
              go_wp2
              go_ret
              rw [HX.out]
              exact ⟨rfl, rfl⟩
        · have hki : ¬ (k : Int) < (n : Int) := by omega
          have HX : Hid (nameB s.data.toList = true) := by
            show _ = _
            have h1 := HI.out.2
            rw [List.take_of_length_le (by have := HN.out.2; omega)] at h1
            rw [HE.out]; exact h1
          clear hk
          go_wp2
          go_ret
          rw [HX.out]
          exact ⟨rfl, rfl⟩
end Go.Proofs.YtegdloenakachaaGreatDoor

namespace Go.Proofs.YtegdloenakachaaGreatDoor
open Go.RowKit Go.Shelf Go.Maps
set_option linter.unusedVariables false

set_option maxRecDepth 100000 in
set_option maxHeartbeats 4000000 in
theorem programFits_c (d : Nat) (l : List (ByteArray × Tr d)) (o : Option Addr) (cap B G x : Nat) (w : World) (hl : RowIn B 8 (fun (b : ByteArray × Tr d) g off => w.cell? ⟨g, off, none⟩ = some (.string b.1) ∧ ExAt w B d b.2 g (off + 1)) o l) (hG : G < w.heap.size) (hx : w.cell? ⟨G, x + 1, none⟩ = some (.slice o l.length cap)) (hw : B ≤ w.heap.size) (hs : (l.map (fun b => sizeM d b.2)).sum ≤ 1048576) (hd : d ≤ 4096) :
    Calls Tryz.prog 39 #[.pointer (some ⟨G, x, none⟩)] w fun e w' => e = .returned (.bool true) ∧ Below w.heap.size w w' := by
  have hln : l.length ≤ (l.map (fun b => sizeM d b.2)).sum := pr_len _ _ (fun b _ => size_pos d b.2)
  obtain ⟨U0, hU0⟩ : ∃ U0, w.alloc (.cells #[.int .i64 0] 75) = U0 := ⟨_, rfl⟩
  have k1 : Blk U0 w.heap.size #[.int .i64 0] 75 := by rw [← hU0]; exact Blk.new w _ _
  have b1 : Below w.heap.size w U0 := by rw [← hU0]; exact below1 w _
  obtain ⟨U, hU⟩ : ∃ U, U0.setCell ⟨w.heap.size, 0, none⟩ (.int .i64 1048576) = U := ⟨_, rfl⟩
  have k2 : Blk U w.heap.size #[.int .i64 1048576] 75 := by rw [← hU]; exact k1.set 0 _
  have b2 : Below w.heap.size w U := by rw [← hU]; exact b1.setCell (p := ⟨w.heap.size, 0, none⟩) (Nat.le_refl _) _
  have e0 : U0.cell? ⟨w.heap.size, 0, none⟩ = some (.int .i64 0) := k1.cell 0 _ rfl
  have g0 := k1.frozen 0
  have hxU : U.cell? ⟨G, x + 1, none⟩ = some (.slice o l.length cap) := (b2.cell (p := ⟨G, x + 1, none⟩) hG).trans hx
  have lU : w.heap.size < U.heap.size := k2.lt
  have lG : G < U.heap.size := by omega
  have hb : ∀ g off, g < B → U.cell? ⟨g, off, none⟩ = w.cell? ⟨g, off, none⟩ := fun g off hg => cell_of_block (b2.block g (by omega)) off
  have HB : Hid (Below w.heap.size w U) := b2
  have HC : Hid (Calls Tryz.prog 73 #[.pointer (some ⟨w.heap.size, 0, none⟩), .slice o l.length cap, .int .i64 4096] U fun e w' => e = .returned (.bool true) ∧ RmSt U w' w.heap.size (1048576 - ((l.map (fun b => sizeM d b.2)).sum : Int))) := room_binds_c d (roomOK d) l o cap B w.heap.size 1048576 4096 U (hl.mono (fun y g off hg h => ⟨(hb _ _ hg).trans h.1, ExAt.same hb d _ _ _ h.2⟩)) hw (by omega) k2 (by omega) (by omega) (by omega) (by omega) (by omega)
  generalize l.length = n at HC hxU hx
  clear hl hs hln k1 b1 k2 b2 hb hx
  go_enter Tryz.func39, Tryz.ntmps39
  go_wp2_with (go_at_call 73; fail)
  (try rw [hU0])
  (try rw [hU])
  refine HC.out.mono ?_
  rintro e w1 ⟨rfl, hr⟩
  have HR : Hid (RmSt U w1 w.heap.size (1048576 - ((l.map (fun b => sizeM d b.2)).sum : Int))) := hr
  clear hr HC
  go_wp2
  go_ret
  obtain ⟨h1, h2⟩ := HR.out
  exact ⟨rfl, ⟨h2.os.trans HB.out.os, h2.tape.trans HB.out.tape, h2.output.trans HB.out.output, by have := HB.out.size; have := h2.size; omega, fun k hk => (h2.block k (by omega) (by omega)).trans (HB.out.block k hk)⟩⟩
end Go.Proofs.YtegdloenakachaaGreatDoor
