/-
  What the last line of CoreNames calls, by contracts.
-/
import Derived.Test.YtegdloenakachaaGreatDoorCN31
import Derived.Deep.RegionHeld3
namespace Go.Proofs.YtegdloenakachaaGreatDoor
open Go.RowKit Go.Shelf Go.Maps
set_option linter.unusedVariables false
theorem ar_bind : arM (ByteArray.mk #[98, 105, 110, 100]).toList = 2 := by kernel_rfl
theorem ar_x : arM (ByteArray.mk #[120]).toList = -1 := by kernel_rfl
theorem Blk.drew {W : World} {B : Nat} {vs : Array Value} {T : TypeId} (h : Blk W B vs T) : Blk W.drew B vs T := h
theorem Blk.new1 (W : World) (o : Obj) (vs : Array Value) (T : TypeId) : Blk ((W.alloc o).alloc (.cells vs T)) (W.heap.size + 1) vs T := by
  have e1 : (W.alloc o).heap.size = W.heap.size + 1 := Array.size_push _
  rw [← e1]
  exact Blk.new _ _ _
theorem SubEx.shape {W : World} {v : Value} (h : SubEx W v) : ∃ sk ss sm so3 sn3 sc3 so4 sn4 sc4 so5 sn5 sc5 so6 sn6 sc6, v = .agg #[.int .i64 sk, .string ss, .int .i64 sm, .slice so3 sn3 sc3, .slice so4 sn4 sc4, .slice so5 sn5 sc5, .slice so6 sn6 sc6] := by
  obtain ⟨n, t, -, -, -, o3, c3, o4, c4, o5, c5, o6, c6, e, -⟩ := h
  exact ⟨_, _, _, _, _, _, _, _, _, _, _, _, _, _, _, e⟩
theorem nm_let : NmOK 3 letT := by
  refine ⟨Nat.zero_le _, fun x hx => ?_, fun b hb => ?_, fun e he => ?_, fun a ha => ?_⟩
  · rcases List.mem_cons.1 hx with rfl | hx
    · exact small_len (by decide)
    · rcases List.mem_cons.1 hx with rfl | hx
      · exact small_len (by decide)
      · cases hx
  · rcases List.mem_cons.1 hb with rfl | hb
    · refine nm_args (d := 1) (t := vN1) (Nat.zero_le _) rfl rfl rfl (fun e he => ?_)
      rcases List.mem_cons.1 he with rfl | he
      · exact nm_var bB7 (by decide)
      · rcases List.mem_cons.1 he with rfl | he
        · exact nm_num 1
        · cases he
    · rcases List.mem_cons.1 hb with rfl | hb
      · exact nm_args (d := 1) (t := lift1 1 (numT 2)) (Nat.zero_le _) rfl rfl rfl (fun e he => by cases he)
      · cases hb
  · rcases List.mem_cons.1 he with rfl | he
    · exact nm_args (d := 1) (t := lift1 1 (varT aB7)) (small_len (by decide)) rfl rfl rfl (fun e he => by cases he)
    · cases he
  · cases ha
/-- All that stands ahead of the last line. -/
structure Nm (V : World) (gl gs gt gb ga tg ta : Nat) (sk : Int) (ss : ByteArray) (sm : Int) (so3 : Option Addr) (sn3 sc3 : Nat) (so4 : Option Addr) (sn4 sc4 : Nat) (so5 : Option Addr) (sn5 sc5 : Nat) (so6 : Option Addr) (sn6 sc6 : Nat) : Prop where
  kl : Blk V gl #[.int .i64 7, .string ⟨#[]⟩, .int .i64 0, .slice none 0 0, .slice (some ⟨gb, 0, none⟩) 2 2, .slice (some ⟨ga, 0, none⟩) 1 1, .slice none 0 0] 31
  ks : Blk V gs #[.int .i64 sk, .string ss, .int .i64 sm, .slice so3 sn3 sc3, .slice so4 sn4 sc4, .slice so5 sn5 sc5, .slice so6 sn6 sc6] 31
  kt : Blk V gt #[.int .i64 8, .string ⟨#[]⟩, .int .i64 0, .slice none 0 0, .slice none 0 0, .slice (some ⟨tg, 0, none⟩) 1 1, .slice (some ⟨ta, 0, none⟩) 2 2] 31
  lv : ExVal V V.heap.size 2 letT (.agg #[.int .i64 7, .string ⟨#[]⟩, .int .i64 0, .slice none 0 0, .slice (some ⟨gb, 0, none⟩) 2 2, .slice (some ⟨ga, 0, none⟩) 1 1, .slice none 0 0])
  sv : SubEx V (.agg #[.int .i64 sk, .string ss, .int .i64 sm, .slice so3 sn3 sc3, .slice so4 sn4 sc4, .slice so5 sn5 sc5, .slice so6 sn6 sc6])
  t1 : Blk V tg #[.int .i64 2, .string ⟨#[]⟩, .int .i64 1, .slice none 0 0, .slice none 0 0, .slice none 0 0, .slice none 0 0] 31
  t2 : Blk V ta #[.int .i64 2, .string ⟨#[]⟩, .int .i64 1, .slice none 0 0, .int .i64 2, .string ⟨#[]⟩, .int .i64 1, .slice none 0 0, .slice none 0 0, .slice none 0 0, .slice none 0 0, .int .i64 2, .string ⟨#[]⟩, .int .i64 1, .slice none 0 0, .int .i64 2, .string ⟨#[]⟩, .int .i64 2, .slice none 0 0, .slice none 0 0, .slice none 0 0, .slice none 0 0] 40
def S6 (V : World) (gl gs gt gb ga tg ta : Nat) (sk : Int) (ss : ByteArray) (sm : Int) (so3 : Option Addr) (sn3 sc3 : Nat) (so4 : Option Addr) (sn4 sc4 : Nat) (so5 : Option Addr) (sn5 sc5 : Nat) (so6 : Option Addr) (sn6 sc6 : Nat) (X : World) : Prop := Hid (Below V.heap.size V X) ∧ X.cell? ⟨gl, 0, none⟩ = some (.int .i64 7) ∧ X.cell? ⟨gl, 1, none⟩ = some (.string ⟨#[]⟩) ∧ X.cell? ⟨gl, 2, none⟩ = some (.int .i64 0) ∧ X.cell? ⟨gl, 3, none⟩ = some (.slice none 0 0) ∧ X.cell? ⟨gl, 4, none⟩ = some (.slice (some ⟨gb, 0, none⟩) 2 2) ∧ X.cell? ⟨gl, 5, none⟩ = some (.slice (some ⟨ga, 0, none⟩) 1 1) ∧ X.cell? ⟨gl, 6, none⟩ = some (.slice none 0 0) ∧ X.cell? ⟨gs, 0, none⟩ = some (.int .i64 sk) ∧ X.cell? ⟨gs, 1, none⟩ = some (.string ss) ∧ X.cell? ⟨gs, 2, none⟩ = some (.int .i64 sm) ∧ X.cell? ⟨gs, 3, none⟩ = some (.slice so3 sn3 sc3) ∧ X.cell? ⟨gs, 4, none⟩ = some (.slice so4 sn4 sc4) ∧ X.cell? ⟨gs, 5, none⟩ = some (.slice so5 sn5 sc5) ∧ X.cell? ⟨gs, 6, none⟩ = some (.slice so6 sn6 sc6) ∧ X.cell? ⟨gt, 0, none⟩ = some (.int .i64 8) ∧ X.cell? ⟨gt, 1, none⟩ = some (.string ⟨#[]⟩) ∧ X.cell? ⟨gt, 2, none⟩ = some (.int .i64 0) ∧ X.cell? ⟨gt, 3, none⟩ = some (.slice none 0 0) ∧ X.cell? ⟨gt, 4, none⟩ = some (.slice none 0 0) ∧ X.cell? ⟨gt, 5, none⟩ = some (.slice (some ⟨tg, 0, none⟩) 1 1) ∧ X.cell? ⟨gt, 6, none⟩ = some (.slice (some ⟨ta, 0, none⟩) 2 2)
theorem Nm.s6 {V : World} {gl gs gt gb ga tg ta : Nat} {sk : Int} {ss : ByteArray} {sm : Int} {so3 : Option Addr} {sn3 sc3 : Nat} {so4 : Option Addr} {sn4 sc4 : Nat} {so5 : Option Addr} {sn5 sc5 : Nat} {so6 : Option Addr} {sn6 sc6 : Nat} {X : World} (h : Nm V gl gs gt gb ga tg ta sk ss sm so3 sn3 sc3 so4 sn4 sc4 so5 sn5 sc5 so6 sn6 sc6) (hb : Hid (Below V.heap.size V X)) : S6 V gl gs gt gb ga tg ta sk ss sm so3 sn3 sc3 so4 sn4 sc4 so5 sn5 sc5 so6 sn6 sc6 X := by
  have k1 := h.kl.below hb.out
  have k2 := h.ks.below hb.out
  have k3 := h.kt.below hb.out
  exact ⟨hb, k1.cell 0 _ rfl, k1.cell 1 _ rfl, k1.cell 2 _ rfl, k1.cell 3 _ rfl, k1.cell 4 _ rfl, k1.cell 5 _ rfl, k1.cell 6 _ rfl, k2.cell 0 _ rfl, k2.cell 1 _ rfl, k2.cell 2 _ rfl, k2.cell 3 _ rfl, k2.cell 4 _ rfl, k2.cell 5 _ rfl, k2.cell 6 _ rfl, k3.cell 0 _ rfl, k3.cell 1 _ rfl, k3.cell 2 _ rfl, k3.cell 3 _ rfl, k3.cell 4 _ rfl, k3.cell 5 _ rfl, k3.cell 6 _ rfl⟩
theorem up2n {V X Y : World} (h : Hid (Below V.heap.size V X)) (k : Below X.heap.size X Y) : Hid (Below V.heap.size V Y) := h.out.trans (k.mono h.out.size)
theorem lamZ_c (gz gm : Nat) (T1 T2 : TypeId) (X : World) (h1 : Blk X gz #[.string ⟨#[122]⟩] T1) (h3 : Blk X gm #[.int .i64 1, .string ⟨#[121]⟩, .int .i64 0, .slice none 0 0, .slice none 0 0, .slice none 0 0, .slice none 0 0, .int .i64 1, .string ⟨#[122]⟩, .int .i64 0, .slice none 0 0, .slice none 0 0, .slice none 0 0, .slice none 0 0] T2) : Calls Tryz.prog 13 #[.agg #[.int .i64 6, .string ⟨#[]⟩, .int .i64 0, .slice none 0 0, .slice none 0 0, .slice (some ⟨gm, 0, none⟩) 2 2, .slice none 0 0], .slice (some ⟨gz, 0, none⟩) 1 1] X fun r X' => ∃ M, r = .returned (.agg #[.int .i64 5, .string ⟨#[]⟩, .int .i64 0, .slice (some ⟨gz, 0, none⟩) 1 1, .slice none 0 0, .slice (some ⟨M, 0, none⟩) 1 1, .slice none 0 0]) ∧ ExVal X' X'.heap.size 2 (laT zB7 yB7 zB7) (.agg #[.int .i64 5, .string ⟨#[]⟩, .int .i64 0, .slice (some ⟨gz, 0, none⟩) 1 1, .slice none 0 0, .slice (some ⟨M, 0, none⟩) 1 1, .slice none 0 0]) ∧ Below X.heap.size X X' := by
  refine (llam_c _ _ _ _ _ _ _ _ _ _ _ _ _ _ _ _ _ _ X).mono ?_
  rintro r w11 ⟨M, rfl, -, hM, h⟩
  exact ⟨M, rfl, la_val (h1.below h) hM (h3.below h), h⟩
theorem freeLet_c (v : Value) (X : World) (h : ExVal X X.heap.size 2 letT v) : Calls Tryz.prog 14 #[v] X fun r X' => ∃ o c, r = .returned (.slice o 0 c) ∧ Below X.heap.size X X' := by
  refine (Free_c 2 letT v [] List.nodup_nil (Nat.zero_le _) free_let X.heap.size X h (Nat.le_refl _) nm_let (by decide) (by decide) (by decide)).mono ?_
  rintro r w' ⟨u, rfl, h1, h2⟩
  rcases h1.2 with ⟨rfl, -⟩ | ⟨g1, c1, cur1, rfl, -⟩
  · exact ⟨none, 0, rfl, h2⟩
  · exact ⟨_, _, rfl, h2⟩
theorem sizeLet_c (v : Value) (X : World) (h : ExVal X X.heap.size 2 letT v) : Calls Tryz.prog 15 #[v] X fun r X' => r = .returned (.int .i64 6) ∧ Below X.heap.size X X' := by
  have h9 := Size_c 2 letT v X.heap.size X h (Nat.le_refl _) (by decide) (by decide)
  rw [size_let] at h9
  exact h9
/-- A region's operations, taken out of a function's body. -/
def regOf (n : Nat) : Code → Option (Array Oper)
  | .region i ops _ => if i = n then some ops else none
  | .seq a b => match regOf n a with
    | some r => some r
    | none => regOf n b
  | .cond _ a b => match regOf n a with
    | some r => some r
    | none => regOf n b
  | .block _ c => regOf n c
  | .loop c => regOf n c
  | .scope c => regOf n c
  | _ => none
end Go.Proofs.YtegdloenakachaaGreatDoor
