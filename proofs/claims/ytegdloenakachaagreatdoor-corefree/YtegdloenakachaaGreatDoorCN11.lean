/-
  Copies of rows, and rows of constructors compared, laid at this program.
  Rows copied: slices.Clone of texts, bindings, expressions, alternatives, by contracts.
  copied: what is told of the rows that it goes through.
  New names as mathematics; expressions read through a footprint; expressions of a greater depth.
  Constructors: the map of the first one of each name, by contracts.
-/
import Derived.Shelf.SlicesE.Clone
import Derived.Shelf.SlicesQ.Equal
import Derived.Laws.StructEq
import Derived.Test.YtegdloenakachaaGreatDoorChecked
import Derived.Test.YtegdloenakachaaGreatDoorCN10
import Derived.Lib.SmallJoins
import Derived.Laws.OwnMore
import Derived.Lib.ItoaNum
namespace Go.Proofs
open Go.Shelf
def Tryz.eCloneTxt_ren : Go.Shelf.Ren := ⟨fun | 41 => 54 | n => n, fun | 22 => 26 | 23 => 9 | n => n, fun n => n⟩
theorem Tryz.eCloneTxt : Go.Proofs.SlLaysE0.n41 Tryz.prog Tryz.eCloneTxt_ren := {
  mixed := by kernel_rfl
  f41 := ⟨ "slices.Clone[[]string,string]", by decide, Tryz.func54.trans (congrArg some (by kernel_rfl))⟩
  t4 := Tryz.underlying4
  a4 := Tryz.isAgg4
  z4 := Tryz.sizeOf4
  v4 := Tryz.zeroValue4
  t22 := Tryz.underlying26
  a22 := Tryz.isAgg26
  z22 := Tryz.sizeOf26
  v22 := Tryz.zeroValue26 }
def Tryz.eCloneBind_ren : Go.Shelf.Ren := ⟨fun | 41 => 103 | n => n, fun | 22 => 27 | 23 => 36 | n => n, fun n => n⟩
theorem Tryz.eCloneBind : Go.Proofs.SlLaysE0.n41 Tryz.prog Tryz.eCloneBind_ren := {
  mixed := by kernel_rfl
  f41 := ⟨ "slices.Clone[[]thunkmill/api.Bind,thunkmill/api.Bind]", by decide, Tryz.func103.trans (congrArg some (by kernel_rfl))⟩
  t4 := Tryz.underlying4
  a4 := Tryz.isAgg4
  z4 := Tryz.sizeOf4
  v4 := Tryz.zeroValue4
  t22 := Tryz.underlying27
  a22 := Tryz.isAgg27
  z22 := Tryz.sizeOf27
  v22 := Tryz.zeroValue27 }
def Tryz.eCloneExpr_ren : Go.Shelf.Ren := ⟨fun | 41 => 104 | n => n, fun | 22 => 28 | 23 => 31 | n => n, fun n => n⟩
theorem Tryz.eCloneExpr : Go.Proofs.SlLaysE0.n41 Tryz.prog Tryz.eCloneExpr_ren := {
  mixed := by kernel_rfl
  f41 := ⟨ "slices.Clone[[]thunkmill/api.Expr,thunkmill/api.Expr]", by decide, Tryz.func104.trans (congrArg some (by kernel_rfl))⟩
  t4 := Tryz.underlying4
  a4 := Tryz.isAgg4
  z4 := Tryz.sizeOf4
  v4 := Tryz.zeroValue4
  t22 := Tryz.underlying28
  a22 := Tryz.isAgg28
  z22 := Tryz.sizeOf28
  v22 := Tryz.zeroValue28 }
def Tryz.eCloneAlt_ren : Go.Shelf.Ren := ⟨fun | 41 => 105 | n => n, fun | 22 => 29 | 23 => 40 | n => n, fun n => n⟩
theorem Tryz.eCloneAlt : Go.Proofs.SlLaysE0.n41 Tryz.prog Tryz.eCloneAlt_ren := {
  mixed := by kernel_rfl
  f41 := ⟨ "slices.Clone[[]thunkmill/api.Alt,thunkmill/api.Alt]", by decide, Tryz.func105.trans (congrArg some (by kernel_rfl))⟩
  t4 := Tryz.underlying4
  a4 := Tryz.isAgg4
  z4 := Tryz.sizeOf4
  v4 := Tryz.zeroValue4
  t22 := Tryz.underlying29
  a22 := Tryz.isAgg29
  z22 := Tryz.sizeOf29
  v22 := Tryz.zeroValue29 }
def Tryz.qEqualCon_ren : Go.Shelf.Ren := ⟨fun | 8 => 80 | n => n, fun | 22 => 23 | 24 => 59 | n => n, fun n => n⟩
theorem Tryz.qEqualCon : Go.Proofs.SlLaysQ.n8 Tryz.prog Tryz.qEqualCon_ren := {
  mixed := by kernel_rfl
  f8 := ⟨ "slices.Equal[[]thunkmill/api.Con,thunkmill/api.Con]", by decide, Tryz.func80.trans (congrArg some (by kernel_rfl))⟩
  t0 := Tryz.underlying0
  a0 := Tryz.isAgg0
  z0 := Tryz.sizeOf0
  v0 := Tryz.zeroValue0
  t3 := Tryz.underlying3
  a3 := Tryz.isAgg3
  z3 := Tryz.sizeOf3
  v3 := Tryz.zeroValue3
  t4 := Tryz.underlying4
  a4 := Tryz.isAgg4
  z4 := Tryz.sizeOf4
  v4 := Tryz.zeroValue4
  t22 := Tryz.underlying23
  a22 := Tryz.isAgg23
  z22 := Tryz.sizeOf23
  v22 := Tryz.zeroValue23 }
end Go.Proofs

namespace Go.Proofs.YtegdloenakachaaGreatDoor
open Go.RowKit Go.Shelf Go.Maps
set_option linter.unusedVariables false

/-- What a copied row is. -/
def ClPost (w : World) (b off n size : Nat) (r : Ending) (w' : World) : Prop := ∃ g cap, r = .returned (.slice (some ⟨g, 0, none⟩) n cap) ∧ w.heap.size ≤ g ∧ g < w'.heap.size ∧ Uf w' g ∧ (∀ j, j < n * size → w'.cell? ⟨g, j, none⟩ = w.cell? ⟨b, off + j, none⟩) ∧ Below w.heap.size w w'
def ClZero (w : World) (r : Ending) (w' : World) : Prop := ∃ o c, r = .returned (.slice o 0 c) ∧ Below w.heap.size w w'
def news7 (w : World) (b off k : Nat) : List Value := (List.range k).map (fun j => (w.cell? ⟨b, off + j, none⟩).getD (.int .i64 0))
theorem news7_at (w : World) (b off k : Nat) (hc : ∀ j, j < k → ∃ u, w.cell? ⟨b, off + j, none⟩ = some u ∧ u.oneCell' = true) : ∀ j u, (news7 w b off k)[j]? = some u → w.cell? ⟨b, off + j, none⟩ = some u := by
  intro j u hj
  unfold news7 at hj
  rw [List.getElem?_map] at hj
  by_cases h : j < k
  · rw [List.getElem?_range h] at hj
    obtain ⟨v, hv, -⟩ := hc j h
    simp only [Option.map_some, hv, Option.getD_some] at hj
    rw [hv]; exact hj
  · rw [List.getElem?_eq_none (by simpa using h)] at hj
    cases hj
theorem news7_one (w : World) (b off k : Nat) (hc : ∀ j, j < k → ∃ u, w.cell? ⟨b, off + j, none⟩ = some u ∧ u.oneCell' = true) : ∀ u ∈ news7 w b off k, u.oneCell' = true := by
  intro u hu
  obtain ⟨j, hj, rfl⟩ := List.mem_map.1 hu
  obtain ⟨v, hv, h1⟩ := hc j (List.mem_range.1 hj)
  simp only [hv, Option.getD_some]; exact h1
theorem clpost_of {w w' : World} {b off n size : Nat} {T : TypeId} {v : Value} {r : Ending} (hc : ∀ j, j < n * size → ∃ u, w.cell? ⟨b, off + j, none⟩ = some u ∧ u.oneCell' = true) (hr : r = .returned v) (ho : w'.ownsRow w.heap.size T size v n (news7 w b off (n * size))) (hn : v ≠ .slice none 0 0) (hb : Below w.heap.size w w') (hT : T ≠ 149) : ClPost w b off n size r w' := by
  rcases Go.Joins.ownsRow_forms ho with ⟨h, -⟩ | ⟨g, cap, rfl⟩
  · exact absurd h hn
  · have hlt := ho.lt g rfl
    refine ⟨g, cap, hr, hlt.1, hlt.2, ?_, fun j hj => ?_, hb⟩
    · obtain ⟨-, h2⟩ := ho
      rcases h2 with ⟨h2, -⟩ | ⟨g', cap', cur, e, h3, h4, -⟩
      · cases h2
      · cases e; exact ⟨cur, T, h4, hT⟩
    · rw [ho.cellAt j hj]
      obtain ⟨u, hu, -⟩ := hc j hj
      rw [hu]
      unfold news7
      rw [List.getElem?_map, List.getElem?_range hj]
      simp [hu]
theorem clInfoTxt : (Tryz.prog.info? 9).map (fun i => (i.zero, i.size, i.bytes)) = some (some (.string ⟨#[]⟩), 1, 16) := by kernel_rfl
set_option maxRecDepth 100000 in
theorem cloneTxt_c (b off n c : Nat) (w : World) (hn : n ≤ 2000000) (hc : ∀ j, j < n * 1 → ∃ u, w.cell? ⟨b, off + j, none⟩ = some u ∧ u.oneCell' = true) :
    Calls Tryz.prog 54 #[.slice (some ⟨b, off, none⟩) n c] w fun r w' => ClPost w b off n 1 r w' := by
  obtain ⟨i, hi, hzz⟩ := Option.map_eq_some_iff.1 clInfoTxt
  simp only [Prod.mk.injEq] at hzz
  obtain ⟨hz, hs, hb⟩ := hzz
  refine (AnyE.slices_Clone Tryz.eCloneTxt i _ 1 16 hi hz hs hb rfl (by decide) (fun w => Tryz.sizeOf9 w) b off n c (news7 w b off (n * 1)) w (by unfold news7; rw [List.length_map, List.length_range]) (by unfold maxLen; omega) (by omega) (news7_at w b off _ hc) (news7_one w b off _ hc)).mono ?_
  rintro r w' ⟨v', hr, ho, hne, hb⟩
  exact clpost_of hc hr ho hne hb (by decide)
set_option maxHeartbeats 2000000 in
set_option maxRecDepth 100000 in
theorem cloneTxt_zero (o : Option Addr) (c : Nat) (w : World) : Calls Tryz.prog 54 #[.slice o 0 c] w fun r w' => ClZero w r w' := by
  cases o with
  | none =>
    refine (AnyE.slices_Clone_nil Tryz.eCloneTxt 0 c w).mono ?_
    rintro r w' ⟨rfl, rfl⟩
    exact ⟨none, 0, rfl, Below.refl _ _⟩
  | some a =>
    obtain ⟨i, hi, hzz⟩ := Option.map_eq_some_iff.1 clInfoTxt
    simp only [Prod.mk.injEq] at hzz
    obtain ⟨hz, hs, hb⟩ := hzz
    have qE : ∀ (w : World) (a : Option Addr) (n c n' c' : Nat), (binOp .eql 26 (.slice a n c) (.slice none n' c')).run Tryz.prog w = .ok (.bool a.isNone) w := fun w a n c n' c' => Lib.run_eql_slice_nil w _ _ a n c n' c' Tryz.underlying26
    have uE : ∀ w, Sem.run Tryz.prog (underlying 26) w = .ok (TypeDesc.slice 9) w := run_underlying Tryz.underlying26
    go_enter Tryz.func54, Tryz.ntmps54
    go_wp2_with (at_builtin; refine wpList_append_own _ rfl _ _ 26 rfl w.heap.size 9 i _ 1 16 Tryz.underlying26 hi hz hs hb rfl (by decide) _ _ _ rfl (World.ownsRow_made w #[] 0 (Nat.le_refl _) (Nat.zero_le _) (by simp)) a 0 c [] rfl rfl (by intro j u hj; simp at hj) (by intro u hu; cases hu) (by unfold maxLen; omega) (by omega) (by simp) ?_)
    intro v' w1 hown hgrow hnil
    go_wp2
    go_ret
    rcases Go.Joins.ownsRow_forms hown with ⟨rfl, -⟩ | ⟨g, cap, rfl⟩
    · exact ⟨none, 0, rfl, ((Below.refl _ w).alloc (Nat.le_refl _) _).grown hgrow (by simp) (by intro k hk; simp [Value.ownBlock] at hk; omega)⟩
    · exact ⟨_, cap, rfl, ((Below.refl _ w).alloc (Nat.le_refl _) _).grown hgrow (by simp) (by intro k hk; simp [Value.ownBlock] at hk; omega)⟩
theorem clInfoBind : (Tryz.prog.info? 36).map (fun i => (i.zero, i.size, i.bytes)) = some (some (.agg #[.string ⟨#[]⟩, .int .i64 0, .string ⟨#[]⟩, .int .i64 0, .slice none 0 0, .slice none 0 0, .slice none 0 0, .slice none 0 0]), 8, 144) := by kernel_rfl
set_option maxRecDepth 100000 in
theorem cloneBind_c (b off n c : Nat) (w : World) (hn : n ≤ 2000000) (hc : ∀ j, j < n * 8 → ∃ u, w.cell? ⟨b, off + j, none⟩ = some u ∧ u.oneCell' = true) :
    Calls Tryz.prog 103 #[.slice (some ⟨b, off, none⟩) n c] w fun r w' => ClPost w b off n 8 r w' := by
  obtain ⟨i, hi, hzz⟩ := Option.map_eq_some_iff.1 clInfoBind
  simp only [Prod.mk.injEq] at hzz
  obtain ⟨hz, hs, hb⟩ := hzz
  refine (AnyE.slices_Clone Tryz.eCloneBind i _ 8 144 hi hz hs hb rfl (by decide) (fun w => Tryz.sizeOf36 w) b off n c (news7 w b off (n * 8)) w (by unfold news7; rw [List.length_map, List.length_range]) (by unfold maxLen; omega) (by omega) (news7_at w b off _ hc) (news7_one w b off _ hc)).mono ?_
  rintro r w' ⟨v', hr, ho, hne, hb⟩
  exact clpost_of hc hr ho hne hb (by decide)
set_option maxHeartbeats 2000000 in
set_option maxRecDepth 100000 in
theorem cloneBind_zero (o : Option Addr) (c : Nat) (w : World) : Calls Tryz.prog 103 #[.slice o 0 c] w fun r w' => ClZero w r w' := by
  cases o with
  | none =>
    refine (AnyE.slices_Clone_nil Tryz.eCloneBind 0 c w).mono ?_
    rintro r w' ⟨rfl, rfl⟩
    exact ⟨none, 0, rfl, Below.refl _ _⟩
  | some a =>
    obtain ⟨i, hi, hzz⟩ := Option.map_eq_some_iff.1 clInfoBind
    simp only [Prod.mk.injEq] at hzz
    obtain ⟨hz, hs, hb⟩ := hzz
    have qE : ∀ (w : World) (a : Option Addr) (n c n' c' : Nat), (binOp .eql 27 (.slice a n c) (.slice none n' c')).run Tryz.prog w = .ok (.bool a.isNone) w := fun w a n c n' c' => Lib.run_eql_slice_nil w _ _ a n c n' c' Tryz.underlying27
    have uE : ∀ w, Sem.run Tryz.prog (underlying 27) w = .ok (TypeDesc.slice 36) w := run_underlying Tryz.underlying27
    go_enter Tryz.func103, Tryz.ntmps103
    go_wp2_with (at_builtin; refine wpList_append_own _ rfl _ _ 27 rfl w.heap.size 36 i _ 8 144 Tryz.underlying27 hi hz hs hb rfl (by decide) _ _ _ rfl (World.ownsRow_made w #[] 0 (Nat.le_refl _) (Nat.zero_le _) (by simp)) a 0 c [] rfl rfl (by intro j u hj; simp at hj) (by intro u hu; cases hu) (by unfold maxLen; omega) (by omega) (by simp) ?_)
    intro v' w1 hown hgrow hnil
    go_wp2
    go_ret
    rcases Go.Joins.ownsRow_forms hown with ⟨rfl, -⟩ | ⟨g, cap, rfl⟩
    · exact ⟨none, 0, rfl, ((Below.refl _ w).alloc (Nat.le_refl _) _).grown hgrow (by simp) (by intro k hk; simp [Value.ownBlock] at hk; omega)⟩
    · exact ⟨_, cap, rfl, ((Below.refl _ w).alloc (Nat.le_refl _) _).grown hgrow (by simp) (by intro k hk; simp [Value.ownBlock] at hk; omega)⟩
theorem clInfoExpr : (Tryz.prog.info? 31).map (fun i => (i.zero, i.size, i.bytes)) = some (some (.agg #[.int .i64 0, .string ⟨#[]⟩, .int .i64 0, .slice none 0 0, .slice none 0 0, .slice none 0 0, .slice none 0 0]), 7, 128) := by kernel_rfl
set_option maxRecDepth 100000 in
theorem cloneExpr_c (b off n c : Nat) (w : World) (hn : n ≤ 2000000) (hc : ∀ j, j < n * 7 → ∃ u, w.cell? ⟨b, off + j, none⟩ = some u ∧ u.oneCell' = true) :
    Calls Tryz.prog 104 #[.slice (some ⟨b, off, none⟩) n c] w fun r w' => ClPost w b off n 7 r w' := by
  obtain ⟨i, hi, hzz⟩ := Option.map_eq_some_iff.1 clInfoExpr
  simp only [Prod.mk.injEq] at hzz
  obtain ⟨hz, hs, hb⟩ := hzz
  refine (AnyE.slices_Clone Tryz.eCloneExpr i _ 7 128 hi hz hs hb rfl (by decide) (fun w => Tryz.sizeOf31 w) b off n c (news7 w b off (n * 7)) w (by unfold news7; rw [List.length_map, List.length_range]) (by unfold maxLen; omega) (by omega) (news7_at w b off _ hc) (news7_one w b off _ hc)).mono ?_
  rintro r w' ⟨v', hr, ho, hne, hb⟩
  exact clpost_of hc hr ho hne hb (by decide)
set_option maxHeartbeats 2000000 in
set_option maxRecDepth 100000 in
theorem cloneExpr_zero (o : Option Addr) (c : Nat) (w : World) : Calls Tryz.prog 104 #[.slice o 0 c] w fun r w' => ClZero w r w' := by
  cases o with
  | none =>
    refine (AnyE.slices_Clone_nil Tryz.eCloneExpr 0 c w).mono ?_
    rintro r w' ⟨rfl, rfl⟩
    exact ⟨none, 0, rfl, Below.refl _ _⟩
  | some a =>
    obtain ⟨i, hi, hzz⟩ := Option.map_eq_some_iff.1 clInfoExpr
    simp only [Prod.mk.injEq] at hzz
    obtain ⟨hz, hs, hb⟩ := hzz
    have qE : ∀ (w : World) (a : Option Addr) (n c n' c' : Nat), (binOp .eql 28 (.slice a n c) (.slice none n' c')).run Tryz.prog w = .ok (.bool a.isNone) w := fun w a n c n' c' => Lib.run_eql_slice_nil w _ _ a n c n' c' Tryz.underlying28
    have uE : ∀ w, Sem.run Tryz.prog (underlying 28) w = .ok (TypeDesc.slice 31) w := run_underlying Tryz.underlying28
    go_enter Tryz.func104, Tryz.ntmps104
    go_wp2_with (at_builtin; refine wpList_append_own _ rfl _ _ 28 rfl w.heap.size 31 i _ 7 128 Tryz.underlying28 hi hz hs hb rfl (by decide) _ _ _ rfl (World.ownsRow_made w #[] 0 (Nat.le_refl _) (Nat.zero_le _) (by simp)) a 0 c [] rfl rfl (by intro j u hj; simp at hj) (by intro u hu; cases hu) (by unfold maxLen; omega) (by omega) (by simp) ?_)
    intro v' w1 hown hgrow hnil
    go_wp2
    go_ret
    rcases Go.Joins.ownsRow_forms hown with ⟨rfl, -⟩ | ⟨g, cap, rfl⟩
    · exact ⟨none, 0, rfl, ((Below.refl _ w).alloc (Nat.le_refl _) _).grown hgrow (by simp) (by intro k hk; simp [Value.ownBlock] at hk; omega)⟩
    · exact ⟨_, cap, rfl, ((Below.refl _ w).alloc (Nat.le_refl _) _).grown hgrow (by simp) (by intro k hk; simp [Value.ownBlock] at hk; omega)⟩
theorem clInfoAlt : (Tryz.prog.info? 40).map (fun i => (i.zero, i.size, i.bytes)) = some (some (.agg #[.int .i64 0, .string ⟨#[]⟩, .int .i64 0, .slice none 0 0, .int .i64 0, .string ⟨#[]⟩, .int .i64 0, .slice none 0 0, .slice none 0 0, .slice none 0 0, .slice none 0 0]), 11, 184) := by kernel_rfl
set_option maxRecDepth 100000 in
theorem cloneAlt_c (b off n c : Nat) (w : World) (hn : n ≤ 2000000) (hc : ∀ j, j < n * 11 → ∃ u, w.cell? ⟨b, off + j, none⟩ = some u ∧ u.oneCell' = true) :
    Calls Tryz.prog 105 #[.slice (some ⟨b, off, none⟩) n c] w fun r w' => ClPost w b off n 11 r w' := by
  obtain ⟨i, hi, hzz⟩ := Option.map_eq_some_iff.1 clInfoAlt
  simp only [Prod.mk.injEq] at hzz
  obtain ⟨hz, hs, hb⟩ := hzz
  refine (AnyE.slices_Clone Tryz.eCloneAlt i _ 11 184 hi hz hs hb rfl (by decide) (fun w => Tryz.sizeOf40 w) b off n c (news7 w b off (n * 11)) w (by unfold news7; rw [List.length_map, List.length_range]) (by unfold maxLen; omega) (by omega) (news7_at w b off _ hc) (news7_one w b off _ hc)).mono ?_
  rintro r w' ⟨v', hr, ho, hne, hb⟩
  exact clpost_of hc hr ho hne hb (by decide)
set_option maxHeartbeats 2000000 in
set_option maxRecDepth 100000 in
theorem cloneAlt_zero (o : Option Addr) (c : Nat) (w : World) : Calls Tryz.prog 105 #[.slice o 0 c] w fun r w' => ClZero w r w' := by
  cases o with
  | none =>
    refine (AnyE.slices_Clone_nil Tryz.eCloneAlt 0 c w).mono ?_
    rintro r w' ⟨rfl, rfl⟩
    exact ⟨none, 0, rfl, Below.refl _ _⟩
  | some a =>
    obtain ⟨i, hi, hzz⟩ := Option.map_eq_some_iff.1 clInfoAlt
    simp only [Prod.mk.injEq] at hzz
    obtain ⟨hz, hs, hb⟩ := hzz
    have qE : ∀ (w : World) (a : Option Addr) (n c n' c' : Nat), (binOp .eql 29 (.slice a n c) (.slice none n' c')).run Tryz.prog w = .ok (.bool a.isNone) w := fun w a n c n' c' => Lib.run_eql_slice_nil w _ _ a n c n' c' Tryz.underlying29
    have uE : ∀ w, Sem.run Tryz.prog (underlying 29) w = .ok (TypeDesc.slice 40) w := run_underlying Tryz.underlying29
    go_enter Tryz.func105, Tryz.ntmps105
    go_wp2_with (at_builtin; refine wpList_append_own _ rfl _ _ 29 rfl w.heap.size 40 i _ 11 184 Tryz.underlying29 hi hz hs hb rfl (by decide) _ _ _ rfl (World.ownsRow_made w #[] 0 (Nat.le_refl _) (Nat.zero_le _) (by simp)) a 0 c [] rfl rfl (by intro j u hj; simp at hj) (by intro u hu; cases hu) (by unfold maxLen; omega) (by omega) (by simp) ?_)
    intro v' w1 hown hgrow hnil
    go_wp2
    go_ret
    rcases Go.Joins.ownsRow_forms hown with ⟨rfl, -⟩ | ⟨g, cap, rfl⟩
    · exact ⟨none, 0, rfl, ((Below.refl _ w).alloc (Nat.le_refl _) _).grown hgrow (by simp) (by intro k hk; simp [Value.ownBlock] at hk; omega)⟩
    · exact ⟨_, cap, rfl, ((Below.refl _ w).alloc (Nat.le_refl _) _).grown hgrow (by simp) (by intro k hk; simp [Value.ownBlock] at hk; omega)⟩
end Go.Proofs.YtegdloenakachaaGreatDoor

namespace Go.Proofs.YtegdloenakachaaGreatDoor
open Go.RowKit Go.Shelf Go.Maps
set_option linter.unusedVariables false

theorem ex_cells {W : World} {B d : Nat} {t : Tr d} {g off : Nat} (h : ExAt W B d t g off) : ∀ q, q < 7 → ∃ u, W.cell? ⟨g, off + q, none⟩ = some u ∧ u.oneCell' = true := by
  cases d with
  | zero => exact nomatch t
  | succ d =>
    obtain ⟨hg, h0, h1, h2, ⟨o3, c3, h3, k3⟩, ⟨o4, c4, h4, k4⟩, ⟨o5, c5, h5, k5⟩, ⟨o6, c6, h6, k6⟩⟩ := h
    intro q hq
    rcases (by omega : q = 0 ∨ q = 1 ∨ q = 2 ∨ q = 3 ∨ q = 4 ∨ q = 5 ∨ q = 6) with rfl | rfl | rfl | rfl | rfl | rfl | rfl
    · exact ⟨_, h0, rfl⟩
    · exact ⟨_, h1, rfl⟩
    · exact ⟨_, h2, rfl⟩
    · exact ⟨_, h3, rfl⟩
    · exact ⟨_, h4, rfl⟩
    · exact ⟨_, h5, rfl⟩
    · exact ⟨_, h6, rfl⟩
theorem bd_cells {W : World} {B d : Nat} {b : ByteArray × Tr d} {g off : Nat} (h : W.cell? ⟨g, off, none⟩ = some (.string b.1) ∧ ExAt W B d b.2 g (off + 1)) : ∀ q, q < 8 → ∃ u, W.cell? ⟨g, off + q, none⟩ = some u ∧ u.oneCell' = true := by
  intro q hq
  rcases Nat.eq_zero_or_pos q with rfl | hp
  · exact ⟨_, h.1, rfl⟩
  · obtain ⟨p, rfl⟩ : ∃ p, q = 1 + p := ⟨q - 1, by omega⟩
    rw [← Nat.add_assoc]
    exact ex_cells h.2 p (by omega)
theorem al_cells {W : World} {B d : Nat} {a : AltH × Tr d} {g off : Nat} (h : AltAt W B d a g off) : ∀ q, q < 11 → ∃ u, W.cell? ⟨g, off + q, none⟩ = some u ∧ u.oneCell' = true := by
  intro q hq
  obtain ⟨a0, a1, a2, ⟨o3, c3, a3, -⟩, hE⟩ := h
  rcases (by omega : q = 0 ∨ q = 1 ∨ q = 2 ∨ q = 3 ∨ 4 ≤ q) with rfl | rfl | rfl | rfl | hp
  · exact ⟨_, a0, rfl⟩
  · exact ⟨_, a1, rfl⟩
  · exact ⟨_, a2, rfl⟩
  · exact ⟨_, a3, rfl⟩
  · obtain ⟨p, rfl⟩ : ∃ p, q = 4 + p := ⟨q - 4, by omega⟩
    rw [← Nat.add_assoc]
    exact ex_cells hE p (by omega)
theorem row_cells {α : Type} {n size : Nat} {w : World} {g off : Nat} (hs : 0 < size) (h : ∀ k, k < n → ∀ q, q < size → ∃ u, w.cell? ⟨g, off + k * size + q, none⟩ = some u ∧ u.oneCell' = true) : ∀ j, j < n * size → ∃ u, w.cell? ⟨g, off + j, none⟩ = some u ∧ u.oneCell' = true := by
  intro j hj
  have h1 := h (j / size) ((Nat.div_lt_iff_lt_mul hs).2 hj) (j % size) (Nat.mod_lt _ hs)
  rw [Nat.add_assoc, Nat.mul_comm (j / size), Nat.div_add_mod] at h1
  exact h1
/-- An expression whose own cells were copied. -/
theorem ExAt.moved {w W : World} {B B' : Nat} (hb : ∀ g off, g < B → W.cell? ⟨g, off, none⟩ = w.cell? ⟨g, off, none⟩) (hB : B ≤ B') {d : Nat} {t : Tr d} {g off g' off' : Nat} (h : ExAt w B d t g off) (hg : g' < B') (hc : ∀ q, q < 7 → W.cell? ⟨g', off' + q, none⟩ = w.cell? ⟨g, off + q, none⟩) : ExAt W B' d t g' off' := by
  cases d with
  | zero => exact nomatch t
  | succ d =>
    have h9 := ExAt.up hB _ _ _ _ (ExAt.same hb _ _ _ _ h)
    obtain ⟨-, -, -, -, ⟨o3, c3, h3, k3⟩, ⟨o4, c4, h4, k4⟩, ⟨o5, c5, h5, k5⟩, ⟨o6, c6, h6, k6⟩⟩ := h9
    obtain ⟨hg1, h0, h1, h2, -⟩ := h
    have e : ∀ q, W.cell? ⟨g, off + q, none⟩ = w.cell? ⟨g, off + q, none⟩ := fun q => hb g _ hg1
    exact ⟨hg, (hc 0 (by omega)).trans h0, (hc 1 (by omega)).trans h1, (hc 2 (by omega)).trans h2, ⟨o3, c3, ((hc 3 (by omega)).trans (e 3).symm).trans h3, k3⟩, ⟨o4, c4, ((hc 4 (by omega)).trans (e 4).symm).trans h4, k4⟩, ⟨o5, c5, ((hc 5 (by omega)).trans (e 5).symm).trans h5, k5⟩, ⟨o6, c6, ((hc 6 (by omega)).trans (e 6).symm).trans h6, k6⟩⟩
/-- What copied does with an expression of a depth. -/
def CpyOK (d : Nat) : Prop := ∀ (t : Tr d) (B g off : Nat) (w : World), ExAt w B d t g off → B ≤ w.heap.size → Fit d t → Calls Tryz.prog 31 #[.pointer (some ⟨g, off, none⟩)] w fun r w' => ∃ v, r = .returned v ∧ OwV w' d t v w.heap.size w'.heap.size ∧ Below w.heap.size w w'
/-- Seven cells stored. -/
def st7 (W : World) (g off : Nat) (v0 v1 v2 v3 v4 v5 v6 : Value) : World := ((((((W.setCell ⟨g, off, none⟩ v0).setCell ⟨g, off + 1, none⟩ v1).setCell ⟨g, off + 2, none⟩ v2).setCell ⟨g, off + 3, none⟩ v3).setCell ⟨g, off + 4, none⟩ v4).setCell ⟨g, off + 5, none⟩ v5).setCell ⟨g, off + 6, none⟩ v6
theorem st7_size (W : World) (g off : Nat) (v0 v1 v2 v3 v4 v5 v6 : Value) : (st7 W g off v0 v1 v2 v3 v4 v5 v6).heap.size = W.heap.size := by
  unfold st7
  simp only [size_set7]
theorem st7_other (W : World) (g off : Nat) (v0 v1 v2 v3 v4 v5 v6 : Value) (k : Nat) (h : k ≠ g) : (st7 W g off v0 v1 v2 v3 v4 v5 v6).heap[k]? = W.heap[k]? := by
  unfold st7
  simp only [heap_set_other _ _ _ _ k h]
theorem st7_cell (W : World) (g off : Nat) (v0 v1 v2 v3 v4 v5 v6 : Value) (j : Nat) (h : j < off ∨ off + 7 ≤ j) : (st7 W g off v0 v1 v2 v3 v4 v5 v6).cell? ⟨g, j, none⟩ = W.cell? ⟨g, j, none⟩ := by
  unfold st7
  rw [setCell_cell_other _ _ _ _ _ (by omega), setCell_cell_other _ _ _ _ _ (by omega), setCell_cell_other _ _ _ _ _ (by omega), setCell_cell_other _ _ _ _ _ (by omega), setCell_cell_other _ _ _ _ _ (by omega), setCell_cell_other _ _ _ _ _ (by omega), setCell_cell_other _ _ _ _ _ (by omega)]
theorem st7_uf {W : World} {k : Nat} (h : Uf W k) (g off : Nat) (v0 v1 v2 v3 v4 v5 v6 : Value) : Uf (st7 W g off v0 v1 v2 v3 v4 v5 v6) k := by
  unfold st7
  exact ((((((h.set _ _ _).set _ _ _).set _ _ _).set _ _ _).set _ _ _).set _ _ _).set _ _ _
theorem st7_below {B : Nat} {w W : World} (h : Below B w W) (g off : Nat) (hg : B ≤ g) (v0 v1 v2 v3 v4 v5 v6 : Value) : Below B w (st7 W g off v0 v1 v2 v3 v4 v5 v6) := by
  unfold st7
  exact ((((((h.setCell (p := ⟨g, _, none⟩) hg _).setCell (p := ⟨g, _, none⟩) hg _).setCell (p := ⟨g, _, none⟩) hg _).setCell (p := ⟨g, _, none⟩) hg _).setCell (p := ⟨g, _, none⟩) hg _).setCell (p := ⟨g, _, none⟩) hg _).setCell (p := ⟨g, _, none⟩) hg _
theorem cell_set_some (W : World) (g a b : Nat) (u x : Value) (h : W.cell? ⟨g, b, none⟩ = some x) : ∃ y, (W.setCell ⟨g, a, none⟩ u).cell? ⟨g, b, none⟩ = some y := by
  by_cases e : b = a
  · subst e; exact ⟨u, setCell_cell_same _ _ _ _ _ h⟩
  · exact ⟨x, (setCell_cell_other _ _ _ _ _ e).trans h⟩
theorem st7_at (W : World) (g off : Nat) (v0 v1 v2 v3 v4 v5 v6 : Value) (hc : ∀ q, q < 7 → ∃ x, W.cell? ⟨g, off + q, none⟩ = some x) :
    (st7 W g off v0 v1 v2 v3 v4 v5 v6).cell? ⟨g, off, none⟩ = some v0 ∧ (st7 W g off v0 v1 v2 v3 v4 v5 v6).cell? ⟨g, off + 1, none⟩ = some v1 ∧ (st7 W g off v0 v1 v2 v3 v4 v5 v6).cell? ⟨g, off + 2, none⟩ = some v2 ∧ (st7 W g off v0 v1 v2 v3 v4 v5 v6).cell? ⟨g, off + 3, none⟩ = some v3 ∧ (st7 W g off v0 v1 v2 v3 v4 v5 v6).cell? ⟨g, off + 4, none⟩ = some v4 ∧ (st7 W g off v0 v1 v2 v3 v4 v5 v6).cell? ⟨g, off + 5, none⟩ = some v5 ∧ (st7 W g off v0 v1 v2 v3 v4 v5 v6).cell? ⟨g, off + 6, none⟩ = some v6 := by
  have key : ∀ (W : World) (a b : Nat) (u : Value), (∃ x, W.cell? ⟨g, b, none⟩ = some x) → ∃ x, (W.setCell ⟨g, a, none⟩ u).cell? ⟨g, b, none⟩ = some x := fun W a b u ⟨x, hx⟩ => cell_set_some W g a b u x hx
  have same : ∀ (W : World) (a : Nat) (u : Value), (∃ x, W.cell? ⟨g, a, none⟩ = some x) → (W.setCell ⟨g, a, none⟩ u).cell? ⟨g, a, none⟩ = some u := fun W a u ⟨x, hx⟩ => setCell_cell_same _ _ _ _ _ hx
  have c0 := hc 0 (by omega)
  rw [Nat.add_zero] at c0
  unfold st7
  refine ⟨?_, ?_, ?_, ?_, ?_, ?_, ?_⟩
  · repeat rw [setCell_cell_other _ _ _ _ _ (by omega)]
    exact same _ _ _ c0
  · repeat rw [setCell_cell_other _ _ _ _ _ (by omega)]
    exact same _ _ _ (key _ _ _ _ (hc 1 (by omega)))
  · repeat rw [setCell_cell_other _ _ _ _ _ (by omega)]
    exact same _ _ _ (key _ _ _ _ (key _ _ _ _ (hc 2 (by omega))))
  · repeat rw [setCell_cell_other _ _ _ _ _ (by omega)]
    exact same _ _ _ (key _ _ _ _ (key _ _ _ _ (key _ _ _ _ (hc 3 (by omega)))))
  · repeat rw [setCell_cell_other _ _ _ _ _ (by omega)]
    exact same _ _ _ (key _ _ _ _ (key _ _ _ _ (key _ _ _ _ (key _ _ _ _ (hc 4 (by omega))))))
  · repeat rw [setCell_cell_other _ _ _ _ _ (by omega)]
    exact same _ _ _ (key _ _ _ _ (key _ _ _ _ (key _ _ _ _ (key _ _ _ _ (key _ _ _ _ (hc 5 (by omega)))))))
  · exact same _ _ _ (key _ _ _ _ (key _ _ _ _ (key _ _ _ _ (key _ _ _ _ (key _ _ _ _ (key _ _ _ _ (hc 6 (by omega))))))))
/-- A value that is stored becomes an expression whose rows are its own. -/
theorem OwV.stored {V : World} {d : Nat} {t : Tr d} {v : Value} {lo hi : Nat} (h : OwV V d t v lo hi) (g off : Nat) (hg : g < lo) (hc : ∀ q, q < 7 → ∃ x, V.cell? ⟨g, off + q, none⟩ = some x) :
    ∃ (k0 : Int) (n1 : ByteArray) (m2 : Int) (o3 : Option Addr) (l3 c3 : Nat) (o4 : Option Addr) (l4 c4 : Nat) (o5 : Option Addr) (l5 c5 : Nat) (o6 : Option Addr) (l6 c6 : Nat), v = .agg #[.int .i64 k0, .string n1, .int .i64 m2, .slice o3 l3 c3, .slice o4 l4 c4, .slice o5 l5 c5, .slice o6 l6 c6] ∧ OwEx (st7 V g off (.int .i64 k0) (.string n1) (.int .i64 m2) (.slice o3 l3 c3) (.slice o4 l4 c4) (.slice o5 l5 c5) (.slice o6 l6 c6)) d t g off lo hi := by
  cases d with
  | zero => exact nomatch t
  | succ d =>
    obtain ⟨m1, m2, m3, o3, c3, o4, c4, o5, c5, o6, c6, l1, l2, l3, l4, rfl, k3, k4, k5, k6⟩ := h
    refine ⟨_, _, _, _, _, _, _, _, _, _, _, _, _, _, _, rfl, ?_⟩
    obtain ⟨q0, q1, q2, q3, q4, q5, q6⟩ := st7_at V g off (.int .i64 (TrN.kind t)) (.string (TrN.name t)) (.int .i64 (TrN.num t)) (.slice o3 (TrN.params t).length c3) (.slice o4 (TrN.binds t).length c4) (.slice o5 (TrN.args t).length c5) (.slice o6 (TrN.alts t).length c6) hc
    generalize hU : st7 V g off (.int .i64 (TrN.kind t)) (.string (TrN.name t)) (.int .i64 (TrN.num t)) (.slice o3 (TrN.params t).length c3) (.slice o4 (TrN.binds t).length c4) (.slice o5 (TrN.args t).length c5) (.slice o6 (TrN.alts t).length c6) = U at q0 q1 q2 q3 q4 q5 q6 ⊢
    have hb : ∀ k, lo ≤ k → U.heap[k]? = V.heap[k]? := fun k hk => by rw [← hU]; exact st7_other _ _ _ _ _ _ _ _ _ _ _ (by omega)
    refine ⟨q0, q1, q2, m1, m2, m3, l1, l2, l3, l4, ⟨o3, c3, q3, k3.same (fun k a b => hb k a)⟩, ⟨o4, c4, q4, k4.same (fun k a b => hb k (by omega)) ?_⟩, ⟨o5, c5, q5, k5.same (fun k a b => hb k (by omega)) ?_⟩, ⟨o6, c6, q6, k6.same (fun k a b => hb k (by omega)) ?_⟩⟩
    · rintro x g off a b hg1 hg2 ha hb2 ⟨e1, e2⟩
      have hc := fun j => cell_of_block (hb g (by omega)) j
      exact ⟨(hc _).trans e1, OwEx.same d _ _ _ _ _ e2 (fun q _ => hc _) (fun k h1 h2 => hb k (by omega))⟩
    · intro x g off a b hg1 hg2 ha hb2 e
      have hc := fun j => cell_of_block (hb g (by omega)) j
      exact OwEx.same d _ _ _ _ _ e (fun q _ => hc _) (fun k h1 h2 => hb k (by omega))
    · rintro x g off a b hg1 hg2 ha hb2 ⟨e1, e2, e3, m, q1, q2, ⟨o, c, e4, e5⟩, e6⟩
      have hc := fun j => cell_of_block (hb g (by omega)) j
      exact ⟨(hc _).trans e1, (hc _).trans e2, (hc _).trans e3, m, q1, q2, ⟨o, c, (hc _).trans e4, e5.same (fun k h1 h2 => hb k (by omega))⟩, OwEx.same d _ _ _ _ _ e6 (fun q _ => hc _) (fun k h1 h2 => hb k (by omega))⟩
end Go.Proofs.YtegdloenakachaaGreatDoor

namespace Go.Proofs.YtegdloenakachaaGreatDoor
open Go.RowKit Go.Shelf Go.Maps
set_option linter.unusedVariables false

/-- A new name: a letter and a number. -/
def numB (n : Nat) : ByteArray := ⟨((118 : UInt8) :: Lib.decDigits n).toArray⟩
def dval (l : List UInt8) : Nat := l.foldl (fun a c => a * 10 + (c.toNat - 48)) 0
theorem dval_dec : ∀ n : Nat, dval (Lib.decDigits n) = n := by
  intro n
  induction n using Nat.strongRecOn with
  | ind n ih =>
    rw [Lib.decDigits]
    by_cases h : n < 10
    · rw [dif_pos h]
      show 0 * 10 + ((UInt8.ofNat (48 + n)).toNat - 48) = n
      rw [UInt8.toNat_ofNat']
      omega
    · rw [dif_neg h]
      have h1 := ih (n / 10) (by omega)
      unfold dval at h1 ⊢
      rw [List.foldl_append, h1]
      show n / 10 * 10 + ((UInt8.ofNat (48 + n % 10)).toNat - 48) = n
      rw [UInt8.toNat_ofNat']
      omega
theorem numB_inj {a b : Nat} (h : numB a = numB b) : a = b := by
  unfold numB at h
  injection h with h
  have h2 : (118 : UInt8) :: Lib.decDigits a = 118 :: Lib.decDigits b := by
    have := congrArg Array.toList h
    simpa using this
  injection h2 with _ h3
  have := congrArg dval h3
  rwa [dval_dec, dval_dec] at this
/-- Texts, rows, expressions whose cells all lie in a footprint. -/
def TxF (W : World) (F : Nat → Nat → Prop) (o : Option Addr) (l : List ByteArray) : Prop := l = [] ∨ ∃ g off, o = some ⟨g, off, none⟩ ∧ ∀ k (h : k < l.length), F g (off + k) ∧ W.cell? ⟨g, off + k, none⟩ = some (.string l[k])
def RowF {α : Type} (n : Nat) (P : α → Nat → Nat → Prop) (o : Option Addr) (l : List α) : Prop := l = [] ∨ ∃ g off, o = some ⟨g, off, none⟩ ∧ ∀ k (h : k < l.length), P l[k] g (off + k * n)
def CF (W : World) (F : Nat → Nat → Prop) (g off : Nat) (v : Value) : Prop := F g off ∧ W.cell? ⟨g, off, none⟩ = some v
def ExF (W : World) (F : Nat → Nat → Prop) : (d : Nat) → Tr d → Nat → Nat → Prop
  | 0, t, _, _ => nomatch t
  | d + 1, t, g, off => CF W F g off (.int .i64 (TrN.kind t)) ∧ CF W F g (off + 1) (.string (TrN.name t)) ∧ CF W F g (off + 2) (.int .i64 (TrN.num t)) ∧
    (∃ o c, CF W F g (off + 3) (.slice o (TrN.params t).length c) ∧ TxF W F o (TrN.params t)) ∧
    (∃ o c, CF W F g (off + 4) (.slice o (TrN.binds t).length c) ∧ RowF 8 (fun (b : ByteArray × Tr d) g off => CF W F g off (.string b.1) ∧ ExF W F d b.2 g (off + 1)) o (TrN.binds t)) ∧
    (∃ o c, CF W F g (off + 5) (.slice o (TrN.args t).length c) ∧ RowF 7 (fun (x : Tr d) g off => ExF W F d x g off) o (TrN.args t)) ∧
    (∃ o c, CF W F g (off + 6) (.slice o (TrN.alts t).length c) ∧ RowF 11 (fun (a : AltH × Tr d) g off => CF W F g off (.int .i64 a.1.kind) ∧ CF W F g (off + 1) (.string a.1.name) ∧ CF W F g (off + 2) (.int .i64 a.1.num) ∧ (∃ o c, CF W F g (off + 3) (.slice o a.1.vars.length c) ∧ TxF W F o a.1.vars) ∧ ExF W F d a.2 g (off + 4)) o (TrN.alts t))
def BdF (W : World) (F : Nat → Nat → Prop) (d : Nat) (b : ByteArray × Tr d) (g off : Nat) : Prop := CF W F g off (.string b.1) ∧ ExF W F d b.2 g (off + 1)
def AlF (W : World) (F : Nat → Nat → Prop) (d : Nat) (a : AltH × Tr d) (g off : Nat) : Prop := CF W F g off (.int .i64 a.1.kind) ∧ CF W F g (off + 1) (.string a.1.name) ∧ CF W F g (off + 2) (.int .i64 a.1.num) ∧ (∃ o c, CF W F g (off + 3) (.slice o a.1.vars.length c) ∧ TxF W F o a.1.vars) ∧ ExF W F d a.2 g (off + 4)
section
variable {W W' : World} {F F' : Nat → Nat → Prop}
theorem CF.mono (hF : ∀ g off, F g off → F' g off ∧ W'.cell? ⟨g, off, none⟩ = W.cell? ⟨g, off, none⟩) {g off : Nat} {v : Value} (h : CF W F g off v) : CF W' F' g off v := ⟨(hF _ _ h.1).1, (hF _ _ h.1).2.trans h.2⟩
theorem TxF.mono (hF : ∀ g off, F g off → F' g off ∧ W'.cell? ⟨g, off, none⟩ = W.cell? ⟨g, off, none⟩) {o : Option Addr} {l : List ByteArray} (h : TxF W F o l) : TxF W' F' o l := by
  rcases h with h | ⟨g, off, e, h⟩
  · exact .inl h
  · exact .inr ⟨g, off, e, fun k hk => CF.mono hF (h k hk)⟩
theorem RowF.mono {α : Type} {n : Nat} {P Q : α → Nat → Nat → Prop} {o : Option Addr} {l : List α} (h : RowF n P o l) (hpq : ∀ x g off, P x g off → Q x g off) : RowF n Q o l := by
  rcases h with h | ⟨g, off, e, h⟩
  · exact .inl h
  · exact .inr ⟨g, off, e, fun k hk => hpq _ _ _ (h k hk)⟩
theorem ExF.mono (hF : ∀ g off, F g off → F' g off ∧ W'.cell? ⟨g, off, none⟩ = W.cell? ⟨g, off, none⟩) : ∀ (d : Nat) (t : Tr d) (g off : Nat), ExF W F d t g off → ExF W' F' d t g off
  | 0, t, _, _, _ => nomatch t
  | d + 1, t, g, off, h => by
    obtain ⟨h0, h1, h2, ⟨o3, c3, h3, k3⟩, ⟨o4, c4, h4, k4⟩, ⟨o5, c5, h5, k5⟩, ⟨o6, c6, h6, k6⟩⟩ := h
    refine ⟨h0.mono hF, h1.mono hF, h2.mono hF, ⟨o3, c3, h3.mono hF, k3.mono hF⟩, ⟨o4, c4, h4.mono hF, k4.mono ?_⟩, ⟨o5, c5, h5.mono hF, k5.mono ?_⟩, ⟨o6, c6, h6.mono hF, k6.mono ?_⟩⟩
    · rintro x g off ⟨e1, e2⟩
      exact ⟨e1.mono hF, ExF.mono hF d _ _ _ e2⟩
    · intro x g off e
      exact ExF.mono hF d _ _ _ e
    · rintro x g off ⟨e1, e2, e3, ⟨o, c, e4, e5⟩, e6⟩
      exact ⟨e1.mono hF, e2.mono hF, e3.mono hF, ⟨o, c, e4.mono hF, e5.mono hF⟩, ExF.mono hF d _ _ _ e6⟩
theorem ExF.at {B : Nat} (hB : ∀ g off, F g off → g < B) : ∀ (d : Nat) (t : Tr d) (g off : Nat), ExF W F d t g off → ExAt W B d t g off
  | 0, t, _, _, _ => nomatch t
  | d + 1, t, g, off, h => by
    obtain ⟨h0, h1, h2, ⟨o3, c3, h3, k3⟩, ⟨o4, c4, h4, k4⟩, ⟨o5, c5, h5, k5⟩, ⟨o6, c6, h6, k6⟩⟩ := h
    have tx : ∀ {o : Option Addr} {l : List ByteArray}, TxF W F o l → TxIn W B o l := by
      intro o l h
      rcases h with h | ⟨g, off, e, h⟩
      · exact .inl h
      · by_cases hl : l = []
        · exact .inl hl
        · exact .inr ⟨g, off, e, hB _ _ (h 0 (List.length_pos_iff.2 hl)).1, fun k hk => (h k hk).2⟩
    refine ⟨hB _ _ h0.1, h0.2, h1.2, h2.2, ⟨o3, c3, h3.2, tx k3⟩, ⟨o4, c4, h4.2, ?_⟩, ⟨o5, c5, h5.2, ?_⟩, ⟨o6, c6, h6.2, ?_⟩⟩
    · rcases k4 with h | ⟨g, off, e, h⟩
      · exact .inl h
      · by_cases hl : TrN.binds t = []
        · exact .inl hl
        · exact .inr ⟨g, off, e, hB _ _ (h 0 (List.length_pos_iff.2 hl)).1.1, fun k hk => ⟨(h k hk).1.2, ExF.at hB d _ _ _ (h k hk).2⟩⟩
    · rcases k5 with h | ⟨g, off, e, h⟩
      · exact .inl h
      · by_cases hl : TrN.args t = []
        · exact .inl hl
        · exact .inr ⟨g, off, e, (ExF.at hB d _ _ _ (h 0 (List.length_pos_iff.2 hl))).lt, fun k hk => ExF.at hB d _ _ _ (h k hk)⟩
    · rcases k6 with h | ⟨g, off, e, h⟩
      · exact .inl h
      · by_cases hl : TrN.alts t = []
        · exact .inl hl
        · refine .inr ⟨g, off, e, hB _ _ (h 0 (List.length_pos_iff.2 hl)).1.1, fun k hk => ?_⟩
          obtain ⟨e1, e2, e3, ⟨o, c, e4, e5⟩, e6⟩ := h k hk
          exact ⟨e1.2, e2.2, e3.2, ⟨o, c, e4.2, tx e5⟩, ExF.at hB d _ _ _ e6⟩
theorem OwEx.exF {F : Nat → Nat → Prop} : ∀ (d : Nat) (t : Tr d) (g off lo hi : Nat), OwEx W d t g off lo hi → (∀ o, off ≤ o → o < off + 7 → F g o) → (∀ k o, lo ≤ k → k < hi → F k o) → ExF W F d t g off
  | 0, t, _, _, _, _, _, _, _ => nomatch t
  | d + 1, t, g, off, lo, hi, h, hg, hF => by
    obtain ⟨h0, h1, h2, m1, m2, m3, l1, l2, l3, l4, ⟨o3, c3, h3, k3⟩, ⟨o4, c4, h4, k4⟩, ⟨o5, c5, h5, k5⟩, ⟨o6, c6, h6, k6⟩⟩ := h
    have tx : ∀ {lo' hi' : Nat} {o : Option Addr} {l : List ByteArray}, lo ≤ lo' → hi' ≤ hi → OwTx W lo' hi' o l → TxF W F o l := by
      intro lo' hi' o l a1 a2 h
      rcases h with h | ⟨g, e, b1, b2, b3, b4⟩
      · exact .inl h
      · exact .inr ⟨g, 0, e, fun k hk => ⟨hF g _ (by omega) (by omega), by rw [Nat.zero_add]; exact b4 k hk⟩⟩
    have row : ∀ {α : Type} {lo' hi' n : Nat} {P : α → Nat → Nat → Nat → Nat → Prop} {Q : α → Nat → Nat → Prop} {o : Option Addr} {l : List α}, lo ≤ lo' → hi' ≤ hi → OwRow W lo' hi' n P o l → (∀ x g off a b, lo ≤ g → g < hi → lo ≤ a → b ≤ hi → P x g off a b → Q x g off) → RowF n Q o l := by
      intro α lo' hi' n P Q o l a1 a2 h hpq
      have h9 := h.row (B := hi) (Q := Q) (by omega) (fun x g off a b b1 b2 b3 b4 hp => hpq x g off a b (by omega) (by omega) (by omega) (by omega) hp)
      rcases h9 with h | ⟨g, off, e, -, h⟩
      · exact .inl h
      · exact .inr ⟨g, off, e, h⟩
    refine ⟨⟨hg _ (by omega) (by omega), h0⟩, ⟨hg _ (by omega) (by omega), h1⟩, ⟨hg _ (by omega) (by omega), h2⟩, ⟨o3, c3, ⟨hg _ (by omega) (by omega), h3⟩, tx (by omega) (by omega) k3⟩, ⟨o4, c4, ⟨hg _ (by omega) (by omega), h4⟩, row (by omega) (by omega) k4 ?_⟩, ⟨o5, c5, ⟨hg _ (by omega) (by omega), h5⟩, row (by omega) (by omega) k5 ?_⟩, ⟨o6, c6, ⟨hg _ (by omega) (by omega), h6⟩, row (by omega) (by omega) k6 ?_⟩⟩
    · rintro x g off a b b1 b2 b3 b4 ⟨e1, e2⟩
      exact ⟨⟨hF _ _ b1 b2, e1⟩, OwEx.exF d _ _ _ _ _ e2 (fun o _ _ => hF _ _ b1 b2) (fun k o c1 c2 => hF k o (by omega) (by omega))⟩
    · intro x g off a b b1 b2 b3 b4 e
      exact OwEx.exF d _ _ _ _ _ e (fun o _ _ => hF _ _ b1 b2) (fun k o c1 c2 => hF k o (by omega) (by omega))
    · rintro x g off a b b1 b2 b3 b4 ⟨e1, e2, e3, m, q1, q2, ⟨o, c, e4, e5⟩, e6⟩
      exact ⟨⟨hF _ _ b1 b2, e1⟩, ⟨hF _ _ b1 b2, e2⟩, ⟨hF _ _ b1 b2, e3⟩, ⟨o, c, ⟨hF _ _ b1 b2, e4⟩, tx (by omega) (by omega) e5⟩, OwEx.exF d _ _ _ _ _ e6 (fun o _ _ => hF _ _ b1 b2) (fun k o c1 c2 => hF k o (by omega) (by omega))⟩
end
/-- The same expression, of one depth more. -/
def lift1 : (d : Nat) → Tr d → Tr (d + 1)
  | 0, t => nomatch t
  | d + 1, t => (⟨TrN.kind t, TrN.name t, TrN.num t, TrN.params t, (TrN.binds t).map (fun b => (b.1, lift1 d b.2)), (TrN.args t).map (lift1 d), (TrN.alts t).map (fun a => (a.1, lift1 d a.2))⟩ : TrN (Tr (d + 1)))
def liftN {d : Nat} (t : Tr d) : (k : Nat) → Tr (d + k)
  | 0 => t
  | k + 1 => lift1 (d + k) (liftN t k)
theorem RowF.map {α β : Type} {n : Nat} {P : α → Nat → Nat → Prop} {Q : β → Nat → Nat → Prop} {o : Option Addr} {l : List α} {f : α → β} (h : RowF n P o l) (hpq : ∀ x g off, P x g off → Q (f x) g off) : RowF n Q o (l.map f) := by
  rcases h with h | ⟨g, off, e, h⟩
  · exact .inl (by rw [h]; rfl)
  · refine .inr ⟨g, off, e, fun k hk => ?_⟩
    rw [List.getElem_map]
    exact hpq _ _ _ (h k (by rw [List.length_map] at hk; exact hk))
theorem ExF.lift1 {W : World} {F : Nat → Nat → Prop} : ∀ (d : Nat) (t : Tr d) (g off : Nat), ExF W F d t g off → ExF W F (d + 1) (YtegdloenakachaaGreatDoor.lift1 d t) g off
  | 0, t, _, _, _ => nomatch t
  | d + 1, t, g, off, h => by
    obtain ⟨h0, h1, h2, k3, ⟨o4, c4, h4, k4⟩, ⟨o5, c5, h5, k5⟩, ⟨o6, c6, h6, k6⟩⟩ := h
    refine ⟨h0, h1, h2, k3, ⟨o4, c4, ?_, ?_⟩, ⟨o5, c5, ?_, ?_⟩, ⟨o6, c6, ?_, ?_⟩⟩
    · show CF _ _ _ _ (.slice o4 ((TrN.binds t).map _).length c4)
      rw [List.length_map]; exact h4
    · refine k4.map (f := fun (b : ByteArray × Tr d) => (b.1, YtegdloenakachaaGreatDoor.lift1 d b.2)) ?_
      rintro x g off ⟨e1, e2⟩
      exact ⟨e1, ExF.lift1 d _ _ _ e2⟩
    · show CF _ _ _ _ (.slice o5 ((TrN.args t).map _).length c5)
      rw [List.length_map]; exact h5
    · refine k5.map (f := YtegdloenakachaaGreatDoor.lift1 d) ?_
      intro x g off e
      exact ExF.lift1 d _ _ _ e
    · show CF _ _ _ _ (.slice o6 ((TrN.alts t).map _).length c6)
      rw [List.length_map]; exact h6
    · refine k6.map (f := fun (a : AltH × Tr d) => (a.1, YtegdloenakachaaGreatDoor.lift1 d a.2)) ?_
      rintro x g off ⟨e1, e2, e3, e4, e6⟩
      exact ⟨e1, e2, e3, e4, ExF.lift1 d _ _ _ e6⟩
theorem ExF.liftN {W : World} {F : Nat → Nat → Prop} {d : Nat} {t : Tr d} {g off : Nat} (h : ExF W F d t g off) : ∀ k, ExF W F (d + k) (YtegdloenakachaaGreatDoor.liftN t k) g off
  | 0 => h
  | k + 1 => ExF.lift1 (d + k) _ _ _ (ExF.liftN h k)
end Go.Proofs.YtegdloenakachaaGreatDoor

namespace Go.Proofs.YtegdloenakachaaGreatDoor
open Go.RowKit Go.Shelf Go.Maps
set_option linter.unusedVariables false

/-- A constructor: name, parts, type, which of its type's. -/
abbrev CT := ByteArray × Int × ByteArray × Int
def cnV (c : CT) : Value := .agg #[.string c.1, .int .i64 c.2.1, .string c.2.2.1, .int .i64 c.2.2.2]
def cnZ : Value := .agg #[.string ⟨#[]⟩, .int .i64 0, .string ⟨#[]⟩, .int .i64 0]
/-- A constructor in memory. -/
def ConAt (W : World) (c : CT) (g off : Nat) : Prop := W.cell? ⟨g, off, none⟩ = some (.string c.1) ∧ W.cell? ⟨g, off + 1, none⟩ = some (.int .i64 c.2.1) ∧ W.cell? ⟨g, off + 2, none⟩ = some (.string c.2.2.1) ∧ W.cell? ⟨g, off + 3, none⟩ = some (.int .i64 c.2.2.2)
theorem ConAt.same {W W' : World} {c : CT} {g off : Nat} (h : ConAt W c g off) (hb : W'.heap[g]? = W.heap[g]?) : ConAt W' c g off := ⟨(cell_of_block hb _).trans h.1, (cell_of_block hb _).trans h.2.1, (cell_of_block hb _).trans h.2.2.1, (cell_of_block hb _).trans h.2.2.2⟩
/-- The first constructor of a name. -/
def fstC (fs : List CT) (x : List UInt8) : Option CT := fs.find? (fun f => f.1.data.toList == x)
/-- The map holds the first entry of each name. -/
def CtSt (W : World) (b c : Nat) (fs : List CT) : Prop := ∃ D : DataW Value, W.ownsMap Tryz.prog 9 heldElem b c D ∧ Maps.IsMap D ∧ ∀ x : List UInt8, Maps.has D (.string x) = (fstC fs x).isSome ∧ ∀ f, fstC fs x = some f → D.atKey (.string x) (.held cnZ) = .held (cnV f)
theorem CtSt.lt {W : World} {b c : Nat} {fs : List CT} (h : CtSt W b c fs) : b < W.heap.size := by
  obtain ⟨D, h1, _⟩ := h
  exact h1.lt
theorem CtSt.same {W W' : World} {b c : Nat} {fs : List CT} (h : CtSt W b c fs) (hb : W'.heap[b]? = W.heap[b]?) : CtSt W' b c fs := by
  obtain ⟨D, h1, h2⟩ := h
  obtain ⟨es, clock, k1, k2⟩ := h1
  exact ⟨D, ⟨es, clock, by rw [hb]; exact k1, k2⟩, h2⟩
theorem CtSt.below {W W' : World} {b c : Nat} {fs : List CT} (h : CtSt W b c fs) (hb : Below W.heap.size W W') : CtSt W' b c fs := h.same (hb.block b h.lt)
theorem ctSt_new (W : World) : CtSt (W.alloc (.map #[] 0)) W.heap.size 0 [] := ⟨.map [], World.ownsMap_made W Tryz.prog 9 heldElem, ⟨_, rfl⟩, fun x => ⟨rfl, fun f h => by cases h⟩⟩
theorem zeroCn (w : World) : (zeroValue 59).run Tryz.prog w = .ok cnZ w := by kernel_rfl
theorem CtSt.look {W : World} {b c : Nat} {fs : List CT} (h : CtSt W b c fs) (nm : ByteArray) (hs : nm.size ≤ maxLen) :
    (∃ f, fstC fs nm.data.toList = some f ∧ (Instr.lookup 129 (.map (some b)) (.string nm) true).run Tryz.prog W = .ok (.tuple #[cnV f, .bool true]) W) ∨ (fstC fs nm.data.toList = none ∧ (Instr.lookup 129 (.map (some b)) (.string nm) true).run Tryz.prog W = .ok (.tuple #[cnZ, .bool false]) W) := by
  obtain ⟨D, hown, hD, hall⟩ := h
  obtain ⟨v, ps, hrun, hv⟩ := hown.look_ok (string_keyed Tryz.underlying9) Tryz.underlying129 (zeroCn W) (zd := .held cnZ) (zp := []) rfl (key_str nm hs)
  obtain ⟨h1, h2⟩ := hall nm.data.toList
  cases hf : fstC fs nm.data.toList with
  | none =>
    rw [hf] at h1
    right
    refine ⟨rfl, ?_⟩
    rw [Maps.atKey_of_not_has h1] at hv
    rw [heldElem_inv hv, h1] at hrun
    exact hrun
  | some f =>
    rw [hf] at h1
    left
    refine ⟨f, rfl, ?_⟩
    rw [h2 f hf] at hv
    rw [heldElem_inv hv, h1] at hrun
    exact hrun
theorem fstC_app (fs : List CT) (f : CT) (x : List UInt8) : fstC (fs ++ [f]) x = match fstC fs x with | some y => some y | none => if f.1.data.toList == x then some f else none := by
  unfold fstC
  rw [List.find?_append]
  cases List.find? (fun f => f.1.data.toList == x) fs with
  | some y => rfl
  | none =>
    simp only [Option.none_or, List.find?_cons, List.find?_nil]
    cases f.1.data.toList == x <;> rfl
theorem CtSt.skip {W : World} {b c : Nat} {fs : List CT} (h : CtSt W b c fs) (f : CT) (hf : (fstC fs f.1.data.toList).isSome = true) : CtSt W b c (fs ++ [f]) := by
  have e : fstC (fs ++ [f]) = fstC fs := by
    funext x
    rw [fstC_app]
    cases hx : fstC fs x with
    | some y => rfl
    | none =>
      by_cases e : f.1.data.toList = x
      · subst e; rw [hx] at hf; cases hf
      · simp [e]
  unfold CtSt
  rw [e]
  exact h
theorem CtSt.put {W : World} {b c : Nat} {fs : List CT} (h : CtSt W b c fs) (hc : c < 4000000) (f : CT) (hs : f.1.size ≤ maxLen) (hf : fstC fs f.1.data.toList = none) :
    ∃ W', (Instr.mapUpdate 129 (.map (some b)) (.string f.1) (cnV f)).run Tryz.prog W = .ok () W' ∧ CtSt W' b (c + 1) (fs ++ [f]) ∧ But b W W' := by
  obtain ⟨D, hown, hD, hall⟩ := h
  obtain ⟨w', h5, h6, h7⟩ := hown.store (string_keyed Tryz.underlying9) Tryz.underlying129 (by unfold maxLen; omega) (key_str f.1 hs) (d := .held (cnV f)) (ps := []) rfl
  refine ⟨w', h5, ⟨_, h6, ?_, fun x => ?_⟩, ?_⟩
  · obtain ⟨es2, rfl⟩ := hD
    exact ⟨_, rfl⟩
  · by_cases hx : x = f.1.data.toList
    · subst hx
      rw [Maps.has_put_same hD (by constructor), fstC_app, hf]
      simp only [beq_self_eq_true, if_true]
      refine ⟨rfl, fun g hg => ?_⟩
      cases hg
      rw [Maps.atKey_put_same hD (by constructor)]
    · have e : fstC (fs ++ [f]) x = fstC fs x := by
        rw [fstC_app]
        cases fstC fs x with
        | some y => rfl
        | none => rw [if_neg (by simpa using Ne.symm hx)]
      rw [e, Maps.has_put_other (by simpa using hx)]
      refine ⟨(hall x).1, fun g hg => ?_⟩
      rw [Maps.atKey_put_other (by simpa using hx)]
      exact (hall x).2 g hg
  · obtain ⟨es, clock, es', clock', hb, rfl⟩ := h7
    refine ⟨rfl, rfl, rfl, ?_, fun k hk hn => Go.ChangeMaps.heap_setBlock_other hb _ hn⟩
    show _ ≤ (W.heap.setIfInBounds b _).size
    simp
set_option maxRecDepth 100000 in
set_option maxHeartbeats 2000000 in
theorem isChar_c (n : Int) (w : World) : Calls Tryz.prog 124 #[.int .i64 n] w fun e w' => e = .returned (.bool (decide (0 ≤ n) && decide (n ≤ 255))) ∧ w' = w := by
  by_cases h0 : 0 ≤ n
  · by_cases h1 : n ≤ 255
    · go_enter Tryz.func124, Tryz.ntmps124
      go_wp2
      go_ret
      exact ⟨by simp [h0, h1], rfl⟩
    · go_enter Tryz.func124, Tryz.ntmps124
      go_wp2
      go_ret
      exact ⟨by simp [h1], rfl⟩
  · go_enter Tryz.func124, Tryz.ntmps124
    go_wp2
    go_ret
    exact ⟨by rw [decide_eq_false (by omega : ¬ 0 ≤ n)]; rfl, rfl⟩
/-- Has a constructor of that name so many parts? -/
def takesM (fs : List CT) (x : List UInt8) (n : Nat) : Bool := match fstC fs x with | some f => decide (f.2.1 = (n : Int)) | none => false
set_option maxRecDepth 100000 in
set_option maxHeartbeats 2000000 in
theorem takes_c (fs : List CT) (m c n : Nat) (nm : ByteArray) (w : World) (hc : CtSt w m c fs) (hs : nm.size ≤ maxLen) : Calls Tryz.prog 126 #[.map (some m), .string nm, .int .i64 (n : Int)] w fun e w' => e = .returned (.bool (takesM fs nm.data.toList n)) ∧ Below w.heap.size w w' := by
  rcases hc.look nm hs with ⟨f, hf, hr⟩ | ⟨hf, hr⟩
  · have HR : Hid (takesM fs nm.data.toList n = decide (f.2.1 = (n : Int))) := by show _ = _; unfold takesM; rw [hf]
    have HB : Hid (Below w.heap.size w (w.alloc (.cells #[.string f.1, .int .i64 f.2.1, .string f.2.2.1, .int .i64 f.2.2.2] 59))) := below1 w _
    unfold cnV at hr
    clear hf hc hs
    by_cases e : f.2.1 = (n : Int)
    · have e1 : (f.2.1 == (n : Int)) = true := by simpa using e
      have e2 : decide (f.2.1 = (n : Int)) = true := by simpa using e
      go_enter Tryz.func126, Tryz.ntmps126
      go_wp2
      go_ret
      exact ⟨by rw [HR.out, decide_eq_true e]; rfl, below1 w _⟩
    · have e1 : (f.2.1 == (n : Int)) = false := by simpa using e
      have e2 : decide (f.2.1 = (n : Int)) = false := by simpa using e
      go_enter Tryz.func126, Tryz.ntmps126
      go_wp2
      go_ret
      exact ⟨by rw [HR.out, decide_eq_false e]; rfl, below1 w _⟩
  · have HR : Hid (takesM fs nm.data.toList n = false) := by show _ = _; unfold takesM; rw [hf]
    have HB : Hid (Below w.heap.size w (w.alloc (.cells #[.string ⟨#[]⟩, .int .i64 0, .string ⟨#[]⟩, .int .i64 0] 59))) := below1 w _
    unfold cnZ at hr
    clear hf hc hs
    go_enter Tryz.func126, Tryz.ntmps126
    go_wp2
    go_ret
    exact ⟨by rw [HR.out]; rfl, HB.out⟩
end Go.Proofs.YtegdloenakachaaGreatDoor
