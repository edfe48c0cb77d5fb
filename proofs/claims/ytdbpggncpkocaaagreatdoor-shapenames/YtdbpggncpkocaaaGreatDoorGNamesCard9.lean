/-
  What the listed variables hold gives the walks what they ask.
  Proved: thunkmilllaw09.ShapeNames returns true (the worked examples of the chapter on constructors come out as they are written); the listed variables of the library read as the program's text lays them.
-/
import Derived.Test.YtdbpggncpkocaaaGreatDoorRows
import Derived.Test.YtdbpggncpkocaaaGreatDoorGlob
import Derived.Stop.LaidErr
import Derived.LaidSub
import Derived.MakeChecks
import Derived.LaidMore
import Derived.Test.YtdbpggncpkocaaaGreatDoorGNp
import Derived.Test.YtdbpggncpkocaaaGreatDoorCards
import Derived.Test.YtdbpggncpkocaaaGreatDoorTie
import Derived.WalkKit
import Derived.ProofKit
import Derived.OpenShut
import Derived.Deep.DeepHandedRow
import Derived.SevenTiedAt
namespace Go.Proofs.YtdbpggncpkocaaaGreatDoor
open Go.RowKit Go.Shelf
set_option linter.unusedVariables false

theorem gES : Tryz.prog.globalNamed "strconv.ErrSyntax" = some 6 := by kernel_rfl
theorem gER : Tryz.prog.globalNamed "strconv.ErrRange" = some 7 := by kernel_rfl
theorem gPow : Tryz.prog.globalNamed "internal/strconv.uint64pow10" = some 0 := by kernel_rfl
theorem tES : (Tryz.prog.globals[6]?).map (·.type) = some 192 := by kernel_rfl
theorem tER : (Tryz.prog.globals[7]?).map (·.type) = some 192 := by kernel_rfl
theorem tPow : (Tryz.prog.globals[0]?).map (·.type) = some 122 := by kernel_rfl
theorem cellsPow : Tryz.prog.cellsOf 122 = 20 := by kernel_rfl
theorem cellsU64 : Tryz.prog.cellsOf 97 = 1 := by kernel_rfl
theorem cellsES : Tryz.prog.cellsOf 217 = 1 := by kernel_rfl
theorem cells9 : Tryz.prog.cellsOf 9 = 1 := by kernel_rfl
theorem starES : "*" ++ "errors.errorString" = "*errors.errorString" := by decide
theorem rowES (u : TypeId) (h : Tryz.prog.typeName? 3 u = some "*errors.errorString") : u = 215 :=
  typeName_ptr_named (nm := "errors.errorString") (by rw [starES]; kernel_rfl) (by kernel_rfl) (by decide) u (by rw [starES]; exact h)

theorem only {W : World} {l : List (String × DataW Unit)} (h : laidMetH Tryz.prog l W) (n : String) (d : DataW Unit) (hf : l.filter (fun x => x.1 == n) = [(n, d)]) (hp : d.handleName? = none) : laidMet Tryz.prog [(n, d)] W := by
  have h1 := laidMetH.filter (fun x => x.1 == n) h
  rw [hf] at h1
  have h2 := (laidMetH_iff.1 h1).1
  simpa [hp] using h2

theorem gok_of_laid {W : World} (h : laidMetH Tryz.prog Rows.shapeTagsRow.laid W) : GOK W := by
  have h1 := only h "strconv.ErrSyntax" Rows.laid_strconv_ErrSyntax (by rfl) (by rfl)
  have h2 := only h "strconv.ErrRange" Rows.laid_strconv_ErrRange (by rfl) (by rfl)
  have h3 := only h "internal/strconv.uint64pow10" Rows.laid_internal_strconv_uint64pow10 (by rfl) (by rfl)
  obtain ⟨a0, s0, hv0, -, -, -⟩ := laid_sentinel h1 gES tES Tryz.underlying192 rowES Tryz.underlying215 Tryz.underlying217 rfl rfl Tryz.underlying9 cellsES cells9
  obtain ⟨a1, s1, hv1, -, -, -⟩ := laid_sentinel h2 gER tER Tryz.underlying192 rowES Tryz.underlying215 Tryz.underlying217 rfl rfl Tryz.underlying9 cellsES cells9
  have k0 := World.var?_cell gES hv0 0
  have k1 := World.var?_cell gER hv1 0
  have k0' : W.cell? ⟨6, 0, none⟩ = some (.iface 215 (.pointer (some a0))) := by simpa using k0
  have k1' : W.cell? ⟨7, 0, none⟩ = some (.iface 215 (.pointer (some a1))) := by simpa using k1
  refine ⟨⟨_, k0', .inr ⟨_, _, rfl⟩⟩, ⟨_, k1', .inr ⟨_, _, rfl⟩⟩, ?_, ?_⟩
  · have := Lib.tabIs_of_head (rest := []) (zs := Lib.pow10Tab) gPow tPow Tryz.underlying122 Tryz.underlying97 cellsU64 cellsPow h3
    exact this
  · have hlt : 7 < W.heap.size := by
      rcases Nat.lt_or_ge 7 W.heap.size with h | h
      · exact h
      · simp [World.cell?, Array.getElem?_eq_none h] at k1'
    have hT : Lib.TabIs Tryz.prog W "internal/strconv.uint64pow10" .u64 Lib.pow10Tab := Lib.tabIs_of_head (rest := []) (zs := Lib.pow10Tab) gPow tPow Tryz.underlying122 Tryz.underlying97 cellsU64 cellsPow h3
    have k2 := World.var?_cell gPow hT 0
    have k2' : W.cell? ⟨0, 0, none⟩ = some (.int .u64 1) := by simpa [Lib.pow10Tab] using k2
    have hlt2 := World.block_lt_of_cell? W ⟨0, 0, none⟩ k2'
    have hlt3 : 0 < W.heap.size := hlt2
    omega

def firstCells : Array Value := match Go.Pinned.utf8First with
  | .agg ds => (ds.map fun | .lit (.int k z) => Value.int k z | _ => undef).toArray
  | _ => #[]
noncomputable def laidWorld (os : Os) : World :=
  { World.doorLaid Tryz.prog 72 os with heap := (World.doorLaid Tryz.prog 72 os).heap.modify 4 fun
      | .cells _ t frozen => .cells firstCells t frozen
      | o => o }
end Go.Proofs.YtdbpggncpkocaaaGreatDoor

namespace Go.Proofs.YtdbpggncpkocaaaGreatDoor
open Go.ChangeShapes Go.WideShapes Go.ChangeAt Go.RowKit
open Go.ChangeMaps (open_string shut_string)
set_option linter.unusedVariables false

theorem own : ownKnob Tryz.prog.godebug = none := by kernel_rfl
theorem laidOut : laidOutB Tryz.prog = true := by kernel_rfl
theorem laid_met (os : Os) : laidMet Tryz.prog Rows.shapeNamesRow.laid ((laidWorld os).forCall (fun _ _ => 0) ⟨#[], #[], []⟩).memory :=
  laidMet_of_run' 8 (by kernel_rfl) (by kernel_rfl)

theorem reads (os : Os) {H : Type} (enc : TypeId × Value → H) : ∃ places, DataW.whole enc Tryz.prog ((laidWorld os).forCall (fun _ _ => 0) ⟨#[], #[], []⟩).memory Tryz.f3.params.toList Rows.shapeNamesSpec.vars false (#[] : Array Value).toList 8 = some ([], [], places) :=
  ⟨[], by kernel_rfl⟩

set_option maxRecDepth 100000 in
theorem contract (H : Type) (enc : TypeId × Value → H) (W : World) (base : Nat) (args : Array Value) (ds gs : List (DataW H)) (before : List MemPlace)
    (hval : ∀ (j : Nat) t v, Tryz.f3.params[j]? = some t → args[j]? = some v → Value.okWide Tryz.prog W .any base t v)
    (hW : DataW.Whole enc Tryz.prog Tryz.f3.params.toList Rows.shapeNamesSpec.vars false W args.toList ds gs before) (hL : laidMetH Tryz.prog Rows.shapeNamesRow.laid W) :
    Calls Tryz.prog 3 args W fun e W' => ∃ v, e = .returned v ∧ Rows.shapeNamesSpec.post enc Tryz.prog Tryz.f3 false true false false W args v W' := by
  have hW' := hW
  obtain ⟨p, q, hA0, hV, rfl, hfz, hnd⟩ := hW
  have hA : DataW.TrodAll enc Tryz.prog W 0 (fun _ => true) true Tryz.f3.params.toList args.toList ds p := hA0
  rw [Tryz.params3] at hA hval
  obtain ⟨hargs, rfl, rfl⟩ := trodAll_nil hA
  obtain rfl : args = #[] := by cases args; simp_all
  obtain ⟨rfl, rfl⟩ := trodVars_none hV
  clear hA0
  simp only [List.append_nil] at hW'
  refine (names9_c W (gok_of_laid hL)).mono fun e W' ⟨he, hb⟩ => ?_
  subst he
  refine ⟨_, rfl, _, _, _, [], [], [], hW', ?_, ?_, rfl, hb.frame _, fun h => by cases h⟩
  · exact trodAll_mk1 (shut_bool Tryz.underlying4 _)
  · exact trodAll_mk0

set_option maxRecDepth 100000 in
theorem lifted (os : Os) (started : os.Started) (H : Type) (enc : TypeId × Value → H) (F : Stop.Interp) :
    ReturnsInHanded {} Tryz.checked os 3 .any ((OpenSpec.ofChange Rows.shapeNamesSpec).preRow enc Tryz.prog Tryz.f3 Rows.shapeNamesRow.domain false Rows.shapeNamesRow.laid) (((OpenSpec.ofChange Rows.shapeNamesSpec).at F).post enc Tryz.prog Tryz.f3 false true false false) := by
  obtain ⟨places, hx⟩ := reads os enc
  refine returnsInHanded_of_row (C := Tryz.checked) (s := OpenSpec.ofChange Rows.shapeNamesSpec) own started (by kernel_rfl) Tryz.func3
    (witness_row_at (enc := enc) (C := Tryz.checked) false (laidWorld os) #[] rfl (by kernel_rfl) (by kernel_rfl) (by kernel_rfl)
      (OpenSpec.preRow_of_cond 8 hx (by kernel_rfl) (fun k hk => by cases hk) (by kernel_rfl) (laid_met os))) ?_
  intro W base args ds gs before hval hW _ _ _ hL _ _
  exact contract H enc W base args ds gs before hval hW hL

theorem said : Rows.ShapeNamesSaid :=
  OpenClaim.holds_of_cond 3 Tryz.f3 rfl rfl rfl rfl rfl rfl rfl ⟨rfl, rfl, rfl, rfl, rfl⟩ rfl rfl rfl rfl rfl (by kernel_rfl) Tryz.func3 (by kernel_rfl)
    (of_decide_eq_true (by kernel_rfl)) (by unfold Func.isWrapper; first | (rw [if_pos (by decide +kernel)]; kernel_rfl) | (rw [if_neg (by decide +kernel)]; exact ⟨rfl, rfl⟩))
    (fun os started H enc _ F => by rw [OpenClaim.pre_eq_preRow]; exact lifted os started H enc F)

theorem plain (f : FuncId) (fn : Func) (hf : Tryz.pinned.checked.prog.funcNamed "thunkmill/thunkmilllaw09.ShapeNames" = some f) (hfn : Tryz.pinned.checked.prog.funcs[f]? = some fn) :
    true = Tryz.pinned.checked.prog.looks [] ∧ ∀ (j : Nat) t, fn.params[j]? = some t → Tryz.pinned.checked.prog.wantsStandIn t = false := by
  obtain rfl : f = 3 := Option.some.inj ((show Tryz.prog.funcNamed "thunkmill/thunkmilllaw09.ShapeNames" = some 3 by kernel_rfl).symm.trans hf) |>.symm
  obtain rfl : fn = Tryz.f3 := (Option.some.inj (Tryz.func3.symm.trans hfn)).symm
  refine ⟨by kernel_rfl, fun j t ht => ?_⟩
  rw [Tryz.params3] at ht
  simp at ht

theorem card : Rows.ShapeNamesCardSaid :=
  Claim7.holds_tied_plain_at .later [] _ _ _ _ said (fun _ h => by cases h) (by kernel_rfl) (fun _ h => by cases h) shapeNames_row_tie rfl ⟨rfl, rfl⟩ (by kernel_rfl) rfl plain (by kernel_rfl)

end Go.Proofs.YtdbpggncpkocaaaGreatDoor
