/-
  Proved: thunkmilllaw07.CoreFree returns true of any two expressions that are as the table says, and a name (what is free behind a substitution is what was, without the name, and what came with it); the listed variables of the library read as the program's text lays them.
  What the listed variables hold gives the walks what they ask.
-/
import Derived.Test.YtegdloenakachaaGreatDoorRows
import Derived.Test.YtegdloenakachaaGreatDoorCN18
import Derived.LaidSub
import Derived.MakeChecks
import Derived.Test.YtegdloenakachaaGreatDoorCF08
import Derived.Test.YtegdloenakachaaGreatDoorCards
import Derived.Test.YtegdloenakachaaGreatDoorTie
import Derived.WalkKit
import Derived.ProofKit
import Derived.OpenShut
import Derived.Deep.DeepHandedRow
import Derived.LaidMore
import Derived.SevenTiedAt
namespace Go.Proofs.YtegdloenakachaaGreatDoor
open Go.RowKit Go.Shelf
set_option linter.unusedVariables false

theorem gPowF : Tryz.prog.globalNamed "internal/strconv.uint64pow10" = some 0 := by kernel_rfl
theorem tPowF : (Tryz.prog.globals[0]?).map (·.type) = some 218 := by kernel_rfl
theorem cellsPowF : Tryz.prog.cellsOf 218 = 20 := by kernel_rfl
theorem cellsU64F : Tryz.prog.cellsOf 189 = 1 := by kernel_rfl
theorem onlyF {W : World} {l : List (String × DataW Unit)} (h : laidMetH Tryz.prog l W) (n : String) (d : DataW Unit) (hf : l.filter (fun x => x.1 == n) = [(n, d)]) (hp : d.handleName? = none) : laidMet Tryz.prog [(n, d)] W := by
  have h1 := laidMetH.filter (fun x => x.1 == n) h
  rw [hf] at h1
  have h2 := (laidMetH_iff.1 h1).1
  simpa [hp] using h2
theorem gt_of_laidF {W : World} (h : laidMetH Tryz.prog Rows.coreFreeRow.laid W) : GT W := by
  have h3 := onlyF h "internal/strconv.uint64pow10" Rows.laid_internal_strconv_uint64pow10 (by rfl) (by rfl)
  have ht : Lib.TabIs Tryz.prog W "internal/strconv.uint64pow10" .u64 Lib.pow10Tab := Lib.tabIs_of_head (rest := []) (zs := Lib.pow10Tab) gPowF tPowF Tryz.underlying218 Tryz.underlying189 cellsU64F cellsPowF h3
  refine ⟨ht, ?_⟩
  rcases Nat.lt_or_ge 0 W.heap.size with h | h
  · exact h
  · simp only [Lib.TabIs, World.var?, gPowF, Option.bind_some] at ht
    simp [Array.getElem?_eq_none h] at ht
end Go.Proofs.YtegdloenakachaaGreatDoor

namespace Go.Proofs.YtegdloenakachaaGreatDoor
open Go.ChangeShapes Go.WideShapes Go.ChangeAt Go.RowKit
open Go.ChangeMaps (open_string shut_string)
set_option linter.unusedVariables false

theorem laidOut : laidOutB Tryz.prog = true := by kernel_rfl
theorem own : ownKnob Tryz.prog.godebug = none := by kernel_rfl
theorem laid_met (os : Os) : laidMet Tryz.prog Rows.coreFreeRow.laid ((World.doorLaid Tryz.prog 24 os).forCall (fun _ _ => 0) ⟨#[], #[.agg #[.int .i64 0, .string ⟨#[]⟩, .int .i64 0, .slice none 0 0, .slice none 0 0, .slice none 0 0, .slice none 0 0], .agg #[.int .i64 0, .string ⟨#[]⟩, .int .i64 0, .slice none 0 0, .slice none 0 0, .slice none 0 0, .slice none 0 0], .string ⟨#[]⟩], []⟩).memory :=
  laidMet_of_run' 8 (by kernel_rfl) (by kernel_rfl)

theorem reads (os : Os) {H : Type} (enc : TypeId × Value → H) : ∃ places, DataW.whole enc Tryz.prog ((World.doorLaid Tryz.prog 24 os).forCall (fun _ _ => 0) ⟨#[], #[.agg #[.int .i64 0, .string ⟨#[]⟩, .int .i64 0, .slice none 0 0, .slice none 0 0, .slice none 0 0, .slice none 0 0], .agg #[.int .i64 0, .string ⟨#[]⟩, .int .i64 0, .slice none 0 0, .slice none 0 0, .slice none 0 0, .slice none 0 0], .string ⟨#[]⟩], []⟩).memory Tryz.f5.params.toList Rows.coreFreeSpec.vars false (#[.agg #[.int .i64 0, .string ⟨#[]⟩, .int .i64 0, .slice none 0 0, .slice none 0 0, .slice none 0 0, .slice none 0 0], .agg #[.int .i64 0, .string ⟨#[]⟩, .int .i64 0, .slice none 0 0, .slice none 0 0, .slice none 0 0, .slice none 0 0], .string ⟨#[]⟩] : Array Value).toList 8 = some ([.agg [.lit (.int .i64 0), .lit (.string []), .lit (.int .i64 0), .nil, .nil, .nil, .nil], .agg [.lit (.int .i64 0), .lit (.string []), .lit (.int .i64 0), .nil, .nil, .nil, .nil], .lit (.string [])], [], places) :=
  ⟨[], by kernel_rfl⟩

set_option maxRecDepth 100000 in
theorem contract (H : Type) (enc : TypeId × Value → H) (W : World) (base : Nat) (args : Array Value) (ds gs : List (DataW H)) (before : List MemPlace)
    (hval : ∀ (j : Nat) t v, Tryz.f5.params[j]? = some t → args[j]? = some v → Value.okWide Tryz.prog W .any base t v)
    (hW : DataW.Whole enc Tryz.prog Tryz.f5.params.toList Rows.coreFreeSpec.vars false W args.toList ds gs before) (ts : List TypeId) (hz : (DataW.weightsEach Tryz.prog (Tryz.f5.params.toList ++ ts) (ds ++ gs)).all (· ≤ reachBytes) = true) (hL : laidMetH Tryz.prog Rows.coreFreeRow.laid W) :
    Calls Tryz.prog 5 args W fun e W' => ∃ v, e = .returned v ∧ Rows.coreFreeSpec.post enc Tryz.prog Tryz.f5 false true false false W args v W' := by
  have hW' := hW
  obtain ⟨p, q, hA0, hV, rfl, hfz, hnd⟩ := hW
  have hA : DataW.TrodAll enc Tryz.prog W 0 (fun _ => true) true Tryz.f5.params.toList args.toList ds p := hA0
  rw [Tryz.params5] at hA hval hz
  obtain ⟨v0, vs0, d0, ds0, p0, q0, hargs, rfl, rfl, h0, r0⟩ := trodAll_cons hA
  obtain ⟨v1, vs1, d1, ds1, p1, q1, hargs1, rfl, rfl, h1, r1⟩ := trodAll_cons r0
  obtain ⟨v2, vs2, d2, ds2, p2, q2, hargs2, rfl, rfl, h2, r2⟩ := trodAll_cons r1
  obtain ⟨rfl, rfl, rfl⟩ := trodAll_nil r2
  obtain rfl : args = #[v0, v1, v2] := by cases args; simp_all
  obtain ⟨rfl, rfl⟩ := trodVars_none hV
  have hreach : ∀ n, n ≤ reachBytes → n ≤ LB := fun n hn => by unfold reachBytes at hn; unfold LB; omega
  have hall : ∀ n ∈ DataW.weightsEach Tryz.prog ((#[31, 31, 9] : Array TypeId).toList ++ ts) ([d0, d1, d2] ++ ([] : List (DataW H))), n ≤ LB := fun n hn => hreach n (by simpa using List.all_eq_true.1 hz n hn)
  have ra : Rch 31 d0 := fun n hn => hall n (mem_weightsEach (i := 0) rfl rfl n hn)
  have rb : Rch 31 d1 := fun n hn => hall n (mem_weightsEach (i := 1) rfl rfl n hn)
  have rs : Rch 9 d2 := fun n hn => hall n (mem_weightsEach (i := 2) rfl rfl n hn)
  obtain ⟨cs0, rfl, hcs0⟩ := okWide_struct Tryz.underlying31 (hval 0 31 v0 rfl rfl)
  obtain ⟨cs1, rfl, hcs1⟩ := okWide_struct Tryz.underlying31 (hval 1 31 v1 rfl rfl)
  obtain ⟨s, rfl, rfl, rfl, ws⟩ := open_string Tryz.underlying9 (hval 2 9 v2 rfl rfl) h2
  have hs : s.size ≤ maxLen := by
    have h10 := rs.str
    have h11 : s.data.toList.length = s.size := by rw [Array.length_toList]; rfl
    unfold LB at h10; unfold maxLen; omega
  have h0' := h0
  obtain ⟨f0, hf0⟩ := h0'
  obtain ⟨ta, a0, a1, a2, a3, a4, a5, a6, ea, hva, hwa⟩ := open_ex f0 hf0 ra f0 (Nat.le_refl _)
  have e0 : cs0 = #[a0, a1, a2, a3, a4, a5, a6] := by
    have : cs0.toList = [a0, a1, a2, a3, a4, a5, a6] := by simpa [Value.cells] using ea
    rw [← this]
  subst e0
  have h1' := h1
  obtain ⟨f1, hf1⟩ := h1'
  obtain ⟨tb, b0, b1, b2, b3, b4, b5, b6, eb, hvb, hwb⟩ := open_ex f1 hf1 rb f1 (Nat.le_refl _)
  have e1 : cs1 = #[b0, b1, b2, b3, b4, b5, b6] := by
    have : cs1.toList = [b0, b1, b2, b3, b4, b5, b6] := by simpa [Value.cells] using eb
    rw [← this]
  subst e1
  clear hA0
  simp only [List.append_nil] at hW'
  have hlt : ∀ x ∈ p0 ++ p1, x.block < W.heap.size := fun x hx => by simpa using hW'.lt x (by simpa using hx)
  refine (free7_c f0 f1 ta tb _ _ s W hva hvb hwa hwb hs (gt_of_laidF hL)).mono fun e W' ⟨he, hb⟩ => ?_
  subst he
  refine ⟨_, rfl, _, _, _, [], p0 ++ p1, [], hW', ?_, ?_, rfl, hb.frame _, fun h => by cases h⟩
  · exact trodAll_mk1 (shut_bool Tryz.underlying4 _)
  · have h3 := trodAll_mk3 (Below.trod laidOut (by kernel_rfl) (of_decide_eq_true (by kernel_rfl)) h0 hb (fun x hx => hlt x (List.mem_append.2 (.inl hx)))) (Below.trod laidOut (by kernel_rfl) (of_decide_eq_true (by kernel_rfl)) h1 hb (fun x hx => hlt x (List.mem_append.2 (.inr hx)))) (shut_string Tryz.underlying9 ws)
    simp only [List.append_nil] at h3
    exact h3

set_option maxRecDepth 100000 in
theorem lifted (os : Os) (started : os.Started) (H : Type) (enc : TypeId × Value → H) (F : Stop.Interp) :
    ReturnsInHanded {} Tryz.checked os 5 .any ((OpenSpec.ofChange Rows.coreFreeSpec).preRow enc Tryz.prog Tryz.f5 Rows.coreFreeRow.domain false Rows.coreFreeRow.laid) (((OpenSpec.ofChange Rows.coreFreeSpec).at F).post enc Tryz.prog Tryz.f5 false true false false) := by
  obtain ⟨places, hx⟩ := reads os enc
  refine returnsInHanded_of_row (C := Tryz.checked) (s := OpenSpec.ofChange Rows.coreFreeSpec) own started (by kernel_rfl) Tryz.func5
    (witness_row_at (enc := enc) (C := Tryz.checked) false (World.doorLaid Tryz.prog 24 os) #[.agg #[.int .i64 0, .string ⟨#[]⟩, .int .i64 0, .slice none 0 0, .slice none 0 0, .slice none 0 0, .slice none 0 0], .agg #[.int .i64 0, .string ⟨#[]⟩, .int .i64 0, .slice none 0 0, .slice none 0 0, .slice none 0 0, .slice none 0 0], .string ⟨#[]⟩] rfl (by kernel_rfl) (by kernel_rfl) (by kernel_rfl)
      (OpenSpec.preRow_of_cond 8 hx (by kernel_rfl) (fun k hk => by cases hk) (by kernel_rfl) (laid_met os))) ?_
  intro W base args ds gs before hval hW _ _ hz hL _ _
  exact contract H enc W base args ds gs before hval hW _ hz hL

theorem said : Rows.CoreFreeSaid :=
  OpenClaim.holds_of_cond 5 Tryz.f5 rfl rfl rfl rfl rfl rfl rfl ⟨rfl, rfl, rfl, rfl, rfl⟩ rfl rfl rfl rfl rfl (by kernel_rfl) Tryz.func5 (by kernel_rfl)
    (of_decide_eq_true (by kernel_rfl)) (by unfold Func.isWrapper; first | (rw [if_pos (by decide +kernel)]; kernel_rfl) | (rw [if_neg (by decide +kernel)]; exact ⟨rfl, rfl⟩))
    (fun os started H enc _ F => by rw [OpenClaim.pre_eq_preRow]; exact lifted os started H enc F)

theorem plain (f : FuncId) (fn : Func) (hf : Tryz.pinned.checked.prog.funcNamed "thunkmill/thunkmilllaw07.CoreFree" = some f) (hfn : Tryz.pinned.checked.prog.funcs[f]? = some fn) :
    false = Tryz.pinned.checked.prog.looks [] ∧ ∀ (j : Nat) t, fn.params[j]? = some t → Tryz.pinned.checked.prog.wantsStandIn t = false := by
  obtain rfl : f = 5 := Option.some.inj ((show Tryz.prog.funcNamed "thunkmill/thunkmilllaw07.CoreFree" = some 5 by kernel_rfl).symm.trans hf) |>.symm
  obtain rfl : fn = Tryz.f5 := (Option.some.inj (Tryz.func5.symm.trans hfn)).symm
  refine ⟨by kernel_rfl, fun j t ht => ?_⟩
  rw [Tryz.params5] at ht
  have hm : t = 31 ∨ t = 9 := by simpa using Array.mem_of_getElem? ht
  rcases hm with rfl | rfl
  · exact (show Tryz.prog.wantsStandIn 31 = false by kernel_rfl)
  · exact (show Tryz.prog.wantsStandIn 9 = false by kernel_rfl)

theorem card : Rows.CoreFreeCardSaid :=
  Claim7.holds_tied_plain_at .later [] _ _ _ _ said (fun _ h => by cases h) (by kernel_rfl) (fun _ h => by cases h) coreFree_row_tie rfl ⟨rfl, rfl⟩ (by kernel_rfl) rfl plain (by kernel_rfl)

end Go.Proofs.YtegdloenakachaaGreatDoor
