/-
  What the listed variables hold gives the walks what they ask.
-/
import Derived.Test.YtijafedpaghhaaaDoorRows
import Derived.Test.YtijafedpaghhaaaDoorOa
import Derived.LaidSub
import Derived.MakeChecks
namespace Go.Proofs.YtijafedpaghhaaaDoor
open Go.RowKit Go.Shelf
set_option linter.unusedVariables false

theorem gPow : Tryd.prog.globalNamed "internal/strconv.uint64pow10" = some 0 := by kernel_rfl
theorem tPow : (Tryd.prog.globals[0]?).map (·.type) = some 108 := by kernel_rfl
theorem cellsPow : Tryd.prog.cellsOf 108 = 20 := by kernel_rfl
theorem cellsU64 : Tryd.prog.cellsOf 85 = 1 := by kernel_rfl
theorem only {W : World} {l : List (String × DataW Unit)} (h : laidMetH Tryd.prog l W) (n : String) (d : DataW Unit) (hf : l.filter (fun x => x.1 == n) = [(n, d)]) (hp : d.handleName? = none) : laidMet Tryd.prog [(n, d)] W := by
  have h1 := laidMetH.filter (fun x => x.1 == n) h
  rw [hf] at h1
  have h2 := (laidMetH_iff.1 h1).1
  simpa [hp] using h2
theorem gp_of_laid {W : World} (h : laidMetH Tryd.prog Rows.primNamesRow.laid W) : GP W := by
  have h3 := only h "internal/strconv.uint64pow10" Rows.laid_internal_strconv_uint64pow10 (by rfl) (by rfl)
  have ht : Lib.TabIs Tryd.prog W "internal/strconv.uint64pow10" .u64 Lib.pow10Tab := Lib.tabIs_of_head (rest := []) (zs := Lib.pow10Tab) gPow tPow Tryd.underlying108 Tryd.underlying85 cellsU64 cellsPow h3
  refine ⟨ht, ?_⟩
  rcases Nat.lt_or_ge 0 W.heap.size with h | h
  · exact h
  · simp only [Lib.TabIs, World.var?, gPow, Option.bind_some] at ht
    simp [Array.getElem?_eq_none h] at ht
end Go.Proofs.YtijafedpaghhaaaDoor
