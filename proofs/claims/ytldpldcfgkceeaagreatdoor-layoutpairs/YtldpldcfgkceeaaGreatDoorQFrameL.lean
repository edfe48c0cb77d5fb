/-
  What the listed variables hold gives the walks what they ask.
-/
import Derived.Test.YtldpldcfgkceeaaGreatDoorRows
import Derived.Test.YtldpldcfgkceeaaGreatDoorQGlob
import Derived.Stop.LaidErr
import Derived.LaidSub
import Derived.MakeChecks
namespace Go.Proofs.YtldpldcfgkceeaaGreatDoor
open Go.RowKit Go.Shelf
set_option linter.unusedVariables false

theorem gES : Tryz.prog.globalNamed "strconv.ErrSyntax" = some 4 := by kernel_rfl
theorem gER : Tryz.prog.globalNamed "strconv.ErrRange" = some 5 := by kernel_rfl
theorem gPow : Tryz.prog.globalNamed "internal/strconv.uint64pow10" = some 1 := by kernel_rfl
theorem tES : (Tryz.prog.globals[4]?).map (·.type) = some 132 := by kernel_rfl
theorem tER : (Tryz.prog.globals[5]?).map (·.type) = some 132 := by kernel_rfl
theorem tPow : (Tryz.prog.globals[1]?).map (·.type) = some 162 := by kernel_rfl
theorem cellsPow : Tryz.prog.cellsOf 162 = 20 := by kernel_rfl
theorem cellsU64 : Tryz.prog.cellsOf 117 = 1 := by kernel_rfl
theorem cellsES : Tryz.prog.cellsOf 182 = 1 := by kernel_rfl
theorem cells9 : Tryz.prog.cellsOf 9 = 1 := by kernel_rfl
theorem starES : "*" ++ "errors.errorString" = "*errors.errorString" := by decide
theorem rowES (u : TypeId) (h : Tryz.prog.typeName? 3 u = some "*errors.errorString") : u = 180 :=
  typeName_ptr_named (nm := "errors.errorString") (by rw [starES]; kernel_rfl) (by kernel_rfl) (by decide) u (by rw [starES]; exact h)

theorem only {W : World} {l : List (String × DataW Unit)} (h : laidMetH Tryz.prog l W) (n : String) (d : DataW Unit) (hf : l.filter (fun x => x.1 == n) = [(n, d)]) (hp : d.handleName? = none) : laidMet Tryz.prog [(n, d)] W := by
  have h1 := laidMetH.filter (fun x => x.1 == n) h
  rw [hf] at h1
  have h2 := (laidMetH_iff.1 h1).1
  simpa [hp] using h2

theorem gok_of_laid {W : World} (h : laidMetH Tryz.prog Rows.layoutPairsRow.laid W) : GOK W := by
  have h1 := only h "strconv.ErrSyntax" Rows.laid_strconv_ErrSyntax (by rfl) (by rfl)
  have h2 := only h "strconv.ErrRange" Rows.laid_strconv_ErrRange (by rfl) (by rfl)
  have h3 := only h "internal/strconv.uint64pow10" Rows.laid_internal_strconv_uint64pow10 (by rfl) (by rfl)
  obtain ⟨a0, s0, hv0, -, -, -⟩ := laid_sentinel h1 gES tES Tryz.underlying132 rowES Tryz.underlying180 Tryz.underlying182 rfl rfl Tryz.underlying9 cellsES cells9
  obtain ⟨a1, s1, hv1, -, -, -⟩ := laid_sentinel h2 gER tER Tryz.underlying132 rowES Tryz.underlying180 Tryz.underlying182 rfl rfl Tryz.underlying9 cellsES cells9
  have k0 := World.var?_cell gES hv0 0
  have k1 := World.var?_cell gER hv1 0
  have k0' : W.cell? ⟨4, 0, none⟩ = some (.iface 180 (.pointer (some a0))) := by simpa using k0
  have k1' : W.cell? ⟨5, 0, none⟩ = some (.iface 180 (.pointer (some a1))) := by simpa using k1
  refine ⟨⟨_, k0', .inr ⟨_, _, rfl⟩⟩, ⟨_, k1', .inr ⟨_, _, rfl⟩⟩, ?_, ?_⟩
  · have := Lib.tabIs_of_head (rest := []) (zs := Lib.pow10Tab) gPow tPow Tryz.underlying162 Tryz.underlying117 cellsU64 cellsPow h3
    exact this
  · have hlt : 5 < W.heap.size := by
      rcases Nat.lt_or_ge 5 W.heap.size with h | h
      · exact h
      · simp [World.cell?, Array.getElem?_eq_none h] at k1'
    omega

end Go.Proofs.YtldpldcfgkceeaaGreatDoor
