/-
  What the listed variables hold gives the walks what they ask.
-/
import Derived.Test.YtpidccdgkkcljaaGreatDoorRows
import Derived.Test.YtpidccdgkkcljaaGreatDoorGlob
import Derived.Stop.LaidErr
import Derived.LaidSub
import Derived.MakeChecks
namespace Go.Proofs.YtpidccdgkkcljaaGreatDoor
open Go.RowKit Go.Shelf
set_option linter.unusedVariables false

theorem gES : Tryz.prog.globalNamed "strconv.ErrSyntax" = some 6 := by kernel_rfl
theorem gER : Tryz.prog.globalNamed "strconv.ErrRange" = some 7 := by kernel_rfl
theorem gPow : Tryz.prog.globalNamed "internal/strconv.uint64pow10" = some 0 := by kernel_rfl
theorem tES : (Tryz.prog.globals[6]?).map (·.type) = some 84 := by kernel_rfl
theorem tER : (Tryz.prog.globals[7]?).map (·.type) = some 84 := by kernel_rfl
theorem tPow : (Tryz.prog.globals[0]?).map (·.type) = some 119 := by kernel_rfl
theorem cellsPow : Tryz.prog.cellsOf 119 = 20 := by kernel_rfl
theorem cellsU64 : Tryz.prog.cellsOf 97 = 1 := by kernel_rfl
theorem cellsES : Tryz.prog.cellsOf 153 = 1 := by kernel_rfl
theorem cells9 : Tryz.prog.cellsOf 9 = 1 := by kernel_rfl
theorem starES : "*" ++ "errors.errorString" = "*errors.errorString" := by decide
theorem rowES (u : TypeId) (h : Tryz.prog.typeName? 3 u = some "*errors.errorString") : u = 151 :=
  typeName_ptr_named (nm := "errors.errorString") (by rw [starES]; kernel_rfl) (by kernel_rfl) (by decide) u (by rw [starES]; exact h)

theorem only {W : World} {l : List (String × DataW Unit)} (h : laidMetH Tryz.prog l W) (n : String) (d : DataW Unit) (hf : l.filter (fun x => x.1 == n) = [(n, d)]) (hp : d.handleName? = none) : laidMet Tryz.prog [(n, d)] W := by
  have h1 := laidMetH.filter (fun x => x.1 == n) h
  rw [hf] at h1
  have h2 := (laidMetH_iff.1 h1).1
  simpa [hp] using h2

theorem gok_of_laid {W : World} (h : laidMetH Tryz.prog Rows.lexPlacesRow.laid W) : GOK W := by
  have h1 := only h "strconv.ErrSyntax" Rows.laid_strconv_ErrSyntax (by rfl) (by rfl)
  have h2 := only h "strconv.ErrRange" Rows.laid_strconv_ErrRange (by rfl) (by rfl)
  have h3 := only h "internal/strconv.uint64pow10" Rows.laid_internal_strconv_uint64pow10 (by rfl) (by rfl)
  obtain ⟨a0, s0, hv0, -, -, -⟩ := laid_sentinel h1 gES tES Tryz.underlying84 rowES Tryz.underlying151 Tryz.underlying153 rfl rfl Tryz.underlying9 cellsES cells9
  obtain ⟨a1, s1, hv1, -, -, -⟩ := laid_sentinel h2 gER tER Tryz.underlying84 rowES Tryz.underlying151 Tryz.underlying153 rfl rfl Tryz.underlying9 cellsES cells9
  have k0 := World.var?_cell gES hv0 0
  have k1 := World.var?_cell gER hv1 0
  have k0' : W.cell? ⟨6, 0, none⟩ = some (.iface 151 (.pointer (some a0))) := by simpa using k0
  have k1' : W.cell? ⟨7, 0, none⟩ = some (.iface 151 (.pointer (some a1))) := by simpa using k1
  refine ⟨⟨_, k0', .inr ⟨_, _, rfl⟩⟩, ⟨_, k1', .inr ⟨_, _, rfl⟩⟩, ?_, ?_⟩
  · have := Lib.tabIs_of_head (rest := []) (zs := Lib.pow10Tab) gPow tPow Tryz.underlying119 Tryz.underlying97 cellsU64 cellsPow h3
    exact this
  · have hlt : 7 < W.heap.size := by
      rcases Nat.lt_or_ge 7 W.heap.size with h | h
      · exact h
      · simp [World.cell?, Array.getElem?_eq_none h] at k1'
    omega

end Go.Proofs.YtpidccdgkkcljaaGreatDoor
