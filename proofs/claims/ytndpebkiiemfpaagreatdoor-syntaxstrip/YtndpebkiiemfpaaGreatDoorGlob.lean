/-
  What the library's package-level variables hold, and that it stays so.
-/
import Derived.WalkKit
import Derived.Lib.LaidTab
import Derived.Lib.ItoaNum
import Derived.Shelf.Abstract
import Derived.Test.YtndpebkiiemfpaaGreatDoorChecked
namespace Go.Proofs.YtndpebkiiemfpaaGreatDoor
open Go.RowKit Go.Shelf
set_option linter.unusedVariables false

/-- The library's two errors lie in their places, and its table of powers of ten. -/
structure GOK (w : World) : Prop where
  syn : ∃ ev, w.cell? ⟨4, 0, none⟩ = some ev ∧ (ev = .nilIface ∨ ∃ te pe, ev = .iface te pe)
  rng : ∃ ev, w.cell? ⟨5, 0, none⟩ = some ev ∧ (ev = .nilIface ∨ ∃ te pe, ev = .iface te pe)
  pow : Lib.TabIs Tryz.prog w "internal/strconv.uint64pow10" .u64 Lib.pow10Tab
  size : 6 ≤ w.heap.size

/-- The table of powers stays where all that lay there stays. -/
theorem pow_stays {w w' : World} (h : Lib.TabIs Tryz.prog w "internal/strconv.uint64pow10" .u64 Lib.pow10Tab) (hs : 6 ≤ w.heap.size) (hG : 0 < 6) (hb : Below w.heap.size w w') : Lib.TabIs Tryz.prog w' "internal/strconv.uint64pow10" .u64 Lib.pow10Tab := by
  have hn : Tryz.prog.globalNamed "internal/strconv.uint64pow10" = some 0 := by kernel_rfl
  simp only [Lib.TabIs, World.var?, hn, Option.bind_some] at h ⊢
  rw [hb.block 0 (by omega)]
  exact h

theorem GOK.below {w w' : World} (h : GOK w) (hb : Below w.heap.size w w') : GOK w' := by
  have hs := h.size
  obtain ⟨e1, h1, k1⟩ := h.syn
  obtain ⟨e2, h2, k2⟩ := h.rng
  refine ⟨⟨e1, ?_, k1⟩, ⟨e2, ?_, k2⟩, pow_stays h.pow hs (by decide) hb, Nat.le_trans hs hb.size⟩
  · exact (hb.cell (p := ⟨4, 0, none⟩) (by show 4 < _; omega)).trans h1
  · exact (hb.cell (p := ⟨5, 0, none⟩) (by show 5 < _; omega)).trans h2

end Go.Proofs.YtndpebkiiemfpaaGreatDoor
