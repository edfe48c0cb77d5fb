/-
  What the library's package-level variables hold, and that it stays so.
-/
import Derived.WalkKit
import Derived.Lib.LaidTab
import Derived.Lib.ItoaNum
import Derived.Shelf.Unicode.PredsPay
import Derived.Test.YtpidccdgkkcljaaGreatDoorChecked
namespace Go.Proofs.YtpidccdgkkcljaaGreatDoor
open Go.RowKit Go.Shelf
set_option linter.unusedVariables false

/-- The library's two errors lie in their places, and its table of powers of ten. -/
structure GOK (w : World) : Prop where
  syn : ∃ ev, w.cell? ⟨6, 0, none⟩ = some ev ∧ (ev = .nilIface ∨ ∃ te pe, ev = .iface te pe)
  rng : ∃ ev, w.cell? ⟨7, 0, none⟩ = some ev ∧ (ev = .nilIface ∨ ∃ te pe, ev = .iface te pe)
  pow : Lib.TabIs Tryz.prog w "internal/strconv.uint64pow10" .u64 Lib.pow10Tab
  size : 8 ≤ w.heap.size

theorem GOK.below {w w' : World} (h : GOK w) (hb : Below w.heap.size w w') : GOK w' := by
  have hs := h.size
  obtain ⟨e1, h1, k1⟩ := h.syn
  obtain ⟨e2, h2, k2⟩ := h.rng
  refine ⟨⟨e1, ?_, k1⟩, ⟨e2, ?_, k2⟩, TabIs_below (g := 0) (by kernel_rfl) h.pow hb, Nat.le_trans hs hb.size⟩
  · exact (hb.cell (p := ⟨6, 0, none⟩) (by show 6 < _; omega)).trans h1
  · exact (hb.cell (p := ⟨7, 0, none⟩) (by show 7 < _; omega)).trans h2

end Go.Proofs.YtpidccdgkkcljaaGreatDoor
