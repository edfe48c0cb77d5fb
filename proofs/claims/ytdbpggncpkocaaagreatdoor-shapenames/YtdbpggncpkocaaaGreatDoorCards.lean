/-
  DERIVED. GIVEN WITH THE SEED: THE CARDS: each row of YtdbpggncpkocaaaGreatDoorRows.lean that lists a variable, with what it lists TIED to the program's text (the seventh form; the later family's looks); each row that meets fmt, with fmt's text TOLD by the authors' own Lean function (tested against real Go, not proved from fmt's source: count such statements apart). THE CARD IS WHAT COUNTS. Prove the row's statement (the work); the ties are given (YtdbpggncpkocaaaGreatDoorTie.lean); close each card by the builder's one call (the guide's Derived/Test/ToyasCard.lean, 'card_holds'). Laid BY PROGRAM, IN A SANDBOX (cutbox-door.mjs). By AI agents, Wed Nov 11 2026. No macro, syntax, notation, axiom, sorry.
-/
import Derived.Test.YtdbpggncpkocaaaGreatDoorRows
import GoSem.ClaimSeven
namespace Go.Proofs.YtdbpggncpkocaaaGreatDoor
namespace Rows

/-- THE TIED CARD OF 'thunkmilllaw09.ShapeNames'. -/
def shapeNamesCard : Claim7 := { stood := { row := shapeNamesRow, standIns := [], harness := (true, "3d22c29b4cbbdad193302552fd2455b06547af323ba849c0d302b9003b3c341f"), looks := true }, kinds := [], alts := [], laidByText := true, laidKinds := [.data, .data, .data, .data, .sentinel, .sentinel, .pinned], laidTests := true, laidLooks := .later }
def ShapeNamesCardSaid : Prop := Claim7.holds Tryz.pinned (.plain (OpenSpec.ofChange shapeNamesSpec)) shapeNamesCard

/-- THE TIED CARD OF 'thunkmilllaw09.ShapeCalls'. -/
def shapeCallsCard : Claim7 := { stood := { row := shapeCallsRow, standIns := [], harness := (true, "3d22c29b4cbbdad193302552fd2455b06547af323ba849c0d302b9003b3c341f"), looks := true }, kinds := [], alts := [], laidByText := true, laidKinds := [.data, .data, .data, .data, .sentinel, .sentinel, .pinned], laidTests := true, laidLooks := .later }
def ShapeCallsCardSaid : Prop := Claim7.holds Tryz.pinned (.plain (OpenSpec.ofChange shapeCallsSpec)) shapeCallsCard

/-- THE TIED CARD OF 'thunkmilllaw09.ShapeTags'. -/
def shapeTagsCard : Claim7 := { stood := { row := shapeTagsRow, standIns := [], harness := (true, "3d22c29b4cbbdad193302552fd2455b06547af323ba849c0d302b9003b3c341f"), looks := true }, kinds := [], alts := [], laidByText := true, laidKinds := [.data, .data, .data, .data, .sentinel, .sentinel, .pinned], laidTests := true, laidLooks := .later }
def ShapeTagsCardSaid : Prop := Claim7.holds Tryz.pinned (.plain (OpenSpec.ofChange shapeTagsSpec)) shapeTagsCard

/-- THE SECOND FORM's CARD OF 'thunkmilllaw09.ShapeNames'. -/
def shapeNamesUptoCard : Claim7 := { stood := { row := shapeNamesUptoRow, standIns := [], harness := (true, "3d22c29b4cbbdad193302552fd2455b06547af323ba849c0d302b9003b3c341f"), looks := true }, kinds := [], alts := [], laidByText := true, laidKinds := [.data, .data, .data, .data, .sentinel, .sentinel, .pinned], laidTests := true, laidLooks := .later }
def ShapeNamesUptoCardSaid : Prop := Claim7.holds Tryz.pinned (.plain (OpenSpec.upto shapeNamesSpec)) shapeNamesUptoCard

/-- THE SECOND FORM's CARD OF 'thunkmilllaw09.ShapeCalls'. -/
def shapeCallsUptoCard : Claim7 := { stood := { row := shapeCallsUptoRow, standIns := [], harness := (true, "3d22c29b4cbbdad193302552fd2455b06547af323ba849c0d302b9003b3c341f"), looks := true }, kinds := [], alts := [], laidByText := true, laidKinds := [.data, .data, .data, .data, .sentinel, .sentinel, .pinned], laidTests := true, laidLooks := .later }
def ShapeCallsUptoCardSaid : Prop := Claim7.holds Tryz.pinned (.plain (OpenSpec.upto shapeCallsSpec)) shapeCallsUptoCard

/-- THE SECOND FORM's CARD OF 'thunkmilllaw09.ShapeTags'. -/
def shapeTagsUptoCard : Claim7 := { stood := { row := shapeTagsUptoRow, standIns := [], harness := (true, "3d22c29b4cbbdad193302552fd2455b06547af323ba849c0d302b9003b3c341f"), looks := true }, kinds := [], alts := [], laidByText := true, laidKinds := [.data, .data, .data, .data, .sentinel, .sentinel, .pinned], laidTests := true, laidLooks := .later }
def ShapeTagsUptoCardSaid : Prop := Claim7.holds Tryz.pinned (.plain (OpenSpec.upto shapeTagsSpec)) shapeTagsUptoCard
end Rows
end Go.Proofs.YtdbpggncpkocaaaGreatDoor
