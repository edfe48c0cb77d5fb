/-
  DERIVED. GIVEN WITH THE SEED: THE CARDS: each row of YtppnhaacmhfenabGreatDoorRows.lean that lists a variable, with what it lists TIED to the program's text (the seventh form; the later family's looks); each row that meets fmt, with fmt's text TOLD by the authors' own Lean function (tested against real Go, not proved from fmt's source: count such statements apart). THE CARD IS WHAT COUNTS. Prove the row's statement (the work); the ties are given (YtppnhaacmhfenabGreatDoorTie.lean); close each card by the builder's one call (the guide's Derived/Test/ToyasCard.lean, 'card_holds'). Laid BY PROGRAM, IN A SANDBOX (cutbox-door.mjs). By AI agents, Wed Nov 11 2026. No macro, syntax, notation, axiom, sorry.
-/
import Derived.Test.YtppnhaacmhfenabGreatDoorRows
import GoSem.ClaimSeven
namespace Go.Proofs.YtppnhaacmhfenabGreatDoor
namespace Rows

/-- THE TIED CARD OF 'thunkmilllaw05.FixityOrder'. -/
def fixityOrderCard : Claim7 := { stood := { row := fixityOrderRow, standIns := [], harness := (true, "cfb8b6738d4cbb6db62b624caef96856331d4399c8d9c5267b89a8dda6eb0b8c"), looks := true }, kinds := [], alts := [], laidByText := true, laidKinds := [.data, .data, .data, .data, .sentinel, .sentinel, .pinned], laidTests := true, laidLooks := .later }
def FixityOrderCardSaid : Prop := Claim7.holds Tryz.pinned (.plain (OpenSpec.ofChange fixityOrderSpec)) fixityOrderCard

/-- THE TIED CARD OF 'thunkmilllaw05.FixityLevels'. -/
def fixityLevelsCard : Claim7 := { stood := { row := fixityLevelsRow, standIns := [], harness := (true, "cfb8b6738d4cbb6db62b624caef96856331d4399c8d9c5267b89a8dda6eb0b8c"), looks := true }, kinds := [], alts := [], laidByText := true, laidKinds := [.data, .data, .data, .data, .sentinel, .sentinel, .pinned], laidTests := true, laidLooks := .later }
def FixityLevelsCardSaid : Prop := Claim7.holds Tryz.pinned (.plain (OpenSpec.ofChange fixityLevelsSpec)) fixityLevelsCard

/-- THE SECOND FORM's CARD OF 'thunkmilllaw05.FixityOrder'. -/
def fixityOrderUptoCard : Claim7 := { stood := { row := fixityOrderUptoRow, standIns := [], harness := (true, "cfb8b6738d4cbb6db62b624caef96856331d4399c8d9c5267b89a8dda6eb0b8c"), looks := true }, kinds := [], alts := [], laidByText := true, laidKinds := [.data, .data, .data, .data, .sentinel, .sentinel, .pinned], laidTests := true, laidLooks := .later }
def FixityOrderUptoCardSaid : Prop := Claim7.holds Tryz.pinned (.plain (OpenSpec.upto fixityOrderSpec)) fixityOrderUptoCard

/-- THE SECOND FORM's CARD OF 'thunkmilllaw05.FixityLevels'. -/
def fixityLevelsUptoCard : Claim7 := { stood := { row := fixityLevelsUptoRow, standIns := [], harness := (true, "cfb8b6738d4cbb6db62b624caef96856331d4399c8d9c5267b89a8dda6eb0b8c"), looks := true }, kinds := [], alts := [], laidByText := true, laidKinds := [.data, .data, .data, .data, .sentinel, .sentinel, .pinned], laidTests := true, laidLooks := .later }
def FixityLevelsUptoCardSaid : Prop := Claim7.holds Tryz.pinned (.plain (OpenSpec.upto fixityLevelsSpec)) fixityLevelsUptoCard
end Rows
end Go.Proofs.YtppnhaacmhfenabGreatDoor
