/-
  DERIVED. GIVEN WITH THE SEED: THE CARDS: each row of YtldpldcfgkceeaaGreatDoorRows.lean that lists a variable, with what it lists TIED to the program's text (the seventh form; the later family's looks); each row that meets fmt, with fmt's text TOLD by the authors' own Lean function (tested against real Go, not proved from fmt's source: count such statements apart). THE CARD IS WHAT COUNTS. Prove the row's statement (the work); the ties are given (YtldpldcfgkceeaaGreatDoorTie.lean); close each card by the builder's one call (the guide's Derived/Test/ToyasCard.lean, 'card_holds'). Laid BY PROGRAM, IN A SANDBOX (cutbox-door.mjs). By AI agents, Wed Nov 11 2026. No macro, syntax, notation, axiom, sorry.
-/
import Derived.Test.YtldpldcfgkceeaaGreatDoorRows
import GoSem.ClaimSeven
namespace Go.Proofs.YtldpldcfgkceeaaGreatDoor
namespace Rows

/-- THE TIED CARD OF 'thunkmilllaw03.LayoutNames'. -/
def layoutNamesCard : Claim7 := { stood := { row := layoutNamesRow, standIns := [], harness := (true, "d665e56f72fb42744217edb263cc8f3a1acdb33203015814af87eb265eca72b9"), looks := true }, kinds := [], alts := [], laidByText := true, laidKinds := [.data, .data, .data, .data, .sentinel, .sentinel, .pinned], laidTests := true, laidLooks := .later }
def LayoutNamesCardSaid : Prop := Claim7.holds Tryz.pinned (.plain (OpenSpec.ofChange layoutNamesSpec)) layoutNamesCard

/-- THE TIED CARD OF 'thunkmilllaw03.LayoutAll'. -/
def layoutAllCard : Claim7 := { stood := { row := layoutAllRow, standIns := [], harness := (true, "d665e56f72fb42744217edb263cc8f3a1acdb33203015814af87eb265eca72b9"), looks := true }, kinds := [], alts := [], laidByText := true, laidKinds := [.data, .data, .data, .data, .sentinel, .sentinel, .pinned], laidTests := true, laidLooks := .later }
def LayoutAllCardSaid : Prop := Claim7.holds Tryz.pinned (.plain (OpenSpec.ofChange layoutAllSpec)) layoutAllCard

/-- THE TIED CARD OF 'thunkmilllaw03.LayoutScript'. -/
def layoutScriptCard : Claim7 := { stood := { row := layoutScriptRow, standIns := [], harness := (true, "d665e56f72fb42744217edb263cc8f3a1acdb33203015814af87eb265eca72b9"), looks := true }, kinds := [], alts := [], laidByText := true, laidKinds := [.data, .data, .data, .data, .sentinel, .sentinel, .pinned], laidTests := true, laidLooks := .later }
def LayoutScriptCardSaid : Prop := Claim7.holds Tryz.pinned (.plain (OpenSpec.ofChange layoutScriptSpec)) layoutScriptCard

/-- THE TIED CARD OF 'thunkmilllaw03.LayoutNil'. -/
def layoutNilCard : Claim7 := { stood := { row := layoutNilRow, standIns := [], harness := (true, "d665e56f72fb42744217edb263cc8f3a1acdb33203015814af87eb265eca72b9"), looks := true }, kinds := [], alts := [], laidByText := true, laidKinds := [.data, .data, .data, .data, .sentinel, .sentinel, .pinned], laidTests := true, laidLooks := .later }
def LayoutNilCardSaid : Prop := Claim7.holds Tryz.pinned (.plain (OpenSpec.ofChange layoutNilSpec)) layoutNilCard

/-- THE TIED CARD OF 'thunkmilllaw03.LayoutPairs'. -/
def layoutPairsCard : Claim7 := { stood := { row := layoutPairsRow, standIns := [], harness := (true, "d665e56f72fb42744217edb263cc8f3a1acdb33203015814af87eb265eca72b9"), looks := true }, kinds := [], alts := [], laidByText := true, laidKinds := [.data, .data, .data, .data, .sentinel, .sentinel, .pinned], laidTests := true, laidLooks := .later }
def LayoutPairsCardSaid : Prop := Claim7.holds Tryz.pinned (.plain (OpenSpec.ofChange layoutPairsSpec)) layoutPairsCard

/-- THE SECOND FORM's CARD OF 'thunkmilllaw03.LayoutNames'. -/
def layoutNamesUptoCard : Claim7 := { stood := { row := layoutNamesUptoRow, standIns := [], harness := (true, "d665e56f72fb42744217edb263cc8f3a1acdb33203015814af87eb265eca72b9"), looks := true }, kinds := [], alts := [], laidByText := true, laidKinds := [.data, .data, .data, .data, .sentinel, .sentinel, .pinned], laidTests := true, laidLooks := .later }
def LayoutNamesUptoCardSaid : Prop := Claim7.holds Tryz.pinned (.plain (OpenSpec.upto layoutNamesSpec)) layoutNamesUptoCard

/-- THE SECOND FORM's CARD OF 'thunkmilllaw03.LayoutAll'. -/
def layoutAllUptoCard : Claim7 := { stood := { row := layoutAllUptoRow, standIns := [], harness := (true, "d665e56f72fb42744217edb263cc8f3a1acdb33203015814af87eb265eca72b9"), looks := true }, kinds := [], alts := [], laidByText := true, laidKinds := [.data, .data, .data, .data, .sentinel, .sentinel, .pinned], laidTests := true, laidLooks := .later }
def LayoutAllUptoCardSaid : Prop := Claim7.holds Tryz.pinned (.plain (OpenSpec.upto layoutAllSpec)) layoutAllUptoCard

/-- THE SECOND FORM's CARD OF 'thunkmilllaw03.LayoutScript'. -/
def layoutScriptUptoCard : Claim7 := { stood := { row := layoutScriptUptoRow, standIns := [], harness := (true, "d665e56f72fb42744217edb263cc8f3a1acdb33203015814af87eb265eca72b9"), looks := true }, kinds := [], alts := [], laidByText := true, laidKinds := [.data, .data, .data, .data, .sentinel, .sentinel, .pinned], laidTests := true, laidLooks := .later }
def LayoutScriptUptoCardSaid : Prop := Claim7.holds Tryz.pinned (.plain (OpenSpec.upto layoutScriptSpec)) layoutScriptUptoCard

/-- THE SECOND FORM's CARD OF 'thunkmilllaw03.LayoutNil'. -/
def layoutNilUptoCard : Claim7 := { stood := { row := layoutNilUptoRow, standIns := [], harness := (true, "d665e56f72fb42744217edb263cc8f3a1acdb33203015814af87eb265eca72b9"), looks := true }, kinds := [], alts := [], laidByText := true, laidKinds := [.data, .data, .data, .data, .sentinel, .sentinel, .pinned], laidTests := true, laidLooks := .later }
def LayoutNilUptoCardSaid : Prop := Claim7.holds Tryz.pinned (.plain (OpenSpec.upto layoutNilSpec)) layoutNilUptoCard

/-- THE SECOND FORM's CARD OF 'thunkmilllaw03.LayoutPairs'. -/
def layoutPairsUptoCard : Claim7 := { stood := { row := layoutPairsUptoRow, standIns := [], harness := (true, "d665e56f72fb42744217edb263cc8f3a1acdb33203015814af87eb265eca72b9"), looks := true }, kinds := [], alts := [], laidByText := true, laidKinds := [.data, .data, .data, .data, .sentinel, .sentinel, .pinned], laidTests := true, laidLooks := .later }
def LayoutPairsUptoCardSaid : Prop := Claim7.holds Tryz.pinned (.plain (OpenSpec.upto layoutPairsSpec)) layoutPairsUptoCard
end Rows
end Go.Proofs.YtldpldcfgkceeaaGreatDoor
