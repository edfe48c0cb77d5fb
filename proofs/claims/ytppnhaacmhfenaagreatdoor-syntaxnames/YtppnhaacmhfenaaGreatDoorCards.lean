/-
  DERIVED. GIVEN WITH THE SEED: THE CARDS: each row of YtppnhaacmhfenaaGreatDoorRows.lean that lists a variable, with what it lists TIED to the program's text (the seventh form; the later family's looks); each row that meets fmt, with fmt's text TOLD by the authors' own Lean function (tested against real Go, not proved from fmt's source: count such statements apart). THE CARD IS WHAT COUNTS. Prove the row's statement (the work); the ties are given (YtppnhaacmhfenaaGreatDoorTie.lean); close each card by the builder's one call (the guide's Derived/Test/ToyasCard.lean, 'card_holds'). Laid BY PROGRAM, IN A SANDBOX (cutbox-door.mjs). By AI agents, Wed Nov 11 2026. No macro, syntax, notation, axiom, sorry.
-/
import Derived.Test.YtppnhaacmhfenaaGreatDoorRows
import GoSem.ClaimSeven
namespace Go.Proofs.YtppnhaacmhfenaaGreatDoor
namespace Rows

/-- THE TIED CARD OF 'thunkmilllaw04.SyntaxNames'. -/
def syntaxNamesCard : Claim7 := { stood := { row := syntaxNamesRow, standIns := [], harness := (true, "72dbb04241f5d58816600ac3014349130dfb77f84dc605973733eaac6307241a"), looks := true }, kinds := [], alts := [], laidByText := true, laidKinds := [.data, .data, .data, .data, .sentinel, .sentinel, .pinned], laidTests := true, laidLooks := .later }
def SyntaxNamesCardSaid : Prop := Claim7.holds Tryz.pinned (.plain (OpenSpec.ofChange syntaxNamesSpec)) syntaxNamesCard

/-- THE TIED CARD OF 'thunkmilllaw04.SyntaxLexes'. -/
def syntaxLexesCard : Claim7 := { stood := { row := syntaxLexesRow, standIns := [], harness := (true, "72dbb04241f5d58816600ac3014349130dfb77f84dc605973733eaac6307241a"), looks := true }, kinds := [], alts := [], laidByText := true, laidKinds := [.data, .data, .data, .data, .sentinel, .sentinel, .pinned], laidTests := true, laidLooks := .later }
def SyntaxLexesCardSaid : Prop := Claim7.holds Tryz.pinned (.plain (OpenSpec.ofChange syntaxLexesSpec)) syntaxLexesCard

/-- THE TIED CARD OF 'thunkmilllaw04.SyntaxStrip'. -/
def syntaxStripCard : Claim7 := { stood := { row := syntaxStripRow, standIns := [], harness := (true, "72dbb04241f5d58816600ac3014349130dfb77f84dc605973733eaac6307241a"), looks := true }, kinds := [], alts := [], laidByText := true, laidKinds := [.data, .data, .data, .data, .sentinel, .sentinel, .pinned], laidTests := true, laidLooks := .later }
def SyntaxStripCardSaid : Prop := Claim7.holds Tryz.pinned (.plain (OpenSpec.ofChange syntaxStripSpec)) syntaxStripCard

/-- THE TIED CARD OF 'thunkmilllaw05.FixityNames'. -/
def fixityNamesCard : Claim7 := { stood := { row := fixityNamesRow, standIns := [], harness := (true, "72dbb04241f5d58816600ac3014349130dfb77f84dc605973733eaac6307241a"), looks := true }, kinds := [], alts := [], laidByText := true, laidKinds := [.data, .data, .data, .data, .sentinel, .sentinel, .pinned], laidTests := true, laidLooks := .later }
def FixityNamesCardSaid : Prop := Claim7.holds Tryz.pinned (.plain (OpenSpec.ofChange fixityNamesSpec)) fixityNamesCard

/-- THE TIED CARD OF 'thunkmilllaw05.FixityCalls'. -/
def fixityCallsCard : Claim7 := { stood := { row := fixityCallsRow, standIns := [], harness := (true, "72dbb04241f5d58816600ac3014349130dfb77f84dc605973733eaac6307241a"), looks := true }, kinds := [], alts := [], laidByText := true, laidKinds := [.data, .data, .data, .data, .sentinel, .sentinel, .pinned], laidTests := true, laidLooks := .later }
def FixityCallsCardSaid : Prop := Claim7.holds Tryz.pinned (.plain (OpenSpec.ofChange fixityCallsSpec)) fixityCallsCard

/-- THE SECOND FORM's CARD OF 'thunkmilllaw04.SyntaxNames'. -/
def syntaxNamesUptoCard : Claim7 := { stood := { row := syntaxNamesUptoRow, standIns := [], harness := (true, "72dbb04241f5d58816600ac3014349130dfb77f84dc605973733eaac6307241a"), looks := true }, kinds := [], alts := [], laidByText := true, laidKinds := [.data, .data, .data, .data, .sentinel, .sentinel, .pinned], laidTests := true, laidLooks := .later }
def SyntaxNamesUptoCardSaid : Prop := Claim7.holds Tryz.pinned (.plain (OpenSpec.upto syntaxNamesSpec)) syntaxNamesUptoCard

/-- THE SECOND FORM's CARD OF 'thunkmilllaw04.SyntaxLexes'. -/
def syntaxLexesUptoCard : Claim7 := { stood := { row := syntaxLexesUptoRow, standIns := [], harness := (true, "72dbb04241f5d58816600ac3014349130dfb77f84dc605973733eaac6307241a"), looks := true }, kinds := [], alts := [], laidByText := true, laidKinds := [.data, .data, .data, .data, .sentinel, .sentinel, .pinned], laidTests := true, laidLooks := .later }
def SyntaxLexesUptoCardSaid : Prop := Claim7.holds Tryz.pinned (.plain (OpenSpec.upto syntaxLexesSpec)) syntaxLexesUptoCard

/-- THE SECOND FORM's CARD OF 'thunkmilllaw04.SyntaxStrip'. -/
def syntaxStripUptoCard : Claim7 := { stood := { row := syntaxStripUptoRow, standIns := [], harness := (true, "72dbb04241f5d58816600ac3014349130dfb77f84dc605973733eaac6307241a"), looks := true }, kinds := [], alts := [], laidByText := true, laidKinds := [.data, .data, .data, .data, .sentinel, .sentinel, .pinned], laidTests := true, laidLooks := .later }
def SyntaxStripUptoCardSaid : Prop := Claim7.holds Tryz.pinned (.plain (OpenSpec.upto syntaxStripSpec)) syntaxStripUptoCard

/-- THE SECOND FORM's CARD OF 'thunkmilllaw05.FixityNames'. -/
def fixityNamesUptoCard : Claim7 := { stood := { row := fixityNamesUptoRow, standIns := [], harness := (true, "72dbb04241f5d58816600ac3014349130dfb77f84dc605973733eaac6307241a"), looks := true }, kinds := [], alts := [], laidByText := true, laidKinds := [.data, .data, .data, .data, .sentinel, .sentinel, .pinned], laidTests := true, laidLooks := .later }
def FixityNamesUptoCardSaid : Prop := Claim7.holds Tryz.pinned (.plain (OpenSpec.upto fixityNamesSpec)) fixityNamesUptoCard

/-- THE SECOND FORM's CARD OF 'thunkmilllaw05.FixityCalls'. -/
def fixityCallsUptoCard : Claim7 := { stood := { row := fixityCallsUptoRow, standIns := [], harness := (true, "72dbb04241f5d58816600ac3014349130dfb77f84dc605973733eaac6307241a"), looks := true }, kinds := [], alts := [], laidByText := true, laidKinds := [.data, .data, .data, .data, .sentinel, .sentinel, .pinned], laidTests := true, laidLooks := .later }
def FixityCallsUptoCardSaid : Prop := Claim7.holds Tryz.pinned (.plain (OpenSpec.upto fixityCallsSpec)) fixityCallsUptoCard
end Rows
end Go.Proofs.YtppnhaacmhfenaaGreatDoor
