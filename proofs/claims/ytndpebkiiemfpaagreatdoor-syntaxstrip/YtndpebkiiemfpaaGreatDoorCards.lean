/-
  DERIVED. GIVEN WITH THE SEED: THE CARDS: each row of YtndpebkiiemfpaaGreatDoorRows.lean that lists a variable, with what it lists TIED to the program's text (the seventh form; the later family's looks); each row that meets fmt, with fmt's text TOLD by the authors' own Lean function (tested against real Go, not proved from fmt's source: count such statements apart). THE CARD IS WHAT COUNTS. Prove the row's statement (the work); the ties are given (YtndpebkiiemfpaaGreatDoorTie.lean); close each card by the builder's one call (the guide's Derived/Test/ToyasCard.lean, 'card_holds'). Laid BY PROGRAM, IN A SANDBOX (cutbox-door.mjs). By AI agents, Wed Nov 11 2026. No macro, syntax, notation, axiom, sorry.
-/
import Derived.Test.YtndpebkiiemfpaaGreatDoorRows
import GoSem.ClaimSeven
namespace Go.Proofs.YtndpebkiiemfpaaGreatDoor
namespace Rows

/-- THE TIED CARD OF 'thunkmilllaw04.SyntaxLexes'. -/
def syntaxLexesCard : Claim7 := { stood := { row := syntaxLexesRow, standIns := [], harness := (true, "a296c2fce125cf1d0e3ae7b73a5db466a07e1d7131fcec6122cbe347477f2493"), looks := true }, kinds := [], alts := [], laidByText := true, laidKinds := [.data, .data, .data, .data, .sentinel, .sentinel, .pinned], laidTests := true, laidLooks := .later }
def SyntaxLexesCardSaid : Prop := Claim7.holds Tryz.pinned (.plain (OpenSpec.ofChange syntaxLexesSpec)) syntaxLexesCard

/-- THE TIED CARD OF 'thunkmilllaw04.SyntaxStrip'. -/
def syntaxStripCard : Claim7 := { stood := { row := syntaxStripRow, standIns := [], harness := (true, "a296c2fce125cf1d0e3ae7b73a5db466a07e1d7131fcec6122cbe347477f2493"), looks := true }, kinds := [], alts := [], laidByText := true, laidKinds := [.data, .data, .data, .data, .sentinel, .sentinel, .pinned], laidTests := true, laidLooks := .later }
def SyntaxStripCardSaid : Prop := Claim7.holds Tryz.pinned (.plain (OpenSpec.ofChange syntaxStripSpec)) syntaxStripCard

/-- THE SECOND FORM's CARD OF 'thunkmilllaw04.SyntaxLexes'. -/
def syntaxLexesUptoCard : Claim7 := { stood := { row := syntaxLexesUptoRow, standIns := [], harness := (true, "a296c2fce125cf1d0e3ae7b73a5db466a07e1d7131fcec6122cbe347477f2493"), looks := true }, kinds := [], alts := [], laidByText := true, laidKinds := [.data, .data, .data, .data, .sentinel, .sentinel, .pinned], laidTests := true, laidLooks := .later }
def SyntaxLexesUptoCardSaid : Prop := Claim7.holds Tryz.pinned (.plain (OpenSpec.upto syntaxLexesSpec)) syntaxLexesUptoCard

/-- THE SECOND FORM's CARD OF 'thunkmilllaw04.SyntaxStrip'. -/
def syntaxStripUptoCard : Claim7 := { stood := { row := syntaxStripUptoRow, standIns := [], harness := (true, "a296c2fce125cf1d0e3ae7b73a5db466a07e1d7131fcec6122cbe347477f2493"), looks := true }, kinds := [], alts := [], laidByText := true, laidKinds := [.data, .data, .data, .data, .sentinel, .sentinel, .pinned], laidTests := true, laidLooks := .later }
def SyntaxStripUptoCardSaid : Prop := Claim7.holds Tryz.pinned (.plain (OpenSpec.upto syntaxStripSpec)) syntaxStripUptoCard
end Rows
end Go.Proofs.YtndpebkiiemfpaaGreatDoor
