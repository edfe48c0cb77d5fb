/-
  DERIVED. GIVEN WITH THE SEED: THE CARDS: each row of YtegdloenakachaaGreatDoorRows.lean that lists a variable, with what it lists TIED to the program's text (the seventh form; the later family's looks); each row that meets fmt, with fmt's text TOLD by the authors' own Lean function (tested against real Go, not proved from fmt's source: count such statements apart). THE CARD IS WHAT COUNTS. Prove the row's statement (the work); the ties are given (YtegdloenakachaaGreatDoorTie.lean); close each card by the builder's one call (the guide's Derived/Test/ToyasCard.lean, 'card_holds'). Laid BY PROGRAM, IN A SANDBOX (cutbox-door.mjs). By AI agents, Wed Nov 11 2026. No macro, syntax, notation, axiom, sorry.
-/
import Derived.Test.YtegdloenakachaaGreatDoorRows
import GoSem.ClaimSeven
namespace Go.Proofs.YtegdloenakachaaGreatDoor
namespace Rows

/-- THE TIED CARD OF 'thunkmilllaw07.CoreNames'. -/
def coreNamesCard : Claim7 := { stood := { row := coreNamesRow, standIns := [], harness := (true, "27dd34be1e64adcbed6d62ed0beb4033c595189340bfcb244e1789bf041bd54d"), looks := false }, kinds := [], alts := [], laidByText := true, laidKinds := [.data, .data, .data], laidTests := true, laidLooks := .later }
def CoreNamesCardSaid : Prop := Claim7.holds Tryz.pinned (.plain (OpenSpec.ofChange coreNamesSpec)) coreNamesCard

/-- THE TIED CARD OF 'thunkmilllaw07.CoreSubst'. -/
def coreSubstCard : Claim7 := { stood := { row := coreSubstRow, standIns := [], harness := (true, "27dd34be1e64adcbed6d62ed0beb4033c595189340bfcb244e1789bf041bd54d"), looks := false }, kinds := [], alts := [], laidByText := true, laidKinds := [.data, .data, .data], laidTests := true, laidLooks := .later }
def CoreSubstCardSaid : Prop := Claim7.holds Tryz.pinned (.plain (OpenSpec.ofChange coreSubstSpec)) coreSubstCard

/-- THE TIED CARD OF 'thunkmilllaw07.CoreFree'. -/
def coreFreeCard : Claim7 := { stood := { row := coreFreeRow, standIns := [], harness := (true, "27dd34be1e64adcbed6d62ed0beb4033c595189340bfcb244e1789bf041bd54d"), looks := false }, kinds := [], alts := [], laidByText := true, laidKinds := [.data, .data, .data], laidTests := true, laidLooks := .later }
def CoreFreeCardSaid : Prop := Claim7.holds Tryz.pinned (.plain (OpenSpec.ofChange coreFreeSpec)) coreFreeCard

/-- THE SECOND FORM's CARD OF 'thunkmilllaw07.CoreNames'. -/
def coreNamesUptoCard : Claim7 := { stood := { row := coreNamesUptoRow, standIns := [], harness := (true, "27dd34be1e64adcbed6d62ed0beb4033c595189340bfcb244e1789bf041bd54d"), looks := false }, kinds := [], alts := [], laidByText := true, laidKinds := [.data, .data, .data], laidTests := true, laidLooks := .later }
def CoreNamesUptoCardSaid : Prop := Claim7.holds Tryz.pinned (.plain (OpenSpec.upto coreNamesSpec)) coreNamesUptoCard

/-- THE SECOND FORM's CARD OF 'thunkmilllaw07.CoreSubst'. -/
def coreSubstUptoCard : Claim7 := { stood := { row := coreSubstUptoRow, standIns := [], harness := (true, "27dd34be1e64adcbed6d62ed0beb4033c595189340bfcb244e1789bf041bd54d"), looks := false }, kinds := [], alts := [], laidByText := true, laidKinds := [.data, .data, .data], laidTests := true, laidLooks := .later }
def CoreSubstUptoCardSaid : Prop := Claim7.holds Tryz.pinned (.plain (OpenSpec.upto coreSubstSpec)) coreSubstUptoCard

/-- THE SECOND FORM's CARD OF 'thunkmilllaw07.CoreFree'. -/
def coreFreeUptoCard : Claim7 := { stood := { row := coreFreeUptoRow, standIns := [], harness := (true, "27dd34be1e64adcbed6d62ed0beb4033c595189340bfcb244e1789bf041bd54d"), looks := false }, kinds := [], alts := [], laidByText := true, laidKinds := [.data, .data, .data], laidTests := true, laidLooks := .later }
def CoreFreeUptoCardSaid : Prop := Claim7.holds Tryz.pinned (.plain (OpenSpec.upto coreFreeSpec)) coreFreeUptoCard
end Rows
end Go.Proofs.YtegdloenakachaaGreatDoor
