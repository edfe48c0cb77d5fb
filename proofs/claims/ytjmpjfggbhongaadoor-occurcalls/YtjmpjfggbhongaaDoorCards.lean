/-
  DERIVED. GIVEN WITH THE SEED: THE CARDS: each row of YtjmpjfggbhongaaDoorRows.lean that lists a variable, with what it lists TIED to the program's text (the seventh form; the later family's looks); each row that meets fmt, with fmt's text TOLD by the authors' own Lean function (tested against real Go, not proved from fmt's source: count such statements apart). THE CARD IS WHAT COUNTS. Prove the row's statement (the work); the ties are given (YtjmpjfggbhongaaDoorTie.lean); close each card by the builder's one call (the guide's Derived/Test/ToyasCard.lean, 'card_holds'). Laid BY PROGRAM, IN A SANDBOX (cutbox-door.mjs). By AI agents, Wed Nov 11 2026. No macro, syntax, notation, axiom, sorry.
-/
import Derived.Test.YtjmpjfggbhongaaDoorRows
import GoSem.ClaimSeven
namespace Go.Proofs.YtjmpjfggbhongaaDoor
namespace Rows

/-- THE TIED CARD OF 'thunkmilllaw16.OccurNames'. -/
def occurNamesCard : Claim7 := { stood := { row := occurNamesRow, standIns := [], harness := (true, "7ad14253a654e2daa42a94a2929959d683384aefd568a434a0ecec69c2e53cd4"), looks := false }, kinds := [], alts := [], laidByText := true, laidKinds := [.data, .data], laidTests := true, laidLooks := .later }
def OccurNamesCardSaid : Prop := Claim7.holds Tryd.pinned (.plain (OpenSpec.ofChange occurNamesSpec)) occurNamesCard

/-- THE TIED CARD OF 'thunkmilllaw16.OccurCalls'. -/
def occurCallsCard : Claim7 := { stood := { row := occurCallsRow, standIns := [], harness := (true, "7ad14253a654e2daa42a94a2929959d683384aefd568a434a0ecec69c2e53cd4"), looks := false }, kinds := [], alts := [], laidByText := true, laidKinds := [.data, .data], laidTests := true, laidLooks := .later }
def OccurCallsCardSaid : Prop := Claim7.holds Tryd.pinned (.plain (OpenSpec.ofChange occurCallsSpec)) occurCallsCard

/-- THE TIED CARD OF 'thunkmilllaw16.OccurCounts'. -/
def occurCountsCard : Claim7 := { stood := { row := occurCountsRow, standIns := [], harness := (true, "7ad14253a654e2daa42a94a2929959d683384aefd568a434a0ecec69c2e53cd4"), looks := false }, kinds := [], alts := [], laidByText := true, laidKinds := [.data, .data], laidTests := true, laidLooks := .later }
def OccurCountsCardSaid : Prop := Claim7.holds Tryd.pinned (.plain (OpenSpec.ofChange occurCountsSpec)) occurCountsCard

/-- THE SECOND FORM's CARD OF 'thunkmilllaw16.OccurNames'. -/
def occurNamesUptoCard : Claim7 := { stood := { row := occurNamesUptoRow, standIns := [], harness := (true, "7ad14253a654e2daa42a94a2929959d683384aefd568a434a0ecec69c2e53cd4"), looks := false }, kinds := [], alts := [], laidByText := true, laidKinds := [.data, .data], laidTests := true, laidLooks := .later }
def OccurNamesUptoCardSaid : Prop := Claim7.holds Tryd.pinned (.plain (OpenSpec.upto occurNamesSpec)) occurNamesUptoCard

/-- THE SECOND FORM's CARD OF 'thunkmilllaw16.OccurCalls'. -/
def occurCallsUptoCard : Claim7 := { stood := { row := occurCallsUptoRow, standIns := [], harness := (true, "7ad14253a654e2daa42a94a2929959d683384aefd568a434a0ecec69c2e53cd4"), looks := false }, kinds := [], alts := [], laidByText := true, laidKinds := [.data, .data], laidTests := true, laidLooks := .later }
def OccurCallsUptoCardSaid : Prop := Claim7.holds Tryd.pinned (.plain (OpenSpec.upto occurCallsSpec)) occurCallsUptoCard

/-- THE SECOND FORM's CARD OF 'thunkmilllaw16.OccurCounts'. -/
def occurCountsUptoCard : Claim7 := { stood := { row := occurCountsUptoRow, standIns := [], harness := (true, "7ad14253a654e2daa42a94a2929959d683384aefd568a434a0ecec69c2e53cd4"), looks := false }, kinds := [], alts := [], laidByText := true, laidKinds := [.data, .data], laidTests := true, laidLooks := .later }
def OccurCountsUptoCardSaid : Prop := Claim7.holds Tryd.pinned (.plain (OpenSpec.upto occurCountsSpec)) occurCountsUptoCard
end Rows
end Go.Proofs.YtjmpjfggbhongaaDoor
