/-
  DERIVED. GIVEN WITH THE SEED: THE CARDS: each row of YthekpcgebkoodaaDoorRows.lean that lists a variable, with what it lists TIED to the program's text (the seventh form; the later family's looks); each row that meets fmt, with fmt's text TOLD by the authors' own Lean function (tested against real Go, not proved from fmt's source: count such statements apart). THE CARD IS WHAT COUNTS. Prove the row's statement (the work); the ties are given (YthekpcgebkoodaaDoorTie.lean); close each card by the builder's one call (the guide's Derived/Test/ToyasCard.lean, 'card_holds'). Laid BY PROGRAM, IN A SANDBOX (cutbox-door.mjs). By AI agents, Wed Nov 11 2026. No macro, syntax, notation, axiom, sorry.
-/
import Derived.Test.YthekpcgebkoodaaDoorRows
import GoSem.ClaimSeven
namespace Go.Proofs.YthekpcgebkoodaaDoor
namespace Rows

/-- THE TIED CARD OF 'hindsightlaw06.EventNames'. -/
def eventNamesCard : Claim7 := { stood := { row := eventNamesRow, standIns := [], harness := (true, "c23a8a328501537a02a70814b7e6e02fd30280d4261cc95c5e2e815aa5c9a157"), looks := false }, kinds := [], alts := [], laidByText := true, laidKinds := [.data], laidTests := true, laidLooks := .later }
def EventNamesCardSaid : Prop := Claim7.holds Tryd.pinned (.plain (OpenSpec.ofChange eventNamesSpec)) eventNamesCard

/-- THE TIED CARD OF 'hindsightlaw06.EventPairs'. -/
def eventPairsCard : Claim7 := { stood := { row := eventPairsRow, standIns := [], harness := (true, "c23a8a328501537a02a70814b7e6e02fd30280d4261cc95c5e2e815aa5c9a157"), looks := false }, kinds := [], alts := [], laidByText := true, laidKinds := [.data, .data], laidTests := true, laidLooks := .later }
def EventPairsCardSaid : Prop := Claim7.holds Tryd.pinned (.plain (OpenSpec.ofChange eventPairsSpec)) eventPairsCard

/-- THE TIED CARD OF 'hindsightlaw06.EventChecks'. -/
def eventChecksCard : Claim7 := { stood := { row := eventChecksRow, standIns := [], harness := (true, "c23a8a328501537a02a70814b7e6e02fd30280d4261cc95c5e2e815aa5c9a157"), looks := false }, kinds := [], alts := [], laidByText := true, laidKinds := [.data, .data], laidTests := true, laidLooks := .later }
def EventChecksCardSaid : Prop := Claim7.holds Tryd.pinned (.plain (OpenSpec.ofChange eventChecksSpec)) eventChecksCard

/-- THE TIED CARD OF 'hindsightlaw06.EventTable'. -/
def eventTableCard : Claim7 := { stood := { row := eventTableRow, standIns := [], harness := (true, "c23a8a328501537a02a70814b7e6e02fd30280d4261cc95c5e2e815aa5c9a157"), looks := false }, kinds := [], alts := [], laidByText := true, laidKinds := [.data, .data], laidTests := true, laidLooks := .later }
def EventTableCardSaid : Prop := Claim7.holds Tryd.pinned (.plain (OpenSpec.ofChange eventTableSpec)) eventTableCard

/-- THE TIED CARD OF 'hindsightlaw06.EventTouches'. -/
def eventTouchesCard : Claim7 := { stood := { row := eventTouchesRow, standIns := [], harness := (true, "c23a8a328501537a02a70814b7e6e02fd30280d4261cc95c5e2e815aa5c9a157"), looks := false }, kinds := [], alts := [], laidByText := true, laidKinds := [.data, .data], laidTests := true, laidLooks := .later }
def EventTouchesCardSaid : Prop := Claim7.holds Tryd.pinned (.plain (OpenSpec.ofChange eventTouchesSpec)) eventTouchesCard

/-- THE TIED CARD OF 'hindsightlaw06.EventParts'. -/
def eventPartsCard : Claim7 := { stood := { row := eventPartsRow, standIns := [], harness := (true, "c23a8a328501537a02a70814b7e6e02fd30280d4261cc95c5e2e815aa5c9a157"), looks := false }, kinds := [], alts := [], laidByText := true, laidKinds := [.data, .data], laidTests := true, laidLooks := .later }
def EventPartsCardSaid : Prop := Claim7.holds Tryd.pinned (.plain (OpenSpec.ofChange eventPartsSpec)) eventPartsCard

/-- THE SECOND FORM's CARD OF 'hindsightlaw06.EventNames'. -/
def eventNamesUptoCard : Claim7 := { stood := { row := eventNamesUptoRow, standIns := [], harness := (true, "c23a8a328501537a02a70814b7e6e02fd30280d4261cc95c5e2e815aa5c9a157"), looks := false }, kinds := [], alts := [], laidByText := true, laidKinds := [.data], laidTests := true, laidLooks := .later }
def EventNamesUptoCardSaid : Prop := Claim7.holds Tryd.pinned (.plain (OpenSpec.upto eventNamesSpec)) eventNamesUptoCard

/-- THE SECOND FORM's CARD OF 'hindsightlaw06.EventPairs'. -/
def eventPairsUptoCard : Claim7 := { stood := { row := eventPairsUptoRow, standIns := [], harness := (true, "c23a8a328501537a02a70814b7e6e02fd30280d4261cc95c5e2e815aa5c9a157"), looks := false }, kinds := [], alts := [], laidByText := true, laidKinds := [.data, .data], laidTests := true, laidLooks := .later }
def EventPairsUptoCardSaid : Prop := Claim7.holds Tryd.pinned (.plain (OpenSpec.upto eventPairsSpec)) eventPairsUptoCard

/-- THE SECOND FORM's CARD OF 'hindsightlaw06.EventChecks'. -/
def eventChecksUptoCard : Claim7 := { stood := { row := eventChecksUptoRow, standIns := [], harness := (true, "c23a8a328501537a02a70814b7e6e02fd30280d4261cc95c5e2e815aa5c9a157"), looks := false }, kinds := [], alts := [], laidByText := true, laidKinds := [.data, .data], laidTests := true, laidLooks := .later }
def EventChecksUptoCardSaid : Prop := Claim7.holds Tryd.pinned (.plain (OpenSpec.upto eventChecksSpec)) eventChecksUptoCard

/-- THE SECOND FORM's CARD OF 'hindsightlaw06.EventTable'. -/
def eventTableUptoCard : Claim7 := { stood := { row := eventTableUptoRow, standIns := [], harness := (true, "c23a8a328501537a02a70814b7e6e02fd30280d4261cc95c5e2e815aa5c9a157"), looks := false }, kinds := [], alts := [], laidByText := true, laidKinds := [.data, .data], laidTests := true, laidLooks := .later }
def EventTableUptoCardSaid : Prop := Claim7.holds Tryd.pinned (.plain (OpenSpec.upto eventTableSpec)) eventTableUptoCard

/-- THE SECOND FORM's CARD OF 'hindsightlaw06.EventTouches'. -/
def eventTouchesUptoCard : Claim7 := { stood := { row := eventTouchesUptoRow, standIns := [], harness := (true, "c23a8a328501537a02a70814b7e6e02fd30280d4261cc95c5e2e815aa5c9a157"), looks := false }, kinds := [], alts := [], laidByText := true, laidKinds := [.data, .data], laidTests := true, laidLooks := .later }
def EventTouchesUptoCardSaid : Prop := Claim7.holds Tryd.pinned (.plain (OpenSpec.upto eventTouchesSpec)) eventTouchesUptoCard

/-- THE SECOND FORM's CARD OF 'hindsightlaw06.EventParts'. -/
def eventPartsUptoCard : Claim7 := { stood := { row := eventPartsUptoRow, standIns := [], harness := (true, "c23a8a328501537a02a70814b7e6e02fd30280d4261cc95c5e2e815aa5c9a157"), looks := false }, kinds := [], alts := [], laidByText := true, laidKinds := [.data, .data], laidTests := true, laidLooks := .later }
def EventPartsUptoCardSaid : Prop := Claim7.holds Tryd.pinned (.plain (OpenSpec.upto eventPartsSpec)) eventPartsUptoCard
end Rows
end Go.Proofs.YthekpcgebkoodaaDoor
