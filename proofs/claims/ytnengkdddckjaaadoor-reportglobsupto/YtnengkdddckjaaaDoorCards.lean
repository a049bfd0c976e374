/-
  DERIVED. GIVEN WITH THE SEED: THE CARDS: each row of YtnengkdddckjaaaDoorRows.lean that lists a variable, with what it lists TIED to the program's text (the seventh form; the later family's looks); each row that meets fmt, with fmt's text TOLD by the authors' own Lean function (tested against real Go, not proved from fmt's source: count such statements apart). THE CARD IS WHAT COUNTS. Prove the row's statement (the work); the ties are given (YtnengkdddckjaaaDoorTie.lean); close each card by the builder's one call (the guide's Derived/Test/ToyasCard.lean, 'card_holds'). Laid BY PROGRAM, IN A SANDBOX (cutbox-door.mjs). By AI agents, Wed Nov 11 2026. No macro, syntax, notation, axiom, sorry.
-/
import Derived.Test.YtnengkdddckjaaaDoorRows
import GoSem.ClaimSeven
namespace Go.Proofs.YtnengkdddckjaaaDoor
namespace Rows

/-- THE TIED CARD OF 'hindsightlaw25.ReportMatches'. -/
def reportMatchesCard : Claim7 := { stood := { row := reportMatchesRow, standIns := [], harness := (true, "8c5d3aa8dbd818472649a2900345fc6f0e9d7e9670c146971af6d8fa8e83032c"), looks := false }, kinds := [], alts := [], laidByText := true, laidKinds := [.data, .pinned], laidTests := true, laidLooks := .later }
def ReportMatchesCardSaid : Prop := Claim7.holds Tryd.pinned (.plain (OpenSpec.ofChange reportMatchesSpec)) reportMatchesCard

/-- THE TIED CARD OF 'hindsightlaw25.ReportGlobs'. -/
def reportGlobsCard : Claim7 := { stood := { row := reportGlobsRow, standIns := [], harness := (true, "8c5d3aa8dbd818472649a2900345fc6f0e9d7e9670c146971af6d8fa8e83032c"), looks := false }, kinds := [], alts := [], laidByText := true, laidKinds := [.data, .pinned], laidTests := true, laidLooks := .later }
def ReportGlobsCardSaid : Prop := Claim7.holds Tryd.pinned (.plain (OpenSpec.ofChange reportGlobsSpec)) reportGlobsCard

/-- THE SECOND FORM's CARD OF 'hindsightlaw25.ReportMatches'. -/
def reportMatchesUptoCard : Claim7 := { stood := { row := reportMatchesUptoRow, standIns := [], harness := (true, "8c5d3aa8dbd818472649a2900345fc6f0e9d7e9670c146971af6d8fa8e83032c"), looks := false }, kinds := [], alts := [], laidByText := true, laidKinds := [.data, .pinned], laidTests := true, laidLooks := .later }
def ReportMatchesUptoCardSaid : Prop := Claim7.holds Tryd.pinned (.plain (OpenSpec.upto reportMatchesSpec)) reportMatchesUptoCard

/-- THE SECOND FORM's CARD OF 'hindsightlaw25.ReportGlobs'. -/
def reportGlobsUptoCard : Claim7 := { stood := { row := reportGlobsUptoRow, standIns := [], harness := (true, "8c5d3aa8dbd818472649a2900345fc6f0e9d7e9670c146971af6d8fa8e83032c"), looks := false }, kinds := [], alts := [], laidByText := true, laidKinds := [.data, .pinned], laidTests := true, laidLooks := .later }
def ReportGlobsUptoCardSaid : Prop := Claim7.holds Tryd.pinned (.plain (OpenSpec.upto reportGlobsSpec)) reportGlobsUptoCard
end Rows
end Go.Proofs.YtnengkdddckjaaaDoor
