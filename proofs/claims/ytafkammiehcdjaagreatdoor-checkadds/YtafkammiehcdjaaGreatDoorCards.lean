/-
  DERIVED. GIVEN WITH THE SEED: THE CARDS: each row of YtafkammiehcdjaaGreatDoorRows.lean that lists a variable, with what it lists TIED to the program's text (the seventh form; the later family's looks); each row that meets fmt, with fmt's text TOLD by the authors' own Lean function (tested against real Go, not proved from fmt's source: count such statements apart). THE CARD IS WHAT COUNTS. Prove the row's statement (the work); the ties are given (YtafkammiehcdjaaGreatDoorTie.lean); close each card by the builder's one call (the guide's Derived/Test/ToyasCard.lean, 'card_holds'). Laid BY PROGRAM, IN A SANDBOX (cutbox-door.mjs). By AI agents, Wed Nov 11 2026. No macro, syntax, notation, axiom, sorry.
-/
import Derived.Test.YtafkammiehcdjaaGreatDoorRows
import GoSem.ClaimSeven
namespace Go.Proofs.YtafkammiehcdjaaGreatDoor
namespace Rows

/-- THE TIED CARD OF 'hindsightlaw16.CheckEnds'. -/
def checkEndsCard : Claim7 := { stood := { row := checkEndsRow, standIns := [], harness := (true, "604e405c70d4444298d4ce6870f55a599da785183a11efd54f436cec36a184fc"), looks := false }, kinds := [], alts := [], laidByText := true, laidKinds := [.data, .data], laidTests := true, laidLooks := .later }
def CheckEndsCardSaid : Prop := Claim7.holds Tryz.pinned (.plain (OpenSpec.ofChange checkEndsSpec)) checkEndsCard

/-- THE TIED CARD OF 'hindsightlaw16.CheckNames'. -/
def checkNamesCard : Claim7 := { stood := { row := checkNamesRow, standIns := [], harness := (true, "604e405c70d4444298d4ce6870f55a599da785183a11efd54f436cec36a184fc"), looks := false }, kinds := [], alts := [], laidByText := true, laidKinds := [.data, .data], laidTests := true, laidLooks := .later }
def CheckNamesCardSaid : Prop := Claim7.holds Tryz.pinned (.plain (OpenSpec.ofChange checkNamesSpec)) checkNamesCard

/-- THE TIED CARD OF 'hindsightlaw16.CheckSafe'. -/
def checkSafeCard : Claim7 := { stood := { row := checkSafeRow, standIns := [], harness := (true, "604e405c70d4444298d4ce6870f55a599da785183a11efd54f436cec36a184fc"), looks := false }, kinds := [], alts := [], laidByText := true, laidKinds := [.data, .data], laidTests := true, laidLooks := .later }
def CheckSafeCardSaid : Prop := Claim7.holds Tryz.pinned (.plain (OpenSpec.ofChange checkSafeSpec)) checkSafeCard

/-- THE TIED CARD OF 'hindsightlaw16.CheckRuns'. -/
def checkRunsCard : Claim7 := { stood := { row := checkRunsRow, standIns := [], harness := (true, "604e405c70d4444298d4ce6870f55a599da785183a11efd54f436cec36a184fc"), looks := false }, kinds := [], alts := [], laidByText := true, laidKinds := [.data, .data], laidTests := true, laidLooks := .later }
def CheckRunsCardSaid : Prop := Claim7.holds Tryz.pinned (.plain (OpenSpec.ofChange checkRunsSpec)) checkRunsCard

/-- THE TIED CARD OF 'hindsightlaw16.CheckAdds'. -/
def checkAddsCard : Claim7 := { stood := { row := checkAddsRow, standIns := [], harness := (true, "604e405c70d4444298d4ce6870f55a599da785183a11efd54f436cec36a184fc"), looks := false }, kinds := [], alts := [], laidByText := true, laidKinds := [.data, .data], laidTests := true, laidLooks := .later }
def CheckAddsCardSaid : Prop := Claim7.holds Tryz.pinned (.plain (OpenSpec.ofChange checkAddsSpec)) checkAddsCard

/-- THE SECOND FORM's CARD OF 'hindsightlaw16.CheckEnds'. -/
def checkEndsUptoCard : Claim7 := { stood := { row := checkEndsUptoRow, standIns := [], harness := (true, "604e405c70d4444298d4ce6870f55a599da785183a11efd54f436cec36a184fc"), looks := false }, kinds := [], alts := [], laidByText := true, laidKinds := [.data, .data], laidTests := true, laidLooks := .later }
def CheckEndsUptoCardSaid : Prop := Claim7.holds Tryz.pinned (.plain (OpenSpec.upto checkEndsSpec)) checkEndsUptoCard

/-- THE SECOND FORM's CARD OF 'hindsightlaw16.CheckNames'. -/
def checkNamesUptoCard : Claim7 := { stood := { row := checkNamesUptoRow, standIns := [], harness := (true, "604e405c70d4444298d4ce6870f55a599da785183a11efd54f436cec36a184fc"), looks := false }, kinds := [], alts := [], laidByText := true, laidKinds := [.data, .data], laidTests := true, laidLooks := .later }
def CheckNamesUptoCardSaid : Prop := Claim7.holds Tryz.pinned (.plain (OpenSpec.upto checkNamesSpec)) checkNamesUptoCard

/-- THE SECOND FORM's CARD OF 'hindsightlaw16.CheckSafe'. -/
def checkSafeUptoCard : Claim7 := { stood := { row := checkSafeUptoRow, standIns := [], harness := (true, "604e405c70d4444298d4ce6870f55a599da785183a11efd54f436cec36a184fc"), looks := false }, kinds := [], alts := [], laidByText := true, laidKinds := [.data, .data], laidTests := true, laidLooks := .later }
def CheckSafeUptoCardSaid : Prop := Claim7.holds Tryz.pinned (.plain (OpenSpec.upto checkSafeSpec)) checkSafeUptoCard

/-- THE SECOND FORM's CARD OF 'hindsightlaw16.CheckRuns'. -/
def checkRunsUptoCard : Claim7 := { stood := { row := checkRunsUptoRow, standIns := [], harness := (true, "604e405c70d4444298d4ce6870f55a599da785183a11efd54f436cec36a184fc"), looks := false }, kinds := [], alts := [], laidByText := true, laidKinds := [.data, .data], laidTests := true, laidLooks := .later }
def CheckRunsUptoCardSaid : Prop := Claim7.holds Tryz.pinned (.plain (OpenSpec.upto checkRunsSpec)) checkRunsUptoCard

/-- THE SECOND FORM's CARD OF 'hindsightlaw16.CheckAdds'. -/
def checkAddsUptoCard : Claim7 := { stood := { row := checkAddsUptoRow, standIns := [], harness := (true, "604e405c70d4444298d4ce6870f55a599da785183a11efd54f436cec36a184fc"), looks := false }, kinds := [], alts := [], laidByText := true, laidKinds := [.data, .data], laidTests := true, laidLooks := .later }
def CheckAddsUptoCardSaid : Prop := Claim7.holds Tryz.pinned (.plain (OpenSpec.upto checkAddsSpec)) checkAddsUptoCard
end Rows
end Go.Proofs.YtafkammiehcdjaaGreatDoor
