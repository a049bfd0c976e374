/-
  DERIVED. GIVEN WITH THE SEED: THE CARDS: each row of YtkjmmcpjdjjmlaaDoorRows.lean that lists a variable, with what it lists TIED to the program's text (the seventh form; the later family's looks); each row that meets fmt, with fmt's text TOLD by the authors' own Lean function (tested against real Go, not proved from fmt's source: count such statements apart). THE CARD IS WHAT COUNTS. Prove the row's statement (the work); the ties are given (YtkjmmcpjdjjmlaaDoorTie.lean); close each card by the builder's one call (the guide's Derived/Test/ToyasCard.lean, 'card_holds'). Laid BY PROGRAM, IN A SANDBOX (cutbox-door.mjs). By AI agents, Wed Nov 11 2026. No macro, syntax, notation, axiom, sorry.
-/
import Derived.Test.YtkjmmcpjdjjmlaaDoorRows
import GoSem.ClaimSeven
namespace Go.Proofs.YtkjmmcpjdjjmlaaDoor
namespace Rows

/-- THE TIED CARD OF 'hindsightlaw15.RingWindows'. -/
def ringWindowsCard : Claim7 := { stood := { row := ringWindowsRow, standIns := [], harness := (true, "2af635fc46c16e1fb7fd88fd95759d045b61ccefb2beed92872a6bd91080ac0e"), looks := false }, kinds := [], alts := [], laidByText := true, laidKinds := [.data, .data], laidTests := true, laidLooks := .later }
def RingWindowsCardSaid : Prop := Claim7.holds Tryd.pinned (.plain (OpenSpec.ofChange ringWindowsSpec)) ringWindowsCard

/-- THE SECOND FORM's CARD OF 'hindsightlaw15.RingWindows'. -/
def ringWindowsUptoCard : Claim7 := { stood := { row := ringWindowsUptoRow, standIns := [], harness := (true, "2af635fc46c16e1fb7fd88fd95759d045b61ccefb2beed92872a6bd91080ac0e"), looks := false }, kinds := [], alts := [], laidByText := true, laidKinds := [.data, .data], laidTests := true, laidLooks := .later }
def RingWindowsUptoCardSaid : Prop := Claim7.holds Tryd.pinned (.plain (OpenSpec.upto ringWindowsSpec)) ringWindowsUptoCard
end Rows
end Go.Proofs.YtkjmmcpjdjjmlaaDoor
