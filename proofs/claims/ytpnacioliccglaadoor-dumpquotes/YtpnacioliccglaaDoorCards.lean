/-
  DERIVED. GIVEN WITH THE SEED: THE CARDS: each row of YtpnacioliccglaaDoorRows.lean that lists a variable, with what it lists TIED to the program's text (the seventh form; the later family's looks); each row that meets fmt, with fmt's text TOLD by the authors' own Lean function (tested against real Go, not proved from fmt's source: count such statements apart). THE CARD IS WHAT COUNTS. Prove the row's statement (the work); the ties are given (YtpnacioliccglaaDoorTie.lean); close each card by the builder's one call (the guide's Derived/Test/ToyasCard.lean, 'card_holds'). Laid BY PROGRAM, IN A SANDBOX (cutbox-door.mjs). By AI agents, Wed Nov 11 2026. No macro, syntax, notation, axiom, sorry.
-/
import Derived.Test.YtpnacioliccglaaDoorRows
import GoSem.ClaimSeven
namespace Go.Proofs.YtpnacioliccglaaDoor
namespace Rows

/-- THE TIED CARD OF 'hindsightlaw23.DumpLines'. -/
def dumpLinesCard : Claim7 := { stood := { row := dumpLinesRow, standIns := [], harness := (true, "5136d02969824f836c983ee84b6c5b6af68772232c96635d34c08a25ed736e3c"), looks := true }, kinds := [], alts := [], laidByText := true, laidKinds := [.data, .data, .data, .data, .data], laidTests := true, laidLooks := .later }
def DumpLinesCardSaid : Prop := Claim7.holds Tryd.pinned (.plain (OpenSpec.ofChange dumpLinesSpec)) dumpLinesCard

/-- THE TIED CARD OF 'hindsightlaw23.DumpQuotes'. -/
def dumpQuotesCard : Claim7 := { stood := { row := dumpQuotesRow, standIns := [], harness := (true, "5136d02969824f836c983ee84b6c5b6af68772232c96635d34c08a25ed736e3c"), looks := true }, kinds := [], alts := [], laidByText := true, laidKinds := [.data, .handle, .sentinel, .sentinel, .pinned], laidTests := true, laidLooks := .later }
def DumpQuotesCardSaid : Prop := Claim7.holds Tryd.pinned (.plain (OpenSpec.ofChange dumpQuotesSpec)) dumpQuotesCard

/-- THE TIED CARD OF 'hindsightlaw23.DumpTexts'. -/
def dumpTextsCard : Claim7 := { stood := { row := dumpTextsRow, standIns := [], harness := (true, "5136d02969824f836c983ee84b6c5b6af68772232c96635d34c08a25ed736e3c"), looks := true }, kinds := [], alts := [], laidByText := true, laidKinds := [.data, .data, .data, .data, .data], laidTests := true, laidLooks := .later }
def DumpTextsCardSaid : Prop := Claim7.holds Tryd.pinned (.plain (OpenSpec.ofChange dumpTextsSpec)) dumpTextsCard

/-- THE SECOND FORM's CARD OF 'hindsightlaw23.DumpLines'. -/
def dumpLinesUptoCard : Claim7 := { stood := { row := dumpLinesUptoRow, standIns := [], harness := (true, "5136d02969824f836c983ee84b6c5b6af68772232c96635d34c08a25ed736e3c"), looks := true }, kinds := [], alts := [], laidByText := true, laidKinds := [.data, .data, .data, .data, .data], laidTests := true, laidLooks := .later }
def DumpLinesUptoCardSaid : Prop := Claim7.holds Tryd.pinned (.plain (OpenSpec.upto dumpLinesSpec)) dumpLinesUptoCard

/-- THE SECOND FORM's CARD OF 'hindsightlaw23.DumpQuotes'. -/
def dumpQuotesUptoCard : Claim7 := { stood := { row := dumpQuotesUptoRow, standIns := [], harness := (true, "5136d02969824f836c983ee84b6c5b6af68772232c96635d34c08a25ed736e3c"), looks := true }, kinds := [], alts := [], laidByText := true, laidKinds := [.data, .handle, .sentinel, .sentinel, .pinned], laidTests := true, laidLooks := .later }
def DumpQuotesUptoCardSaid : Prop := Claim7.holds Tryd.pinned (.plain (OpenSpec.upto dumpQuotesSpec)) dumpQuotesUptoCard

/-- THE SECOND FORM's CARD OF 'hindsightlaw23.DumpTexts'. -/
def dumpTextsUptoCard : Claim7 := { stood := { row := dumpTextsUptoRow, standIns := [], harness := (true, "5136d02969824f836c983ee84b6c5b6af68772232c96635d34c08a25ed736e3c"), looks := true }, kinds := [], alts := [], laidByText := true, laidKinds := [.data, .data, .data, .data, .data], laidTests := true, laidLooks := .later }
def DumpTextsUptoCardSaid : Prop := Claim7.holds Tryd.pinned (.plain (OpenSpec.upto dumpTextsSpec)) dumpTextsUptoCard
end Rows
end Go.Proofs.YtpnacioliccglaaDoor
