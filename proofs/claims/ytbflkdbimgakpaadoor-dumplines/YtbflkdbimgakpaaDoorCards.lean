/-
  DERIVED. GIVEN WITH THE SEED: THE CARDS: each row of YtbflkdbimgakpaaDoorRows.lean that lists a variable, with what it lists TIED to the program's text (the seventh form; the later family's looks); each row that meets fmt, with fmt's text TOLD by the authors' own Lean function (tested against real Go, not proved from fmt's source: count such statements apart). THE CARD IS WHAT COUNTS. Prove the row's statement (the work); the ties are given (YtbflkdbimgakpaaDoorTie.lean); close each card by the builder's one call (the guide's Derived/Test/ToyasCard.lean, 'card_holds'). Laid BY PROGRAM, IN A SANDBOX (cutbox-door.mjs). By AI agents, Wed Nov 11 2026. No macro, syntax, notation, axiom, sorry.
-/
import Derived.Test.YtbflkdbimgakpaaDoorRows
import GoSem.ClaimSeven
namespace Go.Proofs.YtbflkdbimgakpaaDoor
namespace Rows

/-- THE TIED CARD OF 'hindsightlaw23.DumpLines'. -/
def dumpLinesCard : Claim7 := { stood := { row := dumpLinesRow, standIns := [], harness := (true, "051ce95f7e83976d6834fe628a48d77d07e0134963481a85cf8069589a0c5252"), looks := true }, kinds := [], alts := [], laidByText := true, laidKinds := [.data, .data, .data, .data, .data], laidTests := true, laidLooks := .later }
def DumpLinesCardSaid : Prop := Claim7.holds Tryd.pinned (.plain (OpenSpec.ofChange dumpLinesSpec)) dumpLinesCard

/-- THE TIED CARD OF 'hindsightlaw23.DumpTexts'. -/
def dumpTextsCard : Claim7 := { stood := { row := dumpTextsRow, standIns := [], harness := (true, "051ce95f7e83976d6834fe628a48d77d07e0134963481a85cf8069589a0c5252"), looks := true }, kinds := [], alts := [], laidByText := true, laidKinds := [.data, .data, .data, .data, .data], laidTests := true, laidLooks := .later }
def DumpTextsCardSaid : Prop := Claim7.holds Tryd.pinned (.plain (OpenSpec.ofChange dumpTextsSpec)) dumpTextsCard

/-- THE TIED CARD OF 'hindsightlaw23.DumpQuotes'. -/
def dumpQuotesCard : Claim7 := { stood := { row := dumpQuotesRow, standIns := [], harness := (true, "051ce95f7e83976d6834fe628a48d77d07e0134963481a85cf8069589a0c5252"), looks := true }, kinds := [], alts := [], laidByText := true, laidKinds := [.data, .handle, .sentinel, .sentinel, .pinned], laidTests := true, laidLooks := .later }
def DumpQuotesCardSaid : Prop := Claim7.holds Tryd.pinned (.plain (OpenSpec.ofChange dumpQuotesSpec)) dumpQuotesCard

/-- THE SECOND FORM's CARD OF 'hindsightlaw23.DumpLines'. -/
def dumpLinesUptoCard : Claim7 := { stood := { row := dumpLinesUptoRow, standIns := [], harness := (true, "051ce95f7e83976d6834fe628a48d77d07e0134963481a85cf8069589a0c5252"), looks := true }, kinds := [], alts := [], laidByText := true, laidKinds := [.data, .data, .data, .data, .data], laidTests := true, laidLooks := .later }
def DumpLinesUptoCardSaid : Prop := Claim7.holds Tryd.pinned (.plain (OpenSpec.upto dumpLinesSpec)) dumpLinesUptoCard

/-- THE SECOND FORM's CARD OF 'hindsightlaw23.DumpTexts'. -/
def dumpTextsUptoCard : Claim7 := { stood := { row := dumpTextsUptoRow, standIns := [], harness := (true, "051ce95f7e83976d6834fe628a48d77d07e0134963481a85cf8069589a0c5252"), looks := true }, kinds := [], alts := [], laidByText := true, laidKinds := [.data, .data, .data, .data, .data], laidTests := true, laidLooks := .later }
def DumpTextsUptoCardSaid : Prop := Claim7.holds Tryd.pinned (.plain (OpenSpec.upto dumpTextsSpec)) dumpTextsUptoCard

/-- THE SECOND FORM's CARD OF 'hindsightlaw23.DumpQuotes'. -/
def dumpQuotesUptoCard : Claim7 := { stood := { row := dumpQuotesUptoRow, standIns := [], harness := (true, "051ce95f7e83976d6834fe628a48d77d07e0134963481a85cf8069589a0c5252"), looks := true }, kinds := [], alts := [], laidByText := true, laidKinds := [.data, .handle, .sentinel, .sentinel, .pinned], laidTests := true, laidLooks := .later }
def DumpQuotesUptoCardSaid : Prop := Claim7.holds Tryd.pinned (.plain (OpenSpec.upto dumpQuotesSpec)) dumpQuotesUptoCard
end Rows
end Go.Proofs.YtbflkdbimgakpaaDoor
