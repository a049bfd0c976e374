/-
  DERIVED. GIVEN WITH THE SEED: THE CARDS: each row of YtgecdnmgifcghaaDoorRows.lean that lists a variable, with what it lists TIED to the program's text (the seventh form; the later family's looks); each row that meets fmt, with fmt's text TOLD by the authors' own Lean function (tested against real Go, not proved from fmt's source: count such statements apart). THE CARD IS WHAT COUNTS. Prove the row's statement (the work); the ties are given (YtgecdnmgifcghaaDoorTie.lean); close each card by the builder's one call (the guide's Derived/Test/ToyasCard.lean, 'card_holds'). Laid BY PROGRAM, IN A SANDBOX (cutbox-door.mjs). By AI agents, Wed Nov 11 2026. No macro, syntax, notation, axiom, sorry.
-/
import Derived.Test.YtgecdnmgifcghaaDoorRows
import GoSem.ClaimSeven
namespace Go.Proofs.YtgecdnmgifcghaaDoor
namespace Rows

/-- THE TIED CARD OF 'hindsightlaw07.DeltaShort'. -/
def deltaShortCard : Claim7 := { stood := { row := deltaShortRow, standIns := [], harness := (true, "1ca758abf84bdfff396f0aeb208f985872697731df9a0a9d8f84a07f3b03f98e"), looks := false }, kinds := [], alts := [], laidByText := true, laidKinds := [.data], laidTests := true, laidLooks := .later }
def DeltaShortCardSaid : Prop := Claim7.holds Tryd.pinned (.plain (OpenSpec.ofChange deltaShortSpec)) deltaShortCard

/-- THE TIED CARD OF 'hindsightlaw07.DeltaPuts'. -/
def deltaPutsCard : Claim7 := { stood := { row := deltaPutsRow, standIns := [], harness := (true, "1ca758abf84bdfff396f0aeb208f985872697731df9a0a9d8f84a07f3b03f98e"), looks := false }, kinds := [], alts := [], laidByText := true, laidKinds := [.data], laidTests := true, laidLooks := .later }
def DeltaPutsCardSaid : Prop := Claim7.holds Tryd.pinned (.plain (OpenSpec.ofChange deltaPutsSpec)) deltaPutsCard

/-- THE TIED CARD OF 'hindsightlaw07.DeltaGets'. -/
def deltaGetsCard : Claim7 := { stood := { row := deltaGetsRow, standIns := [], harness := (true, "1ca758abf84bdfff396f0aeb208f985872697731df9a0a9d8f84a07f3b03f98e"), looks := false }, kinds := [], alts := [], laidByText := true, laidKinds := [.data], laidTests := true, laidLooks := .later }
def DeltaGetsCardSaid : Prop := Claim7.holds Tryd.pinned (.plain (OpenSpec.ofChange deltaGetsSpec)) deltaGetsCard

/-- THE TIED CARD OF 'hindsightlaw07.DeltaTwoWay'. -/
def deltaTwoWayCard : Claim7 := { stood := { row := deltaTwoWayRow, standIns := [], harness := (true, "1ca758abf84bdfff396f0aeb208f985872697731df9a0a9d8f84a07f3b03f98e"), looks := false }, kinds := [], alts := [], laidByText := true, laidKinds := [.data], laidTests := true, laidLooks := .later }
def DeltaTwoWayCardSaid : Prop := Claim7.holds Tryd.pinned (.plain (OpenSpec.ofChange deltaTwoWaySpec)) deltaTwoWayCard

/-- THE TIED CARD OF 'hindsightlaw07.DeltaKept'. -/
def deltaKeptCard : Claim7 := { stood := { row := deltaKeptRow, standIns := [], harness := (true, "1ca758abf84bdfff396f0aeb208f985872697731df9a0a9d8f84a07f3b03f98e"), looks := false }, kinds := [], alts := [], laidByText := true, laidKinds := [.data], laidTests := true, laidLooks := .later }
def DeltaKeptCardSaid : Prop := Claim7.holds Tryd.pinned (.plain (OpenSpec.ofChange deltaKeptSpec)) deltaKeptCard

/-- THE SECOND FORM's CARD OF 'hindsightlaw07.DeltaShort'. -/
def deltaShortUptoCard : Claim7 := { stood := { row := deltaShortUptoRow, standIns := [], harness := (true, "1ca758abf84bdfff396f0aeb208f985872697731df9a0a9d8f84a07f3b03f98e"), looks := false }, kinds := [], alts := [], laidByText := true, laidKinds := [.data], laidTests := true, laidLooks := .later }
def DeltaShortUptoCardSaid : Prop := Claim7.holds Tryd.pinned (.plain (OpenSpec.upto deltaShortSpec)) deltaShortUptoCard

/-- THE SECOND FORM's CARD OF 'hindsightlaw07.DeltaPuts'. -/
def deltaPutsUptoCard : Claim7 := { stood := { row := deltaPutsUptoRow, standIns := [], harness := (true, "1ca758abf84bdfff396f0aeb208f985872697731df9a0a9d8f84a07f3b03f98e"), looks := false }, kinds := [], alts := [], laidByText := true, laidKinds := [.data], laidTests := true, laidLooks := .later }
def DeltaPutsUptoCardSaid : Prop := Claim7.holds Tryd.pinned (.plain (OpenSpec.upto deltaPutsSpec)) deltaPutsUptoCard

/-- THE SECOND FORM's CARD OF 'hindsightlaw07.DeltaGets'. -/
def deltaGetsUptoCard : Claim7 := { stood := { row := deltaGetsUptoRow, standIns := [], harness := (true, "1ca758abf84bdfff396f0aeb208f985872697731df9a0a9d8f84a07f3b03f98e"), looks := false }, kinds := [], alts := [], laidByText := true, laidKinds := [.data], laidTests := true, laidLooks := .later }
def DeltaGetsUptoCardSaid : Prop := Claim7.holds Tryd.pinned (.plain (OpenSpec.upto deltaGetsSpec)) deltaGetsUptoCard

/-- THE SECOND FORM's CARD OF 'hindsightlaw07.DeltaTwoWay'. -/
def deltaTwoWayUptoCard : Claim7 := { stood := { row := deltaTwoWayUptoRow, standIns := [], harness := (true, "1ca758abf84bdfff396f0aeb208f985872697731df9a0a9d8f84a07f3b03f98e"), looks := false }, kinds := [], alts := [], laidByText := true, laidKinds := [.data], laidTests := true, laidLooks := .later }
def DeltaTwoWayUptoCardSaid : Prop := Claim7.holds Tryd.pinned (.plain (OpenSpec.upto deltaTwoWaySpec)) deltaTwoWayUptoCard

/-- THE SECOND FORM's CARD OF 'hindsightlaw07.DeltaKept'. -/
def deltaKeptUptoCard : Claim7 := { stood := { row := deltaKeptUptoRow, standIns := [], harness := (true, "1ca758abf84bdfff396f0aeb208f985872697731df9a0a9d8f84a07f3b03f98e"), looks := false }, kinds := [], alts := [], laidByText := true, laidKinds := [.data], laidTests := true, laidLooks := .later }
def DeltaKeptUptoCardSaid : Prop := Claim7.holds Tryd.pinned (.plain (OpenSpec.upto deltaKeptSpec)) deltaKeptUptoCard
end Rows
end Go.Proofs.YtgecdnmgifcghaaDoor
