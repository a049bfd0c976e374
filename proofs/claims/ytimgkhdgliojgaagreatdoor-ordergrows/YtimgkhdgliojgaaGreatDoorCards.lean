/-
  DERIVED. GIVEN WITH THE SEED: THE CARDS: each row of YtimgkhdgliojgaaGreatDoorRows.lean that lists a variable, with what it lists TIED to the program's text (the seventh form; the later family's looks); each row that meets fmt, with fmt's text TOLD by the authors' own Lean function (tested against real Go, not proved from fmt's source: count such statements apart). THE CARD IS WHAT COUNTS. Prove the row's statement (the work); the ties are given (YtimgkhdgliojgaaGreatDoorTie.lean); close each card by the builder's one call (the guide's Derived/Test/ToyasCard.lean, 'card_holds'). Laid BY PROGRAM, IN A SANDBOX (cutbox-door.mjs). By AI agents, Wed Nov 11 2026. No macro, syntax, notation, axiom, sorry.
-/
import Derived.Test.YtimgkhdgliojgaaGreatDoorRows
import GoSem.ClaimSeven
namespace Go.Proofs.YtimgkhdgliojgaaGreatDoor
namespace Rows

/-- THE TIED CARD OF 'hindsightlaw18.OrderTracks'. -/
def orderTracksCard : Claim7 := { stood := { row := orderTracksRow, standIns := [], harness := (true, "d4cfa9dda348cd791f0b3966c66c0ebc028504826f6f7ce0d770f9537a93b624"), looks := true }, kinds := [], alts := [], laidByText := true, laidKinds := [.data, .data], laidTests := true, laidLooks := .later }
def OrderTracksCardSaid : Prop := Claim7.holds Tryz.pinned (.plain (OpenSpec.ofChange orderTracksSpec)) orderTracksCard

/-- THE TIED CARD OF 'hindsightlaw18.OrderMonotone'. -/
def orderMonotoneCard : Claim7 := { stood := { row := orderMonotoneRow, standIns := [], harness := (true, "d4cfa9dda348cd791f0b3966c66c0ebc028504826f6f7ce0d770f9537a93b624"), looks := true }, kinds := [], alts := [], laidByText := true, laidKinds := [.data, .data], laidTests := true, laidLooks := .later }
def OrderMonotoneCardSaid : Prop := Claim7.holds Tryz.pinned (.plain (OpenSpec.ofChange orderMonotoneSpec)) orderMonotoneCard

/-- THE TIED CARD OF 'hindsightlaw18.OrderTells'. -/
def orderTellsCard : Claim7 := { stood := { row := orderTellsRow, standIns := [], harness := (true, "d4cfa9dda348cd791f0b3966c66c0ebc028504826f6f7ce0d770f9537a93b624"), looks := true }, kinds := [], alts := [], laidByText := true, laidKinds := [.data, .data], laidTests := true, laidLooks := .later }
def OrderTellsCardSaid : Prop := Claim7.holds Tryz.pinned (.plain (OpenSpec.ofChange orderTellsSpec)) orderTellsCard

/-- THE TIED CARD OF 'hindsightlaw18.OrderGrows'. -/
def orderGrowsCard : Claim7 := { stood := { row := orderGrowsRow, standIns := [], harness := (true, "d4cfa9dda348cd791f0b3966c66c0ebc028504826f6f7ce0d770f9537a93b624"), looks := true }, kinds := [], alts := [], laidByText := true, laidKinds := [.data, .data], laidTests := true, laidLooks := .later }
def OrderGrowsCardSaid : Prop := Claim7.holds Tryz.pinned (.plain (OpenSpec.ofChange orderGrowsSpec)) orderGrowsCard

/-- THE TIED CARD OF 'hindsightlaw18.OrderIsOne'. -/
def orderIsOneCard : Claim7 := { stood := { row := orderIsOneRow, standIns := [], harness := (true, "d4cfa9dda348cd791f0b3966c66c0ebc028504826f6f7ce0d770f9537a93b624"), looks := true }, kinds := [], alts := [], laidByText := true, laidKinds := [.data, .data], laidTests := true, laidLooks := .later }
def OrderIsOneCardSaid : Prop := Claim7.holds Tryz.pinned (.plain (OpenSpec.ofChange orderIsOneSpec)) orderIsOneCard

/-- THE TIED CARD OF 'hindsightlaw18.OrderOwn'. -/
def orderOwnCard : Claim7 := { stood := { row := orderOwnRow, standIns := [], harness := (true, "d4cfa9dda348cd791f0b3966c66c0ebc028504826f6f7ce0d770f9537a93b624"), looks := true }, kinds := [], alts := [], laidByText := true, laidKinds := [.data, .data], laidTests := true, laidLooks := .later }
def OrderOwnCardSaid : Prop := Claim7.holds Tryz.pinned (.plain (OpenSpec.ofChange orderOwnSpec)) orderOwnCard

/-- THE SECOND FORM's CARD OF 'hindsightlaw18.OrderTracks'. -/
def orderTracksUptoCard : Claim7 := { stood := { row := orderTracksUptoRow, standIns := [], harness := (true, "d4cfa9dda348cd791f0b3966c66c0ebc028504826f6f7ce0d770f9537a93b624"), looks := true }, kinds := [], alts := [], laidByText := true, laidKinds := [.data, .data], laidTests := true, laidLooks := .later }
def OrderTracksUptoCardSaid : Prop := Claim7.holds Tryz.pinned (.plain (OpenSpec.upto orderTracksSpec)) orderTracksUptoCard

/-- THE SECOND FORM's CARD OF 'hindsightlaw18.OrderMonotone'. -/
def orderMonotoneUptoCard : Claim7 := { stood := { row := orderMonotoneUptoRow, standIns := [], harness := (true, "d4cfa9dda348cd791f0b3966c66c0ebc028504826f6f7ce0d770f9537a93b624"), looks := true }, kinds := [], alts := [], laidByText := true, laidKinds := [.data, .data], laidTests := true, laidLooks := .later }
def OrderMonotoneUptoCardSaid : Prop := Claim7.holds Tryz.pinned (.plain (OpenSpec.upto orderMonotoneSpec)) orderMonotoneUptoCard

/-- THE SECOND FORM's CARD OF 'hindsightlaw18.OrderTells'. -/
def orderTellsUptoCard : Claim7 := { stood := { row := orderTellsUptoRow, standIns := [], harness := (true, "d4cfa9dda348cd791f0b3966c66c0ebc028504826f6f7ce0d770f9537a93b624"), looks := true }, kinds := [], alts := [], laidByText := true, laidKinds := [.data, .data], laidTests := true, laidLooks := .later }
def OrderTellsUptoCardSaid : Prop := Claim7.holds Tryz.pinned (.plain (OpenSpec.upto orderTellsSpec)) orderTellsUptoCard

/-- THE SECOND FORM's CARD OF 'hindsightlaw18.OrderGrows'. -/
def orderGrowsUptoCard : Claim7 := { stood := { row := orderGrowsUptoRow, standIns := [], harness := (true, "d4cfa9dda348cd791f0b3966c66c0ebc028504826f6f7ce0d770f9537a93b624"), looks := true }, kinds := [], alts := [], laidByText := true, laidKinds := [.data, .data], laidTests := true, laidLooks := .later }
def OrderGrowsUptoCardSaid : Prop := Claim7.holds Tryz.pinned (.plain (OpenSpec.upto orderGrowsSpec)) orderGrowsUptoCard

/-- THE SECOND FORM's CARD OF 'hindsightlaw18.OrderIsOne'. -/
def orderIsOneUptoCard : Claim7 := { stood := { row := orderIsOneUptoRow, standIns := [], harness := (true, "d4cfa9dda348cd791f0b3966c66c0ebc028504826f6f7ce0d770f9537a93b624"), looks := true }, kinds := [], alts := [], laidByText := true, laidKinds := [.data, .data], laidTests := true, laidLooks := .later }
def OrderIsOneUptoCardSaid : Prop := Claim7.holds Tryz.pinned (.plain (OpenSpec.upto orderIsOneSpec)) orderIsOneUptoCard

/-- THE SECOND FORM's CARD OF 'hindsightlaw18.OrderOwn'. -/
def orderOwnUptoCard : Claim7 := { stood := { row := orderOwnUptoRow, standIns := [], harness := (true, "d4cfa9dda348cd791f0b3966c66c0ebc028504826f6f7ce0d770f9537a93b624"), looks := true }, kinds := [], alts := [], laidByText := true, laidKinds := [.data, .data], laidTests := true, laidLooks := .later }
def OrderOwnUptoCardSaid : Prop := Claim7.holds Tryz.pinned (.plain (OpenSpec.upto orderOwnSpec)) orderOwnUptoCard
end Rows
end Go.Proofs.YtimgkhdgliojgaaGreatDoor
