/-
  DERIVED. GIVEN WITH THE SEED: THE CARDS: each row of YtdppbaipmmcjbaaDoorRows.lean that lists a variable, with what it lists TIED to the program's text (the seventh form; the later family's looks); each row that meets fmt, with fmt's text TOLD by the authors' own Lean function (tested against real Go, not proved from fmt's source: count such statements apart). THE CARD IS WHAT COUNTS. Prove the row's statement (the work); the ties are given (YtdppbaipmmcjbaaDoorTie.lean); close each card by the builder's one call (the guide's Derived/Test/ToyasCard.lean, 'card_holds'). Laid BY PROGRAM, IN A SANDBOX (cutbox-door.mjs). By AI agents, Wed Nov 11 2026. No macro, syntax, notation, axiom, sorry.
-/
import Derived.Test.YtdppbaipmmcjbaaDoorRows
import GoSem.ClaimSeven
namespace Go.Proofs.YtdppbaipmmcjbaaDoor
namespace Rows

/-- THE TIED CARD OF 'hindsightlaw08.StreamEncodes'. -/
def streamEncodesCard : Claim7 := { stood := { row := streamEncodesRow, standIns := [], harness := (true, "e464bb8d4dc08dcc4006c116b1ed884c519a02b7b53f0be061ca3c207feea3d8"), looks := false }, kinds := [], alts := [], laidByText := true, laidKinds := [.data], laidTests := true, laidLooks := .later }
def StreamEncodesCardSaid : Prop := Claim7.holds Tryd.pinned (.plain (OpenSpec.ofChange streamEncodesSpec)) streamEncodesCard

/-- THE TIED CARD OF 'hindsightlaw08.StreamDecodes'. -/
def streamDecodesCard : Claim7 := { stood := { row := streamDecodesRow, standIns := [], harness := (true, "e464bb8d4dc08dcc4006c116b1ed884c519a02b7b53f0be061ca3c207feea3d8"), looks := false }, kinds := [], alts := [], laidByText := true, laidKinds := [.data], laidTests := true, laidLooks := .later }
def StreamDecodesCardSaid : Prop := Claim7.holds Tryd.pinned (.plain (OpenSpec.ofChange streamDecodesSpec)) streamDecodesCard

/-- THE TIED CARD OF 'hindsightlaw08.StreamTwoWay'. -/
def streamTwoWayCard : Claim7 := { stood := { row := streamTwoWayRow, standIns := [], harness := (true, "e464bb8d4dc08dcc4006c116b1ed884c519a02b7b53f0be061ca3c207feea3d8"), looks := false }, kinds := [], alts := [], laidByText := true, laidKinds := [.data], laidTests := true, laidLooks := .later }
def StreamTwoWayCardSaid : Prop := Claim7.holds Tryd.pinned (.plain (OpenSpec.ofChange streamTwoWaySpec)) streamTwoWayCard

/-- THE TIED CARD OF 'hindsightlaw08.StreamBack'. -/
def streamBackCard : Claim7 := { stood := { row := streamBackRow, standIns := [], harness := (true, "e464bb8d4dc08dcc4006c116b1ed884c519a02b7b53f0be061ca3c207feea3d8"), looks := false }, kinds := [], alts := [], laidByText := true, laidKinds := [.data], laidTests := true, laidLooks := .later }
def StreamBackCardSaid : Prop := Claim7.holds Tryd.pinned (.plain (OpenSpec.ofChange streamBackSpec)) streamBackCard

/-- THE TIED CARD OF 'hindsightlaw08.StreamOwn'. -/
def streamOwnCard : Claim7 := { stood := { row := streamOwnRow, standIns := [], harness := (true, "e464bb8d4dc08dcc4006c116b1ed884c519a02b7b53f0be061ca3c207feea3d8"), looks := false }, kinds := [], alts := [], laidByText := true, laidKinds := [.data], laidTests := true, laidLooks := .later }
def StreamOwnCardSaid : Prop := Claim7.holds Tryd.pinned (.plain (OpenSpec.ofChange streamOwnSpec)) streamOwnCard

/-- THE TIED CARD OF 'hindsightlaw08.StreamWrites'. -/
def streamWritesCard : Claim7 := { stood := { row := streamWritesRow, standIns := [], harness := (true, "e464bb8d4dc08dcc4006c116b1ed884c519a02b7b53f0be061ca3c207feea3d8"), looks := false }, kinds := [], alts := [], laidByText := true, laidKinds := [.data], laidTests := true, laidLooks := .later }
def StreamWritesCardSaid : Prop := Claim7.holds Tryd.pinned (.plain (OpenSpec.ofChange streamWritesSpec)) streamWritesCard

/-- THE SECOND FORM's CARD OF 'hindsightlaw08.StreamEncodes'. -/
def streamEncodesUptoCard : Claim7 := { stood := { row := streamEncodesUptoRow, standIns := [], harness := (true, "e464bb8d4dc08dcc4006c116b1ed884c519a02b7b53f0be061ca3c207feea3d8"), looks := false }, kinds := [], alts := [], laidByText := true, laidKinds := [.data], laidTests := true, laidLooks := .later }
def StreamEncodesUptoCardSaid : Prop := Claim7.holds Tryd.pinned (.plain (OpenSpec.upto streamEncodesSpec)) streamEncodesUptoCard

/-- THE SECOND FORM's CARD OF 'hindsightlaw08.StreamDecodes'. -/
def streamDecodesUptoCard : Claim7 := { stood := { row := streamDecodesUptoRow, standIns := [], harness := (true, "e464bb8d4dc08dcc4006c116b1ed884c519a02b7b53f0be061ca3c207feea3d8"), looks := false }, kinds := [], alts := [], laidByText := true, laidKinds := [.data], laidTests := true, laidLooks := .later }
def StreamDecodesUptoCardSaid : Prop := Claim7.holds Tryd.pinned (.plain (OpenSpec.upto streamDecodesSpec)) streamDecodesUptoCard

/-- THE SECOND FORM's CARD OF 'hindsightlaw08.StreamTwoWay'. -/
def streamTwoWayUptoCard : Claim7 := { stood := { row := streamTwoWayUptoRow, standIns := [], harness := (true, "e464bb8d4dc08dcc4006c116b1ed884c519a02b7b53f0be061ca3c207feea3d8"), looks := false }, kinds := [], alts := [], laidByText := true, laidKinds := [.data], laidTests := true, laidLooks := .later }
def StreamTwoWayUptoCardSaid : Prop := Claim7.holds Tryd.pinned (.plain (OpenSpec.upto streamTwoWaySpec)) streamTwoWayUptoCard

/-- THE SECOND FORM's CARD OF 'hindsightlaw08.StreamBack'. -/
def streamBackUptoCard : Claim7 := { stood := { row := streamBackUptoRow, standIns := [], harness := (true, "e464bb8d4dc08dcc4006c116b1ed884c519a02b7b53f0be061ca3c207feea3d8"), looks := false }, kinds := [], alts := [], laidByText := true, laidKinds := [.data], laidTests := true, laidLooks := .later }
def StreamBackUptoCardSaid : Prop := Claim7.holds Tryd.pinned (.plain (OpenSpec.upto streamBackSpec)) streamBackUptoCard

/-- THE SECOND FORM's CARD OF 'hindsightlaw08.StreamOwn'. -/
def streamOwnUptoCard : Claim7 := { stood := { row := streamOwnUptoRow, standIns := [], harness := (true, "e464bb8d4dc08dcc4006c116b1ed884c519a02b7b53f0be061ca3c207feea3d8"), looks := false }, kinds := [], alts := [], laidByText := true, laidKinds := [.data], laidTests := true, laidLooks := .later }
def StreamOwnUptoCardSaid : Prop := Claim7.holds Tryd.pinned (.plain (OpenSpec.upto streamOwnSpec)) streamOwnUptoCard

/-- THE SECOND FORM's CARD OF 'hindsightlaw08.StreamWrites'. -/
def streamWritesUptoCard : Claim7 := { stood := { row := streamWritesUptoRow, standIns := [], harness := (true, "e464bb8d4dc08dcc4006c116b1ed884c519a02b7b53f0be061ca3c207feea3d8"), looks := false }, kinds := [], alts := [], laidByText := true, laidKinds := [.data], laidTests := true, laidLooks := .later }
def StreamWritesUptoCardSaid : Prop := Claim7.holds Tryd.pinned (.plain (OpenSpec.upto streamWritesSpec)) streamWritesUptoCard
end Rows
end Go.Proofs.YtdppbaipmmcjbaaDoor
