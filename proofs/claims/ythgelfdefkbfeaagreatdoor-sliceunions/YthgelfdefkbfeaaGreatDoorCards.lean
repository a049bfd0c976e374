/-
  DERIVED. GIVEN WITH THE SEED: THE CARDS: each row of YthgelfdefkbfeaaGreatDoorRows.lean that lists a variable, with what it lists TIED to the program's text (the seventh form; the later family's looks); each row that meets fmt, with fmt's text TOLD by the authors' own Lean function (tested against real Go, not proved from fmt's source: count such statements apart). THE CARD IS WHAT COUNTS. Prove the row's statement (the work); the ties are given (YthgelfdefkbfeaaGreatDoorTie.lean); close each card by the builder's one call (the guide's Derived/Test/ToyasCard.lean, 'card_holds'). Laid BY PROGRAM, IN A SANDBOX (cutbox-door.mjs). By AI agents, Wed Nov 11 2026. No macro, syntax, notation, axiom, sorry.
-/
import Derived.Test.YthgelfdefkbfeaaGreatDoorRows
import GoSem.ClaimSeven
namespace Go.Proofs.YthgelfdefkbfeaaGreatDoor
namespace Rows

/-- THE TIED CARD OF 'hindsightlaw22.SliceUnions'. -/
def sliceUnionsCard : Claim7 := { stood := { row := sliceUnionsRow, standIns := [], harness := (true, "89039fe1579b6b09853974814bcd80f5a1a23e09f2ccb5f48253988637e97e56"), looks := false }, kinds := [], alts := [], laidByText := true, laidKinds := [.data, .data], laidTests := true, laidLooks := .later }
def SliceUnionsCardSaid : Prop := Claim7.holds Tryz.pinned (.plain (OpenSpec.ofChange sliceUnionsSpec)) sliceUnionsCard

/-- THE TIED CARD OF 'hindsightlaw22.SliceOnlys'. -/
def sliceOnlysCard : Claim7 := { stood := { row := sliceOnlysRow, standIns := [], harness := (true, "89039fe1579b6b09853974814bcd80f5a1a23e09f2ccb5f48253988637e97e56"), looks := false }, kinds := [], alts := [], laidByText := true, laidKinds := [.data, .data], laidTests := true, laidLooks := .later }
def SliceOnlysCardSaid : Prop := Claim7.holds Tryz.pinned (.plain (OpenSpec.ofChange sliceOnlysSpec)) sliceOnlysCard

/-- THE TIED CARD OF 'hindsightlaw22.SliceCloses'. -/
def sliceClosesCard : Claim7 := { stood := { row := sliceClosesRow, standIns := [], harness := (true, "89039fe1579b6b09853974814bcd80f5a1a23e09f2ccb5f48253988637e97e56"), looks := false }, kinds := [], alts := [], laidByText := true, laidKinds := [.data, .data], laidTests := true, laidLooks := .later }
def SliceClosesCardSaid : Prop := Claim7.holds Tryz.pinned (.plain (OpenSpec.ofChange sliceClosesSpec)) sliceClosesCard

/-- THE SECOND FORM's CARD OF 'hindsightlaw22.SliceUnions'. -/
def sliceUnionsUptoCard : Claim7 := { stood := { row := sliceUnionsUptoRow, standIns := [], harness := (true, "89039fe1579b6b09853974814bcd80f5a1a23e09f2ccb5f48253988637e97e56"), looks := false }, kinds := [], alts := [], laidByText := true, laidKinds := [.data, .data], laidTests := true, laidLooks := .later }
def SliceUnionsUptoCardSaid : Prop := Claim7.holds Tryz.pinned (.plain (OpenSpec.upto sliceUnionsSpec)) sliceUnionsUptoCard

/-- THE SECOND FORM's CARD OF 'hindsightlaw22.SliceOnlys'. -/
def sliceOnlysUptoCard : Claim7 := { stood := { row := sliceOnlysUptoRow, standIns := [], harness := (true, "89039fe1579b6b09853974814bcd80f5a1a23e09f2ccb5f48253988637e97e56"), looks := false }, kinds := [], alts := [], laidByText := true, laidKinds := [.data, .data], laidTests := true, laidLooks := .later }
def SliceOnlysUptoCardSaid : Prop := Claim7.holds Tryz.pinned (.plain (OpenSpec.upto sliceOnlysSpec)) sliceOnlysUptoCard

/-- THE SECOND FORM's CARD OF 'hindsightlaw22.SliceCloses'. -/
def sliceClosesUptoCard : Claim7 := { stood := { row := sliceClosesUptoRow, standIns := [], harness := (true, "89039fe1579b6b09853974814bcd80f5a1a23e09f2ccb5f48253988637e97e56"), looks := false }, kinds := [], alts := [], laidByText := true, laidKinds := [.data, .data], laidTests := true, laidLooks := .later }
def SliceClosesUptoCardSaid : Prop := Claim7.holds Tryz.pinned (.plain (OpenSpec.upto sliceClosesSpec)) sliceClosesUptoCard
end Rows
end Go.Proofs.YthgelfdefkbfeaaGreatDoor
