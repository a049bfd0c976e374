/-
  DERIVED. GIVEN WITH THE SEED: THE CARDS: each row of YtafkammiehcdjaaDoorRows.lean that lists a variable, with what it lists TIED to the program's text (the seventh form; the later family's looks); each row that meets fmt, with fmt's text TOLD by the authors' own Lean function (tested against real Go, not proved from fmt's source: count such statements apart). THE CARD IS WHAT COUNTS. Prove the row's statement (the work); the ties are given (YtafkammiehcdjaaDoorTie.lean); close each card by the builder's one call (the guide's Derived/Test/ToyasCard.lean, 'card_holds'). Laid BY PROGRAM, IN A SANDBOX (cutbox-door.mjs). By AI agents, Wed Nov 11 2026. No macro, syntax, notation, axiom, sorry.
-/
import Derived.Test.YtafkammiehcdjaaDoorRows
import GoSem.ClaimSeven
namespace Go.Proofs.YtafkammiehcdjaaDoor
namespace Rows

/-- THE TIED CARD OF 'hindsightlaw16.CheckWords'. -/
def checkWordsCard : Claim7 := { stood := { row := checkWordsRow, standIns := [], harness := (true, "b7b140b911e5cd3d9bf0a1999fbffa0a51f606800e163a8bd3ae8037a5abfd6d"), looks := false }, kinds := [], alts := [], laidByText := true, laidKinds := [.data], laidTests := true, laidLooks := .later }
def CheckWordsCardSaid : Prop := Claim7.holds Tryd.pinned (.plain (OpenSpec.ofChange checkWordsSpec)) checkWordsCard

/-- THE SECOND FORM's CARD OF 'hindsightlaw16.CheckWords'. -/
def checkWordsUptoCard : Claim7 := { stood := { row := checkWordsUptoRow, standIns := [], harness := (true, "b7b140b911e5cd3d9bf0a1999fbffa0a51f606800e163a8bd3ae8037a5abfd6d"), looks := false }, kinds := [], alts := [], laidByText := true, laidKinds := [.data], laidTests := true, laidLooks := .later }
def CheckWordsUptoCardSaid : Prop := Claim7.holds Tryd.pinned (.plain (OpenSpec.upto checkWordsSpec)) checkWordsUptoCard
end Rows
end Go.Proofs.YtafkammiehcdjaaDoor
