/-
  NARROWER THAN 'FOR EVERY INPUT', by the rows' own cells (each row's printed sentence says how): CheckWords: laid.
  DERIVED. THE GIVEN ROWS OF THIS SEAT. 1 by the template 'for every input the law returns true; each argument reads behind the call as it read before'; 0 by the template 'total and deterministic' (their statements: YtafkammiehcdjaaDoorTotals.lean).
  GIVEN WITH THE SEED: the statements are not yours to turn. If you find one false, say at which input.
  Laid BY PROGRAM, IN A SANDBOX (cutbox-rows.mjs): the forced cells as the released guide's own fill.sh prints them over the translation 3102dd55f6cf7bf5… (all of the seat's roots in one cut). By AI agents, Wed Nov 11 2026. No macro, syntax, notation, axiom, sorry.
-/
import Derived.Test.YtafkammiehcdjaaDoorChecked
import GoSem.Claim
import GoSem.ClaimJoined
import GoSem.ClaimMapViews
import Derived.JoinedTies
import Derived.KernelRfl
namespace Go.Proofs.YtafkammiehcdjaaDoor
/- THE CELL 'sum', in the pinned program and in every row, IS THE sha256 OF THE DUMP (.gsa) THAT YtafkammiehcdjaaDoorProg.lean LOADS. Nothing in Lean hashes anything: it is a label: what it is worth is what the hold of that sum in a sandbox is worth. -/
noncomputable def Tryd.pinned : Pinned := { name := "ytafkammiehcdjaadoor", sum := "3102dd55f6cf7bf5d3cd12eafee75865cdc04ea183da9c84c4decd50be60be12", checked := Tryd.checked }
namespace Rows
def none {H : Type} : Left H := { results := [], args := [] }

/- WHAT THE LISTED PACKAGE-LEVEL VARIABLES READ AS WHEN THE CALL BEGINS. Each datum BY PROGRAM (the guide's laid-datum.mjs) off the statement by which the dump's own 'gosem.cut.vars' lays the variable. In a bare row this is a premise. The card (YtafkammiehcdjaaDoorCards.lean) ties it to the program's text. -/
def laid_hindsight_check_words {H : Type} : DataW H := .agg [.lit (.string []), .lit (.string [103, 111, 114, 111, 117, 116, 105, 110, 101, 32, 110, 111, 116, 32, 98, 101, 103, 117, 110]), .lit (.string [103, 111, 114, 111, 117, 116, 105, 110, 101, 32, 97, 108, 114, 101, 97, 100, 121, 32, 106, 111, 105, 110, 101, 100]), .lit (.string [97, 99, 107, 110, 111, 119, 108, 101, 100, 103, 101, 109, 101, 110, 116, 32, 100, 117, 101]), .lit (.string [108, 111, 99, 107, 32, 104, 101, 108, 100]), .lit (.string [108, 111, 99, 107, 32, 110, 111, 116, 32, 104, 101, 108, 100]), .lit (.string [108, 111, 99, 107, 32, 104, 101, 108, 100, 32, 116, 111, 32, 119, 114, 105, 116, 101]), .lit (.string [108, 111, 99, 107, 32, 110, 111, 116, 32, 104, 101, 108, 100, 32, 116, 111, 32, 114, 101, 97, 100]), .lit (.string [103, 111, 114, 111, 117, 116, 105, 110, 101, 32, 97, 108, 114, 101, 97, 100, 121, 32, 98, 101, 103, 117, 110]), .lit (.string [106, 111, 105, 110, 101, 100, 32, 103, 111, 114, 111, 117, 116, 105, 110, 101, 32, 110, 111, 116, 32, 98, 101, 103, 117, 110]), .lit (.string [106, 111, 105, 110, 101, 100, 32, 116, 119, 105, 99, 101]), .lit (.string [103, 111, 114, 111, 117, 116, 105, 110, 101, 32, 106, 111, 105, 110, 115, 32, 105, 116, 115, 101, 108, 102]), .lit (.string [106, 111, 105, 110, 101, 100, 32, 103, 111, 114, 111, 117, 116, 105, 110, 101, 32, 119, 97, 105, 116, 115]), .lit (.string [99, 104, 97, 110, 110, 101, 108, 32, 97, 108, 114, 101, 97, 100, 121, 32, 109, 97, 100, 101]), .lit (.string [99, 104, 97, 110, 110, 101, 108, 32, 110, 111, 116, 32, 109, 97, 100, 101]), .lit (.string [99, 104, 97, 110, 110, 101, 108, 32, 99, 108, 111, 115, 101, 100]), .lit (.string [99, 104, 97, 110, 110, 101, 108, 32, 102, 117, 108, 108]), .lit (.string [110, 111, 32, 118, 97, 108, 117, 101, 32, 116, 111, 32, 114, 101, 99, 101, 105, 118, 101]), .lit (.string [99, 104, 97, 110, 110, 101, 108, 32, 110, 111, 116, 32, 99, 108, 111, 115, 101, 100]), .lit (.string [118, 97, 108, 117, 101, 115, 32, 108, 101, 102, 116]), .lit (.string [118, 97, 108, 117, 101, 32, 119, 97, 105, 116, 115]), .lit (.string [110, 111, 32, 97, 99, 107, 110, 111, 119, 108, 101, 100, 103, 101, 109, 101, 110, 116, 32, 100, 117, 101]), .lit (.string [118, 97, 108, 117, 101, 32, 110, 111, 116, 32, 114, 101, 99, 101, 105, 118, 101, 100]), .lit (.string [99, 111, 117, 110, 116, 101, 114, 32, 111, 117, 116, 32, 111, 102, 32, 114, 97, 110, 103, 101]), .lit (.string [99, 111, 117, 110, 116, 101, 114, 32, 110, 111, 116, 32, 122, 101, 114, 111]), .lit (.string [111, 110, 99, 101, 32, 97, 108, 114, 101, 97, 100, 121, 32, 114, 97, 110]), .lit (.string [111, 110, 99, 101, 32, 110, 111, 116, 32, 114, 117, 110]), .lit (.string [109, 101, 109, 111, 114, 121, 32, 97, 108, 114, 101, 97, 100, 121, 32, 97, 108, 108, 111, 99, 97, 116, 101, 100]), .lit (.string [109, 101, 109, 111, 114, 121, 32, 110, 111, 116, 32, 97, 108, 108, 111, 99, 97, 116, 101, 100])]

/-- 'hindsightlaw16.CheckWords': WHATEVER THE INPUT: true; the input reads as it did. -/
def checkWordsSpec : ChangeSpec := { name := "checkWords", fn := fun _ => fun
  | [d] => { results := [.lit (.bool true)], args := [d] }
  | _ => none }
def checkWordsRow : OpenClaim := { program := "ytafkammiehcdjaadoor", sum := "3102dd55f6cf7bf5d3cd12eafee75865cdc04ea183da9c84c4decd50be60be12", func := "hindsight/hindsightlaw16.CheckWords", spec := "checkWords", named := ["hindsight/check.words"], apart := false, laid := [("hindsight/check.words", laid_hindsight_check_words)] }
def CheckWordsSaid : Prop := checkWordsRow.holds Tryd.pinned (OpenSpec.ofChange checkWordsSpec)

/-- ITS FALSE NEIGHBOUR: 'it returns false'. Refute it at one input. -/
def checkWordsWrong : ChangeSpec := { name := "checkWords", fn := fun _ => fun
  | [d] => { results := [.lit (.bool false)], args := [d] }
  | _ => none }
def CheckWordsWrongFalsely : Prop := checkWordsRow.holds Tryd.pinned (OpenSpec.ofChange checkWordsWrong)

/- THE SECOND FORM. 'bulk': how many values and letters a reading holds, each counted each time it is reached (what is shared counts as often as it is met; a slice's spare places count too). A statement '..UptoSaid' is the law's where the arguments, and the package variables that the reading takes, are together of bulk at most 1048576: NARROWER than '..Said'. Prove '..Said' where nothing that the law and all that it calls make is longer than what came in: it says more and counts as full. Else prove '..UptoSaid'. A law counts once. -/
mutual
def uptoBulk {H : Type} : DataW H → Nat
  | .lit (.string bytes) => bytes.length + 1
  | .lit _ => 1
  | .nil => 1
  | .ptr d => uptoBulk d + 1
  | .slice elems spare => uptoBulkAll elems + uptoBulkAll spare + 1
  | .agg parts => uptoBulkAll parts + 1
  | .iface _ d => uptoBulk d + 1
  | .map entries => uptoBulkEntries entries + 1
  | .held _ => 1
def uptoBulkAll {H : Type} : List (DataW H) → Nat
  | [] => 0
  | d :: r => uptoBulk d + uptoBulkAll r
def uptoBulkEntries {H : Type} : List (Lit × DataW H) → Nat
  | [] => 0
  | x :: r => uptoBulkEntry x + uptoBulkEntries r
def uptoBulkEntry {H : Type} : Lit × DataW H → Nat
  | (.string bytes, d) => bytes.length + uptoBulk d + 1
  | (_, d) => uptoBulk d + 1
 end
def uptoSmall : (H : Type) → List (DataW H) → Bool := fun _ ds => decide (uptoBulkAll ds ≤ 1048576)
def OpenSpec.upto (s : _root_.Go.ChangeSpec) : _root_.Go.OpenSpec := { _root_.Go.OpenSpec.ofChange s with cond := some uptoSmall }

/-- 'hindsightlaw16.CheckWords', WHERE WHAT IT READS IS OF BULK AT MOST 1048576: true; the input reads as it did. -/
def checkWordsUptoRow : OpenClaim := { program := "ytafkammiehcdjaadoor", sum := "3102dd55f6cf7bf5d3cd12eafee75865cdc04ea183da9c84c4decd50be60be12", func := "hindsight/hindsightlaw16.CheckWords", spec := "checkWords", named := ["hindsight/check.words"], apart := false, laid := [("hindsight/check.words", laid_hindsight_check_words)], narrowed := true }
def CheckWordsUptoSaid : Prop := checkWordsUptoRow.holds Tryd.pinned (OpenSpec.upto checkWordsSpec)

end Rows
end Go.Proofs.YtafkammiehcdjaaDoor
