/-
  No cell of these rows narrows 'for every input' (looked for: loops, veiled, ifaces, maps, wideKeys, modest, calm, conditions, laid).
  DERIVED. THE GIVEN ROWS OF THIS SEAT. 6 by the template 'for every input the law returns true; each argument reads behind the call as it read before'; 0 by the template 'total and deterministic' (their statements: YtbcmheilgilipaaTotals.lean).
  GIVEN WITH THE SEED: the statements are not yours to turn. If you find one false, say at which input.
  Laid BY PROGRAM, IN A SANDBOX (cutbox-rows.mjs): the forced cells as the released guide's own fill.sh prints them over the translation 36461e84a3ccbe21… (all of the seat's roots in one cut). By AI agents, Wed Nov 11 2026. No macro, syntax, notation, axiom, sorry.
-/
import Derived.Test.YtbcmheilgilipaaChecked
import GoSem.Claim
import GoSem.ClaimJoined
import GoSem.ClaimMapViews
import Derived.JoinedTies
import Derived.KernelRfl
namespace Go.Proofs.Ytbcmheilgilipaa
/- THE CELL 'sum', in the pinned program and in every row, IS THE sha256 OF THE DUMP (.gsa) THAT YtbcmheilgilipaaProg.lean LOADS. Nothing in Lean hashes anything: it is a label: what it is worth is what the hold of that sum in a sandbox is worth. -/
noncomputable def Try.pinned : Pinned := { name := "ytbcmheilgilipaa", sum := "36461e84a3ccbe21ff417b1a1aa10ee675ee92a17b47ea7f9b9769c2fe4363d4", checked := Try.checked }
namespace Rows
def none {H : Type} : Left H := { results := [], args := [] }

/-- 'hindsightlaw04.StrtabCuts': WHATEVER THE INPUT: true; the input reads as it did. -/
def strtabCutsSpec : ChangeSpec := { name := "strtabCuts", fn := fun _ => fun
  | [d1, d2] => { results := [.lit (.bool true)], args := [d1, d2] }
  | _ => none }
def strtabCutsRow : OpenClaim := { program := "ytbcmheilgilipaa", sum := "36461e84a3ccbe21ff417b1a1aa10ee675ee92a17b47ea7f9b9769c2fe4363d4", func := "hindsight/hindsightlaw04.StrtabCuts", spec := "strtabCuts", unfollowed := true, recurses := true, apart := false }
def StrtabCutsSaid : Prop := strtabCutsRow.holds Try.pinned (OpenSpec.ofChange strtabCutsSpec)

/-- ITS FALSE NEIGHBOUR: 'it returns false'. Refute it at one input. -/
def strtabCutsWrong : ChangeSpec := { name := "strtabCuts", fn := fun _ => fun
  | [d1, d2] => { results := [.lit (.bool false)], args := [d1, d2] }
  | _ => none }
def StrtabCutsWrongFalsely : Prop := strtabCutsRow.holds Try.pinned (OpenSpec.ofChange strtabCutsWrong)

/-- 'hindsightlaw04.StrtabPlays': WHATEVER THE INPUT: true; the input reads as it did. -/
def strtabPlaysSpec : ChangeSpec := { name := "strtabPlays", fn := fun _ => fun
  | [d] => { results := [.lit (.bool true)], args := [d] }
  | _ => none }
def strtabPlaysRow : OpenClaim := { program := "ytbcmheilgilipaa", sum := "36461e84a3ccbe21ff417b1a1aa10ee675ee92a17b47ea7f9b9769c2fe4363d4", func := "hindsight/hindsightlaw04.StrtabPlays", spec := "strtabPlays", unfollowed := true, recurses := true, apart := false }
def StrtabPlaysSaid : Prop := strtabPlaysRow.holds Try.pinned (OpenSpec.ofChange strtabPlaysSpec)

/-- ITS FALSE NEIGHBOUR: 'it returns false'. Refute it at one input. -/
def strtabPlaysWrong : ChangeSpec := { name := "strtabPlays", fn := fun _ => fun
  | [d] => { results := [.lit (.bool false)], args := [d] }
  | _ => none }
def StrtabPlaysWrongFalsely : Prop := strtabPlaysRow.holds Try.pinned (OpenSpec.ofChange strtabPlaysWrong)

/-- 'hindsightlaw04.StrtabTwoWay': WHATEVER THE INPUT: true; the input reads as it did. -/
def strtabTwoWaySpec : ChangeSpec := { name := "strtabTwoWay", fn := fun _ => fun
  | [d1, d2, d3, d4] => { results := [.lit (.bool true)], args := [d1, d2, d3, d4] }
  | _ => none }
def strtabTwoWayRow : OpenClaim := { program := "ytbcmheilgilipaa", sum := "36461e84a3ccbe21ff417b1a1aa10ee675ee92a17b47ea7f9b9769c2fe4363d4", func := "hindsight/hindsightlaw04.StrtabTwoWay", spec := "strtabTwoWay", unfollowed := true, recurses := true, apart := false }
def StrtabTwoWaySaid : Prop := strtabTwoWayRow.holds Try.pinned (OpenSpec.ofChange strtabTwoWaySpec)

/-- ITS FALSE NEIGHBOUR: 'it returns false'. Refute it at one input. -/
def strtabTwoWayWrong : ChangeSpec := { name := "strtabTwoWay", fn := fun _ => fun
  | [d1, d2, d3, d4] => { results := [.lit (.bool false)], args := [d1, d2, d3, d4] }
  | _ => none }
def StrtabTwoWayWrongFalsely : Prop := strtabTwoWayRow.holds Try.pinned (OpenSpec.ofChange strtabTwoWayWrong)

/-- 'hindsightlaw04.StrtabKept': WHATEVER THE INPUT: true; the input reads as it did. -/
def strtabKeptSpec : ChangeSpec := { name := "strtabKept", fn := fun _ => fun
  | [d1, d2] => { results := [.lit (.bool true)], args := [d1, d2] }
  | _ => none }
def strtabKeptRow : OpenClaim := { program := "ytbcmheilgilipaa", sum := "36461e84a3ccbe21ff417b1a1aa10ee675ee92a17b47ea7f9b9769c2fe4363d4", func := "hindsight/hindsightlaw04.StrtabKept", spec := "strtabKept", unfollowed := true, recurses := true, apart := false }
def StrtabKeptSaid : Prop := strtabKeptRow.holds Try.pinned (OpenSpec.ofChange strtabKeptSpec)

/-- ITS FALSE NEIGHBOUR: 'it returns false'. Refute it at one input. -/
def strtabKeptWrong : ChangeSpec := { name := "strtabKept", fn := fun _ => fun
  | [d1, d2] => { results := [.lit (.bool false)], args := [d1, d2] }
  | _ => none }
def StrtabKeptWrongFalsely : Prop := strtabKeptRow.holds Try.pinned (OpenSpec.ofChange strtabKeptWrong)

/-- 'hindsightlaw04.StrtabDecodes': WHATEVER THE INPUT: true; the input reads as it did. -/
def strtabDecodesSpec : ChangeSpec := { name := "strtabDecodes", fn := fun _ => fun
  | [d1, d2] => { results := [.lit (.bool true)], args := [d1, d2] }
  | _ => none }
def strtabDecodesRow : OpenClaim := { program := "ytbcmheilgilipaa", sum := "36461e84a3ccbe21ff417b1a1aa10ee675ee92a17b47ea7f9b9769c2fe4363d4", func := "hindsight/hindsightlaw04.StrtabDecodes", spec := "strtabDecodes", unfollowed := true, recurses := true, apart := false }
def StrtabDecodesSaid : Prop := strtabDecodesRow.holds Try.pinned (OpenSpec.ofChange strtabDecodesSpec)

/-- ITS FALSE NEIGHBOUR: 'it returns false'. Refute it at one input. -/
def strtabDecodesWrong : ChangeSpec := { name := "strtabDecodes", fn := fun _ => fun
  | [d1, d2] => { results := [.lit (.bool false)], args := [d1, d2] }
  | _ => none }
def StrtabDecodesWrongFalsely : Prop := strtabDecodesRow.holds Try.pinned (OpenSpec.ofChange strtabDecodesWrong)

/-- 'hindsightlaw04.StrtabDense': WHATEVER THE INPUT: true; the input reads as it did. -/
def strtabDenseSpec : ChangeSpec := { name := "strtabDense", fn := fun _ => fun
  | [d1, d2] => { results := [.lit (.bool true)], args := [d1, d2] }
  | _ => none }
def strtabDenseRow : OpenClaim := { program := "ytbcmheilgilipaa", sum := "36461e84a3ccbe21ff417b1a1aa10ee675ee92a17b47ea7f9b9769c2fe4363d4", func := "hindsight/hindsightlaw04.StrtabDense", spec := "strtabDense", apart := false }
def StrtabDenseSaid : Prop := strtabDenseRow.holds Try.pinned (OpenSpec.ofChange strtabDenseSpec)

/-- ITS FALSE NEIGHBOUR: 'it returns false'. Refute it at one input. -/
def strtabDenseWrong : ChangeSpec := { name := "strtabDense", fn := fun _ => fun
  | [d1, d2] => { results := [.lit (.bool false)], args := [d1, d2] }
  | _ => none }
def StrtabDenseWrongFalsely : Prop := strtabDenseRow.holds Try.pinned (OpenSpec.ofChange strtabDenseWrong)

/- THE SECOND FORM. 'bulk': how many values and letters a reading holds, each counted each time it is reached (what is shared counts as often as it is met; a slice's spare places count too). A statement '..UptoSaid' is the law's where the arguments, and the package variables that the reading takes, are together of bulk at most 1048576: NARROWER than '..Said'. Prove '..Said' where nothing that the law and all that it calls make is longer than what came in: it says more and counts as full. Else prove '..UptoSaid'. A law counts once. -/
mutual
def uptoBulk {H : Type} : DataW H → Nat
  | .lit (.string bytes) => bytes.length + 1
  | .lit _ => 1
  | .nil => 1
  | .ptr d => uptoBulk d + 1
  | .slice elems spare => uptoBulkAll elems + uptoBulkAll spare + 1
  | .agg parts => uptoBulkAll parts + 1
  | .iface _ d => uptoBulk d + 1
  | .map entries => uptoBulkEntries entries + 1
  | .held _ => 1
def uptoBulkAll {H : Type} : List (DataW H) → Nat
  | [] => 0
  | d :: r => uptoBulk d + uptoBulkAll r
def uptoBulkEntries {H : Type} : List (Lit × DataW H) → Nat
  | [] => 0
  | x :: r => uptoBulkEntry x + uptoBulkEntries r
def uptoBulkEntry {H : Type} : Lit × DataW H → Nat
  | (.string bytes, d) => bytes.length + uptoBulk d + 1
  | (_, d) => uptoBulk d + 1
 end
def uptoSmall : (H : Type) → List (DataW H) → Bool := fun _ ds => decide (uptoBulkAll ds ≤ 1048576)
def OpenSpec.upto (s : _root_.Go.ChangeSpec) : _root_.Go.OpenSpec := { _root_.Go.OpenSpec.ofChange s with cond := some uptoSmall }

/-- 'hindsightlaw04.StrtabCuts', WHERE WHAT IT READS IS OF BULK AT MOST 1048576: true; the input reads as it did. -/
def strtabCutsUptoRow : OpenClaim := { program := "ytbcmheilgilipaa", sum := "36461e84a3ccbe21ff417b1a1aa10ee675ee92a17b47ea7f9b9769c2fe4363d4", func := "hindsight/hindsightlaw04.StrtabCuts", spec := "strtabCuts", unfollowed := true, recurses := true, apart := false, narrowed := true }
def StrtabCutsUptoSaid : Prop := strtabCutsUptoRow.holds Try.pinned (OpenSpec.upto strtabCutsSpec)

/-- 'hindsightlaw04.StrtabPlays', WHERE WHAT IT READS IS OF BULK AT MOST 1048576: true; the input reads as it did. -/
def strtabPlaysUptoRow : OpenClaim := { program := "ytbcmheilgilipaa", sum := "36461e84a3ccbe21ff417b1a1aa10ee675ee92a17b47ea7f9b9769c2fe4363d4", func := "hindsight/hindsightlaw04.StrtabPlays", spec := "strtabPlays", unfollowed := true, recurses := true, apart := false, narrowed := true }
def StrtabPlaysUptoSaid : Prop := strtabPlaysUptoRow.holds Try.pinned (OpenSpec.upto strtabPlaysSpec)

/-- 'hindsightlaw04.StrtabTwoWay', WHERE WHAT IT READS IS OF BULK AT MOST 1048576: true; the input reads as it did. -/
def strtabTwoWayUptoRow : OpenClaim := { program := "ytbcmheilgilipaa", sum := "36461e84a3ccbe21ff417b1a1aa10ee675ee92a17b47ea7f9b9769c2fe4363d4", func := "hindsight/hindsightlaw04.StrtabTwoWay", spec := "strtabTwoWay", unfollowed := true, recurses := true, apart := false, narrowed := true }
def StrtabTwoWayUptoSaid : Prop := strtabTwoWayUptoRow.holds Try.pinned (OpenSpec.upto strtabTwoWaySpec)

/-- 'hindsightlaw04.StrtabKept', WHERE WHAT IT READS IS OF BULK AT MOST 1048576: true; the input reads as it did. -/
def strtabKeptUptoRow : OpenClaim := { program := "ytbcmheilgilipaa", sum := "36461e84a3ccbe21ff417b1a1aa10ee675ee92a17b47ea7f9b9769c2fe4363d4", func := "hindsight/hindsightlaw04.StrtabKept", spec := "strtabKept", unfollowed := true, recurses := true, apart := false, narrowed := true }
def StrtabKeptUptoSaid : Prop := strtabKeptUptoRow.holds Try.pinned (OpenSpec.upto strtabKeptSpec)

/-- 'hindsightlaw04.StrtabDecodes', WHERE WHAT IT READS IS OF BULK AT MOST 1048576: true; the input reads as it did. -/
def strtabDecodesUptoRow : OpenClaim := { program := "ytbcmheilgilipaa", sum := "36461e84a3ccbe21ff417b1a1aa10ee675ee92a17b47ea7f9b9769c2fe4363d4", func := "hindsight/hindsightlaw04.StrtabDecodes", spec := "strtabDecodes", unfollowed := true, recurses := true, apart := false, narrowed := true }
def StrtabDecodesUptoSaid : Prop := strtabDecodesUptoRow.holds Try.pinned (OpenSpec.upto strtabDecodesSpec)

/-- 'hindsightlaw04.StrtabDense', WHERE WHAT IT READS IS OF BULK AT MOST 1048576: true; the input reads as it did. -/
def strtabDenseUptoRow : OpenClaim := { program := "ytbcmheilgilipaa", sum := "36461e84a3ccbe21ff417b1a1aa10ee675ee92a17b47ea7f9b9769c2fe4363d4", func := "hindsight/hindsightlaw04.StrtabDense", spec := "strtabDense", apart := false, narrowed := true }
def StrtabDenseUptoSaid : Prop := strtabDenseUptoRow.holds Try.pinned (OpenSpec.upto strtabDenseSpec)

end Rows
end Go.Proofs.Ytbcmheilgilipaa
