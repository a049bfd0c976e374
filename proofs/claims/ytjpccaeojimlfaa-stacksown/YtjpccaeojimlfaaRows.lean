/-
  No cell of these rows narrows 'for every input' (looked for: loops, veiled, ifaces, maps, wideKeys, modest, calm, conditions, laid).
  DERIVED. THE GIVEN ROWS OF THIS SEAT. 6 by the template 'for every input the law returns true; each argument reads behind the call as it read before'; 0 by the template 'total and deterministic' (their statements: YtjpccaeojimlfaaTotals.lean).
  GIVEN WITH THE SEED: the statements are not yours to turn. If you find one false, say at which input.
  Laid BY PROGRAM, IN A SANDBOX (cutbox-rows.mjs): the forced cells as the released guide's own fill.sh prints them over the translation 75d20bd92a110114… (all of the seat's roots in one cut). By AI agents, Wed Nov 11 2026. No macro, syntax, notation, axiom, sorry.
-/
import Derived.Test.YtjpccaeojimlfaaChecked
import GoSem.Claim
import GoSem.ClaimJoined
import GoSem.ClaimMapViews
import Derived.JoinedTies
import Derived.KernelRfl
namespace Go.Proofs.Ytjpccaeojimlfaa
/- THE CELL 'sum', in the pinned program and in every row, IS THE sha256 OF THE DUMP (.gsa) THAT YtjpccaeojimlfaaProg.lean LOADS. Nothing in Lean hashes anything: it is a label: what it is worth is what the hold of that sum in a sandbox is worth. -/
noncomputable def Try.pinned : Pinned := { name := "ytjpccaeojimlfaa", sum := "75d20bd92a110114e126a1a4e91dd7fb75b3a1d3471d8299c60a626d3919e0e1", checked := Try.checked }
namespace Rows
def none {H : Type} : Left H := { results := [], args := [] }

/-- 'hindsightlaw05.StacksFirst': WHATEVER THE INPUT: true; the input reads as it did. -/
def stacksFirstSpec : ChangeSpec := { name := "stacksFirst", fn := fun _ => fun
  | [d] => { results := [.lit (.bool true)], args := [d] }
  | _ => none }
def stacksFirstRow : OpenClaim := { program := "ytjpccaeojimlfaa", sum := "75d20bd92a110114e126a1a4e91dd7fb75b3a1d3471d8299c60a626d3919e0e1", func := "hindsight/hindsightlaw05.StacksFirst", spec := "stacksFirst", unfollowed := true, recurses := true, plainKeys := false, apart := false }
def StacksFirstSaid : Prop := stacksFirstRow.holds Try.pinned (OpenSpec.ofChange stacksFirstSpec)

/-- ITS FALSE NEIGHBOUR: 'it returns false'. Refute it at one input. -/
def stacksFirstWrong : ChangeSpec := { name := "stacksFirst", fn := fun _ => fun
  | [d] => { results := [.lit (.bool false)], args := [d] }
  | _ => none }
def StacksFirstWrongFalsely : Prop := stacksFirstRow.holds Try.pinned (OpenSpec.ofChange stacksFirstWrong)

/-- 'hindsightlaw05.StacksOwn': WHATEVER THE INPUT: true; the input reads as it did. -/
def stacksOwnSpec : ChangeSpec := { name := "stacksOwn", fn := fun _ => fun
  | [d1, d2] => { results := [.lit (.bool true)], args := [d1, d2] }
  | _ => none }
def stacksOwnRow : OpenClaim := { program := "ytjpccaeojimlfaa", sum := "75d20bd92a110114e126a1a4e91dd7fb75b3a1d3471d8299c60a626d3919e0e1", func := "hindsight/hindsightlaw05.StacksOwn", spec := "stacksOwn", unfollowed := true, recurses := true, plainKeys := false, apart := false }
def StacksOwnSaid : Prop := stacksOwnRow.holds Try.pinned (OpenSpec.ofChange stacksOwnSpec)

/-- ITS FALSE NEIGHBOUR: 'it returns false'. Refute it at one input. -/
def stacksOwnWrong : ChangeSpec := { name := "stacksOwn", fn := fun _ => fun
  | [d1, d2] => { results := [.lit (.bool false)], args := [d1, d2] }
  | _ => none }
def StacksOwnWrongFalsely : Prop := stacksOwnRow.holds Try.pinned (OpenSpec.ofChange stacksOwnWrong)

/-- 'hindsightlaw05.StacksTwoWay': WHATEVER THE INPUT: true; the input reads as it did. -/
def stacksTwoWaySpec : ChangeSpec := { name := "stacksTwoWay", fn := fun _ => fun
  | [d1, d2, d3] => { results := [.lit (.bool true)], args := [d1, d2, d3] }
  | _ => none }
def stacksTwoWayRow : OpenClaim := { program := "ytjpccaeojimlfaa", sum := "75d20bd92a110114e126a1a4e91dd7fb75b3a1d3471d8299c60a626d3919e0e1", func := "hindsight/hindsightlaw05.StacksTwoWay", spec := "stacksTwoWay", unfollowed := true, recurses := true, plainKeys := false, apart := false }
def StacksTwoWaySaid : Prop := stacksTwoWayRow.holds Try.pinned (OpenSpec.ofChange stacksTwoWaySpec)

/-- ITS FALSE NEIGHBOUR: 'it returns false'. Refute it at one input. -/
def stacksTwoWayWrong : ChangeSpec := { name := "stacksTwoWay", fn := fun _ => fun
  | [d1, d2, d3] => { results := [.lit (.bool false)], args := [d1, d2, d3] }
  | _ => none }
def StacksTwoWayWrongFalsely : Prop := stacksTwoWayRow.holds Try.pinned (OpenSpec.ofChange stacksTwoWayWrong)

/-- 'hindsightlaw05.StacksBack': WHATEVER THE INPUT: true; the input reads as it did. -/
def stacksBackSpec : ChangeSpec := { name := "stacksBack", fn := fun _ => fun
  | [d1, d2, d3] => { results := [.lit (.bool true)], args := [d1, d2, d3] }
  | _ => none }
def stacksBackRow : OpenClaim := { program := "ytjpccaeojimlfaa", sum := "75d20bd92a110114e126a1a4e91dd7fb75b3a1d3471d8299c60a626d3919e0e1", func := "hindsight/hindsightlaw05.StacksBack", spec := "stacksBack", unfollowed := true, recurses := true, plainKeys := false, apart := false }
def StacksBackSaid : Prop := stacksBackRow.holds Try.pinned (OpenSpec.ofChange stacksBackSpec)

/-- ITS FALSE NEIGHBOUR: 'it returns false'. Refute it at one input. -/
def stacksBackWrong : ChangeSpec := { name := "stacksBack", fn := fun _ => fun
  | [d1, d2, d3] => { results := [.lit (.bool false)], args := [d1, d2, d3] }
  | _ => none }
def StacksBackWrongFalsely : Prop := stacksBackRow.holds Try.pinned (OpenSpec.ofChange stacksBackWrong)

/-- 'hindsightlaw05.StacksInterns': WHATEVER THE INPUT: true; the input reads as it did. -/
def stacksInternsSpec : ChangeSpec := { name := "stacksInterns", fn := fun _ => fun
  | [d] => { results := [.lit (.bool true)], args := [d] }
  | _ => none }
def stacksInternsRow : OpenClaim := { program := "ytjpccaeojimlfaa", sum := "75d20bd92a110114e126a1a4e91dd7fb75b3a1d3471d8299c60a626d3919e0e1", func := "hindsight/hindsightlaw05.StacksInterns", spec := "stacksInterns", unfollowed := true, recurses := true, plainKeys := false, apart := false }
def StacksInternsSaid : Prop := stacksInternsRow.holds Try.pinned (OpenSpec.ofChange stacksInternsSpec)

/-- ITS FALSE NEIGHBOUR: 'it returns false'. Refute it at one input. -/
def stacksInternsWrong : ChangeSpec := { name := "stacksInterns", fn := fun _ => fun
  | [d] => { results := [.lit (.bool false)], args := [d] }
  | _ => none }
def StacksInternsWrongFalsely : Prop := stacksInternsRow.holds Try.pinned (OpenSpec.ofChange stacksInternsWrong)

/-- 'hindsightlaw05.StacksPlays': WHATEVER THE INPUT: true; the input reads as it did. -/
def stacksPlaysSpec : ChangeSpec := { name := "stacksPlays", fn := fun _ => fun
  | [d] => { results := [.lit (.bool true)], args := [d] }
  | _ => none }
def stacksPlaysRow : OpenClaim := { program := "ytjpccaeojimlfaa", sum := "75d20bd92a110114e126a1a4e91dd7fb75b3a1d3471d8299c60a626d3919e0e1", func := "hindsight/hindsightlaw05.StacksPlays", spec := "stacksPlays", unfollowed := true, recurses := true, plainKeys := false, apart := false }
def StacksPlaysSaid : Prop := stacksPlaysRow.holds Try.pinned (OpenSpec.ofChange stacksPlaysSpec)

/-- ITS FALSE NEIGHBOUR: 'it returns false'. Refute it at one input. -/
def stacksPlaysWrong : ChangeSpec := { name := "stacksPlays", fn := fun _ => fun
  | [d] => { results := [.lit (.bool false)], args := [d] }
  | _ => none }
def StacksPlaysWrongFalsely : Prop := stacksPlaysRow.holds Try.pinned (OpenSpec.ofChange stacksPlaysWrong)

/- THE SECOND FORM. 'bulk': how many values and letters a reading holds, each counted each time it is reached (what is shared counts as often as it is met; a slice's spare places count too). A statement '..UptoSaid' is the law's where the arguments, and the package variables that the reading takes, are together of bulk at most 1048576: NARROWER than '..Said'. Prove '..Said' where nothing that the law and all that it calls make is longer than what came in: it says more and counts as full. Else prove '..UptoSaid'. A law counts once. -/
mutual
def uptoBulk {H : Type} : DataW H → Nat
  | .lit (.string bytes) => bytes.length + 1
  | .lit _ => 1
  | .nil => 1
  | .ptr d => uptoBulk d + 1
  | .slice elems spare => uptoBulkAll elems + uptoBulkAll spare + 1
  | .agg parts => uptoBulkAll parts + 1
  | .iface _ d => uptoBulk d + 1
  | .map entries => uptoBulkEntries entries + 1
  | .held _ => 1
def uptoBulkAll {H : Type} : List (DataW H) → Nat
  | [] => 0
  | d :: r => uptoBulk d + uptoBulkAll r
def uptoBulkEntries {H : Type} : List (Lit × DataW H) → Nat
  | [] => 0
  | x :: r => uptoBulkEntry x + uptoBulkEntries r
def uptoBulkEntry {H : Type} : Lit × DataW H → Nat
  | (.string bytes, d) => bytes.length + uptoBulk d + 1
  | (_, d) => uptoBulk d + 1
 end
def uptoSmall : (H : Type) → List (DataW H) → Bool := fun _ ds => decide (uptoBulkAll ds ≤ 1048576)
def OpenSpec.upto (s : _root_.Go.ChangeSpec) : _root_.Go.OpenSpec := { _root_.Go.OpenSpec.ofChange s with cond := some uptoSmall }

/-- 'hindsightlaw05.StacksFirst', WHERE WHAT IT READS IS OF BULK AT MOST 1048576: true; the input reads as it did. -/
def stacksFirstUptoRow : OpenClaim := { program := "ytjpccaeojimlfaa", sum := "75d20bd92a110114e126a1a4e91dd7fb75b3a1d3471d8299c60a626d3919e0e1", func := "hindsight/hindsightlaw05.StacksFirst", spec := "stacksFirst", unfollowed := true, recurses := true, plainKeys := false, apart := false, narrowed := true }
def StacksFirstUptoSaid : Prop := stacksFirstUptoRow.holds Try.pinned (OpenSpec.upto stacksFirstSpec)

/-- 'hindsightlaw05.StacksOwn', WHERE WHAT IT READS IS OF BULK AT MOST 1048576: true; the input reads as it did. -/
def stacksOwnUptoRow : OpenClaim := { program := "ytjpccaeojimlfaa", sum := "75d20bd92a110114e126a1a4e91dd7fb75b3a1d3471d8299c60a626d3919e0e1", func := "hindsight/hindsightlaw05.StacksOwn", spec := "stacksOwn", unfollowed := true, recurses := true, plainKeys := false, apart := false, narrowed := true }
def StacksOwnUptoSaid : Prop := stacksOwnUptoRow.holds Try.pinned (OpenSpec.upto stacksOwnSpec)

/-- 'hindsightlaw05.StacksTwoWay', WHERE WHAT IT READS IS OF BULK AT MOST 1048576: true; the input reads as it did. -/
def stacksTwoWayUptoRow : OpenClaim := { program := "ytjpccaeojimlfaa", sum := "75d20bd92a110114e126a1a4e91dd7fb75b3a1d3471d8299c60a626d3919e0e1", func := "hindsight/hindsightlaw05.StacksTwoWay", spec := "stacksTwoWay", unfollowed := true, recurses := true, plainKeys := false, apart := false, narrowed := true }
def StacksTwoWayUptoSaid : Prop := stacksTwoWayUptoRow.holds Try.pinned (OpenSpec.upto stacksTwoWaySpec)

/-- 'hindsightlaw05.StacksBack', WHERE WHAT IT READS IS OF BULK AT MOST 1048576: true; the input reads as it did. -/
def stacksBackUptoRow : OpenClaim := { program := "ytjpccaeojimlfaa", sum := "75d20bd92a110114e126a1a4e91dd7fb75b3a1d3471d8299c60a626d3919e0e1", func := "hindsight/hindsightlaw05.StacksBack", spec := "stacksBack", unfollowed := true, recurses := true, plainKeys := false, apart := false, narrowed := true }
def StacksBackUptoSaid : Prop := stacksBackUptoRow.holds Try.pinned (OpenSpec.upto stacksBackSpec)

/-- 'hindsightlaw05.StacksInterns', WHERE WHAT IT READS IS OF BULK AT MOST 1048576: true; the input reads as it did. -/
def stacksInternsUptoRow : OpenClaim := { program := "ytjpccaeojimlfaa", sum := "75d20bd92a110114e126a1a4e91dd7fb75b3a1d3471d8299c60a626d3919e0e1", func := "hindsight/hindsightlaw05.StacksInterns", spec := "stacksInterns", unfollowed := true, recurses := true, plainKeys := false, apart := false, narrowed := true }
def StacksInternsUptoSaid : Prop := stacksInternsUptoRow.holds Try.pinned (OpenSpec.upto stacksInternsSpec)

/-- 'hindsightlaw05.StacksPlays', WHERE WHAT IT READS IS OF BULK AT MOST 1048576: true; the input reads as it did. -/
def stacksPlaysUptoRow : OpenClaim := { program := "ytjpccaeojimlfaa", sum := "75d20bd92a110114e126a1a4e91dd7fb75b3a1d3471d8299c60a626d3919e0e1", func := "hindsight/hindsightlaw05.StacksPlays", spec := "stacksPlays", unfollowed := true, recurses := true, plainKeys := false, apart := false, narrowed := true }
def StacksPlaysUptoSaid : Prop := stacksPlaysUptoRow.holds Try.pinned (OpenSpec.upto stacksPlaysSpec)

end Rows
end Go.Proofs.Ytjpccaeojimlfaa
