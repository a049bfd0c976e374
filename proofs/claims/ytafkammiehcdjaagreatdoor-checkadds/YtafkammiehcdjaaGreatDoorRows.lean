/-
  NARROWER THAN 'FOR EVERY INPUT', by the rows' own cells (each row's printed sentence says how): CheckEnds: laid · CheckNames: laid · CheckSafe: laid · CheckRuns: laid · CheckAdds: laid.
  DERIVED. THE GIVEN ROWS OF THIS SEAT. 5 by the template 'for every input the law returns true; each argument reads behind the call as it read before'; 0 by the template 'total and deterministic' (their statements: YtafkammiehcdjaaGreatDoorTotals.lean).
  GIVEN WITH THE SEED: the statements are not yours to turn. If you find one false, say at which input.
  Laid BY PROGRAM, IN A SANDBOX (cutbox-rows.mjs): the forced cells as the released guide's own fill.sh prints them over the translation 95bcb70164b2b340… (all of the seat's roots in one cut). By AI agents, Wed Nov 11 2026. No macro, syntax, notation, axiom, sorry.
-/
import Derived.Test.YtafkammiehcdjaaGreatDoorChecked
import GoSem.Claim
import GoSem.ClaimJoined
import GoSem.ClaimMapViews
import Derived.JoinedTies
import Derived.KernelRfl
namespace Go.Proofs.YtafkammiehcdjaaGreatDoor
/- THE CELL 'sum', in the pinned program and in every row, IS THE sha256 OF THE DUMP (.gsa) THAT YtafkammiehcdjaaGreatDoorProg.lean LOADS. Nothing in Lean hashes anything: it is a label: what it is worth is what the hold of that sum in a sandbox is worth. -/
noncomputable def Tryz.pinned : Pinned := { name := "ytafkammiehcdjaagreatdoor", sum := "95bcb70164b2b340bb2447e2d6cf9503967b0d47ba8920882c3ef3f0e7dac832", checked := Tryz.checked }
namespace Rows
def none {H : Type} : Left H := { results := [], args := [] }

/- WHAT THE LISTED PACKAGE-LEVEL VARIABLES READ AS WHEN THE CALL BEGINS. Each datum BY PROGRAM (the guide's laid-datum.mjs) off the statement by which the dump's own 'gosem.cut.vars' lays the variable. In a bare row this is a premise. The card (YtafkammiehcdjaaGreatDoorCards.lean) ties it to the program's text. -/
def laid_hindsight_event_kinds {H : Type} : DataW H := .agg [.agg [.lit (.string []), .lit (.int .i64 0)], .agg [.lit (.string [114, 101, 97, 100]), .lit (.int .i64 2)], .agg [.lit (.string [119, 114, 105, 116, 101]), .lit (.int .i64 2)], .agg [.lit (.string [97, 99, 113, 117, 105, 114, 101]), .lit (.int .i64 0)], .agg [.lit (.string [114, 101, 108, 101, 97, 115, 101]), .lit (.int .i64 0)], .agg [.lit (.string [114, 97, 99, 113, 117, 105, 114, 101]), .lit (.int .i64 0)], .agg [.lit (.string [114, 114, 101, 108, 101, 97, 115, 101]), .lit (.int .i64 0)], .agg [.lit (.string [102, 111, 114, 107]), .lit (.int .i64 4)], .agg [.lit (.string [106, 111, 105, 110]), .lit (.int .i64 5)], .agg [.lit (.string [109, 97, 107, 101]), .lit (.int .i64 6)], .agg [.lit (.string [115, 101, 110, 100]), .lit (.int .i64 0)], .agg [.lit (.string [97, 99, 107]), .lit (.int .i64 0)], .agg [.lit (.string [114, 101, 99, 118]), .lit (.int .i64 1)], .agg [.lit (.string [99, 108, 111, 115, 101]), .lit (.int .i64 0)], .agg [.lit (.string [97, 100, 100]), .lit (.int .i64 7)], .agg [.lit (.string [119, 97, 105, 116]), .lit (.int .i64 0)], .agg [.lit (.string [111, 110, 99, 101]), .lit (.int .i64 1)], .agg [.lit (.string [108, 111, 97, 100]), .lit (.int .i64 0)], .agg [.lit (.string [115, 116, 111, 114, 101]), .lit (.int .i64 0)], .agg [.lit (.string [115, 119, 97, 112]), .lit (.int .i64 0)], .agg [.lit (.string [97, 108, 108, 111, 99]), .lit (.int .i64 3)], .agg [.lit (.string [102, 114, 101, 101]), .lit (.int .i64 3)], .agg [.lit (.string [109, 97, 114, 107]), .lit (.int .i64 8)]]
def laid_hindsight_event_ranges {H : Type} : DataW H := .agg [.agg [.lit (.int .u64 0), .lit (.int .u64 0)], .agg [.lit (.int .u64 0), .lit (.int .u64 1)], .agg [.lit (.int .u64 1), .lit (.int .u64 64)], .agg [.lit (.int .u64 1), .lit (.int .u64 65536)], .agg [.lit (.int .u64 1), .lit (.int .u64 65535)], .agg [.lit (.int .u64 0), .lit (.int .u64 65535)], .agg [.lit (.int .u64 0), .lit (.int .u64 65536)], .agg [.lit (.int .u64 0), .lit (.int .u64 4294967294)], .agg [.lit (.int .u64 0), .lit (.int .u64 18446744073709551615)]]

/-- 'hindsightlaw16.CheckEnds': WHATEVER THE INPUT: true; the input reads as it did. -/
def checkEndsSpec : ChangeSpec := { name := "checkEnds", fn := fun _ => fun
  | [d1, d2] => { results := [.lit (.bool true)], args := [d1, d2] }
  | _ => none }
def checkEndsRow : OpenClaim := { program := "ytafkammiehcdjaagreatdoor", sum := "95bcb70164b2b340bb2447e2d6cf9503967b0d47ba8920882c3ef3f0e7dac832", func := "hindsight/hindsightlaw16.CheckEnds", spec := "checkEnds", inPlace := ["slices.overlaps[hindsight/check.entry]", "slices.overlaps[[]hindsight/check.entry]"], unfollowed := true, recurses := true, named := ["hindsight/event.kinds", "hindsight/event.ranges"], plainKeys := false, apart := false, laid := [("hindsight/event.kinds", laid_hindsight_event_kinds), ("hindsight/event.ranges", laid_hindsight_event_ranges)] }
def CheckEndsSaid : Prop := checkEndsRow.holds Tryz.pinned (OpenSpec.ofChange checkEndsSpec)

/-- ITS FALSE NEIGHBOUR: 'it returns false'. Refute it at one input. -/
def checkEndsWrong : ChangeSpec := { name := "checkEnds", fn := fun _ => fun
  | [d1, d2] => { results := [.lit (.bool false)], args := [d1, d2] }
  | _ => none }
def CheckEndsWrongFalsely : Prop := checkEndsRow.holds Tryz.pinned (OpenSpec.ofChange checkEndsWrong)

/-- 'hindsightlaw16.CheckNames': WHATEVER THE INPUT: true; the input reads as it did. -/
def checkNamesSpec : ChangeSpec := { name := "checkNames", fn := fun _ => fun
  | [d1, d2, d3, d4] => { results := [.lit (.bool true)], args := [d1, d2, d3, d4] }
  | _ => none }
def checkNamesRow : OpenClaim := { program := "ytafkammiehcdjaagreatdoor", sum := "95bcb70164b2b340bb2447e2d6cf9503967b0d47ba8920882c3ef3f0e7dac832", func := "hindsight/hindsightlaw16.CheckNames", spec := "checkNames", inPlace := ["slices.overlaps[hindsight/check.entry]", "slices.overlaps[[]hindsight/check.entry]"], unfollowed := true, recurses := true, named := ["hindsight/event.kinds", "hindsight/event.ranges"], plainKeys := false, apart := false, laid := [("hindsight/event.kinds", laid_hindsight_event_kinds), ("hindsight/event.ranges", laid_hindsight_event_ranges)] }
def CheckNamesSaid : Prop := checkNamesRow.holds Tryz.pinned (OpenSpec.ofChange checkNamesSpec)

/-- ITS FALSE NEIGHBOUR: 'it returns false'. Refute it at one input. -/
def checkNamesWrong : ChangeSpec := { name := "checkNames", fn := fun _ => fun
  | [d1, d2, d3, d4] => { results := [.lit (.bool false)], args := [d1, d2, d3, d4] }
  | _ => none }
def CheckNamesWrongFalsely : Prop := checkNamesRow.holds Tryz.pinned (OpenSpec.ofChange checkNamesWrong)

/-- 'hindsightlaw16.CheckSafe': WHATEVER THE INPUT: true; the input reads as it did. -/
def checkSafeSpec : ChangeSpec := { name := "checkSafe", fn := fun _ => fun
  | [d] => { results := [.lit (.bool true)], args := [d] }
  | _ => none }
def checkSafeRow : OpenClaim := { program := "ytafkammiehcdjaagreatdoor", sum := "95bcb70164b2b340bb2447e2d6cf9503967b0d47ba8920882c3ef3f0e7dac832", func := "hindsight/hindsightlaw16.CheckSafe", spec := "checkSafe", inPlace := ["slices.overlaps[hindsight/check.entry]", "slices.overlaps[[]hindsight/check.entry]"], unfollowed := true, recurses := true, named := ["hindsight/event.kinds", "hindsight/event.ranges"], plainKeys := false, apart := false, laid := [("hindsight/event.kinds", laid_hindsight_event_kinds), ("hindsight/event.ranges", laid_hindsight_event_ranges)] }
def CheckSafeSaid : Prop := checkSafeRow.holds Tryz.pinned (OpenSpec.ofChange checkSafeSpec)

/-- ITS FALSE NEIGHBOUR: 'it returns false'. Refute it at one input. -/
def checkSafeWrong : ChangeSpec := { name := "checkSafe", fn := fun _ => fun
  | [d] => { results := [.lit (.bool false)], args := [d] }
  | _ => none }
def CheckSafeWrongFalsely : Prop := checkSafeRow.holds Tryz.pinned (OpenSpec.ofChange checkSafeWrong)

/-- 'hindsightlaw16.CheckRuns': WHATEVER THE INPUT: true; the input reads as it did. -/
def checkRunsSpec : ChangeSpec := { name := "checkRuns", fn := fun _ => fun
  | [d] => { results := [.lit (.bool true)], args := [d] }
  | _ => none }
def checkRunsRow : OpenClaim := { program := "ytafkammiehcdjaagreatdoor", sum := "95bcb70164b2b340bb2447e2d6cf9503967b0d47ba8920882c3ef3f0e7dac832", func := "hindsight/hindsightlaw16.CheckRuns", spec := "checkRuns", inPlace := ["slices.overlaps[hindsight/check.entry]", "slices.overlaps[[]hindsight/check.entry]"], unfollowed := true, recurses := true, named := ["hindsight/event.kinds", "hindsight/event.ranges"], plainKeys := false, apart := false, laid := [("hindsight/event.kinds", laid_hindsight_event_kinds), ("hindsight/event.ranges", laid_hindsight_event_ranges)] }
def CheckRunsSaid : Prop := checkRunsRow.holds Tryz.pinned (OpenSpec.ofChange checkRunsSpec)

/-- ITS FALSE NEIGHBOUR: 'it returns false'. Refute it at one input. -/
def checkRunsWrong : ChangeSpec := { name := "checkRuns", fn := fun _ => fun
  | [d] => { results := [.lit (.bool false)], args := [d] }
  | _ => none }
def CheckRunsWrongFalsely : Prop := checkRunsRow.holds Tryz.pinned (OpenSpec.ofChange checkRunsWrong)

/-- 'hindsightlaw16.CheckAdds': WHATEVER THE INPUT: true; the input reads as it did. -/
def checkAddsSpec : ChangeSpec := { name := "checkAdds", fn := fun _ => fun
  | [d] => { results := [.lit (.bool true)], args := [d] }
  | _ => none }
def checkAddsRow : OpenClaim := { program := "ytafkammiehcdjaagreatdoor", sum := "95bcb70164b2b340bb2447e2d6cf9503967b0d47ba8920882c3ef3f0e7dac832", func := "hindsight/hindsightlaw16.CheckAdds", spec := "checkAdds", inPlace := ["slices.overlaps[hindsight/check.entry]", "slices.overlaps[[]hindsight/check.entry]"], unfollowed := true, recurses := true, named := ["hindsight/event.kinds", "hindsight/event.ranges"], plainKeys := false, apart := false, laid := [("hindsight/event.kinds", laid_hindsight_event_kinds), ("hindsight/event.ranges", laid_hindsight_event_ranges)] }
def CheckAddsSaid : Prop := checkAddsRow.holds Tryz.pinned (OpenSpec.ofChange checkAddsSpec)

/-- ITS FALSE NEIGHBOUR: 'it returns false'. Refute it at one input. -/
def checkAddsWrong : ChangeSpec := { name := "checkAdds", fn := fun _ => fun
  | [d] => { results := [.lit (.bool false)], args := [d] }
  | _ => none }
def CheckAddsWrongFalsely : Prop := checkAddsRow.holds Tryz.pinned (OpenSpec.ofChange checkAddsWrong)

/- THE SECOND FORM. 'bulk': how many values and letters a reading holds, each counted each time it is reached (what is shared counts as often as it is met; a slice's spare places count too). A statement '..UptoSaid' is the law's where the arguments, and the package variables that the reading takes, are together of bulk at most 1048576: NARROWER than '..Said'. Prove '..Said' where nothing that the law and all that it calls make is longer than what came in: it says more and counts as full. Else prove '..UptoSaid'. A law counts once. -/
mutual
def uptoBulk {H : Type} : DataW H → Nat
  | .lit (.string bytes) => bytes.length + 1
  | .lit _ => 1
  | .nil => 1
  | .ptr d => uptoBulk d + 1
  | .slice elems spare => uptoBulkAll elems + uptoBulkAll spare + 1
  | .agg parts => uptoBulkAll parts + 1
  | .iface _ d => uptoBulk d + 1
  | .map entries => uptoBulkEntries entries + 1
  | .held _ => 1
def uptoBulkAll {H : Type} : List (DataW H) → Nat
  | [] => 0
  | d :: r => uptoBulk d + uptoBulkAll r
def uptoBulkEntries {H : Type} : List (Lit × DataW H) → Nat
  | [] => 0
  | x :: r => uptoBulkEntry x + uptoBulkEntries r
def uptoBulkEntry {H : Type} : Lit × DataW H → Nat
  | (.string bytes, d) => bytes.length + uptoBulk d + 1
  | (_, d) => uptoBulk d + 1
 end
def uptoSmall : (H : Type) → List (DataW H) → Bool := fun _ ds => decide (uptoBulkAll ds ≤ 1048576)
def OpenSpec.upto (s : _root_.Go.ChangeSpec) : _root_.Go.OpenSpec := { _root_.Go.OpenSpec.ofChange s with cond := some uptoSmall }

/-- 'hindsightlaw16.CheckEnds', WHERE WHAT IT READS IS OF BULK AT MOST 1048576: true; the input reads as it did. -/
def checkEndsUptoRow : OpenClaim := { program := "ytafkammiehcdjaagreatdoor", sum := "95bcb70164b2b340bb2447e2d6cf9503967b0d47ba8920882c3ef3f0e7dac832", func := "hindsight/hindsightlaw16.CheckEnds", spec := "checkEnds", inPlace := ["slices.overlaps[hindsight/check.entry]", "slices.overlaps[[]hindsight/check.entry]"], unfollowed := true, recurses := true, named := ["hindsight/event.kinds", "hindsight/event.ranges"], plainKeys := false, apart := false, laid := [("hindsight/event.kinds", laid_hindsight_event_kinds), ("hindsight/event.ranges", laid_hindsight_event_ranges)], narrowed := true }
def CheckEndsUptoSaid : Prop := checkEndsUptoRow.holds Tryz.pinned (OpenSpec.upto checkEndsSpec)

/-- 'hindsightlaw16.CheckNames', WHERE WHAT IT READS IS OF BULK AT MOST 1048576: true; the input reads as it did. -/
def checkNamesUptoRow : OpenClaim := { program := "ytafkammiehcdjaagreatdoor", sum := "95bcb70164b2b340bb2447e2d6cf9503967b0d47ba8920882c3ef3f0e7dac832", func := "hindsight/hindsightlaw16.CheckNames", spec := "checkNames", inPlace := ["slices.overlaps[hindsight/check.entry]", "slices.overlaps[[]hindsight/check.entry]"], unfollowed := true, recurses := true, named := ["hindsight/event.kinds", "hindsight/event.ranges"], plainKeys := false, apart := false, laid := [("hindsight/event.kinds", laid_hindsight_event_kinds), ("hindsight/event.ranges", laid_hindsight_event_ranges)], narrowed := true }
def CheckNamesUptoSaid : Prop := checkNamesUptoRow.holds Tryz.pinned (OpenSpec.upto checkNamesSpec)

/-- 'hindsightlaw16.CheckSafe', WHERE WHAT IT READS IS OF BULK AT MOST 1048576: true; the input reads as it did. -/
def checkSafeUptoRow : OpenClaim := { program := "ytafkammiehcdjaagreatdoor", sum := "95bcb70164b2b340bb2447e2d6cf9503967b0d47ba8920882c3ef3f0e7dac832", func := "hindsight/hindsightlaw16.CheckSafe", spec := "checkSafe", inPlace := ["slices.overlaps[hindsight/check.entry]", "slices.overlaps[[]hindsight/check.entry]"], unfollowed := true, recurses := true, named := ["hindsight/event.kinds", "hindsight/event.ranges"], plainKeys := false, apart := false, laid := [("hindsight/event.kinds", laid_hindsight_event_kinds), ("hindsight/event.ranges", laid_hindsight_event_ranges)], narrowed := true }
def CheckSafeUptoSaid : Prop := checkSafeUptoRow.holds Tryz.pinned (OpenSpec.upto checkSafeSpec)

/-- 'hindsightlaw16.CheckRuns', WHERE WHAT IT READS IS OF BULK AT MOST 1048576: true; the input reads as it did. -/
def checkRunsUptoRow : OpenClaim := { program := "ytafkammiehcdjaagreatdoor", sum := "95bcb70164b2b340bb2447e2d6cf9503967b0d47ba8920882c3ef3f0e7dac832", func := "hindsight/hindsightlaw16.CheckRuns", spec := "checkRuns", inPlace := ["slices.overlaps[hindsight/check.entry]", "slices.overlaps[[]hindsight/check.entry]"], unfollowed := true, recurses := true, named := ["hindsight/event.kinds", "hindsight/event.ranges"], plainKeys := false, apart := false, laid := [("hindsight/event.kinds", laid_hindsight_event_kinds), ("hindsight/event.ranges", laid_hindsight_event_ranges)], narrowed := true }
def CheckRunsUptoSaid : Prop := checkRunsUptoRow.holds Tryz.pinned (OpenSpec.upto checkRunsSpec)

/-- 'hindsightlaw16.CheckAdds', WHERE WHAT IT READS IS OF BULK AT MOST 1048576: true; the input reads as it did. -/
def checkAddsUptoRow : OpenClaim := { program := "ytafkammiehcdjaagreatdoor", sum := "95bcb70164b2b340bb2447e2d6cf9503967b0d47ba8920882c3ef3f0e7dac832", func := "hindsight/hindsightlaw16.CheckAdds", spec := "checkAdds", inPlace := ["slices.overlaps[hindsight/check.entry]", "slices.overlaps[[]hindsight/check.entry]"], unfollowed := true, recurses := true, named := ["hindsight/event.kinds", "hindsight/event.ranges"], plainKeys := false, apart := false, laid := [("hindsight/event.kinds", laid_hindsight_event_kinds), ("hindsight/event.ranges", laid_hindsight_event_ranges)], narrowed := true }
def CheckAddsUptoSaid : Prop := checkAddsUptoRow.holds Tryz.pinned (OpenSpec.upto checkAddsSpec)

end Rows
end Go.Proofs.YtafkammiehcdjaaGreatDoor
