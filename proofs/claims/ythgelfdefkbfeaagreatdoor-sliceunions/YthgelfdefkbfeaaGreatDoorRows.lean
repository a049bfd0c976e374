/-
  NARROWER THAN 'FOR EVERY INPUT', by the rows' own cells (each row's printed sentence says how): SliceUnions: laid · SliceOnlys: laid · SliceCloses: laid.
  DERIVED. THE GIVEN ROWS OF THIS SEAT. 3 by the template 'for every input the law returns true; each argument reads behind the call as it read before'; 0 by the template 'total and deterministic' (their statements: YthgelfdefkbfeaaGreatDoorTotals.lean).
  GIVEN WITH THE SEED: the statements are not yours to turn. If you find one false, say at which input.
  Laid BY PROGRAM, IN A SANDBOX (cutbox-rows.mjs): the forced cells as the released guide's own fill.sh prints them over the translation 30c8b506a72ff223… (all of the seat's roots in one cut). By AI agents, Wed Nov 11 2026. No macro, syntax, notation, axiom, sorry.
-/
import Derived.Test.YthgelfdefkbfeaaGreatDoorChecked
import GoSem.Claim
import GoSem.ClaimJoined
import GoSem.ClaimMapViews
import Derived.JoinedTies
import Derived.KernelRfl
namespace Go.Proofs.YthgelfdefkbfeaaGreatDoor
/- THE CELL 'sum', in the pinned program and in every row, IS THE sha256 OF THE DUMP (.gsa) THAT YthgelfdefkbfeaaGreatDoorProg.lean LOADS. Nothing in Lean hashes anything: it is a label: what it is worth is what the hold of that sum in a sandbox is worth. -/
noncomputable def Tryz.pinned : Pinned := { name := "ythgelfdefkbfeaagreatdoor", sum := "30c8b506a72ff223f3a4eb2d3d7648df632e6c3b6873fab755a26818496cb2f3", checked := Tryz.checked }
namespace Rows
def none {H : Type} : Left H := { results := [], args := [] }

/- WHAT THE LISTED PACKAGE-LEVEL VARIABLES READ AS WHEN THE CALL BEGINS. Each datum BY PROGRAM (the guide's laid-datum.mjs) off the statement by which the dump's own 'gosem.cut.vars' lays the variable. In a bare row this is a premise. The card (YthgelfdefkbfeaaGreatDoorCards.lean) ties it to the program's text. -/
def laid_hindsight_event_kinds {H : Type} : DataW H := .agg [.agg [.lit (.string []), .lit (.int .i64 0)], .agg [.lit (.string [114, 101, 97, 100]), .lit (.int .i64 2)], .agg [.lit (.string [119, 114, 105, 116, 101]), .lit (.int .i64 2)], .agg [.lit (.string [97, 99, 113, 117, 105, 114, 101]), .lit (.int .i64 0)], .agg [.lit (.string [114, 101, 108, 101, 97, 115, 101]), .lit (.int .i64 0)], .agg [.lit (.string [114, 97, 99, 113, 117, 105, 114, 101]), .lit (.int .i64 0)], .agg [.lit (.string [114, 114, 101, 108, 101, 97, 115, 101]), .lit (.int .i64 0)], .agg [.lit (.string [102, 111, 114, 107]), .lit (.int .i64 4)], .agg [.lit (.string [106, 111, 105, 110]), .lit (.int .i64 5)], .agg [.lit (.string [109, 97, 107, 101]), .lit (.int .i64 6)], .agg [.lit (.string [115, 101, 110, 100]), .lit (.int .i64 0)], .agg [.lit (.string [97, 99, 107]), .lit (.int .i64 0)], .agg [.lit (.string [114, 101, 99, 118]), .lit (.int .i64 1)], .agg [.lit (.string [99, 108, 111, 115, 101]), .lit (.int .i64 0)], .agg [.lit (.string [97, 100, 100]), .lit (.int .i64 7)], .agg [.lit (.string [119, 97, 105, 116]), .lit (.int .i64 0)], .agg [.lit (.string [111, 110, 99, 101]), .lit (.int .i64 1)], .agg [.lit (.string [108, 111, 97, 100]), .lit (.int .i64 0)], .agg [.lit (.string [115, 116, 111, 114, 101]), .lit (.int .i64 0)], .agg [.lit (.string [115, 119, 97, 112]), .lit (.int .i64 0)], .agg [.lit (.string [97, 108, 108, 111, 99]), .lit (.int .i64 3)], .agg [.lit (.string [102, 114, 101, 101]), .lit (.int .i64 3)], .agg [.lit (.string [109, 97, 114, 107]), .lit (.int .i64 8)]]
def laid_hindsight_event_ranges {H : Type} : DataW H := .agg [.agg [.lit (.int .u64 0), .lit (.int .u64 0)], .agg [.lit (.int .u64 0), .lit (.int .u64 1)], .agg [.lit (.int .u64 1), .lit (.int .u64 64)], .agg [.lit (.int .u64 1), .lit (.int .u64 65536)], .agg [.lit (.int .u64 1), .lit (.int .u64 65535)], .agg [.lit (.int .u64 0), .lit (.int .u64 65535)], .agg [.lit (.int .u64 0), .lit (.int .u64 65536)], .agg [.lit (.int .u64 0), .lit (.int .u64 4294967294)], .agg [.lit (.int .u64 0), .lit (.int .u64 18446744073709551615)]]

/-- 'hindsightlaw22.SliceUnions': WHATEVER THE INPUT: true; the input reads as it did. -/
def sliceUnionsSpec : ChangeSpec := { name := "sliceUnions", fn := fun _ => fun
  | [d1, d2, d3] => { results := [.lit (.bool true)], args := [d1, d2, d3] }
  | _ => none }
def sliceUnionsRow : OpenClaim := { program := "ythgelfdefkbfeaagreatdoor", sum := "30c8b506a72ff223f3a4eb2d3d7648df632e6c3b6873fab755a26818496cb2f3", func := "hindsight/hindsightlaw22.SliceUnions", spec := "sliceUnions", inPlace := ["slices.overlaps[hindsight/check.entry]", "slices.overlaps[[]hindsight/check.entry]"], unfollowed := true, recurses := true, named := ["hindsight/event.kinds", "hindsight/event.ranges"], plainKeys := false, apart := false, laid := [("hindsight/event.kinds", laid_hindsight_event_kinds), ("hindsight/event.ranges", laid_hindsight_event_ranges)] }
def SliceUnionsSaid : Prop := sliceUnionsRow.holds Tryz.pinned (OpenSpec.ofChange sliceUnionsSpec)

/-- ITS FALSE NEIGHBOUR: 'it returns false'. Refute it at one input. -/
def sliceUnionsWrong : ChangeSpec := { name := "sliceUnions", fn := fun _ => fun
  | [d1, d2, d3] => { results := [.lit (.bool false)], args := [d1, d2, d3] }
  | _ => none }
def SliceUnionsWrongFalsely : Prop := sliceUnionsRow.holds Tryz.pinned (OpenSpec.ofChange sliceUnionsWrong)

/-- 'hindsightlaw22.SliceOnlys': WHATEVER THE INPUT: true; the input reads as it did. -/
def sliceOnlysSpec : ChangeSpec := { name := "sliceOnlys", fn := fun _ => fun
  | [d1, d2, d3] => { results := [.lit (.bool true)], args := [d1, d2, d3] }
  | _ => none }
def sliceOnlysRow : OpenClaim := { program := "ythgelfdefkbfeaagreatdoor", sum := "30c8b506a72ff223f3a4eb2d3d7648df632e6c3b6873fab755a26818496cb2f3", func := "hindsight/hindsightlaw22.SliceOnlys", spec := "sliceOnlys", inPlace := ["slices.overlaps[hindsight/check.entry]", "slices.overlaps[[]hindsight/check.entry]"], unfollowed := true, recurses := true, named := ["hindsight/event.kinds", "hindsight/event.ranges"], plainKeys := false, apart := false, laid := [("hindsight/event.kinds", laid_hindsight_event_kinds), ("hindsight/event.ranges", laid_hindsight_event_ranges)] }
def SliceOnlysSaid : Prop := sliceOnlysRow.holds Tryz.pinned (OpenSpec.ofChange sliceOnlysSpec)

/-- ITS FALSE NEIGHBOUR: 'it returns false'. Refute it at one input. -/
def sliceOnlysWrong : ChangeSpec := { name := "sliceOnlys", fn := fun _ => fun
  | [d1, d2, d3] => { results := [.lit (.bool false)], args := [d1, d2, d3] }
  | _ => none }
def SliceOnlysWrongFalsely : Prop := sliceOnlysRow.holds Tryz.pinned (OpenSpec.ofChange sliceOnlysWrong)

/-- 'hindsightlaw22.SliceCloses': WHATEVER THE INPUT: true; the input reads as it did. -/
def sliceClosesSpec : ChangeSpec := { name := "sliceCloses", fn := fun _ => fun
  | [d1, d2] => { results := [.lit (.bool true)], args := [d1, d2] }
  | _ => none }
def sliceClosesRow : OpenClaim := { program := "ythgelfdefkbfeaagreatdoor", sum := "30c8b506a72ff223f3a4eb2d3d7648df632e6c3b6873fab755a26818496cb2f3", func := "hindsight/hindsightlaw22.SliceCloses", spec := "sliceCloses", inPlace := ["slices.overlaps[hindsight/check.entry]", "slices.overlaps[[]hindsight/check.entry]"], unfollowed := true, recurses := true, named := ["hindsight/event.kinds", "hindsight/event.ranges"], plainKeys := false, apart := false, laid := [("hindsight/event.kinds", laid_hindsight_event_kinds), ("hindsight/event.ranges", laid_hindsight_event_ranges)] }
def SliceClosesSaid : Prop := sliceClosesRow.holds Tryz.pinned (OpenSpec.ofChange sliceClosesSpec)

/-- ITS FALSE NEIGHBOUR: 'it returns false'. Refute it at one input. -/
def sliceClosesWrong : ChangeSpec := { name := "sliceCloses", fn := fun _ => fun
  | [d1, d2] => { results := [.lit (.bool false)], args := [d1, d2] }
  | _ => none }
def SliceClosesWrongFalsely : Prop := sliceClosesRow.holds Tryz.pinned (OpenSpec.ofChange sliceClosesWrong)

/- THE SECOND FORM. 'bulk': how many values and letters a reading holds, each counted each time it is reached (what is shared counts as often as it is met; a slice's spare places count too). A statement '..UptoSaid' is the law's where the arguments, and the package variables that the reading takes, are together of bulk at most 1048576: NARROWER than '..Said'. Prove '..Said' where nothing that the law and all that it calls make is longer than what came in: it says more and counts as full. Else prove '..UptoSaid'. A law counts once. -/
mutual
def uptoBulk {H : Type} : DataW H → Nat
  | .lit (.string bytes) => bytes.length + 1
  | .lit _ => 1
  | .nil => 1
  | .ptr d => uptoBulk d + 1
  | .slice elems spare => uptoBulkAll elems + uptoBulkAll spare + 1
  | .agg parts => uptoBulkAll parts + 1
  | .iface _ d => uptoBulk d + 1
  | .map entries => uptoBulkEntries entries + 1
  | .held _ => 1
def uptoBulkAll {H : Type} : List (DataW H) → Nat
  | [] => 0
  | d :: r => uptoBulk d + uptoBulkAll r
def uptoBulkEntries {H : Type} : List (Lit × DataW H) → Nat
  | [] => 0
  | x :: r => uptoBulkEntry x + uptoBulkEntries r
def uptoBulkEntry {H : Type} : Lit × DataW H → Nat
  | (.string bytes, d) => bytes.length + uptoBulk d + 1
  | (_, d) => uptoBulk d + 1
 end
def uptoSmall : (H : Type) → List (DataW H) → Bool := fun _ ds => decide (uptoBulkAll ds ≤ 1048576)
def OpenSpec.upto (s : _root_.Go.ChangeSpec) : _root_.Go.OpenSpec := { _root_.Go.OpenSpec.ofChange s with cond := some uptoSmall }

/-- 'hindsightlaw22.SliceUnions', WHERE WHAT IT READS IS OF BULK AT MOST 1048576: true; the input reads as it did. -/
def sliceUnionsUptoRow : OpenClaim := { program := "ythgelfdefkbfeaagreatdoor", sum := "30c8b506a72ff223f3a4eb2d3d7648df632e6c3b6873fab755a26818496cb2f3", func := "hindsight/hindsightlaw22.SliceUnions", spec := "sliceUnions", inPlace := ["slices.overlaps[hindsight/check.entry]", "slices.overlaps[[]hindsight/check.entry]"], unfollowed := true, recurses := true, named := ["hindsight/event.kinds", "hindsight/event.ranges"], plainKeys := false, apart := false, laid := [("hindsight/event.kinds", laid_hindsight_event_kinds), ("hindsight/event.ranges", laid_hindsight_event_ranges)], narrowed := true }
def SliceUnionsUptoSaid : Prop := sliceUnionsUptoRow.holds Tryz.pinned (OpenSpec.upto sliceUnionsSpec)

/-- 'hindsightlaw22.SliceOnlys', WHERE WHAT IT READS IS OF BULK AT MOST 1048576: true; the input reads as it did. -/
def sliceOnlysUptoRow : OpenClaim := { program := "ythgelfdefkbfeaagreatdoor", sum := "30c8b506a72ff223f3a4eb2d3d7648df632e6c3b6873fab755a26818496cb2f3", func := "hindsight/hindsightlaw22.SliceOnlys", spec := "sliceOnlys", inPlace := ["slices.overlaps[hindsight/check.entry]", "slices.overlaps[[]hindsight/check.entry]"], unfollowed := true, recurses := true, named := ["hindsight/event.kinds", "hindsight/event.ranges"], plainKeys := false, apart := false, laid := [("hindsight/event.kinds", laid_hindsight_event_kinds), ("hindsight/event.ranges", laid_hindsight_event_ranges)], narrowed := true }
def SliceOnlysUptoSaid : Prop := sliceOnlysUptoRow.holds Tryz.pinned (OpenSpec.upto sliceOnlysSpec)

/-- 'hindsightlaw22.SliceCloses', WHERE WHAT IT READS IS OF BULK AT MOST 1048576: true; the input reads as it did. -/
def sliceClosesUptoRow : OpenClaim := { program := "ythgelfdefkbfeaagreatdoor", sum := "30c8b506a72ff223f3a4eb2d3d7648df632e6c3b6873fab755a26818496cb2f3", func := "hindsight/hindsightlaw22.SliceCloses", spec := "sliceCloses", inPlace := ["slices.overlaps[hindsight/check.entry]", "slices.overlaps[[]hindsight/check.entry]"], unfollowed := true, recurses := true, named := ["hindsight/event.kinds", "hindsight/event.ranges"], plainKeys := false, apart := false, laid := [("hindsight/event.kinds", laid_hindsight_event_kinds), ("hindsight/event.ranges", laid_hindsight_event_ranges)], narrowed := true }
def SliceClosesUptoSaid : Prop := sliceClosesUptoRow.holds Tryz.pinned (OpenSpec.upto sliceClosesSpec)

end Rows
end Go.Proofs.YthgelfdefkbfeaaGreatDoor
