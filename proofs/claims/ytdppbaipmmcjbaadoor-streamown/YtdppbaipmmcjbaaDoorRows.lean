/-
  NARROWER THAN 'FOR EVERY INPUT', by the rows' own cells (each row's printed sentence says how): StreamEncodes: laid · StreamDecodes: laid · StreamTwoWay: laid · StreamBack: laid · StreamOwn: laid · StreamWrites: laid.
  DERIVED. THE GIVEN ROWS OF THIS SEAT. 6 by the template 'for every input the law returns true; each argument reads behind the call as it read before'; 0 by the template 'total and deterministic' (their statements: YtdppbaipmmcjbaaDoorTotals.lean).
  GIVEN WITH THE SEED: the statements are not yours to turn. If you find one false, say at which input.
  Laid BY PROGRAM, IN A SANDBOX (cutbox-rows.mjs): the forced cells as the released guide's own fill.sh prints them over the translation b0e1398b6c2e10c7… (all of the seat's roots in one cut). By AI agents, Wed Nov 11 2026. No macro, syntax, notation, axiom, sorry.
-/
import Derived.Test.YtdppbaipmmcjbaaDoorChecked
import GoSem.Claim
import GoSem.ClaimJoined
import GoSem.ClaimMapViews
import Derived.JoinedTies
import Derived.KernelRfl
namespace Go.Proofs.YtdppbaipmmcjbaaDoor
/- THE CELL 'sum', in the pinned program and in every row, IS THE sha256 OF THE DUMP (.gsa) THAT YtdppbaipmmcjbaaDoorProg.lean LOADS. Nothing in Lean hashes anything: it is a label: what it is worth is what the hold of that sum in a sandbox is worth. -/
noncomputable def Tryd.pinned : Pinned := { name := "ytdppbaipmmcjbaadoor", sum := "b0e1398b6c2e10c7cad272e8e3bea70b24e0a82e9fe1df2886711290da220187", checked := Tryd.checked }
namespace Rows
def none {H : Type} : Left H := { results := [], args := [] }

/- WHAT THE LISTED PACKAGE-LEVEL VARIABLES READ AS WHEN THE CALL BEGINS. Each datum BY PROGRAM (the guide's laid-datum.mjs) off the statement by which the dump's own 'gosem.cut.vars' lays the variable. In a bare row this is a premise. The card (YtdppbaipmmcjbaaDoorCards.lean) ties it to the program's text. -/
def laid_hindsight_event_kinds {H : Type} : DataW H := .agg [.agg [.lit (.string []), .lit (.int .i64 0)], .agg [.lit (.string [114, 101, 97, 100]), .lit (.int .i64 2)], .agg [.lit (.string [119, 114, 105, 116, 101]), .lit (.int .i64 2)], .agg [.lit (.string [97, 99, 113, 117, 105, 114, 101]), .lit (.int .i64 0)], .agg [.lit (.string [114, 101, 108, 101, 97, 115, 101]), .lit (.int .i64 0)], .agg [.lit (.string [114, 97, 99, 113, 117, 105, 114, 101]), .lit (.int .i64 0)], .agg [.lit (.string [114, 114, 101, 108, 101, 97, 115, 101]), .lit (.int .i64 0)], .agg [.lit (.string [102, 111, 114, 107]), .lit (.int .i64 4)], .agg [.lit (.string [106, 111, 105, 110]), .lit (.int .i64 5)], .agg [.lit (.string [109, 97, 107, 101]), .lit (.int .i64 6)], .agg [.lit (.string [115, 101, 110, 100]), .lit (.int .i64 0)], .agg [.lit (.string [97, 99, 107]), .lit (.int .i64 0)], .agg [.lit (.string [114, 101, 99, 118]), .lit (.int .i64 1)], .agg [.lit (.string [99, 108, 111, 115, 101]), .lit (.int .i64 0)], .agg [.lit (.string [97, 100, 100]), .lit (.int .i64 7)], .agg [.lit (.string [119, 97, 105, 116]), .lit (.int .i64 0)], .agg [.lit (.string [111, 110, 99, 101]), .lit (.int .i64 1)], .agg [.lit (.string [108, 111, 97, 100]), .lit (.int .i64 0)], .agg [.lit (.string [115, 116, 111, 114, 101]), .lit (.int .i64 0)], .agg [.lit (.string [115, 119, 97, 112]), .lit (.int .i64 0)], .agg [.lit (.string [97, 108, 108, 111, 99]), .lit (.int .i64 3)], .agg [.lit (.string [102, 114, 101, 101]), .lit (.int .i64 3)], .agg [.lit (.string [109, 97, 114, 107]), .lit (.int .i64 8)]]

/-- 'hindsightlaw08.StreamEncodes': WHATEVER THE INPUT: true; the input reads as it did. -/
def streamEncodesSpec : ChangeSpec := { name := "streamEncodes", fn := fun _ => fun
  | [d1, d2] => { results := [.lit (.bool true)], args := [d1, d2] }
  | _ => none }
def streamEncodesRow : OpenClaim := { program := "ytdppbaipmmcjbaadoor", sum := "b0e1398b6c2e10c7cad272e8e3bea70b24e0a82e9fe1df2886711290da220187", func := "hindsight/hindsightlaw08.StreamEncodes", spec := "streamEncodes", unfollowed := true, recurses := true, named := ["hindsight/event.kinds"], apart := false, laid := [("hindsight/event.kinds", laid_hindsight_event_kinds)] }
def StreamEncodesSaid : Prop := streamEncodesRow.holds Tryd.pinned (OpenSpec.ofChange streamEncodesSpec)

/-- ITS FALSE NEIGHBOUR: 'it returns false'. Refute it at one input. -/
def streamEncodesWrong : ChangeSpec := { name := "streamEncodes", fn := fun _ => fun
  | [d1, d2] => { results := [.lit (.bool false)], args := [d1, d2] }
  | _ => none }
def StreamEncodesWrongFalsely : Prop := streamEncodesRow.holds Tryd.pinned (OpenSpec.ofChange streamEncodesWrong)

/-- 'hindsightlaw08.StreamDecodes': WHATEVER THE INPUT: true; the input reads as it did. -/
def streamDecodesSpec : ChangeSpec := { name := "streamDecodes", fn := fun _ => fun
  | [d1, d2] => { results := [.lit (.bool true)], args := [d1, d2] }
  | _ => none }
def streamDecodesRow : OpenClaim := { program := "ytdppbaipmmcjbaadoor", sum := "b0e1398b6c2e10c7cad272e8e3bea70b24e0a82e9fe1df2886711290da220187", func := "hindsight/hindsightlaw08.StreamDecodes", spec := "streamDecodes", unfollowed := true, recurses := true, named := ["hindsight/event.kinds"], apart := false, laid := [("hindsight/event.kinds", laid_hindsight_event_kinds)] }
def StreamDecodesSaid : Prop := streamDecodesRow.holds Tryd.pinned (OpenSpec.ofChange streamDecodesSpec)

/-- ITS FALSE NEIGHBOUR: 'it returns false'. Refute it at one input. -/
def streamDecodesWrong : ChangeSpec := { name := "streamDecodes", fn := fun _ => fun
  | [d1, d2] => { results := [.lit (.bool false)], args := [d1, d2] }
  | _ => none }
def StreamDecodesWrongFalsely : Prop := streamDecodesRow.holds Tryd.pinned (OpenSpec.ofChange streamDecodesWrong)

/-- 'hindsightlaw08.StreamTwoWay': WHATEVER THE INPUT: true; the input reads as it did. -/
def streamTwoWaySpec : ChangeSpec := { name := "streamTwoWay", fn := fun _ => fun
  | [d1, d2] => { results := [.lit (.bool true)], args := [d1, d2] }
  | _ => none }
def streamTwoWayRow : OpenClaim := { program := "ytdppbaipmmcjbaadoor", sum := "b0e1398b6c2e10c7cad272e8e3bea70b24e0a82e9fe1df2886711290da220187", func := "hindsight/hindsightlaw08.StreamTwoWay", spec := "streamTwoWay", unfollowed := true, recurses := true, named := ["hindsight/event.kinds"], apart := false, laid := [("hindsight/event.kinds", laid_hindsight_event_kinds)] }
def StreamTwoWaySaid : Prop := streamTwoWayRow.holds Tryd.pinned (OpenSpec.ofChange streamTwoWaySpec)

/-- ITS FALSE NEIGHBOUR: 'it returns false'. Refute it at one input. -/
def streamTwoWayWrong : ChangeSpec := { name := "streamTwoWay", fn := fun _ => fun
  | [d1, d2] => { results := [.lit (.bool false)], args := [d1, d2] }
  | _ => none }
def StreamTwoWayWrongFalsely : Prop := streamTwoWayRow.holds Tryd.pinned (OpenSpec.ofChange streamTwoWayWrong)

/-- 'hindsightlaw08.StreamBack': WHATEVER THE INPUT: true; the input reads as it did. -/
def streamBackSpec : ChangeSpec := { name := "streamBack", fn := fun _ => fun
  | [d1, d2] => { results := [.lit (.bool true)], args := [d1, d2] }
  | _ => none }
def streamBackRow : OpenClaim := { program := "ytdppbaipmmcjbaadoor", sum := "b0e1398b6c2e10c7cad272e8e3bea70b24e0a82e9fe1df2886711290da220187", func := "hindsight/hindsightlaw08.StreamBack", spec := "streamBack", unfollowed := true, recurses := true, named := ["hindsight/event.kinds"], apart := false, laid := [("hindsight/event.kinds", laid_hindsight_event_kinds)] }
def StreamBackSaid : Prop := streamBackRow.holds Tryd.pinned (OpenSpec.ofChange streamBackSpec)

/-- ITS FALSE NEIGHBOUR: 'it returns false'. Refute it at one input. -/
def streamBackWrong : ChangeSpec := { name := "streamBack", fn := fun _ => fun
  | [d1, d2] => { results := [.lit (.bool false)], args := [d1, d2] }
  | _ => none }
def StreamBackWrongFalsely : Prop := streamBackRow.holds Tryd.pinned (OpenSpec.ofChange streamBackWrong)

/-- 'hindsightlaw08.StreamOwn': WHATEVER THE INPUT: true; the input reads as it did. -/
def streamOwnSpec : ChangeSpec := { name := "streamOwn", fn := fun _ => fun
  | [d1, d2] => { results := [.lit (.bool true)], args := [d1, d2] }
  | _ => none }
def streamOwnRow : OpenClaim := { program := "ytdppbaipmmcjbaadoor", sum := "b0e1398b6c2e10c7cad272e8e3bea70b24e0a82e9fe1df2886711290da220187", func := "hindsight/hindsightlaw08.StreamOwn", spec := "streamOwn", unfollowed := true, recurses := true, named := ["hindsight/event.kinds"], apart := false, laid := [("hindsight/event.kinds", laid_hindsight_event_kinds)] }
def StreamOwnSaid : Prop := streamOwnRow.holds Tryd.pinned (OpenSpec.ofChange streamOwnSpec)

/-- ITS FALSE NEIGHBOUR: 'it returns false'. Refute it at one input. -/
def streamOwnWrong : ChangeSpec := { name := "streamOwn", fn := fun _ => fun
  | [d1, d2] => { results := [.lit (.bool false)], args := [d1, d2] }
  | _ => none }
def StreamOwnWrongFalsely : Prop := streamOwnRow.holds Tryd.pinned (OpenSpec.ofChange streamOwnWrong)

/-- 'hindsightlaw08.StreamWrites': WHATEVER THE INPUT: true; the input reads as it did. -/
def streamWritesSpec : ChangeSpec := { name := "streamWrites", fn := fun _ => fun
  | [d1, d2, d3] => { results := [.lit (.bool true)], args := [d1, d2, d3] }
  | _ => none }
def streamWritesRow : OpenClaim := { program := "ytdppbaipmmcjbaadoor", sum := "b0e1398b6c2e10c7cad272e8e3bea70b24e0a82e9fe1df2886711290da220187", func := "hindsight/hindsightlaw08.StreamWrites", spec := "streamWrites", unfollowed := true, recurses := true, named := ["hindsight/event.kinds"], apart := false, laid := [("hindsight/event.kinds", laid_hindsight_event_kinds)] }
def StreamWritesSaid : Prop := streamWritesRow.holds Tryd.pinned (OpenSpec.ofChange streamWritesSpec)

/-- ITS FALSE NEIGHBOUR: 'it returns false'. Refute it at one input. -/
def streamWritesWrong : ChangeSpec := { name := "streamWrites", fn := fun _ => fun
  | [d1, d2, d3] => { results := [.lit (.bool false)], args := [d1, d2, d3] }
  | _ => none }
def StreamWritesWrongFalsely : Prop := streamWritesRow.holds Tryd.pinned (OpenSpec.ofChange streamWritesWrong)

/- THE SECOND FORM. 'bulk': how many values and letters a reading holds, each counted each time it is reached (what is shared counts as often as it is met; a slice's spare places count too). A statement '..UptoSaid' is the law's where the arguments, and the package variables that the reading takes, are together of bulk at most 1048576: NARROWER than '..Said'. Prove '..Said' where nothing that the law and all that it calls make is longer than what came in: it says more and counts as full. Else prove '..UptoSaid'. A law counts once. -/
mutual
def uptoBulk {H : Type} : DataW H → Nat
  | .lit (.string bytes) => bytes.length + 1
  | .lit _ => 1
  | .nil => 1
  | .ptr d => uptoBulk d + 1
  | .slice elems spare => uptoBulkAll elems + uptoBulkAll spare + 1
  | .agg parts => uptoBulkAll parts + 1
  | .iface _ d => uptoBulk d + 1
  | .map entries => uptoBulkEntries entries + 1
  | .held _ => 1
def uptoBulkAll {H : Type} : List (DataW H) → Nat
  | [] => 0
  | d :: r => uptoBulk d + uptoBulkAll r
def uptoBulkEntries {H : Type} : List (Lit × DataW H) → Nat
  | [] => 0
  | x :: r => uptoBulkEntry x + uptoBulkEntries r
def uptoBulkEntry {H : Type} : Lit × DataW H → Nat
  | (.string bytes, d) => bytes.length + uptoBulk d + 1
  | (_, d) => uptoBulk d + 1
 end
def uptoSmall : (H : Type) → List (DataW H) → Bool := fun _ ds => decide (uptoBulkAll ds ≤ 1048576)
def OpenSpec.upto (s : _root_.Go.ChangeSpec) : _root_.Go.OpenSpec := { _root_.Go.OpenSpec.ofChange s with cond := some uptoSmall }

/-- 'hindsightlaw08.StreamEncodes', WHERE WHAT IT READS IS OF BULK AT MOST 1048576: true; the input reads as it did. -/
def streamEncodesUptoRow : OpenClaim := { program := "ytdppbaipmmcjbaadoor", sum := "b0e1398b6c2e10c7cad272e8e3bea70b24e0a82e9fe1df2886711290da220187", func := "hindsight/hindsightlaw08.StreamEncodes", spec := "streamEncodes", unfollowed := true, recurses := true, named := ["hindsight/event.kinds"], apart := false, laid := [("hindsight/event.kinds", laid_hindsight_event_kinds)], narrowed := true }
def StreamEncodesUptoSaid : Prop := streamEncodesUptoRow.holds Tryd.pinned (OpenSpec.upto streamEncodesSpec)

/-- 'hindsightlaw08.StreamDecodes', WHERE WHAT IT READS IS OF BULK AT MOST 1048576: true; the input reads as it did. -/
def streamDecodesUptoRow : OpenClaim := { program := "ytdppbaipmmcjbaadoor", sum := "b0e1398b6c2e10c7cad272e8e3bea70b24e0a82e9fe1df2886711290da220187", func := "hindsight/hindsightlaw08.StreamDecodes", spec := "streamDecodes", unfollowed := true, recurses := true, named := ["hindsight/event.kinds"], apart := false, laid := [("hindsight/event.kinds", laid_hindsight_event_kinds)], narrowed := true }
def StreamDecodesUptoSaid : Prop := streamDecodesUptoRow.holds Tryd.pinned (OpenSpec.upto streamDecodesSpec)

/-- 'hindsightlaw08.StreamTwoWay', WHERE WHAT IT READS IS OF BULK AT MOST 1048576: true; the input reads as it did. -/
def streamTwoWayUptoRow : OpenClaim := { program := "ytdppbaipmmcjbaadoor", sum := "b0e1398b6c2e10c7cad272e8e3bea70b24e0a82e9fe1df2886711290da220187", func := "hindsight/hindsightlaw08.StreamTwoWay", spec := "streamTwoWay", unfollowed := true, recurses := true, named := ["hindsight/event.kinds"], apart := false, laid := [("hindsight/event.kinds", laid_hindsight_event_kinds)], narrowed := true }
def StreamTwoWayUptoSaid : Prop := streamTwoWayUptoRow.holds Tryd.pinned (OpenSpec.upto streamTwoWaySpec)

/-- 'hindsightlaw08.StreamBack', WHERE WHAT IT READS IS OF BULK AT MOST 1048576: true; the input reads as it did. -/
def streamBackUptoRow : OpenClaim := { program := "ytdppbaipmmcjbaadoor", sum := "b0e1398b6c2e10c7cad272e8e3bea70b24e0a82e9fe1df2886711290da220187", func := "hindsight/hindsightlaw08.StreamBack", spec := "streamBack", unfollowed := true, recurses := true, named := ["hindsight/event.kinds"], apart := false, laid := [("hindsight/event.kinds", laid_hindsight_event_kinds)], narrowed := true }
def StreamBackUptoSaid : Prop := streamBackUptoRow.holds Tryd.pinned (OpenSpec.upto streamBackSpec)

/-- 'hindsightlaw08.StreamOwn', WHERE WHAT IT READS IS OF BULK AT MOST 1048576: true; the input reads as it did. -/
def streamOwnUptoRow : OpenClaim := { program := "ytdppbaipmmcjbaadoor", sum := "b0e1398b6c2e10c7cad272e8e3bea70b24e0a82e9fe1df2886711290da220187", func := "hindsight/hindsightlaw08.StreamOwn", spec := "streamOwn", unfollowed := true, recurses := true, named := ["hindsight/event.kinds"], apart := false, laid := [("hindsight/event.kinds", laid_hindsight_event_kinds)], narrowed := true }
def StreamOwnUptoSaid : Prop := streamOwnUptoRow.holds Tryd.pinned (OpenSpec.upto streamOwnSpec)

/-- 'hindsightlaw08.StreamWrites', WHERE WHAT IT READS IS OF BULK AT MOST 1048576: true; the input reads as it did. -/
def streamWritesUptoRow : OpenClaim := { program := "ytdppbaipmmcjbaadoor", sum := "b0e1398b6c2e10c7cad272e8e3bea70b24e0a82e9fe1df2886711290da220187", func := "hindsight/hindsightlaw08.StreamWrites", spec := "streamWrites", unfollowed := true, recurses := true, named := ["hindsight/event.kinds"], apart := false, laid := [("hindsight/event.kinds", laid_hindsight_event_kinds)], narrowed := true }
def StreamWritesUptoSaid : Prop := streamWritesUptoRow.holds Tryd.pinned (OpenSpec.upto streamWritesSpec)

end Rows
end Go.Proofs.YtdppbaipmmcjbaaDoor
