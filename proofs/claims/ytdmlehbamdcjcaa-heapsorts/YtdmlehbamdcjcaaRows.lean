/-
  No cell of these rows narrows 'for every input' (looked for: loops, veiled, ifaces, maps, wideKeys, modest, calm, conditions, laid).
  DERIVED. THE GIVEN ROWS OF THIS SEAT. 6 by the template 'for every input the law returns true; each argument reads behind the call as it read before'; 0 by the template 'total and deterministic' (their statements: YtdmlehbamdcjcaaTotals.lean).
  GIVEN WITH THE SEED: the statements are not yours to turn. If you find one false, say at which input.
  Laid BY PROGRAM, IN A SANDBOX (cutbox-rows.mjs): the forced cells as the released guide's own fill.sh prints them over the translation 5f3b3dab9f17abce… (all of the seat's roots in one cut). By AI agents, Wed Nov 11 2026. No macro, syntax, notation, axiom, sorry.
-/
import Derived.Test.YtdmlehbamdcjcaaChecked
import GoSem.Claim
import GoSem.ClaimJoined
import GoSem.ClaimMapViews
import Derived.JoinedTies
import Derived.KernelRfl
namespace Go.Proofs.Ytdmlehbamdcjcaa
/- THE CELL 'sum', in the pinned program and in every row, IS THE sha256 OF THE DUMP (.gsa) THAT YtdmlehbamdcjcaaProg.lean LOADS. Nothing in Lean hashes anything: it is a label: what it is worth is what the hold of that sum in a sandbox is worth. -/
noncomputable def Try.pinned : Pinned := { name := "ytdmlehbamdcjcaa", sum := "5f3b3dab9f17abcede281c7293cc79ca1e0d574024bc853e5c63404888184c02", checked := Try.checked }
namespace Rows
def none {H : Type} : Left H := { results := [], args := [] }

/-- 'hindsightlaw09.HeapMerges': WHATEVER THE INPUT: true; the input reads as it did. -/
def heapMergesSpec : ChangeSpec := { name := "heapMerges", fn := fun _ => fun
  | [d] => { results := [.lit (.bool true)], args := [d] }
  | _ => none }
def heapMergesRow : OpenClaim := { program := "ytdmlehbamdcjcaa", sum := "5f3b3dab9f17abcede281c7293cc79ca1e0d574024bc853e5c63404888184c02", func := "hindsight/hindsightlaw09.HeapMerges", spec := "heapMerges", unfollowed := true, recurses := true, apart := false }
def HeapMergesSaid : Prop := heapMergesRow.holds Try.pinned (OpenSpec.ofChange heapMergesSpec)

/-- ITS FALSE NEIGHBOUR: 'it returns false'. Refute it at one input. -/
def heapMergesWrong : ChangeSpec := { name := "heapMerges", fn := fun _ => fun
  | [d] => { results := [.lit (.bool false)], args := [d] }
  | _ => none }
def HeapMergesWrongFalsely : Prop := heapMergesRow.holds Try.pinned (OpenSpec.ofChange heapMergesWrong)

/-- 'hindsightlaw09.HeapMixes': WHATEVER THE INPUT: true; the input reads as it did. -/
def heapMixesSpec : ChangeSpec := { name := "heapMixes", fn := fun _ => fun
  | [d1, d2] => { results := [.lit (.bool true)], args := [d1, d2] }
  | _ => none }
def heapMixesRow : OpenClaim := { program := "ytdmlehbamdcjcaa", sum := "5f3b3dab9f17abcede281c7293cc79ca1e0d574024bc853e5c63404888184c02", func := "hindsight/hindsightlaw09.HeapMixes", spec := "heapMixes", unfollowed := true, recurses := true, apart := false }
def HeapMixesSaid : Prop := heapMixesRow.holds Try.pinned (OpenSpec.ofChange heapMixesSpec)

/-- ITS FALSE NEIGHBOUR: 'it returns false'. Refute it at one input. -/
def heapMixesWrong : ChangeSpec := { name := "heapMixes", fn := fun _ => fun
  | [d1, d2] => { results := [.lit (.bool false)], args := [d1, d2] }
  | _ => none }
def HeapMixesWrongFalsely : Prop := heapMixesRow.holds Try.pinned (OpenSpec.ofChange heapMixesWrong)

/-- 'hindsightlaw09.HeapRecs': WHATEVER THE INPUT: true; the input reads as it did. -/
def heapRecsSpec : ChangeSpec := { name := "heapRecs", fn := fun _ => fun
  | [d] => { results := [.lit (.bool true)], args := [d] }
  | _ => none }
def heapRecsRow : OpenClaim := { program := "ytdmlehbamdcjcaa", sum := "5f3b3dab9f17abcede281c7293cc79ca1e0d574024bc853e5c63404888184c02", func := "hindsight/hindsightlaw09.HeapRecs", spec := "heapRecs", unfollowed := true, recurses := true, apart := false }
def HeapRecsSaid : Prop := heapRecsRow.holds Try.pinned (OpenSpec.ofChange heapRecsSpec)

/-- ITS FALSE NEIGHBOUR: 'it returns false'. Refute it at one input. -/
def heapRecsWrong : ChangeSpec := { name := "heapRecs", fn := fun _ => fun
  | [d] => { results := [.lit (.bool false)], args := [d] }
  | _ => none }
def HeapRecsWrongFalsely : Prop := heapRecsRow.holds Try.pinned (OpenSpec.ofChange heapRecsWrong)

/-- 'hindsightlaw09.HeapRows': WHATEVER THE INPUT: true; the input reads as it did. -/
def heapRowsSpec : ChangeSpec := { name := "heapRows", fn := fun _ => fun
  | [d] => { results := [.lit (.bool true)], args := [d] }
  | _ => none }
def heapRowsRow : OpenClaim := { program := "ytdmlehbamdcjcaa", sum := "5f3b3dab9f17abcede281c7293cc79ca1e0d574024bc853e5c63404888184c02", func := "hindsight/hindsightlaw09.HeapRows", spec := "heapRows", unfollowed := true, recurses := true, apart := false }
def HeapRowsSaid : Prop := heapRowsRow.holds Try.pinned (OpenSpec.ofChange heapRowsSpec)

/-- ITS FALSE NEIGHBOUR: 'it returns false'. Refute it at one input. -/
def heapRowsWrong : ChangeSpec := { name := "heapRows", fn := fun _ => fun
  | [d] => { results := [.lit (.bool false)], args := [d] }
  | _ => none }
def HeapRowsWrongFalsely : Prop := heapRowsRow.holds Try.pinned (OpenSpec.ofChange heapRowsWrong)

/-- 'hindsightlaw09.HeapSorts': WHATEVER THE INPUT: true; the input reads as it did. -/
def heapSortsSpec : ChangeSpec := { name := "heapSorts", fn := fun _ => fun
  | [d1, d2, d3] => { results := [.lit (.bool true)], args := [d1, d2, d3] }
  | _ => none }
def heapSortsRow : OpenClaim := { program := "ytdmlehbamdcjcaa", sum := "5f3b3dab9f17abcede281c7293cc79ca1e0d574024bc853e5c63404888184c02", func := "hindsight/hindsightlaw09.HeapSorts", spec := "heapSorts", unfollowed := true, recurses := true, apart := false }
def HeapSortsSaid : Prop := heapSortsRow.holds Try.pinned (OpenSpec.ofChange heapSortsSpec)

/-- ITS FALSE NEIGHBOUR: 'it returns false'. Refute it at one input. -/
def heapSortsWrong : ChangeSpec := { name := "heapSorts", fn := fun _ => fun
  | [d1, d2, d3] => { results := [.lit (.bool false)], args := [d1, d2, d3] }
  | _ => none }
def HeapSortsWrongFalsely : Prop := heapSortsRow.holds Try.pinned (OpenSpec.ofChange heapSortsWrong)

/-- 'hindsightlaw09.HeapOdd': WHATEVER THE INPUT: true; the input reads as it did. -/
def heapOddSpec : ChangeSpec := { name := "heapOdd", fn := fun _ => fun
  | [d1, d2, d3] => { results := [.lit (.bool true)], args := [d1, d2, d3] }
  | _ => none }
def heapOddRow : OpenClaim := { program := "ytdmlehbamdcjcaa", sum := "5f3b3dab9f17abcede281c7293cc79ca1e0d574024bc853e5c63404888184c02", func := "hindsight/hindsightlaw09.HeapOdd", spec := "heapOdd", unfollowed := true, recurses := true, apart := false }
def HeapOddSaid : Prop := heapOddRow.holds Try.pinned (OpenSpec.ofChange heapOddSpec)

/-- ITS FALSE NEIGHBOUR: 'it returns false'. Refute it at one input. -/
def heapOddWrong : ChangeSpec := { name := "heapOdd", fn := fun _ => fun
  | [d1, d2, d3] => { results := [.lit (.bool false)], args := [d1, d2, d3] }
  | _ => none }
def HeapOddWrongFalsely : Prop := heapOddRow.holds Try.pinned (OpenSpec.ofChange heapOddWrong)

/- THE SECOND FORM. 'bulk': how many values and letters a reading holds, each counted each time it is reached (what is shared counts as often as it is met; a slice's spare places count too). A statement '..UptoSaid' is the law's where the arguments, and the package variables that the reading takes, are together of bulk at most 1048576: NARROWER than '..Said'. Prove '..Said' where nothing that the law and all that it calls make is longer than what came in: it says more and counts as full. Else prove '..UptoSaid'. A law counts once. -/
mutual
def uptoBulk {H : Type} : DataW H → Nat
  | .lit (.string bytes) => bytes.length + 1
  | .lit _ => 1
  | .nil => 1
  | .ptr d => uptoBulk d + 1
  | .slice elems spare => uptoBulkAll elems + uptoBulkAll spare + 1
  | .agg parts => uptoBulkAll parts + 1
  | .iface _ d => uptoBulk d + 1
  | .map entries => uptoBulkEntries entries + 1
  | .held _ => 1
def uptoBulkAll {H : Type} : List (DataW H) → Nat
  | [] => 0
  | d :: r => uptoBulk d + uptoBulkAll r
def uptoBulkEntries {H : Type} : List (Lit × DataW H) → Nat
  | [] => 0
  | x :: r => uptoBulkEntry x + uptoBulkEntries r
def uptoBulkEntry {H : Type} : Lit × DataW H → Nat
  | (.string bytes, d) => bytes.length + uptoBulk d + 1
  | (_, d) => uptoBulk d + 1
 end
def uptoSmall : (H : Type) → List (DataW H) → Bool := fun _ ds => decide (uptoBulkAll ds ≤ 1048576)
def OpenSpec.upto (s : _root_.Go.ChangeSpec) : _root_.Go.OpenSpec := { _root_.Go.OpenSpec.ofChange s with cond := some uptoSmall }

/-- 'hindsightlaw09.HeapMerges', WHERE WHAT IT READS IS OF BULK AT MOST 1048576: true; the input reads as it did. -/
def heapMergesUptoRow : OpenClaim := { program := "ytdmlehbamdcjcaa", sum := "5f3b3dab9f17abcede281c7293cc79ca1e0d574024bc853e5c63404888184c02", func := "hindsight/hindsightlaw09.HeapMerges", spec := "heapMerges", unfollowed := true, recurses := true, apart := false, narrowed := true }
def HeapMergesUptoSaid : Prop := heapMergesUptoRow.holds Try.pinned (OpenSpec.upto heapMergesSpec)

/-- 'hindsightlaw09.HeapMixes', WHERE WHAT IT READS IS OF BULK AT MOST 1048576: true; the input reads as it did. -/
def heapMixesUptoRow : OpenClaim := { program := "ytdmlehbamdcjcaa", sum := "5f3b3dab9f17abcede281c7293cc79ca1e0d574024bc853e5c63404888184c02", func := "hindsight/hindsightlaw09.HeapMixes", spec := "heapMixes", unfollowed := true, recurses := true, apart := false, narrowed := true }
def HeapMixesUptoSaid : Prop := heapMixesUptoRow.holds Try.pinned (OpenSpec.upto heapMixesSpec)

/-- 'hindsightlaw09.HeapRecs', WHERE WHAT IT READS IS OF BULK AT MOST 1048576: true; the input reads as it did. -/
def heapRecsUptoRow : OpenClaim := { program := "ytdmlehbamdcjcaa", sum := "5f3b3dab9f17abcede281c7293cc79ca1e0d574024bc853e5c63404888184c02", func := "hindsight/hindsightlaw09.HeapRecs", spec := "heapRecs", unfollowed := true, recurses := true, apart := false, narrowed := true }
def HeapRecsUptoSaid : Prop := heapRecsUptoRow.holds Try.pinned (OpenSpec.upto heapRecsSpec)

/-- 'hindsightlaw09.HeapRows', WHERE WHAT IT READS IS OF BULK AT MOST 1048576: true; the input reads as it did. -/
def heapRowsUptoRow : OpenClaim := { program := "ytdmlehbamdcjcaa", sum := "5f3b3dab9f17abcede281c7293cc79ca1e0d574024bc853e5c63404888184c02", func := "hindsight/hindsightlaw09.HeapRows", spec := "heapRows", unfollowed := true, recurses := true, apart := false, narrowed := true }
def HeapRowsUptoSaid : Prop := heapRowsUptoRow.holds Try.pinned (OpenSpec.upto heapRowsSpec)

/-- 'hindsightlaw09.HeapSorts', WHERE WHAT IT READS IS OF BULK AT MOST 1048576: true; the input reads as it did. -/
def heapSortsUptoRow : OpenClaim := { program := "ytdmlehbamdcjcaa", sum := "5f3b3dab9f17abcede281c7293cc79ca1e0d574024bc853e5c63404888184c02", func := "hindsight/hindsightlaw09.HeapSorts", spec := "heapSorts", unfollowed := true, recurses := true, apart := false, narrowed := true }
def HeapSortsUptoSaid : Prop := heapSortsUptoRow.holds Try.pinned (OpenSpec.upto heapSortsSpec)

/-- 'hindsightlaw09.HeapOdd', WHERE WHAT IT READS IS OF BULK AT MOST 1048576: true; the input reads as it did. -/
def heapOddUptoRow : OpenClaim := { program := "ytdmlehbamdcjcaa", sum := "5f3b3dab9f17abcede281c7293cc79ca1e0d574024bc853e5c63404888184c02", func := "hindsight/hindsightlaw09.HeapOdd", spec := "heapOdd", unfollowed := true, recurses := true, apart := false, narrowed := true }
def HeapOddUptoSaid : Prop := heapOddUptoRow.holds Try.pinned (OpenSpec.upto heapOddSpec)

end Rows
end Go.Proofs.Ytdmlehbamdcjcaa
