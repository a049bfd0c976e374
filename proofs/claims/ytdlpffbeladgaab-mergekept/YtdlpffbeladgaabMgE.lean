/-
  What a record tells; Next.
-/
import Derived.Test.YtdlpffbeladgaabMgD
import Derived.Test.YtdlpffbeladgaabRgA
namespace Go.Proofs.Ytdlpffbeladgaab
open Go.RowKit Go.Maps Go.Shelf
attribute [local go_sem] Oper.semAt_some
def rcV (r : Rc) : Value := .agg #[.int .i64 r.stamp, .int .i64 r.kind, .int .u64 r.obj, .int .u64 r.arg, .int .i64 r.stack]
theorem event_any (g : Int) (r : Rc) (w : World) : Calls Try.prog 20 #[.int .i64 g, .agg #[.int .i64 r.stamp, .int .i64 r.kind, .int .u64 r.obj, .int .u64 r.arg, .int .i64 r.stack]] w fun e w' => e = .returned (.agg #[.int .i64 g, .int .i64 r.kind, .int .u64 r.obj, .int .u64 r.arg, .slice none 0 0]) ∧ Below w.heap.size w w' := by
  obtain ⟨r0, r1, r2, r3, r4⟩ := r
  go_enter Try.func20, Try.ntmps20
  go_wp2_with fail
  refine bodyPost_ret (results_cell_row rfl _ _ (w.heap.size + 1) 30 #[.int .i64 g, .int .i64 r1, .int .u64 r2, .int .u64 r3, .slice none 0 0] (0, 0) _ rfl ?_ Try.underlying30 rfl (by kernel_rfl)) rfl ?_
  · exact heap_new2 _ _ _
  · exact ⟨rfl, below_alloc2 _ _ _⟩
theorem results_ccc {P : Program} {fn : Func} {p t u : Tmp} {ty ti te : TypeId} (h : fn.results = #[.cell p ty, .cell t ti, .cell u te]) (tmps : Array Value) (w : World) (g g1 g2 : Nat) (ty' : TypeId) (cs : Array Value) (fr : Nat × Nat) (d : TypeDesc) (v1 v2 : Value)
    (hp : tmps.getD p undef = .pointer (some ⟨g, 0, none⟩)) (hg : w.heap[g]? = some (.cells cs ty' fr))
    (hu : P.underlying ty = some d) (hd : (match d with | .struct _ | .array _ _ => true | _ => false) = true) (hi : (P.info? ty).map (·.size) = some cs.size)
    (hp1 : tmps.getD t undef = .pointer (some ⟨g1, 0, none⟩)) (hr1 : (loadVar ti ⟨g1, 0, none⟩).run P w = .ok v1 w) (hp2 : tmps.getD u undef = .pointer (some ⟨g2, 0, none⟩)) (hr2 : (loadVar te ⟨g2, 0, none⟩).run P w = .ok v2 w) :
    (results fn tmps).run P w = .ok (.tuple #[.agg cs, v1, v2]) w := by
  have hp' : tmps[p]?.getD undef = .pointer (some ⟨g, 0, none⟩) := by simpa using hp
  have hp1' : tmps[t]?.getD undef = .pointer (some ⟨g1, 0, none⟩) := by simpa using hp1
  have hp2' : tmps[u]?.getD undef = .pointer (some ⟨g2, 0, none⟩) := by simpa using hp2
  simp [results, h, hp', hp1', hp2', asAddr, run_loadVar_row w g ty' ty cs fr d hg hu hd hi, hr1, hr2]
end Go.Proofs.Ytdlpffbeladgaab
