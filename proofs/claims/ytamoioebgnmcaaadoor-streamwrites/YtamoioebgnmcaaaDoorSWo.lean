/-
  A script of calls that came in.
-/
import Derived.Test.YtamoioebgnmcaaaDoorOpenR
import Derived.Test.YtamoioebgnmcaaaDoorSWl
namespace Go.Proofs.YtamoioebgnmcaaaDoor
open Go.ChangeShapes Go.WideShapes Go.ChangeAt Go.RowKit
theorem lst7 {α : Type} {l : List α} (h : l.length = 7) : ∃ a b c d e f g, l = [a, b, c, d, e, f, g] := by
  match l, h with
  | [a, b, c, d, e, f, g], _ => exact ⟨a, b, c, d, e, f, g, rfl⟩
theorem Tryd.cellsOp8 : Tryd.prog.cellsOf 64 = 7 := by kernel_rfl
theorem Tryd.bytesOp8 : Tryd.prog.bytesOf 64 = 56 := by kernel_rfl
def ocs (q : Op8) : List Value := [.int .i64 q.kind, .int .i64 q.who, .int .i64 q.r.stamp, .int .i64 q.r.kind, .int .u64 q.r.obj, .int .u64 q.r.arg, .int .i64 q.r.stack]
theorem open_op8_in {H : Type} {enc : TypeId × Value → H} {W : World} {base : Nat} {spare : Nat → Bool} {held : Bool} {cs : List Value} {fuel : Nat} {d : DataW H} {p : List MemPlace}
    (hf : DataW.trod enc Tryd.prog W base spare held fuel 64 cs = some (d, p)) (hl : cs.length = 7) :
    ∃ q : Op8, cs = ocs q ∧ q.r.ok := by
  obtain ⟨c0, c1, c2, c3, c4, c5, c6, rfl⟩ := lst7 hl
  obtain ⟨xs, n, _, _, _, hlen, hfl⟩ := DataW.trod_struct Tryd.underlying64 hf
  have hlen' : xs.length = 3 := hlen
  obtain ⟨a0, rfl, w0⟩ := int_of (v := c0) (xs := xs) (i := 0) Tryd.underlying3 (by omega) (by simpa [Value.cells, Tryd.cells3] using hfl 0 _ rfl)
  obtain ⟨a1, rfl, w1⟩ := int_of (v := c1) (xs := xs) (i := 1) Tryd.underlying3 (by omega) (by simpa [Value.cells, Tryd.cells3] using hfl 1 _ rfl)
  have h2 : DataW.trod enc Tryd.prog W base spare held n 52 [c2, c3, c4, c5, c6] = xs[2]? := by simpa [Value.cells, Tryd.cellsR] using hfl 2 _ rfl
  rw [List.getElem?_eq_getElem (show 2 < xs.length by omega)] at h2
  obtain ⟨r, e1, e2, _⟩ := open_rc_in (d := (xs[2]'(by omega)).1) (p := (xs[2]'(by omega)).2) h2 rfl
  refine ⟨⟨a0, a1, r⟩, ?_, e2⟩
  have e3 : [c2, c3, c4, c5, c6] = [.int .i64 r.stamp, .int .i64 r.kind, .int .u64 r.obj, .int .u64 r.arg, .int .i64 r.stack] := e1
  show _ :: _ :: [c2, c3, c4, c5, c6] = _
  rw [e3]
  rfl
theorem open_ops8 {H : Type} {enc : TypeId × Value → H} {W : World} {a : Option Addr} {len cap : Nat} {d : DataW H} {p : List MemPlace} {ts : List TypeId} {ds : List (DataW H)} {j : Nat}
    (h : DataW.Trod enc Tryd.prog W 0 (fun _ => true) true 57 (.slice a len cap) d p)
    (hsz : (DataW.weightsEach Tryd.prog ts ds).all (· ≤ reachBytes) = true) (ht : ts[j]? = some 57) (hd : ds[j]? = some d) :
    ∃ os, ORow W a len os ∧ (∀ e ∈ os, e.r.ok) ∧ len * 56 ≤ 140737488355328 := by
  obtain ⟨fuel, hf⟩ := h
  rcases Deep.open_slice Tryd.underlying57 hf with ⟨hcs, _⟩ | ⟨x, l, c, m, n, D, Pl, hcs, _, hl, hm, hmm, hx, hel⟩
  · simp [Value.cells] at hcs
    obtain ⟨rfl, rfl, rfl⟩ := hcs
    exact ⟨[], ⟨rfl, .inl rfl⟩, by simp, by omega⟩
  · simp [Value.cells] at hcs
    obtain ⟨rfl, rfl, rfl⟩ := hcs
    simp only [Prod.mk.injEq] at hx
    have hm' : m = cap := by simpa using hmm
    subst hm'
    have hall : ∀ n ∈ d.weights Tryd.prog 57, n ≤ reachBytes := fun n hn => by
      have := List.all_eq_true.1 hsz _ (DataW.weights_mem_each ht hd n hn)
      simpa using this
    rw [hx.1] at hall
    have hlen := hall (((List.range len).map D).length + ((List.range (m - len)).map fun j => D (len + j)).length |> (· * Tryd.prog.bytesOf 64)) (by simp [DataW.weights, Tryd.underlying57])
    rw [Tryd.bytesOp8] at hlen
    simp only [List.length_map, List.length_range, reachBytes] at hlen
    have each : ∀ i, i < len → ∃ q : Op8, q.r.ok ∧ ∀ t, t < 7 → W.cell? (x.add (i * 7 + t)) = (ocs q)[t]? := by
      intro i hi
      obtain ⟨cs', h1, h2⟩ := hel i (by omega)
      rw [Tryd.cellsOp8] at h1
      obtain ⟨_, hl5, hcell⟩ := World.cells?_some h1
      obtain ⟨q, e1, e2⟩ := open_op8_in h2 (by simpa using hl5)
      refine ⟨q, e2, fun t ht5 => ?_⟩
      have := hcell t (by omega)
      rw [Deep.add_add] at this
      rw [this, e1]
    haveI : Inhabited Op8 := ⟨⟨0, 0, Rc.zero⟩⟩
    obtain ⟨f, hch⟩ := Deep.choose_lt each
    have hget : ∀ i e, ((List.range len).map f)[i]? = some e → i < len ∧ f i = e := by
      intro i e he
      have hi : i < len := by have := (List.getElem?_eq_some_iff.1 he).1; simpa using this
      exact ⟨hi, by simpa [hi] using he⟩
    refine ⟨(List.range len).map f, ⟨by simp, ?_⟩, ?_, by omega⟩
    · by_cases h0 : len = 0
      · exact .inl h0
      · right
        obtain ⟨b, off, sp⟩ := x
        have h1 := (hch 0 (by omega)).2 0 (by omega)
        have hsp : sp = none := by
          have : (ocs (f 0))[0]? = some (.int .i64 (f 0).kind) := rfl
          rw [this] at h1
          simpa [Addr.add] using World.cell?_spot h1
        subst hsp
        have hb : b < W.heap.size := by
          have h2 : W.cell? ((⟨b, off, none⟩ : Addr).add (0 * 7 + 0)) = some (.int .i64 (f 0).kind) := h1
          rw [add_at] at h2
          exact World.block_lt_of_cell? W _ h2
        refine ⟨b, off, rfl, hb, fun i e he => ?_⟩
        obtain ⟨hi, rfl⟩ := hget i e he
        obtain ⟨_, hc⟩ := hch i hi
        have hc' : ∀ t, t < 7 → W.cell? ⟨b, off + i * 7 + t, none⟩ = (ocs (f i))[t]? := fun t ht5 => by
          have := hc t ht5
          rw [add_at, ← Nat.add_assoc] at this
          exact this
        exact ⟨hc' 0 (by omega), hc' 1 (by omega), hc' 2 (by omega), hc' 3 (by omega), hc' 4 (by omega), hc' 5 (by omega), hc' 6 (by omega)⟩
    · intro e he
      obtain ⟨i, hi, rfl⟩ := List.mem_map.1 he
      exact (hch i (List.mem_range.1 hi)).1
end Go.Proofs.YtamoioebgnmcaaaDoor
