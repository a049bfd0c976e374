/-
  A script of steps that came in.
-/
import Derived.Test.YtjpccaeojimlfaaPlyJ
import Derived.Test.YtjpccaeojimlfaaOpenS
import Derived.Deep.Slices
namespace Go.Proofs.Ytjpccaeojimlfaa
open Go.ChangeShapes Go.WideShapes Go.ChangeAt Go.RowKit
instance : Inhabited SOp5 := ⟨⟨0, 0, none, 0, [], ⟨#[]⟩, 0⟩⟩
theorem bytesOp : Try.prog.bytesOf 93 = 64 := by kernel_rfl
theorem cellsOp : Try.prog.cellsOf 93 = 5 := by kernel_rfl
theorem cells9 : Try.prog.cellsOf 9 = 1 := by kernel_rfl
theorem cellsStrs : Try.prog.cellsOf 28 = 1 := by kernel_rfl
theorem five {α : Type} {l : List α} (h : l.length = 5) : ∃ a b c d e, l = [a, b, c, d, e] := by
  match l, h with
  | [a, b, c, d, e], _ => exact ⟨a, b, c, d, e, rfl⟩
theorem open_ops {H : Type} {enc : TypeId × Value → H} {W : World} {a : Option Addr} {len cap : Nat} {d : DataW H} {p : List MemPlace} {ts : List TypeId} {ds : List (DataW H)} {j : Nat}
    (h : DataW.Trod enc Try.prog W 0 (fun _ => true) true 55 (.slice a len cap) d p)
    (hsz : (DataW.weightsEach Try.prog ts ds).all (· ≤ reachBytes) = true) (ht : ts[j]? = some 55) (hd : ds[j]? = some d) :
    ∃ f, Ops5 W a len f ∧ (len : Int) ≤ 9223372036854775806 := by
  obtain ⟨fuel, hf⟩ := h
  rcases Deep.open_slice Try.underlying55 hf with ⟨hcs, _⟩ | ⟨x, l, c, m, n, D, Pl, hcs, _, hl, hm, hmm, hx, hel⟩
  · simp [Value.cells] at hcs
    obtain ⟨rfl, rfl, rfl⟩ := hcs
    exact ⟨fun _ => default, ⟨fun i hi => by omega, .inl rfl⟩, by omega⟩
  · simp [Value.cells] at hcs
    obtain ⟨rfl, rfl, rfl⟩ := hcs
    simp only [Prod.mk.injEq] at hx
    have hm' : m = cap := by simpa using hmm
    subst hm'
    have hall : ∀ n ∈ d.weights Try.prog 55, n ≤ reachBytes := fun n hn => by
      have := List.all_eq_true.1 hsz _ (DataW.weights_mem_each ht hd n hn)
      simpa using this
    rw [hx.1] at hall
    have hlen := hall (((List.range len).map D).length + ((List.range (m - len)).map fun j => D (len + j)).length |> (· * Try.prog.bytesOf 93)) (by simp [DataW.weights, Try.underlying55])
    rw [bytesOp] at hlen
    simp only [List.length_map, List.length_range, reachBytes] at hlen
    have each : ∀ i, i < len → ∃ q : SOp5, q.ok W ∧ W.cell? (x.add (i * 5)) = some (.int .i64 q.kd) ∧ W.cell? (x.add (i * 5 + 1)) = some (.int .i64 q.wh) ∧ W.cell? (x.add (i * 5 + 2)) = some (.slice q.sa q.ls.length q.sc) ∧ W.cell? (x.add (i * 5 + 3)) = some (.string q.s) ∧ W.cell? (x.add (i * 5 + 4)) = some (.int .i64 q.n) := by
      intro i hi
      obtain ⟨cs', h1, h2⟩ := hel i (by omega)
      rw [cellsOp] at h1
      obtain ⟨_, hlen, hcell⟩ := World.cells?_some h1
      obtain ⟨xs, k, _, hxd, _, hxs, hfs⟩ := DataW.trod_struct Try.underlying93 h2
      have g0 := hfs 0 _ rfl
      have g1 := hfs 1 _ rfl
      have g2 := hfs 2 _ rfl
      have g3 := hfs 3 _ rfl
      have g4 := hfs 4 _ rfl
      obtain ⟨y0, y1, y2, y3, y4, rfl⟩ := five hxs
      obtain ⟨v0, v1, v2, v3, v4, rfl⟩ := five hlen
      · simp [cells3, cells9, cellsStrs] at g0 g1 g2 g3 g4
        obtain ⟨kd, e0, _, w0⟩ := DataW.trod_int Try.underlying3 g0
        obtain ⟨wh, e1, _, w1⟩ := DataW.trod_int Try.underlying3 g1
        obtain ⟨z, ai, ci, e2, hs, hzc, hzl, hz, hnil⟩ := open_strs_in g2 (fun n hn => hall n (by
          simp only [DataW.weights, Try.underlying55, List.mem_cons, List.mem_append]
          refine .inr (.inl (weights_all (List.mem_map.2 ⟨i, List.mem_range.2 hi, rfl⟩) ?_))
          rw [(Prod.mk.inj hxd).1]
          simp [DataW.weights, Try.underlying93, DataW.weightsEach, hn]))
        obtain ⟨s, e3, _, w3⟩ := DataW.trod_string Try.underlying9 g3
        obtain ⟨N, e4, _, w4⟩ := DataW.trod_int Try.underlying3 g4
        simp at e0 e1 e3 e4
        subst e0 e1 e2 e3 e4
        have k0 := hcell 0 (by omega)
        have k1 := hcell 1 (by omega)
        have k2 := hcell 2 (by omega)
        have k3 := hcell 3 (by omega)
        have k4 := hcell 4 (by omega)
        rw [Deep.add_add] at k0 k1 k2 k3 k4
        exact ⟨⟨kd, wh, ai, ci, z, s, N⟩, ⟨w3, Go.bounds_i64 w4, hs, hnil, by dsimp only; omega, hz⟩, by simpa using k0, by simpa using k1, by simpa using k2, by simpa using k3, by simpa using k4⟩
    obtain ⟨f, hf⟩ := Deep.choose_lt each
    refine ⟨f, ⟨fun i hi => (hf i hi).1, ?_⟩, by omega⟩
    by_cases h0 : len = 0
    · exact .inl h0
    · right
      obtain ⟨b, off, sp⟩ := x
      have h1 := (hf 0 (by omega)).2.1
      have hsp : sp = none := by simpa [Addr.add] using World.cell?_spot h1
      subst hsp
      refine ⟨b, off, rfl, fun i hi => ?_⟩
      obtain ⟨_, r0, r1, r2, r3, r4⟩ := hf i hi
      rw [add_at] at r0 r1 r2 r3 r4
      exact ⟨r0, by rw [Nat.add_assoc]; exact r1, by rw [Nat.add_assoc]; exact r2, by rw [Nat.add_assoc]; exact r3, by rw [Nat.add_assoc]; exact r4⟩
end Go.Proofs.Ytjpccaeojimlfaa
