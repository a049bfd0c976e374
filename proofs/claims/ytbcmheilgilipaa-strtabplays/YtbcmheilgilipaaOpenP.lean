/-
  A script of steps that came in.
-/
import Derived.Test.YtbcmheilgilipaaPlayF
import Derived.Test.YtbcmheilgilipaaOpenL
import Derived.Deep.Slices
namespace Go.Proofs.Ytbcmheilgilipaa
open Go.ChangeShapes Go.WideShapes Go.ChangeAt Go.RowKit
instance : Inhabited SOp := ⟨⟨0, 0, ⟨#[]⟩, 0⟩⟩
theorem bytes42 : Try.prog.bytesOf 42 = 40 := by kernel_rfl
theorem cells42 : Try.prog.cellsOf 42 = 4 := by kernel_rfl
theorem cells3 : Try.prog.cellsOf 3 = 1 := by kernel_rfl
theorem cells9 : Try.prog.cellsOf 9 = 1 := by kernel_rfl
theorem open_ops {H : Type} {enc : TypeId × Value → H} {W : World} {a : Option Addr} {len cap : Nat} {d : DataW H} {p : List MemPlace} {ts : List TypeId} {ds : List (DataW H)} {j : Nat}
    (h : DataW.Trod enc Try.prog W 0 (fun _ => true) true 35 (.slice a len cap) d p)
    (hsz : (DataW.weightsEach Try.prog ts ds).all (· ≤ reachBytes) = true) (ht : ts[j]? = some 35) (hd : ds[j]? = some d) :
    ∃ f, Ops W a len f ∧ (len : Int) ≤ 9223372036854775806 := by
  obtain ⟨fuel, hf⟩ := h
  rcases Deep.open_slice Try.underlying35 hf with ⟨hcs, _⟩ | ⟨x, l, c, m, n, D, Pl, hcs, _, hl, hm, hmm, hx, hel⟩
  · simp [Value.cells] at hcs
    obtain ⟨rfl, rfl, rfl⟩ := hcs
    exact ⟨fun _ => default, ⟨fun i hi => by omega, .inl rfl⟩, by omega⟩
  · simp [Value.cells] at hcs
    obtain ⟨rfl, rfl, rfl⟩ := hcs
    simp only [Prod.mk.injEq] at hx
    have hm' : m = cap := by simpa using hmm
    subst hm'
    have hall : ∀ n ∈ d.weights Try.prog 35, n ≤ reachBytes := fun n hn => by
      have := List.all_eq_true.1 hsz _ (DataW.weights_mem_each ht hd n hn)
      simpa using this
    rw [hx.1] at hall
    have hlen := hall (((List.range len).map D).length + ((List.range (m - len)).map fun j => D (len + j)).length |> (· * Try.prog.bytesOf 42)) (by simp [DataW.weights, Try.underlying35])
    rw [bytes42] at hlen
    simp only [List.length_map, List.length_range, reachBytes] at hlen
    have each : ∀ i, i < len → ∃ q : SOp, q.ok ∧ W.cell? (x.add (i * 4)) = some (.int .i64 q.kd) ∧ W.cell? (x.add (i * 4 + 1)) = some (.int .i64 q.wh) ∧ W.cell? (x.add (i * 4 + 2)) = some (.string q.s) ∧ W.cell? (x.add (i * 4 + 3)) = some (.int .i64 q.N) := by
      intro i hi
      obtain ⟨cs', h1, h2⟩ := hel i (by omega)
      rw [cells42] at h1
      obtain ⟨_, hlen, hcell⟩ := World.cells?_some h1
      obtain ⟨xs, k, _, _, _, hxs, hfs⟩ := DataW.trod_struct Try.underlying42 h2
      have g0 := hfs 0 _ rfl
      have g1 := hfs 1 _ rfl
      have g2 := hfs 2 _ rfl
      have g3 := hfs 3 _ rfl
      match xs, hxs with
      | [y0, y1, y2, y3], _ =>
      match cs', hlen with
      | [v0, v1, v2, v3], _ =>
        simp [cells3, cells9] at g0 g1 g2 g3
        obtain ⟨kd, e0, _, w0⟩ := DataW.trod_int Try.underlying3 g0
        obtain ⟨wh, e1, _, w1⟩ := DataW.trod_int Try.underlying3 g1
        obtain ⟨s, e2, _, w2⟩ := DataW.trod_string Try.underlying9 g2
        obtain ⟨N, e3, _, w3⟩ := DataW.trod_int Try.underlying3 g3
        simp at e0 e1 e2 e3
        subst e0 e1 e2 e3
        have k0 := hcell 0 (by omega)
        have k1 := hcell 1 (by omega)
        have k2 := hcell 2 (by omega)
        have k3 := hcell 3 (by omega)
        rw [Deep.add_add] at k0 k1 k2 k3
        exact ⟨⟨kd, wh, s, N⟩, ⟨w2, Go.bounds_i64 w3, Go.bounds_i64 w1⟩, by simpa using k0, by simpa using k1, by simpa using k2, by simpa using k3⟩
    obtain ⟨f, hf⟩ := Deep.choose_lt each
    refine ⟨f, ⟨fun i hi => (hf i hi).1, ?_⟩, by omega⟩
    by_cases h0 : len = 0
    · exact .inl h0
    · right
      obtain ⟨b, off, sp⟩ := x
      have h1 := (hf 0 (by omega)).2.1
      have hsp : sp = none := by simpa [Addr.add] using World.cell?_spot h1
      subst hsp
      refine ⟨b, off, rfl, fun i hi => ?_⟩
      obtain ⟨_, r0, r1, r2, r3⟩ := hf i hi
      rw [add_at] at r0 r1 r2 r3
      exact ⟨r0, by rw [Nat.add_assoc]; exact r1, by rw [Nat.add_assoc]; exact r2, by rw [Nat.add_assoc]; exact r3⟩
end Go.Proofs.Ytbcmheilgilipaa
