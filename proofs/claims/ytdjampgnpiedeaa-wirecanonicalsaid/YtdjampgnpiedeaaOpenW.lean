/-
  The words that came in; what the bound on the bulk gives.
-/
import Derived.Test.YtdjampgnpiedeaaText
import Derived.Test.YtdjampgnpiedeaaOpens
import Derived.Deep.Slices
import Derived.Deep.Strs
namespace Go.Proofs.Ytdjampgnpiedeaa
open Go.ChangeShapes Go.WideShapes Go.ChangeAt Go.RowKit

theorem Try.bytes51 : Try.prog.bytesOf 51 = 24 := by kernel_rfl
theorem add_none (b off j : Nat) : (⟨b, off, none⟩ : Addr).add j = ⟨b, off + j, none⟩ := by unfold Addr.add; split <;> simp_all
/-- A []Word that came in. -/
theorem open_words {H : Type} {enc : TypeId × Value → H} {W : World} {a : Option Addr} {len cap : Nat} {d : DataW H} {p : List MemPlace} {ts : List TypeId} {ds : List (DataW H)} {j : Nat}
    (h : DataW.Trod enc Try.prog W 0 (fun _ => true) true 48 (.slice a len cap) d p)
    (hsz : (DataW.weightsEach Try.prog ts ds).all (· ≤ reachBytes) = true) (ht : ts[j]? = some 48) (hd : ds[j]? = some d) :
    ∃ ws, Wds W a len ws ∧ (len : Int) ≤ 5864062014634 := by
  obtain ⟨fuel, hf⟩ := h
  have c51 : Try.prog.cellsOf 51 = 3 := by kernel_rfl
  have c4 : Try.prog.cellsOf 4 = 1 := by kernel_rfl
  have c22 : Try.prog.cellsOf 22 = 1 := by kernel_rfl
  have c2 : Try.prog.cellsOf 2 = 1 := by kernel_rfl
  rcases Deep.open_slice Try.underlying48 hf with ⟨hcs, _⟩ | ⟨x, l, c, m, n, D, Pl, hcs, _, hl, hm, hmm, hx, hel⟩
  · simp [Value.cells] at hcs
    obtain ⟨rfl, rfl, rfl⟩ := hcs
    exact ⟨[], ⟨rfl, fun d hd => (by cases hd), .inl rfl⟩, by omega⟩
  · simp [Value.cells] at hcs
    obtain ⟨rfl, rfl, rfl⟩ := hcs
    simp only [Prod.mk.injEq] at hx
    have hm' : m = cap := by simpa using hmm
    subst hm'
    have hb := sized_slice hsz (j := j) (t := 48) (e := 51) ht (by rw [hd, hx.1]) Try.underlying48
    rw [Try.bytes51] at hb
    simp only [List.length_map, List.length_range, reachBytes] at hb
    have each : ∀ i, i < len → ∃ q : Wd, q.ok ∧ W.cell? (x.add (i * 3)) = some (.bool q.s) ∧ W.cell? (x.add (i * 3 + 1)) = some (.int .u64 q.x) ∧ W.cell? (x.add (i * 3 + 2)) = some (.int .i64 q.n) := by
      intro i hi
      obtain ⟨cs', h1, h2⟩ := hel i (by omega)
      rw [c51] at h1
      obtain ⟨_, hlen, hcell⟩ := World.cells?_some h1
      obtain ⟨y0, y1, y2, k, _, _, g0, g1, g2⟩ := Deep.trod_struct3 Try.underlying51 h2
      match cs', hlen with
      | [v0, v1, v2], _ =>
        simp [c4, c22, c2] at g0 g1 g2
        obtain ⟨s, e0, _⟩ := DataW.trod_bool Try.underlying4 g0
        obtain ⟨u, e1, _, w1⟩ := DataW.trod_int Try.underlying22 g1
        obtain ⟨z, e2, _, w2⟩ := DataW.trod_int Try.underlying2 g2
        simp at e0 e1 e2
        subst e0 e1 e2
        have k0 := hcell 0 (by omega)
        have k1 := hcell 1 (by omega)
        have k2 := hcell 2 (by omega)
        rw [Deep.add_add] at k0 k1 k2
        exact ⟨⟨s, u, z⟩, ⟨(Go.bounds_u64 w1).1, (Go.bounds_u64 w1).2, (Go.bounds_i64 w2).1, (Go.bounds_i64 w2).2⟩, by simpa using k0, by simpa using k1, by simpa using k2⟩
    obtain ⟨f, hf⟩ := Deep.choose_lt each
    refine ⟨(List.range len).map f, ⟨by simp, ?_, ?_⟩, by omega⟩
    · intro d hd
      obtain ⟨i, hi, rfl⟩ := List.mem_map.1 hd
      exact (hf i (List.mem_range.1 hi)).1
    · by_cases h0 : len = 0
      · exact .inl h0
      · right
        obtain ⟨b, off, sp⟩ := x
        have h1 := (hf 0 (by omega)).2.1
        have hsp : sp = none := by simpa [Addr.add] using World.cell?_spot h1
        subst hsp
        refine ⟨b, off, rfl, fun i hi => ?_⟩
        have hi' : i < len := by simpa using hi
        obtain ⟨_, r0, r1, r2⟩ := hf i hi'
        rw [add_none] at r0 r1 r2
        simp only [List.getElem_map, List.getElem_range]
        exact ⟨r0, by rw [Nat.add_assoc]; exact r1, by rw [Nat.add_assoc]; exact r2⟩
end Go.Proofs.Ytdjampgnpiedeaa
