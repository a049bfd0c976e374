/-
  A list of truths that came in.
-/
import Derived.Test.YtchanbiioegegaaSlH
import Derived.Test.YtchanbiioegegaaEvtO
namespace Go.Proofs.Ytchanbiioegegaa
open Go.ChangeShapes Go.WideShapes Go.ChangeAt Go.RowKit
set_option linter.unusedVariables false
theorem sbytesB : Try.prog.bytesOf 4 = 1 := by kernel_rfl
theorem open_bsS {H : Type} {enc : TypeId × Value → H} {W : World} {a : Option Addr} {len cap : Nat} {d : DataW H} {p : List MemPlace} {ts : List TypeId} {ds : List (DataW H)} {j : Nat}
    (h : DataW.Trod enc Try.prog W 0 (fun _ => true) true 23 (.slice a len cap) d p)
    (hsz : (DataW.weightsEach Try.prog ts ds).all (· ≤ reachBytes) = true) (ht : ts[j]? = some 23) (hd : ds[j]? = some d) :
    ∃ bs, TRow sB W a len bs ∧ len * 1 ≤ 140737488355328 ∧ (a = none → len = 0 ∧ cap = 0) := by
  obtain ⟨fuel, hf⟩ := h
  rcases Deep.open_slice1 Try.underlying23 (by kernel_rfl) hf with ⟨hcs, _⟩ | ⟨x, l, c, m, n, V, D, Pl, hcs, _, hl, hm, hmm, hx, hel⟩
  · simp [Value.cells] at hcs
    obtain ⟨rfl, rfl, rfl⟩ := hcs
    exact ⟨[], TRow.nil _ _ _, by omega, fun _ => ⟨rfl, rfl⟩⟩
  · simp [Value.cells] at hcs
    obtain ⟨rfl, rfl, rfl⟩ := hcs
    simp only [Prod.mk.injEq] at hx
    have hm' : m = cap := by simpa using hmm
    subst hm'
    have hall : ∀ n ∈ d.weights Try.prog 23, n ≤ reachBytes := fun n hn => by
      have := List.all_eq_true.1 hsz _ (DataW.weights_mem_each ht hd n hn)
      simpa using this
    rw [hx.1] at hall
    have hlen := hall (((List.range len).map D).length + ((List.range (m - len)).map fun j => D (len + j)).length |> (· * Try.prog.bytesOf 4)) (by simp [DataW.weights, Try.underlying23])
    rw [sbytesB] at hlen
    simp only [List.length_map, List.length_range, reachBytes] at hlen
    have each : ∀ i, i < len → ∃ q : Bool, V i = .bool q := by
      intro i hi
      obtain ⟨_, h2⟩ := hel i (by omega)
      obtain ⟨q, e, _⟩ := DataW.trod_bool Try.underlying4 h2
      exact ⟨q, by simpa using e⟩
    obtain ⟨f, hch⟩ := Deep.choose_lt each
    refine ⟨(List.range len).map f, ⟨by simp, ?_⟩, by omega, fun e => by cases e⟩
    by_cases h0 : len = 0
    · exact .inl h0
    · right
      obtain ⟨b, off, sp⟩ := x
      have h1 := (hel 0 (by omega)).1
      have hsp : sp = none := by simpa [Addr.add] using World.cell?_spot h1
      subst hsp
      refine ⟨b, off, rfl, fun i v hv t u hu => ?_⟩
      have hi : i < len := by have := (List.getElem?_eq_some_iff.1 hv).1; simpa using this
      have hc := (hel i (by omega)).1
      rw [add_at, hch i hi] at hc
      have hv' : f i = v := by simpa [hi] using hv
      rw [hv'] at hc
      have ht0 : t = 0 := by have := get_lt hu; simpa [sB] using this
      subst ht0
      have hu' : u = .bool v := by simpa [sB] using hu.symm
      subst hu'
      show W.cell? ⟨b, off + i * 1 + 0, none⟩ = _
      rw [Nat.mul_one, Nat.add_zero]
      exact hc
end Go.Proofs.Ytchanbiioegegaa
