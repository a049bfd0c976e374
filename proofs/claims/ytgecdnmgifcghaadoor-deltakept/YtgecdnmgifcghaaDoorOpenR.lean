/-
  A list of records that came in.
-/
import Derived.Test.YtgecdnmgifcghaaDoorOpenD
import Derived.Test.YtgecdnmgifcghaaDoorRowA
namespace Go.Proofs.YtgecdnmgifcghaaDoor
open Go.ChangeShapes Go.WideShapes Go.ChangeAt Go.RowKit
theorem add_at (b off i : Nat) : (⟨b, off, none⟩ : Addr).add i = ⟨b, off + i, none⟩ := by unfold Addr.add; split <;> simp_all
theorem open_recs {H : Type} {enc : TypeId × Value → H} {W : World} {a : Option Addr} {len cap : Nat} {d : DataW H} {p : List MemPlace} {ts : List TypeId} {ds : List (DataW H)} {j : Nat}
    (h : DataW.Trod enc Tryd.prog W 0 (fun _ => true) true 22 (.slice a len cap) d p)
    (hsz : (DataW.weightsEach Tryd.prog ts ds).all (· ≤ reachBytes) = true) (ht : ts[j]? = some 22) (hd : ds[j]? = some d) :
    ∃ rs, RRow W a len rs ∧ (∀ r ∈ rs, r.ok) ∧ len * 40 ≤ 140737488355328 ∧ len ≤ cap ∧ (a = none → len = 0 ∧ cap = 0) := by
  obtain ⟨fuel, hf⟩ := h
  rcases Deep.open_slice Tryd.underlying22 hf with ⟨hcs, _⟩ | ⟨x, l, c, m, n, D, Pl, hcs, _, hl, hm, hmm, hx, hel⟩
  · simp [Value.cells] at hcs
    obtain ⟨rfl, rfl, rfl⟩ := hcs
    exact ⟨[], ⟨rfl, .inl rfl⟩, by simp, by omega, by omega, fun _ => ⟨rfl, rfl⟩⟩
  · simp [Value.cells] at hcs
    obtain ⟨rfl, rfl, rfl⟩ := hcs
    simp only [Prod.mk.injEq] at hx
    have hm' : m = cap := by simpa using hmm
    subst hm'
    have hall : ∀ n ∈ d.weights Tryd.prog 22, n ≤ reachBytes := fun n hn => by
      have := List.all_eq_true.1 hsz _ (DataW.weights_mem_each ht hd n hn)
      simpa using this
    rw [hx.1] at hall
    have hlen := hall (((List.range len).map D).length + ((List.range (m - len)).map fun j => D (len + j)).length |> (· * Tryd.prog.bytesOf 32)) (by simp [DataW.weights, Tryd.underlying22])
    rw [Tryd.bytesR] at hlen
    simp only [List.length_map, List.length_range, reachBytes] at hlen
    have each : ∀ i, i < len → ∃ q : Rc, q.ok ∧ ∀ t, t < 5 → W.cell? (x.add (i * 5 + t)) = (rcs q)[t]? := by
      intro i hi
      obtain ⟨cs', h1, h2⟩ := hel i (by omega)
      rw [Tryd.cellsR] at h1
      obtain ⟨_, hl5, hcell⟩ := World.cells?_some h1
      obtain ⟨q, e1, e2, _⟩ := open_rc_in h2 (by simpa using hl5)
      refine ⟨q, e2, fun t ht5 => ?_⟩
      have := hcell t (by omega)
      rw [Deep.add_add] at this
      rw [this, e1]; rfl
    haveI : Inhabited Rc := ⟨Rc.zero⟩
    obtain ⟨f, hch⟩ := Deep.choose_lt each
    have hget : ∀ i e, ((List.range len).map f)[i]? = some e → i < len ∧ f i = e := by
      intro i e he
      have hi : i < len := by have := (List.getElem?_eq_some_iff.1 he).1; simpa using this
      exact ⟨hi, by simpa [hi] using he⟩
    refine ⟨(List.range len).map f, ⟨by simp, ?_⟩, ?_, by omega, by omega, fun h => by cases h⟩
    · by_cases h0 : len = 0
      · exact .inl h0
      · right
        obtain ⟨b, off, sp⟩ := x
        have h1 := (hch 0 (by omega)).2 0 (by omega)
        have hsp : sp = none := by
          have : (rcs (f 0))[0]? = some (.int .i64 (f 0).stamp) := rfl
          rw [this] at h1
          simpa [Addr.add] using World.cell?_spot h1
        subst hsp
        refine ⟨b, off, rfl, fun i e he => ?_⟩
        obtain ⟨hi, rfl⟩ := hget i e he
        obtain ⟨_, hc⟩ := hch i hi
        have hc' : ∀ t, t < 5 → W.cell? ⟨b, off + i * 5 + t, none⟩ = (rcs (f i))[t]? := fun t ht5 => by
          have := hc t ht5
          rw [add_at, ← Nat.add_assoc] at this
          exact this
        exact ⟨hc' 0 (by omega), hc' 1 (by omega), hc' 2 (by omega), hc' 3 (by omega), hc' 4 (by omega)⟩
    · intro e he
      obtain ⟨i, hi, rfl⟩ := List.mem_map.1 he
      exact (hch i (List.mem_range.1 hi)).1
end Go.Proofs.YtgecdnmgifcghaaDoor
