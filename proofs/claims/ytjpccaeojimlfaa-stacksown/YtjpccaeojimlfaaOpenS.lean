/-
  Lists of strings, and lists of such, that came in.
-/
import Derived.Test.YtjpccaeojimlfaaLawA
import Derived.ProofKit
import Derived.OpenShut
import Derived.SizedLaws
import Derived.SliceStrings
import Derived.Deep.Slices
namespace Go.Proofs.Ytjpccaeojimlfaa
open Go.ChangeShapes Go.WideShapes Go.ChangeAt Go.RowKit
theorem add_at (b off i : Nat) : (⟨b, off, none⟩ : Addr).add i = ⟨b, off + i, none⟩ := by unfold Addr.add; split <;> simp_all
theorem bytes9 : Try.prog.bytesOf 9 = 16 := by kernel_rfl
theorem bytesStrs : Try.prog.bytesOf 28 = 24 := by kernel_rfl
theorem weights_all {H : Type} {P : Program} {e : TypeId} {d : DataW H} {n : Nat} : ∀ {l : List (DataW H)}, d ∈ l → n ∈ d.weights P e → n ∈ DataW.weightsAll P e l
  | [], h, _ => by cases h
  | x :: r, h, hn => by
    rw [DataW.weightsAll, List.mem_append]
    rcases List.mem_cons.1 h with rfl | h
    · exact .inl hn
    · exact .inr (weights_all h hn)
theorem open_strs_in {H : Type} {enc : TypeId × Value → H} {W : World} {v : Value} {fuel : Nat} {d : DataW H} {p : List MemPlace}
    (hf : DataW.trod enc Try.prog W 0 (fun _ => true) true fuel 28 [v] = some (d, p)) (hw : ∀ n ∈ d.weights Try.prog 28, n ≤ reachBytes) :
    ∃ (z : List ByteArray) (ai : Option Addr) (ci : Nat), v = .slice ai z.length ci ∧ SRow W ai z.length z ∧ z.length ≤ ci ∧ z.length ≤ 8796093021952 ∧ (∀ s ∈ z, s.size ≤ maxLen) ∧ (ai = none → z.length = 0 ∧ ci = 0) := by
  rcases open_strings Try.underlying28 Try.underlying9 (by kernel_rfl) hf with ⟨hcs, _⟩ | ⟨x, l, c, zs, hcs, _, hl, hm, hz, hx, hcell, hwz⟩
  · simp at hcs
    subst hcs
    exact ⟨[], none, 0, rfl, ⟨rfl, .inl rfl⟩, Nat.le_refl _, by simp, by simp, fun _ => ⟨rfl, rfl⟩⟩
  · simp at hcs
    subst hcs
    simp only [Prod.mk.injEq] at hx
    have hz' : zs.length = c := by simpa using hz
    have hs := hw (((strs (zs.take l) : List (DataW H)).length + (strs (zs.drop l) : List (DataW H)).length) * Try.prog.bytesOf 9) (by rw [hx.1]; simp [DataW.weights, Try.underlying28])
    rw [bytes9] at hs
    simp only [strs, List.length_map, List.length_take, List.length_drop, reachBytes] at hs
    have hlen : (zs.take l).length = l := by rw [List.length_take]; omega
    refine ⟨zs.take l, some x, c, by rw [hlen], ?_, by omega, by omega, fun s hs => hwz s (List.mem_of_mem_take hs), fun h => (by cases h)⟩
    rw [hlen]
    refine ⟨hlen, ?_⟩
    by_cases h0 : l = 0
    · exact .inl h0
    · right
      obtain ⟨b, off, sp⟩ := x
      have h1 := hcell 0 (by omega)
      have hsp : sp = none := by simpa [Addr.add] using World.cell?_spot h1
      subst hsp
      refine ⟨b, off, rfl, fun i hi => ?_⟩
      have := hcell i (by omega)
      rw [add_at] at this
      rw [this]
      congr 2
      rw [List.getD_eq_getElem?_getD, List.getD_eq_getElem?_getD, List.getElem?_take_of_lt hi]
theorem open_strs {H : Type} {enc : TypeId × Value → H} {W : World} {a : Option Addr} {len cap : Nat} {d : DataW H} {p : List MemPlace} {ts : List TypeId} {ds : List (DataW H)} {j : Nat}
    (h : DataW.Trod enc Try.prog W 0 (fun _ => true) true 28 (.slice a len cap) d p)
    (hsz : (DataW.weightsEach Try.prog ts ds).all (· ≤ reachBytes) = true) (ht : ts[j]? = some 28) (hd : ds[j]? = some d) :
    ∃ l, SRow W a len l ∧ (len : Int) ≤ 140737488351232 ∧ len ≤ cap ∧ (∀ s ∈ l, s.size ≤ maxLen) := by
  obtain ⟨fuel, hf⟩ := h
  obtain ⟨z, ai, ci, h1, h2, h3, h4, h5, _⟩ := open_strs_in hf (fun n hn => by
    have := List.all_eq_true.1 hsz _ (DataW.weights_mem_each ht hd n hn)
    simpa using this)
  cases h1
  exact ⟨z, h2, by omega, h3, h5⟩
theorem open_stacks {H : Type} {enc : TypeId × Value → H} {W : World} {a : Option Addr} {len cap : Nat} {d : DataW H} {p : List MemPlace} {ts : List TypeId} {ds : List (DataW H)} {j : Nat}
    (h : DataW.Trod enc Try.prog W 0 (fun _ => true) true 22 (.slice a len cap) d p)
    (hsz : (DataW.weightsEach Try.prog ts ds).all (· ≤ reachBytes) = true) (ht : ts[j]? = some 22) (hd : ds[j]? = some d) :
    ∃ LS, PRow W a len LS ∧ (len : Int) ≤ 140737488351232 ∧ (∀ q ∈ LS, (q.length : Int) ≤ 9223372036854775806 ∧ ∀ s ∈ q, s.size ≤ maxLen) := by
  obtain ⟨fuel, hf⟩ := h
  rcases Deep.open_slice1 Try.underlying22 (by kernel_rfl) hf with ⟨hcs, _⟩ | ⟨x, l, c, m, n, V, D, Pl, hcs, _, hl, hm, hmm, hx, hel⟩
  · simp [Value.cells] at hcs
    obtain ⟨rfl, rfl, rfl⟩ := hcs
    exact ⟨[], ⟨rfl, .inl rfl⟩, by omega, by simp⟩
  · simp [Value.cells] at hcs
    obtain ⟨rfl, rfl, rfl⟩ := hcs
    simp only [Prod.mk.injEq] at hx
    have hm' : m = cap := by simpa using hmm
    subst hm'
    have hall : ∀ n ∈ d.weights Try.prog 22, n ≤ reachBytes := fun n hn => by
      have := List.all_eq_true.1 hsz _ (DataW.weights_mem_each ht hd n hn)
      simpa using this
    rw [hx.1] at hall
    have hlen := hall (((List.range len).map D).length + ((List.range (m - len)).map fun j => D (len + j)).length |> (· * Try.prog.bytesOf 28)) (by simp [DataW.weights, Try.underlying22])
    rw [bytesStrs] at hlen
    simp only [List.length_map, List.length_range, reachBytes] at hlen
    have each : ∀ i, i < len → ∃ q : List ByteArray × Option Addr × Nat, V i = .slice q.2.1 q.1.length q.2.2 ∧ SRow W q.2.1 q.1.length q.1 ∧ q.1.length ≤ q.2.2 ∧ q.1.length ≤ 8796093021952 ∧ (∀ s ∈ q.1, s.size ≤ maxLen) ∧ (q.2.1 = none → q.1.length = 0 ∧ q.2.2 = 0) := by
      intro i hi
      obtain ⟨_, h2⟩ := hel i (by omega)
      obtain ⟨z, ai, ci, r⟩ := open_strs_in h2 (fun n hn => hall n (by
        simp only [DataW.weights, Try.underlying22, List.mem_cons, List.mem_append]
        exact .inr (.inl (weights_all (List.mem_map.2 ⟨i, List.mem_range.2 hi, rfl⟩) hn))))
      exact ⟨(z, ai, ci), r⟩
    obtain ⟨f, hch⟩ := Deep.choose_lt each
    refine ⟨(List.range len).map (fun i => (f i).1), ⟨by simp, ?_⟩, by omega, ?_⟩
    · by_cases h0 : len = 0
      · exact .inl h0
      · right
        obtain ⟨b, off, sp⟩ := x
        have h1 := (hel 0 (by omega)).1
        have hsp : sp = none := by simpa [Addr.add] using World.cell?_spot h1
        subst hsp
        refine ⟨b, off, rfl, fun i hi => ?_⟩
        have ez : ((List.range len).map (fun i => (f i).1)).getD i [] = (f i).1 := by rw [List.getD_eq_getElem?_getD]; simp [hi]
        obtain ⟨r1, r2, r3, _⟩ := hch i hi
        have hc := (hel i (by omega)).1
        rw [add_at, r1] at hc
        rw [ez]
        exact ⟨(f i).2.1, (f i).2.2, hc, r2, r3⟩
    · intro q hq
      obtain ⟨i, hi, rfl⟩ := List.mem_map.1 hq
      obtain ⟨_, _, _, r4, r5, _⟩ := hch i (List.mem_range.1 hi)
      exact ⟨by omega, r5⟩
end Go.Proofs.Ytjpccaeojimlfaa
