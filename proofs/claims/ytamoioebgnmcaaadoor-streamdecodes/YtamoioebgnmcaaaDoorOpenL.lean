/-
  A list of lists of bytes that came in.
-/
import Derived.Test.YtamoioebgnmcaaaDoorLists
import Derived.ProofKit
import Derived.OpenShut
import Derived.SizedLaws
import Derived.SliceStrings
import Derived.Deep.Slices
namespace Go.Proofs.YtamoioebgnmcaaaDoor
open Go.ChangeShapes Go.WideShapes Go.ChangeAt Go.RowKit
theorem add_at (b off i : Nat) : (⟨b, off, none⟩ : Addr).add i = ⟨b, off + i, none⟩ := by unfold Addr.add; split <;> simp_all
theorem weights_all {H : Type} {P : Program} {e : TypeId} {d : DataW H} {n : Nat} : ∀ {l : List (DataW H)}, d ∈ l → n ∈ d.weights P e → n ∈ DataW.weightsAll P e l
  | [], h, _ => by cases h
  | x :: r, h, hn => by
    rw [DataW.weightsAll, List.mem_append]
    rcases List.mem_cons.1 h with rfl | h
    · exact .inl hn
    · exact .inr (weights_all h hn)
theorem bytes5 : Tryd.prog.bytesOf 5 = 1 := by kernel_rfl
theorem bytesBs : Tryd.prog.bytesOf 35 = 24 := by kernel_rfl
theorem open_row_in {H : Type} {enc : TypeId × Value → H} {W : World} {v : Value} {fuel : Nat} {d : DataW H} {p : List MemPlace}
    (hf : DataW.trod enc Tryd.prog W 0 (fun _ => true) true fuel 35 [v] = some (d, p)) (hw : ∀ n ∈ d.weights Tryd.prog 35, n ≤ reachBytes) :
    ∃ (z : List Int) (ai : Option Addr) (ci : Nat), v = .slice ai z.length ci ∧ Row W ai z.length z ∧ (ai = none → z.length = 0) ∧ z.length ≤ ci ∧ z.length ≤ 140737488351232 ∧ (ai = none → ci = 0) := by
  rcases open_ints Tryd.underlying35 Tryd.underlying5 (by kernel_rfl) hf with ⟨hcs, _⟩ | ⟨x, l, c, zs, hcs, _, hl, hm, hz, hx, hcell, hwz⟩
  · simp at hcs
    subst hcs
    exact ⟨[], none, 0, rfl, Row.empty _ _, fun _ => rfl, Nat.le_refl _, by simp, fun _ => rfl⟩
  · simp at hcs
    subst hcs
    simp only [Prod.mk.injEq] at hx
    have hz' : zs.length = c := by simpa using hz
    have hs := hw (((lits .u8 (zs.take l) : List (DataW H)).length + (lits .u8 (zs.drop l) : List (DataW H)).length) * Tryd.prog.bytesOf 5) (by rw [hx.1]; simp [DataW.weights, Tryd.underlying35])
    rw [bytes5] at hs
    simp only [lits, List.length_map, List.length_take, List.length_drop, reachBytes] at hs
    have hlen : (zs.take l).length = l := by rw [List.length_take]; omega
    refine ⟨zs.take l, some x, c, by rw [hlen], ?_, fun h => (by cases h), by omega, by omega, fun h => (by cases h)⟩
    rw [hlen]
    refine ⟨hlen, fun i => ?_, ?_⟩
    · by_cases hi : i < l
      · rw [List.getElem?_take, if_pos hi]
        by_cases hi2 : i < zs.length
        · have := Go.bounds_u8 (hwz zs[i] (List.getElem_mem hi2))
          simpa [hi2] using this
        · rw [List.getElem?_eq_none (by omega)]; simp
      · rw [List.getElem?_take, if_neg hi]; simp
    · by_cases h0 : l = 0
      · exact .inl h0
      · right
        obtain ⟨b, off, sp⟩ := x
        have h1 := hcell 0 (by omega)
        have hsp : sp = none := by simpa [Addr.add] using World.cell?_spot h1
        subst hsp
        refine ⟨b, off, rfl, fun i hi => ?_⟩
        have := hcell i (by omega)
        have ha := add_at b off i
        rw [ha] at this
        rw [this]
        simp [hi]
theorem open_lists {H : Type} {enc : TypeId × Value → H} {W : World} {a : Option Addr} {len cap : Nat} {d : DataW H} {p : List MemPlace} {ts : List TypeId} {ds : List (DataW H)} {j : Nat}
    (h : DataW.Trod enc Tryd.prog W 0 (fun _ => true) true 24 (.slice a len cap) d p)
    (hsz : (DataW.weightsEach Tryd.prog ts ds).all (· ≤ reachBytes) = true) (ht : ts[j]? = some 24) (hd : ds[j]? = some d) :
    ∃ bs, LRow W a len bs ∧ (len : Int) * 24 ≤ 140737488351232 ∧ (∀ z ∈ bs, z.length ≤ 140737488351232) ∧ (∀ z ∈ bs, ∀ y ∈ z, 0 ≤ y ∧ y ≤ 255) ∧
      (∀ i, i < len → ∀ b off ai li ci, a = some ⟨b, off, none⟩ → W.cell? ⟨b, off + i, none⟩ = some (.slice ai li ci) → ai = none → ci = 0) := by
  obtain ⟨fuel, hf⟩ := h
  rcases Deep.open_slice1 Tryd.underlying24 (by kernel_rfl) hf with ⟨hcs, _⟩ | ⟨x, l, c, m, n, V, D, Pl, hcs, _, hl, hm, hmm, hx, hel⟩
  · simp [Value.cells] at hcs
    obtain ⟨rfl, rfl, rfl⟩ := hcs
    exact ⟨[], ⟨rfl, .inl rfl⟩, by omega, by simp, by simp, fun i hi => by omega⟩
  · simp [Value.cells] at hcs
    obtain ⟨rfl, rfl, rfl⟩ := hcs
    simp only [Prod.mk.injEq] at hx
    have hm' : m = cap := by simpa using hmm
    subst hm'
    have hall : ∀ n ∈ d.weights Tryd.prog 24, n ≤ reachBytes := fun n hn => by
      have := List.all_eq_true.1 hsz _ (DataW.weights_mem_each ht hd n hn)
      simpa using this
    rw [hx.1] at hall
    have hlen := hall (((List.range len).map D).length + ((List.range (m - len)).map fun j => D (len + j)).length |> (· * Tryd.prog.bytesOf 35)) (by simp [DataW.weights, Tryd.underlying24])
    rw [bytesBs] at hlen
    simp only [List.length_map, List.length_range, reachBytes] at hlen
    have each : ∀ i, i < len → ∃ q : List Int × Option Addr × Nat, V i = .slice q.2.1 q.1.length q.2.2 ∧ Row W q.2.1 q.1.length q.1 ∧ (q.2.1 = none → q.1.length = 0) ∧ q.1.length ≤ q.2.2 ∧ q.1.length ≤ 140737488351232 ∧ (q.2.1 = none → q.2.2 = 0) := by
      intro i hi
      obtain ⟨_, h2⟩ := hel i (by omega)
      obtain ⟨z, ai, ci, r⟩ := open_row_in h2 (fun n hn => hall n (by
        simp only [DataW.weights, Tryd.underlying24, List.mem_cons, List.mem_append]
        exact .inr (.inl (weights_all (List.mem_map.2 ⟨i, List.mem_range.2 hi, rfl⟩) hn))))
      exact ⟨(z, ai, ci), r⟩
    obtain ⟨f, hch⟩ := Deep.choose_lt each
    have hmem : ∀ z ∈ (List.range len).map (fun i => (f i).1), ∃ i, i < len ∧ (f i).1 = z := by
      intro z hz
      obtain ⟨i, hi, e⟩ := List.mem_map.1 hz
      exact ⟨i, List.mem_range.1 hi, e⟩
    refine ⟨(List.range len).map (fun i => (f i).1), ⟨by simp, ?_⟩, by omega, ?_, ?_, ?_⟩
    · by_cases h0 : len = 0
      · exact .inl h0
      · right
        obtain ⟨b, off, sp⟩ := x
        have h1 := (hel 0 (by omega)).1
        have hsp : sp = none := by simpa [Addr.add] using World.cell?_spot h1
        subst hsp
        refine ⟨b, off, rfl, fun i z hz => ?_⟩
        have hi : i < len := by have := (List.getElem?_eq_some_iff.1 hz).1; simpa using this
        have ez : (f i).1 = z := by simpa [hi] using hz
        obtain ⟨r1, r2, r3, r4, r5, _⟩ := hch i hi
        have hc := (hel i (by omega)).1
        have ha := add_at b off i
        rw [ha, r1] at hc
        rw [ez] at hc r2 r3 r4 r5
        exact ⟨(f i).2.1, (f i).2.2, hc, r2, r3, r4, by omega⟩
    · intro z hz
      obtain ⟨i, hi, rfl⟩ := hmem z hz
      exact (hch i hi).2.2.2.2.1
    · intro z hz
      obtain ⟨i, hi, rfl⟩ := hmem z hz
      exact mem_of_u8 (hch i hi).2.1.u8
    · intro i hi b off ai li ci ea hc hn
      cases ea
      obtain ⟨r1, _, _, _, _, r6⟩ := hch i hi
      have hc' := (hel i (by omega)).1
      have ha := add_at b off i
      rw [ha, hc, r1] at hc'
      simp at hc'
      rw [hc'.2.2]
      exact r6 (by rw [← hc'.1]; exact hn)
end Go.Proofs.YtamoioebgnmcaaaDoor
