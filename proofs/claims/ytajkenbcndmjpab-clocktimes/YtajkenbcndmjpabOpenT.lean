/-
  Clocks that came in.
-/
import Derived.Test.YtajkenbcndmjpabClJ
import Derived.ProofKit
import Derived.OpenShut
import Derived.ChangeSame
import Derived.SizedLaws
import Derived.SliceStrings
import Derived.Deep.Slices
namespace Go.Proofs.Ytajkenbcndmjpab
open Go.ChangeShapes Go.WideShapes Go.ChangeAt Go.RowKit
theorem weights_all {H : Type} {P : Program} {e : TypeId} {d : DataW H} {n : Nat} : ∀ {l : List (DataW H)}, d ∈ l → n ∈ d.weights P e → n ∈ DataW.weightsAll P e l
  | [], h, _ => by cases h
  | x :: r, h, hn => by
    rw [DataW.weightsAll, List.mem_append]
    rcases List.mem_cons.1 h with rfl | h
    · exact .inl hn
    · exact .inr (weights_all h hn)
/-- A list that came in: what each entry keeps to is Pr. -/
theorem open_in {α : Type} [Inhabited α] (y : Lay α) (Pr : α → Prop) {H : Type} {enc : TypeId × Value → H} {W : World} {t e : TypeId} {bytes : Nat} (hu : Try.prog.underlying t = some (.slice e)) (hby : Try.prog.bytesOf e = bytes) (hce : Try.prog.cellsOf e = y.z)
    (el : ∀ {n : Nat} {cs : List Value} {d : DataW H} {pl : List MemPlace}, DataW.trod enc Try.prog W 0 (fun _ => true) true n e cs = some (d, pl) → cs.length = y.z → (∀ n ∈ d.weights Try.prog e, n ≤ reachBytes) → ∃ q, cs = y.cs q ∧ Pr q)
    {v : Value} {fuel : Nat} {d : DataW H} {p : List MemPlace}
    (hf : DataW.trod enc Try.prog W 0 (fun _ => true) true fuel t [v] = some (d, p)) (hw : ∀ n ∈ d.weights Try.prog t, n ≤ reachBytes) :
    ∃ (a : Option Addr) (len cap : Nat) (L : List α), v = .slice a len cap ∧ TRow y W a len L ∧ (∀ q ∈ L, Pr q) ∧ len * bytes ≤ 140737488351232 ∧ len ≤ cap ∧ (a = none → len = 0 ∧ cap = 0) := by
  rcases Deep.open_slice hu hf with ⟨hcs, _⟩ | ⟨x, len, c, m, n, D, Pl, hcs, _, hl, hm, hmm, hx, hel⟩
  · simp at hcs
    subst hcs
    exact ⟨none, 0, 0, [], rfl, ⟨rfl, .inl rfl⟩, fun q hq => by simp at hq, by omega, by omega, fun _ => ⟨rfl, rfl⟩⟩
  · simp at hcs
    subst hcs
    simp only [Prod.mk.injEq] at hx
    have hm' : m = c := by simpa using hmm
    subst hm'
    have hall := hw
    rw [hx.1] at hall
    have hlen := hall (((List.range len).map D).length + ((List.range (m - len)).map fun j => D (len + j)).length |> (· * Try.prog.bytesOf e)) (by simp [DataW.weights, hu])
    rw [hby] at hlen
    simp only [List.length_map, List.length_range, reachBytes] at hlen
    have hlb : len * bytes ≤ 140737488351232 := by
      have h1 : len * bytes ≤ (len + (m - len)) * bytes := Nat.mul_le_mul_right _ (by omega)
      omega
    have each : ∀ i, i < len → ∃ q : α, Pr q ∧ ∀ k, k < y.z → W.cell? (x.add (i * y.z + k)) = (y.cs q)[k]? := by
      intro i hi
      obtain ⟨cs', h1, h2⟩ := hel i (by omega)
      rw [hce] at h1
      obtain ⟨_, hl5, hcell⟩ := World.cells?_some h1
      obtain ⟨q, e1, e2⟩ := el h2 (by simpa using hl5) (fun n hn => hall n (by
        simp only [DataW.weights, hu, List.mem_cons, List.mem_append]
        exact .inr (.inl (weights_all (List.mem_map.2 ⟨i, List.mem_range.2 hi, rfl⟩) hn))))
      refine ⟨q, e2, fun k hk => ?_⟩
      have := hcell k (by omega)
      rw [Deep.add_add] at this
      rw [this, e1]
    obtain ⟨f, hch⟩ := Deep.choose_lt each
    have hget : ∀ i e, ((List.range len).map f)[i]? = some e → i < len ∧ f i = e := by
      intro i e he
      have hi : i < len := by have := (List.getElem?_eq_some_iff.1 he).1; simpa using this
      exact ⟨hi, by simpa [hi] using he⟩
    refine ⟨some x, len, m, (List.range len).map f, rfl, ⟨by simp, ?_⟩, ?_, hlb, by omega, fun h => by cases h⟩
    · by_cases h0 : len = 0
      · exact .inl h0
      · right
        obtain ⟨b, off, sp⟩ := x
        have h1 := (hch 0 (by omega)).2 0 y.pos
        have hsp : sp = none := by
          have h2 : (y.cs (f 0))[0]? = some ((y.cs (f 0))[0]'(by rw [y.len]; exact y.pos)) := List.getElem?_eq_getElem _
          rw [h2] at h1
          simpa [Addr.add] using World.cell?_spot h1
        subst hsp
        refine ⟨b, off, rfl, fun i e he k u hk => ?_⟩
        obtain ⟨hi, rfl⟩ := hget i e he
        have h3 := (hch i hi).2 k (by rw [← y.len (f i)]; exact get_lt hk)
        rw [add_at, ← Nat.add_assoc, hk] at h3
        exact h3
    · intro q hq
      obtain ⟨i, hi, rfl⟩ := List.mem_map.1 hq
      exact (hch i (List.mem_range.1 hi)).1
theorem five {α : Type} {l : List α} (h : l.length = 5) : ∃ a b c d e, l = [a, b, c, d, e] := by
  match l, h with
  | [a, b, c, d, e], _ => exact ⟨a, b, c, d, e, rfl⟩
theorem two {α : Type} {l : List α} (h : l.length = 2) : ∃ a b, l = [a, b] := by
  match l, h with
  | [a, b], _ => exact ⟨a, b, rfl⟩
theorem cells3 : Try.prog.cellsOf 3 = 1 := by kernel_rfl
theorem cellsT : Try.prog.cellsOf 43 = 2 := by kernel_rfl
theorem bytesT : Try.prog.bytesOf 43 = 16 := by kernel_rfl
instance : Inhabited Tk := ⟨⟨0, 0⟩⟩
/-- Its numbers have 64 bits. -/
def fitT (x : Tk) : Prop := -9223372036854775808 ≤ x.g ∧ x.g ≤ 9223372036854775807 ∧ -9223372036854775808 ≤ x.t ∧ x.t ≤ 9223372036854775807
section
variable {H : Type} {enc : TypeId × Value → H} {W : World}
theorem el_tick {n : Nat} {cs : List Value} {d : DataW H} {pl : List MemPlace} (h : DataW.trod enc Try.prog W 0 (fun _ => true) true n 43 cs = some (d, pl)) (hl : cs.length = layT.z) (_hw : ∀ n ∈ d.weights Try.prog 43, n ≤ reachBytes) : ∃ q, cs = layT.cs q ∧ fitT q := by
  obtain ⟨xs, k, _, hxd, _, hxs, hfs⟩ := DataW.trod_struct Try.underlying43 h
  have g0 := hfs 0 _ rfl
  have g1 := hfs 1 _ rfl
  obtain ⟨y0, y1, rfl⟩ := two hxs
  obtain ⟨v0, v1, rfl⟩ := two hl
  simp [cells3] at g0 g1
  obtain ⟨k0, e0, _, w0⟩ := DataW.trod_int Try.underlying3 g0
  obtain ⟨k1, e1, _, w1⟩ := DataW.trod_int Try.underlying3 g1
  simp at e0 e1
  subst e0 e1
  have b0 := Go.bounds_i64 w0
  have b1 := Go.bounds_i64 w1
  exact ⟨⟨k0, k1⟩, rfl, b0.1, b0.2, b1.1, b1.2⟩
/-- An argument that is a list. -/
theorem open_arg {α : Type} [Inhabited α] (y : Lay α) (Pr : α → Prop) {t e : TypeId} {bytes : Nat} (hu : Try.prog.underlying t = some (.slice e)) (hby : Try.prog.bytesOf e = bytes) (hce : Try.prog.cellsOf e = y.z)
    (el : ∀ {n : Nat} {cs : List Value} {d : DataW H} {pl : List MemPlace}, DataW.trod enc Try.prog W 0 (fun _ => true) true n e cs = some (d, pl) → cs.length = y.z → (∀ n ∈ d.weights Try.prog e, n ≤ reachBytes) → ∃ q, cs = y.cs q ∧ Pr q)
    {a : Option Addr} {len cap : Nat} {d : DataW H} {p : List MemPlace} {ts : List TypeId} {ds : List (DataW H)} {j : Nat}
    (h : DataW.Trod enc Try.prog W 0 (fun _ => true) true t (.slice a len cap) d p)
    (hsz : (DataW.weightsEach Try.prog ts ds).all (· ≤ reachBytes) = true) (ht : ts[j]? = some t) (hd : ds[j]? = some d) :
    ∃ L : List α, TRow y W a len L ∧ (∀ q ∈ L, Pr q) ∧ len * bytes ≤ 140737488351232 ∧ len ≤ cap ∧ (a = none → len = 0 ∧ cap = 0) := by
  obtain ⟨fuel, hf⟩ := h
  have hf' : DataW.trod enc Try.prog W 0 (fun _ => true) true fuel t [.slice a len cap] = some (d, p) := by simpa [Value.cells] using hf
  obtain ⟨a', len', cap', L, hv, h1, h2, h3, h4, h5⟩ := open_in y Pr hu hby hce el hf' (fun n hn => by
    have := List.all_eq_true.1 hsz _ (DataW.weights_mem_each ht hd n hn)
    simpa using this)
  injection hv with e1 e2 e3
  subst e1; subst e2; subst e3
  exact ⟨L, h1, h2, h3, h4, h5⟩
end
theorem cl_arg {W : World} {a : Option Addr} {n c : Nat} {L : List Tk} (h : TRow layT W a n L) (hb : n * 16 ≤ 140737488351232) (hc : n ≤ c) (h0 : a = none → n = 0 ∧ c = 0) : CL W (.slice a n c) L := ⟨a, n, c, rfl, ⟨h, hc, h0, by omega⟩⟩
end Go.Proofs.Ytajkenbcndmjpab
