/-
  Events, rows and numbers that came in.
-/
import Derived.Test.YtdlpffbeladgaabLwC
import Derived.ProofKit
import Derived.OpenShut
import Derived.ChangeSame
import Derived.SizedLaws
import Derived.SliceStrings
import Derived.Deep.Slices
namespace Go.Proofs.Ytdlpffbeladgaab
open Go.ChangeShapes Go.WideShapes Go.ChangeAt Go.RowKit
theorem weights_all {H : Type} {P : Program} {e : TypeId} {d : DataW H} {n : Nat} : ∀ {l : List (DataW H)}, d ∈ l → n ∈ d.weights P e → n ∈ DataW.weightsAll P e l
  | [], h, _ => by cases h
  | x :: r, h, hn => by
    rw [DataW.weightsAll, List.mem_append]
    rcases List.mem_cons.1 h with rfl | h
    · exact .inl hn
    · exact .inr (weights_all h hn)
/-- A list that came in: what each entry keeps to is Pr. -/
theorem open_in {α : Type} [Inhabited α] (y : Lay α) (Pr : α → Prop) {H : Type} {enc : TypeId × Value → H} {W : World} {t e : TypeId} {bytes : Nat} (hu : Try.prog.underlying t = some (.slice e)) (hby : Try.prog.bytesOf e = bytes) (hce : Try.prog.cellsOf e = y.z)
    (el : ∀ {n : Nat} {cs : List Value} {d : DataW H} {pl : List MemPlace}, DataW.trod enc Try.prog W 0 (fun _ => true) true n e cs = some (d, pl) → cs.length = y.z → (∀ n ∈ d.weights Try.prog e, n ≤ reachBytes) → ∃ q, cs = y.cs q ∧ Pr q)
    {v : Value} {fuel : Nat} {d : DataW H} {p : List MemPlace}
    (hf : DataW.trod enc Try.prog W 0 (fun _ => true) true fuel t [v] = some (d, p)) (hw : ∀ n ∈ d.weights Try.prog t, n ≤ reachBytes) :
    ∃ (a : Option Addr) (len cap : Nat) (L : List α), v = .slice a len cap ∧ TRow y W a len L ∧ (∀ q ∈ L, Pr q) ∧ len * bytes ≤ 140737488355328 ∧ len ≤ cap ∧ (a = none → len = 0 ∧ cap = 0) := by
  rcases Deep.open_slice hu hf with ⟨hcs, _⟩ | ⟨x, len, c, m, n, D, Pl, hcs, _, hl, hm, hmm, hx, hel⟩
  · simp at hcs
    subst hcs
    exact ⟨none, 0, 0, [], rfl, ⟨rfl, .inl rfl⟩, fun q hq => by simp at hq, by omega, by omega, fun _ => ⟨rfl, rfl⟩⟩
  · simp at hcs
    subst hcs
    simp only [Prod.mk.injEq] at hx
    have hm' : m = c := by simpa using hmm
    subst hm'
    have hall := hw
    rw [hx.1] at hall
    have hlen := hall (((List.range len).map D).length + ((List.range (m - len)).map fun j => D (len + j)).length |> (· * Try.prog.bytesOf e)) (by simp [DataW.weights, hu])
    rw [hby] at hlen
    simp only [List.length_map, List.length_range, reachBytes] at hlen
    have hlb : len * bytes ≤ 140737488355328 := by
      have h1 : len * bytes ≤ (len + (m - len)) * bytes := Nat.mul_le_mul_right _ (by omega)
      omega
    have each : ∀ i, i < len → ∃ q : α, Pr q ∧ ∀ k, k < y.z → W.cell? (x.add (i * y.z + k)) = (y.cs q)[k]? := by
      intro i hi
      obtain ⟨cs', h1, h2⟩ := hel i (by omega)
      rw [hce] at h1
      obtain ⟨_, hl5, hcell⟩ := World.cells?_some h1
      obtain ⟨q, e1, e2⟩ := el h2 (by simpa using hl5) (fun n hn => hall n (by
        simp only [DataW.weights, hu, List.mem_cons, List.mem_append]
        exact .inr (.inl (weights_all (List.mem_map.2 ⟨i, List.mem_range.2 hi, rfl⟩) hn))))
      refine ⟨q, e2, fun k hk => ?_⟩
      have := hcell k (by omega)
      rw [Deep.add_add] at this
      rw [this, e1]
    obtain ⟨f, hch⟩ := Deep.choose_lt each
    have hget : ∀ i e, ((List.range len).map f)[i]? = some e → i < len ∧ f i = e := by
      intro i e he
      have hi : i < len := by have := (List.getElem?_eq_some_iff.1 he).1; simpa using this
      exact ⟨hi, by simpa [hi] using he⟩
    refine ⟨some x, len, m, (List.range len).map f, rfl, ⟨by simp, ?_⟩, ?_, hlb, by omega, fun h => by cases h⟩
    · by_cases h0 : len = 0
      · exact .inl h0
      · right
        obtain ⟨b, off, sp⟩ := x
        have h1 := (hch 0 (by omega)).2 0 y.pos
        have hsp : sp = none := by
          have h2 : (y.cs (f 0))[0]? = some ((y.cs (f 0))[0]'(by rw [y.len]; exact y.pos)) := List.getElem?_eq_getElem _
          rw [h2] at h1
          simpa [Addr.add] using World.cell?_spot h1
        subst hsp
        refine ⟨b, off, rfl, fun i e he k u hk => ?_⟩
        obtain ⟨hi, rfl⟩ := hget i e he
        have h3 := (hch i hi).2 k (by rw [← y.len (f i)]; exact get_lt hk)
        rw [add_at, ← Nat.add_assoc, hk] at h3
        exact h3
    · intro q hq
      obtain ⟨i, hi, rfl⟩ := List.mem_map.1 hq
      exact (hch i (List.mem_range.1 hi)).1
theorem five {α : Type} {l : List α} (h : l.length = 5) : ∃ a b c d e, l = [a, b, c, d, e] := by
  match l, h with
  | [a, b, c, d, e], _ => exact ⟨a, b, c, d, e, rfl⟩
theorem two {α : Type} {l : List α} (h : l.length = 2) : ∃ a b, l = [a, b] := by
  match l, h with
  | [a, b], _ => exact ⟨a, b, rfl⟩
theorem cells3 : Try.prog.cellsOf 3 = 1 := by kernel_rfl
theorem cells9 : Try.prog.cellsOf 9 = 1 := by kernel_rfl
theorem cellsU : Try.prog.cellsOf 27 = 1 := by kernel_rfl
theorem cellsS : Try.prog.cellsOf 28 = 1 := by kernel_rfl
theorem cellsRs : Try.prog.cellsOf 38 = 1 := by kernel_rfl
theorem cellsV : Try.prog.cellsOf 30 = 5 := by kernel_rfl
theorem cellsR : Try.prog.cellsOf 42 = 5 := by kernel_rfl
theorem cellsW : Try.prog.cellsOf 40 = 2 := by kernel_rfl
theorem bytes3 : Try.prog.bytesOf 3 = 8 := by kernel_rfl
theorem bytes9 : Try.prog.bytesOf 9 = 16 := by kernel_rfl
theorem bytesV : Try.prog.bytesOf 30 = 56 := by kernel_rfl
theorem bytesR : Try.prog.bytesOf 42 = 40 := by kernel_rfl
theorem bytesW : Try.prog.bytesOf 40 = 32 := by kernel_rfl
section
variable {H : Type} {enc : TypeId × Value → H} {W : World}
theorem el_int {n : Nat} {cs : List Value} {d : DataW H} {pl : List MemPlace} (h : DataW.trod enc Try.prog W 0 (fun _ => true) true n 3 cs = some (d, pl)) (_hl : cs.length = layN.z) (_hw : ∀ n ∈ d.weights Try.prog 3, n ≤ reachBytes) : ∃ q, cs = layN.cs q ∧ True := by
  obtain ⟨k, e, _, _⟩ := DataW.trod_int Try.underlying3 h
  exact ⟨k, e, trivial⟩
theorem el_str {n : Nat} {cs : List Value} {d : DataW H} {pl : List MemPlace} (h : DataW.trod enc Try.prog W 0 (fun _ => true) true n 9 cs = some (d, pl)) (_hl : cs.length = layS.z) (_hw : ∀ n ∈ d.weights Try.prog 9, n ≤ reachBytes) : ∃ q, cs = layS.cs q ∧ True := by
  obtain ⟨s, e, _⟩ := DataW.trod_string Try.underlying9 h
  exact ⟨s, e, trivial⟩
theorem el_rec {n : Nat} {cs : List Value} {d : DataW H} {pl : List MemPlace} (h : DataW.trod enc Try.prog W 0 (fun _ => true) true n 42 cs = some (d, pl)) (hl : cs.length = layR.z) (_hw : ∀ n ∈ d.weights Try.prog 42, n ≤ reachBytes) : ∃ q, cs = layR.cs q ∧ True := by
  obtain ⟨xs, k, _, hxd, _, hxs, hfs⟩ := DataW.trod_struct Try.underlying42 h
  have g0 := hfs 0 _ rfl
  have g1 := hfs 1 _ rfl
  have g2 := hfs 2 _ rfl
  have g3 := hfs 3 _ rfl
  have g4 := hfs 4 _ rfl
  obtain ⟨y0, y1, y2, y3, y4, rfl⟩ := five hxs
  obtain ⟨v0, v1, v2, v3, v4, rfl⟩ := five hl
  simp [cells3, cellsU] at g0 g1 g2 g3 g4
  obtain ⟨k0, e0, _, _⟩ := DataW.trod_int Try.underlying3 g0
  obtain ⟨k1, e1, _, _⟩ := DataW.trod_int Try.underlying3 g1
  obtain ⟨k2, e2, _, _⟩ := DataW.trod_int Try.underlying27 g2
  obtain ⟨k3, e3, _, _⟩ := DataW.trod_int Try.underlying27 g3
  obtain ⟨k4, e4, _, _⟩ := DataW.trod_int Try.underlying3 g4
  simp at e0 e1 e2 e3 e4
  subst e0 e1 e2 e3 e4
  exact ⟨⟨k0, k1, k2, k3, k4⟩, rfl, trivial⟩
theorem el_ev {n : Nat} {cs : List Value} {d : DataW H} {pl : List MemPlace} (h : DataW.trod enc Try.prog W 0 (fun _ => true) true n 30 cs = some (d, pl)) (hl : cs.length = layV.z) (hw : ∀ n ∈ d.weights Try.prog 30, n ≤ reachBytes) : ∃ q, cs = layV.cs q ∧ Stk W q := by
  obtain ⟨xs, k, _, hxd, _, hxs, hfs⟩ := DataW.trod_struct Try.underlying30 h
  have g0 := hfs 0 _ rfl
  have g1 := hfs 1 _ rfl
  have g2 := hfs 2 _ rfl
  have g3 := hfs 3 _ rfl
  have g4 := hfs 4 _ rfl
  obtain ⟨y0, y1, y2, y3, y4, rfl⟩ := five hxs
  obtain ⟨v0, v1, v2, v3, v4, rfl⟩ := five hl
  simp [cells3, cellsU, cellsS] at g0 g1 g2 g3 g4
  obtain ⟨k0, e0, _, _⟩ := DataW.trod_int Try.underlying3 g0
  obtain ⟨k1, e1, _, _⟩ := DataW.trod_int Try.underlying3 g1
  obtain ⟨k2, e2, _, _⟩ := DataW.trod_int Try.underlying27 g2
  obtain ⟨k3, e3, _, _⟩ := DataW.trod_int Try.underlying27 g3
  obtain ⟨sa, sn, sc, S, e4, hS, _, hb, _, h0⟩ := open_in layS (fun _ => True) Try.underlying28 bytes9 cells9 el_str g4 (fun n hn => hw n (by
    rw [(Prod.mk.inj hxd).1]
    simp [DataW.weights, Try.underlying30, DataW.weightsEach, hn]))
  simp at e0 e1 e2 e3
  subst e0 e1 e2 e3 e4
  exact ⟨⟨k0, k1, k2, k3, ⟨sa, sn, sc⟩⟩, rfl, S, hS, h0, hb⟩
/-- A row that can be read. -/
def Rcs (w : World) (r : Rw) : Prop := ∃ R : List Rc, TRow layR w r.s.a r.s.n R ∧ (r.s.a = none → r.s.n = 0 ∧ r.s.c = 0) ∧ r.s.n ≤ r.s.c ∧ r.s.n * 40 ≤ 140737488355328
theorem el_row {n : Nat} {cs : List Value} {d : DataW H} {pl : List MemPlace} (h : DataW.trod enc Try.prog W 0 (fun _ => true) true n 40 cs = some (d, pl)) (hl : cs.length = layW.z) (hw : ∀ n ∈ d.weights Try.prog 40, n ≤ reachBytes) : ∃ q, cs = layW.cs q ∧ Rcs W q := by
  obtain ⟨xs, k, _, hxd, _, hxs, hfs⟩ := DataW.trod_struct Try.underlying40 h
  have g0 := hfs 0 _ rfl
  have g1 := hfs 1 _ rfl
  obtain ⟨y0, y1, rfl⟩ := two hxs
  obtain ⟨v0, v1, rfl⟩ := two hl
  simp [cells3, cellsRs] at g0 g1
  obtain ⟨k0, e0, _, _⟩ := DataW.trod_int Try.underlying3 g0
  obtain ⟨sa, sn, sc, S, e4, hS, _, hb, hc, h0⟩ := open_in layR (fun _ => True) Try.underlying38 bytesR cellsR el_rec g1 (fun n hn => hw n (by
    rw [(Prod.mk.inj hxd).1]
    simp [DataW.weights, Try.underlying40, DataW.weightsEach, hn]))
  simp at e0
  subst e0 e4
  exact ⟨⟨k0, ⟨sa, sn, sc⟩⟩, rfl, S, hS, h0, hc, hb⟩
/-- An argument that is a list. -/
theorem open_arg {α : Type} [Inhabited α] (y : Lay α) (Pr : α → Prop) {t e : TypeId} {bytes : Nat} (hu : Try.prog.underlying t = some (.slice e)) (hby : Try.prog.bytesOf e = bytes) (hce : Try.prog.cellsOf e = y.z)
    (el : ∀ {n : Nat} {cs : List Value} {d : DataW H} {pl : List MemPlace}, DataW.trod enc Try.prog W 0 (fun _ => true) true n e cs = some (d, pl) → cs.length = y.z → (∀ n ∈ d.weights Try.prog e, n ≤ reachBytes) → ∃ q, cs = y.cs q ∧ Pr q)
    {a : Option Addr} {len cap : Nat} {d : DataW H} {p : List MemPlace} {ts : List TypeId} {ds : List (DataW H)} {j : Nat}
    (h : DataW.Trod enc Try.prog W 0 (fun _ => true) true t (.slice a len cap) d p)
    (hsz : (DataW.weightsEach Try.prog ts ds).all (· ≤ reachBytes) = true) (ht : ts[j]? = some t) (hd : ds[j]? = some d) :
    ∃ L : List α, TRow y W a len L ∧ (∀ q ∈ L, Pr q) ∧ len * bytes ≤ 140737488355328 ∧ len ≤ cap ∧ (a = none → len = 0 ∧ cap = 0) := by
  obtain ⟨fuel, hf⟩ := h
  have hf' : DataW.trod enc Try.prog W 0 (fun _ => true) true fuel t [.slice a len cap] = some (d, p) := by simpa [Value.cells] using hf
  obtain ⟨a', len', cap', L, hv, h1, h2, h3, h4, h5⟩ := open_in y Pr hu hby hce el hf' (fun n hn => by
    have := List.all_eq_true.1 hsz _ (DataW.weights_mem_each ht hd n hn)
    simpa using this)
  injection hv with e1 e2 e3
  subst e1; subst e2; subst e3
  exact ⟨L, h1, h2, h3, h4, h5⟩
/-- Rows that came in. -/
theorem rows_arg {a : Option Addr} {n : Nat} {L : List Rw} (h : TRow layW W a n L) (hp : ∀ r ∈ L, Rcs W r) : ∃ Gs, Rdz W a n L Gs ∧ ∀ G ∈ Gs, G.2.length * 40 ≤ 140737488355328 := by
  have : ∀ i, i < L.length → ∃ R : List Rc, ∀ r, L[i]? = some r → TRow layR W r.s.a r.s.n R ∧ (r.s.a = none → r.s.n = 0 ∧ r.s.c = 0) ∧ r.s.n ≤ r.s.c ∧ r.s.n * 40 ≤ 140737488355328 := by
    intro i hi
    obtain ⟨R, hR⟩ := hp L[i] (List.getElem_mem hi)
    exact ⟨R, fun r hr => by rw [List.getElem?_eq_getElem hi] at hr; rw [← Option.some.inj hr]; exact hR⟩
  obtain ⟨f, hf⟩ := Deep.choose_lt this
  refine ⟨(List.range L.length).map fun i => ((L.getD i default).g, f i), ⟨h, by simp, fun k rw G h1 h2 => ?_⟩, fun G hG => ?_⟩
  · have hk := get_lt h1
    simp [hk] at h2
    subst h2
    obtain ⟨q1, q2, q3, _⟩ := hf k hk rw h1
    refine ⟨?_, q1, q2, q3⟩
    rw [List.getElem?_eq_getElem hk] at h1
    rw [Option.some.inj h1]
  · obtain ⟨i, hi, rfl⟩ := List.mem_map.1 hG
    have hi' := List.mem_range.1 hi
    obtain ⟨q1, _, _, q4⟩ := hf i hi' _ (List.getElem?_eq_getElem hi')
    dsimp only
    rw [q1.len]; exact q4
end
end Go.Proofs.Ytdlpffbeladgaab
