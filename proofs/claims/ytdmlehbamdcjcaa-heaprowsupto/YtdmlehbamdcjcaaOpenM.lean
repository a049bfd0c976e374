/-
  Lists of lists that came in, and their bulk.
-/
import Derived.Test.YtdmlehbamdcjcaaOpenI
import Derived.Test.YtdmlehbamdcjcaaHpNI
namespace Go.Proofs.Ytdmlehbamdcjcaa
open Go.ChangeShapes Go.WideShapes Go.ChangeAt Go.RowKit
theorem total_bulk {α H : Type} (f : Nat → List α) (D : Nat → DataW H) (l : List Nat) (h : ∀ i ∈ l, (f i).length ≤ Rows.uptoBulk (D i)) : total (l.map f) ≤ Rows.uptoBulkAll (l.map D) := by
  induction l with
  | nil => simp [total]
  | cons i l ih =>
    have h1 := ih fun j hj => h j (List.mem_cons_of_mem _ hj)
    have h2 := h i (List.mem_cons_self ..)
    simp only [List.map_cons, total, Rows.uptoBulkAll]
    omega
/-- Lists, each of them where it lies. -/
structure Sits {α : Type} (y : Lay α) (w : World) (s : Sl) (C : List α) : Prop where
  row : TRow y w s.a s.n C
  nil : s.a = none → s.n = 0 ∧ s.c = 0
  cap : s.n ≤ s.c
instance : Inhabited Sl := ⟨⟨none, 0, 0⟩⟩
theorem open_rows {α : Type} [Inhabited α] (y : Lay α) {H : Type} {enc : TypeId × Value → H} {W : World} {t u e : TypeId} (ht : Try.prog.underlying t = some (.slice u)) (hct : Try.prog.cellsOf u = 1) (hu : Try.prog.underlying u = some (.slice e)) (hce : Try.prog.cellsOf e = y.z)
    (el : ∀ {n : Nat} {cs : List Value} {d : DataW H} {pl : List MemPlace}, DataW.trod enc Try.prog W 0 (fun _ => true) true n e cs = some (d, pl) → cs.length = y.z → ∃ q, cs = y.cs q)
    {a : Option Addr} {len cap : Nat} {d : DataW H} {p : List MemPlace}
    (h : DataW.Trod enc Try.prog W 0 (fun _ => true) true t (.slice a len cap) d p) :
    ∃ ss Cs, TRow laySl W a len ss ∧ Cs.length = len ∧ (∀ (j : Nat) (s : Sl) (C : List α), ss[j]? = some s → Cs[j]? = some C → Sits y W s C) ∧ len ≤ Rows.uptoBulk d ∧ total Cs ≤ Rows.uptoBulk d ∧ len ≤ cap ∧ (a = none → len = 0 ∧ cap = 0) := by
  obtain ⟨fuel, hf⟩ := h
  rcases Deep.open_slice ht hf with ⟨hcs, _⟩ | ⟨x, l, c, m, n, D, Pl, hcs, _, hl, hm, hmm, hx, hel⟩
  · simp [Value.cells] at hcs
    obtain ⟨rfl, rfl, rfl⟩ := hcs
    exact ⟨[], [], ⟨rfl, .inl rfl⟩, rfl, fun j s C hj => by simp at hj, by omega, by simp [total], by omega, fun _ => ⟨rfl, rfl⟩⟩
  · simp [Value.cells] at hcs
    obtain ⟨rfl, rfl, rfl⟩ := hcs
    simp only [Prod.mk.injEq] at hx
    have hm' : m = cap := by simpa using hmm
    subst hm'
    have hlb : len ≤ Rows.uptoBulk d := by
      have hb := bulk_slice (H := H) ((List.range len).map D) ((List.range (m - len)).map fun j => D (len + j))
      rw [hx.1]
      simp only [List.length_map, List.length_range] at hb
      omega
    have each : ∀ i, i < len → ∃ q : Sl × List α, W.cell? (x.add i) = some (.slice q.1.a q.1.n q.1.c) ∧ Sits y W q.1 q.2 ∧ q.2.length ≤ Rows.uptoBulk (D i) := by
      intro i hi
      obtain ⟨cs', h1, h2⟩ := hel i (by omega)
      rw [hct] at h1
      obtain ⟨_, hl5, hcell⟩ := World.cells?_some h1
      have h0 := hcell 0 (by omega)
      rw [Deep.add_add, Nat.mul_one, Nat.add_zero] at h0
      have key : ∀ (ai : Option Addr) (li ci : Nat), cs' = [.slice ai li ci] → ∃ q : Sl × List α, W.cell? (x.add i) = some (.slice q.1.a q.1.n q.1.c) ∧ Sits y W q.1 q.2 ∧ q.2.length ≤ Rows.uptoBulk (D i) := by
        intro ai li ci e1
        subst e1
        obtain ⟨L, k1, k2, k3, k4⟩ := open_layB y hu hce el (a := ai) (len := li) (cap := ci) ⟨_, h2⟩
        exact ⟨(⟨ai, li, ci⟩, L), by rw [h0]; rfl, ⟨k1, k4, k3⟩, by rw [k1.len]; exact k2⟩
      rcases Deep.open_slice hu h2 with ⟨hcs, _⟩ | ⟨x', l', c', m', n', D', Pl', hcs, _⟩
      · exact key none 0 0 hcs
      · exact key _ _ _ hcs
    obtain ⟨f, hch⟩ := Deep.choose_lt each
    have hget : ∀ {β : Type} (g : Sl × List α → β) (i : Nat) (e : β), ((List.range len).map fun i => g (f i))[i]? = some e → i < len ∧ g (f i) = e := by
      intro β g i e he
      have hi : i < len := by have := (List.getElem?_eq_some_iff.1 he).1; simpa using this
      exact ⟨hi, by simpa [hi] using he⟩
    refine ⟨(List.range len).map fun i => (f i).1, (List.range len).map fun i => (f i).2, ⟨by simp, ?_⟩, by simp, fun j s C h1 h2 => ?_, hlb, ?_, by omega, fun h => by cases h⟩
    · by_cases h0 : len = 0
      · exact .inl h0
      · right
        obtain ⟨b, off, sp⟩ := x
        have h1 := (hch 0 (by omega)).1
        have hsp : sp = none := by simpa [Addr.add] using World.cell?_spot h1
        subst hsp
        refine ⟨b, off, rfl, fun i e he k v hk => ?_⟩
        obtain ⟨hi, rfl⟩ := hget (fun q => q.1) i e he
        have h3 := (hch i hi).1
        rw [add_at] at h3
        have hk0 : k = 0 := by have := get_lt hk; simp [laySl] at this; exact this
        subst hk0
        simp [laySl] at hk
        subst hk
        simpa [laySl] using h3
    · obtain ⟨hi, rfl⟩ := hget (fun q => q.1) j s h1
      obtain ⟨_, rfl⟩ := hget (fun q => q.2) j C h2
      exact (hch j hi).2.1
    · have h1 := total_bulk (fun i => (f i).2) D (List.range len) (fun i hi => (hch i (List.mem_range.1 hi)).2.2)
      rw [hx.1]
      simp only [Rows.uptoBulk]
      omega
end Go.Proofs.Ytdmlehbamdcjcaa
