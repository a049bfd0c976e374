/-
  Events that came in.
-/
import Derived.Test.YtnengkdddckjaaaRdE
import Derived.ProofKit
import Derived.OpenShut
import Derived.SizedLaws
import Derived.SliceStrings
import Derived.Deep.Slices
import Derived.ShutString
import Derived.ChangeSame
namespace Go.Proofs.Ytnengkdddckjaaa.E6
open Go.ChangeShapes Go.WideShapes Go.ChangeAt Go.RowKit
theorem bulk_one {H : Type} (d : DataW H) : 1 ≤ Rows.uptoBulk d := by
  cases d with
  | lit l => cases l <;> simp [Rows.uptoBulk]
  | nil => simp [Rows.uptoBulk]
  | ptr d => simp [Rows.uptoBulk]
  | slice elems spare => simp [Rows.uptoBulk]
  | agg parts => simp [Rows.uptoBulk]
  | iface t d => simp [Rows.uptoBulk]
  | map entries => simp [Rows.uptoBulk]
  | held h => simp [Rows.uptoBulk]
theorem bulk_len {H : Type} (l : List (DataW H)) : l.length ≤ Rows.uptoBulkAll l := by
  induction l with
  | nil => simp [Rows.uptoBulkAll]
  | cons x r ih => have := bulk_one x; simp only [Rows.uptoBulkAll, List.length_cons]; omega
theorem bulk_slice {H : Type} (elems spare : List (DataW H)) : elems.length + spare.length + 1 ≤ Rows.uptoBulk (.slice elems spare) := by
  have h1 := bulk_len elems
  have h2 := bulk_len spare
  simp only [Rows.uptoBulk]
  omega

theorem bulk_mem {H : Type} {x : DataW H} : ∀ {l : List (DataW H)}, x ∈ l → Rows.uptoBulk x ≤ Rows.uptoBulkAll l
  | [], h => by cases h
  | y :: r, h => by
    simp only [Rows.uptoBulkAll]
    rcases List.mem_cons.1 h with rfl | h
    · omega
    · have := bulk_mem h
      omega
theorem add_at (b off i : Nat) : (⟨b, off, none⟩ : Addr).add i = ⟨b, off + i, none⟩ := by unfold Addr.add; split <;> simp_all
theorem bytes9 : Try.prog.bytesOf 9 = 16 := by kernel_rfl
theorem weights_all {H : Type} {P : Program} {e : TypeId} {d : DataW H} {n : Nat} : ∀ {l : List (DataW H)}, d ∈ l → n ∈ d.weights P e → n ∈ DataW.weightsAll P e l
  | [], h, _ => by cases h
  | x :: r, h, hn => by
    rw [DataW.weightsAll, List.mem_append]
    rcases List.mem_cons.1 h with rfl | h
    · exact .inl hn
    · exact .inr (weights_all h hn)
theorem open_strs_in {H : Type} {enc : TypeId × Value → H} {W : World} {v : Value} {fuel : Nat} {d : DataW H} {p : List MemPlace}
    (hf : DataW.trod enc Try.prog W 0 (fun _ => true) true fuel 36 [v] = some (d, p)) (hw : ∀ n ∈ d.weights Try.prog 36, n ≤ reachBytes) :
    ∃ (z : List ByteArray) (ai : Option Addr) (ci : Nat), v = .slice ai z.length ci ∧ SRow W ai z.length z ∧ z.length ≤ ci ∧ z.length ≤ 8796093021952 ∧ (∀ s ∈ z, s.size ≤ maxLen) ∧ (ai = none → z.length = 0 ∧ ci = 0) ∧ z.length ≤ Rows.uptoBulk d := by
  rcases open_strings Try.underlying36 Try.underlying9 (by kernel_rfl) hf with ⟨hcs, _⟩ | ⟨x, l, c, zs, hcs, _, hl, hm, hz, hx, hcell, hwz⟩
  · simp at hcs
    subst hcs
    exact ⟨[], none, 0, rfl, ⟨rfl, .inl rfl⟩, Nat.le_refl _, by simp, by simp, fun _ => ⟨rfl, rfl⟩, Nat.zero_le _⟩
  · simp at hcs
    subst hcs
    simp only [Prod.mk.injEq] at hx
    have hz' : zs.length = c := by simpa using hz
    have hs := hw (((strs (zs.take l) : List (DataW H)).length + (strs (zs.drop l) : List (DataW H)).length) * Try.prog.bytesOf 9) (by rw [hx.1]; simp [DataW.weights, Try.underlying36])
    rw [bytes9] at hs
    simp only [strs, List.length_map, List.length_take, List.length_drop, reachBytes] at hs
    have hlen : (zs.take l).length = l := by rw [List.length_take]; omega
    have hbk : (zs.take l).length ≤ Rows.uptoBulk d := by
      have h9 := bulk_slice (strs (zs.take l) : List (DataW H)) (strs (zs.drop l) : List (DataW H))
      rw [hx.1]
      simp only [strs, List.length_map] at h9
      simp only [strs]
      omega
    refine ⟨zs.take l, some x, c, by rw [hlen], ?_, by omega, by omega, fun s hs => hwz s (List.mem_of_mem_take hs), fun h => (by cases h), hbk⟩
    rw [hlen]
    refine ⟨hlen, ?_⟩
    by_cases h0 : l = 0
    · exact .inl h0
    · right
      obtain ⟨b, off, sp⟩ := x
      have h1 := hcell 0 (by omega)
      have hsp : sp = none := by simpa [Addr.add] using World.cell?_spot h1
      subst hsp
      refine ⟨b, off, rfl, fun i hi => ?_⟩
      have := hcell i (by omega)
      rw [add_at] at this
      rw [this]
      congr 2
      rw [List.getD_eq_getElem?_getD, List.getD_eq_getElem?_getD, List.getElem?_take_of_lt hi]
instance : Inhabited Ev := ⟨⟨0, 0, 0, 0, none, 0, []⟩⟩
theorem ocells3 : Try.prog.cellsOf 3 = 1 := by kernel_rfl
theorem ocellsU : Try.prog.cellsOf 35 = 1 := by kernel_rfl
theorem ocellsS : Try.prog.cellsOf 36 = 1 := by kernel_rfl
theorem ocellsE : Try.prog.cellsOf 38 = 5 := by kernel_rfl
theorem obytesE : Try.prog.bytesOf 38 = 56 := by kernel_rfl
theorem u64_bd {a : Int} (h : (Lit.int .u64 a).wf = true) : 0 ≤ a ∧ a ≤ 18446744073709551615 := by
  have hw : IntKind.u64.min ≤ a ∧ a ≤ IntKind.u64.max := by simpa [Lit.wf] using h
  have e1 : IntKind.u64.min = 0 := by decide
  have e2 : IntKind.u64.max = 18446744073709551615 := by decide
  rw [e1, e2] at hw
  exact hw
theorem ofive {α : Type} {l : List α} (h : l.length = 5) : ∃ a b c d e, l = [a, b, c, d, e] := by
  match l, h with
  | [a, b, c, d, e], _ => exact ⟨a, b, c, d, e, rfl⟩
/-- Five cells that are read as an event. -/
theorem open_ev_in {H : Type} {enc : TypeId × Value → H} {W : World} {cs : List Value} {fuel : Nat} {d : DataW H} {p : List MemPlace}
    (hf : DataW.trod enc Try.prog W 0 (fun _ => true) true fuel 38 cs = some (d, p)) (hw : ∀ n ∈ d.weights Try.prog 38, n ≤ reachBytes) :
    ∃ e : Ev, cs = ecell e ∧ e.ok ∧ e.at W ∧ e.ls.length ≤ Rows.uptoBulk d := by
  obtain ⟨xs, k, _, hxd, hlen, hxs, hfs⟩ := DataW.trod_struct Try.underlying38 hf
  rw [ocellsE] at hlen
  have g0 := hfs 0 _ rfl
  have g1 := hfs 1 _ rfl
  have g2 := hfs 2 _ rfl
  have g3 := hfs 3 _ rfl
  have g4 := hfs 4 _ rfl
  obtain ⟨y0, y1, y2, y3, y4, rfl⟩ := ofive hxs
  obtain ⟨v0, v1, v2, v3, v4, rfl⟩ := ofive hlen
  simp [ocells3, ocellsU, ocellsS] at g0 g1 g2 g3 g4
  obtain ⟨g, e0, _, _⟩ := DataW.trod_int Try.underlying3 g0
  obtain ⟨k', e1, _, _⟩ := DataW.trod_int Try.underlying3 g1
  obtain ⟨o, e2, _, w2⟩ := DataW.trod_int Try.underlying35 g2
  obtain ⟨a, e3, _, w3⟩ := DataW.trod_int Try.underlying35 g3
  obtain ⟨z, ai, ci, e4, hs, hzc, hzl, hz, hnil, hbz⟩ := open_strs_in g4 (fun n hn => hw n (by
    rw [(Prod.mk.inj hxd).1]
    simp [DataW.weights, Try.underlying38, DataW.weightsEach, hn]))
  simp at e0 e1 e2 e3
  subst e0 e1 e2 e3 e4
  refine ⟨⟨g, k', o, a, ai, ci, z⟩, rfl, ⟨u64_bd w2, u64_bd w3, hzl, hz, hzc, hnil⟩, hs, ?_⟩
  rw [(Prod.mk.inj hxd).1]
  simp only [Rows.uptoBulk, List.map_cons, List.map_nil, Rows.uptoBulkAll]
  show z.length ≤ _
  omega
set_option maxRecDepth 20000 in
theorem open_ev {H : Type} {enc : TypeId × Value → H} {W : World} {b0 : Nat} {r : Reach} {v : Value} {d : DataW H} {p : List MemPlace} {ts : List TypeId} {ds : List (DataW H)} {j : Nat}
    (hv : Value.okWide Try.prog W r b0 38 v) (h : DataW.Trod enc Try.prog W 0 (fun _ => true) true 38 v d p)
    (hsz : (DataW.weightsEach Try.prog ts ds).all (· ≤ reachBytes) = true) (ht : ts[j]? = some 38) (hd : ds[j]? = some d) :
    ∃ e : Ev, v = .agg #[.int .i64 e.g, .int .i64 e.k, .int .u64 e.o, .int .u64 e.a, .slice e.sa e.ls.length e.sc] ∧ e.ok ∧ e.at W := by
  obtain ⟨cs, rfl, hcs⟩ := okWide_struct Try.underlying38 hv
  obtain ⟨fuel, hf⟩ := h
  obtain ⟨e, h1, h2, h3⟩ := open_ev_in hf (fun n hn => by
    have := List.all_eq_true.1 hsz _ (DataW.weights_mem_each ht hd n hn)
    simpa using this)
  refine ⟨e, ?_, h2, h3.1⟩
  have h4 : cs.toList = ecell e := h1
  congr 1
  exact Array.toList_inj.1 h4
set_option maxRecDepth 20000 in
/-- A list of events that came in. -/
theorem open_evs {H : Type} {enc : TypeId × Value → H} {W : World} {a : Option Addr} {len cap : Nat} {d : DataW H} {p : List MemPlace} {ts : List TypeId} {ds : List (DataW H)} {j : Nat}
    (h : DataW.Trod enc Try.prog W 0 (fun _ => true) true 22 (.slice a len cap) d p)
    (hsz : (DataW.weightsEach Try.prog ts ds).all (· ≤ reachBytes) = true) (ht : ts[j]? = some 22) (hd : ds[j]? = some d) :
    ∃ es, ERow W a len es ∧ (∀ e ∈ es, e.ok) ∧ len * 56 ≤ 140737488355328 ∧ len ≤ cap ∧ (a = none → len = 0 ∧ cap = 0) ∧ len ≤ Rows.uptoBulk d ∧ (∀ e ∈ es, e.ls.length ≤ Rows.uptoBulk d) := by
  obtain ⟨fuel, hf⟩ := h
  rcases Deep.open_slice Try.underlying22 hf with ⟨hcs, _⟩ | ⟨x, l, c, m, n, D, Pl, hcs, _, hl, hm, hmm, hx, hel⟩
  · simp [Value.cells] at hcs
    obtain ⟨rfl, rfl, rfl⟩ := hcs
    exact ⟨[], ⟨rfl, .inl rfl⟩, by simp, by omega, by omega, fun _ => ⟨rfl, rfl⟩, Nat.zero_le _, by simp⟩
  · simp [Value.cells] at hcs
    obtain ⟨rfl, rfl, rfl⟩ := hcs
    simp only [Prod.mk.injEq] at hx
    have hm' : m = cap := by simpa using hmm
    subst hm'
    have hall : ∀ n ∈ d.weights Try.prog 22, n ≤ reachBytes := fun n hn => by
      have := List.all_eq_true.1 hsz _ (DataW.weights_mem_each ht hd n hn)
      simpa using this
    rw [hx.1] at hall
    have hlen := hall (((List.range len).map D).length + ((List.range (m - len)).map fun j => D (len + j)).length |> (· * Try.prog.bytesOf 38)) (by simp [DataW.weights, Try.underlying22])
    rw [obytesE] at hlen
    simp only [List.length_map, List.length_range, reachBytes] at hlen
    have hlb : len ≤ Rows.uptoBulk d := by
      have hb := bulk_slice (H := H) ((List.range len).map D) ((List.range (m - len)).map fun j => D (len + j))
      rw [hx.1]
      simp only [List.length_map, List.length_range] at hb
      omega
    have each : ∀ i, i < len → ∃ q : Ev, (q.ok ∧ q.ls.length ≤ Rows.uptoBulk d) ∧ q.at W ∧ ∀ t, t < 5 → W.cell? (x.add (i * 5 + t)) = (ecell q)[t]? := by
      intro i hi
      obtain ⟨cs', h1, h2⟩ := hel i (by omega)
      rw [ocellsE] at h1
      obtain ⟨_, hl5, hcell⟩ := World.cells?_some h1
      obtain ⟨q, e1, e2, e3, e4⟩ := open_ev_in h2 (fun n hn => hall n (by
        simp only [DataW.weights, Try.underlying22, List.mem_cons, List.mem_append]
        exact .inr (.inl (weights_all (List.mem_map.2 ⟨i, List.mem_range.2 hi, rfl⟩) hn))))
      refine ⟨q, ⟨e2, Nat.le_trans e4 ?_⟩, e3, fun t ht5 => ?_⟩
      · rw [hx.1]
        have h9 := bulk_mem (List.mem_map.2 ⟨i, List.mem_range.2 hi, rfl⟩ : D i ∈ (List.range len).map D)
        simp only [Rows.uptoBulk]
        omega
      have := hcell t (by omega)
      rw [Deep.add_add] at this
      rw [this, e1]
    obtain ⟨f, hch⟩ := Deep.choose_lt each
    have hget : ∀ i e, ((List.range len).map f)[i]? = some e → i < len ∧ f i = e := by
      intro i e he
      have hi : i < len := by have := (List.getElem?_eq_some_iff.1 he).1; simpa using this
      exact ⟨hi, by simpa [hi] using he⟩
    refine ⟨(List.range len).map f, ⟨by simp, ?_⟩, ?_, by omega, by omega, (fun h => by cases h), hlb, ?_⟩
    · by_cases h0 : len = 0
      · exact .inl h0
      · right
        obtain ⟨b, off, sp⟩ := x
        have h1 := (hch 0 (by omega)).2.2 0 (by omega)
        have hsp : sp = none := by
          have : (ecell (f 0))[0]? = some (.int .i64 (f 0).g) := rfl
          rw [this] at h1
          simpa [Addr.add] using World.cell?_spot h1
        subst hsp
        refine ⟨b, off, rfl, fun i e he => ?_⟩
        obtain ⟨hi, rfl⟩ := hget i e he
        obtain ⟨_, hat, hc⟩ := hch i hi
        have hc' : ∀ t, t < 5 → W.cell? ⟨b, off + i * 5 + t, none⟩ = (ecell (f i))[t]? := fun t ht5 => by
          have := hc t ht5
          rw [add_at, ← Nat.add_assoc] at this
          exact this
        exact ⟨hc' 0 (by omega), hc' 1 (by omega), hc' 2 (by omega), hc' 3 (by omega), hc' 4 (by omega), hat⟩
    · intro e he
      obtain ⟨i, hi, rfl⟩ := List.mem_map.1 he
      exact (hch i (List.mem_range.1 hi)).1.1
    · intro e he
      obtain ⟨i, hi, rfl⟩ := List.mem_map.1 he
      exact (hch i (List.mem_range.1 hi)).1.2
end Go.Proofs.Ytnengkdddckjaaa.E6
