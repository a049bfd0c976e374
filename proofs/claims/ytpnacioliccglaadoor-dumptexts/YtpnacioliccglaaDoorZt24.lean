import Derived.Test.YtpnacioliccglaaDoorZt10
import Derived.Test.YtpnacioliccglaaDoorZt13
import Derived.LaidSub
import Derived.Lib.LaidTab
import Derived.Test.YtpnacioliccglaaDoorZt12
import Derived.ProofKit
import Derived.OpenShut
import Derived.SizedLaws
import Derived.SliceStrings
import Derived.Deep.Slices
set_option maxRecDepth 8000
set_option maxHeartbeats 8000000
set_option linter.unusedVariables false
/-
  What is laid in the five tables.
-/
namespace Go.Proofs.YtpnacioliccglaaDoor
open Go.ChangeShapes Go.WideShapes Go.ChangeAt Go.RowKit
abbrev laid5 : List (String × DataW Unit) := [("math/bits.deBruijn32tab", Rows.laid_math_bits_deBruijn32tab), ("math/bits.deBruijn64tab", Rows.laid_math_bits_deBruijn64tab), ("internal/strconv.uint64pow10", Rows.laid_internal_strconv_uint64pow10), ("hindsight/event.kinds", Rows.laid_hindsight_event_kinds), ("hindsight/event.ranges", Rows.laid_hindsight_event_ranges)]
def debTab : List Int := [0, 1, 56, 2, 57, 49, 28, 3, 61, 58, 42, 50, 38, 29, 17, 4, 62, 47, 59, 36, 45, 43, 51, 22, 53, 39, 33, 30, 24, 18, 12, 5, 63, 55, 48, 27, 60, 41, 37, 16, 46, 35, 44, 21, 52, 32, 23, 11, 54, 26, 40, 15, 34, 20, 31, 10, 25, 14, 19, 9, 13, 8, 7, 6]
theorem deb_data : (Rows.laid_math_bits_deBruijn64tab : DataW Unit) = Lib.tabData .u8 debTab := rfl
theorem pow_data : (Rows.laid_internal_strconv_uint64pow10 : DataW Unit) = Lib.tabData .u64 Lib.pow10Tab := by kernel_rfl
theorem gDeb : Tryd.prog.globalNamed "math/bits.deBruijn64tab" = some 10 := by kernel_rfl
theorem tDeb : (Tryd.prog.globals[10]?).map (·.type) = some 186 := by kernel_rfl
theorem tPow : (Tryd.prog.globals[5]?).map (·.type) = some 173 := by kernel_rfl
theorem c8 : Tryd.prog.cellsOf 5 = 1 := by kernel_rfl
theorem c64 : Tryd.prog.cellsOf 22 = 1 := by kernel_rfl
theorem cDeb : Tryd.prog.cellsOf 186 = 64 := by kernel_rfl
theorem cPow : Tryd.prog.cellsOf 173 = 20 := by kernel_rfl
theorem plain_of {l : List (String × DataW Unit)} {W : World} (hl : (l.all fun x => x.2.handleName?.isNone) = true) (h : laidMetH Tryd.prog l W) : laidMet Tryd.prog l W := by
  rw [MakeChecks.laidMetH_plain _ _ _ hl] at h
  exact h
theorem f2 : laid5.filter (fun x => x.1 == "hindsight/event.kinds" || x.1 == "hindsight/event.ranges") = E6.laid2 := by kernel_rfl
theorem fP : laid5.filter (fun x => x.1 == "internal/strconv.uint64pow10") = [("internal/strconv.uint64pow10", Lib.tabData .u64 Lib.pow10Tab)] := by kernel_rfl
theorem fD : laid5.filter (fun x => x.1 == "math/bits.deBruijn64tab") = [("math/bits.deBruijn64tab", Lib.tabData .u8 debTab)] := by kernel_rfl
theorem dk_of_laid {W : World} (h : laidMetH Tryd.prog laid5 W) : Dk W := by
  have h2 := h.filter (fun x => x.1 == "hindsight/event.kinds" || x.1 == "hindsight/event.ranges")
  have hP := h.filter (fun x => x.1 == "internal/strconv.uint64pow10")
  have hD := h.filter (fun x => x.1 == "math/bits.deBruijn64tab")
  rw [f2] at h2
  rw [fP] at hP
  rw [fD] at hD
  have tP := Lib.tabIs_of_head gPow tPow Tryd.underlying173 Tryd.underlying22 c64 cPow (plain_of (by kernel_rfl) hP)
  have tD := Lib.tabIs_of_head gDeb tDeb Tryd.underlying186 Tryd.underlying5 c8 cDeb (plain_of (by kernel_rfl) hD)
  have hc : W.cell? ⟨10, 15, none⟩ = some (.int .u8 4) := tD.cell gDeb 15 (by decide)
  have hs := World.block_lt_of_cell? W _ hc
  exact ⟨E6.kr_of_laid h2, hs, tP, hc⟩
end Go.Proofs.YtpnacioliccglaaDoor
/-
  Events that came in.
-/
namespace Go.Proofs.YtpnacioliccglaaDoor.E6
open Go.ChangeShapes Go.WideShapes Go.ChangeAt Go.RowKit
theorem add_at (b off i : Nat) : (⟨b, off, none⟩ : Addr).add i = ⟨b, off + i, none⟩ := by unfold Addr.add; split <;> simp_all
theorem bytes9 : Tryd.prog.bytesOf 9 = 16 := by kernel_rfl
theorem weights_all {H : Type} {P : Program} {e : TypeId} {d : DataW H} {n : Nat} : ∀ {l : List (DataW H)}, d ∈ l → n ∈ d.weights P e → n ∈ DataW.weightsAll P e l
  | [], h, _ => by cases h
  | x :: r, h, hn => by
    rw [DataW.weightsAll, List.mem_append]
    rcases List.mem_cons.1 h with rfl | h
    · exact .inl hn
    · exact .inr (weights_all h hn)
theorem open_strs_in {H : Type} {enc : TypeId × Value → H} {W : World} {v : Value} {fuel : Nat} {d : DataW H} {p : List MemPlace}
    (hf : DataW.trod enc Tryd.prog W 0 (fun _ => true) true fuel 23 [v] = some (d, p)) (hw : ∀ n ∈ d.weights Tryd.prog 23, n ≤ reachBytes) :
    ∃ (z : List ByteArray) (ai : Option Addr) (ci : Nat), v = .slice ai z.length ci ∧ SRow W ai z.length z ∧ z.length ≤ ci ∧ z.length ≤ 8796093021952 ∧ (∀ s ∈ z, s.size ≤ maxLen) ∧ (ai = none → z.length = 0 ∧ ci = 0) := by
  rcases open_strings Tryd.underlying23 Tryd.underlying9 (by kernel_rfl) hf with ⟨hcs, _⟩ | ⟨x, l, c, zs, hcs, _, hl, hm, hz, hx, hcell, hwz⟩
  · simp at hcs
    subst hcs
    exact ⟨[], none, 0, rfl, ⟨rfl, .inl rfl⟩, Nat.le_refl _, by simp, by simp, fun _ => ⟨rfl, rfl⟩⟩
  · simp at hcs
    subst hcs
    simp only [Prod.mk.injEq] at hx
    have hz' : zs.length = c := by simpa using hz
    have hs := hw (((strs (zs.take l) : List (DataW H)).length + (strs (zs.drop l) : List (DataW H)).length) * Tryd.prog.bytesOf 9) (by rw [hx.1]; simp [DataW.weights, Tryd.underlying23])
    rw [bytes9] at hs
    simp only [strs, List.length_map, List.length_take, List.length_drop, reachBytes] at hs
    have hlen : (zs.take l).length = l := by rw [List.length_take]; omega
    refine ⟨zs.take l, some x, c, by rw [hlen], ?_, by omega, by omega, fun s hs => hwz s (List.mem_of_mem_take hs), fun h => (by cases h)⟩
    rw [hlen]
    refine ⟨hlen, ?_⟩
    by_cases h0 : l = 0
    · exact .inl h0
    · right
      obtain ⟨b, off, sp⟩ := x
      have h1 := hcell 0 (by omega)
      have hsp : sp = none := by simpa [Addr.add] using World.cell?_spot h1
      subst hsp
      refine ⟨b, off, rfl, fun i hi => ?_⟩
      have := hcell i (by omega)
      rw [add_at] at this
      rw [this]
      congr 2
      rw [List.getD_eq_getElem?_getD, List.getD_eq_getElem?_getD, List.getElem?_take_of_lt hi]
instance : Inhabited Ev := ⟨⟨0, 0, 0, 0, none, 0, []⟩⟩
theorem ocells3 : Tryd.prog.cellsOf 3 = 1 := by kernel_rfl
theorem ocellsU : Tryd.prog.cellsOf 22 = 1 := by kernel_rfl
theorem ocellsS : Tryd.prog.cellsOf 23 = 1 := by kernel_rfl
theorem ocellsE : Tryd.prog.cellsOf 25 = 5 := by kernel_rfl
theorem obytesE : Tryd.prog.bytesOf 25 = 56 := by kernel_rfl
theorem u64_bd {a : Int} (h : (Lit.int .u64 a).wf = true) : 0 ≤ a ∧ a ≤ 18446744073709551615 := by
  have hw : IntKind.u64.min ≤ a ∧ a ≤ IntKind.u64.max := by simpa [Lit.wf] using h
  have e1 : IntKind.u64.min = 0 := by decide
  have e2 : IntKind.u64.max = 18446744073709551615 := by decide
  rw [e1, e2] at hw
  exact hw
theorem ofive {α : Type} {l : List α} (h : l.length = 5) : ∃ a b c d e, l = [a, b, c, d, e] := by
  match l, h with
  | [a, b, c, d, e], _ => exact ⟨a, b, c, d, e, rfl⟩
/-- Five cells that are read as an event. -/
theorem open_ev_in {H : Type} {enc : TypeId × Value → H} {W : World} {cs : List Value} {fuel : Nat} {d : DataW H} {p : List MemPlace}
    (hf : DataW.trod enc Tryd.prog W 0 (fun _ => true) true fuel 25 cs = some (d, p)) (hw : ∀ n ∈ d.weights Tryd.prog 25, n ≤ reachBytes) :
    ∃ e : Ev, cs = ecell e ∧ e.ok ∧ e.at W := by
  obtain ⟨xs, k, _, hxd, hlen, hxs, hfs⟩ := DataW.trod_struct Tryd.underlying25 hf
  rw [ocellsE] at hlen
  have g0 := hfs 0 _ rfl
  have g1 := hfs 1 _ rfl
  have g2 := hfs 2 _ rfl
  have g3 := hfs 3 _ rfl
  have g4 := hfs 4 _ rfl
  obtain ⟨y0, y1, y2, y3, y4, rfl⟩ := ofive hxs
  obtain ⟨v0, v1, v2, v3, v4, rfl⟩ := ofive hlen
  simp [ocells3, ocellsU, ocellsS] at g0 g1 g2 g3 g4
  obtain ⟨g, e0, _, _⟩ := DataW.trod_int Tryd.underlying3 g0
  obtain ⟨k', e1, _, _⟩ := DataW.trod_int Tryd.underlying3 g1
  obtain ⟨o, e2, _, w2⟩ := DataW.trod_int Tryd.underlying22 g2
  obtain ⟨a, e3, _, w3⟩ := DataW.trod_int Tryd.underlying22 g3
  obtain ⟨z, ai, ci, e4, hs, hzc, hzl, hz, hnil⟩ := open_strs_in g4 (fun n hn => hw n (by
    rw [(Prod.mk.inj hxd).1]
    simp [DataW.weights, Tryd.underlying25, DataW.weightsEach, hn]))
  simp at e0 e1 e2 e3
  subst e0 e1 e2 e3 e4
  exact ⟨⟨g, k', o, a, ai, ci, z⟩, rfl, ⟨u64_bd w2, u64_bd w3, hzl, hz, hzc, hnil⟩, hs⟩
set_option maxRecDepth 20000 in
theorem open_ev {H : Type} {enc : TypeId × Value → H} {W : World} {b0 : Nat} {r : Reach} {v : Value} {d : DataW H} {p : List MemPlace} {ts : List TypeId} {ds : List (DataW H)} {j : Nat}
    (hv : Value.okWide Tryd.prog W r b0 25 v) (h : DataW.Trod enc Tryd.prog W 0 (fun _ => true) true 25 v d p)
    (hsz : (DataW.weightsEach Tryd.prog ts ds).all (· ≤ reachBytes) = true) (ht : ts[j]? = some 25) (hd : ds[j]? = some d) :
    ∃ e : Ev, v = .agg #[.int .i64 e.g, .int .i64 e.k, .int .u64 e.o, .int .u64 e.a, .slice e.sa e.ls.length e.sc] ∧ e.ok ∧ e.at W := by
  obtain ⟨cs, rfl, hcs⟩ := okWide_struct Tryd.underlying25 hv
  obtain ⟨fuel, hf⟩ := h
  obtain ⟨e, h1, h2, h3⟩ := open_ev_in hf (fun n hn => by
    have := List.all_eq_true.1 hsz _ (DataW.weights_mem_each ht hd n hn)
    simpa using this)
  refine ⟨e, ?_, h2, h3⟩
  have h4 : cs.toList = ecell e := h1
  congr 1
  exact Array.toList_inj.1 h4
set_option maxRecDepth 20000 in
/-- A list of events that came in. -/
theorem open_evs {H : Type} {enc : TypeId × Value → H} {W : World} {a : Option Addr} {len cap : Nat} {d : DataW H} {p : List MemPlace} {ts : List TypeId} {ds : List (DataW H)} {j : Nat}
    (h : DataW.Trod enc Tryd.prog W 0 (fun _ => true) true 35 (.slice a len cap) d p)
    (hsz : (DataW.weightsEach Tryd.prog ts ds).all (· ≤ reachBytes) = true) (ht : ts[j]? = some 35) (hd : ds[j]? = some d) :
    ∃ es, ERow W a len es ∧ (∀ e ∈ es, e.ok) ∧ len * 56 ≤ 140737488355328 ∧ len ≤ cap ∧ (a = none → len = 0 ∧ cap = 0) := by
  obtain ⟨fuel, hf⟩ := h
  rcases Deep.open_slice Tryd.underlying35 hf with ⟨hcs, _⟩ | ⟨x, l, c, m, n, D, Pl, hcs, _, hl, hm, hmm, hx, hel⟩
  · simp [Value.cells] at hcs
    obtain ⟨rfl, rfl, rfl⟩ := hcs
    exact ⟨[], ⟨rfl, .inl rfl⟩, by simp, by omega, by omega, fun _ => ⟨rfl, rfl⟩⟩
  · simp [Value.cells] at hcs
    obtain ⟨rfl, rfl, rfl⟩ := hcs
    simp only [Prod.mk.injEq] at hx
    have hm' : m = cap := by simpa using hmm
    subst hm'
    have hall : ∀ n ∈ d.weights Tryd.prog 35, n ≤ reachBytes := fun n hn => by
      have := List.all_eq_true.1 hsz _ (DataW.weights_mem_each ht hd n hn)
      simpa using this
    rw [hx.1] at hall
    have hlen := hall (((List.range len).map D).length + ((List.range (m - len)).map fun j => D (len + j)).length |> (· * Tryd.prog.bytesOf 25)) (by simp [DataW.weights, Tryd.underlying35])
    rw [obytesE] at hlen
    simp only [List.length_map, List.length_range, reachBytes] at hlen
    have each : ∀ i, i < len → ∃ q : Ev, q.ok ∧ q.at W ∧ ∀ t, t < 5 → W.cell? (x.add (i * 5 + t)) = (ecell q)[t]? := by
      intro i hi
      obtain ⟨cs', h1, h2⟩ := hel i (by omega)
      rw [ocellsE] at h1
      obtain ⟨_, hl5, hcell⟩ := World.cells?_some h1
      obtain ⟨q, e1, e2, e3⟩ := open_ev_in h2 (fun n hn => hall n (by
        simp only [DataW.weights, Tryd.underlying35, List.mem_cons, List.mem_append]
        exact .inr (.inl (weights_all (List.mem_map.2 ⟨i, List.mem_range.2 hi, rfl⟩) hn))))
      refine ⟨q, e2, e3, fun t ht5 => ?_⟩
      have := hcell t (by omega)
      rw [Deep.add_add] at this
      rw [this, e1]
    obtain ⟨f, hch⟩ := Deep.choose_lt each
    have hget : ∀ i e, ((List.range len).map f)[i]? = some e → i < len ∧ f i = e := by
      intro i e he
      have hi : i < len := by have := (List.getElem?_eq_some_iff.1 he).1; simpa using this
      exact ⟨hi, by simpa [hi] using he⟩
    refine ⟨(List.range len).map f, ⟨by simp, ?_⟩, ?_, by omega, by omega, fun h => by cases h⟩
    · by_cases h0 : len = 0
      · exact .inl h0
      · right
        obtain ⟨b, off, sp⟩ := x
        have h1 := (hch 0 (by omega)).2.2 0 (by omega)
        have hsp : sp = none := by
          have : (ecell (f 0))[0]? = some (.int .i64 (f 0).g) := rfl
          rw [this] at h1
          simpa [Addr.add] using World.cell?_spot h1
        subst hsp
        refine ⟨b, off, rfl, fun i e he => ?_⟩
        obtain ⟨hi, rfl⟩ := hget i e he
        obtain ⟨_, hat, hc⟩ := hch i hi
        have hc' : ∀ t, t < 5 → W.cell? ⟨b, off + i * 5 + t, none⟩ = (ecell (f i))[t]? := fun t ht5 => by
          have := hc t ht5
          rw [add_at, ← Nat.add_assoc] at this
          exact this
        exact ⟨hc' 0 (by omega), hc' 1 (by omega), hc' 2 (by omega), hc' 3 (by omega), hc' 4 (by omega), hat⟩
    · intro e he
      obtain ⟨i, hi, rfl⟩ := List.mem_map.1 he
      exact (hch i (List.mem_range.1 hi)).1
end Go.Proofs.YtpnacioliccglaaDoor.E6
/-
  Rows of events that come in, with room for seventy more.
-/
namespace Go.Proofs.YtpnacioliccglaaDoor.E6
open Go.ChangeShapes Go.WideShapes Go.ChangeAt Go.RowKit
theorem open_evsR {H : Type} {enc : TypeId × Value → H} {W : World} {a : Option Addr} {len cap : Nat} {d : DataW H} {p : List MemPlace} {ts : List TypeId} {ds : List (DataW H)} {j : Nat}
    (h : DataW.Trod enc Tryd.prog W 0 (fun _ => true) true 35 (.slice a len cap) d p)
    (hsz : (DataW.weightsEach Tryd.prog ts ds).all (· ≤ reachBytes) = true) (ht : ts[j]? = some 35) (hd : ds[j]? = some d) :
    ∃ es, ERow W a len es ∧ (∀ e ∈ es, e.ok) ∧ len * 56 ≤ 140737488351232 ∧ len ≤ cap ∧ (a = none → len = 0 ∧ cap = 0) := by
  obtain ⟨fuel, hf⟩ := h
  rcases Deep.open_slice Tryd.underlying35 hf with ⟨hcs, _⟩ | ⟨x, l, c, m, n, D, Pl, hcs, _, hl, hm, hmm, hx, hel⟩
  · simp [Value.cells] at hcs
    obtain ⟨rfl, rfl, rfl⟩ := hcs
    exact ⟨[], ⟨rfl, .inl rfl⟩, by simp, by omega, by omega, fun _ => ⟨rfl, rfl⟩⟩
  · simp [Value.cells] at hcs
    obtain ⟨rfl, rfl, rfl⟩ := hcs
    simp only [Prod.mk.injEq] at hx
    have hm' : m = cap := by simpa using hmm
    subst hm'
    have hall : ∀ n ∈ d.weights Tryd.prog 35, n ≤ reachBytes := fun n hn => by
      have := List.all_eq_true.1 hsz _ (DataW.weights_mem_each ht hd n hn)
      simpa using this
    rw [hx.1] at hall
    have hlen := hall (((List.range len).map D).length + ((List.range (m - len)).map fun j => D (len + j)).length |> (· * Tryd.prog.bytesOf 25)) (by simp [DataW.weights, Tryd.underlying35])
    rw [obytesE] at hlen
    simp only [List.length_map, List.length_range, reachBytes] at hlen
    have each : ∀ i, i < len → ∃ q : Ev, q.ok ∧ q.at W ∧ ∀ t, t < 5 → W.cell? (x.add (i * 5 + t)) = (ecell q)[t]? := by
      intro i hi
      obtain ⟨cs', h1, h2⟩ := hel i (by omega)
      rw [ocellsE] at h1
      obtain ⟨_, hl5, hcell⟩ := World.cells?_some h1
      obtain ⟨q, e1, e2, e3⟩ := open_ev_in h2 (fun n hn => hall n (by
        simp only [DataW.weights, Tryd.underlying35, List.mem_cons, List.mem_append]
        exact .inr (.inl (weights_all (List.mem_map.2 ⟨i, List.mem_range.2 hi, rfl⟩) hn))))
      refine ⟨q, e2, e3, fun t ht5 => ?_⟩
      have := hcell t (by omega)
      rw [Deep.add_add] at this
      rw [this, e1]
    obtain ⟨f, hch⟩ := Deep.choose_lt each
    have hget : ∀ i e, ((List.range len).map f)[i]? = some e → i < len ∧ f i = e := by
      intro i e he
      have hi : i < len := by have := (List.getElem?_eq_some_iff.1 he).1; simpa using this
      exact ⟨hi, by simpa [hi] using he⟩
    refine ⟨(List.range len).map f, ⟨by simp, ?_⟩, ?_, by omega, by omega, fun h => by cases h⟩
    · by_cases h0 : len = 0
      · exact .inl h0
      · right
        obtain ⟨b, off, sp⟩ := x
        have h1 := (hch 0 (by omega)).2.2 0 (by omega)
        have hsp : sp = none := by
          have : (ecell (f 0))[0]? = some (.int .i64 (f 0).g) := rfl
          rw [this] at h1
          simpa [Addr.add] using World.cell?_spot h1
        subst hsp
        refine ⟨b, off, rfl, fun i e he => ?_⟩
        obtain ⟨hi, rfl⟩ := hget i e he
        obtain ⟨_, hat, hc⟩ := hch i hi
        have hc' : ∀ t, t < 5 → W.cell? ⟨b, off + i * 5 + t, none⟩ = (ecell (f i))[t]? := fun t ht5 => by
          have := hc t ht5
          rw [add_at, ← Nat.add_assoc] at this
          exact this
        exact ⟨hc' 0 (by omega), hc' 1 (by omega), hc' 2 (by omega), hc' 3 (by omega), hc' 4 (by omega), hat⟩
    · intro e he
      obtain ⟨i, hi, rfl⟩ := List.mem_map.1 he
      exact (hch i (List.mem_range.1 hi)).1
end Go.Proofs.YtpnacioliccglaaDoor.E6
