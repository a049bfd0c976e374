/-
  What is laid in the tables.
-/
import Derived.Test.YtbflkdbimgakpaaDoorEvt
import Derived.ProofKit
import Derived.LaidMore
import Derived.OpenShut
import Derived.Stop.Joined
namespace Go.Proofs.YtbflkdbimgakpaaDoor.E6
open Go.ChangeShapes Go.WideShapes Go.ChangeAt Go.RowKit
theorem kcellsT : Tryd.prog.cellsOf 86 = 2 := by kernel_rfl
theorem kcells9 : Tryd.prog.cellsOf 9 = 1 := by kernel_rfl
theorem kcells3 : Tryd.prog.cellsOf 3 = 1 := by kernel_rfl
theorem kinds_data {H : Type} : (Rows.laid_hindsight_event_kinds : DataW H) = .agg ((List.range 23).map fun k => .agg [.lit (.string (kname k).data.toList), .lit (.int .i64 (ksort k : Int))]) := rfl
set_option maxRecDepth 8000 in
theorem two_of {α : Type} {l : List α} (h : l.length = 2) : ∃ a b, l = [a, b] := by
  match l, h with
  | [a, b], _ => exact ⟨a, b, rfl⟩
theorem drop_two {α : Type} {l : List α} {i : Nat} {a b : α} (h : (l.drop i).take 2 = [a, b]) : l[i]? = some a ∧ l[i + 1]? = some b := by
  have h0 : ((l.drop i).take 2)[0]? = some a := by rw [h]; rfl
  have h1 : ((l.drop i).take 2)[1]? = some b := by rw [h]; rfl
  rw [List.getElem?_take, List.getElem?_drop] at h0 h1
  simp at h0 h1
  exact ⟨h0, h1⟩
set_option maxRecDepth 8000 in
theorem kinds_of {H : Type} {enc : TypeId × Value → H} {W : World} {base : Nat} {spare : Nat → Bool} {held : Bool} {fuel : Nat} {cs : List Value} {p : List MemPlace}
    (hd : DataW.trod enc Tryd.prog W base spare held fuel 87 cs = some (Rows.laid_hindsight_event_kinds, p)) : ∀ k, k < 23 → cs[k * 2]? = some (.string (kname k)) ∧ cs[k * 2 + 1]? = some (.int .i64 (ksort k : Int)) := by
  obtain ⟨xs, m, rfl, hx, _, hn, hel⟩ := DataW.trod_array Tryd.underlying87 hd
  intro k hk
  have he := hel k hk
  rw [kcellsT] at he
  have hxk : xs[k]? = some xs[k] := List.getElem?_eq_getElem (by omega)
  rw [hxk] at he
  obtain ⟨ys, m', rfl, hy, hl, hn2, hf⟩ := DataW.trod_struct Tryd.underlying86 he
  rw [kcellsT] at hl
  obtain ⟨u, v, huv⟩ := two_of hl
  have f0 := hf 0 _ rfl
  have f1 := hf 1 _ rfl
  obtain ⟨y0, y1, rfl⟩ := two_of hn2
  rw [huv] at f0 f1
  simp [kcells9, kcells3] at f0 f1
  obtain ⟨s, e0, z0, _⟩ := DataW.trod_string Tryd.underlying9 f0
  obtain ⟨i, e1, z1, _⟩ := DataW.trod_int Tryd.underlying3 f1
  simp at e0 e1
  subst e0 e1
  obtain ⟨g0, g1⟩ := drop_two huv
  have hdat : (xs.map (·.1))[k]? = some (.agg [.lit (.string (kname k).data.toList), .lit (.int .i64 (ksort k : Int))]) := by
    rw [kinds_data] at hx
    have := (Prod.mk.inj hx).1
    injection this with this
    rw [← this]
    simp [hk]
  rw [List.getElem?_map, hxk, Option.map_some, hy, z0, z1] at hdat
  simp only [List.map_cons, List.map_nil, Option.some.injEq, DataW.agg.injEq, List.cons.injEq, DataW.lit.injEq, Lit.string.injEq, Lit.int.injEq, true_and, and_true] at hdat
  obtain ⟨d1, d2⟩ := hdat
  refine ⟨by rw [g0]; congr 2; cases s; congr 1; exact Array.toList_inj.1 d1, by rw [g1, d2]⟩
theorem rcellsT : Tryd.prog.cellsOf 88 = 2 := by kernel_rfl
theorem rcellsU : Tryd.prog.cellsOf 22 = 1 := by kernel_rfl
theorem ranges_data {H : Type} : (Rows.laid_hindsight_event_ranges : DataW H) = .agg ((List.range 9).map fun s => .agg [.lit (.int .u64 (rlo s)), .lit (.int .u64 (rhi s))]) := rfl
set_option maxRecDepth 8000 in
theorem ranges_of {H : Type} {enc : TypeId × Value → H} {W : World} {base : Nat} {spare : Nat → Bool} {held : Bool} {fuel : Nat} {cs : List Value} {p : List MemPlace}
    (hd : DataW.trod enc Tryd.prog W base spare held fuel 89 cs = some (Rows.laid_hindsight_event_ranges, p)) : ∀ k, k < 9 → cs[k * 2]? = some (.int .u64 (rlo k)) ∧ cs[k * 2 + 1]? = some (.int .u64 (rhi k)) := by
  obtain ⟨xs, m, rfl, hx, _, hn, hel⟩ := DataW.trod_array Tryd.underlying89 hd
  intro k hk
  have he := hel k hk
  rw [rcellsT] at he
  have hxk : xs[k]? = some xs[k] := List.getElem?_eq_getElem (by omega)
  rw [hxk] at he
  obtain ⟨ys, m', rfl, hy, hl, hn2, hf⟩ := DataW.trod_struct Tryd.underlying88 he
  rw [rcellsT] at hl
  obtain ⟨u, v, huv⟩ := two_of hl
  have f0 := hf 0 _ rfl
  have f1 := hf 1 _ rfl
  obtain ⟨y0, y1, rfl⟩ := two_of hn2
  rw [huv] at f0 f1
  simp [rcellsU] at f0 f1
  obtain ⟨j, e0, z0, _⟩ := DataW.trod_int Tryd.underlying22 f0
  obtain ⟨i, e1, z1, _⟩ := DataW.trod_int Tryd.underlying22 f1
  simp at e0 e1
  subst e0 e1
  obtain ⟨g0, g1⟩ := drop_two huv
  have hdat : (xs.map (·.1))[k]? = some (.agg [.lit (.int .u64 (rlo k)), .lit (.int .u64 (rhi k))]) := by
    rw [ranges_data] at hx
    have := (Prod.mk.inj hx).1
    injection this with this
    rw [← this]
    simp [hk]
  rw [List.getElem?_map, hxk, Option.map_some, hy, z0, z1] at hdat
  simp only [List.map_cons, List.map_nil, Option.some.injEq, DataW.agg.injEq, List.cons.injEq, DataW.lit.injEq, Lit.int.injEq, true_and, and_true] at hdat
  obtain ⟨d1, d2⟩ := hdat
  exact ⟨by rw [g0, d1], by rw [g1, d2]⟩
theorem gKinds : Tryd.prog.globalNamed "hindsight/event.kinds" = some 1 := by kernel_rfl
theorem tKinds : (Tryd.prog.globals[1]?).map (·.type) = some 87 := by kernel_rfl
theorem gRanges : Tryd.prog.globalNamed "hindsight/event.ranges" = some 2 := by kernel_rfl
theorem tRanges : (Tryd.prog.globals[2]?).map (·.type) = some 89 := by kernel_rfl
abbrev laid1 : List (String × DataW Unit) := [("hindsight/event.kinds", Rows.laid_hindsight_event_kinds)]
abbrev laid2 : List (String × DataW Unit) := [("hindsight/event.kinds", Rows.laid_hindsight_event_kinds), ("hindsight/event.ranges", Rows.laid_hindsight_event_ranges)]
theorem kr_of_laid {W : World} (h : laidMetH Tryd.prog laid2 W) : Kr W := by
  rw [MakeChecks.laidMetH_plain _ _ _ (by kernel_rfl)] at h
  obtain ⟨ps, ⟨g0, t0, cs0, f0, p0, q0, hg0, ht0, hv0, hd0, ⟨g1, t1, cs1, f1, p1, q1, hg1, ht1, hv1, hd1, _, _⟩, _⟩, _, _⟩ := h
  obtain rfl := Option.some.inj (gKinds.symm.trans hg0)
  obtain rfl := Option.some.inj (gRanges.symm.trans hg1)
  obtain rfl := Option.some.inj (tKinds.symm.trans ht0)
  obtain rfl := Option.some.inj (tRanges.symm.trans ht1)
  have K := kinds_of hd0
  have R := ranges_of hd1
  refine ⟨⟨fun k hk => ?_, fun k hk => ?_⟩, fun k hk => ?_, fun k hk => ?_⟩
  · rw [World.var?_cell hg0 hv0]; simpa using (K k hk).1
  · rw [World.var?_cell hg0 hv0]; simpa using (K k hk).2
  · rw [World.var?_cell hg1 hv1]; simpa using (R k hk).1
  · rw [World.var?_cell hg1 hv1]; simpa using (R k hk).2
end Go.Proofs.YtbflkdbimgakpaaDoor.E6
