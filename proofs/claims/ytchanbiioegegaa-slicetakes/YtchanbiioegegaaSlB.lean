/-
  Slices: places, and what stands there.
-/
import Derived.Test.YtchanbiioegegaaSlA
namespace Go.Proofs.Ytchanbiioegegaa
open Go.RowKit Go.Maps
set_option linter.unusedVariables false
/-- The places below i that are kept, rising. -/
def plc (ks : List Bool) : Nat → List Nat
  | 0 => []
  | i + 1 => if ks[i]? = some true then plc ks i ++ [i] else plc ks i
section
variable {ks : List Bool} {i j n p k : Nat}
theorem plc_t (h : ks[i]? = some true) : plc ks (i + 1) = plc ks i ++ [i] := by rw [plc, if_pos h]
theorem plc_f (h : ks[i]? = some false) : plc ks (i + 1) = plc ks i := by rw [plc, if_neg (by rw [h]; decide)]
theorem plc_le (ks : List Bool) : ∀ i, (plc ks i).length ≤ i
  | 0 => Nat.le_refl _
  | i + 1 => by
    have := plc_le ks i
    rw [plc]
    split
    · rw [List.length_append]; show (plc ks i).length + 1 ≤ i + 1; omega
    · omega
theorem plc_lt (ks : List Bool) : ∀ i p, p ∈ plc ks i → p < i
  | 0, p, h => by cases h
  | i + 1, p, h => by
    rw [plc] at h
    split at h
    · rcases List.mem_append.1 h with h | h
      · have := plc_lt ks i p h; omega
      · have : p = i := by simpa using h
        omega
    · have := plc_lt ks i p h; omega
theorem plc_pre (ks : List Bool) (i : Nat) : ∀ d, ∃ r, plc ks (i + d) = plc ks i ++ r
  | 0 => ⟨[], by simp⟩
  | d + 1 => by
    obtain ⟨r, hr⟩ := plc_pre ks i d
    rw [← Nat.add_assoc, plc]
    split
    · exact ⟨r ++ [i + d], by rw [hr, List.append_assoc]⟩
    · exact ⟨r, hr⟩
theorem plc_at (h : ks[i]? = some true) (hn : i < n) : (plc ks n)[(plc ks i).length]? = some i := by
  obtain ⟨d, rfl⟩ : ∃ d, n = i + 1 + d := ⟨n - (i + 1), by omega⟩
  obtain ⟨r, hr⟩ := plc_pre ks (i + 1) d
  rw [hr, plc_t h, List.append_assoc, List.getElem?_append_right (Nat.le_refl _), Nat.sub_self]
  rfl
theorem plc_mono (ks : List Bool) (h : i ≤ n) : (plc ks i).length ≤ (plc ks n).length := by
  obtain ⟨d, rfl⟩ : ∃ d, n = i + d := ⟨n - i, by omega⟩
  obtain ⟨r, hr⟩ := plc_pre ks i d
  rw [hr, List.length_append]; omega
end
def nE : E6.Ev := ⟨0, 0, 0, 0, none, 0, []⟩
/-- The events at these places. -/
def pkE (es : List E6.Ev) (P : List Nat) : List E6.Ev := P.map fun p => es.getD p nE
theorem pkE_at {es : List E6.Ev} {P : List Nat} {k p : Nat} {e : E6.Ev} (hp : P[k]? = some p) (he : es[p]? = some e) : (pkE es P)[k]? = some e := by
  unfold pkE
  rw [List.getElem?_map, hp, Option.map_some, List.getD_eq_getElem?_getD, he]
  rfl
theorem pkE_len (es : List E6.Ev) (P : List Nat) : (pkE es P).length = P.length := by unfold pkE; rw [List.length_map]
/-- Places as the program has them. -/
def intP (P : List Nat) : List Int := P.map fun p : Nat => (p : Int)
theorem intP_len (P : List Nat) : (intP P).length = P.length := by unfold intP; rw [List.length_map]
theorem intP_snoc (P : List Nat) (p : Nat) : intP (P ++ [p]) = intP P ++ [(p : Int)] := by unfold intP; rw [List.map_append]; rfl
theorem intP_at {P : List Nat} {k p : Nat} (h : P[k]? = some p) : (intP P)[k]? = some (p : Int) := by
  unfold intP
  rw [List.getElem?_map, h]; rfl
/-- Two lists of twins of the same events. -/
theorem twins_two {w0 w1 x0 x1 : World} {es fs gs : List E6.Ev} {n : Nat} {v u : Value} (h : E6.Tw w0 w1 es n fs v) (k : E6.Tw x0 x1 es n gs u) : E6.Twins gs fs := by
  refine E6.twins_of (by rw [h.len, k.len]) fun i f hf => ?_
  obtain ⟨e, h1, ⟨a1, a2, a3, a4, a5⟩, _⟩ := h.each i f hf
  have hl := (List.getElem?_eq_some_iff.1 hf).1
  have hg : gs[i]? = some (gs[i]'(by rw [k.len, ← h.len]; exact hl)) := List.getElem?_eq_getElem _
  refine ⟨_, hg, ?_⟩
  obtain ⟨e', h2, ⟨b1, b2, b3, b4, b5⟩, _⟩ := k.each i _ hg
  rw [h1] at h2
  cases h2
  exact ⟨by rw [a1, b1], by rw [a2, b2], by rw [a3, b3], by rw [a4, b4], by rw [a5, b5]⟩
/-- Twins are as long as what they are twins of. -/
theorem tw_small {w0 w1 : World} {es fs : List E6.Ev} {n : Nat} {v : Value} (h : E6.Tw w0 w1 es n fs v) (hok : ∀ e ∈ es, e.ok) : ∀ f ∈ fs, (f.ls.length : Int) ≤ 9223372036854775806 := by
  intro f hf
  have := (h.ok hok f hf).len
  omega
theorem ok_pk {es : List E6.Ev} {P : List Nat} (hok : ∀ e ∈ es, e.ok) (hP : ∀ p ∈ P, p < es.length) : ∀ e ∈ pkE es P, e.ok := by
  intro e he
  unfold pkE at he
  obtain ⟨p, hp, rfl⟩ := List.mem_map.1 he
  have hl := hP p hp
  rw [List.getD_eq_getElem?_getD, List.getElem?_eq_getElem hl]
  exact hok _ (List.getElem_mem hl)
/-- Twins stay where nothing old changes. -/
theorem tw_on {w0 w1 w2 : World} {es fs : List E6.Ev} {n : Nat} {v : Value} (h : E6.Tw w0 w1 es n fs v) (hb : Below w1.heap.size w1 w2) : E6.Tw w0 w2 es n fs v := by
  refine ⟨h.len, own_but (S := fun _ => False) h.own (But.of_below hb) (fun _ _ e => e), fun i f hf => ?_, h.bel.trans (hb.mono h.bel.size)⟩
  obtain ⟨e, h1, h2, h3, h4, h5⟩ := h.each i f hf
  exact ⟨e, h1, h2, h3, h4, own_but (S := fun _ => False) h5 (But.of_below hb) (fun _ _ e => e)⟩
end Go.Proofs.Ytchanbiioegegaa
