/-
  Twins of events; prefixes of runs.
-/
import Derived.Test.YtnengkdddckjaaaEvtX
namespace Go.Proofs.Ytnengkdddckjaaa.E6
open Go.RowKit Go.Maps
theorem ecells_get {l : List Ev} {i : Nat} {e : Ev} (h : l[i]? = some e) {t : Nat} (ht : t < 5) : (ecells l)[i * 5 + t]? = (ecell e)[t]? := by
  induction l generalizing i with
  | nil => simp at h
  | cons x l ih =>
    cases i with
    | zero =>
      simp at h; subst h
      rw [ecells, Nat.zero_mul, Nat.zero_add, List.getElem?_append_left (by simpa [ecell] using ht)]
    | succ i =>
      rw [ecells, List.getElem?_append_right (by simp [ecell]; omega)]
      have e1 : (i + 1) * 5 + t - (ecell x).length = i * 5 + t := by simp [ecell]; omega
      rw [e1]
      exact ih (by simpa using h)
theorem Tw.form {w0 wr : World} {es fs : List Ev} {n : Nat} {v : Value} (h : Tw w0 wr es n fs v) : ∃ a c, v = .slice a n c ∧ ERow wr a n fs ∧ n ≤ c := by
  have ho := h.own
  rcases ho.2 with ⟨hv, h0⟩ | ⟨g, cap, cur, hv, hb, hg, hn, hm, hs, ht⟩
  · subst h0; exact ⟨none, 0, hv, ⟨h.len, .inl rfl⟩, Nat.le_refl _⟩
  · refine ⟨some ⟨g, 0, none⟩, cap, hv, ⟨h.len, .inr ⟨g, 0, rfl, fun i f hf => ?_⟩⟩, hn⟩
    have hc : ∀ t (ht : t < 5), wr.cell? ⟨g, 0 + i * 5 + t, none⟩ = (ecell f)[t]? := by
      intro t ht5
      have hlt := (List.getElem?_eq_some_iff.1 hf).1
      subst hv
      have := ho.cellAt (i * 5 + t) (by rw [h.len] at hlt; omega)
      rw [Nat.zero_add, this, ecells_get hf ht5]
    obtain ⟨e, _, _, _, _, h5⟩ := h.each i f hf
    exact ⟨hc 0 (by omega), hc 1 (by omega), hc 2 (by omega), hc 3 (by omega), hc 4 (by omega), SRow.of_own h5⟩
theorem Tw.get {w0 wr : World} {es fs : List Ev} {n : Nat} {v : Value} (h : Tw w0 wr es n fs v) {i : Nat} {e : Ev} (he : es[i]? = some e) (hi : i < n) : ∃ f, fs[i]? = some f ∧ e.twin f := by
  have hl : i < fs.length := by rw [h.len]; exact hi
  obtain ⟨e', h1, h2, _⟩ := h.each i fs[i] (List.getElem?_eq_getElem hl)
  rw [he] at h1
  cases h1
  exact ⟨_, List.getElem?_eq_getElem hl, h2⟩
def Twins : List Ev → List Ev → Prop
  | [], [] => True
  | e :: r, f :: q => e.twin f ∧ Twins r q
  | _, _ => False
theorem twins_of {es fs : List Ev} (hl : fs.length = es.length) (h : ∀ (i : Nat) f, fs[i]? = some f → ∃ e, es[i]? = some e ∧ e.twin f) : Twins es fs := by
  induction es generalizing fs with
  | nil => cases fs with
    | nil => trivial
    | cons _ _ => simp at hl
  | cons e es ih => cases fs with
    | nil => simp at hl
    | cons f fs =>
      refine ⟨?_, ih (by simpa using hl) (fun i g hg => ?_)⟩
      · obtain ⟨e', h1, h2⟩ := h 0 f rfl
        simp at h1; subst h1; exact h2
      · obtain ⟨e', h1, h2⟩ := h (i + 1) g (by simpa using hg)
        exact ⟨e', by simpa using h1, h2⟩
theorem Twins.get {es fs : List Ev} (h : Twins es fs) {i : Nat} {e f : Ev} (he : es[i]? = some e) (hf : fs[i]? = some f) : e.twin f := by
  induction es generalizing fs i with
  | nil => simp at he
  | cons x es ih => cases fs with
    | nil => simp at hf
    | cons y fs => cases i with
      | zero => simp at he hf; subst he; subst hf; exact h.1
      | succ i => exact ih h.2 (by simpa using he) (by simpa using hf)
theorem Twins.len {es fs : List Ev} (h : Twins es fs) : fs.length = es.length := by
  induction es generalizing fs with
  | nil => cases fs with
    | nil => rfl
    | cons _ _ => exact h.elim
  | cons x es ih => cases fs with
    | nil => exact h.elim
    | cons y fs => simp [ih h.2]
theorem Tw.twins {w0 wr : World} {es fs : List Ev} {n : Nat} {v : Value} (h : Tw w0 wr es n fs v) (hl : es.length = n) : Twins es fs :=
  twins_of (by rw [h.len, hl]) fun i f hf => by obtain ⟨e, h1, h2, _⟩ := h.each i f hf; exact ⟨e, h1, h2⟩
theorem Tw.ok {w0 wr : World} {es fs : List Ev} {n : Nat} {v : Value} (h : Tw w0 wr es n fs v) (hok : ∀ e ∈ es, e.ok) : ∀ f ∈ fs, f.ok := by
  intro f hf
  obtain ⟨i, hi, e0⟩ := List.getElem_of_mem hf
  obtain ⟨e, h1, ⟨_, _, t3, t4, t5⟩, h3, h4, _⟩ := h.each i f (by rw [List.getElem?_eq_getElem hi, e0])
  have ho := hok e (List.mem_of_getElem? h1)
  exact ⟨by rw [t3]; exact ho.ho, by rw [t4]; exact ho.ha, by rw [t5]; exact ho.len, by rw [t5]; exact ho.sz, h3, h4⟩
theorem erow_own {w : World} {base n : Nat} {v : Value} {fs : List Ev} (h : w.ownsRow base 38 5 v n (ecells fs)) (hl : fs.length = n) (hs : ∀ f ∈ fs, SRow w f.sa f.ls.length f.ls) : ∃ a c, v = .slice a n c ∧ ERow w a n fs ∧ n ≤ c ∧ (a = none → c = 0) := by
  rcases h.2 with ⟨hv, h0⟩ | ⟨g, cap, cur, hv, hb, hg, hn, hm, hss, ht⟩
  · subst h0; exact ⟨none, 0, hv, ⟨hl, .inl rfl⟩, Nat.le_refl _, fun _ => rfl⟩
  · refine ⟨some ⟨g, 0, none⟩, cap, hv, ⟨hl, .inr ⟨g, 0, rfl, fun i f hf => ?_⟩⟩, hn, fun e => by cases e⟩
    have hc : ∀ t (ht : t < 5), w.cell? ⟨g, 0 + i * 5 + t, none⟩ = (ecell f)[t]? := by
      intro t ht5
      have hlt := (List.getElem?_eq_some_iff.1 hf).1
      subst hv
      have := h.cellAt (i * 5 + t) (by omega)
      rw [Nat.zero_add, this, ecells_get hf ht5]
    exact ⟨hc 0 (by omega), hc 1 (by omega), hc 2 (by omega), hc 3 (by omega), hc 4 (by omega), hs f (List.mem_of_getElem? hf)⟩
end Go.Proofs.Ytnengkdddckjaaa.E6
