/-
  Twins of events; prefixes of runs.
-/
import Derived.Test.YtafkammiehcdjaaGreatDoorEvtX
import Derived.Test.YtafkammiehcdjaaGreatDoorCkU
namespace Go.Proofs.YtafkammiehcdjaaGreatDoor.E6
open Go.RowKit Go.Maps Go.Shelf
theorem ecells_get {l : List Ev} {i : Nat} {e : Ev} (h : l[i]? = some e) {t : Nat} (ht : t < 5) : (ecells l)[i * 5 + t]? = (ecell e)[t]? := by
  induction l generalizing i with
  | nil => simp at h
  | cons x l ih =>
    cases i with
    | zero =>
      simp at h; subst h
      rw [ecells, Nat.zero_mul, Nat.zero_add, List.getElem?_append_left (by simpa [ecell] using ht)]
    | succ i =>
      rw [ecells, List.getElem?_append_right (by simp [ecell]; omega)]
      have e1 : (i + 1) * 5 + t - (ecell x).length = i * 5 + t := by simp [ecell]; omega
      rw [e1]
      exact ih (by simpa using h)
theorem Tw.form {w0 wr : World} {es fs : List Ev} {n : Nat} {v : Value} (h : Tw w0 wr es n fs v) : ∃ a c, v = .slice a n c ∧ ERow wr a n fs ∧ n ≤ c := by
  have ho := h.own
  rcases ho.2 with ⟨hv, h0⟩ | ⟨g, cap, cur, hv, hb, hg, hn, hm, hs, ht⟩
  · subst h0; exact ⟨none, 0, hv, ⟨h.len, .inl rfl⟩, Nat.le_refl _⟩
  · refine ⟨some ⟨g, 0, none⟩, cap, hv, ⟨h.len, .inr ⟨g, 0, rfl, fun i f hf => ?_⟩⟩, hn⟩
    have hc : ∀ t (ht : t < 5), wr.cell? ⟨g, 0 + i * 5 + t, none⟩ = (ecell f)[t]? := by
      intro t ht5
      have hlt := (List.getElem?_eq_some_iff.1 hf).1
      subst hv
      have := ho.cellAt (i * 5 + t) (by rw [h.len] at hlt; omega)
      rw [Nat.zero_add, this, ecells_get hf ht5]
    obtain ⟨e, _, _, _, _, h5⟩ := h.each i f hf
    exact ⟨hc 0 (by omega), hc 1 (by omega), hc 2 (by omega), hc 3 (by omega), hc 4 (by omega), SRow.of_own h5⟩
theorem Tw.get {w0 wr : World} {es fs : List Ev} {n : Nat} {v : Value} (h : Tw w0 wr es n fs v) {i : Nat} {e : Ev} (he : es[i]? = some e) (hi : i < n) : ∃ f, fs[i]? = some f ∧ e.twin f := by
  have hl : i < fs.length := by rw [h.len]; exact hi
  obtain ⟨e', h1, h2, _⟩ := h.each i fs[i] (List.getElem?_eq_getElem hl)
  rw [he] at h1
  cases h1
  exact ⟨_, List.getElem?_eq_getElem hl, h2⟩
def Twins : List Ev → List Ev → Prop
  | [], [] => True
  | e :: r, f :: q => e.twin f ∧ Twins r q
  | _, _ => False
theorem twins_of {es fs : List Ev} (hl : fs.length = es.length) (h : ∀ (i : Nat) f, fs[i]? = some f → ∃ e, es[i]? = some e ∧ e.twin f) : Twins es fs := by
  induction es generalizing fs with
  | nil => cases fs with
    | nil => trivial
    | cons _ _ => simp at hl
  | cons e es ih => cases fs with
    | nil => simp at hl
    | cons f fs =>
      refine ⟨?_, ih (by simpa using hl) (fun i g hg => ?_)⟩
      · obtain ⟨e', h1, h2⟩ := h 0 f rfl
        simp at h1; subst h1; exact h2
      · obtain ⟨e', h1, h2⟩ := h (i + 1) g (by simpa using hg)
        exact ⟨e', by simpa using h1, h2⟩
theorem Twins.get {es fs : List Ev} (h : Twins es fs) {i : Nat} {e f : Ev} (he : es[i]? = some e) (hf : fs[i]? = some f) : e.twin f := by
  induction es generalizing fs i with
  | nil => simp at he
  | cons x es ih => cases fs with
    | nil => simp at hf
    | cons y fs => cases i with
      | zero => simp at he hf; subst he; subst hf; exact h.1
      | succ i => exact ih h.2 (by simpa using he) (by simpa using hf)
theorem Twins.len {es fs : List Ev} (h : Twins es fs) : fs.length = es.length := by
  induction es generalizing fs with
  | nil => cases fs with
    | nil => rfl
    | cons _ _ => exact h.elim
  | cons x es ih => cases fs with
    | nil => exact h.elim
    | cons y fs => simp [ih h.2]
theorem Ev.twin.chk {e f : Ev} (h : e.twin f) : f.chk = e.chk := by
  obtain ⟨h1, h2, h3, h4, h5⟩ := h
  unfold Ev.chk; rw [h1, h2, h3, h4, h5]
theorem bnd_twins {es fs : List Ev} (h : Twins es fs) : ∀ i L N, bnd fs i L N = bnd es i L N := by
  induction es generalizing fs with
  | nil => cases fs with
    | nil => intros; rfl
    | cons _ _ => exact h.elim
  | cons x es ih => cases fs with
    | nil => exact h.elim
    | cons y fs =>
      intro i L N
      rw [bnd, bnd, h.1.chk, h.1.2.2.2.2, ih h.2]
theorem bounds_twins {es fs : List Ev} (h : Twins es fs) : bounds fs = bounds es := by
  unfold bounds; rw [h.len, bnd_twins h]
theorem Tw.twins {w0 wr : World} {es fs : List Ev} {n : Nat} {v : Value} (h : Tw w0 wr es n fs v) (hl : es.length = n) : Twins es fs :=
  twins_of (by rw [h.len, hl]) fun i f hf => by obtain ⟨e, h1, h2, _⟩ := h.each i f hf; exact ⟨e, h1, h2⟩
theorem Tw.ok {w0 wr : World} {es fs : List Ev} {n : Nat} {v : Value} (h : Tw w0 wr es n fs v) (hok : ∀ e ∈ es, e.ok) : ∀ f ∈ fs, f.ok := by
  intro f hf
  obtain ⟨i, hi, e0⟩ := List.getElem_of_mem hf
  obtain ⟨e, h1, ⟨_, _, t3, t4, t5⟩, h3, h4, _⟩ := h.each i f (by rw [List.getElem?_eq_getElem hi, e0])
  have ho := hok e (List.mem_of_getElem? h1)
  exact ⟨by rw [t3]; exact ho.ho, by rw [t4]; exact ho.ha, by rw [t5]; exact ho.len, by rw [t5]; exact ho.sz, h3, h4⟩
theorem erow_own {w : World} {base n : Nat} {v : Value} {fs : List Ev} (h : w.ownsRow base 36 5 v n (ecells fs)) (hl : fs.length = n) (hs : ∀ f ∈ fs, SRow w f.sa f.ls.length f.ls) : ∃ a c, v = .slice a n c ∧ ERow w a n fs ∧ n ≤ c ∧ (a = none → c = 0) := by
  rcases h.2 with ⟨hv, h0⟩ | ⟨g, cap, cur, hv, hb, hg, hn, hm, hss, ht⟩
  · subst h0; exact ⟨none, 0, hv, ⟨hl, .inl rfl⟩, Nat.le_refl _, fun _ => rfl⟩
  · refine ⟨some ⟨g, 0, none⟩, cap, hv, ⟨hl, .inr ⟨g, 0, rfl, fun i f hf => ?_⟩⟩, hn, fun e => by cases e⟩
    have hc : ∀ t (ht : t < 5), w.cell? ⟨g, 0 + i * 5 + t, none⟩ = (ecell f)[t]? := by
      intro t ht5
      have hlt := (List.getElem?_eq_some_iff.1 hf).1
      subst hv
      have := h.cellAt (i * 5 + t) (by omega)
      rw [Nat.zero_add, this, ecells_get hf ht5]
    exact ⟨hc 0 (by omega), hc 1 (by omega), hc 2 (by omega), hc 3 (by omega), hc 4 (by omega), hs f (List.mem_of_getElem? hf)⟩
theorem bnd_take {es : List Ev} : ∀ (i k : Nat) (L : List ByteArray) (N : List Nd), (bnd es k L N).2 = 0 → (bnd (es.take i) k L N).2 = 0 := by
  induction es with
  | nil => intro i k L N h; rw [List.take_nil]; exact h
  | cons e es ih =>
    intro i k L N h
    cases i with
    | zero => rfl
    | succ i =>
      rw [List.take_succ_cons]
      rw [bnd] at h ⊢
      by_cases hc : e.chk = 0
      · rw [if_pos hc] at h ⊢
        split at h
        · rename_i hr
          rw [if_pos hr]
          exact ih i _ _ _ h
        · cases h
      · rw [if_neg hc] at h; exact absurd h hc
theorem bounds_take {es : List Ev} (i : Nat) (h : (bounds es).2 = 0) : (bounds (es.take i)).2 = 0 := by
  unfold bounds at h ⊢
  split at h
  · rename_i hl
    rw [if_pos (by rw [List.length_take]; omega)]
    exact bnd_take i 0 [] [] h
  · cases h
end Go.Proofs.YtafkammiehcdjaaGreatDoor.E6
namespace Go.Proofs.YtafkammiehcdjaaGreatDoor
open Go.RowKit Go.Maps
theorem run_twins {es fs : List E6.Ev} (h : E6.Twins es fs) : ∀ (M : CS) (i : Nat), M.run fs i = M.run es i := by
  induction es generalizing fs with
  | nil => cases fs with
    | nil => intros; rfl
    | cons _ _ => exact h.elim
  | cons x es ih => cases fs with
    | nil => exact h.elim
    | cons y fs =>
      intro M i
      have e1 : me y = me x := by obtain ⟨h1, h2, h3, h4, _⟩ := h.1; unfold me; rw [h1, h2, h3, h4]
      rw [CS.run, CS.run, e1, ih h.2]
theorem runV_twins {es fs : List E6.Ev} (h : E6.Twins es fs) : runV fs = runV es := by
  unfold runV; rw [E6.bounds_twins h, run_twins h]
theorem twin_all (a : Option Addr) (n c : Nat) (es : List E6.Ev) (w : World) (hr : E6.ERow w a n es) (hok : ∀ e ∈ es, e.ok) (hn : n * 56 ≤ 140737488355328) (hc0 : a = none → c = 0) :
    Calls Tryz.prog 10 #[.slice a n c] w fun e w' => ∃ a' c' fs, e = .returned (.slice a' n c') ∧ E6.ERow w' a' n fs ∧ (∀ f ∈ fs, f.ok) ∧ runV fs = runV es ∧ E6.bounds fs = E6.bounds es ∧ Below w.heap.size w w' := by
  refine (E6.twin_any a n c es w hr hok hn hc0).mono ?_
  rintro e w' ⟨fs, v, rfl, htw⟩
  obtain ⟨a', c', rfl, hrow, _⟩ := htw.form
  have ht := htw.twins hr.len
  exact ⟨a', c', fs, rfl, hrow, htw.ok hok, runV_twins ht, E6.bounds_twins ht, htw.bel⟩
theorem run_bd : ∀ (es : List E6.Ev) (M : CS) (k : Nat), ((M.run es k).1 = -1 ∧ (M.run es k).2 = 0) ∨ ((k : Int) ≤ (M.run es k).1 ∧ (M.run es k).1 < k + es.length ∧ (M.run es k).2 ≠ 0) := by
  intro es
  induction es with
  | nil => intro M k; exact .inl ⟨rfl, rfl⟩
  | cons e es ih =>
    intro M k
    rw [CS.run]
    by_cases h : M.why (me e) ≠ 0
    · rw [if_pos h]
      refine .inr ⟨Int.le_refl _, ?_, h⟩
      dsimp only
      rw [List.length_cons]
      omega
    · rw [if_neg h]
      rcases ih (M.next (me e)) (k + 1) with h1 | ⟨h1, h2, h3⟩
      · exact .inl h1
      · refine .inr ⟨by omega, ?_, h3⟩
        rw [List.length_cons]
        omega
/-- The checker's state behind the first i events, which all can come. -/
def Pre (es : List E6.Ev) (i : Nat) (M : CS) : Prop := ∀ tail, CS.new.run (es.take i ++ tail) 0 = M.run tail i
theorem Pre.zero (es : List E6.Ev) : Pre es 0 CS.new := fun _ => rfl
theorem Pre.succ {es : List E6.Ev} {i : Nat} {M : CS} (h : Pre es i M) {e : E6.Ev} (he : es[i]? = some e) (hw : M.why (me e) = 0) : Pre es (i + 1) (M.next (me e)) := by
  intro tail
  have h1 : es.take (i + 1) = es.take i ++ [e] := by
    obtain ⟨hl, h9⟩ := List.getElem?_eq_some_iff.1 he
    rw [List.take_succ_eq_append_getElem hl, h9]
  rw [h1, List.append_assoc]
  have h2 := h ([e] ++ tail)
  rw [h2]
  show M.run (e :: tail) i = _
  rw [CS.run, if_neg (fun x => x hw)]
theorem Pre.all {es : List E6.Ev} {i : Nat} {M : CS} (h : Pre es i M) : CS.new.run es 0 = M.run (es.drop i) i := by
  have h1 := h (es.drop i)
  rw [List.take_append_drop] at h1
  exact h1
theorem runV_zero {es : List E6.Ev} (h : (E6.bounds es).2 = 0) : runV es = ((CS.new.run es 0).1, (CS.new.run es 0).2, 0) := by
  unfold runV
  rw [if_neg (fun x => x h)]
theorem Pre.take {es : List E6.Ev} {i : Nat} {M : CS} (h : Pre es i M) (hb : (E6.bounds es).2 = 0) : runV (es.take i) = (-1, 0, 0) := by
  have h1 := h []
  rw [List.append_nil] at h1
  rw [runV_zero (E6.bounds_take i hb), h1]
  rfl
end Go.Proofs.YtafkammiehcdjaaGreatDoor
