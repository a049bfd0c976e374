/-
  EventBounds.
-/
import Derived.Test.YtifbehkdhalfcaaDoorBndB
import Derived.Test.YtifbehkdhalfcaaDoorEvtY
namespace Go.Proofs.YtifbehkdhalfcaaDoor
open Go.RowKit Go.Maps Go.Shelf
/-- Two lists of events that differ in where the stacks lie alone. -/
def Twins : List Ev → List Ev → Prop
  | [], [] => True
  | e :: r, f :: q => e.twin f ∧ Twins r q
  | _, _ => False
theorem twins_of {es fs : List Ev} (hl : fs.length = es.length) (h : ∀ (i : Nat) f, fs[i]? = some f → ∃ e, es[i]? = some e ∧ e.twin f) : Twins es fs := by
  induction es generalizing fs with
  | nil => cases fs with
    | nil => trivial
    | cons _ _ => simp at hl
  | cons e es ih => cases fs with
    | nil => simp at hl
    | cons f fs =>
      refine ⟨?_, ih (by simpa using hl) (fun i g hg => ?_)⟩
      · obtain ⟨e', h1, h2⟩ := h 0 f rfl
        simp at h1; subst h1; exact h2
      · obtain ⟨e', h1, h2⟩ := h (i + 1) g (by simpa using hg)
        exact ⟨e', by simpa using h1, h2⟩
theorem Twins.get {es fs : List Ev} (h : Twins es fs) {i : Nat} {e f : Ev} (he : es[i]? = some e) (hf : fs[i]? = some f) : e.twin f := by
  induction es generalizing fs i with
  | nil => simp at he
  | cons x es ih => cases fs with
    | nil => simp at hf
    | cons y fs => cases i with
      | zero => simp at he hf; subst he; subst hf; exact h.1
      | succ i => exact ih h.2 (by simpa using he) (by simpa using hf)
theorem Twins.len {es fs : List Ev} (h : Twins es fs) : fs.length = es.length := by
  induction es generalizing fs with
  | nil => cases fs with
    | nil => rfl
    | cons _ _ => exact h.elim
  | cons x es ih => cases fs with
    | nil => exact h.elim
    | cons y fs => simp [ih h.2]
theorem Ev.twin.chk {e f : Ev} (h : e.twin f) : f.chk = e.chk := by
  obtain ⟨h1, h2, h3, h4, h5⟩ := h
  unfold Ev.chk; rw [h1, h2, h3, h4, h5]
theorem bnd_twins {es fs : List Ev} (h : Twins es fs) : ∀ i L N, bnd fs i L N = bnd es i L N := by
  induction es generalizing fs with
  | nil => cases fs with
    | nil => intros; rfl
    | cons _ _ => exact h.elim
  | cons x es ih => cases fs with
    | nil => exact h.elim
    | cons y fs =>
      intro i L N
      rw [bnd, bnd, h.1.chk, h.1.2.2.2.2, ih h.2]
theorem bounds_twins {es fs : List Ev} (h : Twins es fs) : bounds fs = bounds es := by
  unfold bounds; rw [h.len, bnd_twins h]
theorem Tw.twins {w0 wr : World} {es fs : List Ev} {n : Nat} {v : Value} (h : Tw w0 wr es n fs v) (hl : es.length = n) : Twins es fs :=
  twins_of (by rw [h.len, hl]) fun i f hf => by obtain ⟨e, h1, h2, _⟩ := h.each i f hf; exact ⟨e, h1, h2⟩
theorem Tw.ok {w0 wr : World} {es fs : List Ev} {n : Nat} {v : Value} (h : Tw w0 wr es n fs v) (hok : ∀ e ∈ es, e.ok) : ∀ f ∈ fs, f.ok := by
  intro f hf
  obtain ⟨i, hi, e0⟩ := List.getElem_of_mem hf
  obtain ⟨e, h1, ⟨_, _, t3, t4, t5⟩, h3, h4, _⟩ := h.each i f (by rw [List.getElem?_eq_getElem hi, e0])
  have ho := hok e (List.mem_of_getElem? h1)
  exact ⟨by rw [t3]; exact ho.ho, by rw [t4]; exact ho.ha, by rw [t5]; exact ho.len, by rw [t5]; exact ho.sz, h3, h4⟩
set_option maxRecDepth 4000 in
set_option maxHeartbeats 2000000 in
theorem tsame_any (a : Option Addr) (n c : Nat) (es : List Ev) (a' : Option Addr) (c' : Nat) (fs : List Ev) (w : World) (hr : ERow w a n es) (hr' : ERow w a' n fs) (ht : Twins es fs) (hok : ∀ e ∈ es, e.ok) (hn : (n : Int) ≤ 9223372036854775806) :
    Calls Tryd.prog 12 #[.slice a n c, .slice a' n c'] w fun r w' => r = .returned (.bool true) ∧ Below w.heap.size w w' := by
  have H1 : Hid _ := hide hr
  have H2 : Hid _ := hide hr'
  have HT : Hid _ := hide ht
  have HO : Hid _ := hide hok
  have hnn : ((n : Int) != (n : Int)) = false := by simp
  clear hr hr' ht hok
  go_enter Tryd.func12, Tryd.ntmps12
  go_wp2
  go_loopw [5] (fun i wr => ∃ j : Nat, j ≤ n ∧ i = .int .i64 j ∧ Below w.heap.size w wr) (fun i _ => n - (intOf i).toNat)
  case atStart => exact ⟨0, Nat.zero_le _, rfl, Below.refl _ _⟩
  case round =>
    obtain ⟨j, hj, rfl, hbel⟩ := hrel
    have HB : Hid _ := hide hbel
    clear hbel hnn
    by_cases hlt : j < n
    · have hjI : (j : Int) < n := by omega
      obtain ⟨b, off, e, rfl, hej, c0, c1, c2, c3, c4, hs⟩ := (H1.out.bel HB.out).at hlt
      obtain ⟨b', off', f, rfl, hfj, d0, d1, d2, d3, d4, hs'⟩ := (H2.out.bel HB.out).at hlt
      obtain ⟨t1, t2, t3, t4, t5⟩ := HT.out.get hej hfj
      have hlen : (e.ls.length : Int) ≤ 9223372036854775806 := by have := (HO.out e (List.mem_of_getElem? hej)).len; omega
      have hQ := rsame_any e.g e.k e.o e.a e.sa e.ls.length e.sc e.ls f.g f.k f.o f.a f.sa f.ls.length f.sc f.ls wr.drew (SRow.drewN hs 1) (SRow.drewN hs' 1) hlen
      rw [show sameB e.g e.k e.o e.a e.ls f.g f.k f.o f.a f.ls = true by rw [t1, t2, t3, t4, t5]; exact sameB_twin _ _ _ _ _] at hQ
      have HQ : Hid _ := hide hQ
      clear hej hfj t1 t2 t3 t4 t5 hQ hs hs' hlen
      obtain ⟨eg, ek, eo, ea, esa, esc, els⟩ := e
      obtain ⟨fg, fk, fo, fa, fsa, fsc, fls⟩ := f
      dsimp only at c0 c1 c2 c3 c4 d0 d1 d2 d3 d4 HQ
      have c0' := c0
      go_wp2
      go_region_held3 (fun W => W.cell? ⟨b, off + j * 5, none⟩ = some (.int .i64 eg) ∧ W.cell? ⟨b, off + j * 5 + 1, none⟩ = some (.int .i64 ek) ∧ W.cell? ⟨b, off + j * 5 + 2, none⟩ = some (.int .u64 eo) ∧ W.cell? ⟨b, off + j * 5 + 3, none⟩ = some (.int .u64 ea) ∧ W.cell? ⟨b, off + j * 5 + 4, none⟩ = some (.slice esa els.length esc) ∧ W.cell? ⟨b', off' + j * 5, none⟩ = some (.int .i64 fg) ∧ W.cell? ⟨b', off' + j * 5 + 1, none⟩ = some (.int .i64 fk) ∧ W.cell? ⟨b', off' + j * 5 + 2, none⟩ = some (.int .u64 fo) ∧ W.cell? ⟨b', off' + j * 5 + 3, none⟩ = some (.int .u64 fa) ∧ W.cell? ⟨b', off' + j * 5 + 4, none⟩ = some (.slice fsa fls.length fsc)) (first | exact ⟨c0, c1, c2, c3, c4, d0, d1, d2, d3, d4⟩ | exact A5) (first
        | (go_at_call 22; refine HQ.out.mono ?_; rintro r w5 ⟨rfl, hb5⟩; have HB5 : Hid _ := hide (Below.trans (below_drewN HB.out 1) (hb5.mono HB.out.size)); have A5 := (⟨cell_bel (cell_drewN c0 1) hb5, cell_bel (cell_drewN c1 1) hb5, cell_bel (cell_drewN c2 1) hb5, cell_bel (cell_drewN c3 1) hb5, cell_bel (cell_drewN c4 1) hb5, cell_bel (cell_drewN d0 1) hb5, cell_bel (cell_drewN d1 1) hb5, cell_bel (cell_drewN d2 1) hb5, cell_bel (cell_drewN d3 1) hb5, cell_bel (cell_drewN d4 1) hb5⟩ : _ ∧ _ ∧ _ ∧ _ ∧ _ ∧ _ ∧ _ ∧ _ ∧ _ ∧ _); clear hb5))
      go_wp2
      exact ⟨⟨j + 1, by omega, by go_num, HB5.out⟩, by simp [intOf]; omega⟩
    · go_wp2
      go_ret
      exact ⟨rfl, HB.out⟩
set_option maxRecDepth 4000 in
theorem ebounds_any (a : Option Addr) (n c : Nat) (es : List Ev) (w : World) (h : Kr w) (hr : ERow w a n es) (hok : ∀ e ∈ es, e.ok) (hn : n * 56 ≤ 140737488355328) :
    Calls Tryd.prog 3 #[.slice a n c] w fun r w' => r = .returned (.bool true) ∧ Below w.heap.size w w' := by
  have hnI : (n : Int) ≤ 9223372036854775806 := by omega
  have HT : Hid _ := hide (twin_any a n c es w hr hok hn)
  have HK : Hid _ := hide h
  have HR : Hid _ := hide hr
  have HO : Hid _ := hide hok
  clear h hr hok hn
  go_enter Tryd.func3, Tryd.ntmps3
  go_wp2_with fail
  refine HT.out.mono ?_
  rintro r w1 ⟨fs, v, rfl, htw⟩
  obtain ⟨va, vc, rfl, hrow, hvc⟩ := htw.form
  have HTw : Hid _ := hide htw
  have HRow : Hid _ := hide hrow
  have HTs : Hid _ := hide (htw.twins HR.out.len)
  have HQ : Hid _ := hide (bounds_any a n c es w1 (HK.out.below htw.bel (by have := HK.out.size; omega)) (HR.out.bel htw.bel) HO.out hnI)
  clear htw hrow HT
  go_wp2_with fail
  refine HQ.out.mono ?_
  rintro r w2 ⟨rfl, hb2⟩
  have HB2 : Hid _ := hide (HTw.out.bel.trans (hb2.mono HTw.out.bel.size))
  have HRow2 : Hid _ := hide (HRow.out.bel hb2)
  have hQ2 := rbounds_any va n vc fs w2 HRow2.out (HTw.out.ok HO.out) hnI
  rw [bounds_twins HTs.out] at hQ2
  have HQ2 : Hid _ := hide hQ2
  clear hb2 hQ2 HQ HRow
  generalize (bounds es).1 = x at HQ2 ⊢
  generalize (bounds es).2 = y at HQ2 ⊢
  go_wp2_with fail
  refine HQ2.out.mono ?_
  rintro r w3 ⟨rfl, hb3⟩
  have HB3 : Hid _ := hide (HB2.out.trans (hb3.mono HB2.out.size))
  have HQ3 : Hid _ := hide (tsame_any a n c es va vc fs w3 (HR.out.bel HB3.out) (HRow2.out.bel hb3) HTs.out HO.out hnI)
  have gx : (x == x) = true := by simp
  have gy : (y == y) = true := by simp
  clear hb3 HQ2
  go_wp2_with fail
  refine HQ3.out.mono ?_
  rintro r w4 ⟨rfl, hb4⟩
  have HB4 : Hid _ := hide (HB3.out.trans (hb4.mono HB3.out.size))
  clear hb4
  go_wp2
  go_ret
  exact ⟨rfl, HB4.out⟩
end Go.Proofs.YtifbehkdhalfcaaDoor
