/-
  What the law's own comes to: a list with a mark behind it, answers that differ by goodness, a table of eleven clocks.
-/
import Derived.Test.YtajkenbcndmjpabGrC
import Derived.Laws.BytesArg
namespace Go.Proofs.Ytajkenbcndmjpab
open Go.RowKit
open Go.Proofs.Ytajkenbcndmjpab.W1 (Row enc)
theorem tget_any {w : World} {v : Value} {L : List Tk} (g : Int) (h : CL w v L) : Calls Try.prog 19 #[v, .int .i64 g] w fun e w' => e = .returned (.int .i64 (if gd 0 L then tm g L else 0)) ∧ Below w.heap.size w w' := by
  obtain ⟨a, n, c, rfl, h1⟩ := h.ex
  exact get_any a n c L g w h1.row h1.big
theorem tgetG_any {w : World} {v : Value} {L : List Tk} (g : Int) (h : CV w v L) : Calls Try.prog 19 #[v, .int .i64 g] w fun e w' => e = .returned (.int .i64 (tm g L)) ∧ Below w.heap.size w w' := by
  refine (tget_any g h.cl).mono ?_
  rintro e w' ⟨rfl, hb⟩
  exact ⟨by rw [if_pos h.gd], hb⟩
theorem tset_any {w : World} {v : Value} {L : List Tk} (g t : Int) (h : CV w v L) (hg0 : 0 ≤ g) (hg1 : g < 65536) (ht : 0 ≤ t) :
    Calls Try.prog 20 #[v, .int .i64 g, .int .i64 t] w fun e w' => ∃ x, e = .returned (.tuple #[x, .int .i64 0]) ∧ OwnT w' w.heap.size x (stt L g t) ∧ Below w.heap.size w w' := by
  obtain ⟨a, n, c, rfl, h1⟩ := h.cl.ex
  exact set_ok a n c L g t w h1 h.gd hg0 hg1 ht
/-- The error of a list. -/
def erL (L : List Tk) : Int := if gd 0 L = true then 0 else 170
/-- What Join answers. -/
structure JX (L M J : List Tk) : Prop where
  ok : gd 0 L = true → gd 0 J = true ∧ ∀ g, tm g J = max (tm g L) (tm g M)
  no : gd 0 L = false → J = []
theorem JX.uniq {L M J K : List Tk} (h : JX L M J) (k : JX L M K) : J = K := by
  cases hg : gd 0 L with
  | true => exact tm_ext (h.ok hg).1 (k.ok hg).1 (fun g => by rw [(h.ok hg).2, (k.ok hg).2])
  | false => rw [h.no hg, k.no hg]
theorem joinX_any {w : World} {v u : Value} {L M : List Tk} (h : CL w v L) (k : CV w u M) : Calls Try.prog 30 #[v, u] w fun e w' => ∃ x J, e = .returned (.tuple #[x, .int .i64 (erL L)]) ∧ CL w' x J ∧ JX L M J ∧ Below w.heap.size w w' := by
  cases hg : gd 0 L with
  | true =>
    refine (cjoinP_any ⟨h, hg⟩ k).mono ?_
    rintro e w' ⟨x, J, rfl, _, hc, ht, hb⟩
    exact ⟨x, J, by rw [erL, if_pos hg], hc.cl, ⟨fun _ => ⟨hc.gd, ht⟩, fun e => (by rw [hg] at e; cases e)⟩, hb⟩
  | false =>
    obtain ⟨a, n, c, rfl, h1⟩ := h.ex
    obtain ⟨b, m, d, rfl, k1⟩ := k.cl.ex
    refine (join_bad a b n c m d L M w h1.row k1.row h1.big k1.big (.inl hg)).mono ?_
    rintro e w' ⟨rfl, hb⟩
    exact ⟨_, [], by rw [erL, hg]; rfl, (CV.nil _).cl, ⟨fun e => (by rw [hg] at e; cases e), fun _ => rfl⟩, hb⟩
/-- The text of a list. -/
def strL (L : List Tk) : ByteArray := if gd 0 L = true then strOfNums (encC L) else ByteArray.empty
theorem own_conv {w : World} {base : Nat} {v : Value} {zs : List Int} (h : Own layB 5 w base v zs) (hu : u8s zs) (h0 : 0 < zs.length) : (convert 23 9 v).run Try.prog w = .ok (.string (strOfNums zs)) w := by
  obtain ⟨g, c, rfl, _, _, _⟩ := h.frm h0
  have h2 := row_b (h.row rfl) hu
  obtain ⟨b, off, e, hc⟩ := h2.cells.resolve_left (by omega)
  injection e with e
  injection e with e1 e2
  subst e1
  rw [← e2] at hc
  exact run_convert_bytes_arg (P := Try.prog) w 23 5 Try.underlying23 Try.underlying5 g 0 _ c zs rfl hc 9 Try.underlying9
theorem encX_any {w : World} {v : Value} {L : List Tk} (h : CL w v L) (hf : fits L) : Calls Try.prog 7 #[v] w fun e w' => ∃ x, e = .returned (.tuple #[x, .int .i64 (erL L)]) ∧ (∀ W, Below w'.heap.size w' W → (convert 23 9 x).run Try.prog W = .ok (.string (strL L)) W) ∧ Below w.heap.size w w' := by
  cases hg : gd 0 L with
  | true =>
    refine (enc_ok ⟨h, hg⟩ hf).mono ?_
    rintro e w' ⟨x, rfl, ho, hb⟩
    refine ⟨x, by rw [erL, if_pos hg], fun W hW => ?_, hb⟩
    rw [strL, if_pos hg]
    exact own_conv (ho.below hW) (u8s_encC L) (by unfold encC; rw [List.length_append]; have := W1.enc_pos L.length; omega)
  | false =>
    refine (enc_bad h hg).mono ?_
    rintro e w' ⟨rfl, hb⟩
    refine ⟨_, by rw [erL, hg]; rfl, fun W hW => ?_, hb⟩
    rw [strL, hg, if_neg (by decide)]
    exact run_convert_bytes_nil (P := Try.prog) W 23 5 Try.underlying23 Try.underlying5 0 0 9 Try.underlying9
/-- The next goroutine. -/
def up (x : Tk) : Tk := ⟨x.g + 1, x.t⟩
def ups (A : List Tk) (i : Nat) : List Tk := (A.take i).map up ++ A.drop i
theorem ups_zero (A : List Tk) : ups A 0 = A := by simp [ups]
theorem ups_len (A : List Tk) (i : Nat) : (ups A i).length = A.length := by simp [ups]; omega
theorem ups_at {A : List Tk} {i : Nat} {x : Tk} (h : A[i]? = some x) : (ups A i)[i]? = some x := by
  have hl := get_lt h
  unfold ups
  rw [List.getElem?_append_right (by simp; omega), List.length_map, List.length_take, Nat.min_eq_left (by omega), Nat.sub_self, List.getElem?_drop]
  exact h
theorem ups_next {A : List Tk} {i : Nat} {x : Tk} (h : A[i]? = some x) : (ups A i).set i (up x) = ups A (i + 1) := by
  have hl := get_lt h
  unfold ups
  rw [take_next h, List.map_append, List.append_assoc]
  have e1 : A.drop i = x :: A.drop (i + 1) := by
    rw [List.drop_eq_getElem_cons hl]
    rw [List.getElem?_eq_getElem hl] at h
    injection h with h
    rw [h]
  rw [List.set_append_right _ _ (by simp; omega), List.length_map, List.length_take, Nat.min_eq_left (by omega), Nat.sub_self, e1]
  rfl
theorem ups_done (A : List Tk) {n : Nat} (h : A.length = n) : ups A n = A.map up := by
  unfold ups
  rw [List.take_of_length_le (by omega), List.drop_eq_nil_of_le (by omega), List.append_nil]
theorem up_fits {A : List Tk} (hg : gd 0 A = true) (hf : fits A) : fits (A.map up) := by
  intro y hy
  obtain ⟨x, hx, rfl⟩ := List.mem_map.1 hy
  have h1 := tm_mem hg hx
  have h2 := hf x hx
  simp only [up]
  omega
/-- A list with a mark behind it. -/
structure IT (w : World) (base b g cc n : Nat) (L : List Tk) : Prop where
  own : OwnT w base (.slice (some ⟨g, 0, none⟩) (n + 1) cc) (L ++ [⟨-9, -9⟩])
  len : L.length = n
  lt : g < b
  big : (n : Int) ≤ 70000
section
variable {w w' : World} {base b g cc n : Nat} {L : List Tk}
theorem IT.below (h : IT w base b g cc n L) (hb : Below w.heap.size w w') : IT w' base b g cc n L := ⟨h.own.below hb, h.len, h.lt, h.big⟩
theorem IT.past (h : IT w base b g cc n L) (hb : Below b w w') : IT w' base b g cc n L := by
  refine ⟨?_, h.len, h.lt, h.big⟩
  have hB : But (fun q => b ≤ q) w w' := ⟨hb.os, hb.tape, hb.output, hb.size, fun k _ hs => hb.block k (by omega)⟩
  exact h.own.but hB (fun q hq e => by
    have e1 : some g = some q := hq
    injection e1 with e1
    have := h.lt
    omega)
theorem IT.all (h : IT w base b g cc n L) : (L ++ [(⟨-9, -9⟩ : Tk)]).length = n + 1 := by rw [List.length_append, h.len]; rfl
theorem IT.cap (h : IT w base b g cc n L) : n + 1 ≤ cc := by
  have hl := h.all
  obtain ⟨g', c', hv, _, _, hc⟩ := h.own.frm (by omega)
  rw [hl] at hv hc
  cases hv
  exact hc
theorem IT.cl (h : IT w base b g cc n L) : CL w (.slice (some ⟨g, 0, none⟩) n cc) L := by
  have h1 := (h.own.row h.all).cut n (by omega)
  rw [← h.len, List.take_left, h.len] at h1
  exact ⟨_, _, _, rfl, ⟨h1, by have := h.cap; omega, fun e => (by cases e), by have := h.big; omega⟩⟩
theorem IT.ge (h : IT w base b g cc n L) : base ≤ g := (h.own.lt g rfl).1
theorem IT.last (h : IT w base b g cc n L) : w.cell? ⟨g, n * 2, none⟩ = some (.int .i64 (-9)) := by
  have hx : (L ++ [(⟨-9, -9⟩ : Tk)])[n]? = some ⟨-9, -9⟩ := by
    rw [← h.len, List.getElem?_append_right (Nat.le_refl _), Nat.sub_self]; rfl
  exact h.own.cell hx 0 rfl
theorem IT.at (h : IT w base b g cc n L) {i : Nat} {x : Tk} (hx : L[i]? = some x) : w.cell? ⟨g, i * 2, none⟩ = some (.int .i64 x.g) ∧ w.frozen? ⟨g, i * 2, none⟩ = false := by
  have hx2 : (L ++ [(⟨-9, -9⟩ : Tk)])[i]? = some x := by rw [List.getElem?_append_left (get_lt hx)]; exact hx
  exact ⟨h.own.cell hx2 0 rfl, h.own.frozen _⟩
theorem IT.set (h : IT w base b g cc n L) {i : Nat} {x : Tk} (hx : L[i]? = some x) : IT (w.setCell ⟨g, i * 2, none⟩ (.int .i64 (x.g + 1))) base b g cc n (L.set i (up x)) := by
  have hx2 : (L ++ [(⟨-9, -9⟩ : Tk)])[i]? = some x := by rw [List.getElem?_append_left (get_lt hx)]; exact hx
  have h1 := h.own.setU h.all (t := 0) (a' := up x) (u := .int .i64 (x.g + 1)) hx2 (by decide) rfl
  rw [List.set_append_left _ _ (get_lt hx)] at h1
  exact ⟨h1, by rw [List.length_set]; exact h.len, h.lt, h.big⟩
end
theorem own_sl {w : World} {b : Nat} {v : Value} {L : List Tk} (h : OwnT w b v L) : ∃ a n c, v = .slice a n c := by
  obtain ⟨a, c, rfl, _, _⟩ := own_form h
  exact ⟨_, _, _, rfl⟩
/-- Clocks told apart. -/
structure FQ (w : World) (b : Nat) (Q : List (Value × List Tk × Nat)) : Prop where
  fm : Fm w b (fun v L l => (v, L, l) ∈ Q)
  gd : ∀ v L l, (v, L, l) ∈ Q → gd 0 L = true
theorem FQ.nil (w : World) (b : Nat) : FQ w b [] := ⟨⟨fun v L l h => (by cases h), fun v L l _ _ _ h => (by cases h)⟩, fun v L l h => (by cases h)⟩
theorem FQ.below {w w' : World} {b : Nat} {Q : List (Value × List Tk × Nat)} (h : FQ w b Q) (hb : Below w.heap.size w w') : FQ w' b Q := ⟨h.fm.below hb, h.gd⟩
theorem FQ.add {w w' : World} {b : Nat} {Q : List (Value × List Tk × Nat)} (h : FQ w b Q) (hb : Below w.heap.size w w') (l0 : Nat) {v0 : Value} {L0 : List Tk} (ho : OwnT w' w.heap.size v0 L0) (hB : b ≤ w.heap.size) (hg : Go.Proofs.Ytajkenbcndmjpab.gd 0 L0 = true) : FQ w' b ((v0, L0, l0) :: Q) := by
  refine ⟨(h.fm.add hb l0 ho hB).mono (fun v L l e => ?_), fun v L l e => ?_⟩
  · rcases List.mem_cons.1 e with e | e
    · cases e; exact .inr ⟨rfl, rfl, rfl⟩
    · exact .inl e
  · rcases List.mem_cons.1 e with e | e
    · cases e; exact hg
    · exact h.gd v L l e
def slOf : Value → Sl
  | .slice a n c => ⟨a, n, c⟩
  | _ => ⟨none, 0, 0⟩
theorem FQ.form {w : World} {b : Nat} {Q : List (Value × List Tk × Nat)} (h : FQ w b Q) {v : Value} {L : List Tk} {l : Nat} (hm : (v, L, l) ∈ Q) : (slOf v).val = v := by
  obtain ⟨a, c, rfl, _, _⟩ := own_form (h.fm.own v L l hm)
  rfl
theorem FQ.pack {w : World} {b : Nat} {x0 x1 x2 x3 x4 x5 x6 x7 x8 x9 x10 : Value} {A0 A1 A2 A3 A4 A5 A6 A7 A8 A9 A10 : List Tk}
    (h : FQ w b [(x8, A8, 8), (x7, A7, 7), (x6, A6, 6), (x5, A5, 5), (x4, A4, 4), (x3, A3, 3), (x2, A2, 2), (x10, A10, 10), (x9, A9, 9), (x1, A1, 1), (x0, A0, 0)]) :
    ∃ P : List (Sl × List Tk), P.length = 11 ∧ Fm (w.alloc (.cells #[x0, x1, x2, x3, x4, x5, x6, x7, x8, x9, x10] 22)) b (fA P 0) ∧ Tb P w.heap.size (w.alloc (.cells #[x0, x1, x2, x3, x4, x5, x6, x7, x8, x9, x10] 22)) ∧ ∀ (i : Nat) (s : Sl) (L : List Tk), P[i]? = some (s, L) → (L.length : Int) ≤ 70000 := by
  have e0 := h.form (v := x0) (L := A0) (l := 0) (by simp)
  have e1 := h.form (v := x1) (L := A1) (l := 1) (by simp)
  have e2 := h.form (v := x2) (L := A2) (l := 2) (by simp)
  have e3 := h.form (v := x3) (L := A3) (l := 3) (by simp)
  have e4 := h.form (v := x4) (L := A4) (l := 4) (by simp)
  have e5 := h.form (v := x5) (L := A5) (l := 5) (by simp)
  have e6 := h.form (v := x6) (L := A6) (l := 6) (by simp)
  have e7 := h.form (v := x7) (L := A7) (l := 7) (by simp)
  have e8 := h.form (v := x8) (L := A8) (l := 8) (by simp)
  have e9 := h.form (v := x9) (L := A9) (l := 9) (by simp)
  have e10 := h.form (v := x10) (L := A10) (l := 10) (by simp)
  have key : ∀ (l : Nat) (s : Sl) (L : List Tk), [(slOf x0, A0), (slOf x1, A1), (slOf x2, A2), (slOf x3, A3), (slOf x4, A4), (slOf x5, A5), (slOf x6, A6), (slOf x7, A7), (slOf x8, A8), (slOf x9, A9), (slOf x10, A10)][l]? = some (s, L) → (s.val, L, l) ∈ [(x8, A8, 8), (x7, A7, 7), (x6, A6, 6), (x5, A5, 5), (x4, A4, 4), (x3, A3, 3), (x2, A2, 2), (x10, A10, 10), (x9, A9, 9), (x1, A1, 1), (x0, A0, 0)] := by
    intro l s L hP
    have hl := get_lt hP
    have hl2 : l < 11 := hl
    have : l = 0 ∨ l = 1 ∨ l = 2 ∨ l = 3 ∨ l = 4 ∨ l = 5 ∨ l = 6 ∨ l = 7 ∨ l = 8 ∨ l = 9 ∨ l = 10 := by omega
    rcases this with rfl | rfl | rfl | rfl | rfl | rfl | rfl | rfl | rfl | rfl | rfl <;>
      (injection hP with hP; injection hP with q1 q2; subst q1; subst q2)
    · rw [e0]; simp
    · rw [e1]; simp
    · rw [e2]; simp
    · rw [e3]; simp
    · rw [e4]; simp
    · rw [e5]; simp
    · rw [e6]; simp
    · rw [e7]; simp
    · rw [e8]; simp
    · rw [e9]; simp
    · rw [e10]; simp
  refine ⟨[(slOf x0, A0), (slOf x1, A1), (slOf x2, A2), (slOf x3, A3), (slOf x4, A4), (slOf x5, A5), (slOf x6, A6), (slOf x7, A7), (slOf x8, A8), (slOf x9, A9), (slOf x10, A10)], rfl, ?_, ?_, ?_⟩
  · exact (h.fm.below (below_alloc1 _ _)).mono (fun v L l e => by
      obtain ⟨_, s, hP, rfl⟩ := e
      exact key l s L hP)
  · have hc : (layS.fl ([(slOf x0, A0), (slOf x1, A1), (slOf x2, A2), (slOf x3, A3), (slOf x4, A4), (slOf x5, A5), (slOf x6, A6), (slOf x7, A7), (slOf x8, A8), (slOf x9, A9), (slOf x10, A10)].map Prod.fst)).toArray = #[x0, x1, x2, x3, x4, x5, x6, x7, x8, x9, x10] := by
      show #[(slOf x0).val, (slOf x1).val, (slOf x2).val, (slOf x3).val, (slOf x4).val, (slOf x5).val, (slOf x6).val, (slOf x7).val, (slOf x8).val, (slOf x9).val, (slOf x10).val] = _
      rw [e0, e1, e2, e3, e4, e5, e6, e7, e8, e9, e10]
    unfold Tb
    rw [hc]
    exact heap_new _ _
  · intro i s L hP
    have := gd_len0 (h.gd _ _ _ (key i s L hP))
    omega
end Go.Proofs.Ytajkenbcndmjpab
