/-
  Two forests over one table, and the document's.
-/
import Derived.Test.YtjpccaeojimlfaaRefL
import Derived.Test.YtjpccaeojimlfaaPlyA
namespace Go.Proofs.Ytjpccaeojimlfaa
open Go.RowKit Go.Maps Go.Shelf
structure Ply (w0 w : World) (pb tb ub FB GB : Nat) (f g : Nat → Nat) (Z : Nat → Nat → Prop) (L M : List ByteArray) (N R : Nat → List Nd) (P : Nat → List Stk) : Prop where
  pair : w.heap[pb]? = some (.cells #[.pointer (some ⟨tb, 0, none⟩), .pointer (some ⟨ub, 0, none⟩), .slice (some ⟨FB, 0, none⟩) 3 3, .slice (some ⟨GB, 0, none⟩) 3 3] 89 (0, 0))
  fs : w.heap[FB]? = some (.cells #[.pointer (some ⟨f 0, 0, none⟩), .pointer (some ⟨f 1, 0, none⟩), .pointer none] 26 (0, 0))
  gs : w.heap[GB]? = some (.cells #[.pointer (some ⟨g 0, 0, none⟩), .pointer (some ⟨g 1, 0, none⟩), .pointer none] 90 (0, 0))
  z0 : Z 0 pb ∧ Z 0 FB ∧ Z 0 GB
  tab : ∃ tv tm, Tab w tb (Z 1) L tv tm
  rtab : ∃ tv, RTab w ub (Z 4) M tv
  frs : ∀ i, i < 2 → ∃ v mb, Frs w (f i) tb (Z (2 + i)) (N i) v mb
  rfr : ∀ i, i < 2 → ∃ v, RFr w (g i) ub (Z (5 + i)) (R i) v
  fit : ∀ i, i < 2 → Fit L (N i) (P i)
  dis : ∀ i j k, Z i k → Z j k → i = j
  rng : ∀ i k, Z i k → w0.heap.size ≤ k ∧ k < w.heap.size
  bel : Below w0.heap.size w0 w
def Play5 (w0 w : World) (pb : Nat) : Prop := ∃ tb ub FB GB f g Z L N P, Ply w0 w pb tb ub FB GB f g Z L L N N P
section
variable {w0 w w' : World} {pb tb ub FB GB : Nat} {f g : Nat → Nat} {Z : Nat → Nat → Prop} {L M : List ByteArray} {N R : Nat → List Nd} {P : Nat → List Stk}
/-- Nothing of it has turned. -/
theorem Ply.but {U : Nat → Prop} (h : Ply w0 w pb tb ub FB GB f g Z L M N R P) (hb : But U w w') (hU : ∀ i k, Z i k → ¬ U k) (hlo : ∀ k, U k → w0.heap.size ≤ k) : Ply w0 w' pb tb ub FB GB f g Z L M N R P := by
  have hs := hb.size
  obtain ⟨tv, tm, ht⟩ := h.tab
  obtain ⟨rv, hr⟩ := h.rtab
  refine ⟨(hb.block pb (Array.getElem?_eq_some_iff.1 h.pair).1 (hU 0 _ h.z0.1)).trans h.pair, (hb.block FB (Array.getElem?_eq_some_iff.1 h.fs).1 (hU 0 _ h.z0.2.1)).trans h.fs, (hb.block GB (Array.getElem?_eq_some_iff.1 h.gs).1 (hU 0 _ h.z0.2.2)).trans h.gs, h.z0,
    ⟨tv, tm, ht.kept hb (hU 1)⟩, ⟨rv, hr.kept hb (hU 4)⟩, fun i hi => ?_, fun i hi => ?_, h.fit, h.dis, fun i k hk => ?_, h.bel.trans (hb.below h.bel.size hlo)⟩
  · obtain ⟨v, mb, hf⟩ := h.frs i hi
    exact ⟨v, mb, hf.kept hb (hU _)⟩
  · obtain ⟨v, hf⟩ := h.rfr i hi
    exact ⟨v, hf.kept hb (hU _)⟩
  · have := h.rng i k hk; omega
theorem Ply.below (h : Ply w0 w pb tb ub FB GB f g Z L M N R P) (hb : Below w.heap.size w w') : Ply w0 w' pb tb ub FB GB f g Z L M N R P :=
  h.but (U := fun _ => False) (But.of_below hb) (fun _ _ _ e => e) (fun _ e => e.elim)
/-- What is new since then may turn. -/
theorem Ply.since {U : Nat → Prop} {w1 : World} (h : Ply w0 w pb tb ub FB GB f g Z L M N R P) (hb : Below w.heap.size w w1) (hc : But U w1 w') (hU : ∀ k, U k → w.heap.size ≤ k) : Ply w0 w' pb tb ub FB GB f g Z L M N R P :=
  (h.below hb).but hc (fun i k hk e => by have := h.rng i k hk; have := hU k e; omega) (fun k e => by have := hU k e; have := h.bel.size; omega)
theorem Ply.st (h : Ply w0 w pb tb ub FB GB f g Z L M N R P) (i : Nat) (hi : i < 2) : St w (Z 1) (Z (2 + i)) tb (f i) L (N i) := by
  obtain ⟨tv, tm, ht⟩ := h.tab
  obtain ⟨v, mb, hf⟩ := h.frs i hi
  exact ⟨⟨tv, tm, v, mb, ht, hf⟩, fun k h1 h2 => by have := h.dis _ _ k h1 h2; omega, fun k hk => (h.rng _ k hk).2, fun k hk => (h.rng _ k hk).2⟩
theorem Ply.rst (h : Ply w0 w pb tb ub FB GB f g Z L M N R P) (i : Nat) (hi : i < 2) : RSt w (Z 4) (Z (5 + i)) ub (g i) M (R i) := by
  obtain ⟨tv, ht⟩ := h.rtab
  obtain ⟨v, hf⟩ := h.rfr i hi
  exact ⟨⟨tv, v, ht, hf⟩, fun k h1 h2 => by have := h.dis _ _ k h1 h2; omega, fun k hk => (h.rng _ k hk).2, fun k hk => (h.rng _ k hk).2⟩
def upd {α : Type} (N : Nat → α) (i : Nat) (x : α) : Nat → α := fun j => if j = i then x else N j
theorem upd_same {α : Type} (N : Nat → α) (i : Nat) (x : α) : upd N i x i = x := by simp [upd]
theorem upd_other {α : Type} (N : Nat → α) {i j : Nat} (x : α) (h : j ≠ i) : upd N i x j = N j := by simp [upd, h]
theorem Fit.mono {L : List ByteArray} {N : List Nd} {P : List Stk} (h : Fit L N P) {L' : List ByteArray} (hE : ∃ E, L' = L ++ E) (hd : L'.Nodup) : Fit L' N P := by
  obtain ⟨E, rfl⟩ := hE
  refine ⟨⟨h.good.1, fun n hn => ?_⟩, h.rep.mono E, hd⟩
  have := h.good.2 n hn
  simp; omega
/-- Two of its sets have grown. -/
theorem grow_two {lo sz sz' : Nat} (hd : ∀ i j k, Z i k → Z j k → i = j) (hr : ∀ i k, Z i k → lo ≤ k ∧ k < sz) (hlo : lo ≤ sz) (hsz : sz ≤ sz') {a b : Nat} {T S : Nat → Prop} (hab : a ≠ b)
    (m1 : ∀ k, T k → Z a k ∨ sz ≤ k) (m2 : ∀ k, S k → Z b k ∨ sz ≤ k) (dis : ∀ k, T k → ¬ S k) (t1 : ∀ k, T k → k < sz') (s1 : ∀ k, S k → k < sz') :
    (∀ i j k, upd (upd Z a T) b S i k → upd (upd Z a T) b S j k → i = j) ∧ (∀ i k, upd (upd Z a T) b S i k → lo ≤ k ∧ k < sz') := by
  have key : ∀ i k, upd (upd Z a T) b S i k → (i = b ∧ S k) ∨ (i = a ∧ T k) ∨ (i ≠ a ∧ i ≠ b ∧ Z i k) := by
    intro i k hk
    by_cases hb : i = b
    · subst hb; rw [upd_same] at hk; exact .inl ⟨rfl, hk⟩
    · rw [upd_other _ _ hb] at hk
      by_cases ha : i = a
      · subst ha; rw [upd_same] at hk; exact .inr (.inl ⟨rfl, hk⟩)
      · rw [upd_other _ _ ha] at hk; exact .inr (.inr ⟨ha, hb, hk⟩)
  constructor
  · intro i j k h1 h2
    rcases key i k h1 with ⟨rfl, e1⟩ | ⟨rfl, e1⟩ | ⟨n1, n2, e1⟩ <;> rcases key j k h2 with ⟨rfl, e2⟩ | ⟨rfl, e2⟩ | ⟨n3, n4, e2⟩
    · rfl
    · exact absurd e1 (dis k e2)
    · rcases m2 k e1 with e | e
      · exact absurd (hd _ _ k e2 e) n4
      · have := hr _ k e2; omega
    · exact absurd e2 (dis k e1)
    · rfl
    · rcases m1 k e1 with e | e
      · exact absurd (hd _ _ k e2 e) n3
      · have := hr _ k e2; omega
    · rcases m2 k e2 with e | e
      · exact absurd (hd _ _ k e1 e) n2
      · have := hr _ k e1; omega
    · rcases m1 k e2 with e | e
      · exact absurd (hd _ _ k e1 e) n1
      · have := hr _ k e1; omega
    · exact hd i j k e1 e2
  · intro i k hk
    rcases key i k hk with ⟨rfl, e1⟩ | ⟨rfl, e1⟩ | ⟨_, _, e1⟩
    · have := s1 k e1
      rcases m2 k e1 with e | e
      · exact ⟨(hr _ k e).1, this⟩
      · omega
    · have := t1 k e1
      rcases m1 k e1 with e | e
      · exact ⟨(hr _ k e).1, this⟩
      · omega
    · have := hr i k e1; omega
/-- The program's forest i and its table have turned. -/
theorem Ply.left {T S : Nat → Prop} {L' : List ByteArray} {N' : List Nd} {P' : List Stk} {i : Nat} (h : Ply w0 w pb tb ub FB GB f g Z L M N R P) (hi : i < 2) (hst : St w' T S tb (f i) L' N') (m1 : More w (Z 1) T) (m2 : More w (Z (2 + i)) S) (hb : But (fun k => Z 1 k ∨ Z (2 + i) k) w w') (hf : Fit L' N' P') (hE : ∃ E, L' = L ++ E) :
    Ply w0 w' pb tb ub FB GB f g (upd (upd Z 1 T) (2 + i) S) L' M (upd N i N') R (upd P i P') := by
  have hs := hb.size
  have G := grow_two (a := 1) (b := 2 + i) h.dis h.rng h.bel.size hs (by omega) m1 m2 hst.dis hst.tlt hst.slt
  have old : ∀ j, j ≠ 1 → j ≠ 2 + i → ∀ k, Z j k → ¬ (Z 1 k ∨ Z (2 + i) k) := by
    rintro j h1 h2 k hk (e | e)
    · exact h1 (h.dis _ _ k hk e)
    · exact h2 (h.dis _ _ k hk e)
  have eZ : ∀ j, j ≠ 1 → j ≠ 2 + i → upd (upd Z 1 T) (2 + i) S j = Z j := fun j h1 h2 => by rw [upd_other _ _ h2, upd_other _ _ h1]
  have e1 : upd (upd Z 1 T) (2 + i) S 1 = T := by rw [upd_other _ _ (by omega), upd_same]
  obtain ⟨tv, tm, v, mb, ht, hfr⟩ := hst.both
  obtain ⟨rv, hr⟩ := h.rtab
  refine ⟨(hb.block pb (Array.getElem?_eq_some_iff.1 h.pair).1 (old 0 (by omega) (by omega) _ h.z0.1)).trans h.pair, (hb.block FB (Array.getElem?_eq_some_iff.1 h.fs).1 (old 0 (by omega) (by omega) _ h.z0.2.1)).trans h.fs, (hb.block GB (Array.getElem?_eq_some_iff.1 h.gs).1 (old 0 (by omega) (by omega) _ h.z0.2.2)).trans h.gs,
    by rw [eZ 0 (by omega) (by omega)]; exact h.z0, ⟨tv, tm, by rw [e1]; exact ht⟩, ⟨rv, by rw [eZ 4 (by omega) (by omega)]; exact hr.kept hb (old 4 (by omega) (by omega))⟩, fun j hj => ?_, fun j hj => ?_, fun j hj => ?_, G.1, G.2, h.bel.trans (hb.below h.bel.size (fun k hk => ?_))⟩
  · by_cases e : j = i
    · subst e; rw [upd_same, upd_same]; exact ⟨v, mb, hfr⟩
    · obtain ⟨v2, mb2, h2⟩ := h.frs j hj
      rw [eZ (2 + j) (by omega) (by omega), upd_other _ _ e]
      exact ⟨v2, mb2, h2.kept hb (old _ (by omega) (by omega))⟩
  · obtain ⟨v2, h2⟩ := h.rfr j hj
    rw [eZ (5 + j) (by omega) (by omega)]
    exact ⟨v2, h2.kept hb (old _ (by omega) (by omega))⟩
  · by_cases e : j = i
    · subst e; rw [upd_same, upd_same]; exact hf
    · rw [upd_other _ _ e, upd_other _ _ e]; exact (h.fit j hj).mono hE hf.nodup
  · rcases hk with e | e
    · exact (h.rng _ k e).1
    · exact (h.rng _ k e).1
/-- The document's forest i and its table have turned. -/
theorem Ply.right {T S : Nat → Prop} {M' : List ByteArray} {R' : List Nd} {i : Nat} (h : Ply w0 w pb tb ub FB GB f g Z L M N R P) (hi : i < 2) (hst : RSt w' T S ub (g i) M' R') (m1 : More w (Z 4) T) (m2 : More w (Z (5 + i)) S) (hb : But (fun k => Z 4 k ∨ Z (5 + i) k) w w') :
    Ply w0 w' pb tb ub FB GB f g (upd (upd Z 4 T) (5 + i) S) L M' N (upd R i R') P := by
  have hs := hb.size
  have G := grow_two (a := 4) (b := 5 + i) h.dis h.rng h.bel.size hs (by omega) m1 m2 hst.dis hst.tlt hst.slt
  have old : ∀ j, j ≠ 4 → j ≠ 5 + i → ∀ k, Z j k → ¬ (Z 4 k ∨ Z (5 + i) k) := by
    rintro j h1 h2 k hk (e | e)
    · exact h1 (h.dis _ _ k hk e)
    · exact h2 (h.dis _ _ k hk e)
  have eZ : ∀ j, j ≠ 4 → j ≠ 5 + i → upd (upd Z 4 T) (5 + i) S j = Z j := fun j h1 h2 => by rw [upd_other _ _ h2, upd_other _ _ h1]
  have e1 : upd (upd Z 4 T) (5 + i) S 4 = T := by rw [upd_other _ _ (by omega), upd_same]
  obtain ⟨tv, v, ht, hfr⟩ := hst.both
  obtain ⟨rv, rm, hr⟩ := h.tab
  refine ⟨(hb.block pb (Array.getElem?_eq_some_iff.1 h.pair).1 (old 0 (by omega) (by omega) _ h.z0.1)).trans h.pair, (hb.block FB (Array.getElem?_eq_some_iff.1 h.fs).1 (old 0 (by omega) (by omega) _ h.z0.2.1)).trans h.fs, (hb.block GB (Array.getElem?_eq_some_iff.1 h.gs).1 (old 0 (by omega) (by omega) _ h.z0.2.2)).trans h.gs,
    by rw [eZ 0 (by omega) (by omega)]; exact h.z0, ⟨rv, rm, by rw [eZ 1 (by omega) (by omega)]; exact hr.kept hb (old 1 (by omega) (by omega))⟩, ⟨tv, by rw [e1]; exact ht⟩, fun j hj => ?_, fun j hj => ?_, h.fit, G.1, G.2, h.bel.trans (hb.below h.bel.size (fun k hk => ?_))⟩
  · obtain ⟨v2, mb2, h2⟩ := h.frs j hj
    rw [eZ (2 + j) (by omega) (by omega)]
    exact ⟨v2, mb2, h2.kept hb (old _ (by omega) (by omega))⟩
  · by_cases e : j = i
    · subst e; rw [upd_same, upd_same]; exact ⟨v, hfr⟩
    · obtain ⟨v2, h2⟩ := h.rfr j hj
      rw [eZ (5 + j) (by omega) (by omega), upd_other _ _ e]
      exact ⟨v2, h2.kept hb (old _ (by omega) (by omega))⟩
  · rcases hk with e | e
    · exact (h.rng _ k e).1
    · exact (h.rng _ k e).1
theorem Ply.cells (h : Ply w0 w pb tb ub FB GB f g Z L M N R P) : w.cell? ⟨pb, 0, none⟩ = some (.pointer (some ⟨tb, 0, none⟩)) ∧ w.cell? ⟨pb, 1, none⟩ = some (.pointer (some ⟨ub, 0, none⟩)) ∧ w.cell? ⟨pb, 2, none⟩ = some (.slice (some ⟨FB, 0, none⟩) 3 3) ∧ w.cell? ⟨pb, 3, none⟩ = some (.slice (some ⟨GB, 0, none⟩) 3 3) := by
  refine ⟨?_, ?_, ?_, ?_⟩
  · rw [cell_of_row w pb 0 _ 89 (0, 0) h.pair]; rfl
  · rw [cell_of_row w pb 1 _ 89 (0, 0) h.pair]; rfl
  · rw [cell_of_row w pb 2 _ 89 (0, 0) h.pair]; rfl
  · rw [cell_of_row w pb 3 _ 89 (0, 0) h.pair]; rfl
/-- The two forests that a step asks, or none. -/
def fPtr (f : Nat → Nat) (i : Nat) : Value := if i < 2 then .pointer (some ⟨f i, 0, none⟩) else .pointer none
theorem Ply.forest (h : Ply w0 w pb tb ub FB GB f g Z L M N R P) (i : Nat) (hi : i < 3) : w.cell? ⟨FB, i, none⟩ = some (fPtr f i) ∧ w.cell? ⟨GB, i, none⟩ = some (fPtr g i) := by
  rw [cell_of_row w FB i _ 26 (0, 0) h.fs, cell_of_row w GB i _ 90 (0, 0) h.gs]
  match i, hi with
  | 0, _ => exact ⟨rfl, rfl⟩
  | 1, _ => exact ⟨rfl, rfl⟩
  | 2, _ => exact ⟨rfl, rfl⟩
end
end Go.Proofs.Ytjpccaeojimlfaa
