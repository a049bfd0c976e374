/-
  Rows put together, as mathematics: which record comes next, the heads on a heap, a run of takings.
-/
import Derived.Test.YtdlpffbeladgaabMgT
import Derived.Test.YtdlpffbeladgaabHpPH
namespace Go.Proofs.Ytdlpffbeladgaab
open Go.RowKit
/-- Why a row can't have such stamps. -/
def sfault (ahead : Int) : List Rc → Int
  | [] => 0
  | r :: l => if r.stamp < 0 ∨ 1048576 ≤ r.stamp then 70 else if r.stamp ≤ ahead then 80 else sfault r.stamp l
/-- Why rows can't be put together. -/
def rfault (ahead : Int) (cnt : Nat) : List (Int × List Rc) → Int
  | [] => if 1048576 < cnt then 3 else 0
  | G :: l => if G.1 ≤ ahead ∨ 65536 ≤ G.1 ∨ G.2.length = 0 then 102 else if sfault (-1) G.2 ≠ 0 then sfault (-1) G.2 else rfault G.1 (cnt + G.2.length) l
def tot (Ls : List (List Rc)) : Nat := (Ls.map List.length).sum
theorem tot_cons (L : List Rc) (Ls : List (List Rc)) : tot (L :: Ls) = L.length + tot Ls := by simp [tot]
theorem tot_set {Ls : List (List Rc)} {k : Nat} {r : Rc} {t : List Rc} (h : Ls[k]? = some (r :: t)) : tot (Ls.set k t) + 1 = tot Ls := by
  induction Ls generalizing k with
  | nil => simp at h
  | cons L Ls ih =>
    cases k with
    | zero => simp at h; subst h; rw [List.set_cons_zero, tot_cons, tot_cons]; simp; omega
    | succ k => simp at h; rw [List.set_cons_succ, tot_cons, tot_cons, ← ih h]; omega
/-- What keeps to be put together: rising stamps, each in its range. -/
def Rising (L : List Rc) : Prop := L.Pairwise (fun a b => a.stamp < b.stamp) ∧ ∀ r ∈ L, 0 ≤ r.stamp ∧ r.stamp < 1048576
theorem sfault_ok : ∀ {L : List Rc} {ahead : Int}, sfault ahead L = 0 → Rising L ∧ ∀ r ∈ L, ahead < r.stamp
  | [], _, _ => ⟨⟨.nil, by simp⟩, by simp⟩
  | r :: l, ahead, h => by
    unfold sfault at h
    by_cases h1 : r.stamp < 0 ∨ 1048576 ≤ r.stamp
    · rw [if_pos h1] at h; omega
    · rw [if_neg h1] at h
      by_cases h2 : r.stamp ≤ ahead
      · rw [if_pos h2] at h; omega
      · rw [if_neg h2] at h
        obtain ⟨⟨g1, g2⟩, g3⟩ := sfault_ok h
        refine ⟨⟨List.pairwise_cons.2 ⟨fun b hb => g3 b hb, g1⟩, fun x hx => ?_⟩, fun x hx => ?_⟩
        · rcases List.mem_cons.1 hx with rfl | hx
          · omega
          · exact g2 x hx
        · rcases List.mem_cons.1 hx with rfl | hx
          · omega
          · have := g3 x hx; omega
structure RowsOk (Gs : List (Int × List Rc)) : Prop where
  asc : (Gs.map Prod.fst).Pairwise fun a b => a < b
  g : ∀ G ∈ Gs, 0 ≤ G.1 ∧ G.1 < 65536
  ne : ∀ G ∈ Gs, G.2 ≠ []
  rise : ∀ G ∈ Gs, Rising G.2
  tot : tot (Gs.map Prod.snd) ≤ 1048576
theorem rfault_ok : ∀ {Gs : List (Int × List Rc)} {ahead : Int} {cnt : Nat}, rfault ahead cnt Gs = 0 → (Gs.map Prod.fst).Pairwise (fun a b => a < b) ∧ (∀ G ∈ Gs, ahead < G.1 ∧ G.1 < 65536) ∧ (∀ G ∈ Gs, G.2 ≠ []) ∧ (∀ G ∈ Gs, Rising G.2) ∧ cnt + tot (Gs.map Prod.snd) ≤ 1048576
  | [], _, cnt, h => by
    unfold rfault at h
    refine ⟨.nil, by simp, by simp, by simp, ?_⟩
    by_cases h1 : 1048576 < cnt
    · rw [if_pos h1] at h; omega
    · simp [tot]; omega
  | G :: l, ahead, cnt, h => by
    unfold rfault at h
    by_cases h1 : G.1 ≤ ahead ∨ 65536 ≤ G.1 ∨ G.2.length = 0
    · rw [if_pos h1] at h; omega
    · rw [if_neg h1] at h
      by_cases h2 : sfault (-1) G.2 ≠ 0
      · rw [if_pos h2] at h; exact absurd h h2
      · rw [if_neg h2] at h
        obtain ⟨g1, g2, g3, g4, g5⟩ := rfault_ok h
        refine ⟨List.pairwise_cons.2 ⟨fun b hb => ?_, g1⟩, fun x hx => ?_, fun x hx => ?_, fun x hx => ?_, ?_⟩
        · obtain ⟨y, hy, rfl⟩ := List.mem_map.1 hb
          exact (g2 y hy).1
        · rcases List.mem_cons.1 hx with rfl | hx
          · omega
          · have := g2 x hx; omega
        · rcases List.mem_cons.1 hx with rfl | hx
          · intro e; rw [e] at h1; simp at h1
          · exact g3 x hx
        · rcases List.mem_cons.1 hx with rfl | hx
          · exact (sfault_ok (ahead := -1) (Classical.not_not.1 h2)).1
          · exact g4 x hx
        · rw [List.map_cons, tot_cons]; omega
theorem RowsOk.of {Gs : List (Int × List Rc)} (h : rfault (-1) 0 Gs = 0) : RowsOk Gs := by
  obtain ⟨g1, g2, g3, g4, g5⟩ := rfault_ok h
  exact ⟨g1, fun G hG => by have := g2 G hG; omega, g3, g4, by omega⟩
theorem sfault_zero : ∀ {L : List Rc} {ahead : Int}, Rising L → (∀ r ∈ L, ahead < r.stamp) → sfault ahead L = 0
  | [], _, _, _ => rfl
  | r :: l, ahead, h, ha => by
    unfold sfault
    have h1 := h.2 r (List.mem_cons_self ..)
    have h2 := ha r (List.mem_cons_self ..)
    rw [if_neg (by omega), if_neg (by omega)]
    obtain ⟨p1, p2⟩ := List.pairwise_cons.1 h.1
    exact sfault_zero ⟨p2, fun x hx => h.2 x (List.mem_cons_of_mem _ hx)⟩ p1
theorem rfault_zero : ∀ {Gs : List (Int × List Rc)} {ahead : Int} {cnt : Nat}, (Gs.map Prod.fst).Pairwise (fun a b => a < b) → (∀ G ∈ Gs, ahead < G.1 ∧ G.1 < 65536) → (∀ G ∈ Gs, G.2 ≠ []) → (∀ G ∈ Gs, Rising G.2) → cnt + tot (Gs.map Prod.snd) ≤ 1048576 → rfault ahead cnt Gs = 0
  | [], _, cnt, _, _, _, _, h => by unfold rfault; rw [if_neg]; simp [tot] at h; omega
  | G :: l, ahead, cnt, h1, h2, h3, h4, h5 => by
    unfold rfault
    have q2 := h2 G (List.mem_cons_self ..)
    have q3 := h3 G (List.mem_cons_self ..)
    have q4 := h4 G (List.mem_cons_self ..)
    obtain ⟨p1, p2⟩ := List.pairwise_cons.1 h1
    have hs : sfault (-1) G.2 = 0 := sfault_zero q4 (fun r hr => by have := q4.2 r hr; omega)
    have hl : G.2.length ≠ 0 := fun e => q3 (List.eq_nil_of_length_eq_zero e)
    rw [if_neg (by omega), hs, if_neg (by simp)]
    rw [List.map_cons, tot_cons] at h5
    exact rfault_zero p2 (fun x hx => ⟨p1 x.1 (List.mem_map.2 ⟨x, hx, rfl⟩), (h2 x (List.mem_cons_of_mem _ hx)).2⟩) (fun x hx => h3 x (List.mem_cons_of_mem _ hx)) (fun x hx => h4 x (List.mem_cons_of_mem _ hx)) (by omega)
theorem RowsOk.zero {Gs : List (Int × List Rc)} (h : RowsOk Gs) : rfault (-1) 0 Gs = 0 :=
  rfault_zero h.asc (fun G hG => by have := h.g G hG; omega) h.ne h.rise (by have := h.tot; omega)
/-- The record that is next: of the least stamp, of the least row. -/
structure Pick (Ls : List (List Rc)) (k : Nat) (r : Rc) (t : List Rc) : Prop where
  at_ : Ls[k]? = some (r :: t)
  low : ∀ (j : Nat) (x : Rc) (u : List Rc), Ls[j]? = some (x :: u) → r.stamp < x.stamp ∨ (r.stamp = x.stamp ∧ k ≤ j)
theorem Pick.uniq {Ls : List (List Rc)} {k k' : Nat} {r r' : Rc} {t t' : List Rc} (h : Pick Ls k r t) (h' : Pick Ls k' r' t') : k = k' ∧ r = r' ∧ t = t' := by
  have h1 := h.low k' r' t' h'.at_
  have h2 := h'.low k r t h.at_
  have e : k = k' := by omega
  subst e
  have e1 := h.at_
  rw [h'.at_] at e1
  injection e1 with e1
  injection e1 with e2 e3
  exact ⟨rfl, e2.symm, e3.symm⟩
/-- Why no record can be taken; 0: one can. -/
def Flt (Ls : List (List Rc)) (at_ f : Int) : Prop :=
  (f = 90 ∧ ∀ L ∈ Ls, L = []) ∨ ∃ k r t, Pick Ls k r t ∧ f = if r.stamp < at_ then 101 else if at_ < r.stamp then 100 else 0
theorem Flt.uniq {Ls : List (List Rc)} {a f f' : Int} (h : Flt Ls a f) (h' : Flt Ls a f') : f = f' := by
  rcases h with ⟨h1, h2⟩ | ⟨k, r, t, h1, h2⟩ <;> rcases h' with ⟨g1, g2⟩ | ⟨k', r', t', g1, g2⟩
  · omega
  · exact absurd (h2 _ (List.mem_of_getElem? g1.at_)) (by simp)
  · exact absurd (g2 _ (List.mem_of_getElem? h1.at_)) (by simp)
  · obtain ⟨e1, e2, e3⟩ := h1.uniq g1
    subst e2
    rw [h2, g2]
/-- The heads on a heap. -/
structure Hds (Ls : List (List Rc)) (S : List (Hd × Int)) : Prop where
  mem : ∀ h : Hd, (∃ n, (h, n) ∈ S) ↔ ∃ (k : Nat) (r : Rc) (t : List Rc), Ls[k]? = some (r :: t) ∧ h = ⟨r.stamp, (k : Int)⟩
  one : S.Pairwise fun a b => a.1.row ≠ b.1.row
theorem Hds.pick {Ls : List (List Rc)} {e : Hd × Int} {S : List (Hd × Int)} (h : Hds Ls (e :: S)) (hs : Srt (fst bfH) (e :: S)) : ∃ (k : Nat) (r : Rc) (t : List Rc), Pick Ls k r t ∧ e.1 = ⟨r.stamp, (k : Int)⟩ := by
  obtain ⟨k, r, t, h1, h2⟩ := (h.mem e.1).1 ⟨e.2, List.mem_cons_self ..⟩
  refine ⟨k, r, t, ⟨h1, fun j x u hj => ?_⟩, h2⟩
  obtain ⟨n, hn⟩ := (h.mem ⟨x.stamp, (j : Int)⟩).2 ⟨j, x, u, hj, rfl⟩
  have := hs.head ordH _ hn
  rw [fstH_not, h2] at this
  dsimp only at this
  omega
theorem Hds.nil {Ls : List (List Rc)} (h : Hds Ls []) : ∀ L ∈ Ls, L = [] := by
  intro L hL
  obtain ⟨k, hk⟩ := List.getElem?_of_mem hL
  cases L with
  | nil => rfl
  | cons r t =>
    obtain ⟨n, hn⟩ := (h.mem ⟨r.stamp, (k : Int)⟩).2 ⟨k, r, t, hk, rfl⟩
    simp at hn
theorem Hds.pop {Ls : List (List Rc)} {e : Hd × Int} {S : List (Hd × Int)} (h : Hds Ls (e :: S)) {k : Nat} {r : Rc} (hk : Ls[k]? = some [r]) (he : e.1 = ⟨r.stamp, (k : Int)⟩) : Hds (Ls.set k []) S := by
  obtain ⟨p1, p2⟩ := List.pairwise_cons.1 h.one
  have hkl := get_lt hk
  refine ⟨fun x => ?_, p2⟩
  constructor
  · rintro ⟨n, hn⟩
    obtain ⟨j, y, u, h1, h2⟩ := (h.mem x).1 ⟨n, List.mem_cons_of_mem _ hn⟩
    have hj : k ≠ j := fun e9 => p1 _ hn (by rw [he, h2, e9])
    exact ⟨j, y, u, by rw [List.getElem?_set_ne hj]; exact h1, h2⟩
  · rintro ⟨j, y, u, h1, h2⟩
    by_cases hj : k = j
    · subst hj; rw [List.getElem?_set_self hkl] at h1; simp at h1
    · rw [List.getElem?_set_ne hj] at h1
      obtain ⟨n, hn⟩ := (h.mem x).2 ⟨j, y, u, h1, h2⟩
      rcases List.mem_cons.1 hn with h9 | h9
      · have : x = e.1 := by rw [← h9]
        rw [he, h2] at this
        injection this with _ h8
        exact absurd (by omega) hj
      · exact ⟨n, h9⟩
theorem Hds.push {Ls : List (List Rc)} {e : Hd × Int} {S : List (Hd × Int)} (h : Hds Ls (e :: S)) {k : Nat} {r q : Rc} {t : List Rc} (hk : Ls[k]? = some (r :: q :: t)) (he : e.1 = ⟨r.stamp, (k : Int)⟩) (n : Int) : Hds (Ls.set k (q :: t)) (ins (fst bfH) (⟨q.stamp, (k : Int)⟩, n) S) := by
  obtain ⟨p1, p2⟩ := List.pairwise_cons.1 h.one
  have hkl := get_lt hk
  have hpm := ins_perm (fst bfH) ((⟨q.stamp, (k : Int)⟩ : Hd), n) S
  refine ⟨fun x => ?_, ?_⟩
  · constructor
    · rintro ⟨m, hm⟩
      rcases List.mem_cons.1 (hpm.mem_iff.1 hm) with h9 | h9
      · injection h9 with h8 _
        exact ⟨k, q, t, List.getElem?_set_self hkl, h8⟩
      · obtain ⟨j, y, u, h1, h2⟩ := (h.mem x).1 ⟨m, List.mem_cons_of_mem _ h9⟩
        have hj : k ≠ j := fun e9 => p1 _ h9 (by rw [he, h2, e9])
        exact ⟨j, y, u, by rw [List.getElem?_set_ne hj]; exact h1, h2⟩
    · rintro ⟨j, y, u, h1, h2⟩
      by_cases hj : k = j
      · subst hj
        rw [List.getElem?_set_self hkl] at h1
        injection h1 with h1
        injection h1 with h1 _
        exact ⟨n, hpm.mem_iff.2 (by rw [h2, ← h1]; exact List.mem_cons_self ..)⟩
      · rw [List.getElem?_set_ne hj] at h1
        obtain ⟨m, hm⟩ := (h.mem x).2 ⟨j, y, u, h1, h2⟩
        rcases List.mem_cons.1 hm with h9 | h9
        · have : x = e.1 := by rw [← h9]
          rw [he, h2] at this
          injection this with _ h8
          exact absurd (by omega) hj
        · exact ⟨m, hpm.mem_iff.2 (List.mem_cons_of_mem _ h9)⟩
  · refine hpm.symm.pairwise (R := fun a b : Hd × Int => a.1.row ≠ b.1.row) (List.pairwise_cons.2 ⟨fun b hb => ?_, p2⟩) (fun h => h.symm)
    have := p1 b hb
    rw [he] at this
    exact this
/-- The heads of the first k rows. -/
theorem Hds.more {Ls : List (List Rc)} {S : List (Hd × Int)} (h : Hds Ls S) (r : Rc) (t : List Rc) (n : Int) : Hds (Ls ++ [r :: t]) (ins (fst bfH) (⟨r.stamp, (Ls.length : Int)⟩, n) S) := by
  have hpm := ins_perm (fst bfH) ((⟨r.stamp, (Ls.length : Int)⟩ : Hd), n) S
  have hrow : ∀ x ∈ S, x.1.row < Ls.length := by
    intro x hx
    obtain ⟨j, y, u, h1, h2⟩ := (h.mem x.1).1 ⟨x.2, hx⟩
    have := get_lt h1
    rw [h2]; dsimp only; omega
  refine ⟨fun x => ?_, ?_⟩
  · constructor
    · rintro ⟨m, hm⟩
      rcases List.mem_cons.1 (hpm.mem_iff.1 hm) with h9 | h9
      · injection h9 with h8 _
        exact ⟨Ls.length, r, t, by rw [List.getElem?_append_right (Nat.le_refl _), Nat.sub_self]; rfl, h8⟩
      · obtain ⟨j, y, u, h1, h2⟩ := (h.mem x).1 ⟨m, h9⟩
        exact ⟨j, y, u, by rw [List.getElem?_append_left (get_lt h1)]; exact h1, h2⟩
    · rintro ⟨j, y, u, h1, h2⟩
      by_cases hj : j < Ls.length
      · rw [List.getElem?_append_left hj] at h1
        obtain ⟨m, hm⟩ := (h.mem x).2 ⟨j, y, u, h1, h2⟩
        exact ⟨m, hpm.mem_iff.2 (List.mem_cons_of_mem _ hm)⟩
      · have hl := get_lt h1
        rw [List.length_append, List.length_singleton] at hl
        have e9 : j = Ls.length := by omega
        subst e9
        rw [List.getElem?_append_right (Nat.le_refl _), Nat.sub_self] at h1
        simp at h1
        exact ⟨n, hpm.mem_iff.2 (by rw [h2, ← h1.1]; exact List.mem_cons_self ..)⟩
  · refine hpm.symm.pairwise (R := fun a b : Hd × Int => a.1.row ≠ b.1.row) (List.pairwise_cons.2 ⟨fun b hb => ?_, h.one⟩) (fun h => h.symm)
    have := hrow b hb
    dsimp only; omega
theorem Hds.none_ : Hds [] [] := ⟨fun h => by constructor <;> (rintro ⟨_, h⟩; simp at h), .nil⟩
/-- Takings, one behind the other: O, from the stamp 0 on. -/
inductive Run (Ls0 : List (List Rc)) : List (Nat × Rc) → List (List Rc) → Int → Prop
  | nil : Run Ls0 [] Ls0 0
  | snoc {O : List (Nat × Rc)} {Ls : List (List Rc)} {a : Int} {k : Nat} {r : Rc} {t : List Rc} : Run Ls0 O Ls a → Pick Ls k r t → r.stamp = a → Run Ls0 (O ++ [(k, r)]) (Ls.set k t) (a + 1)
theorem Run.at_ {Ls0 Ls : List (List Rc)} {O : List (Nat × Rc)} {a : Int} (h : Run Ls0 O Ls a) : a = O.length := by
  induction h with
  | nil => rfl
  | snoc _ _ _ ih => rw [List.length_append, ih]; simp
theorem Run.tot {Ls0 Ls : List (List Rc)} {O : List (Nat × Rc)} {a : Int} (h : Run Ls0 O Ls a) : O.length + Go.Proofs.Ytdlpffbeladgaab.tot Ls = Go.Proofs.Ytdlpffbeladgaab.tot Ls0 := by
  induction h with
  | nil => simp
  | snoc _ hp _ ih => rw [List.length_append, ← ih, ← tot_set hp.at_]; simp; omega
theorem Run.len {Ls0 Ls : List (List Rc)} {O : List (Nat × Rc)} {a : Int} (h : Run Ls0 O Ls a) : Ls.length = Ls0.length := by
  induction h with
  | nil => rfl
  | snoc _ _ _ ih => rw [List.length_set, ih]
theorem Run.same {Ls0 Ls Ls' : List (List Rc)} {O O' : List (Nat × Rc)} {a a' : Int} (h : Run Ls0 O Ls a) (h' : Run Ls0 O' Ls' a') (hl : O.length = O'.length) : O = O' ∧ Ls = Ls' ∧ a = a' := by
  induction h generalizing O' Ls' a' with
  | nil =>
    cases h' with
    | nil => exact ⟨rfl, rfl, rfl⟩
    | snoc h1 h2 h3 => simp at hl
  | @snoc O Ls a k r t g1 g2 g3 ih =>
    cases h' with
    | nil => simp at hl
    | @snoc O' Ls' a' k' r' t' h1 h2 h3 =>
      obtain ⟨e1, e2, e3⟩ := ih h1 (by simpa using hl)
      subst e1; subst e2; subst e3
      obtain ⟨e4, e5, e6⟩ := g2.uniq h2
      subst e4; subst e5; subst e6
      exact ⟨rfl, rfl, rfl⟩
/-- A beginning of a run. -/
theorem Run.cut {Ls0 Ls : List (List Rc)} {O : List (Nat × Rc)} {a : Int} (h : Run Ls0 O Ls a) : ∀ n, n < O.length → ∃ Ls' k r t, Run Ls0 (O.take n) Ls' n ∧ Pick Ls' k r t ∧ r.stamp = n := by
  induction h with
  | nil => intro n hn; simp at hn
  | @snoc O Ls a k r t g1 g2 g3 ih =>
    intro n hn
    rw [List.length_append, List.length_singleton] at hn
    by_cases hl : n < O.length
    · obtain ⟨Ls', k', r', t', q1, q2, q3⟩ := ih n hl
      exact ⟨Ls', k', r', t', by rw [List.take_append_of_le_length (by omega)]; exact q1, q2, q3⟩
    · have e9 : n = O.length := by omega
      subst e9
      have ha := g1.at_
      refine ⟨Ls, k, r, t, ?_, g2, by rw [g3, ha]⟩
      rw [List.take_left, ← ha]
      exact g1
/-- Runs that can't go on are one. -/
theorem Run.uniq {Ls0 Ls Ls' : List (List Rc)} {O O' : List (Nat × Rc)} {a a' f f' : Int} (h : Run Ls0 O Ls a) (h' : Run Ls0 O' Ls' a') (hf : Flt Ls a f) (hf' : Flt Ls' a' f') (h0 : f ≠ 0) (h0' : f' ≠ 0) : O = O' ∧ f = f' := by
  have key : ∀ {O O' : List (Nat × Rc)} {Ls Ls' : List (List Rc)} {a a' f : Int}, Run Ls0 O Ls a → Run Ls0 O' Ls' a' → Flt Ls a f → f ≠ 0 → ¬ O.length < O'.length := by
    intro O O' Ls Ls' a a' f q1 q2 q3 q4 hl
    obtain ⟨Ls2, k, r, t, p1, p2, p3⟩ := q2.cut O.length hl
    obtain ⟨e1, e2, e3⟩ := q1.same p1 (by rw [List.length_take]; omega)
    subst e2
    refine q4 (q3.uniq (.inr ⟨k, r, t, p2, ?_⟩))
    rw [p3, ← e3, if_neg (by omega), if_neg (by omega)]
  have hl : O.length = O'.length := by have := key h h' hf h0; have := key h' h hf' h0'; omega
  obtain ⟨e1, e2, e3⟩ := h.same h' hl
  subst e2; subst e3
  exact ⟨e1, hf.uniq hf'⟩
end Go.Proofs.Ytdlpffbeladgaab
