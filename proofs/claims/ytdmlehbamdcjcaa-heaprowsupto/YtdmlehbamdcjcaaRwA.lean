/-
  HeapRows: what lies in memory while the rows are made.
-/
import Derived.Test.YtdmlehbamdcjcaaRwM
namespace Go.Proofs.Ytdmlehbamdcjcaa
open Go.RowKit
def sv (s : Sl) : Value := .slice s.a s.n s.c
theorem rows_snoc {P : Sl → List It → Prop} {us : List Sl} {A : List (List It)} {s : Sl} {C : List It} (hl : us.length = A.length) (h : ∀ (j : Nat) (s : Sl) (C : List It), us[j]? = some s → A[j]? = some C → P s C) (hs : P s C) :
    ∀ (j : Nat) (x : Sl) (D : List It), (us ++ [s])[j]? = some x → (A ++ [C])[j]? = some D → P x D := by
  intro j x D h1 h2
  by_cases hj : j < us.length
  · rw [List.getElem?_append_left hj] at h1
    rw [List.getElem?_append_left (by omega)] at h2
    exact h j x D h1 h2
  · have hjk : j = us.length := by
      have := get_lt h1
      rw [List.length_append, List.length_singleton] at this
      omega
    subst hjk
    rw [List.getElem?_append_right (Nat.le_refl _), Nat.sub_self] at h1
    rw [List.getElem?_append_right (by omega), hl, Nat.sub_self] at h2
    have e1 : x = s := by simpa using h1.symm
    have e2 : D = C := by simpa using h2.symm
    rw [e1, e2]
    exact hs
/-- The rows as they stand, the rows in their order, and all of these one behind the other. -/
structure Rws (w : World) (base : Nat) (va vs vl : Value) (us ts : List Sl) (A B : List (List It)) (L : List It) : Prop where
  oa : Own laySl 23 w base va us
  os : Own laySl 23 w base vs ts
  ol : Own layI 27 w base vl L
  ap : ∀ g, va.ownBlock = some g → vs.ownBlock ≠ some g
  la : us.length = A.length
  ls : ts.length = B.length
  ra : ∀ (j : Nat) (s : Sl) (C : List It), us[j]? = some s → A[j]? = some C → Own layI 27 w base (sv s) C ∧ ∀ g, (sv s).ownBlock = some g → vl.ownBlock ≠ some g
  rs : ∀ (j : Nat) (s : Sl) (C : List It), ts[j]? = some s → B[j]? = some C → Own layI 27 w base (sv s) C ∧ ∀ g, (sv s).ownBlock = some g → vl.ownBlock ≠ some g
theorem Rws.nil (w : World) (base : Nat) : Rws w base (.slice none 0 0) (.slice none 0 0) (.slice none 0 0) [] [] [] [] [] :=
  ⟨Own.nil _ _ _ _, Own.nil _ _ _ _, Own.nil _ _ _ _, fun g h => by simp [Value.ownBlock] at h, rfl, rfl, fun j s C h => by simp at h, fun j s C h => by simp at h⟩
theorem Rws.below {w w' : World} {base : Nat} {va vs vl : Value} {us ts : List Sl} {A B : List (List It)} {L : List It} (h : Rws w base va vs vl us ts A B L) (hb : Below w.heap.size w w') : Rws w' base va vs vl us ts A B L :=
  ⟨h.oa.below hb, h.os.below hb, h.ol.below hb, h.ap, h.la, h.ls, fun j s C h1 h2 => ⟨(h.ra j s C h1 h2).1.below hb, (h.ra j s C h1 h2).2⟩, fun j s C h1 h2 => ⟨(h.rs j s C h1 h2).1.below hb, (h.rs j s C h1 h2).2⟩⟩
theorem own_ne {w : World} {base b2 : Nat} {v u : Value} {L : List Sl} {C : List It} (h : Own laySl 23 w base v L) (k : Own layI 27 w b2 u C) : ∀ g, v.ownBlock = some g → u.ownBlock ≠ some g := by
  intro g hg e
  obtain ⟨cc, hcc⟩ := own_at h _ hg
  obtain ⟨cd, hcd⟩ := own_at k _ e
  exact ty_neN hcc hcd (by decide) rfl
theorem Rws.pushA {w w' : World} {base : Nat} {va vs vl va' : Value} {us ts : List Sl} {A B : List (List It)} {L C : List It} {s : Sl} (h : Rws w base va vs vl us ts A B L) (hs : Own layI 27 w base (sv s) C) (hne : ∀ g, (sv s).ownBlock = some g → vl.ownBlock ≠ some g)
    (ho : Own laySl 23 w' base va' (us ++ [s])) (hg : w.grownBy w' va.ownBlock) (hb : va'.ownBlock = va.ownBlock ∨ va'.ownBlock = some w.heap.size) : Rws w' base va' vs vl (us ++ [s]) ts (A ++ [C]) B L := by
  have bg : But (fun b => va.ownBlock = some b) w w' := But.of_grown hg (fun _ e => e)
  have keep : ∀ (v : Value) (D : List It), Own layI 27 w base v D → Own layI 27 w' base v D := fun v D k => k.but bg (fun g e1 e2 => own_ne h.oa k g e2 e1)
  refine ⟨ho, h.os.but bg (fun g e1 e2 => h.ap g e2 e1), keep _ _ h.ol, fun g e => ?_, by simp [h.la], h.ls, rows_snoc (P := fun s C => Own layI 27 w' base (sv s) C ∧ ∀ g, (sv s).ownBlock = some g → vl.ownBlock ≠ some g) h.la (fun j s C h1 h2 => ⟨keep _ _ (h.ra j s C h1 h2).1, (h.ra j s C h1 h2).2⟩) ⟨keep _ _ hs, hne⟩, fun j s C h1 h2 => ⟨keep _ _ (h.rs j s C h1 h2).1, (h.rs j s C h1 h2).2⟩⟩
  rcases hb with hb | hb
  · exact h.ap g (by rw [← hb]; exact e)
  · intro e2
    rw [hb] at e
    injection e with e
    have := (h.os.lt g e2).2
    omega
theorem Rws.pushB {w w' : World} {base : Nat} {va vs vl vs' : Value} {us ts : List Sl} {A B : List (List It)} {L C : List It} {s : Sl} (h : Rws w base va vs vl us ts A B L) (hs : Own layI 27 w base (sv s) C) (hne : ∀ g, (sv s).ownBlock = some g → vl.ownBlock ≠ some g)
    (ho : Own laySl 23 w' base vs' (ts ++ [s])) (hg : w.grownBy w' vs.ownBlock) (hb : vs'.ownBlock = vs.ownBlock ∨ vs'.ownBlock = some w.heap.size) : Rws w' base va vs' vl us (ts ++ [s]) A (B ++ [C]) L := by
  have bg : But (fun b => vs.ownBlock = some b) w w' := But.of_grown hg (fun _ e => e)
  have keep : ∀ (v : Value) (D : List It), Own layI 27 w base v D → Own layI 27 w' base v D := fun v D k => k.but bg (fun g e1 e2 => own_ne h.os k g e2 e1)
  refine ⟨h.oa.but bg (fun g e1 e2 => h.ap g e1 e2), ho, keep _ _ h.ol, fun g e => ?_, h.la, by simp [h.ls], fun j s C h1 h2 => ⟨keep _ _ (h.ra j s C h1 h2).1, (h.ra j s C h1 h2).2⟩, rows_snoc (P := fun s C => Own layI 27 w' base (sv s) C ∧ ∀ g, (sv s).ownBlock = some g → vl.ownBlock ≠ some g) h.ls (fun j s C h1 h2 => ⟨keep _ _ (h.rs j s C h1 h2).1, (h.rs j s C h1 h2).2⟩) ⟨keep _ _ hs, hne⟩⟩
  rcases hb with hb | hb
  · rw [hb]; exact h.ap g e
  · rw [hb]
    intro e2
    injection e2 with e2
    have := (h.oa.lt g e).2
    omega
theorem Rws.pushL {w w' : World} {base : Nat} {va vs vl vl' : Value} {us ts : List Sl} {A B : List (List It)} {L M : List It} (h : Rws w base va vs vl us ts A B L)
    (ho : Own layI 27 w' base vl' (L ++ M)) (hg : w.grownBy w' vl.ownBlock) (hb : vl'.ownBlock = vl.ownBlock ∨ vl'.ownBlock = some w.heap.size) : Rws w' base va vs vl' us ts A B (L ++ M) := by
  have bg : But (fun b => vl.ownBlock = some b) w w' := But.of_grown hg (fun _ e => e)
  have keep : ∀ (v : Value) (D : List It), (Own layI 27 w base v D ∧ ∀ g, v.ownBlock = some g → vl.ownBlock ≠ some g) → (Own layI 27 w' base v D ∧ ∀ g, v.ownBlock = some g → vl'.ownBlock ≠ some g) := fun v D k => ⟨k.1.but bg (fun g e1 e2 => k.2 g e1 e2), fun g e => by
    rcases hb with hb | hb
    · rw [hb]; exact k.2 g e
    · rw [hb]
      intro e2
      injection e2 with e2
      have := (k.1.lt g e).2
      omega⟩
  exact ⟨h.oa.but bg (fun g e1 e2 => own_ne h.oa h.ol g e1 e2), h.os.but bg (fun g e1 e2 => own_ne h.os h.ol g e1 e2), ho, h.ap, h.la, h.ls, fun j s C h1 h2 => keep _ _ (h.ra j s C h1 h2), fun j s C h1 h2 => keep _ _ (h.rs j s C h1 h2)⟩
theorem Rws.lastA {w : World} {base : Nat} {va vs vl : Value} {us ts : List Sl} {A B : List (List It)} {L C : List It} {s : Sl} (h : Rws w base va vs vl (us ++ [s]) ts (A ++ [C]) B L) : Own layI 27 w base (sv s) C := by
  have hl := h.la
  simp at hl
  exact (h.ra us.length s C (by simp) (by rw [hl]; simp)).1
theorem Rws.lastB {w : World} {base : Nat} {va vs vl : Value} {us ts : List Sl} {A B : List (List It)} {L C : List It} {s : Sl} (h : Rws w base va vs vl us (ts ++ [s]) A (B ++ [C]) L) : Own layI 27 w base (sv s) C := by
  have hl := h.ls
  simp at hl
  exact (h.rs ts.length s C (by simp) (by rw [hl]; simp)).1
end Go.Proofs.Ytdmlehbamdcjcaa
