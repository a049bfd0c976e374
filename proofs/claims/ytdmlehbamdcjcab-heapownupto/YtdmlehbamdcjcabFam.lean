/-
  Several rows of a call's own, none of them in another's block.
-/
import Derived.Test.YtdmlehbamdcjcabHpB
import Derived.Test.YtdmlehbamdcjcabHpNI
namespace Go.Proofs.Ytdmlehbamdcjcab
open Go.RowKit
structure Fam {α : Type} (y : Lay α) (e : TypeId) (w : World) (base : Nat) (F : List (Value × List α)) : Prop where
  own : ∀ (i : Nat) (p : Value × List α), F[i]? = some p → Own y e w base p.1 p.2
  ap : ∀ (i j : Nat) (p q : Value × List α), F[i]? = some p → F[j]? = some q → i ≠ j → ∀ g, p.1.ownBlock = some g → q.1.ownBlock ≠ some g
theorem Fam.nil {α : Type} (y : Lay α) (e : TypeId) (w : World) (base : Nat) : Fam y e w base [] := ⟨fun i p h => by simp at h, fun i j p q h => by simp at h⟩
theorem Fam.below {α : Type} {y : Lay α} {e : TypeId} {w w' : World} {base : Nat} {F : List (Value × List α)} (h : Fam y e w base F) (hb : Below w.heap.size w w') : Fam y e w' base F :=
  ⟨fun i p hp => (h.own i p hp).below hb, h.ap⟩
theorem Fam.but {α : Type} {y : Lay α} {e : TypeId} {w w' : World} {base : Nat} {S : Nat → Prop} {F : List (Value × List α)} (h : Fam y e w base F) (hb : But S w w') (hS : ∀ (i : Nat) (p : Value × List α), F[i]? = some p → ∀ g, p.1.ownBlock = some g → ¬ S g) : Fam y e w' base F :=
  ⟨fun i p hp => (h.own i p hp).but hb (hS i p hp), h.ap⟩
/-- What lies in blocks of another type. -/
theorem Fam.past {α β : Type} {y : Lay α} {z : Lay β} {e t : TypeId} {w w' : World} {base b2 : Nat} {F : List (Value × List α)} {v : Value} {C : List β} (h : Fam y e w base F) (ho : Own z t w b2 v C) (hb : But (fun b => v.ownBlock = some b) w w') (ht : e ≠ t) : Fam y e w' base F :=
  h.but hb (fun i p hp g hg e9 => by
    obtain ⟨cc, hcc⟩ := own_at (h.own i p hp) _ hg
    obtain ⟨cd, hcd⟩ := own_at ho _ e9
    exact ty_neN hcc hcd ht rfl)
/-- A new one, of a call. -/
theorem Fam.cons {α : Type} {y : Lay α} {e : TypeId} {w w' : World} {base : Nat} {F : List (Value × List α)} {v : Value} {C : List α} (h : Fam y e w base F) (hb : Below w.heap.size w w') (ho : Own y e w' w.heap.size v C) (hB : base ≤ w.heap.size) : Fam y e w' base ((v, C) :: F) := by
  refine ⟨fun i p hp => ?_, fun i j p q hp hq hij g hg => ?_⟩
  · cases i with
    | zero => simp at hp; subst hp; exact ho.mono hB
    | succ i => exact (h.own i p (by simpa using hp)).below hb
  · cases i with
    | zero =>
      simp at hp
      subst hp
      cases j with
      | zero => exact absurd rfl hij
      | succ j =>
        intro e9
        have h1 := (ho.lt g hg).1
        have h2 := ((h.own j q (by simpa using hq)).lt g e9).2
        omega
    | succ i =>
      cases j with
      | zero =>
        simp at hq
        subst hq
        intro e9
        have h1 := (ho.lt g e9).1
        have h2 := ((h.own i p (by simpa using hp)).lt g hg).2
        omega
      | succ j => exact h.ap i j p q (by simpa using hp) (by simpa using hq) (by omega) g hg
/-- One of them is changed. -/
theorem Fam.turn {α : Type} {y : Lay α} {e : TypeId} {w w' : World} {base : Nat} {F : List (Value × List α)} {v v' : Value} {C C' : List α} (k : Nat) (h : Fam y e w base F) (hk : F[k]? = some (v, C)) (ho : Own y e w' base v' C') (hb : But (fun b => v.ownBlock = some b) w w') (hv : ∀ g, v'.ownBlock = some g → v.ownBlock = some g ∨ w.heap.size ≤ g) : Fam y e w' base (F.set k (v', C')) := by
  have old : ∀ (i : Nat) (p : Value × List α), k ≠ i → F[i]? = some p → Own y e w' base p.1 p.2 := fun i p hi hp => (h.own i p hp).but hb (fun g hg e9 => h.ap k i _ _ hk hp hi g e9 hg)
  refine ⟨fun i p hp => ?_, fun i j p q hp hq hij g hg => ?_⟩
  · rw [List.getElem?_set] at hp
    by_cases hi : k = i
    · subst hi
      rw [if_pos rfl, if_pos (get_lt hk)] at hp
      rw [← Option.some.inj hp]
      exact ho
    · rw [if_neg hi] at hp
      exact old i p hi hp
  · rw [List.getElem?_set] at hp hq
    by_cases hi : k = i
    · subst hi
      rw [if_neg hij] at hq
      rw [if_pos rfl, if_pos (get_lt hk)] at hp
      rw [← Option.some.inj hp] at hg
      intro e9
      rcases hv g hg with h1 | h1
      · exact h.ap k j _ _ hk hq hij g h1 e9
      · have := ((h.own j q hq).lt g e9).2
        omega
    · rw [if_neg hi] at hp
      by_cases hj : k = j
      · subst hj
        rw [if_pos rfl, if_pos (get_lt hk)] at hq
        rw [← Option.some.inj hq]
        intro e9
        rcases hv g e9 with h1 | h1
        · exact h.ap k i _ _ hk hp hi g h1 hg
        · have := ((h.own i p hp).lt g hg).2
          omega
      · rw [if_neg hj] at hq
        exact h.ap i j p q hp hq hij g hg
theorem Fam.push {α : Type} {y : Lay α} {e : TypeId} {w w' : World} {base : Nat} {F : List (Value × List α)} {v v' : Value} {C C' : List α} (k : Nat) (h : Fam y e w base F) (hk : F[k]? = some (v, C)) (ho : Own y e w' base v' C') (hg : w.grownBy w' v.ownBlock) (hv : v'.ownBlock = v.ownBlock ∨ v'.ownBlock = some w.heap.size) : Fam y e w' base (F.set k (v', C')) :=
  h.turn k hk ho (But.of_grown hg (fun _ e9 => e9)) (fun g e9 => by
    rcases hv with h1 | h1
    · exact .inl (by rw [← h1]; exact e9)
    · rw [h1] at e9
      injection e9 with e9
      exact .inr (by omega))
/-- An entry of one of them is written. -/
theorem Fam.put {α : Type} {y : Lay α} {e : TypeId} {w : World} {base g n c j : Nat} {F : List (Value × List α)} {C : List α} (k : Nat) (h : Fam y e w base F) (hk : F[k]? = some (.slice (some ⟨g, 0, none⟩) n c, C)) (hn : C.length = n) (hj : j < n) (a : α) : Fam y e (setC w g (j * y.z) (y.cs a)) base (F.set k (.slice (some ⟨g, 0, none⟩) n c, C.set j a)) := by
  have hjC : j < C.length := by omega
  have h1 : Own y e w base (.slice (some ⟨g, 0, none⟩) n c) C := h.own k _ hk
  exact h.turn k hk (h1.set hn hjC a) ((But.refl _ w).setC _ (fun _ => rfl)) (fun g' e9 => .inl e9)
theorem put_but {w : World} {g j : Nat} (vs : List Value) : But (fun b => b = g) w (setC w g j vs) := (But.refl (fun b => b = g) w).setC vs (fun _ => rfl)
end Go.Proofs.Ytdmlehbamdcjcab
