/-
  The document's Next as mathematics: the search for the record that is next.
-/
import Derived.Test.YtdlpffbeladgaaaMgG
namespace Go.Proofs.Ytdlpffbeladgaaa
open Go.RowKit
/-- The best of the first n rows: its row, its stamp. -/
def Bst (Ls : List (List Rc)) (n : Nat) (b least : Int) : Prop :=
  (b = -1 ∧ least = 1048576 ∧ ∀ (j : Nat) (L : List Rc), j < n → Ls[j]? = some L → L = []) ∨
  ∃ (k : Nat) (r : Rc) (t : List Rc), b = (k : Int) ∧ least = r.stamp ∧ k < n ∧ Ls[k]? = some (r :: t) ∧ ∀ (j : Nat) (x : Rc) (u : List Rc), j < n → Ls[j]? = some (x :: u) → r.stamp < x.stamp ∨ (r.stamp = x.stamp ∧ k ≤ j)
theorem Bst.zero (Ls : List (List Rc)) : Bst Ls 0 (-1) 1048576 := .inl ⟨rfl, rfl, fun j _ h => by omega⟩
theorem Bst.skip {Ls : List (List Rc)} {n : Nat} {b least : Int} (h : Bst Ls n b least) (hn : Ls[n]? = some []) : Bst Ls (n + 1) b least := by
  rcases h with ⟨h1, h2, h3⟩ | ⟨k, r, t, h1, h2, h3, h4, h5⟩
  · refine .inl ⟨h1, h2, fun j L hj hL => ?_⟩
    by_cases e : j = n
    · subst e; rw [hn] at hL; exact (Option.some.inj hL).symm
    · exact h3 j L (by omega) hL
  · refine .inr ⟨k, r, t, h1, h2, by omega, h4, fun j x u hj hx => ?_⟩
    by_cases e : j = n
    · subst e; rw [hn] at hx; cases hx
    · exact h5 j x u (by omega) hx
theorem Bst.keep {Ls : List (List Rc)} {n : Nat} {b least : Int} {x : Rc} {u : List Rc} (h : Bst Ls n b least) (hn : Ls[n]? = some (x :: u)) (hx : x.stamp < 1048576) (hl : ¬ x.stamp < least) : Bst Ls (n + 1) b least := by
  rcases h with ⟨h1, h2, h3⟩ | ⟨k, r, t, h1, h2, h3, h4, h5⟩
  · omega
  · refine .inr ⟨k, r, t, h1, h2, by omega, h4, fun j y v hj hy => ?_⟩
    by_cases e : j = n
    · subst e; rw [hn] at hy; cases hy; omega
    · exact h5 j y v (by omega) hy
theorem Bst.turn {Ls : List (List Rc)} {n : Nat} {b least : Int} {x : Rc} {u : List Rc} (h : Bst Ls n b least) (hn : Ls[n]? = some (x :: u)) (hl : x.stamp < least) : Bst Ls (n + 1) (n : Int) x.stamp := by
  refine .inr ⟨n, x, u, rfl, rfl, by omega, hn, fun j y v hj hy => ?_⟩
  by_cases e : j = n
  · subst e; rw [hn] at hy; cases hy; omega
  · rcases h with ⟨h1, h2, h3⟩ | ⟨k, r, t, h1, h2, h3, h4, h5⟩
    · exact absurd (h3 j _ (by omega) hy) (by simp)
    · have := h5 j y v (by omega) hy
      omega
/-- The search is through: nothing is left, or the record that is next. -/
theorem Bst.done {Ls : List (List Rc)} {b least : Int} (h : Bst Ls Ls.length b least) : (b = -1 ∧ ∀ L ∈ Ls, L = []) ∨ ∃ (k : Nat) (r : Rc) (t : List Rc), b = (k : Int) ∧ least = r.stamp ∧ k < Ls.length ∧ Pick Ls k r t := by
  rcases h with ⟨h1, h2, h3⟩ | ⟨k, r, t, h1, h2, h3, h4, h5⟩
  · refine .inl ⟨h1, fun L hL => ?_⟩
    obtain ⟨j, hj⟩ := List.getElem?_of_mem hL
    exact h3 j L (get_lt hj) hj
  · exact .inr ⟨k, r, t, h1, h2, h3, h4, fun j x u hx => h5 j x u (get_lt hx) hx⟩
end Go.Proofs.Ytdlpffbeladgaaa
