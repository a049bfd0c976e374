/-
  Small laws.
-/
import Derived.Test.YtbcmheilgilipaaTabD
namespace Go.Proofs.Ytbcmheilgilipaa
open Go.RowKit Go.Maps
theorem own_lt {w : World} {base n : Nat} {e : TypeId} {size : Nat} {v : Value} {xs : List Value} (h : w.ownsRow base e size v n xs) : ∀ g, v.ownBlock = some g → g < w.heap.size := by
  intro g hg
  rcases h.2 with ⟨hv, _⟩ | ⟨g', cap, cur, hv, hb, hh, _⟩
  · rw [hv] at hg; simp [Value.ownBlock] at hg
  · rw [hv] at hg; simp [Value.ownBlock] at hg; subst hg; exact (Array.getElem?_eq_some_iff.1 hh).1
theorem cell_block {w w' : World} {a : Addr} {u : Value} (h : w.cell? a = some u) (hb : w'.heap[a.block]? = w.heap[a.block]?) : w'.cell? a = some u := by
  rw [← h]; unfold World.cell?; rw [hb]
theorem frozen_block {w w' : World} {a : Addr} (hb : w'.heap[a.block]? = w.heap[a.block]?) : w'.frozen? a = w.frozen? a := by
  unfold World.frozen?; rw [hb]
end Go.Proofs.Ytbcmheilgilipaa
