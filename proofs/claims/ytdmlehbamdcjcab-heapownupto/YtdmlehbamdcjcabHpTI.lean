/-
  All that is in a heap, in its order.
-/
import Derived.Test.YtdmlehbamdcjcabHpSI
import Derived.Test.YtdmlehbamdcjcabHpPI
namespace Go.Proofs.Ytdmlehbamdcjcab
open Go.RowKit
theorem hsortedI {w : World} {base p : Nat} {v : Value} {n : Int} {S : List (It × Int)} (h : HsI w base p v n S) (hl : (S.length : Int) ≤ 5000000000000) :
    Calls Try.prog 14 #[.pointer (some ⟨p, 0, none⟩)] w fun r w' => ∃ g, r = .returned (.slice (some ⟨g, 0, none⟩) S.length S.length) ∧ w.heap.size ≤ g ∧ Own layI 28 w' w.heap.size (.slice (some ⟨g, 0, none⟩) S.length S.length) (S.map Prod.fst) ∧ Below w.heap.size w w' := by
  obtain ⟨E, hq, hh, hp⟩ := h.hq
  refine (sortedI w base p v n E hq (by rw [hp.length_eq]; exact hl)).mono ?_
  rintro r w' ⟨g, D, E', rfl, hg, O, hD, hpp, hb⟩
  have h9 := (hpp.srt ordI hh hp h.srt (h.trn.dist _)).2.1
  rw [hD, hp.length_eq, List.take_length] at h9
  subst h9
  rw [hp.length_eq] at O ⊢
  exact ⟨g, rfl, hg, O, hb⟩
end Go.Proofs.Ytdmlehbamdcjcab
