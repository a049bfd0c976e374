/-
  Items in their order: Sort and Least.
-/
import Derived.Test.YtdmlehbamdcjcaaHpLI
import Derived.Test.YtdmlehbamdcjcaaMgM
namespace Go.Proofs.Ytdmlehbamdcjcaa
open Go.RowKit
/-- Items by their keys. -/
def sItems (L : List It) : List It := (isort (fst bfI) (tg L 0)).map Prod.fst
theorem sItems_len (L : List It) : (sItems L).length = L.length := by unfold sItems; rw [List.length_map, (isort_perm _ _).length_eq, tg_len]
theorem tg_srt {L : List It} (h : Srt bfI L) (s : Int) : Srt (fst bfI) (tg L s) := by
  induction L generalizing s with
  | nil => exact .nil
  | cons x l ih =>
    refine List.pairwise_cons.mpr ⟨fun e he => ?_, ih h.tail _⟩
    have h1 := (tg_ge l (s + 1) e he).1
    have h2 : e.1 ∈ l := by
      have h3 := List.mem_map_of_mem (f := Prod.fst) he
      rw [tg_fst] at h3; exact h3
    have h4 := (List.pairwise_cons.mp h).1 e.1 h2
    unfold fst
    rw [if_neg (by dsimp only; omega)]
    exact h4
theorem sItems_srt (L : List It) : Srt bfI (sItems L) := srt_fst (fun a : It => a.k) (isort_srt (fst_ord fun a : It => a.k) _)
theorem sItems_idem (L : List It) : sItems (sItems L) = sItems L := by
  have h := isort_eq (fun a : It => a.k) (L := sItems L) (s := 0) (.refl _) (tg_srt (sItems_srt L) 0)
  have h2 : isort (fst bfI) (tg (sItems L) 0) = tg (sItems L) 0 := h.symm
  show (isort (fst bfI) (tg (sItems L) 0)).map Prod.fst = sItems L
  rw [h2, tg_fst]
/-- Sort of items. -/
theorem sort_items (w : World) (a : Option Addr) (N c : Nat) (L : List It) (hr : TRow layI w a N L) (hl : (N : Int) ≤ 8796093022208) :
    Calls Try.prog 25 #[.slice a N c] w fun r w' => ∃ g, r = .returned (.slice (some ⟨g, 0, none⟩) N N) ∧ w.heap.size ≤ g ∧ Own layI 27 w' w.heap.size (.slice (some ⟨g, 0, none⟩) N N) (sItems L) ∧ Below w.heap.size w w' := by
  refine (sortI w a N c L hr hl).mono ?_
  rintro r w' ⟨g, E, D, E', rfl, hg, O, hD, hp, hh, hpp, hb⟩
  have h9 := isort_take (fun a : It => a.k) hp hh hpp
  have h8 : D = isort (fst bfI) (tg L 0) := by
    rw [hD] at h9
    refine h9.trans ?_
    rw [List.take_of_length_le]
    · rfl
    · rw [(isort_perm _ _).length_eq, tg_len, hr.len]; exact Nat.le_refl _
  subst h8
  exact ⟨g, rfl, hg, O, hb⟩
theorem least_items (w : World) (a : Option Addr) (N c : Nat) (L : List It) (q : Int) (hr : TRow layI w a N L) (hl : (N : Int) ≤ 8796093022208) (hq0 : -9223372036854775808 ≤ q) (hq1 : q ≤ 9223372036854775807) :
    Calls Try.prog 27 #[.slice a N c, .int .i64 q] w fun r w' => ∃ g k, r = .returned (.slice (some ⟨g, 0, none⟩) k k) ∧ w.heap.size ≤ g ∧ k = min (max q 0).toNat N ∧ Own layI 27 w' w.heap.size (.slice (some ⟨g, 0, none⟩) k k) ((sItems L).take k) ∧ Below w.heap.size w w' := by
  refine (leastI w a N c L q hr hl hq0 hq1).mono ?_
  rintro r w' ⟨g, k, E, D, E', rfl, hg, hk, O, hD, hp, hh, hpp, hb⟩
  have h9 := isort_take (fun a : It => a.k) hp hh hpp
  have h8 : D.map Prod.fst = (sItems L).take k := by
    unfold sItems
    rw [← List.map_take, ← hD]
    exact congrArg _ h9
  rw [h8] at O
  exact ⟨g, k, rfl, hg, hk, O, hb⟩
end Go.Proofs.Ytdmlehbamdcjcaa
