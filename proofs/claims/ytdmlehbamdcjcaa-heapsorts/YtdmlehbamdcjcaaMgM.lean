/-
  Two rows in their order are merged.
-/
import Derived.Test.YtdmlehbamdcjcaaHpM
namespace Go.Proofs.Ytdmlehbamdcjcaa
open Go.RowKit
/-- O: the first i of T1 and the first k of T2, merged. -/
structure Mg {α : Type} (f : α → α → Bool) (T1 T2 O : List α) (i k : Nat) : Prop where
  perm : O.Perm (T1.take i ++ T2.take k)
  srt : Srt f O
  low1 : ∀ o ∈ O, ∀ r ∈ T1.drop i, f r o = false
  low2 : ∀ o ∈ O, ∀ r ∈ T2.drop k, f r o = false
theorem Mg.zero {α : Type} (f : α → α → Bool) (T1 T2 : List α) : Mg f T1 T2 [] 0 0 := ⟨by simp, .nil, fun o ho => by simp at ho, fun o ho => by simp at ho⟩
theorem srt_drop {α : Type} {f : α → α → Bool} {T : List α} {i : Nat} {x : α} (ho : Ord f) (hs : Srt f T) (hx : T[i]? = some x) : ∀ r ∈ T.drop i, f r x = false := by
  have hi := get_lt hx
  have he : T.drop i = x :: T.drop (i + 1) := by
    rw [List.drop_eq_getElem_cons hi]; rw [List.getElem?_eq_getElem hi] at hx; rw [Option.some.inj hx]
  have h2 : Srt f (x :: T.drop (i + 1)) := by rw [← he]; exact List.Pairwise.sublist (List.drop_sublist _ _) hs
  rw [he]
  exact h2.head ho
theorem drop_mem {α : Type} {T : List α} {i : Nat} {r : α} (h : r ∈ T.drop (i + 1)) : r ∈ T.drop i := by
  rw [← List.drop_drop] at h
  exact List.mem_of_mem_drop h
theorem take_snoc {α : Type} {T : List α} {i : Nat} {x : α} (hx : T[i]? = some x) : T.take (i + 1) = T.take i ++ [x] := by
  have hi := get_lt hx
  rw [List.take_succ_eq_append_getElem hi]
  rw [List.getElem?_eq_getElem hi] at hx
  rw [Option.some.inj hx]
theorem mem_drop {α : Type} {T : List α} {i : Nat} {x : α} (hx : T[i]? = some x) : x ∈ T.drop i := by
  have hi := get_lt hx
  rw [List.drop_eq_getElem_cons hi]
  rw [List.getElem?_eq_getElem hi] at hx
  rw [Option.some.inj hx]
  exact List.mem_cons_self ..
theorem Mg.left {α : Type} {f : α → α → Bool} {T1 T2 O : List α} {i k : Nat} {x : α} (ho : Ord f) (h : Mg f T1 T2 O i k) (h1 : Srt f T1) (hx : T1[i]? = some x) (hr : ∀ r ∈ T2.drop k, f r x = false) : Mg f T1 T2 (O ++ [x]) (i + 1) k := by
  refine ⟨?_, ?_, ?_, ?_⟩
  · rw [take_snoc hx, List.append_assoc]
    refine (h.perm.append_right [x]).trans ?_
    rw [List.append_assoc]
    exact List.Perm.append_left _ List.perm_append_comm
  · refine List.pairwise_append.mpr ⟨h.srt, List.pairwise_singleton .., fun a ha b hb => ?_⟩
    rw [List.mem_singleton.mp hb]
    exact h.low1 a ha x (mem_drop hx)
  · intro o hm r hr'
    rcases List.mem_append.mp hm with hm | hm
    · exact h.low1 o hm r (drop_mem hr')
    · rw [List.mem_singleton.mp hm]; exact srt_drop ho h1 hx r (drop_mem hr')
  · intro o hm r hr'
    rcases List.mem_append.mp hm with hm | hm
    · exact h.low2 o hm r hr'
    · rw [List.mem_singleton.mp hm]; exact hr r hr'
theorem Mg.swap {α : Type} {f : α → α → Bool} {T1 T2 O : List α} {i k : Nat} (h : Mg f T1 T2 O i k) : Mg f T2 T1 O k i :=
  ⟨h.perm.trans List.perm_append_comm, h.srt, h.low2, h.low1⟩
theorem Mg.right {α : Type} {f : α → α → Bool} {T1 T2 O : List α} {i k : Nat} {x : α} (ho : Ord f) (h : Mg f T1 T2 O i k) (h2 : Srt f T2) (hx : T2[k]? = some x) (hr : ∀ r ∈ T1.drop i, f r x = false) : Mg f T1 T2 (O ++ [x]) i (k + 1) :=
  (h.swap.left ho h2 hx hr).swap
theorem Mg.done {α : Type} {f : α → α → Bool} {T1 T2 O : List α} (h : Mg f T1 T2 O T1.length T2.length) : O.Perm (T1 ++ T2) ∧ Srt f O := by
  have := h.perm
  rw [List.take_length, List.take_length] at this
  exact ⟨this, h.srt⟩
theorem Mg.len {α : Type} {f : α → α → Bool} {T1 T2 O : List α} {i k : Nat} (h : Mg f T1 T2 O i k) (hi : i ≤ T1.length) (hk : k ≤ T2.length) : O.length = i + k := by
  rw [h.perm.length_eq, List.length_append, List.length_take, List.length_take]; omega
theorem tg_append {α : Type} (A B : List α) (s : Int) : tg (A ++ B) s = tg A s ++ tg B (s + A.length) := by
  induction A generalizing s with
  | nil => simp [tg]
  | cons a l ih => simp [tg, ih]; congr 1; omega
/-- The same things with the same turns, in their order: the same row. -/
theorem isort_eq {α : Type} (key : α → Int) {L : List α} {T : List (α × Int)} {s : Int} (hp : T.Perm (tg L s)) (hs : Srt (fst fun a b => decide (key a < key b)) T) : T = isort (fst fun a b => decide (key a < key b)) (tg L s) :=
  srt_one (fst_ord key) (hp.trans (isort_perm _ _).symm) hs (isort_srt (fst_ord key) _) (((tg_turns L s).perm hp.symm).dist key)
end Go.Proofs.Ytdmlehbamdcjcaa
