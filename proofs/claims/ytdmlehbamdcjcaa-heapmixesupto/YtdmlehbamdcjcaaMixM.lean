/-
  Pushes and pops in any order: a heap beside a list of what is in it.
-/
import Derived.Test.YtdmlehbamdcjcaaAliv
import Derived.Test.YtdmlehbamdcjcaaMgM
import Derived.Test.YtdmlehbamdcjcaaHpW
namespace Go.Proofs.Ytdmlehbamdcjcaa
open Go.RowKit
def turnI (x : It) : It × Int := (x, x.t)
/-- What is in a heap, as it was put in; each thing's tag is its turn. -/
structure Mx (In : List It) (S : List (It × Int)) (n : Int) : Prop where
  perm : S.Perm (In.map turnI)
  asc : In.Pairwise fun a b => a.t < b.t
  rng : ∀ x ∈ In, x.t < n
theorem Mx.nil (n : Int) : Mx [] [] n := ⟨.refl _, .nil, fun x hx => by simp at hx⟩
theorem Mx.push {In : List It} {S : List (It × Int)} {n : Int} (h : Mx In S n) (x : It) (hx : x.t = n) : Mx (In ++ [x]) (ins (fst bfI) (x, n) S) (n + 1) := by
  refine ⟨?_, ?_, fun y hy => ?_⟩
  · refine (ins_perm _ _ _).trans ?_
    rw [List.map_append]
    have e : turnI x = (x, n) := by unfold turnI; rw [hx]
    show ((x, n) :: S).Perm (In.map turnI ++ [turnI x])
    rw [e]
    exact (List.Perm.cons _ h.perm).trans (List.perm_append_singleton _ _).symm
  · refine List.pairwise_append.mpr ⟨h.asc, List.pairwise_singleton .., fun a ha b hb => ?_⟩
    rw [List.mem_singleton.mp hb, hx]
    exact h.rng a ha
  · rcases List.mem_append.mp hy with hy | hy
    · have := h.rng y hy; omega
    · rw [List.mem_singleton.mp hy, hx]; omega
/-- The first of the least keys. -/
structure Best (In : List It) (b k : Nat) : Prop where
  le : ∀ (i : Nat) x y, i < k → In[i]? = some x → In[b]? = some y → y.k ≤ x.k
  lt : ∀ (i : Nat) x y, i < b → In[i]? = some x → In[b]? = some y → y.k < x.k
theorem Best.zero (In : List It) : Best In 0 0 := ⟨fun _ _ _ h => absurd h (Nat.not_lt_zero _), fun _ _ _ h => absurd h (Nat.not_lt_zero _)⟩
theorem Best.keep {In : List It} {b k : Nat} {x y : It} (h : Best In b k) (hx : In[k]? = some x) (hy : In[b]? = some y) (hle : ¬ x.k < y.k) : Best In b (k + 1) := by
  refine ⟨fun i x' y' hi hx' hy' => ?_, h.lt⟩
  by_cases hik : i = k
  · subst hik
    rw [hx] at hx'; rw [hy] at hy'
    rw [← Option.some.inj hx', ← Option.some.inj hy']; omega
  · exact h.le i x' y' (by omega) hx' hy'
theorem Best.take {In : List It} {b k : Nat} {x y : It} (h : Best In b k) (hx : In[k]? = some x) (hy : In[b]? = some y) (hlt : x.k < y.k) : Best In k (k + 1) := by
  refine ⟨fun i x' y' hi hx' hy' => ?_, fun i x' y' hi hx' hy' => ?_⟩
  · rw [hx] at hy'
    rw [← Option.some.inj hy']
    by_cases hik : i = k
    · subst hik; rw [hx] at hx'; rw [← Option.some.inj hx']; exact Int.le_refl _
    · have := h.le i x' y (by omega) hx' hy; omega
  · rw [hx] at hy'
    rw [← Option.some.inj hy']
    have := h.le i x' y (by omega) hx' hy; omega
theorem drop_cons {α : Type} {T : List α} {i : Nat} {x : α} (hx : T[i]? = some x) : T.drop i = x :: T.drop (i + 1) := by
  have hi := get_lt hx
  rw [List.drop_eq_getElem_cons hi]
  rw [List.getElem?_eq_getElem hi] at hx
  rw [Option.some.inj hx]
theorem cut_perm {α : Type} {T : List α} {b : Nat} {x : α} (hx : T[b]? = some x) : T.Perm (x :: (T.take b ++ T.drop (b + 1))) := by
  have h1 : T = T.take b ++ x :: T.drop (b + 1) := by rw [← drop_cons hx, List.take_append_drop]
  refine (List.Perm.of_eq h1).trans List.perm_middle
theorem Mx.pop {In : List It} {S : List (It × Int)} {n : Int} {e : It × Int} {b : Nat} {y : It} (h : Mx In (e :: S) n) (hs : Srt (fst bfI) (e :: S)) (ht : Turns (e :: S)) (hb : Best In b In.length) (hy : In[b]? = some y) : e.1 = y ∧ Mx (In.take b ++ In.drop (b + 1)) S n := by
  have hmem : turnI y ∈ e :: S := h.perm.mem_iff.mpr (List.mem_map_of_mem (List.mem_of_getElem? hy))
  have h1 : fst bfI (turnI y) e = false := hs.head ordI _ hmem
  obtain ⟨x, hx, hxe⟩ := List.mem_map.mp (h.perm.mem_iff.mp (List.mem_cons_self ..))
  obtain ⟨i, hi⟩ := List.mem_iff_getElem?.mp hx
  have h2 : fst bfI e (turnI y) = false := by
    rw [← hxe]
    unfold fst turnI bfI
    dsimp only
    by_cases hib : i < b
    · have := hb.lt i x y hib hi hy
      split
      · simp; omega
      · simp; omega
    · have hk := hb.le i x y (get_lt hi) hi hy
      have htt : y.t ≤ x.t := by
        by_cases hie : i = b
        · subst hie; rw [hi] at hy; rw [Option.some.inj hy]; exact Int.le_refl _
        · have h3 := List.pairwise_iff_getElem.mp h.asc b i (get_lt hy) (get_lt hi) (by omega)
          have a1 := hi; have a2 := hy
          rw [List.getElem?_eq_getElem (get_lt hi)] at a1
          rw [List.getElem?_eq_getElem (get_lt hy)] at a2
          rw [Option.some.inj a1, Option.some.inj a2] at h3
          omega
      rw [if_neg (by omega)]
      simp; omega
  have he : turnI y = e := (ht.dist (fun a : It => a.k)) _ _ hmem (List.mem_cons_self ..) h1 h2
  refine ⟨by rw [← he]; rfl, ?_, ?_, fun z hz => h.rng z ?_⟩
  · have h5 := h.perm.trans ((cut_perm hy).map turnI)
    rw [List.map_cons, he] at h5
    exact List.Perm.cons_inv h5
  · have h6 : (In.take b ++ In.drop (b + 1)).Sublist In := by
      have h7 : In = In.take b ++ y :: In.drop (b + 1) := by rw [← drop_cons hy, List.take_append_drop]
      have h8 := List.Sublist.append (List.Sublist.refl (In.take b)) (List.sublist_cons_self y (In.drop (b + 1)))
      rw [← h7] at h8
      exact h8
    exact h.asc.sublist h6
  · rcases List.mem_append.mp hz with hz | hz
    · exact List.mem_of_mem_take hz
    · exact List.mem_of_mem_drop hz
theorem Mx.len {In : List It} {S : List (It × Int)} {n : Int} (h : Mx In S n) : S.length = In.length := by rw [h.perm.length_eq, List.length_map]
theorem ty_neM {w : World} {b p : Nat} {cs ds : Array Value} {t u : TypeId} {fr fs : Nat × Nat} (h : w.heap[b]? = some (.cells cs t fr)) (hp : w.heap[p]? = some (.cells ds u fs)) (ht : t ≠ u) : b ≠ p := by
  intro e
  rw [e, hp] at h
  injection h with h
  injection h with _ h _
  exact ht h.symm
theorem own_blk {w : World} {base : Nat} {v : Value} {In : List It} (h : Own layI 27 w base v In) : ∀ g, v.ownBlock = some g → ∃ cur, w.heap[g]? = some (.cells cur 27 (0, 0)) := by
  intro g hg
  rcases h.2 with ⟨e, _⟩ | ⟨g', cap, cur, e, _, hh, _⟩
  · rw [e] at hg; cases hg
  · rw [e] at hg; injection hg with hg; exact ⟨cur, by rw [← hg]; exact hh⟩
/-- A call of the heap leaves the list alone. -/
theorem Own.pastH {w w' : World} {base bh p : Nat} {v sl : Value} {n : Int} {S : List (It × Int)} {In : List It} (ho : Own layI 27 w base sl In) (h : HsI w bh p v n S) (hb : But (fun k => k = p ∨ v.ownBlock = some k) w w') : Own layI 27 w' base sl In := by
  refine ho.but hb (fun g hg => ?_)
  obtain ⟨cur, hc⟩ := own_blk ho g hg
  rintro (e | e)
  · exact ty_neM hc h.blk (by decide) e
  · obtain ⟨_, _, cur', hc'⟩ := h.own g e
    exact ty_neM hc hc' (by decide) rfl
/-- A call that turns the list leaves the heap alone. -/
theorem HsI.pastL {w w' : World} {base bh p : Nat} {v sl : Value} {n : Int} {S : List (It × Int)} {In : List It} (h : HsI w bh p v n S) (ho : Own layI 27 w base sl In) (hb : But (fun k => sl.ownBlock = some k) w w') : HsI w' bh p v n S := by
  refine h.but hb (fun e => ?_) (fun g hg e => ?_)
  · obtain ⟨cur, hc⟩ := own_blk ho p e
    exact ty_neM hc h.blk (by decide) rfl
  · obtain ⟨cur, hc⟩ := own_blk ho g e
    obtain ⟨_, _, cur', hc'⟩ := h.own g hg
    exact ty_neM hc hc' (by decide) rfl
end Go.Proofs.Ytdmlehbamdcjcaa
