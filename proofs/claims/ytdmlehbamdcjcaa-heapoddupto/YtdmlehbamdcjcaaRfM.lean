/-
  The document's Merge.
-/
import Derived.Test.YtdmlehbamdcjcaaHpJI
import Derived.Test.YtdmlehbamdcjcaaOpenG
namespace Go.Proofs.Ytdmlehbamdcjcaa
open Go.RowKit
/-- How far each list has been read, and what is left of it. -/
structure CurI (Cs : List (List It)) (A : List Int) (cur : List (List It)) : Prop where
  la : A.length = Cs.length
  lc : cur.length = Cs.length
  pos : ∀ (j : Nat) (C : List It), Cs[j]? = some C → ∃ p : Nat, A[j]? = some (p : Int) ∧ p ≤ C.length ∧ cur[j]? = some (C.drop p)
/-- The first of the least heads among the first i lists. -/
def BestM (cur : List (List It)) (i : Nat) (f : Int) : Prop :=
  (f = -1 ∧ ∀ j C, j < i → cur[j]? = some C → C = []) ∨
  ∃ (n : Nat) (x : It) (t : List It), f = (n : Int) ∧ n < i ∧ cur[n]? = some (x :: t) ∧ (∀ j y u, j < i → cur[j]? = some (y :: u) → x.k ≤ y.k) ∧ (∀ j y u, j < n → cur[j]? = some (y :: u) → x.k < y.k)
theorem BestM.zero (cur : List (List It)) : BestM cur 0 (-1) := .inl ⟨rfl, fun _ _ h => absurd h (Nat.not_lt_zero _)⟩
theorem BestM.skip {cur : List (List It)} {i : Nat} {f : Int} (h : BestM cur i f) (hc : cur[i]? = some []) : BestM cur (i + 1) f := by
  rcases h with ⟨h1, h2⟩ | ⟨n, x, t, h1, h2, h3, h4, h5⟩
  · refine .inl ⟨h1, fun j C hj hC => ?_⟩
    by_cases hji : j = i
    · subst hji; rw [hc] at hC; exact (Option.some.inj hC).symm
    · exact h2 j C (by omega) hC
  · refine .inr ⟨n, x, t, h1, by omega, h3, fun j y u hj hy => ?_, h5⟩
    by_cases hji : j = i
    · subst hji; rw [hc] at hy; cases hy
    · exact h4 j y u (by omega) hy
theorem BestM.start {cur : List (List It)} {i : Nat} {x : It} {t : List It} (h : BestM cur i (-1)) (hc : cur[i]? = some (x :: t)) : BestM cur (i + 1) i := by
  rcases h with ⟨_, h2⟩ | ⟨n, _, _, h1, _⟩
  · refine .inr ⟨i, x, t, rfl, by omega, hc, fun j y u hj hy => ?_, fun j y u hj hy => ?_⟩
    · by_cases hji : j = i
      · subst hji; rw [hc] at hy; injection hy with hy; injection hy with hy _; rw [hy]; exact Int.le_refl _
      · have := h2 j _ (by omega) hy; cases this
    · have := h2 j _ (by omega) hy; cases this
  · omega
theorem BestM.more {cur : List (List It)} {i n : Nat} {x z : It} {t v : List It} (h : BestM cur i (n : Int)) (hn : cur[n]? = some (x :: t)) (hc : cur[i]? = some (z :: v)) :
    (z.k < x.k → BestM cur (i + 1) i) ∧ (¬ z.k < x.k → BestM cur (i + 1) n) := by
  rcases h with ⟨h1, _⟩ | ⟨n', x', t', h1, h2, h3, h4, h5⟩
  · omega
  · have : n' = n := by omega
    subst this
    rw [hn] at h3
    injection h3 with h3
    injection h3 with h3 h3'
    subst h3
    refine ⟨fun hlt => .inr ⟨i, z, v, rfl, by omega, hc, fun j y u hj hy => ?_, fun j y u hj hy => ?_⟩, fun hge => .inr ⟨n', x, t, rfl, by omega, hn, fun j y u hj hy => ?_, h5⟩⟩
    · by_cases hji : j = i
      · subst hji; rw [hc] at hy; injection hy with hy; injection hy with hy _; rw [hy]; exact Int.le_refl _
      · have := h4 j y u (by omega) hy; omega
    · have := h4 j y u hj hy; omega
    · by_cases hji : j = i
      · subst hji; rw [hc] at hy; injection hy with hy; injection hy with hy _; rw [← hy]; omega
      · exact h4 j y u (by omega) hy
theorem BestM.none {cur : List (List It)} {N : Nat} (h : BestM cur N (-1)) (hl : cur.length = N) : heads cur 0 = [] := by
  rcases h with ⟨_, h2⟩ | ⟨n, _, _, h1, _⟩
  · rw [List.eq_nil_iff_forall_not_mem]
    intro e he
    obtain ⟨k, t, h3, _⟩ := heads_mem he
    have := h2 k _ (by rw [← hl]; exact get_lt h3) h3
    cases this
  · omega
theorem BestM.least {cur : List (List It)} {N n : Nat} {x : It} {t : List It} (h : BestM cur N (n : Int)) (hl : cur.length = N) (hn : cur[n]? = some (x :: t)) : ∀ e ∈ heads cur 0, fst bfI e (x, (n : Int)) = false := by
  rcases h with ⟨h1, _⟩ | ⟨n', x', t', h1, h2, h3, h4, h5⟩
  · omega
  · have : n' = n := by omega
    subst this
    rw [hn] at h3
    injection h3 with h3
    injection h3 with h3 h3'
    subst h3
    intro e he
    obtain ⟨k, u, h6, h7⟩ := heads_mem he
    have h8 := h4 k _ u (by rw [← hl]; exact get_lt h6) h6
    unfold fst bfI
    dsimp only
    by_cases hkn : k < n'
    · have := h5 k _ u hkn h6
      split <;> simp <;> omega
    · split <;> simp <;> omega
theorem CurI.step {Cs : List (List It)} {A : List Int} {cur : List (List It)} {n p : Nat} {x : It} {t C : List It} (h : CurI Cs A cur) (hC : Cs[n]? = some C) (hp : A[n]? = some (p : Int)) (hc : cur[n]? = some (x :: t)) : C[p]? = some x ∧ CurI Cs (A.set n ((p + 1 : Nat) : Int)) (cur.set n t) := by
  obtain ⟨q, h1, h2, h3⟩ := h.pos n C hC
  have hqp : q = p := by rw [hp] at h1; injection h1 with h1; omega
  subst hqp
  rw [hc] at h3
  injection h3 with h3
  have hlt : q < C.length := by
    rcases Nat.lt_or_ge q C.length with h9 | h9
    · exact h9
    · rw [List.drop_of_length_le h9] at h3; cases h3
  rw [List.drop_eq_getElem_cons hlt] at h3
  injection h3 with h3 h4
  refine ⟨by rw [List.getElem?_eq_getElem hlt, h3], by rw [List.length_set]; exact h.la, by rw [List.length_set]; exact h.lc, fun j D hD => ?_⟩
  by_cases hj : n = j
  · subst hj
    rw [hC] at hD
    injection hD with hD
    subst hD
    refine ⟨q + 1, ?_, by omega, ?_⟩
    · rw [List.getElem?_set, if_pos rfl, if_pos (get_lt hp)]
    · rw [List.getElem?_set, if_pos rfl, if_pos (get_lt hc), h4]
  · obtain ⟨r, g1, g2, g3⟩ := h.pos j D hD
    exact ⟨r, by rw [List.getElem?_set, if_neg hj]; exact g1, g2, by rw [List.getElem?_set, if_neg hj]; exact g3⟩
end Go.Proofs.Ytdmlehbamdcjcaa
