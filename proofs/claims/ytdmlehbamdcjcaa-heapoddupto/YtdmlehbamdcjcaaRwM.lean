/-
  Rows in their order, merged: as mathematics.
-/
import Derived.Test.YtdmlehbamdcjcaaMgW
import Derived.Test.YtdmlehbamdcjcaaSIt
namespace Go.Proofs.Ytdmlehbamdcjcaa
open Go.RowKit
theorem mrg_one {α : Type} {f : α × Int → α × Int → Bool} {l O : List α} (h : Mrg f [l] O) : O = l := by
  induction l generalizing O with
  | nil =>
    cases h with
    | done _ => rfl
    | @step _ k x t O hk _ h => cases k <;> simp at hk
  | cons x t ih =>
    cases h with
    | done h => simp [heads] at h
    | @step _ k y u O hk _ h =>
      cases k with
      | succ k => simp at hk
      | zero =>
        simp at hk
        obtain ⟨rfl, rfl⟩ := hk
        rw [ih h]
theorem mrg_step {α : Type} {f : α × Int → α × Int → Bool} {cur : List (List α)} {x : α} {r : List α} (h : Mrg f cur (x :: r)) : ∃ (k : Nat) (t : List α), cur[k]? = some (x :: t) ∧ Mrg f (cur.set k t) r := by
  cases h with
  | step hk _ h => exact ⟨_, _, hk, h⟩
theorem flat_set {α : Type} {T : List (List α)} {k : Nat} {p : α} {R : List α} (h : T[k]? = some (p :: R)) : T.flatten.Perm (p :: (T.set k R).flatten) := by
  induction T generalizing k with
  | nil => simp at h
  | cons Q T ih =>
    cases k with
    | zero => simp at h; subst h; simp
    | succ k =>
      have h1 := ih (k := k) (by simpa using h)
      rw [List.flatten_cons, List.set_cons_succ, List.flatten_cons]
      exact (List.Perm.append_left Q h1).trans List.perm_middle
theorem total_flat {α : Type} (T : List (List α)) : total T = T.flatten.length := by
  induction T with
  | nil => rfl
  | cons Q T ih => rw [List.flatten_cons, List.length_append, ← ih]; rfl
theorem total_map {α β : Type} (g : List α → List β) (hg : ∀ l, (g l).length = l.length) (T : List (List α)) : total (T.map g) = total T := by
  induction T with
  | nil => rfl
  | cons Q T ih => simp [total, ih, hg]
theorem fst_at {α : Type} (bf : α → α → Bool) {a b : α} {i j m n : Int} (h1 : i < j ↔ m < n) : fst bf (a, i) (b, j) = fst bf (a, m) (b, n) := by
  unfold fst
  by_cases h : i < j
  · simp [h, h1.1 h]
  · have h2 : ¬ m < n := fun e => h (h1.2 e)
    simp [h, h2]
theorem mrg_tagged {cur : List (List It)} {O : List It} (h : Mrg (fst bfI) cur O) : ∀ (T : List (List (It × Int))), cur = T.map (List.map Prod.fst) → (∀ R ∈ T, Srt (fst bfI) R) →
    (∀ (i j : Nat) (R S : List (It × Int)), T[i]? = some R → T[j]? = some S → i < j → ∀ e ∈ R, ∀ d ∈ S, e.2 < d.2) → ∃ P, O = P.map Prod.fst ∧ P.Perm T.flatten ∧ Srt (fst bfI) P := by
  induction h with
  | done h =>
    intro T hT _ _
    have h1 := heads_total h
    rw [hT, total_map _ (fun l => by simp), total_flat] at h1
    exact ⟨[], rfl, by rw [List.eq_nil_of_length_eq_zero h1], .nil⟩
  | @step cur k x t O hk hm h ih =>
    intro T hT hA hB
    have h1 : (T[k]?).map (List.map Prod.fst) = some (x :: t) := by rw [hT, List.getElem?_map] at hk; exact hk
    obtain ⟨R0, hR0, hR1⟩ := Option.map_eq_some_iff.1 h1
    obtain ⟨p, R, rfl⟩ : ∃ p R, R0 = p :: R := by
      cases R0 with
      | nil => simp at hR1
      | cons p R => exact ⟨p, R, rfl⟩
    rw [List.map_cons] at hR1
    injection hR1 with hx ht
    have hget : ∀ (j : Nat) (S : List (It × Int)), (T.set k R)[j]? = some S → ∃ S0, T[j]? = some S0 ∧ (∀ e ∈ S, e ∈ S0) ∧ Srt (fst bfI) S := by
      intro j S hS
      rw [List.getElem?_set] at hS
      by_cases hjk : k = j
      · subst hjk
        rw [if_pos rfl, if_pos (get_lt hR0)] at hS
        have e1 := Option.some.inj hS
        subst e1
        exact ⟨_, hR0, fun e he => List.mem_cons_of_mem _ he, (hA _ (List.mem_of_getElem? hR0)).tail⟩
      · rw [if_neg hjk] at hS
        exact ⟨S, hS, fun e he => he, hA _ (List.mem_of_getElem? hS)⟩
    obtain ⟨P, hP1, hP2, hP3⟩ := ih (T.set k R) (by rw [hT, List.map_set, ht]) (fun S hS => by
        obtain ⟨j, hj⟩ := List.getElem?_of_mem hS
        exact (hget j S hj).choose_spec.2.2)
      (fun i j A B hA' hB' hij e he d hd => by
        obtain ⟨A0, a1, a2, _⟩ := hget i A hA'
        obtain ⟨B0, b1, b2, _⟩ := hget j B hB'
        exact hB i j A0 B0 a1 b1 hij e (a2 e he) d (b2 d hd))
    refine ⟨p :: P, by rw [List.map_cons, hx, hP1], (hP2.cons p).trans (flat_set hR0).symm, List.pairwise_cons.2 ⟨fun e he => ?_, hP3⟩⟩
    obtain ⟨S, hS, heS⟩ := List.mem_flatten.1 (hP2.subset he)
    obtain ⟨j, hj⟩ := List.getElem?_of_mem hS
    rw [List.getElem?_set] at hj
    by_cases hjk : k = j
    · subst hjk
      rw [if_pos rfl, if_pos (get_lt hR0)] at hj
      have e1 := Option.some.inj hj
      subst e1
      exact (List.pairwise_cons.1 (hA _ (List.mem_of_getElem? hR0))).1 e heS
    · rw [if_neg hjk] at hj
      obtain ⟨q, S', rfl⟩ : ∃ q S', S = q :: S' := by
        cases S with
        | nil => simp at heS
        | cons q S' => exact ⟨q, S', rfl⟩
      have hcj : cur[j]? = some (q.1 :: S'.map Prod.fst) := by rw [hT, List.getElem?_map, hj]; rfl
      have m1 := hm ordI2 _ (mem_heads (s := 0) hcj)
      rw [Int.zero_add] at m1
      have m2 : fst bfI q p = false := by
        obtain ⟨q1, q2⟩ := q
        obtain ⟨p1, p2⟩ := p
        rw [← hx] at m1
        rw [← m1]
        refine fst_at bfI ?_
        by_cases hlt : j < k
        · have := hB j k _ _ hj hR0 hlt _ (List.mem_cons_self ..) _ (List.mem_cons_self ..)
          constructor
          · intro _; omega
          · intro _; exact this
        · have := hB k j _ _ hR0 hj (by omega) _ (List.mem_cons_self ..) _ (List.mem_cons_self ..)
          have h5 : p2 < q2 := this
          constructor <;> intro h6 <;> omega
      exact ordI2.neg e q p ((hA _ (List.mem_of_getElem? hj)).head ordI2 e heS) m2
def tgR : List (List It) → Int → List (List (It × Int))
  | [], _ => []
  | C :: Cs, s => tg C s :: tgR Cs (s + C.length)
theorem tgR_map (Cs : List (List It)) (s : Int) : (tgR Cs s).map (List.map Prod.fst) = Cs := by
  induction Cs generalizing s with
  | nil => rfl
  | cons C Cs ih => simp [tgR, ih, tg_fst]
theorem tgR_flat (Cs : List (List It)) (s : Int) : (tgR Cs s).flatten = tg Cs.flatten s := by
  induction Cs generalizing s with
  | nil => rfl
  | cons C Cs ih => simp [tgR, ih, tg_append]
theorem tgR_ge (Cs : List (List It)) (s : Int) : ∀ R ∈ tgR Cs s, ∀ e ∈ R, s ≤ e.2 := by
  induction Cs generalizing s with
  | nil => intro R hR; simp [tgR] at hR
  | cons C Cs ih =>
    intro R hR e he
    rcases List.mem_cons.1 hR with rfl | hR
    · exact (tg_ge C s e he).1
    · have := ih _ R hR e he; omega
theorem tgR_sep (Cs : List (List It)) (s : Int) : ∀ (i j : Nat) (R S : List (It × Int)), (tgR Cs s)[i]? = some R → (tgR Cs s)[j]? = some S → i < j → ∀ e ∈ R, ∀ d ∈ S, e.2 < d.2 := by
  induction Cs generalizing s with
  | nil => intro i j R S h; simp [tgR] at h
  | cons C Cs ih =>
    intro i j R S hR hS hij e he d hd
    cases j with
    | zero => omega
    | succ j =>
      have hS' : (tgR Cs (s + C.length))[j]? = some S := by simpa [tgR] using hS
      cases i with
      | zero =>
        have hR' : R = tg C s := by simpa [tgR] using hR.symm
        subst hR'
        have h1 := tg_ge C s e he
        have h2 := tgR_ge Cs _ S (List.mem_of_getElem? hS') d hd
        omega
      | succ i => exact ih _ i j R S (by simpa [tgR] using hR) hS' (by omega) e he d hd
theorem tgR_srt (Cs : List (List It)) (s : Int) (h : ∀ C ∈ Cs, Srt bfI C) : ∀ R ∈ tgR Cs s, Srt (fst bfI) R := by
  induction Cs generalizing s with
  | nil => intro R hR; simp [tgR] at hR
  | cons C Cs ih =>
    intro R hR
    rcases List.mem_cons.1 hR with rfl | hR
    · exact tg_srt (h C (List.mem_cons_self ..)) s
    · exact ih _ (fun D hD => h D (List.mem_cons_of_mem _ hD)) R hR
/-- Rows that are in their order are merged into the order of all. -/
theorem mrg_sorted {Cs : List (List It)} {O : List It} (h : Mrg (fst bfI) Cs O) (hs : ∀ C ∈ Cs, Srt bfI C) : O = sItems Cs.flatten := by
  obtain ⟨P, h1, h2, h3⟩ := mrg_tagged h (tgR Cs 0) (tgR_map Cs 0).symm (tgR_srt Cs 0 hs) (tgR_sep Cs 0)
  rw [tgR_flat] at h2
  have h4 := isort_eq (fun a : It => a.k) h2 h3
  rw [h1, h4]
  rfl
/-- The items of rows of keys, each with its row's place as its tag. -/
def itR : List (List Int) → Int → List (List It)
  | [], _ => []
  | K :: Ks, s => K.map (fun v => (⟨v, s⟩ : It)) :: itR Ks (s + 1)
theorem itR_len (Ks : List (List Int)) (s : Int) : (itR Ks s).length = Ks.length := by
  induction Ks generalizing s with
  | nil => rfl
  | cons K Ks ih => simp [itR, ih]
theorem itR_get (Ks : List (List Int)) (s : Int) (i : Nat) : (itR Ks s)[i]? = (Ks[i]?).map fun K => K.map fun v => (⟨v, s + i⟩ : It) := by
  induction Ks generalizing s i with
  | nil => simp [itR]
  | cons K Ks ih =>
    cases i with
    | zero => simp [itR]
    | succ i =>
      rw [itR, List.getElem?_cons_succ, ih, List.getElem?_cons_succ]
      congr 1
      funext K
      congr 1
      funext v
      congr 1
      omega
theorem itR_append (A B : List (List Int)) (s : Int) : itR (A ++ B) s = itR A s ++ itR B (s + A.length) := by
  induction A generalizing s with
  | nil => simp [itR]
  | cons K A ih =>
    rw [List.cons_append, itR, itR, ih, List.cons_append, List.length_cons]
    congr 2
    congr 1
    omega
theorem itR_snoc {Ks : List (List Int)} {i : Nat} {K : List Int} (h : Ks[i]? = some K) : itR (Ks.take (i + 1)) 0 = itR (Ks.take i) 0 ++ [K.map fun v => (⟨v, i⟩ : It)] := by
  rw [take_snoc h, itR_append]
  have := get_lt h
  simp only [itR, List.length_take, Nat.min_eq_left (Nat.le_of_lt this), Int.zero_add]
theorem total_itR (Ks : List (List Int)) (s : Int) : total (itR Ks s) = total Ks := by
  induction Ks generalizing s with
  | nil => rfl
  | cons K Ks ih => simp [itR, total, ih]
theorem total_take {α : Type} (Ks : List (List α)) (i : Nat) : total (Ks.take i) ≤ total Ks := by
  induction Ks generalizing i with
  | nil => simp
  | cons K Ks ih =>
    cases i with
    | zero => simp [total]
    | succ i => have := ih i; simp [total]; omega
end Go.Proofs.Ytdmlehbamdcjcaa
