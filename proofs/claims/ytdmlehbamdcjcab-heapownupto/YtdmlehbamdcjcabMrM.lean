/-
  Merging lists by their heads, as mathematics.
-/
import Derived.Test.YtdmlehbamdcjcabHpM
namespace Go.Proofs.Ytdmlehbamdcjcab
/-- The first of each list, with the list's place. -/
def heads {α : Type} : List (List α) → Int → List (α × Int)
  | [], _ => []
  | [] :: Ls, s => heads Ls (s + 1)
  | (x :: _) :: Ls, s => (x, s) :: heads Ls (s + 1)
theorem heads_cons {α : Type} (C : List α) (Ls : List (List α)) (s : Int) : heads (C :: Ls) s = heads [C] s ++ heads Ls (s + 1) := by
  cases C <;> rfl
theorem heads_append {α : Type} (A B : List (List α)) (s : Int) : heads (A ++ B) s = heads A s ++ heads B (s + A.length) := by
  induction A generalizing s with
  | nil => simp [heads]
  | cons C A ih =>
    have e9 : s + ((C :: A).length : Int) = s + 1 + (A.length : Int) := by rw [List.length_cons]; omega
    rw [List.cons_append, heads_cons, ih, heads_cons C A, List.append_assoc, e9]
theorem heads_one {α : Type} {C : List α} {s : Int} {e : α × Int} (h : e ∈ heads [C] s) : e.2 = s ∧ ∃ t, C = e.1 :: t := by
  cases C with
  | nil => simp [heads] at h
  | cons x t => simp [heads] at h; subst h; exact ⟨rfl, t, rfl⟩
theorem heads_mem {α : Type} {Ls : List (List α)} {s : Int} {e : α × Int} (h : e ∈ heads Ls s) : ∃ (k : Nat) (t : List α), Ls[k]? = some (e.1 :: t) ∧ e.2 = s + k := by
  induction Ls generalizing s with
  | nil => simp [heads] at h
  | cons C Ls ih =>
    rw [heads_cons] at h
    rcases List.mem_append.mp h with h | h
    · obtain ⟨h1, t, h2⟩ := heads_one h
      exact ⟨0, t, by simp [h2], by omega⟩
    · obtain ⟨k, t, h1, h2⟩ := ih h
      exact ⟨k + 1, t, by simpa using h1, by omega⟩
theorem mem_heads {α : Type} {Ls : List (List α)} {s : Int} {k : Nat} {x : α} {t : List α} (h : Ls[k]? = some (x :: t)) : (x, s + (k : Int)) ∈ heads Ls s := by
  induction Ls generalizing s k with
  | nil => simp at h
  | cons C Ls ih =>
    rw [heads_cons]
    cases k with
    | zero => simp at h; subst h; simp [heads]
    | succ k =>
      have h1 := ih (s := s + 1) (k := k) (by simpa using h)
      rw [show s + ((k + 1 : Nat) : Int) = s + 1 + (k : Int) by omega]
      exact List.mem_append.mpr (.inr h1)
theorem heads_set {α : Type} (Ls : List (List α)) (k : Nat) (C : List α) (s : Int) (hk : k < Ls.length) : (heads (Ls.set k C) s).Perm (heads (Ls.set k []) s ++ heads [C] (s + k)) := by
  induction Ls generalizing s k with
  | nil => simp at hk
  | cons D Ls ih =>
    cases k with
    | zero =>
      rw [List.set_cons_zero, List.set_cons_zero, heads_cons, heads_cons [] Ls]
      simp only [heads, List.nil_append, Int.natCast_zero, Int.add_zero]
      exact List.perm_append_comm
    | succ k =>
      rw [List.set_cons_succ, List.set_cons_succ, heads_cons, heads_cons D (Ls.set k [])]
      have h1 := ih k (s + 1) (by simpa using hk)
      rw [show s + ((k + 1 : Nat) : Int) = s + 1 + (k : Int) by omega, List.append_assoc]
      exact List.Perm.append_left _ h1
theorem set_self {α : Type} {L : List α} {k : Nat} {x : α} (h : L[k]? = some x) : L.set k x = L := by
  apply List.ext_getElem?
  intro i
  rw [List.getElem?_set]
  split
  · next h1 => subst h1; rw [h, if_pos (List.getElem?_eq_some_iff.mp h).1]
  · rfl
/-- What comes of lists that are merged; where Before is an order, by its order. -/
inductive Mrg {α : Type} (f : α × Int → α × Int → Bool) : List (List α) → List α → Prop
  | done {cur : List (List α)} (h : heads cur 0 = []) : Mrg f cur []
  | step {cur : List (List α)} {k : Nat} {x : α} {t O : List α} (hk : cur[k]? = some (x :: t)) (hm : Ord f → ∀ e ∈ heads cur 0, f e (x, (k : Int)) = false) (h : Mrg f (cur.set k t) O) : Mrg f cur (x :: O)
theorem Mrg.uniq {α : Type} {f : α × Int → α × Int → Bool} (ho : Ord f) (hd : ∀ a b : α × Int, f a b = false → f b a = false → a.2 = b.2) {cur : List (List α)} {O P : List α} (h : Mrg f cur O) (k : Mrg f cur P) : O = P := by
  induction h generalizing P with
  | done h =>
    cases k with
    | done _ => rfl
    | step hk _ _ =>
      have := mem_heads (s := 0) hk
      rw [h] at this
      simp at this
  | @step cur k1 x t O hk hm h ih =>
    cases k with
    | done h0 =>
      have := mem_heads (s := 0) hk
      rw [h0] at this
      simp at this
    | @step _ k2 y u P hk2 hm2 h2 =>
      have m1 := mem_heads (s := 0) hk
      have m2 := mem_heads (s := 0) hk2
      rw [Int.zero_add] at m1 m2
      have e1 := hm ho _ m2
      have e2 := hm2 ho _ m1
      have e3 := hd _ _ e1 e2
      have e5 : (k2 : Int) = (k1 : Int) := e3
      have e4 : k2 = k1 := by omega
      subst e4
      rw [hk] at hk2
      injection hk2 with hk2
      injection hk2 with hx ht
      subst hx
      subst ht
      rw [ih h2]
/-- How many things stand in lists. -/
def total {α : Type} : List (List α) → Nat
  | [] => 0
  | C :: Ls => C.length + total Ls
theorem total_set {α : Type} {Ls : List (List α)} {k : Nat} {x : α} {t : List α} (h : Ls[k]? = some (x :: t)) : total (Ls.set k t) + 1 = total Ls := by
  induction Ls generalizing k with
  | nil => simp at h
  | cons C Ls ih =>
    cases k with
    | zero => simp at h; subst h; simp [total]; omega
    | succ k => have := ih (k := k) (by simpa using h); simp [total]; omega
theorem heads_le {α : Type} (Ls : List (List α)) (s : Int) : (heads Ls s).length ≤ Ls.length := by
  induction Ls generalizing s with
  | nil => simp [heads]
  | cons C Ls ih =>
    have := ih (s + 1)
    cases C <;> simp [heads] <;> omega
end Go.Proofs.Ytdmlehbamdcjcab
