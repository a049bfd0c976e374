/-
  The numbers of stacks.
-/
import Derived.Test.YtnengkdddckjaaaKmC
namespace Go.Proofs.Ytnengkdddckjaaa
open Go.RowKit Go.Maps
set_option linter.unusedVariables false
def ixN {κ : Type} [DecidableEq κ] (L : List κ) (k : κ) : Int := ((L.idxOf k : Nat) : Int) + 1
theorem ixN_add {κ : Type} [DecidableEq κ] (L : List κ) (k : κ) : ixN (addN L k) k = nid L k := rfl
theorem ixN_pre {κ : Type} [DecidableEq κ] {L M : List κ} {k : κ} (h : L <+: M) (hk : k ∈ L) : ixN M k = ixN L k := by
  obtain ⟨r, rfl⟩ := h
  unfold ixN
  rw [List.idxOf_append, if_pos hk]
theorem ixN_inj {κ : Type} [DecidableEq κ] {L : List κ} {a b : κ} (ha : a ∈ L) (hb : b ∈ L) (h : ixN L a = ixN L b) : a = b := by
  unfold ixN at h
  have h1 : L.idxOf a = L.idxOf b := by omega
  have h2 := List.idxOf_lt_length_of_mem ha
  have h3 := List.getElem_idxOf h2
  have h4 := List.idxOf_lt_length_of_mem hb
  have h5 := List.getElem_idxOf h4
  rw [← h3, ← h5]
  congr 1
theorem ixN_le {κ : Type} [DecidableEq κ] {L : List κ} {a : κ} (ha : a ∈ L) : 1 ≤ ixN L a ∧ ixN L a ≤ L.length := by
  have := List.idxOf_lt_length_of_mem ha
  unfold ixN
  omega
/-- The number of a stack: frames are numbered in F, stacks in S. -/
inductive Nm (F : List ByteArray) (S : List (Int × Int)) : List ByteArray → Int → Prop
  | nil : Nm F S [] 0
  | snoc {xs : List ByteArray} {s : Int} {f : ByteArray} : Nm F S xs s → f ∈ F → (s, ixN F f) ∈ S → Nm F S (xs ++ [f]) (ixN S (s, ixN F f))
theorem Nm.cons_form {F : List ByteArray} {S : List (Int × Int)} {zs : List ByteArray} {z : Int} (h : Nm F S zs z) : (zs = [] ∧ z = 0) ∨ ∃ xs s f, zs = xs ++ [f] ∧ Nm F S xs s ∧ f ∈ F ∧ (s, ixN F f) ∈ S ∧ z = ixN S (s, ixN F f) := by
  cases h with
  | nil => exact .inl ⟨rfl, rfl⟩
  | snoc h1 h2 h3 => exact .inr ⟨_, _, _, rfl, h1, h2, h3, rfl⟩
theorem Nm.mono {F F' : List ByteArray} {S S' : List (Int × Int)} (hF : F <+: F') (hS : S <+: S') {xs : List ByteArray} {s : Int} (h : Nm F S xs s) : Nm F' S' xs s := by
  induction h with
  | nil => exact .nil
  | snoc h1 h2 h3 ih =>
    have e1 := ixN_pre hF h2
    have e2 := ixN_pre hS h3
    have h4 := Nm.snoc ih (hF.subset h2) (by rw [e1]; exact hS.subset h3)
    rw [e1, e2] at h4
    exact h4
theorem Nm.inj {F : List ByteArray} {S : List (Int × Int)} {xs : List ByteArray} {s : Int} (h : Nm F S xs s) : ∀ {ys : List ByteArray} {t : Int}, Nm F S ys t → (s = t ↔ xs = ys) := by
  induction h with
  | nil =>
    intro ys t k
    rcases k.cons_form with ⟨rfl, rfl⟩ | ⟨xs, s, f, rfl, _, _, h3, rfl⟩
    · simp
    · have := (ixN_le h3).1
      constructor
      · intro e; omega
      · intro e
        have := congrArg List.length e
        simp at this
  | snoc h1 h2 h3 ih =>
    intro ys t k
    rcases k.cons_form with ⟨rfl, rfl⟩ | ⟨xs', s', f', rfl, k1, k2, k3, rfl⟩
    · have := (ixN_le h3).1
      constructor
      · intro e; omega
      · intro e
        have := congrArg List.length e
        simp at this
    · constructor
      · intro e
        have e1 := ixN_inj h3 k3 e
        have e2 : ixN F _ = ixN F f' := congrArg Prod.snd e1
        have e3 := (ih k1).1 (congrArg Prod.fst e1)
        rw [e3, ixN_inj h2 k2 e2]
      · intro e
        obtain ⟨e1, e2⟩ := List.append_inj' e rfl
        have e3 := (ih k1).2 e1
        have e4 := List.head_eq_of_cons_eq e2
        rw [e3, e4]
theorem Nm.bound {F : List ByteArray} {S : List (Int × Int)} {xs : List ByteArray} {s : Int} (h : Nm F S xs s) : 0 ≤ s ∧ s ≤ S.length := by
  rcases h.cons_form with ⟨_, rfl⟩ | ⟨_, _, _, _, _, _, h3, rfl⟩
  · omega
  · have := ixN_le h3
    omega
/-- One frame more. -/
theorem Nm.step {F : List ByteArray} {S : List (Int × Int)} {xs : List ByteArray} {s : Int} (h : Nm F S xs s) (f : ByteArray) : Nm (addN F f) (addN S (s, nid F f)) (xs ++ [f]) (nid S (s, nid F f)) := by
  have h1 := h.mono (addN_pre F f) (addN_pre S (s, nid F f))
  exact Nm.snoc h1 (addN_mem F f) (addN_mem S (s, nid F f))
end Go.Proofs.Ytnengkdddckjaaa
