/-
  Groups of alike races as mathematics; rows of races and numbers.
-/
import Derived.Test.YtnengkdddckjaaaKmE
import Derived.Laws.OwnMore
import Derived.OneCell
namespace Go.Proofs.Ytnengkdddckjaaa
open Go.RowKit Go.Maps
set_option linter.unusedVariables false
def sI : Lay Int := ⟨fun x => [.int .i64 x], 1, by decide, fun _ => rfl, by intro a u hu; simp at hu; subst hu; rfl⟩
def sR : Lay (Int × Int) where
  cs r := [.int .i64 r.1, .int .i64 r.2]
  z := 2
  pos := by decide
  len _ := rfl
  one a u hu := by
    simp only [List.mem_cons, List.not_mem_nil, or_false] at hu
    rcases hu with rfl | rfl <;> rfl
/-- The stack of the event at a place. -/
def stk (es : List E6.Ev) (p : Int) : List ByteArray := match es[p.toNat]? with | some e => e.ls | none => []
/-- Two races are alike. -/
def alB (es : List E6.Ev) (r s : Int × Int) : Bool := decide ((stk es r.1 = stk es s.1 ∧ stk es r.2 = stk es s.2) ∨ (stk es r.1 = stk es s.2 ∧ stk es r.2 = stk es s.1))
/-- One race more. -/
def gst (es : List E6.Ev) (P : List (Int × Int) × List Int) (r : Int × Int) : List (Int × Int) × List Int :=
  match P.1.findIdx? (fun g => alB es g r) with
  | some k => (P.1, P.2.set k (P.2.getD k 0 + 1))
  | none => (P.1 ++ [r], P.2 ++ [1])
def grp (es : List E6.Ev) (rs : List (Int × Int)) : List (Int × Int) × List Int := rs.foldl (gst es) ([], [])
theorem grp_snoc (es : List E6.Ev) (rs : List (Int × Int)) (r : Int × Int) : grp es (rs ++ [r]) = gst es (grp es rs) r := by
  unfold grp
  rw [List.foldl_append]
  rfl
/-- The number of a race by the numbers of its stacks. -/
abbrev mm (s t : Int) : Int × Int := (min s t, max s t)
theorem mm_eq {s t s' t' : Int} : mm s t = mm s' t' ↔ (s = s' ∧ t = t') ∨ (s = t' ∧ t = s') := by
  simp only [mm, Prod.mk.injEq]
  omega
theorem al_iff {es : List E6.Ev} {F : List ByteArray} {S : List (Int × Int)} {r r' : Int × Int} {s t s' t' : Int} (h1 : Nm F S (stk es r.1) s) (h2 : Nm F S (stk es r.2) t) (h3 : Nm F S (stk es r'.1) s') (h4 : Nm F S (stk es r'.2) t') : (alB es r r' = true) ↔ mm s t = mm s' t' := by
  unfold alB
  rw [mm_eq, h1.inj h3, h2.inj h4, h1.inj h4, h2.inj h3, decide_eq_true_iff]
def ixo {κ : Type} [DecidableEq κ] (L : List κ) (k : κ) : Nat := L.idxOf k
theorem ixo_lt {κ : Type} [DecidableEq κ] {L : List κ} {k : κ} (h : k ∈ L) : ixo L k < L.length := List.idxOf_lt_length_of_mem h
theorem ixo_get {κ : Type} [DecidableEq κ] {L : List κ} {k : κ} (h : k ∈ L) : L[ixo L k]? = some k := by
  rw [List.getElem?_eq_getElem (ixo_lt h)]
  exact congrArg some (List.getElem_idxOf (List.idxOf_lt_length_of_mem h))
theorem nid_ixo {κ : Type} [DecidableEq κ] {L : List κ} {k : κ} (h : k ∈ L) : nid L k = (ixo L k : Int) + 1 := by
  unfold nid addN
  rw [if_pos h]
  rfl
/-- The groups and their numbers. -/
def Lk (es : List E6.Ev) (F : List ByteArray) (S : List (Int × Int)) (G L : List (Int × Int)) : Prop :=
  L.length = G.length ∧ ∀ (k : Nat) (r : Int × Int), G[k]? = some r → ∃ s t, L[k]? = some (mm s t) ∧ Nm F S (stk es r.1) s ∧ Nm F S (stk es r.2) t
theorem Lk.mono {es : List E6.Ev} {F F' : List ByteArray} {S S' G L : List (Int × Int)} (h : Lk es F S G L) (hF : F <+: F') (hS : S <+: S') : Lk es F' S' G L :=
  ⟨h.1, fun k r hk => by obtain ⟨s, t, a, b, c⟩ := h.2 k r hk; exact ⟨s, t, a, b.mono hF hS, c.mono hF hS⟩⟩
theorem Lk.find {es : List E6.Ev} {F : List ByteArray} {S G L : List (Int × Int)} (h : Lk es F S G L) (hnd : L.Nodup) {r : Int × Int} {s t : Int} (h1 : Nm F S (stk es r.1) s) (h2 : Nm F S (stk es r.2) t) :
    (mm s t ∈ L → G.findIdx? (fun g => alB es g r) = some (ixo L (mm s t))) ∧ (mm s t ∉ L → G.findIdx? (fun g => alB es g r) = none) := by
  have hat : ∀ (k : Nat) (g : Int × Int), G[k]? = some g → (alB es g r = true ↔ L[k]? = some (mm s t)) := fun k g hk => by
    obtain ⟨s', t', a, b, c⟩ := h.2 k g hk
    rw [al_iff b c h1 h2, a]
    constructor
    · intro e; rw [e]
    · intro e; exact Option.some.inj e
  constructor
  · intro hm
    have hl := ixo_lt hm
    rw [List.findIdx?_eq_some_iff_getElem]
    refine ⟨by rw [← h.1]; exact hl, ?_, fun j hj => ?_⟩
    · exact (hat _ _ (List.getElem?_eq_getElem _)).2 (ixo_get hm)
    · intro hal
      have h9 := (hat j _ (List.getElem?_eq_getElem (by rw [← h.1]; omega))).1 hal
      have h13 := (List.getElem?_inj (by omega) hnd).1 (h9.trans (ixo_get hm).symm)
      omega
  · intro hm
    rw [List.findIdx?_eq_none_iff]
    intro g hg
    obtain ⟨k, hk⟩ := List.getElem?_of_mem hg
    have := hat k g hk
    cases hb : alB es g r with
    | false => rfl
    | true => exact absurd (List.mem_of_getElem? (this.1 hb)) hm
theorem Lk.push {es : List E6.Ev} {F : List ByteArray} {S G L : List (Int × Int)} (h : Lk es F S G L) {r : Int × Int} {s t : Int} (h1 : Nm F S (stk es r.1) s) (h2 : Nm F S (stk es r.2) t) : Lk es F S (G ++ [r]) (L ++ [mm s t]) := by
  refine ⟨by simp [h.1], fun k x hk => ?_⟩
  by_cases hlt : k < G.length
  · rw [List.getElem?_append_left hlt] at hk
    obtain ⟨s', t', a, b⟩ := h.2 k x hk
    exact ⟨s', t', by rw [List.getElem?_append_left (by rw [h.1]; exact hlt)]; exact a, b⟩
  · have hkl := (List.getElem?_eq_some_iff.1 hk).1
    have e : k = G.length := by simp at hkl; omega
    subst e
    rw [List.getElem?_concat_length] at hk
    cases hk
    exact ⟨s, t, by rw [← h.1, List.getElem?_concat_length], h1, h2⟩
end Go.Proofs.Ytnengkdddckjaaa
