/-
  Patterns: what they match.
-/
import Derived.Lib.CutLaws
import Derived.Lib.TrimByte
import Derived.Test.YtnengkdddckjaaaDoorHpB
namespace Go.Proofs.YtnengkdddckjaaaDoor
open Go.RowKit
set_option linter.unusedVariables false
/-- A pattern matches a text: byte after byte of the pattern. -/
def gl : List UInt8 → List UInt8 → Prop
  | [], t => t = []
  | c :: p, t => if c = 42 then ∃ u v, t = u ++ v ∧ gl p v else ∃ v, t = c :: v ∧ gl p v
theorem gl_nil (t : List UInt8) : gl [] t ↔ t = [] := Iff.rfl
theorem gl_star (p t : List UInt8) : gl (42 :: p) t ↔ ∃ u v, t = u ++ v ∧ gl p v := by
  show (if (42 : UInt8) = 42 then ∃ u v, t = u ++ v ∧ gl p v else ∃ v, t = 42 :: v ∧ gl p v) ↔ _
  rw [if_pos rfl]
theorem gl_byte (c : UInt8) (p t : List UInt8) (h : c ≠ 42) : gl (c :: p) t ↔ ∃ v, t = c :: v ∧ gl p v := by
  show (if c = 42 then ∃ u v, t = u ++ v ∧ gl p v else ∃ v, t = c :: v ∧ gl p v) ↔ _
  rw [if_neg h]
theorem gl_app (q : List UInt8) : ∀ (p t : List UInt8), gl (p ++ q) t ↔ ∃ u v, t = u ++ v ∧ gl p u ∧ gl q v
  | [], t => by
    constructor
    · intro h
      exact ⟨[], t, rfl, rfl, h⟩
    · rintro ⟨u, v, rfl, hu, hv⟩
      have hu' : u = [] := hu
      subst hu'
      exact hv
  | c :: p, t => by
    by_cases hc : c = 42
    · subst hc
      rw [List.cons_append, gl_star]
      constructor
      · rintro ⟨u, v, rfl, h⟩
        obtain ⟨a, b, rfl, ha, hb⟩ := (gl_app q p v).1 h
        exact ⟨u ++ a, b, by simp, (gl_star _ _).2 ⟨u, a, rfl, ha⟩, hb⟩
      · rintro ⟨u, v, rfl, hu, hv⟩
        obtain ⟨a, b, rfl, hb⟩ := (gl_star _ _).1 hu
        exact ⟨a, b ++ v, by simp, (gl_app q p _).2 ⟨b, v, rfl, hb, hv⟩⟩
    · rw [List.cons_append, gl_byte _ _ _ hc]
      constructor
      · rintro ⟨v, rfl, h⟩
        obtain ⟨a, b, rfl, ha, hb⟩ := (gl_app q p v).1 h
        exact ⟨c :: a, b, by simp, (gl_byte _ _ _ hc).2 ⟨a, rfl, ha⟩, hb⟩
      · rintro ⟨u, v, rfl, hu, hv⟩
        obtain ⟨b, rfl, hb⟩ := (gl_byte _ _ _ hc).1 hu
        exact ⟨b ++ v, by simp, (gl_app q p _).2 ⟨b, v, rfl, hb, hv⟩⟩
theorem gl_snoc_star (p t : List UInt8) : gl (p ++ [42]) t ↔ ∃ u v, t = u ++ v ∧ gl p u := by
  rw [gl_app]
  constructor
  · rintro ⟨u, v, rfl, hu, _⟩
    exact ⟨u, v, rfl, hu⟩
  · rintro ⟨u, v, rfl, hu⟩
    exact ⟨u, v, rfl, hu, (gl_star _ _).2 ⟨v, [], by simp, rfl⟩⟩
theorem gl_snoc (p t : List UInt8) (c : UInt8) (hc : c ≠ 42) : gl (p ++ [c]) t ↔ ∃ u, t = u ++ [c] ∧ gl p u := by
  rw [gl_app]
  constructor
  · rintro ⟨u, v, rfl, hu, hv⟩
    obtain ⟨b, rfl, hb⟩ := (gl_byte _ _ _ hc).1 hv
    have hb' : b = [] := hb
    subst hb'
    exact ⟨u, rfl, hu⟩
  · rintro ⟨u, rfl, hu⟩
    exact ⟨u, [c], rfl, hu, (gl_byte _ _ _ hc).2 ⟨[], rfl, rfl⟩⟩
/-- The same as a truth. -/
noncomputable def glB (p t : List UInt8) : Bool := @decide (gl p t) (Classical.propDecidable _)
theorem glB_iff (p t : List UInt8) : glB p t = true ↔ gl p t := by
  unfold glB
  exact @decide_eq_true_iff _ (Classical.propDecidable _)
theorem glB_eq {p t p' t' : List UInt8} (h : gl p t ↔ gl p' t') : glB p t = glB p' t' :=
  Bool.eq_iff_iff.2 ((glB_iff _ _).trans (h.trans (glB_iff _ _).symm))
theorem glB_of {p t : List UInt8} {b : Bool} (h : gl p t ↔ b = true) : glB p t = b :=
  Bool.eq_iff_iff.2 ((glB_iff _ _).trans h)
theorem glB_nil (t : List UInt8) : glB [] t = decide (t = []) :=
  glB_of ((gl_nil t).trans decide_eq_true_iff.symm)
/-- The row of a star, place by place. -/
theorem row_star0 (p t : List UInt8) : glB (p ++ [42]) (t.take 0) = glB p (t.take 0) := by
  refine glB_eq ?_
  rw [gl_snoc_star, List.take_zero]
  constructor
  · rintro ⟨u, v, h, hu⟩
    have hu0 : u = [] := (List.append_eq_nil_iff.1 h.symm).1
    rw [hu0] at hu
    exact hu
  · intro h
    exact ⟨[], [], rfl, h⟩
theorem row_star (p t : List UInt8) (k : Nat) (hk : k < t.length) : glB (p ++ [42]) (t.take (k + 1)) = (glB p (t.take (k + 1)) || glB (p ++ [42]) (t.take k)) := by
  refine glB_of ?_
  rw [Bool.or_eq_true, glB_iff, glB_iff, gl_snoc_star, gl_snoc_star]
  constructor
  · rintro ⟨u, v, h, hu⟩
    rcases List.eq_nil_or_concat v with hv | ⟨v', x, hv⟩
    · subst hv
      rw [List.append_nil] at h
      left
      rw [h]
      exact hu
    · right
      refine ⟨u, v', ?_, hu⟩
      subst hv
      have h2 := congrArg List.dropLast h
      rw [List.concat_eq_append, ← List.append_assoc, List.dropLast_concat] at h2
      rw [← h2, ← List.take_append_getElem hk, List.dropLast_concat]
  · rintro (h | ⟨u, v, h, hu⟩)
    · exact ⟨_, [], by simp, h⟩
    · refine ⟨u, v ++ [t[k]], ?_, hu⟩
      rw [← List.append_assoc, ← h, List.take_append_getElem hk]
theorem row_byte0 (p t : List UInt8) (c : UInt8) (hc : c ≠ 42) : glB (p ++ [c]) (t.take 0) = false := by
  refine glB_of ?_
  rw [gl_snoc _ _ _ hc, List.take_zero]
  constructor
  · rintro ⟨u, h, hu⟩
    have := congrArg List.length h
    simp at this
  · intro h
    exact absurd h (by decide)
theorem row_byte (p t : List UInt8) (c : UInt8) (hc : c ≠ 42) (k : Nat) (hk : k < t.length) : glB (p ++ [c]) (t.take (k + 1)) = (glB p (t.take k) && decide (t[k] = c)) := by
  refine glB_of ?_
  rw [Bool.and_eq_true, glB_iff, gl_snoc _ _ _ hc, decide_eq_true_iff, ← List.take_append_getElem hk]
  constructor
  · rintro ⟨u, h, hu⟩
    obtain ⟨h1, h2⟩ := List.append_inj' h rfl
    rw [h1]
    exact ⟨hu, by simpa using h2⟩
  · rintro ⟨h, h2⟩
    exact ⟨_, by rw [h2], h⟩
/-- Without a star: just itself. -/
theorem gl_plain_app (q : List UInt8) : ∀ (a t : List UInt8), 42 ∉ a → (gl (a ++ q) t ↔ ∃ v, t = a ++ v ∧ gl q v)
  | [], t, _ => by
    constructor
    · intro h
      exact ⟨t, rfl, h⟩
    · rintro ⟨v, rfl, h⟩
      exact h
  | c :: a, t, h => by
    have hc : c ≠ 42 := fun hc => h (by simp [hc])
    have ha : 42 ∉ a := fun ha => h (by simp [ha])
    rw [List.cons_append, gl_byte _ _ _ hc]
    constructor
    · rintro ⟨v, rfl, h⟩
      obtain ⟨v', rfl, h'⟩ := (gl_plain_app q a v ha).1 h
      exact ⟨v', rfl, h'⟩
    · rintro ⟨v, rfl, h⟩
      exact ⟨a ++ v, rfl, (gl_plain_app q a _ ha).2 ⟨v, rfl, h⟩⟩
theorem gl_plain (a t : List UInt8) (h : 42 ∉ a) : gl a t ↔ t = a := by
  have := gl_plain_app [] a t h
  rw [List.append_nil] at this
  rw [this]
  constructor
  · rintro ⟨v, rfl, hv⟩
    have hv' : v = [] := hv
    subst hv'
    simp
  · rintro rfl
    exact ⟨[], by simp, rfl⟩
theorem gl_star_mono (q u v : List UInt8) (h : gl (42 :: q) v) : gl (42 :: q) (u ++ v) := by
  obtain ⟨a, b, rfl, hb⟩ := (gl_star _ _).1 h
  exact (gl_star _ _).2 ⟨u ++ a, b, by simp, hb⟩
theorem gl_star2 (q t : List UInt8) : gl (42 :: 42 :: q) t ↔ gl (42 :: q) t := by
  constructor
  · intro h
    obtain ⟨a, b, rfl, hb⟩ := (gl_star _ _).1 h
    exact gl_star_mono q a b hb
  · intro h
    exact (gl_star _ _).2 ⟨[], t, rfl, h⟩
theorem gl_trim (t : List UInt8) : ∀ p : List UInt8, gl (42 :: Lib.trimLeftB p 42) t ↔ gl (42 :: p) t
  | [] => Iff.rfl
  | c :: p => by
    by_cases hc : c = 42
    · subst hc
      have e : Lib.trimLeftB (42 :: p) 42 = Lib.trimLeftB p 42 := by
        unfold Lib.trimLeftB
        rw [List.dropWhile_cons_of_pos (by simp)]
      rw [e, gl_trim t p, gl_star2]
    · have e : Lib.trimLeftB (c :: p) 42 = c :: p := by
        unfold Lib.trimLeftB
        rw [List.dropWhile_cons_of_neg (by simpa using hc)]
      rw [e]
theorem trim_le (p : List UInt8) : (Lib.trimLeftB p 42).length ≤ p.length := (List.dropWhile_sublist _).length_le
theorem gl_last (a t : List UInt8) (h : 42 ∉ a) : gl (42 :: a) t ↔ Lib.hasSuffix t a = true := by
  unfold Lib.hasSuffix
  rw [List.isSuffixOf_iff_suffix, gl_star]
  constructor
  · rintro ⟨u, v, rfl, hv⟩
    rw [(gl_plain a v h).1 hv]
    exact ⟨u, rfl⟩
  · rintro ⟨u, hu⟩
    exact ⟨u, a, hu.symm, (gl_plain a a h).2 rfl⟩
theorem occ_split {t a : List UInt8} {i : Nat} (h : Lib.occAt t a i = true) : t = t.take i ++ (a ++ t.drop (i + a.length)) := by
  unfold Lib.occAt at h
  obtain ⟨r, hr⟩ := List.isPrefixOf_iff_prefix.1 h
  have e : t.drop (i + a.length) = r := by
    rw [← List.drop_drop, ← hr, List.drop_left]
  rw [e, hr, List.take_append_drop]
theorem occ_of {u a v : List UInt8} : Lib.occAt (u ++ (a ++ v)) a u.length = true := by
  unfold Lib.occAt
  rw [List.drop_left]
  exact List.isPrefixOf_iff_prefix.2 ⟨v, rfl⟩
/-- A star, a piece, a star: the first place of the piece is as good as any. -/
theorem gl_cut (a q t : List UInt8) (h : 42 ∉ a) :
    (gl (42 :: (a ++ 42 :: q)) t ↔ (Lib.cut t a).2.2 = true ∧ gl (42 :: q) (Lib.cut t a).2.1) := by
  rw [gl_star]
  unfold Lib.cut
  rcases Lib.index_spec t a with ⟨h1, h2⟩ | ⟨i, h1, h2, h3, h4⟩
  · rw [if_neg (by omega)]
    constructor
    · rintro ⟨u, v, rfl, hv⟩
      obtain ⟨v', rfl, _⟩ := (gl_plain_app _ a v h).1 hv
      have := h2 u.length (by simp)
      rw [occ_of] at this
      exact absurd this (by decide)
    · rintro ⟨h, _⟩
      exact absurd h Bool.false_ne_true
  · rw [h1, if_pos (by omega)]
    show _ ↔ true = true ∧ gl (42 :: q) (t.drop ((i : Int).toNat + a.length))
    rw [Int.toNat_natCast]
    constructor
    · rintro ⟨u, v, ht, hv⟩
      obtain ⟨v', rfl, hq⟩ := (gl_plain_app _ a v h).1 hv
      refine ⟨rfl, ?_⟩
      have hle : i ≤ u.length := by
        rcases Nat.lt_or_ge u.length i with hlt | hge
        · have := h4 u.length hlt
          rw [ht, occ_of] at this
          exact absurd this (by decide)
        · exact hge
      have hd : t.drop (u.length + a.length) = v' := by
        rw [ht, ← List.drop_drop, List.drop_left, List.drop_left]
      have he : t.drop (i + a.length) = (t.drop (i + a.length)).take (u.length - i) ++ v' := by
        have := List.take_append_drop (u.length - i) (t.drop (i + a.length))
        rw [List.drop_drop, show i + a.length + (u.length - i) = u.length + a.length by omega, hd] at this
        exact this.symm
      rw [he]
      exact gl_star_mono q _ v' hq
    · rintro ⟨_, hq⟩
      refine ⟨t.take i, a ++ t.drop (i + a.length), occ_split h3, (gl_plain_app _ a _ h).2 ⟨_, rfl, hq⟩⟩
/-- A pattern is cut at its first star. -/
theorem cut_star (p : List UInt8) : (∃ a b, p = a ++ 42 :: b ∧ 42 ∉ a ∧ Lib.cut p [42] = (a, b, true)) ∨ (42 ∉ p ∧ Lib.cut p [42] = (p, [], false)) := by
  unfold Lib.cut
  rcases Lib.index_spec p [42] with ⟨h1, h2⟩ | ⟨i, h1, h2, h3, h4⟩
  · right
    rw [if_neg (by omega)]
    refine ⟨fun hm => ?_, rfl⟩
    obtain ⟨u, v, rfl⟩ := List.append_of_mem hm
    have := h2 u.length (by simp)
    rw [show u ++ 42 :: v = u ++ ([42] ++ v) from rfl, occ_of] at this
    exact absurd this (by decide)
  · left
    have hs := occ_split h3
    refine ⟨p.take i, p.drop (i + 1), hs, fun hm => ?_, ?_⟩
    · obtain ⟨u, v, huv⟩ := List.append_of_mem hm
      have hl := congrArg List.length huv
      rw [List.length_take, Nat.min_eq_left h2, List.length_append, List.length_cons] at hl
      have h5 := h4 u.length (by omega)
      have hp : p = u ++ ([42] ++ (v ++ ([42] ++ p.drop (i + 1)))) := by
        conv => lhs; rw [hs, huv]
        simp
      rw [hp, occ_of] at h5
      exact absurd h5 (by decide)
    · rw [h1, if_pos (by omega)]
      rfl
end Go.Proofs.YtnengkdddckjaaaDoor
