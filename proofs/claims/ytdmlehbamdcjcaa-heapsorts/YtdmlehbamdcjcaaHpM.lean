/-
  Heaps in a row as mathematics: bringing up, bringing down, taking out, putting in.
-/
import Derived.WalkKit
namespace Go.Proofs.Ytdmlehbamdcjcaa
open Go.RowKit
/-- Which of two comes first is an order: alike ones are alike to the same ones. -/
structure Ord {α : Type} (f : α → α → Bool) : Prop where
  asym : ∀ a b, f a b = true → f b a = false
  neg : ∀ a b c, f a b = false → f b c = false → f a c = false
theorem Ord.irr {α : Type} {f : α → α → Bool} (h : Ord f) (a : α) : f a a = false := by
  cases hf : f a a with
  | false => rfl
  | true => have := h.asym a a hf; rw [hf] at this; exact this
/-- a is ahead of b, c is not ahead of b: then c is not ahead of a. -/
theorem Ord.low {α : Type} {f : α → α → Bool} (h : Ord f) {a b c : α} (h1 : f a b = true) (h2 : f c b = false) : f c a = false := by
  cases hf : f c a with
  | false => rfl
  | true =>
    have h3 := h.neg c b a h2 (h.asym a b h1)
    rw [hf] at h3; exact h3
theorem swp_get {α : Type} {l : List α} {i j : Nat} {a b : α} (hi : i < l.length) (hj : j < l.length) (k : Nat) :
    ((l.set i b).set j a)[k]? = if k = j then some a else if k = i then some b else l[k]? := by
  rw [List.getElem?_set, List.getElem?_set]
  simp only [List.length_set]
  by_cases h1 : k = j
  · subst h1; simp [hj]
  · by_cases h2 : k = i
    · subst h2; simp [hi, h1, Ne.symm h1]
    · simp [h1, h2, Ne.symm h1, Ne.symm h2]
theorem get_lt {α : Type} {l : List α} {i : Nat} {a : α} (h : l[i]? = some a) : i < l.length := by
  rcases Nat.lt_or_ge i l.length with g | g
  · exact g
  · rw [List.getElem?_eq_none g] at h; exact absurd h (by simp)
theorem swp_perm {α : Type} {l : List α} {i j : Nat} {a b : α} (hi : l[i]? = some a) (hj : l[j]? = some b) : ((l.set i b).set j a).Perm l := by
  have h1 := get_lt hi
  have h2 := get_lt hj
  have e1 : l[i] = a := by rw [List.getElem?_eq_getElem h1] at hi; exact Option.some.inj hi
  have e2 : l[j] = b := by rw [List.getElem?_eq_getElem h2] at hj; exact Option.some.inj hj
  rw [← e1, ← e2]
  exact List.set_set_perm h1 h2
/-- None is ahead of the one above it. -/
def Hp {α : Type} (f : α → α → Bool) (l : List α) : Prop :=
  ∀ i x y, 0 < i → l[i]? = some x → l[(i - 1) / 2]? = some y → f x y = false
/-- ..., but the one at p may be ahead of the one above it. -/
def Rise {α : Type} (f : α → α → Bool) (l : List α) (p : Nat) : Prop :=
  (∀ i x y, 0 < i → i ≠ p → l[i]? = some x → l[(i - 1) / 2]? = some y → f x y = false) ∧
  (∀ i x y, 0 < i → 0 < p → (i - 1) / 2 = p → l[i]? = some x → l[(p - 1) / 2]? = some y → f x y = false)
/-- ..., but the ones below p may be ahead of it. -/
def Sink {α : Type} (f : α → α → Bool) (l : List α) (p : Nat) : Prop :=
  (∀ i x y, 0 < i → (i - 1) / 2 ≠ p → l[i]? = some x → l[(i - 1) / 2]? = some y → f x y = false) ∧
  (∀ i x y, 0 < i → 0 < p → (i - 1) / 2 = p → l[i]? = some x → l[(p - 1) / 2]? = some y → f x y = false)
theorem Rise.step {α : Type} {f : α → α → Bool} {l : List α} {p : Nat} {a b : α} (ho : Ord f) (h : Rise f l p) (hp : 0 < p)
    (ha : l[p]? = some a) (hb : l[(p - 1) / 2]? = some b) (hf : f a b = true) : Rise f ((l.set p b).set ((p - 1) / 2) a) ((p - 1) / 2) := by
  have l1 := get_lt ha
  have l2 := get_lt hb
  generalize hq : (p - 1) / 2 = q at *
  have hqp : q < p := by omega
  refine ⟨fun i x y hi hiq hx hy => ?_, fun i x y hi hq0 hiq hx hy => ?_⟩
  · rw [swp_get l1 l2] at hx hy
    rw [if_neg hiq] at hx
    by_cases hip : i = p
    · subst hip
      rw [if_pos rfl] at hx; rw [if_pos hq] at hy
      rw [← Option.some.inj hx, ← Option.some.inj hy]
      exact ho.asym _ _ hf
    · rw [if_neg hip] at hx
      by_cases h1 : (i - 1) / 2 = q
      · rw [if_pos h1] at hy
        rw [← Option.some.inj hy]
        exact ho.low hf (h.1 i x b hi hip hx (by rw [h1]; exact hb))
      · rw [if_neg h1] at hy
        by_cases h2 : (i - 1) / 2 = p
        · rw [if_pos h2] at hy
          rw [← Option.some.inj hy]
          exact h.2 i x b hi hp h2 hx (by rw [hq]; exact hb)
        · rw [if_neg h2] at hy
          exact h.1 i x y hi hip hx hy
  · rw [swp_get l1 l2] at hx hy
    have h3 : ¬ (q - 1) / 2 = q := by omega
    have h4 : ¬ (q - 1) / 2 = p := by omega
    rw [if_neg h3, if_neg h4] at hy
    have h5 : ¬ i = q := by omega
    rw [if_neg h5] at hx
    have hby : f b y = false := h.1 q b y hq0 (by omega) hb hy
    by_cases hip : i = p
    · rw [if_pos hip] at hx
      rw [← Option.some.inj hx]; exact hby
    · rw [if_neg hip] at hx
      exact ho.neg _ _ _ (h.1 i x b hi hip hx (by rw [hiq]; exact hb)) hby
theorem Rise.done0 {α : Type} {f : α → α → Bool} {l : List α} (h : Rise f l 0) : Hp f l :=
  fun i x y hi hx hy => h.1 i x y hi (by omega) hx hy
theorem Rise.done {α : Type} {f : α → α → Bool} {l : List α} {p : Nat} {a b : α} (h : Rise f l p) (ha : l[p]? = some a) (hb : l[(p - 1) / 2]? = some b) (hf : f a b = false) : Hp f l := by
  intro i x y hi hx hy
  by_cases hip : i = p
  · subst hip
    rw [ha] at hx; rw [hb] at hy
    rw [← Option.some.inj hx, ← Option.some.inj hy]; exact hf
  · exact h.1 i x y hi hip hx hy
/-- One is put behind the others. -/
theorem Hp.snoc {α : Type} {f : α → α → Bool} {l : List α} (h : Hp f l) (x : α) : Rise f (l ++ [x]) l.length := by
  refine ⟨fun i u v hi hip hu hv => ?_, fun i u v hi hp hip hu hv => ?_⟩
  · have := get_lt hu
    simp at this
    rw [List.getElem?_append_left (by omega)] at hu hv
    exact h i u v hi hu hv
  · have := get_lt hu
    simp at this
    omega
theorem Sink.step {α : Type} {f : α → α → Bool} {l : List α} {p q : Nat} {a b : α} (ho : Ord f) (h : Sink f l p) (hq0 : 0 < q) (hqp : (q - 1) / 2 = p)
    (ha : l[p]? = some a) (hb : l[q]? = some b) (hf : f b a = true)
    (hbest : ∀ i x, 0 < i → (i - 1) / 2 = p → l[i]? = some x → f x b = false) : Sink f ((l.set p b).set q a) q := by
  have l1 := get_lt ha
  have l2 := get_lt hb
  refine ⟨fun i x y hi hiq hx hy => ?_, fun i x y hi hq0' hiq hx hy => ?_⟩
  · rw [swp_get l1 l2] at hx hy
    rw [if_neg hiq] at hy
    by_cases h1 : (i - 1) / 2 = p
    · rw [if_pos h1] at hy
      rw [← Option.some.inj hy]
      by_cases h2 : i = q
      · rw [if_pos h2] at hx
        rw [← Option.some.inj hx]; exact ho.asym _ _ hf
      · rw [if_neg h2, if_neg (by omega)] at hx
        exact hbest i x hi h1 hx
    · rw [if_neg h1] at hy
      by_cases h2 : i = q
      · exact absurd (by rw [h2]; exact hqp) h1
      · rw [if_neg h2] at hx
        by_cases h3 : i = p
        · rw [if_pos h3] at hx
          rw [← Option.some.inj hx]
          exact h.2 q b y hq0 (by omega) hqp hb (by rw [← h3]; exact hy)
        · rw [if_neg h3] at hx
          exact h.1 i x y hi h1 hx hy
  · rw [swp_get l1 l2] at hx hy
    rw [hqp, if_neg (by omega), if_pos rfl] at hy
    rw [if_neg (by omega), if_neg (by omega)] at hx
    rw [← Option.some.inj hy]
    exact h.1 i x b hi (by omega) hx (by rw [hiq]; exact hb)
theorem Sink.done {α : Type} {f : α → α → Bool} {l : List α} {p : Nat} (h : Sink f l p) (hn : l.length ≤ 2 * p + 1) : Hp f l := by
  intro i x y hi hx hy
  have := get_lt hx
  exact h.1 i x y hi (by omega) hx hy
theorem Sink.done1 {α : Type} {f : α → α → Bool} {l : List α} {p : Nat} {a b : α} (ho : Ord f) (h : Sink f l p) (ha : l[p]? = some a) (hf : f b a = false)
    (hbest : ∀ i x, 0 < i → (i - 1) / 2 = p → l[i]? = some x → f x b = false) : Hp f l := by
  intro i x y hi hx hy
  by_cases h1 : (i - 1) / 2 = p
  · rw [h1, ha] at hy
    rw [← Option.some.inj hy]
    exact ho.neg _ _ _ (hbest i x hi h1 hx) hf
  · exact h.1 i x y hi h1 hx hy
/-- The left one below p is the best. -/
theorem best_left {α : Type} {f : α → α → Bool} {l : List α} {p : Nat} {b : α} (ho : Ord f) (hb : l[2 * p + 1]? = some b)
    (hr : ∀ c, l[2 * p + 2]? = some c → f c b = false) : ∀ i x, 0 < i → (i - 1) / 2 = p → l[i]? = some x → f x b = false := by
  intro i x hi h1 hx
  have : i = 2 * p + 1 ∨ i = 2 * p + 2 := by omega
  rcases this with rfl | rfl
  · rw [hb] at hx; rw [← Option.some.inj hx]; exact ho.irr _
  · exact hr x hx
theorem best_right {α : Type} {f : α → α → Bool} {l : List α} {p : Nat} {b c : α} (ho : Ord f) (hb : l[2 * p + 1]? = some b)
    (hc : l[2 * p + 2]? = some c) (hf : f c b = true) : ∀ i x, 0 < i → (i - 1) / 2 = p → l[i]? = some x → f x c = false := by
  intro i x hi h1 hx
  have : i = 2 * p + 1 ∨ i = 2 * p + 2 := by omega
  rcases this with rfl | rfl
  · rw [hb] at hx; rw [← Option.some.inj hx]; exact ho.asym _ _ hf
  · rw [hc] at hx; rw [← Option.some.inj hx]; exact ho.irr _
theorem Hp.least {α : Type} {f : α → α → Bool} {l : List α} {a : α} (ho : Ord f) (h : Hp f l) (ha : l[0]? = some a) : ∀ (i : Nat) x, l[i]? = some x → f x a = false := by
  intro i
  induction i using Nat.strongRecOn with
  | _ i ih =>
    intro x hx
    by_cases h0 : i = 0
    · subst h0; rw [ha] at hx; rw [← Option.some.inj hx]; exact ho.irr _
    · have hl := get_lt hx
      have hp : (i - 1) / 2 < l.length := by omega
      have hy : l[(i - 1) / 2]? = some l[(i - 1) / 2] := List.getElem?_eq_getElem hp
      exact ho.neg _ _ _ (h i x _ (by omega) hx hy) (ih _ (by omega) _ hy)
/-- What is left when the first one is taken out: the last one takes its place. -/
def cutTop {α : Type} (l : List α) : List α := match l[l.length - 1]? with
  | some z => (l.set 0 z).take (l.length - 1)
  | none => []
theorem cutTop_len {α : Type} (l : List α) : (cutTop l).length = l.length - 1 := by
  unfold cutTop
  cases h : l[l.length - 1]? with
  | none =>
    rcases Nat.eq_zero_or_pos l.length with g | g
    · simp [g]
    · rw [List.getElem?_eq_getElem (by omega)] at h; exact absurd h (by simp)
  | some z => simp
theorem cutTop_perm {α : Type} {l : List α} {a : α} (ha : l[0]? = some a) : l.Perm (a :: cutTop l) := by
  cases l with
  | nil => simp at ha
  | cons x t =>
    simp at ha; subst ha
    unfold cutTop
    rw [List.length_cons, Nat.add_sub_cancel]
    rcases List.eq_nil_or_concat t with rfl | ⟨u, z, rfl⟩
    · simp
    · simp
theorem cutTop_sink {α : Type} {f : α → α → Bool} {l : List α} (h : Hp f l) : Sink f (cutTop l) 0 := by
  unfold cutTop
  cases hz : l[l.length - 1]? with
  | none => exact ⟨fun i x y _ _ hx _ => by simp at hx, fun i x y _ h0 => absurd h0 (by omega)⟩
  | some z =>
    refine ⟨fun i x y hi hi0 hx hy => ?_, fun i x y _ h0 => absurd h0 (by omega)⟩
    have hl := get_lt hx
    simp at hl
    simp only [List.getElem?_take] at hx hy
    rw [if_pos (by omega), List.getElem?_set, if_neg (by omega)] at hx
    rw [if_pos (by omega), List.getElem?_set, if_neg (by omega)] at hy
    exact h i x y hi hx hy
/-- In its order: none is ahead of one that stands before it. -/
def Srt {α : Type} (f : α → α → Bool) (l : List α) : Prop := l.Pairwise fun a b => f b a = false
theorem Srt.head {α : Type} {f : α → α → Bool} {a : α} {l : List α} (ho : Ord f) (h : Srt f (a :: l)) : ∀ x ∈ a :: l, f x a = false := by
  intro x hx
  rcases List.mem_cons.mp hx with rfl | hx
  · exact ho.irr _
  · exact (List.pairwise_cons.mp h).1 x hx
theorem Srt.tail {α : Type} {f : α → α → Bool} {a : α} {l : List α} (h : Srt f (a :: l)) : Srt f l := (List.pairwise_cons.mp h).2
/-- What comes out of a heap is the first in its order. -/
theorem Hp.top {α : Type} {f : α → α → Bool} {l s : List α} {a b : α} (ho : Ord f) (h : Hp f l) (hp : l.Perm (b :: s)) (hs : Srt f (b :: s)) (ha : l[0]? = some a)
    (hd : ∀ x y, x ∈ l → y ∈ l → f x y = false → f y x = false → x = y) : a = b := by
  have ha' : a ∈ l := List.mem_of_getElem? ha
  have hb' : b ∈ l := hp.mem_iff.mpr (List.mem_cons_self ..)
  obtain ⟨i, hi, hib⟩ := List.mem_iff_getElem.mp hb'
  refine hd a b ha' hb' (hs.head ho a (hp.mem_iff.mp ha')) (h.least ho ha i b (by rw [List.getElem?_eq_getElem hi, hib]))
/-- x is put behind all that it is not ahead of. -/
def ins {α : Type} (f : α → α → Bool) (x : α) : List α → List α
  | [] => [x]
  | a :: l => if f x a then x :: a :: l else a :: ins f x l
theorem ins_perm {α : Type} (f : α → α → Bool) (x : α) (l : List α) : (ins f x l).Perm (x :: l) := by
  induction l with
  | nil => exact .refl _
  | cons a l ih =>
    unfold ins
    split
    · exact .refl _
    · exact (ih.cons a).trans (.swap x a l)
theorem ins_srt {α : Type} {f : α → α → Bool} (ho : Ord f) (x : α) {l : List α} (h : Srt f l) : Srt f (ins f x l) := by
  induction l with
  | nil => exact List.pairwise_singleton ..
  | cons a l ih =>
    unfold ins
    split
    · rename_i hxa
      refine List.pairwise_cons.mpr ⟨fun y hy => ?_, h⟩
      exact ho.low hxa (h.head ho y hy)
    · rename_i hxa
      have hxa' : f x a = false := by cases hq : f x a <;> simp_all
      refine List.pairwise_cons.mpr ⟨fun y hy => ?_, ih h.tail⟩
      rcases List.mem_cons.mp ((ins_perm f x l).mem_iff.mp hy) with rfl | hy
      · exact hxa'
      · exact (List.pairwise_cons.mp h).1 y hy
theorem ins_len {α : Type} (f : α → α → Bool) (x : α) (l : List α) : (ins f x l).length = l.length + 1 := by
  rw [(ins_perm f x l).length_eq]; rfl
/-- Two rows in their order of the same things are the same. -/
theorem srt_one {α : Type} {f : α → α → Bool} : ∀ {s t : List α}, Ord f → s.Perm t → Srt f s → Srt f t → (∀ x y, x ∈ s → y ∈ s → f x y = false → f y x = false → x = y) → s = t
  | [], t, _, hp, _, _, _ => by rw [List.nil_perm] at hp; exact hp.symm
  | a :: s, [], _, hp, _, _, _ => absurd hp.length_eq (by simp)
  | a :: s, b :: t, ho, hp, hs, ht, hd => by
    have hb : b ∈ a :: s := hp.mem_iff.mpr (List.mem_cons_self ..)
    have ha : a ∈ b :: t := hp.mem_iff.mp (List.mem_cons_self ..)
    have e : a = b := hd a b (List.mem_cons_self ..) hb (ht.head ho a ha) (hs.head ho b hb)
    subst e
    rw [srt_one ho (List.Perm.cons_inv hp) hs.tail ht.tail fun x y hx hy => hd x y (List.mem_cons_of_mem _ hx) (List.mem_cons_of_mem _ hy)]
/-- Which of two entries comes first: of alike things the one with the lower turn. -/
def fst {α : Type} (bf : α → α → Bool) (e f : α × Int) : Bool := if e.2 < f.2 then !(bf f.1 e.1) else bf e.1 f.1
theorem fst_ord {α : Type} (key : α → Int) : Ord (fst fun a b => decide (key a < key b)) := by
  constructor
  · intro a b h
    unfold fst at *
    split at h <;> split <;> simp_all <;> omega
  · intro a b c h1 h2
    unfold fst at *
    split at h1 <;> split at h2 <;> split <;> simp_all <;> omega
theorem fst_eq {α : Type} (key : α → Int) {a b : α × Int} (h1 : fst (fun a b => decide (key a < key b)) a b = false) (h2 : fst (fun a b => decide (key a < key b)) b a = false) : key a.1 = key b.1 ∧ a.2 = b.2 := by
  unfold fst at *
  split at h1 <;> split at h2 <;> simp_all <;> omega
/-- D is taken out of a heap, one behind the other. -/
inductive Pops {α : Type} (f : α → α → Bool) : List α → List α → List α → Prop
  | nil (E : List α) : Pops f E [] E
  | snoc {E D E1 E2 : List α} {d : α} : Pops f E D E1 → E1[0]? = some d → E2.Perm (cutTop E1) → (Ord f → Hp f E1 → Hp f E2) → Pops f E (D ++ [d]) E2
theorem Pops.perm {α : Type} {f : α → α → Bool} {E D E' : List α} (h : Pops f E D E') : E.Perm (D ++ E') := by
  induction h with
  | nil => exact .refl _
  | snoc h0 h1 h2 _ ih =>
    refine ih.trans ?_
    rw [List.append_assoc]
    exact List.Perm.append_left _ ((cutTop_perm h1).trans (List.Perm.cons _ h2.symm))
theorem Pops.srt {α : Type} {f : α → α → Bool} {E D E' S : List α} (ho : Ord f) (h : Pops f E D E') (hp : Hp f E) (hpm : E.Perm S) (hs : Srt f S) (hd : ∀ x y, x ∈ S → y ∈ S → f x y = false → f y x = false → x = y) :
    Hp f E' ∧ D = S.take D.length ∧ E'.Perm (S.drop D.length) := by
  induction h with
  | nil => exact ⟨hp, by simp, by simpa using hpm⟩
  | @snoc D E1 E2 d h0 h1 h2 h3 ih =>
    obtain ⟨i1, i2, i3⟩ := ih
    have hl := i3.length_eq
    have h0' := get_lt h1
    rw [List.length_drop] at hl
    have hk : D.length < S.length := by omega
    have hdr : S.drop D.length = S[D.length] :: S.drop (D.length + 1) := List.drop_eq_getElem_cons hk
    rw [hdr] at i3
    have hsd : Srt f (S[D.length] :: S.drop (D.length + 1)) := by rw [← hdr]; exact List.Pairwise.sublist (List.drop_sublist _ _) hs
    have he : d = S[D.length] := Hp.top ho i1 i3 hsd h1 (fun x y hx hy => hd x y (List.mem_of_mem_drop (by rw [hdr]; exact i3.mem_iff.mp hx)) (List.mem_of_mem_drop (by rw [hdr]; exact i3.mem_iff.mp hy)))
    refine ⟨h3 ho i1, ?_, ?_⟩
    · rw [List.length_append, List.length_singleton, List.take_succ_eq_append_getElem hk, ← i2, he]
    · rw [List.length_append, List.length_singleton]
      have h4 := (cutTop_perm h1).symm.trans i3
      rw [he] at h4
      exact h2.trans (List.Perm.cons_inv h4)
/-- Things with their turns, from s on. -/
def tg {α : Type} : List α → Int → List (α × Int)
  | [], _ => []
  | x :: l, s => (x, s) :: tg l (s + 1)
theorem tg_snoc {α : Type} (L : List α) (x : α) (s : Int) : tg (L ++ [x]) s = tg L s ++ [(x, s + L.length)] := by
  induction L generalizing s with
  | nil => simp [tg]
  | cons a l ih => simp [tg, ih]; omega
theorem tg_len {α : Type} (L : List α) (s : Int) : (tg L s).length = L.length := by
  induction L generalizing s with
  | nil => rfl
  | cons a l ih => simp [tg, ih]
theorem tg_fst {α : Type} (L : List α) (s : Int) : (tg L s).map Prod.fst = L := by
  induction L generalizing s with
  | nil => rfl
  | cons a l ih => simp [tg, ih]
theorem tg_ge {α : Type} (L : List α) (s : Int) : ∀ e ∈ tg L s, s ≤ e.2 ∧ e.2 < s + L.length := by
  induction L generalizing s with
  | nil => intro e he; simp [tg] at he
  | cons a l ih =>
    intro e he
    simp [tg] at he
    rcases he with rfl | he
    · simp; omega
    · have := ih _ e he; simp; omega
/-- Unlike turns. -/
def Turns {α : Type} (S : List (α × Int)) : Prop := S.Pairwise fun a b => a.2 ≠ b.2
theorem tg_turns {α : Type} (L : List α) (s : Int) : Turns (tg L s) := by
  induction L generalizing s with
  | nil => exact .nil
  | cons a l ih => exact List.pairwise_cons.mpr ⟨fun b hb => by have := (tg_ge l (s + 1) b hb).1; dsimp only; omega, ih _⟩
theorem Turns.perm {α : Type} {S S' : List (α × Int)} (h : Turns S) (hp : S.Perm S') : Turns S' := hp.pairwise h (fun h => h.symm)
theorem Turns.eq {α : Type} {S : List (α × Int)} (h : Turns S) {x y : α × Int} (hx : x ∈ S) (hy : y ∈ S) (he : x.2 = y.2) : x = y := by
  induction S with
  | nil => simp at hx
  | cons a l ih =>
    obtain ⟨h1, h2⟩ := List.pairwise_cons.mp h
    rcases List.mem_cons.mp hx with hx1 | hx1 <;> rcases List.mem_cons.mp hy with hy1 | hy1
    · rw [hx1, hy1]
    · exact absurd he (by rw [hx1]; exact h1 y hy1)
    · exact absurd he.symm (by rw [hy1]; exact h1 x hx1)
    · exact ih h2 hx1 hy1
theorem Turns.dist {α : Type} {S : List (α × Int)} (h : Turns S) (key : α → Int) : ∀ x y, x ∈ S → y ∈ S → fst (fun a b => decide (key a < key b)) x y = false → fst (fun a b => decide (key a < key b)) y x = false → x = y :=
  fun _ _ hx hy h1 h2 => h.eq hx hy (fst_eq key h1 h2).2
/-- In its order. -/
def isort {α : Type} (f : α → α → Bool) (L : List α) : List α := L.foldl (fun s e => ins f e s) []
theorem isort_snoc {α : Type} (f : α → α → Bool) (L : List α) (x : α) : isort f (L ++ [x]) = ins f x (isort f L) := by simp [isort]
theorem isort_perm {α : Type} (f : α → α → Bool) (L : List α) : (isort f L).Perm L := by
  suffices h : ∀ l s : List α, (l.foldl (fun s e => ins f e s) s).Perm (l ++ s) by simpa [isort] using h L []
  intro l
  induction l with
  | nil => intro s; exact .refl _
  | cons x l ih => intro s; exact (ih _).trans (((ins_perm f x s).append_left l).trans List.perm_middle)
theorem isort_srt {α : Type} {f : α → α → Bool} (ho : Ord f) (L : List α) : Srt f (isort f L) := by
  suffices h : ∀ l s : List α, Srt f s → Srt f (l.foldl (fun s e => ins f e s) s) from h L [] .nil
  intro l
  induction l with
  | nil => intro s hs; exact hs
  | cons x l ih => intro s hs; exact ih _ (ins_srt ho x hs)
theorem ins_at {α : Type} {f : α → α → Bool} {x : α} : ∀ {L : List α} {k : Nat}, k ≤ L.length → (∀ i a, i < k → L[i]? = some a → f x a = false) → (∀ a, L[k]? = some a → f x a = true) → ins f x L = L.take k ++ x :: L.drop k
  | [], k, hk, _, _ => by have : k = 0 := by simpa using hk
                          subst this; rfl
  | a :: l, 0, _, _, h2 => by
    unfold ins
    rw [if_pos (h2 a (by simp))]; simp
  | a :: l, k + 1, hk, h1, h2 => by
    unfold ins
    rw [if_neg (by rw [h1 0 a (by omega) (by simp)]; simp)]
    rw [ins_at (L := l) (k := k) (by simpa using hk) (fun i b hi hb => h1 (i + 1) b (by omega) (by simpa using hb)) (fun b hb => h2 b (by simpa using hb))]
    simp
theorem isort_take {α : Type} (key : α → Int) {L : List α} {E D E' : List (α × Int)} (hp : E.Perm (tg L 0)) (hh : Ord (fst fun a b => decide (key a < key b)) → Hp (fst fun a b => decide (key a < key b)) E) (hpp : Pops (fst fun a b => decide (key a < key b)) E D E') :
    D = (isort (fst fun a b => decide (key a < key b)) (tg L 0)).take D.length := by
  have ho := fst_ord key
  exact (hpp.srt ho (hh ho) (hp.trans (isort_perm _ _).symm) (isort_srt ho _) (((tg_turns L 0).perm (isort_perm _ _).symm).dist key)).2.1
/-- A thing with a turn above all others is put in among the others' things. -/
theorem ins_fst {α : Type} (key : α → Int) (x : α) (n : Int) : ∀ {S : List (α × Int)}, (∀ e ∈ S, e.2 < n) → (ins (fst fun a b => decide (key a < key b)) (x, n) S).map Prod.fst = ins (fun a b => decide (key a < key b)) x (S.map Prod.fst)
  | [], _ => rfl
  | e :: S, h => by
    have he : fst (fun a b => decide (key a < key b)) (x, n) e = decide (key x < key e.1) := by
      unfold fst
      rw [if_neg (by have := h e (List.mem_cons_self ..); dsimp only; omega)]
    have hc : ∀ (g : α × Int → α × Int → Bool) (y a : α × Int) (l : List (α × Int)), ins g y (a :: l) = if g y a then y :: a :: l else a :: ins g y l := fun _ _ _ _ => rfl
    have hd : ∀ (g : α → α → Bool) (y a : α) (l : List α), ins g y (a :: l) = if g y a then y :: a :: l else a :: ins g y l := fun _ _ _ _ => rfl
    rw [hc, he, List.map_cons, hd]
    split
    · rfl
    · rw [List.map_cons, ins_fst key x n fun e he => h e (List.mem_cons_of_mem _ he)]
theorem srt_fst {α : Type} (key : α → Int) {S : List (α × Int)} (h : Srt (fst fun a b => decide (key a < key b)) S) : Srt (fun a b => decide (key a < key b)) (S.map Prod.fst) := by
  unfold Srt
  rw [List.pairwise_map]
  refine List.Pairwise.imp (fun {a b} h => ?_) h
  unfold fst at h
  split at h <;> simp_all <;> omega
theorem isort_fst {α : Type} (key : α → Int) (L : List α) (x : α) : (isort (fst fun a b => decide (key a < key b)) (tg (L ++ [x]) 0)).map Prod.fst = ins (fun a b => decide (key a < key b)) x ((isort (fst fun a b => decide (key a < key b)) (tg L 0)).map Prod.fst) := by
  rw [tg_snoc, isort_snoc]
  refine ins_fst key x _ (fun e he => ?_)
  have := (tg_ge L 0 e ((isort_perm _ _).mem_iff.mp he)).2
  omega
theorem up_val (k : Nat) : ((k : Int) - 1).tdiv 2 = (((k - 1) / 2 : Nat) : Int) := by
  rcases Nat.eq_zero_or_pos k with rfl | h
  · rfl
  · rw [show (k : Int) - 1 = ((k - 1 : Nat) : Int) by omega, Int.tdiv_eq_ediv_of_nonneg (by omega)]; omega
theorem cut_eq {α : Type} {l : List α} {M : Nat} {z y : α} (hl : l.length = M + 1) (hz : l[M]? = some z) : ((l.set 0 z).set M y).take M = cutTop l := by
  unfold cutTop
  rw [hl, Nat.add_sub_cancel, hz]
  rw [List.take_set_of_le (Nat.le_refl _)]
end Go.Proofs.Ytdmlehbamdcjcaa
