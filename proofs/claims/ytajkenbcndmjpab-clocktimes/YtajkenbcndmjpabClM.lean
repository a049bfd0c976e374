/-
  Clocks as mathematics: lists of goroutines and times. No walk here.
-/
import Derived.WalkKit
namespace Go.Proofs.Ytajkenbcndmjpab
open Go.RowKit
/-- A goroutine and its time. -/
structure Tk where
  g : Int
  t : Int
deriving DecidableEq
theorem Tk.ext2 {x y : Tk} (h1 : x.g = y.g) (h2 : x.t = y.t) : x = y := by cases x; cases y; simp at h1 h2; subst h1; subst h2; rfl
/-- Good, none below m. -/
def gd : Int → List Tk → Bool
  | _, [] => true
  | m, x :: c => decide (m ≤ x.g) && (decide (x.g < 65536) && (decide (1 ≤ x.t) && gd (x.g + 1) c))
/-- The time of g. -/
def tm (g : Int) : List Tk → Int
  | [] => 0
  | x :: c => if x.g = g then x.t else tm g c
theorem gd_cons {m : Int} {x : Tk} {c : List Tk} : gd m (x :: c) = true ↔ m ≤ x.g ∧ x.g < 65536 ∧ 1 ≤ x.t ∧ gd (x.g + 1) c = true := by
  rw [gd]; simp
theorem gd_mono {m k : Int} {c : List Tk} (h : gd m c = true) (hk : k ≤ m) : gd k c = true := by
  cases c with
  | nil => rfl
  | cons x c =>
    obtain ⟨h1, h2⟩ := gd_cons.1 h
    exact gd_cons.2 ⟨by omega, h2⟩
theorem tm_low {m g : Int} {c : List Tk} (h : gd m c = true) (hg : g < m) : tm g c = 0 := by
  induction c generalizing m with
  | nil => rfl
  | cons x c ih =>
    obtain ⟨h1, _, _, h4⟩ := gd_cons.1 h
    rw [tm, if_neg (by omega)]
    exact ih h4 (by omega)
theorem tm_high {m g : Int} {c : List Tk} (h : gd m c = true) (hg : 65536 ≤ g) : tm g c = 0 := by
  induction c generalizing m with
  | nil => rfl
  | cons x c ih =>
    obtain ⟨_, h2, _, h4⟩ := gd_cons.1 h
    rw [tm, if_neg (by omega)]
    exact ih h4
theorem tm_pos {m g : Int} {c : List Tk} (h : gd m c = true) : 0 ≤ tm g c := by
  induction c generalizing m with
  | nil => exact Int.le_refl 0
  | cons x c ih =>
    obtain ⟨_, _, h3, h4⟩ := gd_cons.1 h
    rw [tm]
    split
    · omega
    · exact ih h4
theorem tm_mem {m : Int} {c : List Tk} (h : gd m c = true) {x : Tk} (hx : x ∈ c) : tm x.g c = x.t ∧ m ≤ x.g ∧ x.g < 65536 ∧ 1 ≤ x.t := by
  induction c generalizing m with
  | nil => cases hx
  | cons y c ih =>
    obtain ⟨h1, h2, h3, h4⟩ := gd_cons.1 h
    rcases List.mem_cons.1 hx with rfl | hx
    · exact ⟨by rw [tm, if_pos rfl], h1, h2, h3⟩
    · obtain ⟨e1, e2, e3⟩ := ih h4 hx
      exact ⟨by rw [tm, if_neg (by omega)]; exact e1, by omega, e3⟩
theorem tm_none {g : Int} {c : List Tk} (h : ∀ x ∈ c, x.g ≠ g) : tm g c = 0 := by
  induction c with
  | nil => rfl
  | cons y c ih => rw [tm, if_neg (h y (by simp))]; exact ih (fun x hx => h x (by simp [hx]))
theorem tm_some {m g : Int} {c : List Tk} (h : gd m c = true) (hg : tm g c ≠ 0) : ∃ x ∈ c, x.g = g ∧ x.t = tm g c := by
  induction c generalizing m with
  | nil => exact absurd rfl hg
  | cons y c ih =>
    obtain ⟨_, _, _, h4⟩ := gd_cons.1 h
    rw [tm] at hg ⊢
    split at hg
    · rename_i e
      rw [if_pos e]
      exact ⟨y, by simp, e, rfl⟩
    · rename_i e
      rw [if_neg e]
      obtain ⟨x, hx, h1⟩ := ih h4 hg
      exact ⟨x, by simp [hx], h1⟩
/-- A clock is told by its times. -/
theorem tm_ext {m k : Int} {a b : List Tk} (ha : gd m a = true) (hb : gd k b = true) (h : ∀ g, tm g a = tm g b) : a = b := by
  induction a generalizing m k b with
  | nil =>
    cases b with
    | nil => rfl
    | cons y b =>
      obtain ⟨_, _, h3, _⟩ := gd_cons.1 hb
      have := h y.g
      rw [tm, tm, if_pos rfl] at this
      omega
  | cons x a ih =>
    obtain ⟨a1, a2, a3, a4⟩ := gd_cons.1 ha
    cases b with
    | nil =>
      have := h x.g
      rw [tm, tm, if_pos rfl] at this
      omega
    | cons y b =>
      obtain ⟨b1, b2, b3, b4⟩ := gd_cons.1 hb
      have e : x.g = y.g := by
        rcases Int.lt_trichotomy x.g y.g with hl | he | hl
        · have h9 := h x.g
          rw [tm, if_pos rfl, tm_low (m := y.g) (gd_cons.2 ⟨Int.le_refl _, b2, b3, b4⟩) hl] at h9
          omega
        · exact he
        · have h9 := h y.g
          rw [tm_low (m := x.g) (gd_cons.2 ⟨Int.le_refl _, a2, a3, a4⟩) hl, tm, if_pos rfl] at h9
          omega
      have e2 : x.t = y.t := by
        have h9 := h x.g
        rw [tm, if_pos rfl, tm, if_pos e.symm] at h9
        exact h9
      rw [Tk.ext2 e e2]
      congr 1
      refine ih a4 b4 (fun g => ?_)
      by_cases hg : x.g = g
      · rw [tm_low a4 (by omega), tm_low b4 (by omega)]
      · have h9 := h g
        rw [tm, if_neg hg, tm, if_neg (by omega)] at h9
        exact h9
theorem gd_len {m : Int} {c : List Tk} (h : gd m c = true) (hm : m ≤ 65536) : (c.length : Int) ≤ 65536 - m := by
  induction c generalizing m with
  | nil => simp; omega
  | cons x c ih =>
    obtain ⟨h1, h2, _, h4⟩ := gd_cons.1 h
    have := ih h4 (by omega)
    simp only [List.length_cons]
    omega
theorem gd_len0 {c : List Tk} (h : gd 0 c = true) : (c.length : Int) ≤ 65536 := by have := gd_len h (by omega); omega
/-- All below m. -/
def blw (m : Int) (c : List Tk) : Prop := ∀ x ∈ c, x.g < m
theorem blw_tm {m g : Int} {c : List Tk} (h : blw m c) (hg : m ≤ g) : tm g c = 0 := tm_none (fun x hx e => by have := h x hx; omega)
theorem gd_app {m k : Int} {a b : List Tk} (ha : gd m a = true) (hl : blw k a) (hb : gd k b = true) (hk : m ≤ k) : gd m (a ++ b) = true := by
  induction a generalizing m with
  | nil => exact gd_mono hb hk
  | cons x a ih =>
    obtain ⟨h1, h2, h3, h4⟩ := gd_cons.1 ha
    have hx := hl x (by simp)
    exact gd_cons.2 ⟨h1, h2, h3, ih h4 (fun y hy => hl y (by simp [hy])) (by omega)⟩
theorem tm_app {k : Int} {a b : List Tk} (hl : blw k a) (hb : gd k b = true) (g : Int) : tm g (a ++ b) = if g < k then tm g a else tm g b := by
  induction a with
  | nil =>
    rw [List.nil_append]
    split
    · rename_i h; rw [tm_low hb h]; rfl
    · rfl
  | cons x a ih =>
    have hx := hl x (by simp)
    have ih := ih (fun y hy => hl y (by simp [hy]))
    rw [List.cons_append, tm, tm, ih]
    by_cases e : x.g = g
    · rw [if_pos e, if_pos e, if_pos (by omega)]
    · rw [if_neg e, if_neg e]
theorem blw_mono {m k : Int} {c : List Tk} (h : blw m c) (hk : m ≤ k) : blw k c := fun x hx => by have := h x hx; omega
theorem blw_app {m : Int} {a b : List Tk} (h : blw m a) (k : blw m b) : blw m (a ++ b) := fun x hx => by
  rcases List.mem_append.1 hx with hx | hx
  · exact h x hx
  · exact k x hx
theorem gd_one {m g t : Int} (h1 : m ≤ g) (h2 : g < 65536) (h3 : 1 ≤ t) : gd m [⟨g, t⟩] = true := gd_cons.2 ⟨h1, h2, h3, rfl⟩
theorem gd_take {m : Int} {c : List Tk} (h : gd m c = true) (k : Nat) : gd m (c.take k) = true := by
  induction c generalizing m k with
  | nil => simp [gd]
  | cons x c ih =>
    cases k with
    | zero => rfl
    | succ k =>
      obtain ⟨h1, h2, h3, h4⟩ := gd_cons.1 h
      exact gd_cons.2 ⟨h1, h2, h3, ih h4 k⟩
/-- Where an entry lies. -/
theorem gd_at {m : Int} {c : List Tk} (h : gd m c = true) {i : Nat} {x : Tk} (hx : c[i]? = some x) : blw x.g (c.take i) ∧ gd (x.g + 1) (c.drop (i + 1)) = true := by
  induction c generalizing m i with
  | nil => simp at hx
  | cons y c ih =>
    obtain ⟨h1, h2, h3, h4⟩ := gd_cons.1 h
    cases i with
    | zero => simp at hx; subst hx; exact ⟨fun z hz => by simp at hz, h4⟩
    | succ i =>
      simp at hx
      obtain ⟨e1, e2⟩ := ih h4 hx
      refine ⟨fun z hz => ?_, by simpa using e2⟩
      rcases List.mem_cons.1 (by simpa using hz) with rfl | hz
      · have := (tm_mem h4 (List.mem_of_getElem? hx)).2.1; omega
      · exact e1 z hz
theorem tm_take {m : Int} {c : List Tk} (h : gd m c = true) {i : Nat} {x : Tk} (hx : c[i]? = some x) (g : Int) : tm g (c.take (i + 1)) = if g = x.g then x.t else tm g (c.take i) := by
  obtain ⟨h1, _⟩ := gd_at h hx
  have hm := tm_mem h (List.mem_of_getElem? hx)
  rw [List.take_add_one, hx, Option.toList_some, tm_app h1 (gd_one (Int.le_refl _) hm.2.2.1 hm.2.2.2), tm, tm]
  by_cases e : g = x.g
  · subst e; rw [if_neg (by omega), if_pos rfl, if_pos rfl]
  · rw [if_neg e]
    by_cases e2 : g < x.g
    · rw [if_pos e2]
    · rw [if_neg e2, if_neg (by show ¬ x.g = g; omega), blw_tm h1 (by omega)]
/-! ### at most -/
/-- Is a at most b? -/
def leB (a b : List Tk) : Bool := a.all fun x => decide (x.t ≤ tm x.g b)
theorem leB_iff {m k : Int} {a b : List Tk} (ha : gd m a = true) (hb : gd k b = true) : leB a b = true ↔ ∀ g, tm g a ≤ tm g b := by
  unfold leB
  rw [List.all_eq_true]
  constructor
  · intro h g
    by_cases h0 : tm g a = 0
    · rw [h0]; exact tm_pos hb
    · obtain ⟨x, hx, e1, e2⟩ := tm_some ha h0
      have := h x hx
      simp only [decide_eq_true_eq] at this
      rw [← e2, ← e1]; exact this
  · intro h x hx
    have := h x.g
    rw [(tm_mem ha hx).1] at this
    simpa using this
theorem leB_false {m k : Int} {a b : List Tk} (ha : gd m a = true) (hb : gd k b = true) {g : Int} (h : tm g b < tm g a) : leB a b = false := by
  cases e : leB a b with
  | false => rfl
  | true => have := (leB_iff ha hb).1 e g; omega
/-! ### two clocks gone through -/
/-- The first goroutine. -/
def lo : List Tk → Int
  | [] => 65536
  | x :: _ => x.g
/-- The time of g, none of the list below it. -/
def tk1 (g : Int) : List Tk → Int
  | [] => 0
  | x :: _ => if x.g = g then x.t else 0
/-- What is left behind it. -/
def tk2 (g : Int) : List Tk → List Tk
  | [] => []
  | x :: c => if x.g = g then c else x :: c
theorem lo_ge {m : Int} {c : List Tk} (h : gd m c = true) (hm : m ≤ 65536) : m ≤ lo c ∧ lo c ≤ 65536 := by
  cases c with
  | nil => exact ⟨hm, Int.le_refl _⟩
  | cons x c => obtain ⟨h1, h2, _⟩ := gd_cons.1 h; exact ⟨h1, by show x.g ≤ _; omega⟩
theorem lo_lt {m : Int} {c : List Tk} (h : gd m c = true) (hc : c ≠ []) : lo c < 65536 := by
  cases c with
  | nil => exact absurd rfl hc
  | cons x c => obtain ⟨_, h2, _⟩ := gd_cons.1 h; exact h2
theorem gd_lo {m : Int} {c : List Tk} (h : gd m c = true) : gd (lo c) c = true := by
  cases c with
  | nil => rfl
  | cons x c => obtain ⟨_, h2⟩ := gd_cons.1 h; exact gd_cons.2 ⟨Int.le_refl _, h2⟩
theorem tk_step {m g : Int} {c : List Tk} (h : gd m c = true) (hg : g ≤ lo c) : tk1 g c = tm g c ∧ gd (g + 1) (tk2 g c) = true ∧ (∀ k, g < k → tm k (tk2 g c) = tm k c) := by
  cases c with
  | nil => exact ⟨rfl, rfl, fun _ _ => rfl⟩
  | cons x c =>
    obtain ⟨_, h2, h3, h4⟩ := gd_cons.1 h
    have hg2 : g ≤ x.g := hg
    by_cases e : x.g = g
    · refine ⟨by rw [tk1, tm, if_pos e, if_pos e], by rw [tk2, if_pos e, ← e]; exact h4, fun k hk => by rw [tk2, if_pos e, tm, if_neg (by omega)]⟩
    · have h5 : gd (g + 1) (x :: c) = true := gd_cons.2 ⟨by omega, h2, h3, h4⟩
      exact ⟨by rw [tk1, if_neg e, tm_low h5 (by omega)], by rw [tk2, if_neg e]; exact h5, fun k _ => by rw [tk2, if_neg e]⟩
/-- What is left of two clocks from m on. -/
structure Rst (a b : List Tk) (m : Int) (ra rb : List Tk) : Prop where
  ga : gd m ra = true
  gb : gd m rb = true
  la : ∀ g, m ≤ g → tm g ra = tm g a
  lb : ∀ g, m ≤ g → tm g rb = tm g b
  m0 : 0 ≤ m
  m1 : m ≤ 65536
theorem Rst.start {a b : List Tk} (ha : gd 0 a = true) (hb : gd 0 b = true) : Rst a b 0 a b := ⟨ha, hb, fun _ _ => rfl, fun _ _ => rfl, by omega, by omega⟩
/-- The next goroutine. -/
def nx (ra rb : List Tk) : Int := min (lo ra) (lo rb)
theorem Rst.step {a b : List Tk} {m : Int} {ra rb : List Tk} (h : Rst a b m ra rb) (hn : ra ≠ [] ∨ rb ≠ []) :
    m ≤ nx ra rb ∧ nx ra rb < 65536 ∧ tk1 (nx ra rb) ra = tm (nx ra rb) a ∧ tk1 (nx ra rb) rb = tm (nx ra rb) b ∧ (∀ g, m ≤ g → g < nx ra rb → tm g a = 0 ∧ tm g b = 0) ∧ Rst a b (nx ra rb + 1) (tk2 (nx ra rb) ra) (tk2 (nx ra rb) rb) := by
  have l1 := lo_ge h.ga h.m1
  have l2 := lo_ge h.gb h.m1
  have e1 : nx ra rb ≤ lo ra := by unfold nx; omega
  have e2 : nx ra rb ≤ lo rb := by unfold nx; omega
  have e3 : m ≤ nx ra rb := by unfold nx; omega
  have e4 : nx ra rb < 65536 := by
    rcases hn with hn | hn
    · have := lo_lt h.ga hn; omega
    · have := lo_lt h.gb hn; omega
  obtain ⟨a1, a2, a3⟩ := tk_step h.ga e1
  obtain ⟨b1, b2, b3⟩ := tk_step h.gb e2
  refine ⟨e3, e4, by rw [a1, h.la _ e3], by rw [b1, h.lb _ e3], fun g hg hg2 => ⟨?_, ?_⟩, ⟨a2, b2, fun g hg => ?_, fun g hg => ?_, by have := h.m0; omega, by omega⟩⟩
  · rw [← h.la g hg]; exact tm_low (gd_lo h.ga) (by omega)
  · rw [← h.lb g hg]; exact tm_low (gd_lo h.gb) (by omega)
  · rw [a3 g (by omega), h.la g (by omega)]
  · rw [b3 g (by omega), h.lb g (by omega)]
theorem Rst.done {a b : List Tk} {m : Int} (h : Rst a b m [] []) : ∀ g, m ≤ g → tm g a = 0 ∧ tm g b = 0 := fun g hg => ⟨(h.la g hg).symm, (h.lb g hg).symm⟩
/-- A time told at the end of a clock. -/
def pt (J : List Tk) (g t : Int) : List Tk := if t = 0 then J else J ++ [⟨g, t⟩]
/-- What was made of those below m. -/
structure Mde (op : Int → Int → Int) (a b : List Tk) (m : Int) (J : List Tk) : Prop where
  gj : gd 0 J = true
  lj : blw m J
  tj : ∀ g, g < m → tm g J = op (tm g a) (tm g b)
theorem Mde.start {op : Int → Int → Int} (h0 : op 0 0 = 0) {a b : List Tk} (ha : gd 0 a = true) (hb : gd 0 b = true) : Mde op a b 0 [] :=
  ⟨rfl, fun x hx => by simp at hx, fun g hg => by rw [tm_low ha hg, tm_low hb hg, h0]; rfl⟩
theorem Mde.step {op : Int → Int → Int} (h0 : op 0 0 = 0) (hp : ∀ x y, 0 ≤ x → 0 ≤ y → 0 ≤ op x y) {a b : List Tk} (ha : gd 0 a = true) (hb : gd 0 b = true) {m g : Int} {J : List Tk} (h : Mde op a b m J) (h1 : m ≤ g) (h2 : g < 65536) (hm : 0 ≤ m) (hz : ∀ k, m ≤ k → k < g → tm k a = 0 ∧ tm k b = 0) :
    Mde op a b (g + 1) (pt J g (op (tm g a) (tm g b))) := by
  have hpos := hp _ _ (tm_pos (g := g) ha) (tm_pos (g := g) hb)
  have hl : blw g J := blw_mono h.lj h1
  have htm : ∀ k, k < g → tm k J = op (tm k a) (tm k b) := fun k hk => by
    by_cases hkm : k < m
    · exact h.tj k hkm
    · obtain ⟨z1, z2⟩ := hz k (by omega) hk
      rw [z1, z2, h0]; exact blw_tm h.lj (by omega)
  unfold pt
  by_cases e : op (tm g a) (tm g b) = 0
  · rw [if_pos e]
    refine ⟨h.gj, blw_mono hl (by omega), fun k hk => ?_⟩
    by_cases e2 : k = g
    · rw [e2, e]; exact blw_tm hl (Int.le_refl _)
    · exact htm k (by omega)
  · rw [if_neg e]
    have g1 : gd g [⟨g, op (tm g a) (tm g b)⟩] = true := gd_one (Int.le_refl _) h2 (by omega)
    refine ⟨gd_app h.gj hl g1 (by omega), blw_app (blw_mono hl (by omega)) (fun x hx => by simp at hx; rw [hx]; show g < g + 1; omega), fun k hk => ?_⟩
    rw [tm_app hl g1]
    by_cases e2 : k < g
    · rw [if_pos e2]; exact htm k e2
    · have e3 : k = g := by omega
      rw [if_neg e2, e3, tm, if_pos rfl]
theorem Mde.done {op : Int → Int → Int} (h0 : op 0 0 = 0) {a b : List Tk} {m : Int} {J : List Tk} (h : Mde op a b m J) (r : Rst a b m [] []) : gd 0 J = true ∧ ∀ g, tm g J = op (tm g a) (tm g b) := by
  refine ⟨h.gj, fun g => ?_⟩
  by_cases hg : g < m
  · exact h.tj g hg
  · obtain ⟨z1, z2⟩ := r.done g (by omega)
    rw [z1, z2, h0]; exact blw_tm h.lj (by omega)
/-- How many steps are left at most. -/
def lft (ra rb : List Tk) : Nat := ra.length + rb.length
theorem tk2_len (g : Int) (c : List Tk) : (tk2 g c).length ≤ c.length := by
  cases c with
  | nil => exact Nat.le_refl _
  | cons x c => rw [tk2]; split <;> simp
theorem nx_less {ra rb : List Tk} (h1 : lo ra ≤ 65536) (h2 : lo rb ≤ 65536) (h3 : ra ≠ [] → lo ra < 65536) (h4 : rb ≠ [] → lo rb < 65536) (hn : ra ≠ [] ∨ rb ≠ []) : lft (tk2 (nx ra rb) ra) (tk2 (nx ra rb) rb) < lft ra rb := by
  have la := tk2_len (nx ra rb) ra
  have lb := tk2_len (nx ra rb) rb
  unfold lft
  by_cases e : lo ra ≤ lo rb
  · have e1 : nx ra rb = lo ra := by unfold nx; omega
    cases ra with
    | nil =>
      have e9 : lo ([] : List Tk) = 65536 := rfl
      have : rb ≠ [] := by simpa using hn
      have := h4 this
      omega
    | cons x c =>
      have : (tk2 (nx (x :: c) rb) (x :: c)).length = c.length := by rw [tk2, if_pos (by rw [e1]; rfl)]
      rw [this]
      simp only [List.length_cons]
      omega
  · have e1 : nx ra rb = lo rb := by unfold nx; omega
    cases rb with
    | nil =>
      have e9 : lo ([] : List Tk) = 65536 := rfl
      omega
    | cons x c =>
      have : (tk2 (nx ra (x :: c)) (x :: c)).length = c.length := by rw [tk2, if_pos (by rw [e1]; rfl)]
      rw [this]
      simp only [List.length_cons]
      omega
/-! ### a time set -/
/-- Those below g, g, those above. -/
def stt (c : List Tk) (g t : Int) : List Tk := c.filter (fun x => decide (x.g < g)) ++ ((if t = 0 then [] else [⟨g, t⟩]) ++ c.filter (fun x => decide (g < x.g)))
theorem gd_filter {m : Int} {c : List Tk} (h : gd m c = true) (p : Tk → Bool) : gd m (c.filter p) = true := by
  induction c generalizing m with
  | nil => rfl
  | cons x c ih =>
    obtain ⟨h1, h2, h3, h4⟩ := gd_cons.1 h
    rw [List.filter_cons]
    split
    · exact gd_cons.2 ⟨h1, h2, h3, ih h4⟩
    · exact gd_mono (ih h4) (by omega)
theorem gd_above {m k : Int} {c : List Tk} (h : gd m c = true) (hk : ∀ x ∈ c, k ≤ x.g) : gd k c = true := by
  cases c with
  | nil => rfl
  | cons x c => obtain ⟨_, h2⟩ := gd_cons.1 h; exact gd_cons.2 ⟨hk x (by simp), h2⟩
theorem tm_filter {k : Int} {c : List Tk} (p : Int → Bool) : tm k (c.filter (fun x => p x.g)) = if p k then tm k c else 0 := by
  induction c with
  | nil => simp [tm]
  | cons x c ih =>
    rw [List.filter_cons]
    by_cases hp : p x.g = true
    · rw [if_pos hp, tm, tm, ih]
      by_cases e : x.g = k
      · rw [if_pos e, if_pos e, ← e, if_pos hp]
      · rw [if_neg e, if_neg e]
    · rw [if_neg hp, ih, tm]
      by_cases e : x.g = k
      · rw [← e, if_neg hp, if_neg hp]
      · rw [if_neg e]
theorem stt_spec {c : List Tk} {g t : Int} (h : gd 0 c = true) (h1 : 0 ≤ g) (h2 : g < 65536) (h3 : 0 ≤ t) : gd 0 (stt c g t) = true ∧ ∀ k, tm k (stt c g t) = if k = g then t else tm k c := by
  have a1 := gd_filter h (fun x => decide (x.g < g))
  have a2 : blw g (c.filter (fun x => decide (x.g < g))) := fun x hx => by have := (List.mem_filter.1 hx).2; simpa using this
  have b1 : gd (g + 1) (c.filter (fun x => decide (g < x.g))) = true := gd_above (gd_filter h _) (fun x hx => by have := (List.mem_filter.1 hx).2; simp at this; omega)
  have ta := fun k => tm_filter (k := k) (c := c) (fun z => decide (z < g))
  have tb := fun k => tm_filter (k := k) (c := c) (fun z => decide (g < z))
  unfold stt
  by_cases e : t = 0
  · rw [if_pos e, List.nil_append]
    refine ⟨gd_app a1 (blw_mono a2 (by omega : g ≤ g + 1)) b1 (by omega), fun k => ?_⟩
    rw [tm_app a2 (gd_mono b1 (by omega)), ta, tb]
    by_cases e1 : k = g
    · subst e1; simp [e]
    · rw [if_neg e1]
      by_cases e2 : k < g
      · simp [e2]
      · have : g < k := by omega
        simp [e2, this]
  · rw [if_neg e, List.singleton_append]
    have b2 : gd g (⟨g, t⟩ :: c.filter (fun x => decide (g < x.g))) = true := gd_cons.2 ⟨Int.le_refl _, h2, by show 1 ≤ t; omega, b1⟩
    refine ⟨gd_app a1 a2 b2 (by omega), fun k => ?_⟩
    rw [tm_app a2 b2, ta, tm, tb]
    by_cases e1 : k = g
    · subst e1; simp
    · rw [if_neg e1]
      by_cases e2 : k < g
      · simp [e2]
      · have h9 : g < k := by omega
        have h8 : ¬ g = k := by omega
        simp [e2, h9, h8]
/-- The same by the place where g is, or would be. -/
theorem stt_at {c : List Tk} {g t : Int} {j : Nat} (hl : ∀ e ∈ c.take j, e.g < g) (hh : ∀ e ∈ c.drop j, g < e.g) : stt c g t = c.take j ++ ((if t = 0 then [] else [⟨g, t⟩]) ++ c.drop j) := by
  unfold stt
  have e := List.take_append_drop j c
  have f1 : c.filter (fun x => decide (x.g < g)) = c.take j := by
    rw [← e, List.filter_append, List.filter_eq_self.2 (fun x hx => by simpa using hl x (by simpa using hx)), List.filter_eq_nil_iff.2 (fun x hx => by have := hh x (by simpa using hx); simp; omega)]
    simp
  have f2 : c.filter (fun x => decide (g < x.g)) = c.drop j := by
    conv => lhs; rw [← e, List.filter_append, List.filter_eq_nil_iff.2 (fun x hx => by have := hl x hx; simp; omega), List.filter_eq_self.2 (fun x hx => by simpa using hh x hx)]
    simp
  rw [f1, f2]
theorem stt_at1 {c : List Tk} {g t : Int} {j : Nat} {x : Tk} (hx : c[j]? = some x) (hxg : x.g = g) (hl : ∀ e ∈ c.take j, e.g < g) (hh : ∀ e ∈ c.drop (j + 1), g < e.g) : stt c g t = c.take j ++ ((if t = 0 then [] else [⟨g, t⟩]) ++ c.drop (j + 1)) := by
  have hj : j < c.length := by
    rcases Nat.lt_or_ge j c.length with g | g
    · exact g
    · rw [List.getElem?_eq_none g] at hx; cases hx
  have e : c = c.take j ++ (x :: c.drop (j + 1)) := by
    have := List.take_append_drop j c
    rw [List.drop_eq_getElem_cons hj] at this
    rw [List.getElem?_eq_getElem hj] at hx
    cases hx
    exact this.symm
  unfold stt
  have f1 : c.filter (fun y => decide (y.g < g)) = c.take j := by
    conv => lhs; rw [e, List.filter_append, List.filter_eq_self.2 (fun y hy => by simpa using hl y hy), List.filter_cons, if_neg (by simp; omega), List.filter_eq_nil_iff.2 (fun y hy => by have := hh y hy; simp; omega)]
    simp
  have f2 : c.filter (fun y => decide (g < y.g)) = c.drop (j + 1) := by
    conv => lhs; rw [e, List.filter_append, List.filter_eq_nil_iff.2 (fun y hy => by have := hl y hy; simp; omega), List.filter_cons, if_neg (by simp; omega), List.filter_eq_self.2 (fun y hy => by simpa using hh y hy)]
    simp
  rw [f1, f2]
end Go.Proofs.Ytajkenbcndmjpab
