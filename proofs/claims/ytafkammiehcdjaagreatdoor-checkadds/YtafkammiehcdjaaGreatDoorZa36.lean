import Derived.Test.YtafkammiehcdjaaGreatDoorZa25
import Derived.Test.YtafkammiehcdjaaGreatDoorZa34
import Derived.Test.YtafkammiehcdjaaGreatDoorZa35
import Derived.Test.YtafkammiehcdjaaGreatDoorZa08
/-
  Names are free: goroutines, locks, channels, wait groups and onces by other numbers.
-/
namespace Go.Proofs.YtafkammiehcdjaaGreatDoor
set_option linter.unusedVariables false
structure Rn where
  tg : Int → Int
  lk : Int → Int
  ch : Int → Int
  wg : Int → Int
  on : Int → Int
def Rn.ob (R : Rn) (k o : Int) : Int := if 3 ≤ k ∧ k ≤ 6 then R.lk o else if 9 ≤ k ∧ k ≤ 13 then R.ch o else if k = 14 ∨ k = 15 then R.wg o else if k = 16 then R.on o else o
def Rn.me (R : Rn) (e : Me) : Me := ⟨R.tg e.g, e.k, R.ob e.k e.o, if e.k = 7 ∨ e.k = 8 then R.tg e.a else e.a⟩
def IsG (x : Int) : Prop := 0 ≤ x ∧ x ≤ 65535
def IsU (x : Int) : Prop := 0 ≤ x ∧ x ≤ 18446744073709551615
structure Rn.Ok (R : Rn) : Prop where
  tg : ∀ x y, IsG x → IsG y → (R.tg x = R.tg y ↔ x = y)
  z : R.tg 0 = 0
  lk : ∀ x y, IsU x → IsU y → (R.lk x = R.lk y ↔ x = y)
  ch : ∀ x y, IsU x → IsU y → (R.ch x = R.ch y ↔ x = y)
  wg : ∀ x y, IsU x → IsU y → (R.wg x = R.wg y ↔ x = y)
  on : ∀ x y, IsU x → IsU y → (R.on x = R.on y ↔ x = y)
structure Gdn (e : Me) : Prop where
  g : IsG e.g
  o : IsU e.o
  a : e.k = 7 ∨ e.k = 8 → IsG e.a
section
variable {R : Rn} {T : List Me} {e : Me} {k o a x g : Int}
theorem Rn.Ok.ob (h : R.Ok) (k : Int) {x y : Int} (hx : IsU x) (hy : IsU y) : R.ob k x = R.ob k y ↔ x = y := by
  unfold Rn.ob
  split
  · exact h.lk x y hx hy
  · split
    · exact h.ch x y hx hy
    · split
      · exact h.wg x y hx hy
      · split
        · exact h.on x y hx hy
        · exact Iff.rfl
theorem cnt_map (p q : Me → Bool) (h : ∀ e ∈ T, p (R.me e) = q e) : (T.map R.me).countP p = T.countP q := by
  rw [List.countP_map]
  exact List.countP_congr fun e he => by rw [Function.comp, h e he]
theorem any_map (p q : Me → Bool) (h : ∀ e ∈ T, p (R.me e) = q e) : (T.map R.me).any p = T.any q := by
  induction T with
  | nil => rfl
  | cons x T ih => rw [List.map_cons, List.any_cons, List.any_cons, h x (List.mem_cons_self ..), ih fun e he => h e (List.mem_cons_of_mem _ he)]
theorem dec_iff {p q : Prop} [Decidable p] [Decidable q] (h : p ↔ q) : decide p = decide q := by
  by_cases hp : p
  · rw [decide_eq_true hp, decide_eq_true (h.1 hp)]
  · rw [decide_eq_false hp, decide_eq_false fun z => hp (h.2 z)]
theorem ite_iff {p q : Prop} [Decidable p] [Decidable q] {α : Type} {x y : α} (h : p ↔ q) : (if p then x else y) = if q then x else y := by
  by_cases hp : p
  · rw [if_pos hp, if_pos (h.1 hp)]
  · rw [if_neg hp, if_neg fun z => hp (h.2 z)]
theorem Rn.me_k : (R.me e).k = e.k := rfl
theorem Rn.me_g : (R.me e).g = R.tg e.g := rfl
theorem Rn.me_o : (R.me e).o = R.ob e.k e.o := rfl
theorem me_a7 (h : e.k = 7 ∨ e.k = 8) : (R.me e).a = R.tg e.a := if_pos h
theorem me_an (h : ¬ (e.k = 7 ∨ e.k = 8)) : (R.me e).a = e.a := if_neg h
theorem nmd_map (h : R.Ok) (hT : ∀ e ∈ T, Gdn e) (hk : k = 7 ∨ k = 8) (hx : IsG x) : nmd (T.map R.me) k (R.tg x) = nmd T k x := by
  refine any_map _ _ fun e he => dec_iff ?_
  rw [Rn.me_k]
  refine and_congr_right fun h1 => ?_
  rw [me_a7 (by omega)]
  exact h.tg _ _ ((hT e he).a (by omega)) hx
theorem cnA_map (h : R.Ok) (hT : ∀ e ∈ T, Gdn e) (ho : IsU o) : cnA (T.map R.me) k (R.ob k o) = cnA T k o := by
  refine cnt_map _ _ fun e he => dec_iff ?_
  rw [Rn.me_k, Rn.me_o]
  refine and_congr_right fun h1 => ?_
  rw [h1]
  exact h.ob k (hT e he).o ho
theorem cnT_map (h : R.Ok) (hT : ∀ e ∈ T, Gdn e) (ho : IsU o) (hk : ¬ (k = 7 ∨ k = 8)) : cnT (T.map R.me) k (R.ob k o) a = cnT T k o a := by
  refine cnt_map _ _ fun e he => dec_iff ?_
  rw [Rn.me_k, Rn.me_o]
  refine and_congr_right fun h1 => ?_
  rw [me_an (by omega), h1, h.ob k (hT e he).o ho]
theorem cnG_map (h : R.Ok) (hT : ∀ e ∈ T, Gdn e) (ho : IsU o) (hg : IsG g) : cnG (T.map R.me) (R.tg g) k (R.ob k o) = cnG T g k o := by
  refine cnt_map _ _ fun e he => dec_iff ?_
  rw [Rn.me_k, Rn.me_o, Rn.me_g, h.tg _ _ (hT e he).g hg]
  refine and_congr_right fun _ => and_congr_right fun h1 => ?_
  rw [h1]
  exact h.ob k (hT e he).o ho
theorem ob_lk (h : 3 ≤ k ∧ k ≤ 6) : R.ob k o = R.ob 3 o := by unfold Rn.ob; rw [if_pos h, if_pos (by decide)]
theorem ob_ch (h : 9 ≤ k ∧ k ≤ 13) : R.ob k o = R.ob 9 o := by unfold Rn.ob; rw [if_neg (by omega), if_pos h, if_neg (by decide), if_pos (by decide)]
theorem ob_wg (h : k = 14 ∨ k = 15) : R.ob k o = R.ob 14 o := by unfold Rn.ob; rw [if_neg (by omega), if_neg (by omega), if_pos h, if_neg (by decide), if_neg (by decide), if_pos (by decide)]
theorem ob_id (h : k = 20 ∨ k = 21) : R.ob k o = o := by unfold Rn.ob; rw [if_neg (by omega), if_neg (by omega), if_neg (by omega), if_neg (by omega)]
theorem cnZ_map (h : R.Ok) (hT : ∀ e ∈ T, Gdn e) (ho : IsU o) : cnZ (T.map R.me) (R.ob 14 o) = cnZ T o := by
  induction T with
  | nil => rfl
  | cons x T ih =>
    rw [List.map_cons, cnZ, cnZ, ih fun e he => hT e (List.mem_cons_of_mem _ he), Rn.me_k, Rn.me_o]
    by_cases hk : x.k = 14
    · rw [me_an (by omega), hk]
      have h1 := h.ob 14 (hT x (List.mem_cons_self ..)).o ho
      by_cases h2 : x.o = o
      · rw [if_pos ⟨rfl, h1.2 h2⟩, if_pos ⟨rfl, h2⟩]
      · rw [if_neg fun q => h2 (h1.1 q.2), if_neg fun q => h2 q.2]
    · rw [if_neg fun q => hk q.1, if_neg fun q => hk q.1]
theorem roomT_map (h : R.Ok) (hT : ∀ e ∈ T, Gdn e) (ho : IsU o) : roomT (T.map R.me) (R.ob 9 o) = roomT T o := by
  induction T with
  | nil => rfl
  | cons x T ih =>
    rw [List.map_cons, roomT, roomT, ih fun e he => hT e (List.mem_cons_of_mem _ he), Rn.me_k, Rn.me_o]
    by_cases hk : x.k = 9
    · rw [me_an (by omega), hk]
      have h1 := h.ob 9 (hT x (List.mem_cons_self ..)).o ho
      by_cases h2 : x.o = o
      · rw [if_pos ⟨rfl, h1.2 h2⟩, if_pos ⟨rfl, h2⟩]
      · rw [if_neg fun q => h2 (h1.1 q.2), if_neg fun q => h2 q.2]
    · rw [if_neg fun q => hk q.1, if_neg fun q => hk q.1]
theorem dueR_map (h : R.Ok) : ∀ (L : List Me), (∀ e ∈ L, Gdn e) → IsG g → dueR (L.map R.me) (R.tg g) = (dueR L g).map fun p => (R.ob 9 p.1, p.2) := by
  intro L
  induction L with
  | nil => intro _ _; rfl
  | cons x L ih =>
    intro hT hg
    have hx := hT x (List.mem_cons_self ..)
    have hT' : ∀ e ∈ L, Gdn e := fun e he => hT e (List.mem_cons_of_mem _ he)
    have hT2 : ∀ e ∈ L.reverse, Gdn e := fun e he => hT' e (List.mem_reverse.1 he)
    rw [List.map_cons, dueR, dueR, Rn.me_g, Rn.me_k, Rn.me_o]
    by_cases h1 : x.g = g
    · rw [if_pos (by rw [h1]), if_pos h1]
      by_cases h2 : x.k = 10
      · have e1 : roomT (L.map R.me).reverse (R.ob x.k x.o) = roomT L.reverse x.o := by
          rw [← List.map_reverse, ob_ch (by omega), roomT_map h hT2 hx.o]
        have e2 : cnA (L.map R.me).reverse 10 (R.ob x.k x.o) = cnA L.reverse 10 x.o := by
          rw [← List.map_reverse, h2, cnA_map h hT2 hx.o]
        rw [e1, e2]
        split
        · rw [ob_ch (by omega)]; rfl
        · rfl
      · rw [if_neg fun q => h2 q.1, if_neg fun q => h2 q.1]; rfl
    · rw [if_neg fun q => h1 ((h.tg _ _ hx.g hg).1 q), if_neg h1]
      exact ih hT' hg
theorem dueT_map (h : R.Ok) (hT : ∀ e ∈ T, Gdn e) (hg : IsG g) : dueT (T.map R.me) (R.tg g) = (dueT T g).map fun p => (R.ob 9 p.1, p.2) := by
  unfold dueT
  rw [← List.map_reverse]
  exact dueR_map h _ (fun e he => hT e (List.mem_reverse.1 he)) hg
theorem dueR_u : ∀ (L : List Me), (∀ e ∈ L, Gdn e) → ∀ p, dueR L g = some p → IsU p.1 := by
  intro L
  induction L with
  | nil => intro _ p h; cases h
  | cons x L ih =>
    intro hT p h
    rw [dueR] at h
    split at h
    · split at h
      · cases h; exact (hT x (List.mem_cons_self ..)).o
      · cases h
    · exact ih (fun e he => hT e (List.mem_cons_of_mem _ he)) p h
theorem wrs_map (h : R.Ok) (hT : ∀ e ∈ T, Gdn e) (ho : IsU o) (hg : IsG g) : wrs (T.map R.me) (R.tg g) (R.ob 3 o) = wrs T g o := by
  unfold wrs
  have e1 : R.ob 3 o = R.ob 4 o := (ob_lk (by decide)).symm
  rw [cnG_map h hT ho hg, e1, cnG_map h hT ho hg]
theorem rds_map (h : R.Ok) (hT : ∀ e ∈ T, Gdn e) (ho : IsU o) (hg : IsG g) : rds (T.map R.me) (R.tg g) (R.ob 3 o) = rds T g o := by
  unfold rds
  have e1 : R.ob 3 o = R.ob 5 o := (ob_lk (by decide)).symm
  have e2 : R.ob 5 o = R.ob 6 o := by rw [ob_lk (by decide), ob_lk (k := 6) (by decide)]
  rw [e1, cnG_map h hT ho hg, e2, cnG_map h hT ho hg]
theorem anyWr_map (h : R.Ok) (hT : ∀ e ∈ T, Gdn e) (ho : IsU o) : anyWr (T.map R.me) (R.ob 3 o) = anyWr T o := by
  refine any_map _ _ fun e he => ?_
  rw [Rn.me_g, wrs_map h hT ho (hT e he).g, Rn.me_k, Rn.me_o]
  congr 1
  refine dec_iff (and_congr_right fun h1 => ?_)
  rw [h1, h.ob 3 (hT e he).o ho]
theorem anyRd_map (h : R.Ok) (hT : ∀ e ∈ T, Gdn e) (ho : IsU o) : anyRd (T.map R.me) (R.ob 3 o) = anyRd T o := by
  refine any_map _ _ fun e he => ?_
  rw [Rn.me_g, rds_map h hT ho (hT e he).g, Rn.me_k, Rn.me_o]
  congr 1
  refine dec_iff (and_congr_right fun h1 => ?_)
  rw [h1, ob_lk (by decide), h.ob 3 (hT e he).o ho]
theorem lvAny_map (p : Int → Int → Bool) : lvAny p (T.map R.me) = lvAny p T := by
  induction T with
  | nil => rfl
  | cons x T ih =>
    rw [List.map_cons, lvAny, lvAny, ih]
    by_cases h20 : x.k = 20
    · have e1 : (R.me x).o = x.o := by rw [Rn.me_o]; exact ob_id (.inl h20)
      have e2 : (R.me x).a = x.a := me_an (by omega)
      have e3 : ((T.map R.me).any fun y => decide (y.k = 21 ∧ y.o = (R.me x).o ∧ y.a = (R.me x).a)) = T.any fun y => decide (y.k = 21 ∧ y.o = x.o ∧ y.a = x.a) := by
        refine any_map _ _ fun e _ => dec_iff ?_
        rw [Rn.me_k, e1, e2]
        refine and_congr_right fun h1 => ?_
        rw [me_an (by omega), Rn.me_o, ob_id (.inr h1)]
      rw [e3, e1, e2, Rn.me_k]
    · have e1 : decide ((R.me x).k = 20) = false := decide_eq_false h20
      have e2 : decide (x.k = 20) = false := decide_eq_false h20
      rw [e1, e2]
      simp
theorem bgT_map (h : R.Ok) (hT : ∀ e ∈ T, Gdn e) (hg : IsG g) : bgT (T.map R.me) (R.tg g) = bgT T g := by
  unfold bgT
  rw [nmd_map h hT (.inl rfl) hg]
  congr 1
  refine dec_iff ?_
  have := h.tg g 0 hg ⟨by decide, by decide⟩
  rw [h.z] at this
  exact this
theorem ofLk_map (h : R.Ok) (hT : ∀ e ∈ T, Gdn e) (he : Gdn e) (hk : 3 ≤ e.k ∧ e.k ≤ 6) : ofLk (T.map R.me) (R.me e) = ofLk T e := by
  unfold ofLk
  rw [Rn.me_k, Rn.me_g, Rn.me_o, ob_lk hk, anyWr_map h hT he.o, anyRd_map h hT he.o, wrs_map h hT he.o he.g, rds_map h hT he.o he.g]
theorem ofGr_map (h : R.Ok) (hT : ∀ e ∈ T, Gdn e) (he : Gdn e) (hk : e.k = 7 ∨ e.k = 8) : ofGr (T.map R.me) (R.me e) = ofGr T e := by
  unfold ofGr
  rw [Rn.me_k, Rn.me_g, me_a7 hk, bgT_map h hT (he.a hk), nmd_map h hT (.inr rfl) (he.a hk), dueT_map h hT (he.a hk), Option.isSome_map, ite_iff (h.tg _ _ (he.a hk) he.g)]
theorem ofCh_map (h : R.Ok) (hT : ∀ e ∈ T, Gdn e) (he : Gdn e) (hk : 9 ≤ e.k ∧ e.k ≤ 13) : ofCh (T.map R.me) (R.me e) = ofCh T e := by
  unfold ofCh
  have ea : (R.me e).a = e.a := me_an (by omega)
  have e1 : cnA (T.map R.me) 13 (R.ob 9 e.o) = cnA T 13 e.o := by rw [← ob_ch (k := 13) (by decide), cnA_map h hT he.o]
  have e2 : cnA (T.map R.me) 10 (R.ob 9 e.o) = cnA T 10 e.o := by rw [← ob_ch (k := 10) (by decide), cnA_map h hT he.o]
  have e3 : cnT (T.map R.me) 12 (R.ob 9 e.o) 1 = cnT T 12 e.o 1 := by rw [← ob_ch (k := 12) (by decide), cnT_map h hT he.o (by decide)]
  rw [Rn.me_k, Rn.me_g, Rn.me_o, ob_ch hk, roomT_map h hT he.o, ea, e1, e2, e3, dueT_map h hT he.g]
  cases dueT T e.g <;> rfl
theorem ofOt_map (h : R.Ok) (hT : ∀ e ∈ T, Gdn e) (he : Gdn e) (hk : ¬ (3 ≤ e.k ∧ e.k ≤ 13)) : ofOt (T.map R.me) (R.me e) = ofOt T e := by
  unfold ofOt
  have ea : (R.me e).a = e.a := me_an (by omega)
  rw [Rn.me_k, ea]
  by_cases h14 : e.k = 14
  · rw [if_pos h14, if_pos h14, Rn.me_o, ob_wg (.inl h14), cnZ_map h hT he.o]
  rw [if_neg h14, if_neg h14]
  by_cases h15 : e.k = 15
  · rw [if_pos h15, if_pos h15, Rn.me_o, ob_wg (.inr h15), cnZ_map h hT he.o]
  rw [if_neg h15, if_neg h15]
  by_cases h16 : e.k = 16
  · rw [if_pos h16, if_pos h16, Rn.me_o, h16, cnT_map h hT he.o (by decide)]
  rw [if_neg h16, if_neg h16]
  by_cases h20 : e.k = 20
  · rw [if_pos h20, if_pos h20, lvAny_map]
    have e1 : (R.me e).o = e.o := by rw [Rn.me_o]; exact ob_id (.inl h20)
    have e2 : ovl (R.me e) = ovl e := by unfold ovl; rw [e1, ea]
    rw [e2]
  rw [if_neg h20, if_neg h20]
  by_cases h21 : e.k = 21
  · rw [if_pos h21, if_pos h21, lvAny_map]
    have e1 : (R.me e).o = e.o := by rw [Rn.me_o]; exact ob_id (.inr h21)
    rw [e1]
  rw [if_neg h21, if_neg h21]
theorem rest_map (h : R.Ok) (hT : ∀ e ∈ T, Gdn e) (he : Gdn e) : (if 3 ≤ e.k ∧ e.k ≤ 6 then ofLk (T.map R.me) (R.me e) else if e.k = 7 ∨ e.k = 8 then ofGr (T.map R.me) (R.me e) else if 9 ≤ e.k ∧ e.k ≤ 13 then ofCh (T.map R.me) (R.me e) else ofOt (T.map R.me) (R.me e)) = (if 3 ≤ e.k ∧ e.k ≤ 6 then ofLk T e else if e.k = 7 ∨ e.k = 8 then ofGr T e else if 9 ≤ e.k ∧ e.k ≤ 13 then ofCh T e else ofOt T e) := by
  by_cases h1 : 3 ≤ e.k ∧ e.k ≤ 6
  · rw [if_pos h1, if_pos h1, ofLk_map h hT he h1]
  rw [if_neg h1, if_neg h1]
  by_cases h2 : e.k = 7 ∨ e.k = 8
  · rw [if_pos h2, if_pos h2, ofGr_map h hT he h2]
  rw [if_neg h2, if_neg h2]
  by_cases h4 : 9 ≤ e.k ∧ e.k ≤ 13
  · rw [if_pos h4, if_pos h4, ofCh_map h hT he h4]
  rw [if_neg h4, if_neg h4, ofOt_map h hT he (by omega)]
theorem rsn_map (h : R.Ok) (hT : ∀ e ∈ T, Gdn e) (he : Gdn e) : rsn (T.map R.me) (R.me e) = rsn T e := by
  unfold rsn
  rw [Rn.me_g, Rn.me_k, bgT_map h hT he.g, nmd_map h hT (.inr rfl) he.g, dueT_map h hT he.g, rest_map h hT he]
  cases hd : dueT T e.g with
  | none => rfl
  | some d =>
    have hu : IsU d.1 := dueR_u T.reverse (fun e he => hT e (List.mem_reverse.1 he)) d hd
    have e3 : decide (e.k ≠ 11 ∨ (R.me e).o ≠ R.ob 9 d.1) = decide (e.k ≠ 11 ∨ e.o ≠ d.1) := by
      refine dec_iff ?_
      rw [Rn.me_o]
      by_cases h11 : e.k = 11
      · rw [ob_ch (by omega)]
        exact or_congr_right (not_congr (h.ob 9 he.o hu))
      · exact ⟨fun _ => .inl h11, fun _ => .inl h11⟩
    simp only [Option.map_some, e3]
theorem fr_map (h : R.Ok) : ∀ (es T : List Me) (i : Nat), (∀ e ∈ T, Gdn e) → (∀ e ∈ es, Gdn e) → fr (T.map R.me) (es.map R.me) i = fr T es i := by
  intro es
  induction es with
  | nil => intro T i _ _; rfl
  | cons e es ih =>
    intro T i hT hes
    have he := hes e (List.mem_cons_self ..)
    rw [List.map_cons, fr, fr, rsn_map h hT he]
    have e1 : T.map R.me ++ [R.me e] = (T ++ [e]).map R.me := by rw [List.map_append]; rfl
    rw [e1, ih (T ++ [e]) (i + 1) (fun x hx => by
      rcases List.mem_append.1 hx with hx | hx
      · exact hT x hx
      · cases List.mem_singleton.1 hx; exact he) fun x hx => hes x (List.mem_cons_of_mem _ hx)]
end
/-! ### a run without its marks, accesses and atomics -/
def syncK (k : Int) : Bool := decide (k ≠ 1 ∧ k ≠ 2 ∧ k ≠ 22 ∧ (k < 17 ∨ 19 < k))
def Sim (M M' : CS) : Prop := M' = { M with taken := M'.taken }
theorem Sim.why {M M' : CS} (h : Sim M M') (e : Me) : M'.why e = M.why e := by
  rw [h]; rfl
theorem doo_tk (M : CS) (t : Nat) (e : Me) (r : Gor) : CS.doo { M with taken := t } e r = { M.doo e r with taken := t } := by
  unfold CS.doo
  by_cases h3 : e.k = 3
  · rw [if_pos h3, if_pos h3]
    all_goals rfl
  rw [if_neg h3, if_neg h3]
  by_cases h4 : e.k = 4
  · rw [if_pos h4, if_pos h4]
    all_goals rfl
  rw [if_neg h4, if_neg h4]
  by_cases h5 : e.k = 5
  · rw [if_pos h5, if_pos h5]
    all_goals rfl
  rw [if_neg h5, if_neg h5]
  by_cases h6 : e.k = 6
  · rw [if_pos h6, if_pos h6]
    all_goals rfl
  rw [if_neg h6, if_neg h6]
  by_cases h7 : e.k = 7
  · rw [if_pos h7, if_pos h7]
    all_goals rfl
  rw [if_neg h7, if_neg h7]
  by_cases h8 : e.k = 8
  · rw [if_pos h8, if_pos h8]
    all_goals rfl
  rw [if_neg h8, if_neg h8]
  by_cases h9 : e.k = 9
  · rw [if_pos h9, if_pos h9]
    all_goals rfl
  rw [if_neg h9, if_neg h9]
  by_cases h10 : e.k = 10
  · rw [if_pos h10, if_pos h10]
    dsimp only
    cases M.chans e.o <;> rfl
  rw [if_neg h10, if_neg h10]
  by_cases h11 : e.k = 11
  · rw [if_pos h11, if_pos h11]
    all_goals rfl
  rw [if_neg h11, if_neg h11]
  by_cases h12 : e.k = 12
  · rw [if_pos h12, if_pos h12]
    dsimp only
    cases M.chans e.o <;> rfl
  rw [if_neg h12, if_neg h12]
  by_cases h13 : e.k = 13
  · rw [if_pos h13, if_pos h13]
    dsimp only
    cases M.chans e.o <;> rfl
  rw [if_neg h13, if_neg h13]
  by_cases h14 : e.k = 14
  · rw [if_pos h14, if_pos h14]
    all_goals rfl
  rw [if_neg h14, if_neg h14]
  by_cases h16 : e.k = 16
  · rw [if_pos h16, if_pos h16]
    all_goals rfl
  rw [if_neg h16, if_neg h16]
  by_cases h20 : e.k = 20
  · rw [if_pos h20, if_pos h20]
    all_goals rfl
  rw [if_neg h20, if_neg h20]
  by_cases h21 : e.k = 21
  · rw [if_pos h21, if_pos h21]
    all_goals rfl
  rw [if_neg h21, if_neg h21]
theorem Sim.next {M M' : CS} (h : Sim M M') (e : Me) : Sim (M.next e) (M'.next e) := by
  obtain ⟨t, rfl⟩ : ∃ t, M' = { M with taken := t } := ⟨M'.taken, h⟩
  unfold Sim CS.next
  cases hg : M.gs e.g with
  | none => rfl
  | some r =>
    dsimp only
    rw [doo_tk]
    rfl
theorem sync_next {M M' : CS} (h : Sim M M') {e : Me} (hk : syncK e.k = false) (hr : 1 ≤ e.k ∧ e.k ≤ 22) (hw : M.why e = 0) : Sim (M.next e) M' := by
  have h9 : ¬ (e.k ≠ 1 ∧ e.k ≠ 2 ∧ e.k ≠ 22 ∧ (e.k < 17 ∨ 19 < e.k)) := of_decide_eq_false hk
  obtain ⟨r, hc⟩ := why_can hw
  rw [hc.nx]
  have : M.doo e r = M := by
    unfold CS.doo
    have q3 : ¬ e.k = 3 := by omega
    have q4 : ¬ e.k = 4 := by omega
    have q5 : ¬ e.k = 5 := by omega
    have q6 : ¬ e.k = 6 := by omega
    have q7 : ¬ e.k = 7 := by omega
    have q8 : ¬ e.k = 8 := by omega
    have q9 : ¬ e.k = 9 := by omega
    have q10 : ¬ e.k = 10 := by omega
    have q11 : ¬ e.k = 11 := by omega
    have q12 : ¬ e.k = 12 := by omega
    have q13 : ¬ e.k = 13 := by omega
    have q14 : ¬ e.k = 14 := by omega
    have q16 : ¬ e.k = 16 := by omega
    have q20 : ¬ e.k = 20 := by omega
    have q21 : ¬ e.k = 21 := by omega
    simp [q3, q4, q5, q6, q7, q8, q9, q10, q11, q12, q13, q14, q16, q20, q21]
  rw [this]
  exact h
theorem run_sync : ∀ (es : List E6.Ev) (M M' : CS) (i i' : Nat), Sim M M' → (∀ e ∈ es, 1 ≤ e.k ∧ e.k ≤ 22) → M.run es i = (-1, 0) → M'.run (es.filter fun e => syncK e.k) i' = (-1, 0) := by
  intro es
  induction es with
  | nil => intro M M' i i' _ _ _; rfl
  | cons e es ih =>
    intro M M' i i' hs hk h
    rw [CS.run] at h
    by_cases hw : M.why (me e) ≠ 0
    · rw [if_pos hw] at h
      have := congrArg Prod.snd h
      exact absurd this hw
    · rw [if_neg hw] at h
      have hw0 : M.why (me e) = 0 := by omega
      have hk' : ∀ e ∈ es, 1 ≤ e.k ∧ e.k ≤ 22 := fun x hx => hk x (List.mem_cons_of_mem _ hx)
      cases hq : syncK e.k with
      | true =>
        rw [List.filter_cons_of_pos (by simpa using hq), CS.run, if_neg (by rw [hs.why]; exact hw)]
        exact ih _ _ _ _ (hs.next _) hk' h
      | false =>
        rw [List.filter_cons_of_neg (by simp [hq])]
        exact ih _ _ _ _ (sync_next hs hq (hk e (List.mem_cons_self ..)) hw0) hk' h
end Go.Proofs.YtafkammiehcdjaaGreatDoor
/-
  The statement's own look at locks: excluded.
-/
namespace Go.Proofs.YtafkammiehcdjaaGreatDoor
open Go.RowKit Go.Maps
set_option linter.unusedVariables false
section
variable {T : List Me} {M : CS} {x g h : Int}
theorem look_key : ∀ {L : List Ent}, x ∈ L.map (·.1) → has x L = true := by
  intro L
  induction L with
  | nil => intro h; cases h
  | cons p L ih =>
    intro h
    unfold has
    rw [look]
    by_cases hp : p.1 = x
    · rw [if_pos hp]; rfl
    · rw [if_neg hp]
      rcases List.mem_cons.1 h with h1 | h1
      · exact absurd h1.symm hp
      · exact ih h1
theorem held_hv (hL : LkL T M) (hx : x ∈ heldK M g) : 1 ≤ hv M g x := by
  unfold heldK at hx
  cases hg : M.gs g with
  | none => rw [hg] at hx; cases hx
  | some r => rw [hg] at hx; exact hv_has hL hg (look_key hx)
theorem hv_rg (hL : LkL T M) (hx : 1 ≤ hv M g x) : 0 ≤ g ∧ g < 65536 := by
  by_cases hr : 0 ≤ g ∧ g < 65536
  · exact hr
  · have h1 := hL.rg g hr x
    have h2 := hL.eq g x
    omega
theorem excl (hL : LkL T M) (hx : x ∈ heldK M g) (hy : x ∈ heldK M h) (hw : M.toWrite x = true) (hne : ¬ h = g) : False := by
  have h1 := held_hv hL hx
  have h2 := held_hv hL hy
  have r1 := hv_rg hL h1
  have r2 := hv_rg hL h2
  have ht := (hL.wr x hw).1
  rw [hL.tm] at ht
  have := sumG_two (f := fun q => hv M q x) (n := 65536) (fun q => hL.nn q x) r1.1 r1.2 r2.1 r2.2 (fun q => hne q.symm)
  omega
theorem cnG_u (hU : ∀ e ∈ T, IsU e.o) {k o : Int} (h : 0 < cnG T g k o) : IsU o := by
  obtain ⟨y, hy, _, _, rfl⟩ := cnG_mem h
  exact hU y hy
theorem held_u (hL : LkL T M) (hU : ∀ e ∈ T, IsU e.o) {r : Gor} (hg : M.gs g = some r) : ∀ p ∈ r.held, 0 ≤ p.1 ∧ p.1 ≤ 18446744073709551615 := by
  intro p hp
  have h1 : 1 ≤ hv M g p.1 := hv_has hL hg (look_key (List.mem_map.2 ⟨p, hp, rfl⟩))
  have h2 := hL.eq g p.1
  unfold wT rT at h2
  by_cases h3 : 0 < cnG T g 3 p.1
  · exact cnG_u hU h3
  · exact cnG_u (g := g) (k := 5) (o := p.1) hU (by omega)
end
theorem trow_cell {α : Type} {y : Lay α} {w : World} {a : Option Addr} {n i : Nat} {L : List α} {x : α} (h : TRow y w a n L) (hx : L[i]? = some x) : ∃ b off, a = some ⟨b, off, none⟩ ∧ ∀ t u, (y.cs x)[t]? = some u → w.cell? ⟨b, off + i * y.z + t, none⟩ = some u := by
  have hl := (List.getElem?_eq_some_iff.1 hx).1
  obtain ⟨b, off, ha, _, hc⟩ := h.at (by rw [← h.len]; omega)
  exact ⟨b, off, ha, hc i x hx⟩
theorem icell {w : World} {a : Option Addr} {n i : Nat} {L : List Int} {x : Int} (h : TRow layI w a n L) (hx : L[i]? = some x) : ∃ b off, a = some ⟨b, off, none⟩ ∧ w.cell? ⟨b, off + i, none⟩ = some (.int .i64 x) := by
  obtain ⟨b, off, ha, hc⟩ := trow_cell h hx
  refine ⟨b, off, ha, ?_⟩
  have h1 : w.cell? ⟨b, off + i * 1 + 0, none⟩ = some (.int .i64 x) := hc 0 _ rfl
  rw [Nat.mul_one, Nat.add_zero] at h1
  exact h1
theorem ucell {w : World} {a : Option Addr} {n i : Nat} {L : List Int} {x : Int} (h : TRow layU w a n L) (hx : L[i]? = some x) : ∃ b off, a = some ⟨b, off, none⟩ ∧ w.cell? ⟨b, off + i, none⟩ = some (.int .u64 x) := by
  obtain ⟨b, off, ha, hc⟩ := trow_cell h hx
  refine ⟨b, off, ha, ?_⟩
  have h1 : w.cell? ⟨b, off + i * 1 + 0, none⟩ = some (.int .u64 x) := hc 0 _ rfl
  rw [Nat.mul_one, Nat.add_zero] at h1
  exact h1
theorem bcell {w : World} {a : Option Addr} {n i : Nat} {L : List Bool} {x : Bool} (h : TRow layBo w a n L) (hx : L[i]? = some x) : ∃ b off, a = some ⟨b, off, none⟩ ∧ w.cell? ⟨b, off + i, none⟩ = some (.bool x) := by
  obtain ⟨b, off, ha, hc⟩ := trow_cell h hx
  refine ⟨b, off, ha, ?_⟩
  have h1 : w.cell? ⟨b, off + i * 1 + 0, none⟩ = some (.bool x) := hc 0 _ rfl
  rw [Nat.mul_one, Nat.add_zero] at h1
  exact h1
/-- What Held answers, as slices. -/
theorem Hl.forms {w wr : World} {v1 v2 : Value} {K : List Int} {D : List Bool} (h : Hl w wr v1 v2 K D) (hd : D.length = K.length) : ∃ a1 c1 a2 c2, v1 = .slice a1 K.length c1 ∧ v2 = .slice a2 K.length c2 ∧ TRow layU wr a1 K.length K ∧ TRow layBo wr a2 K.length D := by
  obtain ⟨a1, c1, rfl, _, _⟩ := own_form h.ok
  obtain ⟨a2, c2, hv, _, _⟩ := own_form h.od
  rw [hd] at hv
  subst hv
  exact ⟨a1, c1, a2, c2, rfl, rfl, h.ok.row rfl, h.od.row hd⟩
set_option maxRecDepth 8000 in
set_option maxHeartbeats 8000000 in
theorem excluded_any {w : World} {cb : Nat} {B : Bl} {F : Nat → Option Lb} {M : CS} {N : Nat} {T : List Me} (hC : Ck w cb B F M N) (hi : M.inv) (hL : LkL T M) (hU : ∀ e ∈ T, IsU e.o) (ga : Option Addr) (m gc : Nat) (gs : List Int) (hg : TRow layI w ga m gs) (hr : ∀ g ∈ gs, 0 ≤ g ∧ g ≤ 65535) (hm : (m : Int) ≤ 2000000) (hfew : ∀ g, ((heldK M g).length : Int) ≤ 2000000) :
    Calls Tryz.prog 18 #[gPtr cb, .slice ga m gc] w fun e w' => e = .returned (.bool true) ∧ Below w.heap.size w w' := by
  have HH : Hid (∀ X g, Below w.heap.size w X → g ∈ gs → Calls Tryz.prog 40 #[.pointer (some ⟨cb, 0, none⟩), .int .i64 g] X fun e w' => ∃ a1 c1 a2 c2 n, e = .returned (.tuple #[.slice a1 n c1, .slice a2 n c2]) ∧ (heldK M g).length = n ∧ TRow layU w' a1 n (heldK M g) ∧ TRow layBo w' a2 n ((heldK M g).map M.toWrite) ∧ Below X.heap.size X w') := hide (fun X g hX hgm => by
    have hb := hr g hgm
    refine (Held_any (hC.below hX) hi g (by omega) (by omega) (fun r hgr => held_u hL hU hgr)).mono ?_
    rintro e w' ⟨v1, v2, rfl, hh⟩
    obtain ⟨a1, c1, a2, c2, rfl, rfl, t1, t2⟩ := hh.forms (List.length_map _)
    exact ⟨a1, c1, a2, c2, _, rfl, rfl, t1, t2, hh.bel⟩)
  have HG := hide hg
  have HL := hide hL
  have HFw := hide hfew
  have HLn := hide hg.len
  clear hC hi hL hU hg hr hfew
  unfold gPtr
  go_enter Tryz.func18, Tryz.ntmps18
  go_wp2
  go_loopw [5] (fun i wr => ∃ i' : Nat, i' ≤ m ∧ i = .int .i64 i' ∧ Hid (Below w.heap.size w wr)) (fun i _ => m - (intOf i).toNat)
  case atStart => exact ⟨0, Nat.zero_le _, rfl, hide (Below.refl _ _)⟩
  case round =>
    obtain ⟨i, him, rfl, HB1⟩ := hrel
    by_cases hlt : i < m
    · have hI : (i : Int) < m := by omega
      have hI0 : (0 : Int) ≤ i := by omega
      obtain ⟨x, hx⟩ : ∃ x, gs[i]? = some x := ⟨_, List.getElem?_eq_getElem (by rw [HLn.out]; exact hlt)⟩
      obtain ⟨gb, go, hga, c0⟩ := icell (HG.out.below HB1.out) hx
      subst hga
      have HC1 := hide (HH.out wr x HB1.out (List.mem_of_getElem? hx))
      have HX := hide hx
      clear hx
      go_wp2_with fail
      refine HC1.out.mono ?_
      rintro e w2 ⟨a1, c1, a2, c2, n1, rfl, hn1, t1, t2, hb2⟩
      have HB2 := hide (HB1.out.trans (hb2.mono HB1.out.size))
      have HT1 := hide t1
      have HT2 := hide t2
      have hn1I : (n1 : Int) ≤ 2000000 := by rw [← hn1]; exact HFw.out x
      have HN1 := hide hn1
      clear HC1 t1 t2 hb2 hn1 c0
      go_wp2
      go_loopw [8] (fun k wq => ∃ k' : Nat, k' ≤ m ∧ k = .int .i64 k' ∧ Hid (Below w2.heap.size w2 wq)) (fun k _ => m - (intOf k).toNat)
      case atStart => exact ⟨0, Nat.zero_le _, rfl, hide (Below.refl _ _)⟩
      case round =>
        obtain ⟨k, hkm, rfl, HB3⟩ := hrel
        have HB3w := hide (HB2.out.trans (HB3.out.mono HB2.out.size))
        by_cases hltk : k < m
        · have hK : (k : Int) < m := by omega
          have hK0 : (0 : Int) ≤ k := by omega
          obtain ⟨y, hy⟩ : ∃ y, gs[k]? = some y := ⟨_, List.getElem?_eq_getElem (by rw [HLn.out]; exact hltk)⟩
          obtain ⟨gb2, go2, hga2, d0⟩ := icell (HG.out.below HB3w.out) hy
          obtain ⟨gb3, go3, hga3, c0⟩ := icell (HG.out.below HB3w.out) HX.out
          cases hga2
          cases hga3
          have HY := hide hy
          clear hy
          by_cases hyx : y = x
          · have byx := beq_t hyx
            clear hyx
            go_wp2_with fail
            go_quiet (fail)
            go_wp2
            exact ⟨⟨k + 1, by omega, by go_num, hide (below_drewN HB3.out _)⟩, by simp [intOf]; omega⟩
          · have byx := beq_f hyx
            have HNe := hide hyx
            clear hyx
            go_wp2_with fail
            go_quiet (fail)
            have HBd : Hid (Below w2.heap.size w2 (wr.drewN nq)) := hide (below_drewN HB3.out _)
            have HBdw := hide (HB2.out.trans (HBd.out.mono HB2.out.size))
            have HC2 := hide (HH.out (wr.drewN nq) y HBdw.out (List.mem_of_getElem? HY.out))
            go_wp2_with fail
            refine HC2.out.mono ?_
            rintro e w4 ⟨a3, c3, a4, c4, n2, rfl, hn2, t3, t4, hb4⟩
            have HB4 : Hid (Below w2.heap.size w2 w4) := hide (HBd.out.trans (hb4.mono HBd.out.size))
            have HT3 := hide t3
            have hn2I : (n2 : Int) ≤ 2000000 := by rw [← hn2]; exact HFw.out y
            have HN2 := hide hn2
            clear HC2 t3 t4 hb4 hn2 c0 d0
            go_wp2
            go_loopw [11] (fun q wq => ∃ q' : Nat, q' ≤ n1 ∧ q = .int .i64 q' ∧ Hid (Below w4.heap.size w4 wq)) (fun q _ => n1 - (intOf q).toNat)
            case atStart => exact ⟨0, Nat.zero_le _, rfl, hide (Below.refl _ _)⟩
            case round =>
              obtain ⟨q, hqn, rfl, HB5⟩ := hrel
              by_cases hltq : q < n1
              · have hQ : (q : Int) < n1 := by omega
                go_wp2
                go_loopw [12] (fun p wq => ∃ p' : Nat, p' ≤ n2 ∧ p = .int .i64 p' ∧ Hid (Below w4.heap.size w4 wq)) (fun p _ => n2 - (intOf p).toNat)
                case atStart => exact ⟨0, Nat.zero_le _, rfl, HB5⟩
                case round =>
                  obtain ⟨p, hpn, rfl, HB6⟩ := hrel
                  by_cases hltp : p < n2
                  · have hP : (p : Int) < n2 := by omega
                    have hP0 : (0 : Int) ≤ p := by omega
                    have hQ0 : (0 : Int) ≤ q := by omega
                    obtain ⟨u, hu⟩ : ∃ u, (heldK M x)[q]? = some u := ⟨_, List.getElem?_eq_getElem (by rw [HN1.out]; exact hltq)⟩
                    obtain ⟨v, hv⟩ : ∃ v, (heldK M y)[p]? = some v := ⟨_, List.getElem?_eq_getElem (by rw [HN2.out]; exact hltp)⟩
                    have hbt : ((heldK M x).map M.toWrite)[q]? = some (M.toWrite u) := by rw [List.getElem?_map, hu]; rfl
                    have HB6w := hide (HB4.out.trans (HB6.out.mono HB4.out.size))
                    obtain ⟨b1, o1, hb1, e1⟩ := ucell (HT1.out.below HB6w.out) hu
                    obtain ⟨b2, o2, hb2, e2⟩ := bcell (HT2.out.below HB6w.out) hbt
                    obtain ⟨b3, o3, hb3, e3⟩ := ucell (HT3.out.below HB6.out) hv
                    have HEx : Hid (u = v → M.toWrite u = false) := hide (fun huv => by
                      cases hq9 : M.toWrite u with
                      | false => rfl
                      | true =>
                        refine (excl HL.out (List.mem_of_getElem? hu) (h := y) (g := x) ?_ hq9 HNe.out).elim
                        rw [huv]; exact List.mem_of_getElem? hv)
                    subst hb1
                    subst hb2
                    subst hb3
                    clear hu hv hbt
                    generalize M.toWrite u = tw at e2 HEx
                    by_cases huv : u = v
                    · have h9 := HEx.out huv
                      subst h9
                      have buv := beq_t huv
                      clear huv HEx
                      go_wp2_with fail
                      go_quiet (fail)
                      go_wp2
                      exact ⟨⟨p + 1, by omega, by go_num, hide (below_drewN HB6.out _)⟩, by simp [intOf]; omega⟩
                    · have buv := beq_f huv
                      clear huv HEx
                      go_wp2_with fail
                      go_quiet (fail)
                      go_wp2
                      exact ⟨⟨p + 1, by omega, by go_num, hide (below_drewN HB6.out _)⟩, by simp [intOf]; omega⟩
                  · have hP : ¬ (p : Int) < n2 := by omega
                    go_wp2
                    exact ⟨⟨q + 1, by omega, by go_num, HB6⟩, by simp [intOf]; omega⟩
              · have hQ : ¬ (q : Int) < n1 := by omega
                go_wp2
                exact ⟨⟨k + 1, by omega, by go_num, hide (HB4.out.trans (HB5.out.mono HB4.out.size))⟩, by simp [intOf]; omega⟩
        · have hK : ¬ (k : Int) < m := by omega
          go_wp2
          exact ⟨⟨i + 1, by omega, by go_num, HB3w⟩, by simp [intOf]; omega⟩
    · have hI : ¬ (i : Int) < m := by omega
      go_wp2
      go_ret
      exact ⟨rfl, HB1.out⟩
end Go.Proofs.YtafkammiehcdjaaGreatDoor
/-
  Alive.
-/
namespace Go.Proofs.YtafkammiehcdjaaGreatDoor
open Go.RowKit Go.Maps
set_option linter.unusedVariables false
/-- A list of integers of one's own. -/
structure II (w wr : World) (v : Value) (K : List Int) : Prop where
  own : Own layI 3 wr w.heap.size v K
  bel : Below w.heap.size w wr
section
variable {w wr w' : World} {v : Value} {K : List Int} {cb : Nat} {B : Bl} {F : Nat → Option Lb} {M : CS} {N : Nat}
theorem II.on (h : II w wr v K) (hb : Below wr.heap.size wr w') : II w w' v K := ⟨h.own.below hb, h.bel.trans (hb.mono h.bel.size)⟩
theorem II.push {v' : Value} {x : Int} (h : II w wr v K) (ho : Own layI 3 w' w.heap.size v' (K ++ [x])) (hg : wr.grownBy w' v.ownBlock) : II w w' v' (K ++ [x]) :=
  ⟨ho, h.bel.trans (((But.refl (fun k => w.heap.size ≤ k) _).grown hg (fun k _ e => (h.own.lt k e).1)).below h.bel.size (fun k e => e))⟩
theorem II.nil (w : World) : II w w (.slice none 0 0) [] := ⟨Own.nil _ _ _ _, Below.refl _ _⟩
def aliveK (M : CS) : List Int := M.alive.map (·.1)
theorem take_next {K : List Int} {j : Nat} {x : Int} (h : K[j]? = some x) : K.take (j + 1) = K.take j ++ [x] := by
  obtain ⟨hl, h9⟩ := List.getElem?_eq_some_iff.1 h
  rw [List.take_succ_eq_append_getElem hl, h9]
set_option maxRecDepth 8000 in
set_option maxHeartbeats 4000000 in
theorem Alive_any (h : Ck w cb B F M N) (hi : M.inv) (hu : ∀ x ∈ aliveK M, 0 ≤ x ∧ x ≤ 65535) :
    Calls Tryz.prog 47 #[gPtr cb] w fun e w' => ∃ v, e = .returned v ∧ II w w' v (aliveK M) := by
  obtain ⟨r0, hr0⟩ := hi.g0
  have HMi := hide (missing_any h hr0)
  unfold gPtr at HMi
  have t2 := h.c2
  have hlt := h.clt
  have hRi := h.al nf
  have HKy := hide (keys_any t2 hRi)
  obtain ⟨K, hK⟩ : ∃ K, aliveK M = K := ⟨_, rfl⟩
  have hK' : M.alive.map (·.1) = K := hK
  rw [hK'] at HKy
  rw [hK] at hu ⊢
  obtain ⟨n, hn⟩ : ∃ n, K.length = n := ⟨_, rfl⟩
  have hn2 : (n : Int) ≤ 2000000 := by have := hRi.few; rw [← hn, ← hK', List.length_map]; exact this
  have HU := hide hu
  have HN := hide hn
  obtain ⟨i0, hi0, hz0, hz1, hz2⟩ := info_parts Tryz.infoI
  clear h hi hr0 hRi hK hK' hn hu
  unfold gPtr
  go_enter Tryz.func47, Tryz.ntmps47
  go_wp2_with fail
  refine HMi.out.mono ?_
  rintro z w1 ⟨rfl, hw⟩
  obtain rfl : w = w1 := hw.symm
  clear HMi
  go_wp2_with fail
  refine HKy.out.mono ?_
  rintro z w2 ⟨v1, rfl, hk2⟩
  obtain ⟨a1, c1, hv1, _, _⟩ := own_form hk2.own
  rw [HN.out] at hv1
  subst hv1
  have HTr := hide (hk2.own.row HN.out)
  have HI0 : Hid (II w2 w2 (.slice none 0 0) (K.take 0)) := hide (by simpa using II.nil w2)
  have HB2 := hide hk2.bel
  clear hk2 HKy t2 hlt
  go_wp2
  go_loopw [3, 13] (fun kv i wr => ∃ j : Nat, j ≤ n ∧ i = .int .i64 j ∧ Hid (II w2 wr kv (K.take j))) (fun _ i _ => n - (intOf i).toNat)
  case atStart => exact ⟨0, Nat.zero_le _, rfl, HI0⟩
  case round =>
    obtain ⟨j, hj, rfl, HJ⟩ := hrel
    clear HI0
    by_cases hlj : j < n
    · have hjI : (j : Int) < n := by omega
      obtain ⟨y, hy⟩ : ∃ y, K[j]? = some y := ⟨_, List.getElem?_eq_getElem (by rw [HN.out]; exact hlj)⟩
      obtain ⟨b1, o1, hb1, e1⟩ := ucell (HTr.out.below HJ.out.bel) hy
      subst hb1
      have hyb := HU.out y (List.mem_of_getElem? hy)
      have hwy : IntKind.i64.wrap y = y := by rw [IntKind.wrap_i64]; omega
      have HKt := hide (take_next hy)
      have HJ2 := hide (HJ.out.on (below_alloc1 wr (.cells #[.int .i64 y] 3)))
      have HT := hide (TRow.one (y := layI) (w := wr.alloc (.cells #[.int .i64 y] 3)) (B := wr.heap.size) (x := y) (heap_new wr (.cells #[.int .i64 y] 3)))
      have HLl : Hid ((K.take j).length = j) := hide (by rw [List.length_take, HN.out]; omega)
      clear hy hyb
      go_wp2_with (at_builtin; refine append_lay layI _ 43 3 i0 _ 8 Tryz.underlying43 hi0 hz0 hz1 hz2 rfl rfl _ _ rfl w2.heap.size _ (K.take j) rfl HJ2.out.own _ 1 1 [y] rfl HT.out (fun e => by cases e) ?b1 ?b2 HJ2.out.bel.size ?_)
      case b1 => unfold maxLen; have := HLl.out; omega
      case b2 => have := HLl.out; omega
      intro v' w' o2 g2 l2
      have HJ4 : Hid (II w2 w' v' (K.take (j + 1))) := hide (by rw [HKt.out]; exact HJ2.out.push o2 g2)
      clear o2 g2 l2
      go_wp2
      exact ⟨⟨j + 1, by omega, by go_num, HJ4⟩, by simp [intOf]; omega⟩
    · have h9 : j = n := by omega
      subst h9
      have HJ5 : Hid (II w2 wr _ K) := hide (by
        have h1 := HJ.out
        rw [List.take_of_length_le (by rw [HN.out]; exact Nat.le_refl _)] at h1
        exact h1)
      go_wp2
      go_ret
      exact ⟨_, rfl, own_mono HJ5.out.own HB2.out.size, HB2.out.trans (HJ5.out.bel.mono HB2.out.size)⟩
end
end Go.Proofs.YtafkammiehcdjaaGreatDoor
/-
  An append of one event in a region that draws; small things. (Of SfF and SfG.)
-/
namespace Go.Proofs.YtafkammiehcdjaaGreatDoor.E6
open Go.RowKit Go.Maps Go.Shelf
/-- 'append(l, e)' of one event in a region that draws, l the call's own. -/
theorem step_ev {ops : Array Oper} {o : Oper} {a : Act} {w : World} {K : Act → World → Prop} {Q : Exit → Act → World → Prop} {E : Prop}
    (hg : o.guard = none) (s x : Operand) (hop : o.op = Op.call { callee := Callee.builtin Builtin.append, args := #[s, x], argTypes := #[22, 22] })
    (base : Nat) (v : Value) (n : Nat) (L : List Ev) (hs : a.eval s = v) (hown : w.ownsRow base 36 5 v n (ecells L))
    (X : Nat) (e : Ev) (hx : a.eval x = .slice (some ⟨X, 0, none⟩) 1 1) (hc : EvB w X e.g e.k e.o e.a e.sa e.ls.length e.sc)
    (hb : (n + 1) * 56 ≤ 140737488355328) (hbase : base ≤ w.heap.size)
    (h : ∀ (a' : Option Addr) (c' : Nat) w', w'.ownsRow base 36 5 (.slice a' (n + 1) c') (n + 1) (ecells (L ++ [e])) → w.grownBy w' v.ownBlock → ((Value.slice a' (n + 1) c').ownBlock = v.ownBlock ∨ (Value.slice a' (n + 1) c').ownBlock = some w.heap.size) → K (a.put o.dst (.slice a' (n + 1) c')) w') :
    if Region.wanted o (yielded ops a.tmps) = true then Oper.wp Tryz.prog o a w K Q else E := by
  have hw : Region.wanted o (yielded ops a.tmps) = true := by simp [Region.wanted, hg]
  rw [if_pos hw]
  obtain ⟨i0, hi, hz0, hz1, hz2⟩ := info_parts Tryz.infoEvent
  obtain ⟨v', w', hrun, h2, h3, _, h5⟩ := run_append_own_at (P := Tryz.prog) w base 22 o.type 36 i0 _ 5 56 Tryz.underlying22 hi hz0 hz1 hz2 rfl (by decide) v n _ hown ⟨X, 0, none⟩ 1 1 (ecell e) rfl
    (by intro t u ht
        match t, ht with
        | 0, ht => simp [ecell] at ht; subst ht; simpa [Addr.add] using hc.c0
        | 1, ht => simp [ecell] at ht; subst ht; simpa [Addr.add] using hc.c1
        | 2, ht => simp [ecell] at ht; subst ht; simpa [Addr.add] using hc.c2
        | 3, ht => simp [ecell] at ht; subst ht; simpa [Addr.add] using hc.c3
        | 4, ht => simp [ecell] at ht; subst ht; simpa [Addr.add] using hc.c4
        | k + 5, ht => simp [ecell] at ht)
    (by intro u hu; simp [ecell] at hu; rcases hu with rfl | rfl | rfl | rfl | rfl <;> rfl) (by unfold maxLen; omega) (by omega) hbase
  obtain ⟨a', c', rfl⟩ := own_form h2
  unfold Oper.wp execOp
  simp only [hop, resolve, invoke, builtin, Sem.run_bind, Sem.run_pure, Result.andThen_ok, List.map_toArray, List.map_cons, List.map_nil, hs, hx, hrun]
  exact h a' c' w' (by rw [ecells_snoc]; exact h2) h3 h5
end Go.Proofs.YtafkammiehcdjaaGreatDoor.E6
namespace Go.Proofs.YtafkammiehcdjaaGreatDoor
open Go.RowKit Go.Maps Go.Shelf
set_option linter.unusedVariables false
theorem row_not {w : World} {base n k : Nat} {e : TypeId} {z : Nat} {v : Value} {xs : List Value} {cs : Array Value} {t : TypeId} (h : w.ownsRow base e z v n xs) (hk : w.heap[k]? = some (.cells cs t (0, 0))) (hne : e ≠ t) : v.ownBlock ≠ some k := by
  intro hv
  rcases h.2 with ⟨h1, _⟩ | ⟨g, c, cur, h1, _, h2, _⟩
  · rw [h1] at hv; simp [Value.ownBlock] at hv
  · rw [h1] at hv
    simp [Value.ownBlock] at hv
    subst hv
    rw [hk] at h2
    simp at h2
    exact hne h2.2.symm
theorem held_few {M : CS} (hi : M.inv) (ht : M.taken ≤ 1048576) (g : Int) : ((heldK M g).length : Int) ≤ 2000000 := by
  unfold heldK
  cases hg : M.gs g with
  | none => simp
  | some r =>
    have h1 := (hi.gor g r hg).2.2.2.1
    rw [List.length_map]
    omega
end Go.Proofs.YtafkammiehcdjaaGreatDoor
/-
  The document's Add.
-/
namespace Go.Proofs.YtafkammiehcdjaaGreatDoor
open Go.RowKit Go.Maps Go.Shelf
set_option linter.unusedVariables false
/-- The document's checker in memory: the events that came, without their stacks. -/
structure Rf (w wr : World) (rb : Nat) (vt : Value) (qs : List E6.Ev) : Prop where
  wc : wr.heap[rb]? = some (.cells #[vt] 135 (0, 0))
  ge : w.heap.size ≤ rb
  ot : wr.ownsRow w.heap.size 36 5 vt qs.length (E6.ecells qs)
  st : ∀ f ∈ qs, f.sa = none ∧ f.sc = 0 ∧ f.ls = []
  bel : Below w.heap.size w wr
def bare (e : E6.Ev) : E6.Ev := { e with sa := none, sc := 0, ls := [] }
section
variable {w wr w' : World} {rb : Nat} {vt : Value} {qs : List E6.Ev} {e : E6.Ev}
theorem Rf.on (h : Rf w wr rb vt qs) (hb : Below wr.heap.size wr w') : Rf w w' rb vt qs :=
  ⟨(hb.block rb (lt_of_heap h.wc)).trans h.wc, h.ge, own_but (S := fun _ => False) h.ot (But.of_below hb) (fun _ _ e => e), h.st, h.bel.trans (hb.mono h.bel.size)⟩
theorem Rf.row (h : Rf w wr rb vt qs) : ∃ a c, vt = .slice a qs.length c ∧ E6.ERow wr a qs.length qs ∧ qs.length ≤ c :=
  by
    obtain ⟨a, c, h1, h2, h3, _⟩ := E6.erow_own h.ot rfl (fun f hf => by
      obtain ⟨s1, s2, s3⟩ := h.st f hf
      rw [s1, s3]
      exact ⟨rfl, .inl rfl⟩)
    exact ⟨a, c, h1, h2, h3⟩
theorem Rf.wc7 (h : Rf w wr rb vt qs) (hg : wr.grownBy w' vt.ownBlock) : w'.heap[rb]? = some (.cells #[vt] 135 (0, 0)) :=
  ((But.of_grown (S := fun k => vt.ownBlock = some k) hg (fun k e => e)).block rb (lt_of_heap h.wc) (row_not h.ot h.wc (by decide))).trans h.wc
theorem Rf.push {vt' : Value} (h : Rf w wr rb vt qs) (ho : w'.ownsRow w.heap.size 36 5 vt' (qs ++ [bare e]).length (E6.ecells (qs ++ [bare e]))) (hg : wr.grownBy w' vt.ownBlock) : Rf w (w'.setCell ⟨rb, 0, none⟩ vt') rb vt' (qs ++ [bare e]) := by
  have hwc := h.wc7 hg
  have hB : But (fun k => vt.ownBlock = some k) wr w' := But.of_grown hg (fun k e => e)
  have hB2 : But (fun k => vt.ownBlock = some k ∨ k = rb) wr (w'.setCell ⟨rb, 0, none⟩ vt') := (hB.mono (fun k e => .inl e)).setCell ⟨rb, 0, none⟩ (fun _ => .inr rfl) vt'
  refine ⟨?_, h.ge, ownsRow_setCell_other ho (a := ⟨rb, 0, none⟩) (row_not ho hwc (by decide)) vt', fun f hf => ?_, ?_⟩
  · rw [heap_setCell_same w' rb 0 _ _ vt' hwc]; rfl
  · rcases List.mem_append.1 hf with hf | hf
    · exact h.st f hf
    · cases List.mem_singleton.1 hf; exact ⟨rfl, rfl, rfl⟩
  · exact h.bel.trans (hB2.below h.bel.size (fun k e => by
      rcases e with e | e
      · exact (h.ot.lt k e).1
      · subst e; exact h.ge))
end
end Go.Proofs.YtafkammiehcdjaaGreatDoor
