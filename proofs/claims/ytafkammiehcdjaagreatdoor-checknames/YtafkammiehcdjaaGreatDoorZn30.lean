import Derived.Test.YtafkammiehcdjaaGreatDoorZn08
import Derived.Test.YtafkammiehcdjaaGreatDoorZn29
/-
  Beginnings and choices of a trace within bounds.
-/
namespace Go.Proofs.YtafkammiehcdjaaGreatDoor.E6
open Go.RowKit Go.Maps Go.Shelf
theorem Rep.suffix {L : List ByteArray} {N : List Nd} {P : List Stk} (h : Rep L N P) : ∀ (q p : Stk), q ++ p ∈ P → p ≠ [] → p ∈ P := by
  intro q
  induction q with
  | nil => intro p hm _; exact hm
  | cons x q ih =>
    intro p hm h0
    rcases (h.tail hm).1 with e | e
    · simp at e; exact absurd e.2 h0
    · exact ih p e h0
theorem Rep.frames {L : List ByteArray} {N : List Nd} {P : List Stk} (h : Rep L N P) {p : Stk} (hp : Has P p) : ∀ x ∈ p, x ∈ L := by
  intro x hx
  rcases hp with rfl | hp
  · simp at hx
  · obtain ⟨q, t, rfl⟩ := List.append_of_mem hx
    exact (h.tail (h.suffix q (x :: t) hp (by simp))).2
theorem addP_sub {P' P : List Stk} (h : ∀ x ∈ P', x ∈ P) : ∀ (r : List ByteArray) (u : Stk), ∀ x ∈ addP P' u r, x ∈ addP P u r := by
  intro r
  induction r generalizing P' P with
  | nil => intro u x hx; exact h x hx
  | cons s r ih =>
    intro u x hx
    rw [addP] at hx ⊢
    refine ih (fun y hy => ?_) (s :: u) x hx
    by_cases h1 : s :: u ∈ P
    · rw [if_pos h1]
      split at hy
      · exact h y hy
      · rcases List.mem_append.1 hy with hy | hy
        · exact h y hy
        · simp at hy; subst hy; exact h1
    · rw [if_neg h1]
      split at hy
      · exact List.mem_append.2 (.inl (h y hy))
      · rcases List.mem_append.1 hy with hy | hy
        · exact List.mem_append.2 (.inl (h y hy))
        · exact List.mem_append.2 (.inr hy)
/-- With each stack its outer parts. -/
def Closed (P : List Stk) : Prop := ∀ (q p : Stk), q ++ p ∈ P → p ≠ [] → p ∈ P
theorem Closed.snoc {P : List Stk} (h : Closed P) {s : ByteArray} {u : Stk} (hu : Has P u) : Closed (P ++ [s :: u]) := by
  intro q p hm h0
  rcases List.mem_append.1 hm with hm | hm
  · exact List.mem_append.2 (.inl (h q p hm h0))
  · simp at hm
    cases q with
    | nil => simp at hm; exact List.mem_append.2 (.inr (by simp [hm]))
    | cons y q =>
      simp at hm
      rcases hu with rfl | hu
      · simp at hm; exact absurd hm.2.2 h0
      · exact List.mem_append.2 (.inl (h q p (by rw [hm.2]; exact hu) h0))
theorem addP_len : ∀ (r : List ByteArray) (u : Stk) (P : List Stk), Closed P → P.Nodup → Has P u → (∀ s r', r = s :: r' → s :: u ∉ P) → (addP P u r).length = P.length + r.length ∧ (addP P u r).Nodup := by
  intro r
  induction r with
  | nil => intro u P _ hd _ _; exact ⟨rfl, hd⟩
  | cons s r ih =>
    intro u P hc hd hu hn
    have h0 := hn s r rfl
    rw [addP, if_neg h0]
    have := ih (s :: u) (P ++ [s :: u]) (hc.snoc hu) (by
      rw [List.nodup_append]
      exact ⟨hd, by simp, by intro x hx y hy; simp at hy; subst hy; exact fun e => h0 (e ▸ hx)⟩) (.inr (by simp)) (by
      intro s' r' _ hm
      rcases List.mem_append.1 hm with hm | hm
      · exact h0 (hc [s'] (s :: u) hm (by simp))
      · simp at hm)
    refine ⟨?_, this.2⟩
    rw [this.1]; simp; omega
theorem nodup_len {α : Type} {E : List α} : ∀ {M : List α}, E.Nodup → (∀ x ∈ E, x ∈ M) → E.length ≤ M.length := by
  induction E with
  | nil => intro M _ _; simp
  | cons x E ih =>
    intro M hd hs
    obtain ⟨s, t, rfl⟩ := List.append_of_mem (hs x (by simp))
    have hd' := List.nodup_cons.1 hd
    have h := ih (M := s ++ t) hd'.2 (fun y hy => by
      have := hs y (by simp [hy])
      simp at this ⊢
      rcases this with h | h | h
      · exact .inl h
      · subst h; exact absurd hy hd'.1
      · exact .inr h)
    simp at h ⊢
    omega
theorem newS_nodup (L l : List ByteArray) : (newS L l).Nodup := by
  unfold newS
  generalize l.reverse = r
  induction r with
  | nil => simp [newR]
  | cons t r ih =>
    unfold newR
    split
    · exact ih
    · rename_i h
      rw [List.nodup_append]
      refine ⟨ih, by simp, ?_⟩
      intro x hx y hy
      simp at hy
      subst hy
      intro e
      subst e
      have hm : x ∈ newS L r.reverse := by unfold newS; rw [List.reverse_reverse]; exact hx
      rw [newS_mem] at hm
      rw [Bool.or_eq_true, isIn_iff, isIn_iff] at h
      exact h (.inr (by simpa using hm.1))
theorem runs_sub : ∀ (r : List ByteArray) (s : Stt), ∀ x ∈ (runs s r).L, x ∈ s.L ∨ x ∈ r := by
  intro r
  induction r with
  | nil => intro s x hx; exact .inl hx
  | cons t r ih =>
    intro s x hx
    have hx' : x ∈ (runs (stp s t) r).L := hx
    rcases ih _ x hx' with h | h
    · have h' : x ∈ internL s.L t := h
      unfold internL at h'
      split at h'
      · exact .inl h'
      · split at h'
        · rcases List.mem_append.1 h' with h' | h'
          · exact .inl h'
          · simp at h'; subst h'; exact .inr (by simp)
        · exact .inl h'
    · exact .inr (by simp [h])
/-- What of a stack is put in, and what was there. -/
theorem left_parts {L : List ByteArray} {N : List Nd} {P : List Stk} (h : Fit L N P) (ls : List ByteArray) : ∃ u, Has P u ∧ (left L N ls).2.reverse ++ u = ls ∧ (addP P [] ls.reverse).length = N.length + (left L N ls).2.reverse.length ∧ (addP P [] ls.reverse).Nodup := by
  obtain ⟨u, h1, _, h3, h4, h5⟩ := kn_rep h.rep h.good.1 h.nodup ls.reverse [] (.inl rfl)
  rw [num_nil] at h3 h4 h5
  have hl := addP_len (kn L N 0 ls.reverse).2 u P h.rep.suffix h.rep.nodup h1 h5
  refine ⟨u, h1, by simpa [left] using h3, ?_, ?_⟩
  · rw [h4, hl.1, h.rep.len]; simp [left]
  · rw [h4]; exact hl.2
/-- What is less has room where the more has. -/
theorem roomy_less {L L' : List ByteArray} {N N' : List Nd} {P P' : List Stk} {ls : List ByteArray} (h : Fit L N P) (h' : Fit L' N' P') (hL : ∀ x ∈ L', x ∈ L) (hP : ∀ x ∈ P', x ∈ P) (hz : ∀ s ∈ ls, s.size ≤ 65536) (hR : Roomy L N.length (left L N ls).2.reverse) : Roomy L' N'.length (left L' N' ls).2.reverse := by
  obtain ⟨u, hu, hlu, hlen, _⟩ := left_parts h ls
  obtain ⟨u', hu', hlu', hlen', hnd'⟩ := left_parts h' ls
  have hsub : ∀ x ∈ L' ++ newS L' (left L' N' ls).2.reverse, x ∈ L ++ newS L (left L N ls).2.reverse := by
    intro x hx
    rw [List.mem_append, newS_mem]
    by_cases hxL : x ∈ L
    · exact .inl hxL
    · rcases List.mem_append.1 hx with hx | hx
      · exact .inl (hL x hx)
      · rw [newS_mem] at hx
        have hxl : x ∈ ls := by rw [← hlu']; exact List.mem_append.2 (.inl hx.1)
        rw [← hlu] at hxl
        rcases List.mem_append.1 hxl with e | e
        · exact .inr ⟨e, hxL⟩
        · exact absurd (h.rep.frames hu x e) hxL
  have hnd : (L' ++ newS L' (left L' N' ls).2.reverse).Nodup := by
    rw [List.nodup_append]
    refine ⟨h'.nodup, newS_nodup _ _, ?_⟩
    intro x hx y hy e
    subst e
    exact ((newS_mem _ _ _).1 hy).2 hx
  have hts := total_sub hnd hsub
  rw [total_append, total_append, List.length_append, List.length_append] at hts
  refine ⟨fun t ht => ?_, by have := hR.count; omega, by have := hR.sum; omega, ?_⟩
  · have := ((newS_mem _ _ _).1 ht).1
    exact hz t (by rw [← hlu']; exact List.mem_append.2 (.inl this))
  · have := nodup_len hnd' (addP_sub hP ls.reverse [])
    have := hR.nodes
    omega
theorem after_less {L L' : List ByteArray} {N N' : List Nd} {P P' : List Stk} {ls : List ByteArray} (h : Fit L N P) (hL : ∀ x ∈ L', x ∈ L) (h16 : ls.length ≤ 16) (hR : Roomy L N.length (left L N ls).2.reverse) (h' : Fit L' N' P') : ∀ x ∈ (after L' N' ls).L, x ∈ (after L N ls).L := by
  obtain ⟨hf, _, hhas, E, hE⟩ := h.ok h16 hR
  intro x hx
  rcases runs_sub _ _ x hx with hx | hx
  · rw [hE]; exact List.mem_append.2 (.inl (hL x hx))
  · obtain ⟨u', _, hlu', _⟩ := left_parts h' ls
    exact hf.rep.frames hhas x (by rw [← hlu']; exact List.mem_append.2 (.inl (by simpa using hx)))
theorem chk_small {g k o a : Int} {ls : List ByteArray} (h : chk g k o a ls = 0) : ∀ s ∈ ls, s.size ≤ 65536 := by
  unfold chk at h
  split at h
  · split at h
    · cases h
    · split at h
      · split at h
        · split at h
          · rename_i hst
            unfold stkB at hst
            simp at hst
            exact hst.2
          · cases h
        · cases h
      · cases h
  · cases h
/-- A choice of what is within bounds is within bounds. -/
theorem bnd_sub {es es' : List Ev} (hs : es'.Sublist es) : ∀ (i i' : Nat) (L L' : List ByteArray) (N N' : List Nd) (P P' : List Stk), Fit L N P → Fit L' N' P' → (∀ x ∈ L', x ∈ L) → (∀ x ∈ P', x ∈ P) → bnd es i L N = (-1, 0) → bnd es' i' L' N' = (-1, 0) := by
  induction hs with
  | slnil => intros; rfl
  | @cons l₁ l₂ e _ ih =>
    intro i i' L L' N N' P P' h h' hL hP hb
    rw [bnd] at hb
    split at hb
    · rename_i hc
      split at hb
      · rename_i hR
        obtain ⟨hf, _, _, E, hE⟩ := h.ok (chk_zero hc) hR
        exact ih _ i' _ L' _ N' _ P' hf h' (fun x hx => by rw [hE]; exact List.mem_append.2 (.inl (hL x hx))) (fun x hx => by
          obtain ⟨Q, hQ⟩ := addP_ext P [] e.ls.reverse
          rw [hQ]; exact List.mem_append.2 (.inl (hP x hx))) hb
      · have := congrArg Prod.snd hb; simp at this
    · rename_i hc
      exact absurd (congrArg Prod.snd hb) hc
  | @cons_cons l₁ l₂ e _ ih =>
    intro i i' L L' N N' P P' h h' hL hP hb
    rw [bnd] at hb ⊢
    split at hb
    · rename_i hc
      rw [if_pos hc]
      split at hb
      · rename_i hR
        have hR' := roomy_less h h' hL hP (chk_small hc) hR
        rw [if_pos hR']
        exact ih _ (i' + 1) _ _ _ _ _ _ (h.ok (chk_zero hc) hR).1 (h'.ok (chk_zero hc) hR').1 (after_less h hL (chk_zero hc) hR h') (addP_sub hP _ _) hb
      · have := congrArg Prod.snd hb; simp at this
    · rename_i hc
      exact absurd (congrArg Prod.snd hb) hc
theorem bnd_zero {es : List Ev} : ∀ (i : Nat) (L : List ByteArray) (N : List Nd), (bnd es i L N).2 = 0 → bnd es i L N = (-1, 0) := by
  induction es with
  | nil => intros; rfl
  | cons e es ih =>
    intro i L N h
    rw [bnd] at h ⊢
    split
    · rename_i hc
      rw [if_pos hc] at h
      split
      · rename_i hR
        rw [if_pos hR] at h
        exact ih _ _ _ h
      · rename_i hR
        rw [if_neg hR] at h
        simp at h
    · rename_i hc
      rw [if_neg hc] at h
      exact absurd h hc
/-- The first fault is the first wherever the trace is cut behind it. -/
theorem bnd_fault {es : List Ev} : ∀ (i : Nat) (L : List ByteArray) (N : List Nd), (bnd es i L N).2 ≠ 0 → ∃ m : Nat, m < es.length ∧ (bnd es i L N).1 = ((i + m : Nat) : Int) ∧ bnd (es.take m) i L N = (-1, 0) ∧ ∀ c, m < c → bnd (es.take c) i L N = bnd es i L N := by
  induction es with
  | nil => intro i L N h; exact absurd rfl h
  | cons e es ih =>
    intro i L N h
    rw [bnd] at h ⊢
    by_cases hc : e.chk = 0
    · rw [if_pos hc] at h ⊢
      by_cases hR : Roomy L N.length (left L N e.ls).2.reverse
      · rw [if_pos hR] at h ⊢
        obtain ⟨m, h1, h2, h3, h4⟩ := ih (i + 1) _ _ h
        refine ⟨m + 1, by simp; omega, by rw [h2]; omega, ?_, ?_⟩
        · rw [List.take_succ_cons, bnd, if_pos hc, if_pos hR]; exact h3
        · intro c hcm
          obtain ⟨c', rfl⟩ : ∃ c', c = c' + 1 := ⟨c - 1, by omega⟩
          rw [List.take_succ_cons, bnd, if_pos hc, if_pos hR]
          exact h4 c' (by omega)
      · rw [if_neg hR] at h ⊢
        refine ⟨0, by simp, by simp, rfl, ?_⟩
        intro c hcm
        obtain ⟨c', rfl⟩ : ∃ c', c = c' + 1 := ⟨c - 1, by omega⟩
        rw [List.take_succ_cons, bnd, if_pos hc, if_neg hR]
    · rw [if_neg hc] at h ⊢
      refine ⟨0, by simp, by simp, rfl, ?_⟩
      intro c hcm
      obtain ⟨c', rfl⟩ : ∃ c', c = c' + 1 := ⟨c - 1, by omega⟩
      rw [List.take_succ_cons, bnd, if_neg hc]
theorem bnd_chk {es : List Ev} : ∀ (i : Nat) (L : List ByteArray) (N : List Nd), bnd es i L N = (-1, 0) → ∀ e ∈ es, e.chk = 0 := by
  induction es with
  | nil => intro i L N _ e he; simp at he
  | cons x es ih =>
    intro i L N h e he
    rw [bnd] at h
    split at h
    · rename_i hc
      split at h
      · rcases List.mem_cons.1 he with rfl | he
        · exact hc
        · exact ih _ _ _ h e he
      · have := congrArg Prod.snd h; simp at this
    · rename_i hc
      exact absurd (congrArg Prod.snd h) hc
/-! ### the whole -/
theorem bounds_ok {es : List Ev} (h : (bounds es).2 = 0) : bounds es = (-1, 0) ∧ es.length ≤ 1048576 ∧ bnd es 0 [] [] = (-1, 0) := by
  unfold bounds at h ⊢
  by_cases hl : es.length ≤ 1048576
  · rw [if_pos hl] at h ⊢
    exact ⟨bnd_zero _ _ _ h, hl, bnd_zero _ _ _ h⟩
  · rw [if_neg hl] at h
    simp at h
theorem bounds_sub {es es' : List Ev} (hs : es'.Sublist es) (h : (bounds es).2 = 0) : bounds es' = (-1, 0) := by
  obtain ⟨_, hl, hb⟩ := bounds_ok h
  unfold bounds
  rw [if_pos (Nat.le_trans hs.length_le hl)]
  exact bnd_sub hs 0 0 [] [] [] [] [] [] Fit.nil Fit.nil (fun _ h => h) (fun _ h => h) hb
theorem bounds_fault {es : List Ev} (hl : es.length ≤ 1048576) (h : (bounds es).2 ≠ 0) : ∃ m : Nat, m < es.length ∧ (bounds es).1 = (m : Int) ∧ bounds (es.take m) = (-1, 0) ∧ (∀ c, m < c → bounds (es.take c) = bounds es) ∧ ∀ c, c ≤ m → bounds (es.take c) = (-1, 0) := by
  have e0 : bounds es = bnd es 0 [] [] := by unfold bounds; rw [if_pos hl]
  have et : ∀ c, bounds (es.take c) = bnd (es.take c) 0 [] [] := fun c => by unfold bounds; rw [if_pos (by rw [List.length_take]; omega)]
  rw [e0] at h
  obtain ⟨m, h1, h2, h3, h4⟩ := bnd_fault 0 [] [] h
  refine ⟨m, h1, by rw [e0, h2]; simp, by rw [et, h3], fun c hc => by rw [et, e0, h4 c hc], fun c hc => ?_⟩
  have hm : (bounds (es.take m)).2 = 0 := by rw [et, h3]
  have hsub : (es.take c).Sublist (es.take m) := by
    have : es.take c = (es.take m).take c := by rw [List.take_take]; congr 1; omega
    rw [this]; exact List.take_sublist _ _
  exact bounds_sub hsub hm
end Go.Proofs.YtafkammiehcdjaaGreatDoor.E6
/-
  Names are free: the statement's own turning of names.
-/
namespace Go.Proofs.YtafkammiehcdjaaGreatDoor
set_option linter.unusedVariables false
theorem pow_odd {F : Int} (hF : F % 2 = 1) : ∀ (k : Nat) (d : Int), (2 ^ k : Int) ∣ d * F → (2 ^ k : Int) ∣ d := by
  intro k
  induction k with
  | zero => intro d _; simp
  | succ k ih =>
    intro d h
    have h1 : (2 : Int) ∣ d * F := Int.dvd_trans ⟨2 ^ k, by rw [Int.pow_succ, Int.mul_comm]⟩ h
    have h2 : d % 2 = 0 := by
      have h3 := Int.emod_eq_zero_of_dvd h1
      rw [Int.mul_emod, hF] at h3
      omega
    obtain ⟨d', rfl⟩ : ∃ d', d = 2 * d' := ⟨d / 2, by omega⟩
    have h4 : (2 ^ k : Int) ∣ d' * F := by
      obtain ⟨q, hq⟩ := h
      refine ⟨q, ?_⟩
      have h5 : 2 * (d' * F) = 2 * (2 ^ k * q) := by
        rw [← Int.mul_assoc, hq, Int.pow_succ, Int.mul_comm ((2 : Int) ^ k) 2, Int.mul_assoc]
      omega
    obtain ⟨q, hq⟩ := ih d' h4
    exact ⟨q, by rw [hq, Int.pow_succ, Int.mul_comm ((2 : Int) ^ k) 2, Int.mul_assoc]⟩
def obI (F S d o : Int) : Int := (o * F + S + d) % 18446744073709551616
theorem obI_inj {F S d x y : Int} (hF : F % 2 = 1) (hx : IsU x) (hy : IsU y) : obI F S d x = obI F S d y ↔ x = y := by
  constructor
  · intro h
    unfold obI at h
    have h1 : (18446744073709551616 : Int) ∣ (x - y) * F := by
      rw [Int.sub_mul]
      have h2 := Int.emod_emod_of_dvd
      generalize x * F = a at h ⊢
      generalize y * F = b at h ⊢
      exact ⟨(a - b) / 18446744073709551616, by omega⟩
    have h3 : (2 ^ 64 : Int) ∣ (x - y) := pow_odd hF 64 _ (by simpa using h1)
    obtain ⟨q, hq⟩ := h3
    have e64 : (2 ^ 64 : Int) = 18446744073709551616 := by decide
    rw [e64] at hq
    unfold IsU at hx hy
    omega
  · rintro rfl; rfl
theorem obI_u (F S d o : Int) : IsU (obI F S d o) := by
  unfold obI IsU; omega
def tgI (t g : Int) : Int := if g < 1 ∨ 65535 < g then g else 1 + (g - 1 + t % 65535) % 65535
theorem tgI_g (t : Int) {g : Int} (h : IsG g) : IsG (tgI t g) ∧ (1 ≤ g → 1 ≤ tgI t g) := by
  unfold tgI IsG at *
  split <;> omega
theorem tgI_inj (t : Int) {x y : Int} (hx : IsG x) (hy : IsG y) : tgI t x = tgI t y ↔ x = y := by
  constructor
  · intro h
    unfold tgI IsG at *
    split at h <;> split at h <;> omega
  · rintro rfl; rfl
def rnI (F S t : Int) : Rn := ⟨tgI t, obI F S 0, obI F S 1, obI F S 2, obI F S 3⟩
theorem rnI_ok {F : Int} (S t : Int) (hF : F % 2 = 1) : (rnI F S t).Ok :=
  ⟨fun x y hx hy => tgI_inj t hx hy, by show tgI t 0 = 0; unfold tgI; rw [if_pos (.inl (by decide))], fun x y hx hy => obI_inj hF hx hy, fun x y hx hy => obI_inj hF hx hy, fun x y hx hy => obI_inj hF hx hy, fun x y hx hy => obI_inj hF hx hy⟩
/-- An event with other names. -/
def rnE (F S t : Int) (e : E6.Ev) : E6.Ev := { e with g := tgI t e.g, o := (rnI F S t).ob e.k e.o, a := if e.k = 7 ∨ e.k = 8 then tgI t e.a else e.a }
theorem rnE_me (F S t : Int) (e : E6.Ev) : me (rnE F S t e) = (rnI F S t).me (me e) := rfl
theorem gdn_of {e : E6.Ev} (h : e.chk = 0) (hok : e.ok) : Gdn (me e) := by
  have hb := (gdm_of h hok).2
  exact ⟨⟨hb.ok.g0, hb.ok.g1⟩, ⟨hb.ok.o0, hb.ok.o1⟩, fun hk => ⟨hb.ok.a0, hb.fj hk⟩⟩
theorem fork_pos {e : E6.Ev} (h : e.chk = 0) (hk : e.k = 7) : 1 ≤ e.a := by
  have h1 := chk_arg (g := e.g) (k := e.k) (o := e.o) (a := e.a) (ls := e.ls) h
  rw [hk] at h1
  exact (of_decide_eq_true h1).1
theorem chk_parts {g k o a : Int} {ls : List ByteArray} (h : E6.chk g k o a ls = 0) : (1 ≤ k ∧ k ≤ 22) ∧ ¬ (g < 0 ∨ 65536 ≤ g) ∧ E6.objB k.toNat o a = true ∧ E6.argB k.toNat a = true ∧ E6.stkB ls = true := by
  unfold E6.chk at h
  split at h
  · rename_i h1
    split at h
    · cases h
    · rename_i h2
      split at h
      · rename_i h3
        split at h
        · rename_i h4
          split at h
          · rename_i h5; exact ⟨h1, h2, h3, h4, h5⟩
          · cases h
        · cases h
      · cases h
  · cases h
theorem chk_make {g k o a : Int} {ls : List ByteArray} (h1 : 1 ≤ k ∧ k ≤ 22) (h2 : ¬ (g < 0 ∨ 65536 ≤ g)) (h3 : E6.objB k.toNat o a = true) (h4 : E6.argB k.toNat a = true) (h5 : E6.stkB ls = true) : E6.chk g k o a ls = 0 := by
  unfold E6.chk
  rw [if_pos h1, if_neg h2, if_pos h3, if_pos h4, if_pos h5]
theorem rnE_chk (F S t : Int) {e : E6.Ev} (h : e.chk = 0) (hok : e.ok) : (rnE F S t e).chk = 0 := by
  obtain ⟨h1, h2, h3, h4, h5⟩ := chk_parts (g := e.g) (k := e.k) (o := e.o) (a := e.a) (ls := e.ls) h
  have hg := gdn_of h hok
  have h2' : ¬ (tgI t e.g < 0 ∨ 65536 ≤ tgI t e.g) := by
    have := (tgI_g t hg.g).1
    unfold IsG at this
    show ¬ (tgI t (me e).g < 0 ∨ 65536 ≤ tgI t (me e).g)
    omega
  have hfp := fork_pos h
  have ho := hok
  refine chk_make (g := tgI t e.g) (k := e.k) (o := (rnI F S t).ob e.k e.o) (a := if e.k = 7 ∨ e.k = 8 then tgI t e.a else e.a) (ls := e.ls) h1 h2' ?_ ?_ h5
  · rcases kcases h1.1 h1.2 with hk | hk | hk | hk | hk | hk | hk | hk | hk | hk | hk | hk | hk | hk | hk | hk | hk | hk | hk | hk | hk | hk <;> rw [hk] at h3 h4 ⊢ <;> first
      | exact h3
      | rfl
  · rcases kcases h1.1 h1.2 with hk | hk | hk | hk | hk | hk | hk | hk | hk | hk | hk | hk | hk | hk | hk | hk | hk | hk | hk | hk | hk | hk
    case inr.inr.inr.inr.inr.inr.inl =>
      have hga := tgI_g t (hg.a (.inl hk))
      have hp := hga.2 (hfp hk)
      have hq := hga.1.2
      have hp' : 1 ≤ tgI t e.a := hp
      have hq' : tgI t e.a ≤ 65535 := hq
      rw [hk, if_pos (.inl rfl)]
      exact decide_eq_true ⟨hp', hq'⟩
    case inr.inr.inr.inr.inr.inr.inr.inl =>
      have hga := tgI_g t (hg.a (.inr hk))
      have hp' : 0 ≤ tgI t e.a := hga.1.1
      have hq' : tgI t e.a ≤ 65535 := hga.1.2
      rw [hk, if_pos (.inr rfl)]
      exact decide_eq_true ⟨hp', hq'⟩
    all_goals
      rw [if_neg (by omega)]
      exact h4
theorem rnE_ok (F S t : Int) {e : E6.Ev} (h : e.chk = 0) (hok : e.ok) : (rnE F S t e).ok := by
  have hg := gdn_of h hok
  refine ⟨?_, ?_, hok.len, hok.sz, hok.cap, hok.nil⟩
  · show IsU ((rnI F S t).ob e.k e.o)
    unfold Rn.ob rnI
    dsimp only
    split
    · exact obI_u _ _ _ _
    · split
      · exact obI_u _ _ _ _
      · split
        · exact obI_u _ _ _ _
        · split
          · exact obI_u _ _ _ _
          · exact hok.ho
  · show IsU (if e.k = 7 ∨ e.k = 8 then tgI t e.a else e.a)
    split
    · rename_i hk
      have := (tgI_g t (hg.a hk)).1
      unfold IsG at this
      unfold IsU
      have h9 : 0 ≤ tgI t e.a ∧ tgI t e.a ≤ 65535 := this
      omega
    · exact hok.ha
theorem bnd_like {f : E6.Ev → E6.Ev} {es : List E6.Ev} (h : ∀ e ∈ es, (f e).chk = e.chk ∧ (f e).ls = e.ls) : ∀ i L N, E6.bnd (es.map f) i L N = E6.bnd es i L N := by
  induction es with
  | nil => intros; rfl
  | cons x es ih =>
    intro i L N
    obtain ⟨h1, h2⟩ := h x (List.mem_cons_self ..)
    rw [List.map_cons, E6.bnd, E6.bnd, h1, h2, ih fun e he => h e (List.mem_cons_of_mem _ he)]
theorem bounds_rn (F S t : Int) {es : List E6.Ev} (h : (E6.bounds es).2 = 0) (hok : ∀ e ∈ es, e.ok) : (E6.bounds (es.map (rnE F S t))).2 = 0 := by
  obtain ⟨hl, hchk⟩ := bounds_zero h
  have h1 := bnd_like (f := rnE F S t) (es := es) (fun e he => ⟨(rnE_chk F S t (hchk e he) (hok e he)).trans (hchk e he).symm, rfl⟩)
  unfold E6.bounds at h ⊢
  rw [List.length_map, h1]
  exact h
theorem runV_rn {F : Int} (S t : Int) (hF : F % 2 = 1) {es : List E6.Ev} (h : (E6.bounds es).2 = 0) (hok : ∀ e ∈ es, e.ok) : runV (es.map (rnE F S t)) = runV es := by
  obtain ⟨hl, hchk⟩ := bounds_zero h
  have hb := bounds_rn F S t h hok
  rw [runV_zero h, runV_zero hb]
  have e1 : CS.new.run es 0 = fr [] (es.map me) 0 := run_fr es [] CS.new 0 .new fun e he => (gdm_of (hchk e he) (hok e he)).1
  have e2 : CS.new.run (es.map (rnE F S t)) 0 = fr [] ((es.map (rnE F S t)).map me) 0 := run_fr _ [] CS.new 0 .new fun e he => by
    obtain ⟨x, hx, rfl⟩ := List.mem_map.1 he
    exact (gdm_of (rnE_chk F S t (hchk x hx) (hok x hx)) (rnE_ok F S t (hchk x hx) (hok x hx))).1
  have e3 : (es.map (rnE F S t)).map me = (es.map me).map (rnI F S t).me := by
    rw [List.map_map, List.map_map]; rfl
  have e4 := fr_map (rnI_ok S t hF) (es.map me) [] 0 (fun e he => by cases he) (fun e he => by
    obtain ⟨x, hx, rfl⟩ := List.mem_map.1 he
    exact gdn_of (hchk x hx) (hok x hx))
  rw [e1, e2, e3]
  rw [List.map_nil] at e4
  rw [e4]
theorem runV_sync {es : List E6.Ev} (h : runV es = (-1, 0, 0)) : runV (es.filter fun e => syncK e.k) = (-1, 0, 0) := by
  by_cases hb : (E6.bounds es).2 ≠ 0
  · unfold runV at h
    rw [if_pos hb] at h
    exact absurd (congrArg (fun p => p.2.2) h) hb
  · have h0 : (E6.bounds es).2 = 0 := by omega
    obtain ⟨_, hchk⟩ := bounds_zero h0
    have hb2 := E6.bounds_sub (List.filter_sublist (p := fun e => syncK e.k) (l := es)) h0
    rw [runV_zero h0] at h
    rw [runV_zero (by rw [hb2])]
    have h1 : CS.new.run es 0 = (-1, 0) := by
      have a1 := congrArg Prod.fst h
      have a2 := congrArg (fun p => p.2.1) h
      exact Prod.ext a1 a2
    rw [run_sync es CS.new CS.new 0 0 rfl (fun e he => (chk_parts (g := e.g) (k := e.k) (o := e.o) (a := e.a) (ls := e.ls) (hchk e he)).1) h1]
end Go.Proofs.YtafkammiehcdjaaGreatDoor
