import Derived.Test.YtafkammiehcdjaaGreatDoorZr02
/-
  What a checker knows of memory: which allocations live.
-/
namespace Go.Proofs.YtafkammiehcdjaaGreatDoor
theorem nxt_out {k : Int} {L : List Ent} (h : nxt k L = none) : ∀ q ∈ L, q.1 < k := by
  induction L with
  | nil => intro q hq; cases hq
  | cons p L ih =>
    unfold nxt at h
    by_cases hp : p.1 < k
    · rw [if_pos hp] at h
      intro q hq
      rcases List.mem_cons.1 hq with rfl | hq
      · exact hp
      · exact ih h q hq
    · rw [if_neg hp] at h; cases h
theorem nxt_in {k : Int} {p : Ent} {L : List Ent} (hr : Ris L) (h : nxt k L = some p) : p ∈ L ∧ k ≤ p.1 ∧ ∀ q ∈ L, k ≤ q.1 → p.1 ≤ q.1 := by
  induction L with
  | nil => cases h
  | cons x L ih =>
    unfold nxt at h
    by_cases hp : x.1 < k
    · rw [if_pos hp] at h
      obtain ⟨h1, h2, h3⟩ := ih hr.tail h
      refine ⟨List.mem_cons_of_mem _ h1, h2, fun q hq hk => ?_⟩
      rcases List.mem_cons.1 hq with rfl | hq
      · omega
      · exact h3 q hq hk
    · rw [if_neg hp] at h
      injection h with h
      subst h
      refine ⟨List.mem_cons_self .., by omega, fun q hq hk => ?_⟩
      rcases List.mem_cons.1 hq with rfl | hq
      · exact Int.le_refl _
      · have := hr.head q hq; omega
/-- Does the allocation live? (Over the events, the last one first.) -/
def lvR : List Me → Int → Int → Bool
  | [], _, _ => false
  | e :: R, o, a => if e.k = 20 ∧ e.o = o ∧ e.a = a then true else if e.k = 21 ∧ e.o = o ∧ e.a = a then false else lvR R o a
def lvT (T : List Me) (o a : Int) : Bool := lvR T.reverse o a
section
variable {T : List Me} {M : CS} {e : Me} {r : Gor} {k o a x g : Int}
theorem lvT_snoc : lvT (T ++ [e]) o a = if e.k = 20 ∧ e.o = o ∧ e.a = a then true else if e.k = 21 ∧ e.o = o ∧ e.a = a then false else lvT T o a := by
  unfold lvT
  rw [List.reverse_append]
  simp [lvR]
theorem doo_mem : (M.doo e r).tick.mem = if e.k = 20 then insE (e.o + (e.a - 1)) e.o M.mem else if e.k = 21 then delE (e.o + (e.a - 1)) M.mem else M.mem := by
  show (M.doo e r).mem = _
  unfold CS.doo
  by_cases h3 : e.k = 3
  · simp [h3]
  by_cases h4 : e.k = 4
  · simp [h4]
  by_cases h5 : e.k = 5
  · simp [h5]
  by_cases h6 : e.k = 6
  · simp [h6]
  by_cases h7 : e.k = 7
  · simp [h7]
  by_cases h8 : e.k = 8
  · simp [h8]
  by_cases h9 : e.k = 9
  · simp [h9]
  by_cases h10 : e.k = 10
  · cases hc : M.chans e.o <;> simp [h10]
  by_cases h11 : e.k = 11
  · simp [h11]
  by_cases h12 : e.k = 12
  · cases hc : M.chans e.o <;> simp [h12]
  by_cases h13 : e.k = 13
  · cases hc : M.chans e.o <;> simp [h13]
  by_cases h14 : e.k = 14
  · simp [h14]
  by_cases h16 : e.k = 16
  · simp [h16]
  by_cases h20 : e.k = 20
  · simp [h20]
  by_cases h21 : e.k = 21
  · simp [h21]
  simp [h3, h4, h5, h6, h7, h8, h9, h10, h11, h12, h13, h14, h16, h20, h21]
theorem ask_alloc (h : M.ask e r = 0) (hk : e.k = 20) : ∀ p, nxt e.o M.mem = some p → e.o + (e.a - 1) < p.2 := by
  intro p hp
  unfold CS.ask CS.askOther at h
  simp [hk] at h
  rw [hp] at h
  simp at h
  exact h
theorem ask_free (h : M.ask e r = 0) (hk : e.k = 21) : nxt (e.o + (e.a - 1)) M.mem = some (e.o + (e.a - 1), e.o) := by
  unfold CS.ask CS.askOther at h
  simp [hk] at h
  exact h
/-- Memory. -/
structure LkA (T : List Me) (M : CS) : Prop where
  ris : Ris M.mem
  le : ∀ p ∈ M.mem, p.2 ≤ p.1
  dis : ∀ p ∈ M.mem, ∀ q ∈ M.mem, p.1 < q.1 → p.1 < q.2
  lv : ∀ o a, lvT T o a = true ↔ look (o + (a - 1)) M.mem = some o
theorem LkA.new : LkA [] CS.new := ⟨List.Pairwise.nil, fun p hp => (by cases hp), fun p hp => (by cases hp), fun o a => ⟨fun h => (by cases h), fun h => (by cases h)⟩⟩
theorem LkA.step (h : LkA T M) (hsz : e.k = 20 → 1 ≤ e.a) (hc : Can M e r) : LkA (T ++ [e]) (M.next e) := by
  rw [hc.nx]
  by_cases h20 : e.k = 20
  · have ha := ask_alloc hc.ask h20
    have h1 := hsz h20
    have hfar : ∀ q ∈ M.mem, e.o ≤ q.1 → e.o + (e.a - 1) < q.2 := fun q hq hk => by
      cases hn : nxt e.o M.mem with
      | none => have := nxt_out hn q hq; omega
      | some p =>
        obtain ⟨p1, p2, p3⟩ := nxt_in h.ris hn
        have h2 := ha p hn
        have h3 := p3 q hq hk
        by_cases e9 : p.1 = q.1
        · have := look_of_mem h.ris (x := p.1) (v := p.2) p1
          have h4 := look_of_mem h.ris (x := q.1) (v := q.2) hq
          rw [← e9, this] at h4
          injection h4 with h4
          omega
        · have := h.dis p p1 q hq (by omega)
          have := h.le p p1
          omega
    have hnew : look (e.o + (e.a - 1)) M.mem = none := by
      cases hl : look (e.o + (e.a - 1)) M.mem with
      | none => rfl
      | some v =>
        have hm := look_mem hl
        have h2 : e.o + (e.a - 1) < v := hfar _ hm (by simp only; omega)
        have h3 : v ≤ e.o + (e.a - 1) := h.le _ hm
        omega
    have hmem : (M.doo e r).tick.mem = insE (e.o + (e.a - 1)) e.o M.mem := by rw [doo_mem, if_pos h20]
    refine ⟨by rw [hmem]; exact h.ris.ins _ _, fun p hp => ?_, fun p hp q hq hlt => ?_, fun o a => ?_⟩
    · rw [hmem] at hp
      rcases insE_mem p hp with rfl | hp
      · simp only; omega
      · exact h.le p hp
    · rw [hmem] at hp hq
      rcases insE_mem p hp with rfl | hp
      · rcases insE_mem q hq with rfl | hq
        · omega
        · exact hfar q hq (by simp only at hlt; omega)
      · rcases insE_mem q hq with rfl | hq
        · simp only at hlt ⊢
          by_cases hk : e.o ≤ p.1
          · have := hfar p hp hk
            have := h.le p hp
            omega
          · omega
        · exact h.dis p hp q hq hlt
    · rw [hmem, lvT_snoc, look_insE]
      by_cases hs : e.o = o ∧ e.a = a
      · obtain ⟨rfl, rfl⟩ := hs
        rw [if_pos ⟨h20, rfl, rfl⟩, if_pos rfl]; simp
      · rw [if_neg (fun q => hs q.2), if_neg (fun q => hs q.2)]
        by_cases hk : o + (a - 1) = e.o + (e.a - 1)
        · rw [if_pos hk]
          constructor
          · intro hl
            have := (h.lv o a).1 hl
            rw [hk, hnew] at this
            cases this
          · intro hl
            injection hl with hl
            exact absurd ⟨hl, by omega⟩ hs
        · rw [if_neg hk]; exact h.lv o a
  · by_cases h21 : e.k = 21
    · have hf := ask_free hc.ask h21
      obtain ⟨f1, _, _⟩ := nxt_in h.ris hf
      have hl := look_of_mem h.ris f1
      have hmem : (M.doo e r).tick.mem = delE (e.o + (e.a - 1)) M.mem := by rw [doo_mem, if_neg h20, if_pos h21]
      have hsub := delE_sub (e.o + (e.a - 1)) M.mem
      refine ⟨by rw [hmem]; exact h.ris.del _, fun p hp => ?_, fun p hp q hq hlt => ?_, fun o a => ?_⟩
      · rw [hmem] at hp; exact h.le p (hsub.subset hp)
      · rw [hmem] at hp hq; exact h.dis p (hsub.subset hp) q (hsub.subset hq) hlt
      · rw [hmem, lvT_snoc, look_delE h.ris, if_neg (fun q => h20 q.1)]
        by_cases hs : e.o = o ∧ e.a = a
        · obtain ⟨rfl, rfl⟩ := hs
          rw [if_pos ⟨h21, rfl, rfl⟩, if_pos rfl]; simp
        · rw [if_neg (fun q => hs q.2)]
          by_cases hk : o + (a - 1) = e.o + (e.a - 1)
          · rw [if_pos hk]
            constructor
            · intro hv
              have h2 := (h.lv o a).1 hv
              rw [hk, hl] at h2
              injection h2 with h2
              exact absurd ⟨h2, by omega⟩ hs
            · intro hv; cases hv
          · rw [if_neg hk]; exact h.lv o a
    · have hmem : (M.doo e r).tick.mem = M.mem := by rw [doo_mem, if_neg h20, if_neg h21]
      refine ⟨by rw [hmem]; exact h.ris, by rw [hmem]; exact h.le, by rw [hmem]; exact h.dis, fun o a => ?_⟩
      rw [hmem, lvT_snoc, if_neg (fun q => h20 q.1), if_neg (fun q => h21 q.1)]
      exact h.lv o a
theorem Rch.lkA (h : Rch T M) : LkA T M := by
  induction h with
  | new => exact LkA.new
  | step _ hg hw ih => obtain ⟨r, hc⟩ := why_can hw; exact ih.step hg.al hc
/-- What overlaps. -/
theorem LkA.over (h : LkA T M) (o a : Int) : (∃ p, nxt o M.mem = some p ∧ p.2 ≤ o + (a - 1)) ↔ ∃ o' a', lvT T o' a' = true ∧ o' ≤ o + (a - 1) ∧ o ≤ o' + (a' - 1) := by
  constructor
  · rintro ⟨p, hp, h1⟩
    obtain ⟨p1, p2, _⟩ := nxt_in h.ris hp
    refine ⟨p.2, p.1 - p.2 + 1, (h.lv _ _).2 ?_, h1, by omega⟩
    have e1 : p.2 + (p.1 - p.2 + 1 - 1) = p.1 := by omega
    rw [e1]
    exact look_of_mem h.ris p1
  · rintro ⟨o', a', hl, h1, h2⟩
    have hm := look_mem ((h.lv _ _).1 hl)
    cases hn : nxt o M.mem with
    | none => have : o' + (a' - 1) < o := nxt_out hn _ hm; omega
    | some p =>
      obtain ⟨p1, p2, p3⟩ := nxt_in h.ris hn
      have h3 : p.1 ≤ o' + (a' - 1) := p3 _ hm h2
      refine ⟨p, rfl, ?_⟩
      by_cases e9 : p.1 = o' + (a' - 1)
      · have h4 := look_of_mem h.ris (x := p.1) (v := p.2) p1
        rw [e9, (h.lv _ _).1 hl] at h4
        injection h4 with h4
        omega
      · have h5 : p.1 < o' := h.dis p p1 _ hm (by simp only; omega)
        have := h.le p p1
        omega
/-- What can be freed. -/
theorem LkA.free (h : LkA T M) (o a : Int) : nxt (o + (a - 1)) M.mem = some (o + (a - 1), o) ↔ lvT T o a = true := by
  rw [h.lv]
  constructor
  · intro hn
    exact look_of_mem h.ris (nxt_in h.ris hn).1
  · intro hl
    have hm := look_mem hl
    cases hn : nxt (o + (a - 1)) M.mem with
    | none => have : o + (a - 1) < o + (a - 1) := nxt_out hn _ hm; omega
    | some p =>
      obtain ⟨p1, p2, p3⟩ := nxt_in h.ris hn
      have h3 : p.1 ≤ o + (a - 1) := p3 _ hm (Int.le_refl _)
      have e9 : p.1 = o + (a - 1) := by omega
      have h4 := look_of_mem h.ris (x := p.1) (v := p.2) p1
      rw [e9, hl] at h4
      injection h4 with h4
      rw [← e9, h4]
end
end Go.Proofs.YtafkammiehcdjaaGreatDoor
/-
  The reason, told by counts over the events that came, is the checker's.
-/
namespace Go.Proofs.YtafkammiehcdjaaGreatDoor
def wrs (T : List Me) (g o : Int) : Bool := decide (cnG T g 4 o < cnG T g 3 o)
def rds (T : List Me) (g o : Int) : Bool := decide (cnG T g 6 o < cnG T g 5 o)
def anyWr (T : List Me) (o : Int) : Bool := T.any fun x => decide (x.k = 3 ∧ x.o = o) && wrs T x.g o
def anyRd (T : List Me) (o : Int) : Bool := T.any fun x => decide (x.k = 5 ∧ x.o = o) && rds T x.g o
/-- Is there an allocation that lives, of a sort? -/
def lvAny (p : Int → Int → Bool) : List Me → Bool
  | [] => false
  | x :: T => (decide (x.k = 20) && !(T.any fun y => decide (y.k = 21 ∧ y.o = x.o ∧ y.a = x.a)) && p x.o x.a) || lvAny p T
def ofLk (T : List Me) (e : Me) : Int :=
  if e.k = 3 ∧ (anyWr T e.o = true ∨ anyRd T e.o = true) then 4
  else if e.k = 4 ∧ wrs T e.g e.o = false then 5
  else if e.k = 5 ∧ anyWr T e.o = true then 6
  else if e.k = 6 ∧ rds T e.g e.o = false then 7
  else 0
def ofGr (T : List Me) (e : Me) : Int :=
  if e.k = 7 then if bgT T e.a then 8 else 0
  else if bgT T e.a = false then 9
  else if nmd T 8 e.a then 10
  else if e.a = e.g then 11
  else if (dueT T e.a).isSome then 12
  else 0
section
variable {T : List Me} {M : CS} {e : Me} {r : Gor} {k o a x g : Int}
theorem wrs_iff : wrs T g o = true ↔ 0 < wT T g o := by
  unfold wrs wT
  rw [decide_eq_true_iff]
  omega
theorem rds_iff : rds T g o = true ↔ 0 < rT T g o := by
  unfold rds rT
  rw [decide_eq_true_iff]
  omega
theorem cnG_mem (h : 0 < cnG T g k o) : ∃ x ∈ T, x.g = g ∧ x.k = k ∧ x.o = o := by
  unfold cnG at h
  obtain ⟨x, hx, hp⟩ := List.countP_pos_iff.1 h
  exact ⟨x, hx, of_decide_eq_true hp⟩
theorem anyWr_iff : anyWr T o = true ↔ ∃ g, 0 < wT T g o := by
  unfold anyWr
  rw [List.any_eq_true]
  constructor
  · rintro ⟨x, _, hx⟩
    rw [Bool.and_eq_true] at hx
    exact ⟨x.g, wrs_iff.1 hx.2⟩
  · rintro ⟨g, hg⟩
    obtain ⟨x, hx, h1, h2, h3⟩ := cnG_mem (T := T) (g := g) (k := 3) (o := o) (by unfold wT at hg; omega)
    refine ⟨x, hx, ?_⟩
    rw [Bool.and_eq_true, h1]
    exact ⟨decide_eq_true ⟨h2, h3⟩, wrs_iff.2 hg⟩
theorem anyRd_iff : anyRd T o = true ↔ ∃ g, 0 < rT T g o := by
  unfold anyRd
  rw [List.any_eq_true]
  constructor
  · rintro ⟨x, _, hx⟩
    rw [Bool.and_eq_true] at hx
    exact ⟨x.g, rds_iff.1 hx.2⟩
  · rintro ⟨g, hg⟩
    obtain ⟨x, hx, h1, h2, h3⟩ := cnG_mem (T := T) (g := g) (k := 5) (o := o) (by unfold rT at hg; omega)
    refine ⟨x, hx, ?_⟩
    rw [Bool.and_eq_true, h1]
    exact ⟨decide_eq_true ⟨h2, h3⟩, rds_iff.2 hg⟩
theorem hv_has2 (h : LkL T M) (hr : M.gs g = some r) : has o r.held = true ↔ 0 < hv M g o := by
  constructor
  · intro hh; have := hv_has h hr hh; omega
  · intro hp
    unfold hv at hp
    unfold has
    cases hq : look o r.held with
    | none => simp [hr, hq] at hp
    | some v => rfl
theorem ofLk_eq (h : LkL T M) (hr : M.gs e.g = some r) (hk : 3 ≤ e.k ∧ e.k ≤ 6) : M.askLock e r = ofLk T e := by
  have hW : M.toWrite e.o = true ↔ anyWr T e.o = true := by rw [h.anyW, anyWr_iff]
  have hA : 0 < M.times e.o ↔ (anyWr T e.o = true ∨ anyRd T e.o = true) := by
    rw [h.any, anyWr_iff, anyRd_iff]
    constructor
    · rintro ⟨g, hg | hg⟩
      · exact .inl ⟨g, hg⟩
      · exact .inr ⟨g, hg⟩
    · rintro (⟨g, hg⟩ | ⟨g, hg⟩)
      · exact ⟨g, .inl hg⟩
      · exact ⟨g, .inr hg⟩
  have hH := hv_has2 (o := e.o) h hr
  have he := h.eq e.g e.o
  have hn := h.nn e.g e.o
  unfold CS.askLock ofLk
  have : e.k = 3 ∨ e.k = 4 ∨ e.k = 5 ∨ e.k = 6 := by omega
  rcases this with h1 | h1 | h1 | h1
  · by_cases hq : 0 < M.times e.o
    · have := hA.1 hq
      simp [h1, hq, this]
    · have hq2 : ¬ (anyWr T e.o = true ∨ anyRd T e.o = true) := fun q => hq (hA.2 q)
      simp only [h1, if_true, if_neg hq, if_neg hq2, true_and]
      simp
  · have hw : (M.toWrite e.o = true ∧ has e.o r.held = true) ↔ wrs T e.g e.o = true := by
      rw [wrs_iff, hH]
      constructor
      · rintro ⟨q1, q2⟩
        have := (h.wr _ q1).2 e.g
        omega
      · intro q
        have q1 := (h.anyW e.o).2 ⟨e.g, q⟩
        have := (h.wr _ q1).2 e.g
        exact ⟨q1, by omega⟩
    revert hw
    cases M.toWrite e.o <;> cases has e.o r.held <;> cases wrs T e.g e.o <;> simp [h1]
  · revert hW
    cases M.toWrite e.o <;> cases anyWr T e.o <;> simp [h1]
  · have hw : (M.toWrite e.o = false ∧ has e.o r.held = true) ↔ rds T e.g e.o = true := by
      rw [rds_iff, hH]
      constructor
      · rintro ⟨q1, q2⟩
        have := h.fr _ q1 e.g
        omega
      · intro q
        have q1 : M.toWrite e.o = false := by
          cases hz : M.toWrite e.o with
          | false => rfl
          | true => have := (h.wr _ hz).2 e.g; omega
        have := h.fr _ q1 e.g
        exact ⟨q1, by omega⟩
    revert hw
    cases M.toWrite e.o <;> cases has e.o r.held <;> cases rds T e.g e.o <;> simp [h1]
theorem ofGr_eq (hG : LkG T M) (hD : LkD T M) (hk : e.k = 7 ∨ e.k = 8) : M.askGor e = ofGr T e := by
  unfold CS.askGor ofGr
  have hb := hG.bg e.a
  rcases hk with h1 | h1
  · simp only [h1, if_true, hb]
  · have h17 : ¬ e.k = 7 := by omega
    simp only [if_neg h17]
    cases hq : M.gs e.a with
    | none =>
      rw [hq] at hb
      have hb2 : bgT T e.a = false := hb.symm
      simp [hb2]
    | some q =>
      rw [hq] at hb
      have hb2 : bgT T e.a = true := hb.symm
      have ha := hG.al e.a
      rw [hb2, Bool.true_and] at ha
      have hd := hD.du _ _ hq
      cases hj : nmd T 8 e.a with
      | true =>
        rw [hj] at ha
        simp [hb2, ha]
      | false =>
        rw [hj] at ha
        by_cases h2 : e.a = e.g
        · rw [h2] at hb2 ha
          simp [h2, hb2, ha]
        · by_cases h3 : 0 < q.as_
          · simp [hb2, ha, h2, hd, h3]
          · simp [hb2, ha, h2, hd, h3]
end
end Go.Proofs.YtafkammiehcdjaaGreatDoor
