import Derived.Test.YtafkammiehcdjaaGreatDoorZr00
/-
  What a checker knows, as counts over the events that came: channels, counters, onces.
-/
namespace Go.Proofs.YtafkammiehcdjaaGreatDoor
def nmd (T : List Me) (k x : Int) : Bool := T.any fun e => decide (e.k = k ∧ e.a = x)
def cnA (T : List Me) (k o : Int) : Nat := T.countP fun e => decide (e.k = k ∧ e.o = o)
def cnT (T : List Me) (k o a : Int) : Nat := T.countP fun e => decide (e.k = k ∧ e.o = o ∧ e.a = a)
def cnZ : List Me → Int → Int
  | [], _ => 0
  | e :: T, o => (if e.k = 14 ∧ e.o = o then mzag e.a else 0) + cnZ T o
def roomT : List Me → Int → Option Int
  | [], _ => none
  | e :: T, o => if e.k = 9 ∧ e.o = o then some e.a else roomT T o
/-- What Check asks of an event, as far as it counts here. -/
structure Gdm (e : Me) : Prop where
  g : 0 ≤ e.g ∧ e.g ≤ 65535
  on : e.k = 16 → e.a = 0 ∨ e.a = 1
  rc : e.k = 12 → e.a = 0 ∨ e.a = 1
  al : e.k = 20 → 1 ≤ e.a
/-- A checker behind events that can come. -/
inductive Rch : List Me → CS → Prop
  | new : Rch [] CS.new
  | step {T : List Me} {M : CS} {e : Me} : Rch T M → Gdm e → M.why e = 0 → Rch (T ++ [e]) (M.next e)
section
variable {T : List Me} {M : CS} {e : Me} {r : Gor} {k o a x g : Int}
theorem nmd_snoc : nmd (T ++ [e]) k x = (nmd T k x || decide (e.k = k ∧ e.a = x)) := by
  unfold nmd; simp [List.any_append]
theorem cnA_snoc : cnA (T ++ [e]) k o = cnA T k o + (if e.k = k ∧ e.o = o then 1 else 0) := by
  unfold cnA
  rw [List.countP_append]
  congr 1
  by_cases h : e.k = k ∧ e.o = o
  · rw [if_pos h]; simp [h]
  · rw [if_neg h]; simp [h]
theorem cnT_snoc : cnT (T ++ [e]) k o a = cnT T k o a + (if e.k = k ∧ e.o = o ∧ e.a = a then 1 else 0) := by
  unfold cnT
  rw [List.countP_append]
  congr 1
  by_cases h : e.k = k ∧ e.o = o ∧ e.a = a
  · rw [if_pos h]; simp [h]
  · rw [if_neg h]; simp [h]
theorem cnZ_snoc : cnZ (T ++ [e]) o = cnZ T o + (if e.k = 14 ∧ e.o = o then mzag e.a else 0) := by
  induction T with
  | nil => simp [cnZ]
  | cons x T ih => rw [List.cons_append, cnZ, cnZ, ih]; omega
theorem roomT_snoc : roomT (T ++ [e]) o = match roomT T o with
    | some r => some r
    | none => if e.k = 9 ∧ e.o = o then some e.a else none := by
  induction T with
  | nil => simp [roomT]
  | cons x T ih =>
    rw [List.cons_append, roomT, roomT]
    by_cases h : x.k = 9 ∧ x.o = o
    · rw [if_pos h, if_pos h]
    · rw [if_neg h, if_neg h, ih]
/-- An event that can come. -/
structure Can (M : CS) (e : Me) (r : Gor) : Prop where
  gs : M.gs e.g = some r
  al : has e.g M.alive = true
  du : 0 < r.as_ → e.k = 11 ∧ e.o = r.to
  ask : M.ask e r = 0
  nx : M.next e = (M.doo e r).tick
theorem why_can (h : M.why e = 0) : ∃ r, Can M e r := by
  unfold CS.why at h
  cases hg : M.gs e.g with
  | none => rw [hg] at h; simp at h
  | some r =>
    rw [hg] at h
    simp only at h
    have h0 : M.act e = 0 := by
      by_cases h0 : M.act e = 0
      · exact h0
      · rw [if_pos h0] at h; exact h
    rw [if_neg (by simp [h0])] at h
    unfold CS.act at h0
    rw [hg] at h0
    simp only at h0
    by_cases ha : has e.g M.alive = true
    · rw [if_pos ha] at h0
      refine ⟨r, hg, ha, fun h1 => ?_, h, ?_⟩
      · by_cases h2 : e.k ≠ 11 ∨ e.o ≠ r.to
        · rw [if_pos ⟨h1, h2⟩] at h0; simp at h0
        · omega
      · unfold CS.next; rw [hg]
    · rw [if_neg ha] at h0; simp at h0
theorem doo_cnt : (M.doo e r).tick.cnt = if e.k = 14 then setF M.cnt e.o (M.cnt e.o + mzag e.a) else M.cnt := by
  show (M.doo e r).cnt = _
  unfold CS.doo
  by_cases h3 : e.k = 3
  · simp [h3]
  by_cases h4 : e.k = 4
  · simp [h4]
  by_cases h5 : e.k = 5
  · simp [h5]
  by_cases h6 : e.k = 6
  · simp [h6]
  by_cases h7 : e.k = 7
  · simp [h7]
  by_cases h8 : e.k = 8
  · simp [h8]
  by_cases h9 : e.k = 9
  · simp [h9]
  by_cases h10 : e.k = 10
  · cases hc : M.chans e.o <;> simp [h10]
  by_cases h11 : e.k = 11
  · simp [h11]
  by_cases h12 : e.k = 12
  · cases hc : M.chans e.o <;> simp [h12]
  by_cases h13 : e.k = 13
  · cases hc : M.chans e.o <;> simp [h13]
  by_cases h14 : e.k = 14
  · simp [h14]
  by_cases h16 : e.k = 16
  · simp [h16]
  by_cases h20 : e.k = 20
  · simp [h20]
  by_cases h21 : e.k = 21
  · simp [h21]
  simp [h3, h4, h5, h6, h7, h8, h9, h10, h11, h12, h13, h14, h16, h20, h21]
theorem doo_once : (M.doo e r).tick.once = if e.k = 16 then setF M.once e.o true else M.once := by
  show (M.doo e r).once = _
  unfold CS.doo
  by_cases h3 : e.k = 3
  · simp [h3]
  by_cases h4 : e.k = 4
  · simp [h4]
  by_cases h5 : e.k = 5
  · simp [h5]
  by_cases h6 : e.k = 6
  · simp [h6]
  by_cases h7 : e.k = 7
  · simp [h7]
  by_cases h8 : e.k = 8
  · simp [h8]
  by_cases h9 : e.k = 9
  · simp [h9]
  by_cases h10 : e.k = 10
  · cases hc : M.chans e.o <;> simp [h10]
  by_cases h11 : e.k = 11
  · simp [h11]
  by_cases h12 : e.k = 12
  · cases hc : M.chans e.o <;> simp [h12]
  by_cases h13 : e.k = 13
  · cases hc : M.chans e.o <;> simp [h13]
  by_cases h14 : e.k = 14
  · simp [h14]
  by_cases h16 : e.k = 16
  · simp [h16]
  by_cases h20 : e.k = 20
  · simp [h20]
  by_cases h21 : e.k = 21
  · simp [h21]
  simp [h3, h4, h5, h6, h7, h8, h9, h10, h11, h12, h13, h14, h16, h20, h21]
def chNext (M : CS) (e : Me) : Int → Option Chn :=
  if e.k = 9 then setF M.chans e.o (some ⟨e.a, 0, 0, false⟩)
  else match M.chans e.o with
    | none => M.chans
    | some c => if e.k = 10 then setF M.chans e.o (some { c with sends := c.sends + 1 }) else if e.k = 12 then setF M.chans e.o (some { c with recvs := c.recvs + e.a }) else if e.k = 13 then setF M.chans e.o (some { c with closed := true }) else M.chans
theorem doo_chans : (M.doo e r).tick.chans = chNext M e := by
  show (M.doo e r).chans = _
  unfold CS.doo chNext
  by_cases h3 : e.k = 3
  · cases hc : M.chans e.o <;> simp [h3]
  by_cases h4 : e.k = 4
  · cases hc : M.chans e.o <;> simp [h4]
  by_cases h5 : e.k = 5
  · cases hc : M.chans e.o <;> simp [h5]
  by_cases h6 : e.k = 6
  · cases hc : M.chans e.o <;> simp [h6]
  by_cases h7 : e.k = 7
  · cases hc : M.chans e.o <;> simp [h7]
  by_cases h8 : e.k = 8
  · cases hc : M.chans e.o <;> simp [h8]
  by_cases h9 : e.k = 9
  · simp [h9]
  by_cases h10 : e.k = 10
  · cases hc : M.chans e.o <;> simp [h10]
  by_cases h11 : e.k = 11
  · cases hc : M.chans e.o <;> simp [h11]
  by_cases h12 : e.k = 12
  · cases hc : M.chans e.o <;> simp [h12]
  by_cases h13 : e.k = 13
  · cases hc : M.chans e.o <;> simp [h13]
  by_cases h14 : e.k = 14
  · cases hc : M.chans e.o <;> simp [h14]
  by_cases h16 : e.k = 16
  · cases hc : M.chans e.o <;> simp [h16]
  by_cases h20 : e.k = 20
  · cases hc : M.chans e.o <;> simp [h20]
  by_cases h21 : e.k = 21
  · cases hc : M.chans e.o <;> simp [h21]
  cases hc : M.chans e.o <;> simp [h3, h4, h5, h6, h7, h8, h9, h10, h11, h12, h13, h14, h16, h20, h21]
/-- Wait groups and onces. -/
structure LkO (T : List Me) (M : CS) : Prop where
  ct : ∀ o, M.cnt o = cnZ T o
  on : ∀ o, M.once o = decide (0 < cnT T 16 o 1)
theorem LkO.new : LkO [] CS.new := ⟨fun _ => rfl, fun _ => rfl⟩
theorem ask_once (h : M.ask e r = 0) (hk : e.k = 16) : ¬ (e.a = 1 ∧ M.once e.o = true) ∧ ¬ (e.a = 0 ∧ ¬ M.once e.o = true) := by
  unfold CS.ask CS.askOther at h
  simp [hk] at h
  by_cases h1 : e.a = 1 ∧ M.once e.o = true
  · rw [if_pos h1] at h; simp at h
  · rw [if_neg h1] at h
    refine ⟨h1, fun h2 => ?_⟩
    rw [if_pos (by simpa using h2)] at h
    simp at h
theorem LkO.step (h : LkO T M) (hg : Gdm e) (hc : Can M e r) : LkO (T ++ [e]) (M.next e) := by
  rw [hc.nx]
  refine ⟨fun o => ?_, fun o => ?_⟩
  · rw [doo_cnt, cnZ_snoc]
    by_cases hk : e.k = 14
    · rw [if_pos hk]
      by_cases ho : e.o = o
      · subst ho; rw [setF_same, if_pos ⟨hk, rfl⟩, h.ct]
      · rw [setF_other _ _ (fun e9 => ho e9.symm), if_neg (fun e9 => ho e9.2), h.ct]; omega
    · rw [if_neg hk, if_neg (fun e9 => hk e9.1), h.ct]; omega
  · rw [doo_once, cnT_snoc]
    by_cases hk : e.k = 16
    · rw [if_pos hk]
      have hq := ask_once hc.ask hk
      by_cases ho : e.o = o
      · subst ho
        rw [setF_same]
        rcases hg.on hk with ha | ha
        · have h1 : M.once e.o = true := by
            cases h9 : M.once e.o with
            | true => rfl
            | false => exact absurd ⟨ha, by rw [h9]; decide⟩ hq.2
          rw [if_neg (by omega), Nat.add_zero, ← h.on, h1]
        · rw [if_pos ⟨hk, rfl, ha⟩]; simp
      · rw [setF_other _ _ (fun e9 => ho e9.symm), if_neg (fun e9 => ho e9.2.1), h.on]; rfl
    · rw [if_neg hk, if_neg (fun e9 => hk e9.1), h.on]; rfl
/-- Channels. -/
structure LkC (T : List Me) (M : CS) : Prop where
  ch : ∀ o, M.chans o = (roomT T o).map fun c => ⟨c, (cnA T 10 o : Int), (cnT T 12 o 1 : Int), decide (0 < cnA T 13 o)⟩
  no : ∀ o, roomT T o = none → cnA T 10 o = 0 ∧ cnT T 12 o 1 = 0 ∧ cnA T 13 o = 0
theorem LkC.new : LkC [] CS.new := ⟨fun _ => rfl, fun _ _ => ⟨rfl, rfl, rfl⟩⟩
theorem ask_chan (h : M.ask e r = 0) (h1 : 9 ≤ e.k) (h2 : e.k ≤ 13) : e.k = 9 ↔ M.chans e.o = none := by
  unfold CS.ask CS.askChan at h
  rw [if_neg (by omega), if_neg (by omega), if_pos ⟨h1, h2⟩] at h
  cases hc : M.chans e.o with
  | none =>
    rw [hc] at h
    simp only at h
    by_cases hk : e.k = 9
    · exact ⟨fun _ => rfl, fun _ => hk⟩
    · rw [if_neg hk] at h; simp at h
  | some c =>
    rw [hc] at h
    simp only at h
    refine ⟨fun hk => ?_, fun e9 => by cases e9⟩
    rw [if_pos hk] at h
    simp at h
theorem LkC.step (h : LkC T M) (hg : Gdm e) (hc : Can M e r) : LkC (T ++ [e]) (M.next e) := by
  rw [hc.nx]
  have hq : 9 ≤ e.k → e.k ≤ 13 → (e.k = 9 ↔ roomT T e.o = none) := fun h1 h2 => by
    rw [ask_chan hc.ask h1 h2, h.ch]; simp
  refine ⟨fun o => ?_, fun o hr => ?_⟩
  · rw [doo_chans, roomT_snoc, cnA_snoc, cnT_snoc, cnA_snoc]
    unfold chNext
    by_cases ho : e.o = o
    · subst ho
      by_cases h9 : e.k = 9
      · have hn := (hq (by omega) (by omega)).1 h9
        obtain ⟨n1, n2, n3⟩ := h.no _ hn
        rw [if_pos h9, setF_same, hn]
        simp [h9, n1, n2, n3]
      · rw [if_neg h9, h.ch]
        cases hr : roomT T e.o with
        | none =>
          have hk : ¬ (9 ≤ e.k ∧ e.k ≤ 13) := fun hk => h9 ((hq hk.1 hk.2).2 hr)
          simp [h9, h.ch, hr]
        | some c =>
          simp only [Option.map_some]
          by_cases h10 : e.k = 10
          · rw [if_pos h10, setF_same]; simp [h10]
          · rw [if_neg h10]
            by_cases h12 : e.k = 12
            · rw [if_pos h12, setF_same]
              rcases hg.rc h12 with ha | ha <;> simp [h12, ha]
            · rw [if_neg h12]
              by_cases h13 : e.k = 13
              · rw [if_pos h13, setF_same]; simp [h13]
              · rw [if_neg h13, h.ch, hr]; simp [h10, h12, h13]
    · have ho2 : o ≠ e.o := fun e9 => ho e9.symm
      have e1 : (if e.k = 9 then setF M.chans e.o (some ⟨e.a, 0, 0, false⟩) else match M.chans e.o with
        | none => M.chans
        | some c => if e.k = 10 then setF M.chans e.o (some { c with sends := c.sends + 1 }) else if e.k = 12 then setF M.chans e.o (some { c with recvs := c.recvs + e.a }) else if e.k = 13 then setF M.chans e.o (some { c with closed := true }) else M.chans) o = M.chans o := by
        cases M.chans e.o with
        | none =>
          simp only
          split
          · exact setF_other _ _ ho2
          · rfl
        | some c =>
          simp only
          repeat' split
          all_goals first | rfl | exact setF_other _ _ ho2
      rw [e1, h.ch]
      cases hr : roomT T o with
      | none => simp [ho]
      | some c => simp [ho]
  · rw [roomT_snoc] at hr
    cases hr2 : roomT T o with
    | some c => rw [hr2] at hr; cases hr
    | none =>
      rw [hr2] at hr
      simp only at hr
      obtain ⟨n1, n2, n3⟩ := h.no _ hr2
      have h9 : ¬ (e.k = 9 ∧ e.o = o) := fun e9 => by rw [if_pos e9] at hr; cases hr
      have hk : ∀ q : Int, 10 ≤ q → q ≤ 13 → e.k = q → e.o ≠ o := fun q q1 q2 q3 q4 => by
        subst q4
        exact h9 ⟨(hq (by omega) (by omega)).2 hr2, rfl⟩
      rw [cnA_snoc, cnT_snoc, cnA_snoc, n1, n2, n3]
      refine ⟨?_, ?_, ?_⟩
      · rw [if_neg (fun e9 => hk 10 (by omega) (by omega) e9.1 e9.2)]
      · rw [if_neg (fun e9 => hk 12 (by omega) (by omega) e9.1 e9.2.1)]
      · rw [if_neg (fun e9 => hk 13 (by omega) (by omega) e9.1 e9.2)]
theorem Rch.lkO (h : Rch T M) : LkO T M := by
  induction h with
  | new => exact LkO.new
  | step _ hg hw ih => obtain ⟨r, hc⟩ := why_can hw; exact ih.step hg hc
theorem Rch.lkC (h : Rch T M) : LkC T M := by
  induction h with
  | new => exact LkC.new
  | step _ hg hw ih => obtain ⟨r, hc⟩ := why_can hw; exact ih.step hg hc
end
end Go.Proofs.YtafkammiehcdjaaGreatDoor
/-
  What a checker knows, as counts over the events that came: goroutines, and who waits for an Ack.
-/
namespace Go.Proofs.YtafkammiehcdjaaGreatDoor
/-- Was the goroutine begun? -/
def bgT (T : List Me) (g : Int) : Bool := decide (g = 0) || nmd T 7 g
section
variable {T : List Me} {M : CS} {e : Me} {r : Gor} {k o a x g : Int}
theorem doo_alive : (M.doo e r).tick.alive = if e.k = 7 then insE e.a 0 M.alive else if e.k = 8 then delE e.a M.alive else M.alive := by
  show (M.doo e r).alive = _
  unfold CS.doo
  by_cases h3 : e.k = 3
  · simp [h3]
  by_cases h4 : e.k = 4
  · simp [h4]
  by_cases h5 : e.k = 5
  · simp [h5]
  by_cases h6 : e.k = 6
  · simp [h6]
  by_cases h7 : e.k = 7
  · simp [h7]
  by_cases h8 : e.k = 8
  · simp [h8]
  by_cases h9 : e.k = 9
  · simp [h9]
  by_cases h10 : e.k = 10
  · cases hc : M.chans e.o <;> simp [h10]
  by_cases h11 : e.k = 11
  · simp [h11]
  by_cases h12 : e.k = 12
  · cases hc : M.chans e.o <;> simp [h12]
  by_cases h13 : e.k = 13
  · cases hc : M.chans e.o <;> simp [h13]
  by_cases h14 : e.k = 14
  · simp [h14]
  by_cases h16 : e.k = 16
  · simp [h16]
  by_cases h20 : e.k = 20
  · simp [h20]
  by_cases h21 : e.k = 21
  · simp [h21]
  simp [h3, h4, h5, h6, h7, h8, h9, h10, h11, h12, h13, h14, h16, h20, h21]
/-- The goroutine's own entry behind its event. -/
def gNext (M : CS) (e : Me) (r : Gor) : Gor :=
  if e.k = 3 then { r with held := insE e.o 1 r.held }
  else if e.k = 4 then { r with held := delE e.o r.held }
  else if e.k = 5 then { r with held := insE e.o ((look e.o r.held).getD 0 + 1) r.held }
  else if e.k = 6 then { r with held := if (look e.o r.held).getD 0 - 1 = 0 then delE e.o r.held else insE e.o ((look e.o r.held).getD 0 - 1) r.held }
  else if e.k = 10 then match M.chans e.o with
    | none => r
    | some c => if c.room = 0 then { r with to := e.o, as_ := c.sends + 1 } else r
  else if e.k = 11 then { r with to := 0, as_ := 0 }
  else r
theorem setF_self {α : Type} (f : Int → α) (y : Int) : setF f y (f y) = f := by
  funext q
  by_cases h : q = y
  · rw [h, setF_same]
  · rw [setF_other _ _ h]
theorem doo_gs (hr : M.gs e.g = some r) : (M.doo e r).tick.gs = if e.k = 7 then setF M.gs e.a (some ⟨[], 0, 0⟩) else setF M.gs e.g (some (gNext M e r)) := by
  have hs : setF M.gs e.g (some r) = M.gs := by rw [← hr]; exact setF_self _ _
  show (M.doo e r).gs = _
  unfold CS.doo gNext
  by_cases h3 : e.k = 3
  · simp [h3]
  by_cases h4 : e.k = 4
  · simp [h4]
  by_cases h5 : e.k = 5
  · simp [h5]
  by_cases h6 : e.k = 6
  · simp [h6]
  by_cases h7 : e.k = 7
  · simp [h7]
  by_cases h8 : e.k = 8
  · simp [h8, hs]
  by_cases h9 : e.k = 9
  · simp [h9, hs]
  by_cases h10 : e.k = 10
  · cases hc : M.chans e.o with
    | none => simp [h10, hs]
    | some c =>
      by_cases hz : c.room = 0
      · simp [h10, hz]
      · simp [h10, hz, hs]
  by_cases h11 : e.k = 11
  · simp [h11]
  by_cases h12 : e.k = 12
  · cases hc : M.chans e.o <;> simp [h12, hs]
  by_cases h13 : e.k = 13
  · cases hc : M.chans e.o <;> simp [h13, hs]
  by_cases h14 : e.k = 14
  · simp [h14, hs]
  by_cases h16 : e.k = 16
  · simp [h16, hs]
  by_cases h20 : e.k = 20
  · simp [h20, hs]
  by_cases h21 : e.k = 21
  · simp [h21, hs]
  simp [h3, h4, h5, h6, h7, h8, h9, h10, h11, h12, h13, h14, h16, h20, h21, hs]
theorem gNext_as : (gNext M e r).as_ = if e.k = 10 then (match M.chans e.o with
    | none => r.as_
    | some c => if c.room = 0 then c.sends + 1 else r.as_) else if e.k = 11 then 0 else r.as_ := by
  unfold gNext
  by_cases h3 : e.k = 3
  · simp [h3]
  by_cases h4 : e.k = 4
  · simp [h4]
  by_cases h5 : e.k = 5
  · simp [h5]
  by_cases h6 : e.k = 6
  · simp [h6]
  by_cases h10 : e.k = 10
  · cases hc : M.chans e.o with
    | none => simp [h10]
    | some c =>
      by_cases hz : c.room = 0
      · simp [h10, hz]
      · simp [h10, hz]
  by_cases h11 : e.k = 11
  · simp [h11]
  simp [h3, h4, h5, h6, h10, h11]
theorem gNext_to : (gNext M e r).to = if e.k = 10 then (match M.chans e.o with
    | none => r.to
    | some c => if c.room = 0 then e.o else r.to) else if e.k = 11 then 0 else r.to := by
  unfold gNext
  by_cases h3 : e.k = 3
  · simp [h3]
  by_cases h4 : e.k = 4
  · simp [h4]
  by_cases h5 : e.k = 5
  · simp [h5]
  by_cases h6 : e.k = 6
  · simp [h6]
  by_cases h10 : e.k = 10
  · cases hc : M.chans e.o with
    | none => simp [h10]
    | some c =>
      by_cases hz : c.room = 0
      · simp [h10, hz]
      · simp [h10, hz]
  by_cases h11 : e.k = 11
  · simp [h11]
  simp [h3, h4, h5, h6, h10, h11]
/-- Goroutines: begun, and there still. -/
structure LkG (T : List Me) (M : CS) : Prop where
  bg : ∀ g, (M.gs g).isSome = bgT T g
  al : ∀ g, has g M.alive = (bgT T g && !nmd T 8 g)
  ris : Ris M.alive
  own : ∀ e ∈ T, bgT T e.g = true
  jn : ∀ g, nmd T 8 g = true → bgT T g = true
theorem LkG.new : LkG [] CS.new := by
  refine ⟨fun g => ?_, fun g => ?_, List.pairwise_singleton .., fun e he => (by cases he), fun g hg => (by cases hg)⟩
  · by_cases h : g = 0
    · subst h; rfl
    · simp [CS.new, setF_other _ _ h, bgT, nmd, h]
  · by_cases h : g = 0
    · subst h; rfl
    · have h2 : ¬ (0 : Int) = g := fun e => h e.symm
      simp [CS.new, has, look, bgT, nmd, h, h2]
theorem bgT_snoc : bgT (T ++ [e]) g = (bgT T g || decide (e.k = 7 ∧ e.a = g)) := by
  unfold bgT; rw [nmd_snoc, Bool.or_assoc]
theorem ask_fork (h : M.ask e r = 0) (hk : e.k = 7) : M.gs e.a = none := by
  unfold CS.ask CS.askGor at h
  simp [hk] at h
  exact h
theorem ask_join (h : M.ask e r = 0) (hk : e.k = 8) : ∃ q, M.gs e.a = some q ∧ has e.a M.alive = true ∧ e.a ≠ e.g ∧ ¬ 0 < q.as_ := by
  unfold CS.ask CS.askGor at h
  simp only [hk] at h
  cases hq : M.gs e.a with
  | none => rw [hq] at h; simp at h
  | some q =>
    rw [hq] at h
    simp at h
    refine ⟨q, rfl, ?_⟩
    by_cases h1 : has e.a M.alive = true
    · rw [if_pos h1] at h
      by_cases h2 : e.a = e.g
      · rw [if_pos h2] at h; simp at h
      · rw [if_neg h2] at h
        by_cases h3 : 0 < q.as_
        · rw [if_pos h3] at h; simp at h
        · exact ⟨h1, h2, h3⟩
    · rw [if_neg h1] at h; simp at h
theorem LkG.step (h : LkG T M) (hc : Can M e r) : LkG (T ++ [e]) (M.next e) := by
  rw [hc.nx]
  have he : bgT T e.g = true := by rw [← h.bg, hc.gs]; rfl
  refine ⟨fun g => ?_, fun g => ?_, ?_, fun x hx => ?_, fun g hg => ?_⟩
  · rw [doo_gs hc.gs, bgT_snoc]
    by_cases hk : e.k = 7
    · rw [if_pos hk]
      by_cases hg : e.a = g
      · subst hg; rw [setF_same]; simp [hk]
      · rw [setF_other _ _ (fun e9 => hg e9.symm), h.bg]; simp [hg]
    · rw [if_neg hk]
      by_cases hg : g = e.g
      · subst hg; rw [setF_same, he]; rfl
      · rw [setF_other _ _ hg, h.bg]; simp [hk]
  · rw [doo_alive, bgT_snoc, nmd_snoc]
    by_cases h7 : e.k = 7
    · have hn := ask_fork hc.ask h7
      have hb : bgT T e.a = false := by rw [← h.bg, hn]; rfl
      rw [if_pos h7]
      unfold has
      rw [look_insE]
      by_cases hg : g = e.a
      · subst hg
        rw [if_pos rfl]
        have h8 : nmd T 8 e.a = false := by
          cases h9 : nmd T 8 e.a with
          | false => rfl
          | true => rw [h.jn _ h9] at hb; cases hb
        simp [h7, h8]
      · rw [if_neg hg]
        have := h.al g
        unfold has at this
        rw [this]
        have hg2 : ¬ e.a = g := fun e9 => hg e9.symm
        simp [h7, hg2]
    · rw [if_neg h7]
      by_cases h8 : e.k = 8
      · rw [if_pos h8]
        unfold has
        rw [look_delE h.ris]
        by_cases hg : g = e.a
        · subst hg; rw [if_pos rfl]; simp [h8]
        · rw [if_neg hg]
          have := h.al g
          unfold has at this
          rw [this]
          have hg2 : ¬ e.a = g := fun e9 => hg e9.symm
          simp [h8, hg2]
      · rw [if_neg h8, h.al]; simp [h7, h8]
  · rw [doo_alive]
    by_cases h7 : e.k = 7
    · rw [if_pos h7]; exact h.ris.ins _ _
    · rw [if_neg h7]
      by_cases h8 : e.k = 8
      · rw [if_pos h8]; exact h.ris.del _
      · rw [if_neg h8]; exact h.ris
  · rw [bgT_snoc]
    rcases List.mem_append.1 hx with hx | hx
    · rw [h.own x hx]; rfl
    · simp at hx; subst hx; rw [he]; rfl
  · rw [nmd_snoc, Bool.or_eq_true] at hg
    rw [bgT_snoc]
    rcases hg with hg | hg
    · rw [h.jn g hg]; rfl
    · have h1 := of_decide_eq_true hg
      obtain ⟨q, hq, _⟩ := ask_join hc.ask h1.1
      have : bgT T e.a = true := by rw [← h.bg, hq]; rfl
      rw [← h1.2, this]; rfl
theorem Rch.lkG (h : Rch T M) : LkG T M := by
  induction h with
  | new => exact LkG.new
  | step _ hg hw ih => obtain ⟨r, hc⟩ := why_can hw; exact ih.step hc
/-- Who waits for an Ack: the channel, which of its sends. -/
def dueR : List Me → Int → Option (Int × Int)
  | [], _ => none
  | e :: R, g => if e.g = g then (if e.k = 10 ∧ roomT R.reverse e.o = some 0 then some (e.o, (cnA R.reverse 10 e.o : Int) + 1) else none) else dueR R g
def dueT (T : List Me) (g : Int) : Option (Int × Int) := dueR T.reverse g
theorem dueT_snoc : dueT (T ++ [e]) g = if e.g = g then (if e.k = 10 ∧ roomT T e.o = some 0 then some (e.o, (cnA T 10 e.o : Int) + 1) else none) else dueT T g := by
  unfold dueT
  rw [List.reverse_append]
  simp [dueR]
structure LkD (T : List Me) (M : CS) : Prop where
  du : ∀ g r, M.gs g = some r → dueT T g = if 0 < r.as_ then some (r.to, r.as_) else none
  no : ∀ g, M.gs g = none → dueT T g = none
  as : ∀ g r, M.gs g = some r → 0 ≤ r.as_
theorem LkD.new : LkD [] CS.new := by
  refine ⟨fun g r h => ?_, fun g _ => rfl, fun g r h => ?_⟩
  · by_cases hg : g = 0
    · subst hg; cases h; rfl
    · simp [CS.new, setF_other _ _ hg] at h
  · by_cases hg : g = 0
    · subst hg; cases h; exact Int.le_refl _
    · simp [CS.new, setF_other _ _ hg] at h
theorem LkD.own (h : LkD T M) (hC : LkC T M) (hc : Can M e r) : dueT (T ++ [e]) e.g = (if 0 < (gNext M e r).as_ then some ((gNext M e r).to, (gNext M e r).as_) else none) ∧ 0 ≤ (gNext M e r).as_ := by
  have h0 := h.as _ _ hc.gs
  rw [dueT_snoc, if_pos rfl, gNext_as, gNext_to]
  by_cases h10 : e.k = 10
  · rw [if_pos h10, if_pos h10]
    have hd : ¬ 0 < r.as_ := fun e9 => by have := (hc.du e9).1; omega
    have hq := ask_chan hc.ask (by omega) (by omega)
    have hcc := hC.ch e.o
    cases hr : roomT T e.o with
    | none =>
      rw [hr] at hcc
      have := hq.2 hcc
      omega
    | some c =>
      rw [hr] at hcc
      rw [hcc]
      simp only [Option.map_some]
      by_cases hz : c = 0
      · subst hz
        rw [if_pos ⟨h10, rfl⟩, if_pos rfl, if_pos rfl, if_pos (by omega)]
        exact ⟨rfl, by omega⟩
      · rw [if_neg (fun e9 => hz (by have := e9.2; injection this)), if_neg hz, if_neg hz, if_neg hd]
        exact ⟨rfl, h0⟩
  · rw [if_neg h10, if_neg h10, if_neg (fun e9 => h10 e9.1)]
    by_cases h11 : e.k = 11
    · rw [if_pos h11, if_pos h11, if_neg (by omega)]
      exact ⟨rfl, by omega⟩
    · rw [if_neg h11, if_neg h11, if_neg (fun e9 => h11 (hc.du e9).1)]
      exact ⟨rfl, h0⟩
theorem LkD.step (h : LkD T M) (hC : LkC T M) (hc : Can M e r) : LkD (T ++ [e]) (M.next e) := by
  rw [hc.nx]
  have ho := h.own hC hc
  have key : ∀ g q, (M.doo e r).tick.gs g = some q → dueT (T ++ [e]) g = (if 0 < q.as_ then some (q.to, q.as_) else none) ∧ 0 ≤ q.as_ := fun g q hq => by
    rw [doo_gs hc.gs] at hq
    by_cases h7 : e.k = 7
    · rw [if_pos h7] at hq
      have hn := ask_fork hc.ask h7
      by_cases hg : g = e.a
      · subst hg
        rw [setF_same] at hq
        cases hq
        have hne : ¬ e.g = e.a := fun e9 => by rw [← e9, hc.gs] at hn; cases hn
        rw [dueT_snoc, if_neg hne, h.no _ hn, if_neg (Int.lt_irrefl 0)]
        exact ⟨rfl, Int.le_refl 0⟩
      · rw [setF_other _ _ hg] at hq
        by_cases hg2 : e.g = g
        · subst hg2
          rw [hc.gs] at hq
          cases hq
          have hd : ¬ 0 < r.as_ := fun e9 => by have := (hc.du e9).1; omega
          rw [dueT_snoc, if_pos rfl, if_neg (fun e9 => by have := e9.1; omega), if_neg hd]
          exact ⟨rfl, h.as _ _ hc.gs⟩
        · rw [dueT_snoc, if_neg hg2, h.du _ _ hq]
          exact ⟨rfl, h.as _ _ hq⟩
    · rw [if_neg h7] at hq
      by_cases hg : g = e.g
      · subst hg
        rw [setF_same] at hq
        cases hq
        exact ho
      · rw [setF_other _ _ hg] at hq
        rw [dueT_snoc, if_neg (fun e9 => hg e9.symm), h.du _ _ hq]
        exact ⟨rfl, h.as _ _ hq⟩
  refine ⟨fun g q hq => (key g q hq).1, fun g hq => ?_, fun g q hq => (key g q hq).2⟩
  rw [doo_gs hc.gs] at hq
  by_cases h7 : e.k = 7
  · rw [if_pos h7] at hq
    by_cases hg : g = e.a
    · subst hg; rw [setF_same] at hq; cases hq
    · rw [setF_other _ _ hg] at hq
      have hg2 : ¬ e.g = g := fun e9 => by rw [← e9, hc.gs] at hq; cases hq
      rw [dueT_snoc, if_neg hg2, h.no _ hq]
  · rw [if_neg h7] at hq
    by_cases hg : g = e.g
    · subst hg; rw [setF_same] at hq; cases hq
    · rw [setF_other _ _ hg] at hq
      rw [dueT_snoc, if_neg (fun e9 => hg e9.symm), h.no _ hq]
theorem Rch.lkD (h : Rch T M) : LkD T M := by
  induction h with
  | new => exact LkD.new
  | step h0 hg hw ih => obtain ⟨r, hc⟩ := why_can hw; exact ih.step h0.lkC hc
end
end Go.Proofs.YtafkammiehcdjaaGreatDoor
