import Derived.Test.YtafkammiehcdjaaGreatDoorZn09
import Derived.Test.YtafkammiehcdjaaGreatDoorZn28
import Derived.Test.YtafkammiehcdjaaGreatDoorZn02
/-
  Twins of events; prefixes of runs.
-/
namespace Go.Proofs.YtafkammiehcdjaaGreatDoor.E6
open Go.RowKit Go.Maps Go.Shelf
theorem ecells_get {l : List Ev} {i : Nat} {e : Ev} (h : l[i]? = some e) {t : Nat} (ht : t < 5) : (ecells l)[i * 5 + t]? = (ecell e)[t]? := by
  induction l generalizing i with
  | nil => simp at h
  | cons x l ih =>
    cases i with
    | zero =>
      simp at h; subst h
      rw [ecells, Nat.zero_mul, Nat.zero_add, List.getElem?_append_left (by simpa [ecell] using ht)]
    | succ i =>
      rw [ecells, List.getElem?_append_right (by simp [ecell]; omega)]
      have e1 : (i + 1) * 5 + t - (ecell x).length = i * 5 + t := by simp [ecell]; omega
      rw [e1]
      exact ih (by simpa using h)
theorem Tw.form {w0 wr : World} {es fs : List Ev} {n : Nat} {v : Value} (h : Tw w0 wr es n fs v) : ∃ a c, v = .slice a n c ∧ ERow wr a n fs ∧ n ≤ c := by
  have ho := h.own
  rcases ho.2 with ⟨hv, h0⟩ | ⟨g, cap, cur, hv, hb, hg, hn, hm, hs, ht⟩
  · subst h0; exact ⟨none, 0, hv, ⟨h.len, .inl rfl⟩, Nat.le_refl _⟩
  · refine ⟨some ⟨g, 0, none⟩, cap, hv, ⟨h.len, .inr ⟨g, 0, rfl, fun i f hf => ?_⟩⟩, hn⟩
    have hc : ∀ t (ht : t < 5), wr.cell? ⟨g, 0 + i * 5 + t, none⟩ = (ecell f)[t]? := by
      intro t ht5
      have hlt := (List.getElem?_eq_some_iff.1 hf).1
      subst hv
      have := ho.cellAt (i * 5 + t) (by rw [h.len] at hlt; omega)
      rw [Nat.zero_add, this, ecells_get hf ht5]
    obtain ⟨e, _, _, _, _, h5⟩ := h.each i f hf
    exact ⟨hc 0 (by omega), hc 1 (by omega), hc 2 (by omega), hc 3 (by omega), hc 4 (by omega), SRow.of_own h5⟩
theorem Tw.get {w0 wr : World} {es fs : List Ev} {n : Nat} {v : Value} (h : Tw w0 wr es n fs v) {i : Nat} {e : Ev} (he : es[i]? = some e) (hi : i < n) : ∃ f, fs[i]? = some f ∧ e.twin f := by
  have hl : i < fs.length := by rw [h.len]; exact hi
  obtain ⟨e', h1, h2, _⟩ := h.each i fs[i] (List.getElem?_eq_getElem hl)
  rw [he] at h1
  cases h1
  exact ⟨_, List.getElem?_eq_getElem hl, h2⟩
def Twins : List Ev → List Ev → Prop
  | [], [] => True
  | e :: r, f :: q => e.twin f ∧ Twins r q
  | _, _ => False
theorem twins_of {es fs : List Ev} (hl : fs.length = es.length) (h : ∀ (i : Nat) f, fs[i]? = some f → ∃ e, es[i]? = some e ∧ e.twin f) : Twins es fs := by
  induction es generalizing fs with
  | nil => cases fs with
    | nil => trivial
    | cons _ _ => simp at hl
  | cons e es ih => cases fs with
    | nil => simp at hl
    | cons f fs =>
      refine ⟨?_, ih (by simpa using hl) (fun i g hg => ?_)⟩
      · obtain ⟨e', h1, h2⟩ := h 0 f rfl
        simp at h1; subst h1; exact h2
      · obtain ⟨e', h1, h2⟩ := h (i + 1) g (by simpa using hg)
        exact ⟨e', by simpa using h1, h2⟩
theorem Twins.get {es fs : List Ev} (h : Twins es fs) {i : Nat} {e f : Ev} (he : es[i]? = some e) (hf : fs[i]? = some f) : e.twin f := by
  induction es generalizing fs i with
  | nil => simp at he
  | cons x es ih => cases fs with
    | nil => simp at hf
    | cons y fs => cases i with
      | zero => simp at he hf; subst he; subst hf; exact h.1
      | succ i => exact ih h.2 (by simpa using he) (by simpa using hf)
theorem Twins.len {es fs : List Ev} (h : Twins es fs) : fs.length = es.length := by
  induction es generalizing fs with
  | nil => cases fs with
    | nil => rfl
    | cons _ _ => exact h.elim
  | cons x es ih => cases fs with
    | nil => exact h.elim
    | cons y fs => simp [ih h.2]
theorem Ev.twin.chk {e f : Ev} (h : e.twin f) : f.chk = e.chk := by
  obtain ⟨h1, h2, h3, h4, h5⟩ := h
  unfold Ev.chk; rw [h1, h2, h3, h4, h5]
theorem bnd_twins {es fs : List Ev} (h : Twins es fs) : ∀ i L N, bnd fs i L N = bnd es i L N := by
  induction es generalizing fs with
  | nil => cases fs with
    | nil => intros; rfl
    | cons _ _ => exact h.elim
  | cons x es ih => cases fs with
    | nil => exact h.elim
    | cons y fs =>
      intro i L N
      rw [bnd, bnd, h.1.chk, h.1.2.2.2.2, ih h.2]
theorem bounds_twins {es fs : List Ev} (h : Twins es fs) : bounds fs = bounds es := by
  unfold bounds; rw [h.len, bnd_twins h]
theorem Tw.twins {w0 wr : World} {es fs : List Ev} {n : Nat} {v : Value} (h : Tw w0 wr es n fs v) (hl : es.length = n) : Twins es fs :=
  twins_of (by rw [h.len, hl]) fun i f hf => by obtain ⟨e, h1, h2, _⟩ := h.each i f hf; exact ⟨e, h1, h2⟩
theorem Tw.ok {w0 wr : World} {es fs : List Ev} {n : Nat} {v : Value} (h : Tw w0 wr es n fs v) (hok : ∀ e ∈ es, e.ok) : ∀ f ∈ fs, f.ok := by
  intro f hf
  obtain ⟨i, hi, e0⟩ := List.getElem_of_mem hf
  obtain ⟨e, h1, ⟨_, _, t3, t4, t5⟩, h3, h4, _⟩ := h.each i f (by rw [List.getElem?_eq_getElem hi, e0])
  have ho := hok e (List.mem_of_getElem? h1)
  exact ⟨by rw [t3]; exact ho.ho, by rw [t4]; exact ho.ha, by rw [t5]; exact ho.len, by rw [t5]; exact ho.sz, h3, h4⟩
theorem erow_own {w : World} {base n : Nat} {v : Value} {fs : List Ev} (h : w.ownsRow base 36 5 v n (ecells fs)) (hl : fs.length = n) (hs : ∀ f ∈ fs, SRow w f.sa f.ls.length f.ls) : ∃ a c, v = .slice a n c ∧ ERow w a n fs ∧ n ≤ c ∧ (a = none → c = 0) := by
  rcases h.2 with ⟨hv, h0⟩ | ⟨g, cap, cur, hv, hb, hg, hn, hm, hss, ht⟩
  · subst h0; exact ⟨none, 0, hv, ⟨hl, .inl rfl⟩, Nat.le_refl _, fun _ => rfl⟩
  · refine ⟨some ⟨g, 0, none⟩, cap, hv, ⟨hl, .inr ⟨g, 0, rfl, fun i f hf => ?_⟩⟩, hn, fun e => by cases e⟩
    have hc : ∀ t (ht : t < 5), w.cell? ⟨g, 0 + i * 5 + t, none⟩ = (ecell f)[t]? := by
      intro t ht5
      have hlt := (List.getElem?_eq_some_iff.1 hf).1
      subst hv
      have := h.cellAt (i * 5 + t) (by omega)
      rw [Nat.zero_add, this, ecells_get hf ht5]
    exact ⟨hc 0 (by omega), hc 1 (by omega), hc 2 (by omega), hc 3 (by omega), hc 4 (by omega), hs f (List.mem_of_getElem? hf)⟩
theorem bnd_take {es : List Ev} : ∀ (i k : Nat) (L : List ByteArray) (N : List Nd), (bnd es k L N).2 = 0 → (bnd (es.take i) k L N).2 = 0 := by
  induction es with
  | nil => intro i k L N h; rw [List.take_nil]; exact h
  | cons e es ih =>
    intro i k L N h
    cases i with
    | zero => rfl
    | succ i =>
      rw [List.take_succ_cons]
      rw [bnd] at h ⊢
      by_cases hc : e.chk = 0
      · rw [if_pos hc] at h ⊢
        split at h
        · rename_i hr
          rw [if_pos hr]
          exact ih i _ _ _ h
        · cases h
      · rw [if_neg hc] at h; exact absurd h hc
theorem bounds_take {es : List Ev} (i : Nat) (h : (bounds es).2 = 0) : (bounds (es.take i)).2 = 0 := by
  unfold bounds at h ⊢
  split at h
  · rename_i hl
    rw [if_pos (by rw [List.length_take]; omega)]
    exact bnd_take i 0 [] [] h
  · cases h
end Go.Proofs.YtafkammiehcdjaaGreatDoor.E6
namespace Go.Proofs.YtafkammiehcdjaaGreatDoor
open Go.RowKit Go.Maps
theorem run_twins {es fs : List E6.Ev} (h : E6.Twins es fs) : ∀ (M : CS) (i : Nat), M.run fs i = M.run es i := by
  induction es generalizing fs with
  | nil => cases fs with
    | nil => intros; rfl
    | cons _ _ => exact h.elim
  | cons x es ih => cases fs with
    | nil => exact h.elim
    | cons y fs =>
      intro M i
      have e1 : me y = me x := by obtain ⟨h1, h2, h3, h4, _⟩ := h.1; unfold me; rw [h1, h2, h3, h4]
      rw [CS.run, CS.run, e1, ih h.2]
theorem runV_twins {es fs : List E6.Ev} (h : E6.Twins es fs) : runV fs = runV es := by
  unfold runV; rw [E6.bounds_twins h, run_twins h]
theorem twin_all (a : Option Addr) (n c : Nat) (es : List E6.Ev) (w : World) (hr : E6.ERow w a n es) (hok : ∀ e ∈ es, e.ok) (hn : n * 56 ≤ 140737488355328) (hc0 : a = none → c = 0) :
    Calls Tryz.prog 10 #[.slice a n c] w fun e w' => ∃ a' c' fs, e = .returned (.slice a' n c') ∧ E6.ERow w' a' n fs ∧ (∀ f ∈ fs, f.ok) ∧ runV fs = runV es ∧ E6.bounds fs = E6.bounds es ∧ Below w.heap.size w w' := by
  refine (E6.twin_any a n c es w hr hok hn hc0).mono ?_
  rintro e w' ⟨fs, v, rfl, htw⟩
  obtain ⟨a', c', rfl, hrow, _⟩ := htw.form
  have ht := htw.twins hr.len
  exact ⟨a', c', fs, rfl, hrow, htw.ok hok, runV_twins ht, E6.bounds_twins ht, htw.bel⟩
theorem run_bd : ∀ (es : List E6.Ev) (M : CS) (k : Nat), ((M.run es k).1 = -1 ∧ (M.run es k).2 = 0) ∨ ((k : Int) ≤ (M.run es k).1 ∧ (M.run es k).1 < k + es.length ∧ (M.run es k).2 ≠ 0) := by
  intro es
  induction es with
  | nil => intro M k; exact .inl ⟨rfl, rfl⟩
  | cons e es ih =>
    intro M k
    rw [CS.run]
    by_cases h : M.why (me e) ≠ 0
    · rw [if_pos h]
      refine .inr ⟨Int.le_refl _, ?_, h⟩
      dsimp only
      rw [List.length_cons]
      omega
    · rw [if_neg h]
      rcases ih (M.next (me e)) (k + 1) with h1 | ⟨h1, h2, h3⟩
      · exact .inl h1
      · refine .inr ⟨by omega, ?_, h3⟩
        rw [List.length_cons]
        omega
/-- The checker's state behind the first i events, which all can come. -/
def Pre (es : List E6.Ev) (i : Nat) (M : CS) : Prop := ∀ tail, CS.new.run (es.take i ++ tail) 0 = M.run tail i
theorem Pre.zero (es : List E6.Ev) : Pre es 0 CS.new := fun _ => rfl
theorem Pre.succ {es : List E6.Ev} {i : Nat} {M : CS} (h : Pre es i M) {e : E6.Ev} (he : es[i]? = some e) (hw : M.why (me e) = 0) : Pre es (i + 1) (M.next (me e)) := by
  intro tail
  have h1 : es.take (i + 1) = es.take i ++ [e] := by
    obtain ⟨hl, h9⟩ := List.getElem?_eq_some_iff.1 he
    rw [List.take_succ_eq_append_getElem hl, h9]
  rw [h1, List.append_assoc]
  have h2 := h ([e] ++ tail)
  rw [h2]
  show M.run (e :: tail) i = _
  rw [CS.run, if_neg (fun x => x hw)]
theorem Pre.all {es : List E6.Ev} {i : Nat} {M : CS} (h : Pre es i M) : CS.new.run es 0 = M.run (es.drop i) i := by
  have h1 := h (es.drop i)
  rw [List.take_append_drop] at h1
  exact h1
theorem runV_zero {es : List E6.Ev} (h : (E6.bounds es).2 = 0) : runV es = ((CS.new.run es 0).1, (CS.new.run es 0).2, 0) := by
  unfold runV
  rw [if_neg (fun x => x h)]
theorem Pre.take {es : List E6.Ev} {i : Nat} {M : CS} (h : Pre es i M) (hb : (E6.bounds es).2 = 0) : runV (es.take i) = (-1, 0, 0) := by
  have h1 := h []
  rw [List.append_nil] at h1
  rw [runV_zero (E6.bounds_take i hb), h1]
  rfl
end Go.Proofs.YtafkammiehcdjaaGreatDoor
/-
  Run, told by counts over the events that came.
-/
namespace Go.Proofs.YtafkammiehcdjaaGreatDoor
/-- The first place whose event can't come, and why. -/
def fr : List Me → List Me → Nat → Int × Int
  | _, [], _ => (-1, 0)
  | T, e :: es, i => if rsn T e ≠ 0 then ((i : Int), rsn T e) else fr (T ++ [e]) es (i + 1)
theorem run_fr : ∀ (es : List E6.Ev) (T : List Me) (M : CS) (i : Nat), Rch T M → (∀ e ∈ es, Gdm (me e)) → M.run es i = fr T (es.map me) i := by
  intro es
  induction es with
  | nil => intro T M i _ _; rfl
  | cons e es ih =>
    intro T M i h hg
    have h1 := h.why (hg e (List.mem_cons_self ..))
    rw [CS.run, List.map_cons, fr, h1]
    by_cases hw : rsn T (me e) ≠ 0
    · rw [if_pos hw, if_pos hw]
    · rw [if_neg hw, if_neg hw]
      exact ih _ _ _ (.step h (hg e (List.mem_cons_self ..)) (by rw [h1]; omega)) fun x hx => hg x (List.mem_cons_of_mem _ hx)
theorem chk_arg {g k o a : Int} {ls : List ByteArray} (h : E6.chk g k o a ls = 0) : E6.argB k.toNat a = true := by
  unfold E6.chk at h
  split at h
  · split at h
    · cases h
    · split at h
      · split at h
        · assumption
        · cases h
      · cases h
  · cases h
theorem gdm_of {e : E6.Ev} (h : e.chk = 0) (hok : e.ok) : Gdm (me e) ∧ Eb e.g e.k e.o e.a := by
  have hb : Eb e.g e.k e.o e.a := chk_eb (ls := e.ls) h hok.ho.1 hok.ho.2 hok.ha.1 hok.ha.2
  refine ⟨⟨⟨hb.ok.g0, hb.ok.g1⟩, fun hk => ?_, fun hk => ?_, fun hk => ?_⟩, hb⟩
  · have h1 := chk_arg (g := e.g) (k := e.k) (o := e.o) (a := e.a) (ls := e.ls) h
    have h2 : e.k = 16 := hk
    rw [h2] at h1
    have h3 := of_decide_eq_true h1
    have h4 : e.a ≤ 1 := h3.2
    have := hok.ha
    show e.a = 0 ∨ e.a = 1
    omega
  · have := hb.rc hk; have := hok.ha; show e.a = 0 ∨ e.a = 1; omega
  · exact (hb.al (.inl hk)).1
/-- Each channel was made ahead of what is sent to it. -/
def Mde (T : List Me) : Prop := ∀ P e S, T = P ++ e :: S → e.k = 10 → (roomT P e.o).isSome = true
theorem Rch.mde {T : List Me} {M : CS} (h : Rch T M) : Mde T := by
  induction h with
  | new => intro P e S h; exact absurd h (by simp)
  | @step T M e h0 hg hw ih =>
    intro P x S he hk
    rcases List.eq_nil_or_concat S with rfl | ⟨S', y, rfl⟩
    · have h1 := List.append_inj' he rfl
      obtain ⟨rfl, h2⟩ := h1
      cases h2
      obtain ⟨r, hc⟩ := why_can hw
      have h3 := ask_chan hc.ask (by omega) (by omega)
      have h4 := h0.lkC.ch e.o
      cases hq : roomT T e.o with
      | some _ => rfl
      | none =>
        rw [hq] at h4
        have := h3.2 h4
        omega
    · have h1 : T ++ [e] = (P ++ x :: S') ++ [y] := by rw [he]; simp
      have h2 := List.append_inj' h1 rfl
      exact ih P x S' h2.1 hk
def Tj (es : List E6.Ev) (j : Nat) : List Me := (es.take j).map me
theorem Tj_succ {es : List E6.Ev} {j : Nat} {e : E6.Ev} (he : es[j]? = some e) : Tj es (j + 1) = Tj es j ++ [me e] := by
  obtain ⟨hl, h9⟩ := List.getElem?_eq_some_iff.1 he
  unfold Tj
  rw [List.take_succ_eq_append_getElem hl, h9, List.map_append]
  rfl
theorem Tj_zero (es : List E6.Ev) : Tj es 0 = [] := by unfold Tj; simp
theorem Tj_all {es : List E6.Ev} {n : Nat} (h : es.length = n) : Tj es n = es.map me := by
  unfold Tj; rw [← h, List.take_length]
theorem Tj_len {es : List E6.Ev} {n : Nat} (h : es.length = n) {j : Nat} (hj : j ≤ n) : (Tj es j).length = j := by
  unfold Tj; rw [List.length_map, List.length_take]; omega
theorem Tj_split {es : List E6.Ev} {j : Nat} {e : E6.Ev} (he : es[j]? = some e) : es.map me = Tj es j ++ me e :: (es.drop (j + 1)).map me := by
  obtain ⟨hl, h9⟩ := List.getElem?_eq_some_iff.1 he
  conv => lhs; rw [← List.take_append_drop j es]
  rw [List.map_append, List.drop_eq_getElem_cons hl, h9]
  rfl
/-- How many events there are of a goroutine (below 0: of all), kind and object. -/
def cnX (T : List Me) (g k o : Int) : Nat := if g < 0 then cnA T k o else cnG T g k o
theorem cnX_nil (g k o : Int) : cnX [] g k o = 0 := by unfold cnX; split <;> rfl
theorem cnX_snoc {T : List Me} {e : Me} {g k o : Int} : cnX (T ++ [e]) g k o = cnX T g k o + (if (g < 0 ∨ e.g = g) ∧ e.k = k ∧ e.o = o then 1 else 0) := by
  unfold cnX
  by_cases h : g < 0
  · rw [if_pos h, if_pos h, cnA_snoc]
    congr 1
    by_cases h2 : e.k = k ∧ e.o = o
    · rw [if_pos h2, if_pos ⟨.inl h, h2⟩]
    · rw [if_neg h2, if_neg (fun q => h2 q.2)]
  · rw [if_neg h, if_neg h]
    unfold cnG
    rw [List.countP_append]
    congr 1
    by_cases h2 : e.g = g ∧ e.k = k ∧ e.o = o
    · rw [if_pos ⟨.inr h2.1, h2.2⟩]; simp [h2]
    · rw [if_neg (fun q => h2 ⟨q.1.resolve_left h, q.2⟩)]; simp [h2]
theorem cnX_le (T : List Me) (g k o : Int) : cnX T g k o ≤ T.length := by
  unfold cnX cnA cnG
  split <;> exact List.countP_le_length
theorem cnT_le (T : List Me) (k o a : Int) : cnT T k o a ≤ T.length := List.countP_le_length
theorem cnX_all (T : List Me) (k o : Int) : cnX T (-1) k o = cnA T k o := if_pos (by decide)
theorem cnX_g {T : List Me} {g k o : Int} (h : 0 ≤ g) : cnX T g k o = cnG T g k o := if_neg (by omega)
theorem nmd_append (T U : List Me) (k x : Int) : nmd (T ++ U) k x = (nmd T k x || nmd U k x) := by unfold nmd; rw [List.any_append]
theorem nmd_found {T U : List Me} {e : Me} {k x : Int} (h1 : e.k = k) (h2 : e.a = x) : nmd (T ++ e :: U) k x = true := by
  rw [nmd_append]; unfold nmd; simp [h1, h2]
theorem roomT_append (T U : List Me) (o : Int) : roomT (T ++ U) o = match roomT T o with
    | some r => some r
    | none => roomT U o := by
  induction T with
  | nil => rfl
  | cons x T ih =>
    rw [List.cons_append, roomT, roomT]
    by_cases h : x.k = 9 ∧ x.o = o
    · rw [if_pos h, if_pos h]
    · rw [if_neg h, if_neg h, ih]
end Go.Proofs.YtafkammiehcdjaaGreatDoor
/-
  Names are free: goroutines, locks, channels, wait groups and onces by other numbers.
-/
namespace Go.Proofs.YtafkammiehcdjaaGreatDoor
set_option linter.unusedVariables false
structure Rn where
  tg : Int → Int
  lk : Int → Int
  ch : Int → Int
  wg : Int → Int
  on : Int → Int
def Rn.ob (R : Rn) (k o : Int) : Int := if 3 ≤ k ∧ k ≤ 6 then R.lk o else if 9 ≤ k ∧ k ≤ 13 then R.ch o else if k = 14 ∨ k = 15 then R.wg o else if k = 16 then R.on o else o
def Rn.me (R : Rn) (e : Me) : Me := ⟨R.tg e.g, e.k, R.ob e.k e.o, if e.k = 7 ∨ e.k = 8 then R.tg e.a else e.a⟩
def IsG (x : Int) : Prop := 0 ≤ x ∧ x ≤ 65535
def IsU (x : Int) : Prop := 0 ≤ x ∧ x ≤ 18446744073709551615
structure Rn.Ok (R : Rn) : Prop where
  tg : ∀ x y, IsG x → IsG y → (R.tg x = R.tg y ↔ x = y)
  z : R.tg 0 = 0
  lk : ∀ x y, IsU x → IsU y → (R.lk x = R.lk y ↔ x = y)
  ch : ∀ x y, IsU x → IsU y → (R.ch x = R.ch y ↔ x = y)
  wg : ∀ x y, IsU x → IsU y → (R.wg x = R.wg y ↔ x = y)
  on : ∀ x y, IsU x → IsU y → (R.on x = R.on y ↔ x = y)
structure Gdn (e : Me) : Prop where
  g : IsG e.g
  o : IsU e.o
  a : e.k = 7 ∨ e.k = 8 → IsG e.a
section
variable {R : Rn} {T : List Me} {e : Me} {k o a x g : Int}
theorem Rn.Ok.ob (h : R.Ok) (k : Int) {x y : Int} (hx : IsU x) (hy : IsU y) : R.ob k x = R.ob k y ↔ x = y := by
  unfold Rn.ob
  split
  · exact h.lk x y hx hy
  · split
    · exact h.ch x y hx hy
    · split
      · exact h.wg x y hx hy
      · split
        · exact h.on x y hx hy
        · exact Iff.rfl
theorem cnt_map (p q : Me → Bool) (h : ∀ e ∈ T, p (R.me e) = q e) : (T.map R.me).countP p = T.countP q := by
  rw [List.countP_map]
  exact List.countP_congr fun e he => by rw [Function.comp, h e he]
theorem any_map (p q : Me → Bool) (h : ∀ e ∈ T, p (R.me e) = q e) : (T.map R.me).any p = T.any q := by
  induction T with
  | nil => rfl
  | cons x T ih => rw [List.map_cons, List.any_cons, List.any_cons, h x (List.mem_cons_self ..), ih fun e he => h e (List.mem_cons_of_mem _ he)]
theorem dec_iff {p q : Prop} [Decidable p] [Decidable q] (h : p ↔ q) : decide p = decide q := by
  by_cases hp : p
  · rw [decide_eq_true hp, decide_eq_true (h.1 hp)]
  · rw [decide_eq_false hp, decide_eq_false fun z => hp (h.2 z)]
theorem ite_iff {p q : Prop} [Decidable p] [Decidable q] {α : Type} {x y : α} (h : p ↔ q) : (if p then x else y) = if q then x else y := by
  by_cases hp : p
  · rw [if_pos hp, if_pos (h.1 hp)]
  · rw [if_neg hp, if_neg fun z => hp (h.2 z)]
theorem Rn.me_k : (R.me e).k = e.k := rfl
theorem Rn.me_g : (R.me e).g = R.tg e.g := rfl
theorem Rn.me_o : (R.me e).o = R.ob e.k e.o := rfl
theorem me_a7 (h : e.k = 7 ∨ e.k = 8) : (R.me e).a = R.tg e.a := if_pos h
theorem me_an (h : ¬ (e.k = 7 ∨ e.k = 8)) : (R.me e).a = e.a := if_neg h
theorem nmd_map (h : R.Ok) (hT : ∀ e ∈ T, Gdn e) (hk : k = 7 ∨ k = 8) (hx : IsG x) : nmd (T.map R.me) k (R.tg x) = nmd T k x := by
  refine any_map _ _ fun e he => dec_iff ?_
  rw [Rn.me_k]
  refine and_congr_right fun h1 => ?_
  rw [me_a7 (by omega)]
  exact h.tg _ _ ((hT e he).a (by omega)) hx
theorem cnA_map (h : R.Ok) (hT : ∀ e ∈ T, Gdn e) (ho : IsU o) : cnA (T.map R.me) k (R.ob k o) = cnA T k o := by
  refine cnt_map _ _ fun e he => dec_iff ?_
  rw [Rn.me_k, Rn.me_o]
  refine and_congr_right fun h1 => ?_
  rw [h1]
  exact h.ob k (hT e he).o ho
theorem cnT_map (h : R.Ok) (hT : ∀ e ∈ T, Gdn e) (ho : IsU o) (hk : ¬ (k = 7 ∨ k = 8)) : cnT (T.map R.me) k (R.ob k o) a = cnT T k o a := by
  refine cnt_map _ _ fun e he => dec_iff ?_
  rw [Rn.me_k, Rn.me_o]
  refine and_congr_right fun h1 => ?_
  rw [me_an (by omega), h1, h.ob k (hT e he).o ho]
theorem cnG_map (h : R.Ok) (hT : ∀ e ∈ T, Gdn e) (ho : IsU o) (hg : IsG g) : cnG (T.map R.me) (R.tg g) k (R.ob k o) = cnG T g k o := by
  refine cnt_map _ _ fun e he => dec_iff ?_
  rw [Rn.me_k, Rn.me_o, Rn.me_g, h.tg _ _ (hT e he).g hg]
  refine and_congr_right fun _ => and_congr_right fun h1 => ?_
  rw [h1]
  exact h.ob k (hT e he).o ho
theorem ob_lk (h : 3 ≤ k ∧ k ≤ 6) : R.ob k o = R.ob 3 o := by unfold Rn.ob; rw [if_pos h, if_pos (by decide)]
theorem ob_ch (h : 9 ≤ k ∧ k ≤ 13) : R.ob k o = R.ob 9 o := by unfold Rn.ob; rw [if_neg (by omega), if_pos h, if_neg (by decide), if_pos (by decide)]
theorem ob_wg (h : k = 14 ∨ k = 15) : R.ob k o = R.ob 14 o := by unfold Rn.ob; rw [if_neg (by omega), if_neg (by omega), if_pos h, if_neg (by decide), if_neg (by decide), if_pos (by decide)]
theorem ob_id (h : k = 20 ∨ k = 21) : R.ob k o = o := by unfold Rn.ob; rw [if_neg (by omega), if_neg (by omega), if_neg (by omega), if_neg (by omega)]
theorem cnZ_map (h : R.Ok) (hT : ∀ e ∈ T, Gdn e) (ho : IsU o) : cnZ (T.map R.me) (R.ob 14 o) = cnZ T o := by
  induction T with
  | nil => rfl
  | cons x T ih =>
    rw [List.map_cons, cnZ, cnZ, ih fun e he => hT e (List.mem_cons_of_mem _ he), Rn.me_k, Rn.me_o]
    by_cases hk : x.k = 14
    · rw [me_an (by omega), hk]
      have h1 := h.ob 14 (hT x (List.mem_cons_self ..)).o ho
      by_cases h2 : x.o = o
      · rw [if_pos ⟨rfl, h1.2 h2⟩, if_pos ⟨rfl, h2⟩]
      · rw [if_neg fun q => h2 (h1.1 q.2), if_neg fun q => h2 q.2]
    · rw [if_neg fun q => hk q.1, if_neg fun q => hk q.1]
theorem roomT_map (h : R.Ok) (hT : ∀ e ∈ T, Gdn e) (ho : IsU o) : roomT (T.map R.me) (R.ob 9 o) = roomT T o := by
  induction T with
  | nil => rfl
  | cons x T ih =>
    rw [List.map_cons, roomT, roomT, ih fun e he => hT e (List.mem_cons_of_mem _ he), Rn.me_k, Rn.me_o]
    by_cases hk : x.k = 9
    · rw [me_an (by omega), hk]
      have h1 := h.ob 9 (hT x (List.mem_cons_self ..)).o ho
      by_cases h2 : x.o = o
      · rw [if_pos ⟨rfl, h1.2 h2⟩, if_pos ⟨rfl, h2⟩]
      · rw [if_neg fun q => h2 (h1.1 q.2), if_neg fun q => h2 q.2]
    · rw [if_neg fun q => hk q.1, if_neg fun q => hk q.1]
theorem dueR_map (h : R.Ok) : ∀ (L : List Me), (∀ e ∈ L, Gdn e) → IsG g → dueR (L.map R.me) (R.tg g) = (dueR L g).map fun p => (R.ob 9 p.1, p.2) := by
  intro L
  induction L with
  | nil => intro _ _; rfl
  | cons x L ih =>
    intro hT hg
    have hx := hT x (List.mem_cons_self ..)
    have hT' : ∀ e ∈ L, Gdn e := fun e he => hT e (List.mem_cons_of_mem _ he)
    have hT2 : ∀ e ∈ L.reverse, Gdn e := fun e he => hT' e (List.mem_reverse.1 he)
    rw [List.map_cons, dueR, dueR, Rn.me_g, Rn.me_k, Rn.me_o]
    by_cases h1 : x.g = g
    · rw [if_pos (by rw [h1]), if_pos h1]
      by_cases h2 : x.k = 10
      · have e1 : roomT (L.map R.me).reverse (R.ob x.k x.o) = roomT L.reverse x.o := by
          rw [← List.map_reverse, ob_ch (by omega), roomT_map h hT2 hx.o]
        have e2 : cnA (L.map R.me).reverse 10 (R.ob x.k x.o) = cnA L.reverse 10 x.o := by
          rw [← List.map_reverse, h2, cnA_map h hT2 hx.o]
        rw [e1, e2]
        split
        · rw [ob_ch (by omega)]; rfl
        · rfl
      · rw [if_neg fun q => h2 q.1, if_neg fun q => h2 q.1]; rfl
    · rw [if_neg fun q => h1 ((h.tg _ _ hx.g hg).1 q), if_neg h1]
      exact ih hT' hg
theorem dueT_map (h : R.Ok) (hT : ∀ e ∈ T, Gdn e) (hg : IsG g) : dueT (T.map R.me) (R.tg g) = (dueT T g).map fun p => (R.ob 9 p.1, p.2) := by
  unfold dueT
  rw [← List.map_reverse]
  exact dueR_map h _ (fun e he => hT e (List.mem_reverse.1 he)) hg
theorem dueR_u : ∀ (L : List Me), (∀ e ∈ L, Gdn e) → ∀ p, dueR L g = some p → IsU p.1 := by
  intro L
  induction L with
  | nil => intro _ p h; cases h
  | cons x L ih =>
    intro hT p h
    rw [dueR] at h
    split at h
    · split at h
      · cases h; exact (hT x (List.mem_cons_self ..)).o
      · cases h
    · exact ih (fun e he => hT e (List.mem_cons_of_mem _ he)) p h
theorem wrs_map (h : R.Ok) (hT : ∀ e ∈ T, Gdn e) (ho : IsU o) (hg : IsG g) : wrs (T.map R.me) (R.tg g) (R.ob 3 o) = wrs T g o := by
  unfold wrs
  have e1 : R.ob 3 o = R.ob 4 o := (ob_lk (by decide)).symm
  rw [cnG_map h hT ho hg, e1, cnG_map h hT ho hg]
theorem rds_map (h : R.Ok) (hT : ∀ e ∈ T, Gdn e) (ho : IsU o) (hg : IsG g) : rds (T.map R.me) (R.tg g) (R.ob 3 o) = rds T g o := by
  unfold rds
  have e1 : R.ob 3 o = R.ob 5 o := (ob_lk (by decide)).symm
  have e2 : R.ob 5 o = R.ob 6 o := by rw [ob_lk (by decide), ob_lk (k := 6) (by decide)]
  rw [e1, cnG_map h hT ho hg, e2, cnG_map h hT ho hg]
theorem anyWr_map (h : R.Ok) (hT : ∀ e ∈ T, Gdn e) (ho : IsU o) : anyWr (T.map R.me) (R.ob 3 o) = anyWr T o := by
  refine any_map _ _ fun e he => ?_
  rw [Rn.me_g, wrs_map h hT ho (hT e he).g, Rn.me_k, Rn.me_o]
  congr 1
  refine dec_iff (and_congr_right fun h1 => ?_)
  rw [h1, h.ob 3 (hT e he).o ho]
theorem anyRd_map (h : R.Ok) (hT : ∀ e ∈ T, Gdn e) (ho : IsU o) : anyRd (T.map R.me) (R.ob 3 o) = anyRd T o := by
  refine any_map _ _ fun e he => ?_
  rw [Rn.me_g, rds_map h hT ho (hT e he).g, Rn.me_k, Rn.me_o]
  congr 1
  refine dec_iff (and_congr_right fun h1 => ?_)
  rw [h1, ob_lk (by decide), h.ob 3 (hT e he).o ho]
theorem lvAny_map (p : Int → Int → Bool) : lvAny p (T.map R.me) = lvAny p T := by
  induction T with
  | nil => rfl
  | cons x T ih =>
    rw [List.map_cons, lvAny, lvAny, ih]
    by_cases h20 : x.k = 20
    · have e1 : (R.me x).o = x.o := by rw [Rn.me_o]; exact ob_id (.inl h20)
      have e2 : (R.me x).a = x.a := me_an (by omega)
      have e3 : ((T.map R.me).any fun y => decide (y.k = 21 ∧ y.o = (R.me x).o ∧ y.a = (R.me x).a)) = T.any fun y => decide (y.k = 21 ∧ y.o = x.o ∧ y.a = x.a) := by
        refine any_map _ _ fun e _ => dec_iff ?_
        rw [Rn.me_k, e1, e2]
        refine and_congr_right fun h1 => ?_
        rw [me_an (by omega), Rn.me_o, ob_id (.inr h1)]
      rw [e3, e1, e2, Rn.me_k]
    · have e1 : decide ((R.me x).k = 20) = false := decide_eq_false h20
      have e2 : decide (x.k = 20) = false := decide_eq_false h20
      rw [e1, e2]
      simp
theorem bgT_map (h : R.Ok) (hT : ∀ e ∈ T, Gdn e) (hg : IsG g) : bgT (T.map R.me) (R.tg g) = bgT T g := by
  unfold bgT
  rw [nmd_map h hT (.inl rfl) hg]
  congr 1
  refine dec_iff ?_
  have := h.tg g 0 hg ⟨by decide, by decide⟩
  rw [h.z] at this
  exact this
theorem ofLk_map (h : R.Ok) (hT : ∀ e ∈ T, Gdn e) (he : Gdn e) (hk : 3 ≤ e.k ∧ e.k ≤ 6) : ofLk (T.map R.me) (R.me e) = ofLk T e := by
  unfold ofLk
  rw [Rn.me_k, Rn.me_g, Rn.me_o, ob_lk hk, anyWr_map h hT he.o, anyRd_map h hT he.o, wrs_map h hT he.o he.g, rds_map h hT he.o he.g]
theorem ofGr_map (h : R.Ok) (hT : ∀ e ∈ T, Gdn e) (he : Gdn e) (hk : e.k = 7 ∨ e.k = 8) : ofGr (T.map R.me) (R.me e) = ofGr T e := by
  unfold ofGr
  rw [Rn.me_k, Rn.me_g, me_a7 hk, bgT_map h hT (he.a hk), nmd_map h hT (.inr rfl) (he.a hk), dueT_map h hT (he.a hk), Option.isSome_map, ite_iff (h.tg _ _ (he.a hk) he.g)]
theorem ofCh_map (h : R.Ok) (hT : ∀ e ∈ T, Gdn e) (he : Gdn e) (hk : 9 ≤ e.k ∧ e.k ≤ 13) : ofCh (T.map R.me) (R.me e) = ofCh T e := by
  unfold ofCh
  have ea : (R.me e).a = e.a := me_an (by omega)
  have e1 : cnA (T.map R.me) 13 (R.ob 9 e.o) = cnA T 13 e.o := by rw [← ob_ch (k := 13) (by decide), cnA_map h hT he.o]
  have e2 : cnA (T.map R.me) 10 (R.ob 9 e.o) = cnA T 10 e.o := by rw [← ob_ch (k := 10) (by decide), cnA_map h hT he.o]
  have e3 : cnT (T.map R.me) 12 (R.ob 9 e.o) 1 = cnT T 12 e.o 1 := by rw [← ob_ch (k := 12) (by decide), cnT_map h hT he.o (by decide)]
  rw [Rn.me_k, Rn.me_g, Rn.me_o, ob_ch hk, roomT_map h hT he.o, ea, e1, e2, e3, dueT_map h hT he.g]
  cases dueT T e.g <;> rfl
theorem ofOt_map (h : R.Ok) (hT : ∀ e ∈ T, Gdn e) (he : Gdn e) (hk : ¬ (3 ≤ e.k ∧ e.k ≤ 13)) : ofOt (T.map R.me) (R.me e) = ofOt T e := by
  unfold ofOt
  have ea : (R.me e).a = e.a := me_an (by omega)
  rw [Rn.me_k, ea]
  by_cases h14 : e.k = 14
  · rw [if_pos h14, if_pos h14, Rn.me_o, ob_wg (.inl h14), cnZ_map h hT he.o]
  rw [if_neg h14, if_neg h14]
  by_cases h15 : e.k = 15
  · rw [if_pos h15, if_pos h15, Rn.me_o, ob_wg (.inr h15), cnZ_map h hT he.o]
  rw [if_neg h15, if_neg h15]
  by_cases h16 : e.k = 16
  · rw [if_pos h16, if_pos h16, Rn.me_o, h16, cnT_map h hT he.o (by decide)]
  rw [if_neg h16, if_neg h16]
  by_cases h20 : e.k = 20
  · rw [if_pos h20, if_pos h20, lvAny_map]
    have e1 : (R.me e).o = e.o := by rw [Rn.me_o]; exact ob_id (.inl h20)
    have e2 : ovl (R.me e) = ovl e := by unfold ovl; rw [e1, ea]
    rw [e2]
  rw [if_neg h20, if_neg h20]
  by_cases h21 : e.k = 21
  · rw [if_pos h21, if_pos h21, lvAny_map]
    have e1 : (R.me e).o = e.o := by rw [Rn.me_o]; exact ob_id (.inr h21)
    rw [e1]
  rw [if_neg h21, if_neg h21]
theorem rest_map (h : R.Ok) (hT : ∀ e ∈ T, Gdn e) (he : Gdn e) : (if 3 ≤ e.k ∧ e.k ≤ 6 then ofLk (T.map R.me) (R.me e) else if e.k = 7 ∨ e.k = 8 then ofGr (T.map R.me) (R.me e) else if 9 ≤ e.k ∧ e.k ≤ 13 then ofCh (T.map R.me) (R.me e) else ofOt (T.map R.me) (R.me e)) = (if 3 ≤ e.k ∧ e.k ≤ 6 then ofLk T e else if e.k = 7 ∨ e.k = 8 then ofGr T e else if 9 ≤ e.k ∧ e.k ≤ 13 then ofCh T e else ofOt T e) := by
  by_cases h1 : 3 ≤ e.k ∧ e.k ≤ 6
  · rw [if_pos h1, if_pos h1, ofLk_map h hT he h1]
  rw [if_neg h1, if_neg h1]
  by_cases h2 : e.k = 7 ∨ e.k = 8
  · rw [if_pos h2, if_pos h2, ofGr_map h hT he h2]
  rw [if_neg h2, if_neg h2]
  by_cases h4 : 9 ≤ e.k ∧ e.k ≤ 13
  · rw [if_pos h4, if_pos h4, ofCh_map h hT he h4]
  rw [if_neg h4, if_neg h4, ofOt_map h hT he (by omega)]
theorem rsn_map (h : R.Ok) (hT : ∀ e ∈ T, Gdn e) (he : Gdn e) : rsn (T.map R.me) (R.me e) = rsn T e := by
  unfold rsn
  rw [Rn.me_g, Rn.me_k, bgT_map h hT he.g, nmd_map h hT (.inr rfl) he.g, dueT_map h hT he.g, rest_map h hT he]
  cases hd : dueT T e.g with
  | none => rfl
  | some d =>
    have hu : IsU d.1 := dueR_u T.reverse (fun e he => hT e (List.mem_reverse.1 he)) d hd
    have e3 : decide (e.k ≠ 11 ∨ (R.me e).o ≠ R.ob 9 d.1) = decide (e.k ≠ 11 ∨ e.o ≠ d.1) := by
      refine dec_iff ?_
      rw [Rn.me_o]
      by_cases h11 : e.k = 11
      · rw [ob_ch (by omega)]
        exact or_congr_right (not_congr (h.ob 9 he.o hu))
      · exact ⟨fun _ => .inl h11, fun _ => .inl h11⟩
    simp only [Option.map_some, e3]
theorem fr_map (h : R.Ok) : ∀ (es T : List Me) (i : Nat), (∀ e ∈ T, Gdn e) → (∀ e ∈ es, Gdn e) → fr (T.map R.me) (es.map R.me) i = fr T es i := by
  intro es
  induction es with
  | nil => intro T i _ _; rfl
  | cons e es ih =>
    intro T i hT hes
    have he := hes e (List.mem_cons_self ..)
    rw [List.map_cons, fr, fr, rsn_map h hT he]
    have e1 : T.map R.me ++ [R.me e] = (T ++ [e]).map R.me := by rw [List.map_append]; rfl
    rw [e1, ih (T ++ [e]) (i + 1) (fun x hx => by
      rcases List.mem_append.1 hx with hx | hx
      · exact hT x hx
      · cases List.mem_singleton.1 hx; exact he) fun x hx => hes x (List.mem_cons_of_mem _ hx)]
end
/-! ### a run without its marks, accesses and atomics -/
def syncK (k : Int) : Bool := decide (k ≠ 1 ∧ k ≠ 2 ∧ k ≠ 22 ∧ (k < 17 ∨ 19 < k))
def Sim (M M' : CS) : Prop := M' = { M with taken := M'.taken }
theorem Sim.why {M M' : CS} (h : Sim M M') (e : Me) : M'.why e = M.why e := by
  rw [h]; rfl
theorem doo_tk (M : CS) (t : Nat) (e : Me) (r : Gor) : CS.doo { M with taken := t } e r = { M.doo e r with taken := t } := by
  unfold CS.doo
  by_cases h3 : e.k = 3
  · rw [if_pos h3, if_pos h3]
    all_goals rfl
  rw [if_neg h3, if_neg h3]
  by_cases h4 : e.k = 4
  · rw [if_pos h4, if_pos h4]
    all_goals rfl
  rw [if_neg h4, if_neg h4]
  by_cases h5 : e.k = 5
  · rw [if_pos h5, if_pos h5]
    all_goals rfl
  rw [if_neg h5, if_neg h5]
  by_cases h6 : e.k = 6
  · rw [if_pos h6, if_pos h6]
    all_goals rfl
  rw [if_neg h6, if_neg h6]
  by_cases h7 : e.k = 7
  · rw [if_pos h7, if_pos h7]
    all_goals rfl
  rw [if_neg h7, if_neg h7]
  by_cases h8 : e.k = 8
  · rw [if_pos h8, if_pos h8]
    all_goals rfl
  rw [if_neg h8, if_neg h8]
  by_cases h9 : e.k = 9
  · rw [if_pos h9, if_pos h9]
    all_goals rfl
  rw [if_neg h9, if_neg h9]
  by_cases h10 : e.k = 10
  · rw [if_pos h10, if_pos h10]
    dsimp only
    cases M.chans e.o <;> rfl
  rw [if_neg h10, if_neg h10]
  by_cases h11 : e.k = 11
  · rw [if_pos h11, if_pos h11]
    all_goals rfl
  rw [if_neg h11, if_neg h11]
  by_cases h12 : e.k = 12
  · rw [if_pos h12, if_pos h12]
    dsimp only
    cases M.chans e.o <;> rfl
  rw [if_neg h12, if_neg h12]
  by_cases h13 : e.k = 13
  · rw [if_pos h13, if_pos h13]
    dsimp only
    cases M.chans e.o <;> rfl
  rw [if_neg h13, if_neg h13]
  by_cases h14 : e.k = 14
  · rw [if_pos h14, if_pos h14]
    all_goals rfl
  rw [if_neg h14, if_neg h14]
  by_cases h16 : e.k = 16
  · rw [if_pos h16, if_pos h16]
    all_goals rfl
  rw [if_neg h16, if_neg h16]
  by_cases h20 : e.k = 20
  · rw [if_pos h20, if_pos h20]
    all_goals rfl
  rw [if_neg h20, if_neg h20]
  by_cases h21 : e.k = 21
  · rw [if_pos h21, if_pos h21]
    all_goals rfl
  rw [if_neg h21, if_neg h21]
theorem Sim.next {M M' : CS} (h : Sim M M') (e : Me) : Sim (M.next e) (M'.next e) := by
  obtain ⟨t, rfl⟩ : ∃ t, M' = { M with taken := t } := ⟨M'.taken, h⟩
  unfold Sim CS.next
  cases hg : M.gs e.g with
  | none => rfl
  | some r =>
    dsimp only
    rw [doo_tk]
    rfl
theorem sync_next {M M' : CS} (h : Sim M M') {e : Me} (hk : syncK e.k = false) (hr : 1 ≤ e.k ∧ e.k ≤ 22) (hw : M.why e = 0) : Sim (M.next e) M' := by
  have h9 : ¬ (e.k ≠ 1 ∧ e.k ≠ 2 ∧ e.k ≠ 22 ∧ (e.k < 17 ∨ 19 < e.k)) := of_decide_eq_false hk
  obtain ⟨r, hc⟩ := why_can hw
  rw [hc.nx]
  have : M.doo e r = M := by
    unfold CS.doo
    have q3 : ¬ e.k = 3 := by omega
    have q4 : ¬ e.k = 4 := by omega
    have q5 : ¬ e.k = 5 := by omega
    have q6 : ¬ e.k = 6 := by omega
    have q7 : ¬ e.k = 7 := by omega
    have q8 : ¬ e.k = 8 := by omega
    have q9 : ¬ e.k = 9 := by omega
    have q10 : ¬ e.k = 10 := by omega
    have q11 : ¬ e.k = 11 := by omega
    have q12 : ¬ e.k = 12 := by omega
    have q13 : ¬ e.k = 13 := by omega
    have q14 : ¬ e.k = 14 := by omega
    have q16 : ¬ e.k = 16 := by omega
    have q20 : ¬ e.k = 20 := by omega
    have q21 : ¬ e.k = 21 := by omega
    simp [q3, q4, q5, q6, q7, q8, q9, q10, q11, q12, q13, q14, q16, q20, q21]
  rw [this]
  exact h
theorem run_sync : ∀ (es : List E6.Ev) (M M' : CS) (i i' : Nat), Sim M M' → (∀ e ∈ es, 1 ≤ e.k ∧ e.k ≤ 22) → M.run es i = (-1, 0) → M'.run (es.filter fun e => syncK e.k) i' = (-1, 0) := by
  intro es
  induction es with
  | nil => intro M M' i i' _ _ _; rfl
  | cons e es ih =>
    intro M M' i i' hs hk h
    rw [CS.run] at h
    by_cases hw : M.why (me e) ≠ 0
    · rw [if_pos hw] at h
      have := congrArg Prod.snd h
      exact absurd this hw
    · rw [if_neg hw] at h
      have hw0 : M.why (me e) = 0 := by omega
      have hk' : ∀ e ∈ es, 1 ≤ e.k ∧ e.k ≤ 22 := fun x hx => hk x (List.mem_cons_of_mem _ hx)
      cases hq : syncK e.k with
      | true =>
        rw [List.filter_cons_of_pos (by simpa using hq), CS.run, if_neg (by rw [hs.why]; exact hw)]
        exact ih _ _ _ _ (hs.next _) hk' h
      | false =>
        rw [List.filter_cons_of_neg (by simp [hq])]
        exact ih _ _ _ _ (sync_next hs hq (hk e (List.mem_cons_self ..)) hw0) hk' h
end Go.Proofs.YtafkammiehcdjaaGreatDoor
