import Derived.Test.YtafkammiehcdjaaGreatDoorZa24
import Derived.Test.YtafkammiehcdjaaGreatDoorZa07
import Derived.Test.YtafkammiehcdjaaGreatDoorZa08
import Derived.Test.YtafkammiehcdjaaGreatDoorZa02
import Derived.Test.YtafkammiehcdjaaGreatDoorZa20
/-
  New and Run.
-/
namespace Go.Proofs.YtafkammiehcdjaaGreatDoor
open Go.RowKit Go.Maps
section
variable {w w' : World} {cb : Nat} {B : Bl} {F : Nat → Option Lb} {M : CS} {N : Nat} {g k o a : Int} {s : Value}
/-- A checker that was made behind a world. -/
structure RSt (w wr : World) (cb : Nat) (M : CS) : Prop where
  ck : ∃ B F, Ck wr cb B F M (M.taken + 1) ∧ ∀ k, k < w.heap.size → F k = none
  inv : M.inv
  bel : Below w.heap.size w wr
theorem RSt.on {wr w2 : World} (h : RSt w wr cb M) (hb : Below wr.heap.size wr w2) : RSt w w2 cb M := by
  obtain ⟨B, F, h1, h2⟩ := h.ck
  exact ⟨⟨B, F, h1.below hb, h2⟩, h.inv, h.bel.trans (hb.mono h.bel.size)⟩
theorem RSt.under {w0 wr : World} (hb : Below w0.heap.size w0 w) (h : RSt w wr cb M) : RSt w0 wr cb M := by
  obtain ⟨B, F, h1, h2⟩ := h.ck
  exact ⟨⟨B, F, h1, fun k hk => h2 k (Nat.lt_of_lt_of_le hk hb.size)⟩, h.inv, hb.trans (h.bel.mono hb.size)⟩
theorem RSt.res {wr w2 : World} {F : Nat → Option Lb} {M2 : CS} (hF : ∀ k, k < w.heap.size → F k = none) (hb : Below w.heap.size w wr) (h : CkR wr cb F M2 (M2.taken + 1) w2) (hi : M2.inv) : RSt w w2 cb M2 := by
  obtain ⟨B', F', h1, h2, h3⟩ := h
  refine ⟨⟨B', F', h1, fun k hk => (h2 k (Nat.lt_of_lt_of_le hk hb.size)).trans (hF k hk)⟩, hi, hb.trans (h3.below hb.size (fun k e => ?_))⟩
  by_cases hk : k < w.heap.size
  · exact absurd (hF k hk) e
  · omega
theorem New_any (w : World) : Calls Tryz.prog 12 #[] w fun e w' => e = .returned (gPtr (w.heap.size + 5)) ∧ RSt w w' (w.heap.size + 5) CS.new := by
  obtain ⟨W, hW⟩ : ∃ W, W = (((((w.alloc (.map #[] 0)).alloc (.map #[] 0)).alloc (.map #[] 0)).alloc (.map #[] 0)).alloc (.map #[] 0)).alloc (.cells (ckc (newB w.heap.size) 0) 72) := ⟨_, rfl⟩
  obtain ⟨h1, h2⟩ := new_ck w W hW
  have HBg := hide (begin_any (x := 0) h1 (by decide) (by decide) (by decide) (by decide) rfl)
  have HB := hide h2
  have HW := hide hW
  unfold gPtr at HBg
  clear h1 h2 hW
  unfold ckc newB at HW
  dsimp only at HW
  have hmm := @run_makeMap Tryz.prog
  go_enter Tryz.func12, Tryz.ntmps12
  go_wp2_with fail
  have HBg2 := HBg
  rw [HW.out] at HBg2
  refine HBg2.out.mono ?_
  rintro e w2 ⟨rfl, hr⟩
  rw [← HW.out] at hr
  have HR := hide hr
  clear hr HBg HBg2
  go_wp2
  go_ret
  refine ⟨rfl, RSt.res (F := newF w.heap.size) (M2 := CS.new) (fun k hk => ?_) HB.out HR.out new_inv⟩
  cases hq : newF w.heap.size k with
  | none => rfl
  | some l => have := newF_lt hq; omega
def me (e : E6.Ev) : Me := ⟨e.g, e.k, e.o, e.a⟩
def CS.run (M : CS) : List E6.Ev → Nat → Int × Int
  | [], _ => (-1, 0)
  | e :: es, i => if M.why (me e) ≠ 0 then ((i : Int), M.why (me e)) else (M.next (me e)).run es (i + 1)
noncomputable def runV (es : List E6.Ev) : Int × Int × Int := if (E6.bounds es).2 ≠ 0 then ((E6.bounds es).1, 0, (E6.bounds es).2) else ((CS.new.run es 0).1, (CS.new.run es 0).2, 0)
theorem bnd_zero {es : List E6.Ev} : ∀ {i : Nat} {L : List ByteArray} {N : List E6.Nd}, (E6.bnd es i L N).2 = 0 → ∀ e ∈ es, e.chk = 0 := by
  induction es with
  | nil => intro i L N _ e he; cases he
  | cons x es ih =>
    intro i L N h e he
    rw [E6.bnd] at h
    by_cases hx : x.chk = 0
    · rw [if_pos hx] at h
      split at h
      · rcases List.mem_cons.1 he with rfl | he
        · exact hx
        · exact ih h e he
      · cases h
    · rw [if_neg hx] at h; exact absurd h hx
theorem bounds_zero {es : List E6.Ev} (h : (E6.bounds es).2 = 0) : es.length ≤ 1048576 ∧ ∀ e ∈ es, e.chk = 0 := by
  unfold E6.bounds at h
  split at h
  · rename_i hl; exact ⟨hl, bnd_zero h⟩
  · cases h
theorem why_zero {e : Me} (h : M.why e = 0) : ∃ r, M.gs e.g = some r ∧ M.ask e r = 0 := by
  unfold CS.why at h
  cases hq : M.gs e.g with
  | none => rw [hq] at h; cases h
  | some r =>
    rw [hq] at h
    dsimp only at h
    refine ⟨r, rfl, ?_⟩
    by_cases h1 : M.act e ≠ 0
    · rw [if_pos h1] at h; exact absurd h h1
    · rw [if_neg h1] at h; exact h
theorem next_taken {e : Me} (h : M.why e = 0) : (M.next e).taken = M.taken + 1 := by
  obtain ⟨r, hg, _⟩ := why_zero h
  unfold CS.next CS.tick
  rw [hg]
  dsimp only
  rw [doo_taken]
theorem addS_inv {ls : List ByteArray} (hi : M.inv) (hE : E6.chk g k o a ls = 0 → Eb g k o a) : (M.addS (E6.chk g k o a ls) ⟨g, k, o, a⟩).inv := by
  unfold CS.addS
  split
  · exact hi
  · rename_i hc
    split
    · exact hi
    · split
      · exact hi
      · rename_i hw
        have hw' : M.why ⟨g, k, o, a⟩ = 0 := by by_cases e : M.why ⟨g, k, o, a⟩ = 0; exact e; exact absurd e hw
        obtain ⟨r, hg, hask⟩ := why_zero hw'
        exact next_inv hi (hE (by by_cases e : E6.chk g k o a ls = 0; exact e; exact absurd e hc)) hg hask
theorem RSt.add {wr : World} (h : RSt w wr cb M) (ht : M.taken ≤ 1048576) (hK : E6.Kr w) (e : E6.Ev) (hok : e.ok) (hs : E6.SRow wr e.sa e.ls.length e.ls) :
    Calls Tryz.prog 14 #[gPtr cb, .agg #[.int .i64 e.g, .int .i64 e.k, .int .u64 e.o, .int .u64 e.a, .slice e.sa e.ls.length e.sc]] wr fun r w' => r = .returned (.tuple #[.int .i64 (M.addY e.chk (me e)), .int .i64 (M.addE e.chk)]) ∧ RSt w w' cb (M.addS e.chk (me e)) := by
  obtain ⟨B, F, h1, h2⟩ := h.ck
  have hsz := hK.size
  refine (Add_any (sa := e.sa) (sn := e.ls.length) (sc := e.sc) (ls := e.ls) h1 h.inv ht (hK.below h.bel (by omega)) hs (by have := hok.len; omega) hok.ho.1 hok.ho.2 hok.ha.1 hok.ha.2).mono ?_
  rintro r w' ⟨rfl, hr⟩
  exact ⟨rfl, RSt.res h2 h.bel hr (addS_inv h.inv (fun hc => chk_eb hc hok.ho.1 hok.ho.2 hok.ha.1 hok.ha.2))⟩
set_option maxRecDepth 8000 in
set_option maxHeartbeats 2000000 in
theorem Run_any (ad : Option Addr) (n c : Nat) (es : List E6.Ev) (w : World) (hK : E6.Kr w) (hr : E6.ERow w ad n es) (hok : ∀ e ∈ es, e.ok) (hn : (n : Int) ≤ 9223372036854775806) :
    Calls Tryz.prog 9 #[.slice ad n c] w fun r w' => r = .returned (.tuple #[.int .i64 (runV es).1, .int .i64 (runV es).2.1, .int .i64 (runV es).2.2]) ∧ Below w.heap.size w w' := by
  obtain ⟨R, hR⟩ : ∃ R, R = runV es := ⟨_, rfl⟩
  rw [← hR]
  have HR := hide hR
  have HBo := hide (E6.bounds_any ad n c es w hK hr hok hn)
  have HK := hide hK
  have HE := hide hr
  have HO := hide hok
  obtain ⟨bp, hbp⟩ : ∃ bp, bp = (E6.bounds es).1 := ⟨_, rfl⟩
  obtain ⟨be, hbe⟩ : ∃ be, be = (E6.bounds es).2 := ⟨_, rfl⟩
  rw [← hbp, ← hbe] at HBo
  have HBp := hide hbp
  have HBe := hide hbe
  clear hR hK hr hok hbp hbe
  go_enter Tryz.func9, Tryz.ntmps9
  go_wp2_with fail
  refine HBo.out.mono ?_
  rintro e w1 ⟨rfl, hb1⟩
  have HB1 := hide hb1
  clear hb1 HBo
  by_cases h0 : be = 0
  · have hne : (be != 0) = false := by simp [h0]
    have hz : (E6.bounds es).2 = 0 := by rw [← HBe.out]; exact h0
    obtain ⟨hlen, hchk⟩ := bounds_zero hz
    rw [HE.out.len] at hlen
    have HCk := hide hchk
    have HRn : Hid (R = ((CS.new.run es 0).1, (CS.new.run es 0).2, 0)) := hide (by rw [HR.out]; unfold runV; rw [if_neg (fun e => e hz)])
    have hl : (n : Int) ≤ 1048576 := by omega
    have HNw := hide (New_any w1)
    unfold gPtr at HNw
    clear h0 hz hchk HR HBp HBe hlen
    go_wp2_with fail
    refine HNw.out.mono ?_
    rintro e w2 ⟨rfl, hrs⟩
    have HS := hide (RSt.under HB1.out hrs)
    generalize w1.heap.size + 5 = cb at HS ⊢
    clear hrs HNw HB1
    go_wp2
    go_loopw [24] (fun i wr => ∃ (j : Nat) (M : CS), j ≤ n ∧ i = .int .i64 j ∧ RSt w wr cb M ∧ M.taken = j ∧ (R = ((M.run (es.drop j) j).1, (M.run (es.drop j) j).2, 0))) (fun i _ => n - (intOf i).toNat)
    case atStart => exact ⟨0, CS.new, Nat.zero_le _, rfl, HS.out, rfl, HRn.out⟩
    case round =>
      obtain ⟨j, M, hj, rfl, hst, htk, hRj⟩ := hrel
      have HS' := hide hst
      have HTk := hide htk
      clear hst HS htk HRn
      by_cases hlt : j < n
      · have hjI : (j : Int) < n := by omega
        have hrr := HE.out.bel HS'.out.bel
        obtain ⟨b, off, e, rfl, hej, c0, c1, c2, c3, c4, hs⟩ := hrr.at hlt
        have hme := HO.out e (List.mem_of_getElem? hej)
        have hck := HCk.out e (List.mem_of_getElem? hej)
        have hdrop : es.drop j = e :: es.drop (j + 1) := by
          obtain ⟨hl', he'⟩ := List.getElem?_eq_some_iff.1 hej
          rw [List.drop_eq_getElem_cons hl', he']
        rw [hdrop, CS.run] at hRj
        have HRj := hide hRj
        obtain ⟨W1, hW1⟩ : ∃ W1, W1 = wr.alloc (.cells #[.int .i64 e.g, .int .i64 e.k, .int .u64 e.o, .int .u64 e.a, .slice e.sa e.ls.length e.sc] 36) := ⟨_, rfl⟩
        have hb1 : Below wr.heap.size wr W1 := by rw [hW1]; exact below_alloc1 wr _
        have hS1 := HS'.out.on hb1
        have HAd := hide (hS1.add (by rw [HTk.out]; omega) HK.out e hme (E6.SRow.bel hs hb1))
        unfold gPtr at HAd
        rw [hck] at HAd
        obtain ⟨z1, z2, z3⟩ := add_why (M := M) (by rw [HTk.out]; omega) (me e)
        rw [z1, z2, z3] at HAd
        obtain ⟨Y, hY⟩ : ∃ Y, Y = M.why (me e) := ⟨_, rfl⟩
        rw [← hY] at HAd
        have HY := hide hY
        rw [hW1] at HAd
        have HW1 := hide hW1
        clear hrr hej hs hme hck hdrop hRj hW1 hb1 hS1 z1 z2 z3 hY
        go_wp2_with fail
        refine HAd.out.mono ?_
        rintro r w3 ⟨rfl, hs3⟩
        have HS3 := hide hs3
        clear hs3 HAd HW1 c0 c1 c2 c3 c4
        by_cases hY0 : Y = 0
        · have hYb : (Y != 0) = false := by simp [hY0]
          have hw0 : M.why (me e) = 0 := by rw [← HY.out]; exact hY0
          have HS4 : Hid (RSt w w3 cb (M.next (me e))) := hide (by have h9 := HS3.out; rw [if_neg (fun e => e hY0)] at h9; exact h9)
          have HTn := hide (next_taken hw0)
          have HRn : Hid (R = (((M.next (me e)).run (es.drop (j + 1)) (j + 1)).1, ((M.next (me e)).run (es.drop (j + 1)) (j + 1)).2, 0)) := hide (by rw [HRj.out, if_neg (fun e => e hw0)])
          clear hY0 hw0 HS3
          go_wp2
          exact ⟨⟨j + 1, _, by omega, by go_num, HS4.out, by rw [HTn.out, HTk.out], HRn.out⟩, by simp [intOf]; omega⟩
        · have hYb : (Y != 0) = true := by simp [hY0]
          have HRn : Hid (R = ((j : Int), Y, 0)) := hide (by rw [HRj.out, if_pos (by rw [← HY.out]; exact hY0), HY.out])
          have HS4 : Hid (Below w.heap.size w w3) := hide HS3.out.bel
          clear hY0 HS3
          go_wp2
          go_ret3
          exact ⟨by rw [HRn.out]; rfl, HS4.out⟩
      · have HRn : Hid (R = (-1, 0, 0)) := hide (by rw [hRj, List.drop_eq_nil_of_le (by rw [HE.out.len]; omega)]; rfl)
        clear hRj
        go_wp2
        go_ret3
        exact ⟨by rw [HRn.out]; rfl, HS'.out.bel⟩
  · have hne : (be != 0) = true := by simp [h0]
    have HRn : Hid (R = (bp, 0, be)) := hide (by rw [HR.out]; unfold runV; rw [if_pos (by rw [← HBe.out]; exact h0), HBp.out, HBe.out])
    clear h0
    go_wp2
    go_ret3
    exact ⟨by rw [HRn.out]; rfl, HB1.out⟩
end
end Go.Proofs.YtafkammiehcdjaaGreatDoor
/-
  Twins of events; prefixes of runs.
-/
namespace Go.Proofs.YtafkammiehcdjaaGreatDoor.E6
open Go.RowKit Go.Maps Go.Shelf
theorem ecells_get {l : List Ev} {i : Nat} {e : Ev} (h : l[i]? = some e) {t : Nat} (ht : t < 5) : (ecells l)[i * 5 + t]? = (ecell e)[t]? := by
  induction l generalizing i with
  | nil => simp at h
  | cons x l ih =>
    cases i with
    | zero =>
      simp at h; subst h
      rw [ecells, Nat.zero_mul, Nat.zero_add, List.getElem?_append_left (by simpa [ecell] using ht)]
    | succ i =>
      rw [ecells, List.getElem?_append_right (by simp [ecell]; omega)]
      have e1 : (i + 1) * 5 + t - (ecell x).length = i * 5 + t := by simp [ecell]; omega
      rw [e1]
      exact ih (by simpa using h)
theorem Tw.form {w0 wr : World} {es fs : List Ev} {n : Nat} {v : Value} (h : Tw w0 wr es n fs v) : ∃ a c, v = .slice a n c ∧ ERow wr a n fs ∧ n ≤ c := by
  have ho := h.own
  rcases ho.2 with ⟨hv, h0⟩ | ⟨g, cap, cur, hv, hb, hg, hn, hm, hs, ht⟩
  · subst h0; exact ⟨none, 0, hv, ⟨h.len, .inl rfl⟩, Nat.le_refl _⟩
  · refine ⟨some ⟨g, 0, none⟩, cap, hv, ⟨h.len, .inr ⟨g, 0, rfl, fun i f hf => ?_⟩⟩, hn⟩
    have hc : ∀ t (ht : t < 5), wr.cell? ⟨g, 0 + i * 5 + t, none⟩ = (ecell f)[t]? := by
      intro t ht5
      have hlt := (List.getElem?_eq_some_iff.1 hf).1
      subst hv
      have := ho.cellAt (i * 5 + t) (by rw [h.len] at hlt; omega)
      rw [Nat.zero_add, this, ecells_get hf ht5]
    obtain ⟨e, _, _, _, _, h5⟩ := h.each i f hf
    exact ⟨hc 0 (by omega), hc 1 (by omega), hc 2 (by omega), hc 3 (by omega), hc 4 (by omega), SRow.of_own h5⟩
theorem Tw.get {w0 wr : World} {es fs : List Ev} {n : Nat} {v : Value} (h : Tw w0 wr es n fs v) {i : Nat} {e : Ev} (he : es[i]? = some e) (hi : i < n) : ∃ f, fs[i]? = some f ∧ e.twin f := by
  have hl : i < fs.length := by rw [h.len]; exact hi
  obtain ⟨e', h1, h2, _⟩ := h.each i fs[i] (List.getElem?_eq_getElem hl)
  rw [he] at h1
  cases h1
  exact ⟨_, List.getElem?_eq_getElem hl, h2⟩
def Twins : List Ev → List Ev → Prop
  | [], [] => True
  | e :: r, f :: q => e.twin f ∧ Twins r q
  | _, _ => False
theorem twins_of {es fs : List Ev} (hl : fs.length = es.length) (h : ∀ (i : Nat) f, fs[i]? = some f → ∃ e, es[i]? = some e ∧ e.twin f) : Twins es fs := by
  induction es generalizing fs with
  | nil => cases fs with
    | nil => trivial
    | cons _ _ => simp at hl
  | cons e es ih => cases fs with
    | nil => simp at hl
    | cons f fs =>
      refine ⟨?_, ih (by simpa using hl) (fun i g hg => ?_)⟩
      · obtain ⟨e', h1, h2⟩ := h 0 f rfl
        simp at h1; subst h1; exact h2
      · obtain ⟨e', h1, h2⟩ := h (i + 1) g (by simpa using hg)
        exact ⟨e', by simpa using h1, h2⟩
theorem Twins.get {es fs : List Ev} (h : Twins es fs) {i : Nat} {e f : Ev} (he : es[i]? = some e) (hf : fs[i]? = some f) : e.twin f := by
  induction es generalizing fs i with
  | nil => simp at he
  | cons x es ih => cases fs with
    | nil => simp at hf
    | cons y fs => cases i with
      | zero => simp at he hf; subst he; subst hf; exact h.1
      | succ i => exact ih h.2 (by simpa using he) (by simpa using hf)
theorem Twins.len {es fs : List Ev} (h : Twins es fs) : fs.length = es.length := by
  induction es generalizing fs with
  | nil => cases fs with
    | nil => rfl
    | cons _ _ => exact h.elim
  | cons x es ih => cases fs with
    | nil => exact h.elim
    | cons y fs => simp [ih h.2]
theorem Ev.twin.chk {e f : Ev} (h : e.twin f) : f.chk = e.chk := by
  obtain ⟨h1, h2, h3, h4, h5⟩ := h
  unfold Ev.chk; rw [h1, h2, h3, h4, h5]
theorem bnd_twins {es fs : List Ev} (h : Twins es fs) : ∀ i L N, bnd fs i L N = bnd es i L N := by
  induction es generalizing fs with
  | nil => cases fs with
    | nil => intros; rfl
    | cons _ _ => exact h.elim
  | cons x es ih => cases fs with
    | nil => exact h.elim
    | cons y fs =>
      intro i L N
      rw [bnd, bnd, h.1.chk, h.1.2.2.2.2, ih h.2]
theorem bounds_twins {es fs : List Ev} (h : Twins es fs) : bounds fs = bounds es := by
  unfold bounds; rw [h.len, bnd_twins h]
theorem Tw.twins {w0 wr : World} {es fs : List Ev} {n : Nat} {v : Value} (h : Tw w0 wr es n fs v) (hl : es.length = n) : Twins es fs :=
  twins_of (by rw [h.len, hl]) fun i f hf => by obtain ⟨e, h1, h2, _⟩ := h.each i f hf; exact ⟨e, h1, h2⟩
theorem Tw.ok {w0 wr : World} {es fs : List Ev} {n : Nat} {v : Value} (h : Tw w0 wr es n fs v) (hok : ∀ e ∈ es, e.ok) : ∀ f ∈ fs, f.ok := by
  intro f hf
  obtain ⟨i, hi, e0⟩ := List.getElem_of_mem hf
  obtain ⟨e, h1, ⟨_, _, t3, t4, t5⟩, h3, h4, _⟩ := h.each i f (by rw [List.getElem?_eq_getElem hi, e0])
  have ho := hok e (List.mem_of_getElem? h1)
  exact ⟨by rw [t3]; exact ho.ho, by rw [t4]; exact ho.ha, by rw [t5]; exact ho.len, by rw [t5]; exact ho.sz, h3, h4⟩
theorem erow_own {w : World} {base n : Nat} {v : Value} {fs : List Ev} (h : w.ownsRow base 36 5 v n (ecells fs)) (hl : fs.length = n) (hs : ∀ f ∈ fs, SRow w f.sa f.ls.length f.ls) : ∃ a c, v = .slice a n c ∧ ERow w a n fs ∧ n ≤ c ∧ (a = none → c = 0) := by
  rcases h.2 with ⟨hv, h0⟩ | ⟨g, cap, cur, hv, hb, hg, hn, hm, hss, ht⟩
  · subst h0; exact ⟨none, 0, hv, ⟨hl, .inl rfl⟩, Nat.le_refl _, fun _ => rfl⟩
  · refine ⟨some ⟨g, 0, none⟩, cap, hv, ⟨hl, .inr ⟨g, 0, rfl, fun i f hf => ?_⟩⟩, hn, fun e => by cases e⟩
    have hc : ∀ t (ht : t < 5), w.cell? ⟨g, 0 + i * 5 + t, none⟩ = (ecell f)[t]? := by
      intro t ht5
      have hlt := (List.getElem?_eq_some_iff.1 hf).1
      subst hv
      have := h.cellAt (i * 5 + t) (by omega)
      rw [Nat.zero_add, this, ecells_get hf ht5]
    exact ⟨hc 0 (by omega), hc 1 (by omega), hc 2 (by omega), hc 3 (by omega), hc 4 (by omega), hs f (List.mem_of_getElem? hf)⟩
theorem bnd_take {es : List Ev} : ∀ (i k : Nat) (L : List ByteArray) (N : List Nd), (bnd es k L N).2 = 0 → (bnd (es.take i) k L N).2 = 0 := by
  induction es with
  | nil => intro i k L N h; rw [List.take_nil]; exact h
  | cons e es ih =>
    intro i k L N h
    cases i with
    | zero => rfl
    | succ i =>
      rw [List.take_succ_cons]
      rw [bnd] at h ⊢
      by_cases hc : e.chk = 0
      · rw [if_pos hc] at h ⊢
        split at h
        · rename_i hr
          rw [if_pos hr]
          exact ih i _ _ _ h
        · cases h
      · rw [if_neg hc] at h; exact absurd h hc
theorem bounds_take {es : List Ev} (i : Nat) (h : (bounds es).2 = 0) : (bounds (es.take i)).2 = 0 := by
  unfold bounds at h ⊢
  split at h
  · rename_i hl
    rw [if_pos (by rw [List.length_take]; omega)]
    exact bnd_take i 0 [] [] h
  · cases h
end Go.Proofs.YtafkammiehcdjaaGreatDoor.E6
namespace Go.Proofs.YtafkammiehcdjaaGreatDoor
open Go.RowKit Go.Maps
theorem run_twins {es fs : List E6.Ev} (h : E6.Twins es fs) : ∀ (M : CS) (i : Nat), M.run fs i = M.run es i := by
  induction es generalizing fs with
  | nil => cases fs with
    | nil => intros; rfl
    | cons _ _ => exact h.elim
  | cons x es ih => cases fs with
    | nil => exact h.elim
    | cons y fs =>
      intro M i
      have e1 : me y = me x := by obtain ⟨h1, h2, h3, h4, _⟩ := h.1; unfold me; rw [h1, h2, h3, h4]
      rw [CS.run, CS.run, e1, ih h.2]
theorem runV_twins {es fs : List E6.Ev} (h : E6.Twins es fs) : runV fs = runV es := by
  unfold runV; rw [E6.bounds_twins h, run_twins h]
theorem twin_all (a : Option Addr) (n c : Nat) (es : List E6.Ev) (w : World) (hr : E6.ERow w a n es) (hok : ∀ e ∈ es, e.ok) (hn : n * 56 ≤ 140737488355328) (hc0 : a = none → c = 0) :
    Calls Tryz.prog 10 #[.slice a n c] w fun e w' => ∃ a' c' fs, e = .returned (.slice a' n c') ∧ E6.ERow w' a' n fs ∧ (∀ f ∈ fs, f.ok) ∧ runV fs = runV es ∧ E6.bounds fs = E6.bounds es ∧ Below w.heap.size w w' := by
  refine (E6.twin_any a n c es w hr hok hn hc0).mono ?_
  rintro e w' ⟨fs, v, rfl, htw⟩
  obtain ⟨a', c', rfl, hrow, _⟩ := htw.form
  have ht := htw.twins hr.len
  exact ⟨a', c', fs, rfl, hrow, htw.ok hok, runV_twins ht, E6.bounds_twins ht, htw.bel⟩
theorem run_bd : ∀ (es : List E6.Ev) (M : CS) (k : Nat), ((M.run es k).1 = -1 ∧ (M.run es k).2 = 0) ∨ ((k : Int) ≤ (M.run es k).1 ∧ (M.run es k).1 < k + es.length ∧ (M.run es k).2 ≠ 0) := by
  intro es
  induction es with
  | nil => intro M k; exact .inl ⟨rfl, rfl⟩
  | cons e es ih =>
    intro M k
    rw [CS.run]
    by_cases h : M.why (me e) ≠ 0
    · rw [if_pos h]
      refine .inr ⟨Int.le_refl _, ?_, h⟩
      dsimp only
      rw [List.length_cons]
      omega
    · rw [if_neg h]
      rcases ih (M.next (me e)) (k + 1) with h1 | ⟨h1, h2, h3⟩
      · exact .inl h1
      · refine .inr ⟨by omega, ?_, h3⟩
        rw [List.length_cons]
        omega
/-- The checker's state behind the first i events, which all can come. -/
def Pre (es : List E6.Ev) (i : Nat) (M : CS) : Prop := ∀ tail, CS.new.run (es.take i ++ tail) 0 = M.run tail i
theorem Pre.zero (es : List E6.Ev) : Pre es 0 CS.new := fun _ => rfl
theorem Pre.succ {es : List E6.Ev} {i : Nat} {M : CS} (h : Pre es i M) {e : E6.Ev} (he : es[i]? = some e) (hw : M.why (me e) = 0) : Pre es (i + 1) (M.next (me e)) := by
  intro tail
  have h1 : es.take (i + 1) = es.take i ++ [e] := by
    obtain ⟨hl, h9⟩ := List.getElem?_eq_some_iff.1 he
    rw [List.take_succ_eq_append_getElem hl, h9]
  rw [h1, List.append_assoc]
  have h2 := h ([e] ++ tail)
  rw [h2]
  show M.run (e :: tail) i = _
  rw [CS.run, if_neg (fun x => x hw)]
theorem Pre.all {es : List E6.Ev} {i : Nat} {M : CS} (h : Pre es i M) : CS.new.run es 0 = M.run (es.drop i) i := by
  have h1 := h (es.drop i)
  rw [List.take_append_drop] at h1
  exact h1
theorem runV_zero {es : List E6.Ev} (h : (E6.bounds es).2 = 0) : runV es = ((CS.new.run es 0).1, (CS.new.run es 0).2, 0) := by
  unfold runV
  rw [if_neg (fun x => x h)]
theorem Pre.take {es : List E6.Ev} {i : Nat} {M : CS} (h : Pre es i M) (hb : (E6.bounds es).2 = 0) : runV (es.take i) = (-1, 0, 0) := by
  have h1 := h []
  rw [List.append_nil] at h1
  rw [runV_zero (E6.bounds_take i hb), h1]
  rfl
end Go.Proofs.YtafkammiehcdjaaGreatDoor
/-
  Run, told by counts over the events that came.
-/
namespace Go.Proofs.YtafkammiehcdjaaGreatDoor
/-- The first place whose event can't come, and why. -/
def fr : List Me → List Me → Nat → Int × Int
  | _, [], _ => (-1, 0)
  | T, e :: es, i => if rsn T e ≠ 0 then ((i : Int), rsn T e) else fr (T ++ [e]) es (i + 1)
theorem run_fr : ∀ (es : List E6.Ev) (T : List Me) (M : CS) (i : Nat), Rch T M → (∀ e ∈ es, Gdm (me e)) → M.run es i = fr T (es.map me) i := by
  intro es
  induction es with
  | nil => intro T M i _ _; rfl
  | cons e es ih =>
    intro T M i h hg
    have h1 := h.why (hg e (List.mem_cons_self ..))
    rw [CS.run, List.map_cons, fr, h1]
    by_cases hw : rsn T (me e) ≠ 0
    · rw [if_pos hw, if_pos hw]
    · rw [if_neg hw, if_neg hw]
      exact ih _ _ _ (.step h (hg e (List.mem_cons_self ..)) (by rw [h1]; omega)) fun x hx => hg x (List.mem_cons_of_mem _ hx)
theorem chk_arg {g k o a : Int} {ls : List ByteArray} (h : E6.chk g k o a ls = 0) : E6.argB k.toNat a = true := by
  unfold E6.chk at h
  split at h
  · split at h
    · cases h
    · split at h
      · split at h
        · assumption
        · cases h
      · cases h
  · cases h
theorem gdm_of {e : E6.Ev} (h : e.chk = 0) (hok : e.ok) : Gdm (me e) ∧ Eb e.g e.k e.o e.a := by
  have hb : Eb e.g e.k e.o e.a := chk_eb (ls := e.ls) h hok.ho.1 hok.ho.2 hok.ha.1 hok.ha.2
  refine ⟨⟨⟨hb.ok.g0, hb.ok.g1⟩, fun hk => ?_, fun hk => ?_, fun hk => ?_⟩, hb⟩
  · have h1 := chk_arg (g := e.g) (k := e.k) (o := e.o) (a := e.a) (ls := e.ls) h
    have h2 : e.k = 16 := hk
    rw [h2] at h1
    have h3 := of_decide_eq_true h1
    have h4 : e.a ≤ 1 := h3.2
    have := hok.ha
    show e.a = 0 ∨ e.a = 1
    omega
  · have := hb.rc hk; have := hok.ha; show e.a = 0 ∨ e.a = 1; omega
  · exact (hb.al (.inl hk)).1
/-- Each channel was made ahead of what is sent to it. -/
def Mde (T : List Me) : Prop := ∀ P e S, T = P ++ e :: S → e.k = 10 → (roomT P e.o).isSome = true
theorem Rch.mde {T : List Me} {M : CS} (h : Rch T M) : Mde T := by
  induction h with
  | new => intro P e S h; exact absurd h (by simp)
  | @step T M e h0 hg hw ih =>
    intro P x S he hk
    rcases List.eq_nil_or_concat S with rfl | ⟨S', y, rfl⟩
    · have h1 := List.append_inj' he rfl
      obtain ⟨rfl, h2⟩ := h1
      cases h2
      obtain ⟨r, hc⟩ := why_can hw
      have h3 := ask_chan hc.ask (by omega) (by omega)
      have h4 := h0.lkC.ch e.o
      cases hq : roomT T e.o with
      | some _ => rfl
      | none =>
        rw [hq] at h4
        have := h3.2 h4
        omega
    · have h1 : T ++ [e] = (P ++ x :: S') ++ [y] := by rw [he]; simp
      have h2 := List.append_inj' h1 rfl
      exact ih P x S' h2.1 hk
def Tj (es : List E6.Ev) (j : Nat) : List Me := (es.take j).map me
theorem Tj_succ {es : List E6.Ev} {j : Nat} {e : E6.Ev} (he : es[j]? = some e) : Tj es (j + 1) = Tj es j ++ [me e] := by
  obtain ⟨hl, h9⟩ := List.getElem?_eq_some_iff.1 he
  unfold Tj
  rw [List.take_succ_eq_append_getElem hl, h9, List.map_append]
  rfl
theorem Tj_zero (es : List E6.Ev) : Tj es 0 = [] := by unfold Tj; simp
theorem Tj_all {es : List E6.Ev} {n : Nat} (h : es.length = n) : Tj es n = es.map me := by
  unfold Tj; rw [← h, List.take_length]
theorem Tj_len {es : List E6.Ev} {n : Nat} (h : es.length = n) {j : Nat} (hj : j ≤ n) : (Tj es j).length = j := by
  unfold Tj; rw [List.length_map, List.length_take]; omega
theorem Tj_split {es : List E6.Ev} {j : Nat} {e : E6.Ev} (he : es[j]? = some e) : es.map me = Tj es j ++ me e :: (es.drop (j + 1)).map me := by
  obtain ⟨hl, h9⟩ := List.getElem?_eq_some_iff.1 he
  conv => lhs; rw [← List.take_append_drop j es]
  rw [List.map_append, List.drop_eq_getElem_cons hl, h9]
  rfl
/-- How many events there are of a goroutine (below 0: of all), kind and object. -/
def cnX (T : List Me) (g k o : Int) : Nat := if g < 0 then cnA T k o else cnG T g k o
theorem cnX_nil (g k o : Int) : cnX [] g k o = 0 := by unfold cnX; split <;> rfl
theorem cnX_snoc {T : List Me} {e : Me} {g k o : Int} : cnX (T ++ [e]) g k o = cnX T g k o + (if (g < 0 ∨ e.g = g) ∧ e.k = k ∧ e.o = o then 1 else 0) := by
  unfold cnX
  by_cases h : g < 0
  · rw [if_pos h, if_pos h, cnA_snoc]
    congr 1
    by_cases h2 : e.k = k ∧ e.o = o
    · rw [if_pos h2, if_pos ⟨.inl h, h2⟩]
    · rw [if_neg h2, if_neg (fun q => h2 q.2)]
  · rw [if_neg h, if_neg h]
    unfold cnG
    rw [List.countP_append]
    congr 1
    by_cases h2 : e.g = g ∧ e.k = k ∧ e.o = o
    · rw [if_pos ⟨.inr h2.1, h2.2⟩]; simp [h2]
    · rw [if_neg (fun q => h2 ⟨q.1.resolve_left h, q.2⟩)]; simp [h2]
theorem cnX_le (T : List Me) (g k o : Int) : cnX T g k o ≤ T.length := by
  unfold cnX cnA cnG
  split <;> exact List.countP_le_length
theorem cnT_le (T : List Me) (k o a : Int) : cnT T k o a ≤ T.length := List.countP_le_length
theorem cnX_all (T : List Me) (k o : Int) : cnX T (-1) k o = cnA T k o := if_pos (by decide)
theorem cnX_g {T : List Me} {g k o : Int} (h : 0 ≤ g) : cnX T g k o = cnG T g k o := if_neg (by omega)
theorem nmd_append (T U : List Me) (k x : Int) : nmd (T ++ U) k x = (nmd T k x || nmd U k x) := by unfold nmd; rw [List.any_append]
theorem nmd_found {T U : List Me} {e : Me} {k x : Int} (h1 : e.k = k) (h2 : e.a = x) : nmd (T ++ e :: U) k x = true := by
  rw [nmd_append]; unfold nmd; simp [h1, h2]
theorem roomT_append (T U : List Me) (o : Int) : roomT (T ++ U) o = match roomT T o with
    | some r => some r
    | none => roomT U o := by
  induction T with
  | nil => rfl
  | cons x T ih =>
    rw [List.cons_append, roomT, roomT]
    by_cases h : x.k = 9 ∧ x.o = o
    · rw [if_pos h, if_pos h]
    · rw [if_neg h, if_neg h, ih]
end Go.Proofs.YtafkammiehcdjaaGreatDoor
/-
  The document's counts over a trace.
-/
namespace Go.Proofs.YtafkammiehcdjaaGreatDoor
open Go.RowKit Go.Maps
set_option linter.unusedVariables false
theorem beq_t {a b : Int} (h : a = b) : (a == b) = true := by simp [h]
theorem beq_f {a b : Int} (h : ¬ a = b) : (a == b) = false := by simp [h]
theorem bne_t {a b : Int} (h : ¬ a = b) : (a != b) = true := by simp [h]
theorem bne_f {a b : Int} (h : a = b) : (a != b) = false := by simp [h]
set_option maxRecDepth 4000 in
theorem rcount_any (ad : Option Addr) (n c : Nat) (es : List E6.Ev) (w : World) (hr : E6.ERow w ad n es) (hn : (n : Int) ≤ 1048576) (g kd ob : Int) :
    Calls Tryz.prog 139 #[.slice ad n c, .int .i64 g, .int .i64 kd, .int .u64 ob] w fun e w' => e = .returned (.int .i64 (cnX (es.map me) g kd ob : Int)) ∧ w' = w := by
  have HE := hide hr
  clear hr
  go_enter Tryz.func139, Tryz.ntmps139
  go_wp2
  go_loopw [9, 10] (fun m i wr => ∃ (j : Nat), j ≤ n ∧ i = .int .i64 j ∧ m = .int .i64 (cnX (Tj es j) g kd ob : Int) ∧ wr = w) (fun _ i _ => n - (intOf i).toNat)
  case atStart => exact ⟨0, Nat.zero_le _, rfl, by rw [Tj_zero]; rw [cnX_nil]; rfl, rfl⟩
  case round =>
    obtain ⟨j, hj, rfl, rfl, rfl⟩ := hrel
    have hNl : cnX (Tj es j) g kd ob ≤ j := by
      have h1 := cnX_le (Tj es j) g kd ob
      rw [Tj_len HE.out.len hj] at h1
      exact h1
    by_cases hlt : j < n
    · have hjI : (j : Int) < n := by omega
      obtain ⟨b, off, e, rfl, hej, c0, c1, c2, c3, c4, hs⟩ := HE.out.at hlt
      have HS : Hid (cnX (Tj es (j + 1)) g kd ob = cnX (Tj es j) g kd ob + (if (g < 0 ∨ e.g = g) ∧ e.k = kd ∧ e.o = ob then 1 else 0)) := hide (by have h1 := cnX_snoc (T := Tj es j) (e := me e) (g := g) (k := kd) (o := ob); rw [← Tj_succ hej] at h1; exact h1)
      clear hs hej
      generalize cnX (Tj es j) g kd ob = N at HS hNl ⊢
      have hNI : (N : Int) ≤ 1048576 := by omega
      by_cases hg : g < 0
      · have hgb : decide (g < 0) = true := decide_eq_true hg
        by_cases hk : e.k = kd
        · have hkb := beq_t hk
          by_cases ho : e.o = ob
          · have hob := beq_t ho
            have h8 : (g < 0 ∨ e.g = g) ∧ e.k = kd ∧ e.o = ob := ⟨.inl hg, hk, ho⟩
            have h9 : (cnX (Tj es (j + 1)) g kd ob : Int) = N + 1 := by have := HS.out; rw [if_pos h8] at this; omega
            clear HS h8
            go_wp2
            exact ⟨⟨j + 1, by omega, by go_num, by first | rw [h9] | simp only [h9], by first | trivial | rfl⟩, by simp [intOf]; omega⟩
          · have hob := beq_f ho
            have h8 : ¬ ((g < 0 ∨ e.g = g) ∧ e.k = kd ∧ e.o = ob) := fun q => ho q.2.2
            have h9 : (cnX (Tj es (j + 1)) g kd ob : Int) = N := by have := HS.out; rw [if_neg h8] at this; omega
            clear HS h8
            go_wp2
            exact ⟨⟨j + 1, by omega, by go_num, by first | rw [h9] | simp only [h9], by first | trivial | rfl⟩, by simp [intOf]; omega⟩
        · have hkb := beq_f hk
          have h8 : ¬ ((g < 0 ∨ e.g = g) ∧ e.k = kd ∧ e.o = ob) := fun q => hk q.2.1
          have h9 : (cnX (Tj es (j + 1)) g kd ob : Int) = N := by have := HS.out; rw [if_neg h8] at this; omega
          clear HS h8
          go_wp2
          exact ⟨⟨j + 1, by omega, by go_num, by first | rw [h9] | simp only [h9], by first | trivial | rfl⟩, by simp [intOf]; omega⟩
      · have hgb : decide (g < 0) = false := decide_eq_false hg
        by_cases hgg : e.g = g
        · have hge := beq_t hgg
          by_cases hk : e.k = kd
          · have hkb := beq_t hk
            by_cases ho : e.o = ob
            · have hob := beq_t ho
              have h8 : (g < 0 ∨ e.g = g) ∧ e.k = kd ∧ e.o = ob := ⟨.inr hgg, hk, ho⟩
              have h9 : (cnX (Tj es (j + 1)) g kd ob : Int) = N + 1 := by have := HS.out; rw [if_pos h8] at this; omega
              clear HS h8
              go_wp2
              exact ⟨⟨j + 1, by omega, by go_num, by first | rw [h9] | simp only [h9], by first | trivial | rfl⟩, by simp [intOf]; omega⟩
            · have hob := beq_f ho
              have h8 : ¬ ((g < 0 ∨ e.g = g) ∧ e.k = kd ∧ e.o = ob) := fun q => ho q.2.2
              have h9 : (cnX (Tj es (j + 1)) g kd ob : Int) = N := by have := HS.out; rw [if_neg h8] at this; omega
              clear HS h8
              go_wp2
              exact ⟨⟨j + 1, by omega, by go_num, by first | rw [h9] | simp only [h9], by first | trivial | rfl⟩, by simp [intOf]; omega⟩
          · have hkb := beq_f hk
            have h8 : ¬ ((g < 0 ∨ e.g = g) ∧ e.k = kd ∧ e.o = ob) := fun q => hk q.2.1
            have h9 : (cnX (Tj es (j + 1)) g kd ob : Int) = N := by have := HS.out; rw [if_neg h8] at this; omega
            clear HS h8
            go_wp2
            exact ⟨⟨j + 1, by omega, by go_num, by first | rw [h9] | simp only [h9], by first | trivial | rfl⟩, by simp [intOf]; omega⟩
        · have hge := beq_f hgg
          have h8 : ¬ ((g < 0 ∨ e.g = g) ∧ e.k = kd ∧ e.o = ob) := fun q => q.1.elim hg hgg
          have h9 : (cnX (Tj es (j + 1)) g kd ob : Int) = N := by have := HS.out; rw [if_neg h8] at this; omega
          clear HS h8
          go_wp2
          exact ⟨⟨j + 1, by omega, by go_num, by first | rw [h9] | simp only [h9], by first | trivial | rfl⟩, by simp [intOf]; omega⟩
    · have h9 : j = n := by omega
      subst h9
      have h8 := Tj_all HE.out.len
      rw [h8] at hNl ⊢
      go_wp2
      go_ret
      exact ⟨rfl, rfl⟩
set_option maxRecDepth 4000 in
theorem rtold_any (ad : Option Addr) (n c : Nat) (es : List E6.Ev) (w : World) (hr : E6.ERow w ad n es) (hn : (n : Int) ≤ 1048576) (kd ob x : Int) :
    Calls Tryz.prog 143 #[.slice ad n c, .int .i64 kd, .int .u64 ob, .int .u64 x] w fun e w' => e = .returned (.int .i64 (cnT (es.map me) kd ob x : Int)) ∧ w' = w := by
  have HE := hide hr
  clear hr
  go_enter Tryz.func143, Tryz.ntmps143
  go_wp2
  go_loopw [9, 10] (fun m i wr => ∃ (j : Nat), j ≤ n ∧ i = .int .i64 j ∧ m = .int .i64 (cnT (Tj es j) kd ob x : Int) ∧ wr = w) (fun _ i _ => n - (intOf i).toNat)
  case atStart => exact ⟨0, Nat.zero_le _, rfl, by rw [Tj_zero]; rfl, rfl⟩
  case round =>
    obtain ⟨j, hj, rfl, rfl, rfl⟩ := hrel
    have hNl : cnT (Tj es j) kd ob x ≤ j := by
      have h1 := cnT_le (Tj es j) kd ob x
      rw [Tj_len HE.out.len hj] at h1
      exact h1
    by_cases hlt : j < n
    · have hjI : (j : Int) < n := by omega
      obtain ⟨b, off, e, rfl, hej, c0, c1, c2, c3, c4, hs⟩ := HE.out.at hlt
      have HS : Hid (cnT (Tj es (j + 1)) kd ob x = cnT (Tj es j) kd ob x + (if e.k = kd ∧ e.o = ob ∧ e.a = x then 1 else 0)) := hide (by have h1 := cnT_snoc (T := Tj es j) (e := me e) (k := kd) (o := ob) (a := x); rw [← Tj_succ hej] at h1; exact h1)
      clear hs hej
      generalize cnT (Tj es j) kd ob x = N at HS hNl ⊢
      have hNI : (N : Int) ≤ 1048576 := by omega
      by_cases hk : e.k = kd
      · have hkb := beq_t hk
        by_cases ho : e.o = ob
        · have hob := beq_t ho
          by_cases ha : e.a = x
          · have hab := beq_t ha
            have h8 : e.k = kd ∧ e.o = ob ∧ e.a = x := ⟨hk, ho, ha⟩
            have h9 : (cnT (Tj es (j + 1)) kd ob x : Int) = N + 1 := by have := HS.out; rw [if_pos h8] at this; omega
            clear HS h8
            go_wp2
            exact ⟨⟨j + 1, by omega, by go_num, by first | rw [h9] | simp only [h9], by first | trivial | rfl⟩, by simp [intOf]; omega⟩
          · have hab := beq_f ha
            have h8 : ¬ (e.k = kd ∧ e.o = ob ∧ e.a = x) := fun q => ha q.2.2
            have h9 : (cnT (Tj es (j + 1)) kd ob x : Int) = N := by have := HS.out; rw [if_neg h8] at this; omega
            clear HS h8
            go_wp2
            exact ⟨⟨j + 1, by omega, by go_num, by first | rw [h9] | simp only [h9], by first | trivial | rfl⟩, by simp [intOf]; omega⟩
        · have hob := beq_f ho
          have h8 : ¬ (e.k = kd ∧ e.o = ob ∧ e.a = x) := fun q => ho q.2.1
          have h9 : (cnT (Tj es (j + 1)) kd ob x : Int) = N := by have := HS.out; rw [if_neg h8] at this; omega
          clear HS h8
          go_wp2
          exact ⟨⟨j + 1, by omega, by go_num, by first | rw [h9] | simp only [h9], by first | trivial | rfl⟩, by simp [intOf]; omega⟩
      · have hkb := beq_f hk
        have h8 : ¬ (e.k = kd ∧ e.o = ob ∧ e.a = x) := fun q => hk q.1
        have h9 : (cnT (Tj es (j + 1)) kd ob x : Int) = N := by have := HS.out; rw [if_neg h8] at this; omega
        clear HS h8
        go_wp2
        exact ⟨⟨j + 1, by omega, by go_num, by first | rw [h9] | simp only [h9], by first | trivial | rfl⟩, by simp [intOf]; omega⟩
    · have h9 : j = n := by omega
      subst h9
      have h8 := Tj_all HE.out.len
      rw [h8] at hNl ⊢
      go_wp2
      go_ret
      exact ⟨rfl, rfl⟩
set_option maxRecDepth 4000 in
theorem rnamed_any (ad : Option Addr) (n c : Nat) (es : List E6.Ev) (w : World) (hr : E6.ERow w ad n es) (hn : (n : Int) ≤ 1048576) (kd x : Int) :
    Calls Tryz.prog 134 #[.slice ad n c, .int .i64 kd, .int .u64 x] w fun e w' => e = .returned (.bool (nmd (es.map me) kd x)) ∧ w' = w := by
  obtain ⟨R, hR⟩ : ∃ R, R = nmd (es.map me) kd x := ⟨_, rfl⟩
  rw [← hR]
  have HR := hide hR
  have HE := hide hr
  clear hr hR
  go_enter Tryz.func134, Tryz.ntmps134
  go_wp2
  go_loopw [7] (fun i wr => ∃ (j : Nat), j ≤ n ∧ i = .int .i64 j ∧ nmd (Tj es j) kd x = false ∧ wr = w) (fun i _ => n - (intOf i).toNat)
  case atStart => exact ⟨0, Nat.zero_le _, rfl, by rw [Tj_zero]; rfl, rfl⟩
  case round =>
    obtain ⟨j, hj, rfl, hN, rfl⟩ := hrel
    by_cases hlt : j < n
    · have hjI : (j : Int) < n := by omega
      obtain ⟨b, off, e, rfl, hej, c0, c1, c2, c3, c4, hs⟩ := HE.out.at hlt
      have HS : Hid (nmd (Tj es (j + 1)) kd x = (false || decide (e.k = kd ∧ e.a = x))) := hide (by rw [Tj_succ hej, nmd_snoc, hN]; rfl)
      have HF : Hid (e.k = kd → e.a = x → nmd (es.map me) kd x = true) := hide (fun h1 h2 => by rw [Tj_split hej]; exact nmd_found h1 h2)
      clear hs hej hN
      by_cases hk : e.k = kd
      · have hkb := beq_t hk
        by_cases ha : e.a = x
        · have hab := beq_t ha
          have H9 : Hid (R = true) := hide (HR.out.trans (HF.out hk ha))
          clear HF HS HR
          go_wp2
          go_ret
          exact ⟨by rw [H9.out]; rfl, rfl⟩
        · have hab := beq_f ha
          have h9 : nmd (Tj es (j + 1)) kd x = false := by rw [HS.out]; simp [ha]
          clear HF HS
          go_wp2
          exact ⟨⟨j + 1, by omega, by go_num, h9, by first | trivial | rfl⟩, by simp [intOf]; omega⟩
      · have hkb := beq_f hk
        have h9 : nmd (Tj es (j + 1)) kd x = false := by rw [HS.out]; simp [hk]
        clear HF HS
        go_wp2
        exact ⟨⟨j + 1, by omega, by go_num, h9, by first | trivial | rfl⟩, by simp [intOf]; omega⟩
    · have h9 : j = n := by omega
      subst h9
      rw [Tj_all HE.out.len] at hN
      have H9 : Hid (R = false) := hide (HR.out.trans hN)
      clear hN HR
      go_wp2
      go_ret
      exact ⟨by rw [H9.out]; rfl, rfl⟩
def roomI (T : List Me) (o : Int) : Int := (roomT T o).getD (-1)
set_option maxRecDepth 4000 in
theorem rroom_any (ad : Option Addr) (n c : Nat) (es : List E6.Ev) (w : World) (hr : E6.ERow w ad n es) (hn : (n : Int) ≤ 1048576) (hg : ∀ e ∈ es, Eb e.g e.k e.o e.a) (ob : Int) :
    Calls Tryz.prog 135 #[.slice ad n c, .int .u64 ob] w fun e w' => e = .returned (.int .i64 (roomI (es.map me) ob)) ∧ w' = w := by
  obtain ⟨R, hR⟩ : ∃ R, R = roomI (es.map me) ob := ⟨_, rfl⟩
  rw [← hR]
  have HR := hide hR
  have HE := hide hr
  have HG := hide hg
  clear hr hg hR
  go_enter Tryz.func135, Tryz.ntmps135
  go_wp2
  go_loopw [5] (fun i wr => ∃ (j : Nat), j ≤ n ∧ i = .int .i64 j ∧ roomT (Tj es j) ob = none ∧ wr = w) (fun i _ => n - (intOf i).toNat)
  case atStart => exact ⟨0, Nat.zero_le _, rfl, by rw [Tj_zero]; rfl, rfl⟩
  case round =>
    obtain ⟨j, hj, rfl, hN, rfl⟩ := hrel
    by_cases hlt : j < n
    · have hjI : (j : Int) < n := by omega
      obtain ⟨b, off, e, rfl, hej, c0, c1, c2, c3, c4, hs⟩ := HE.out.at hlt
      have HS : Hid (roomT (Tj es (j + 1)) ob = if e.k = 9 ∧ e.o = ob then some e.a else none) := hide (by rw [Tj_succ hej, roomT_snoc, hN]; rfl)
      have HF : Hid (e.k = 9 → e.o = ob → roomI (es.map me) ob = e.a) := hide (fun h1 h2 => by
        unfold roomI
        rw [Tj_split hej, roomT_append, hN]
        show (roomT (me e :: _) ob).getD (-1) = _
        rw [roomT, if_pos ⟨h1, h2⟩]; rfl)
      have hb := HG.out e (List.mem_of_getElem? hej)
      clear hs hej hN
      by_cases hk : e.k = 9
      · have hkb := beq_t hk
        by_cases ha : e.o = ob
        · have hab := beq_t ha
          have H9 : Hid (R = e.a) := hide (HR.out.trans (HF.out hk ha))
          have hm := hb.mc hk
          have h0 := hb.ok.a0
          have hw1 : IntKind.i64.wrap e.a = e.a := by rw [IntKind.wrap_i64]; omega
          clear HF HS HR hb hk ha
          go_wp2
          go_ret
          exact ⟨by rw [H9.out]; rfl, rfl⟩
        · have hab := beq_f ha
          have h9 : roomT (Tj es (j + 1)) ob = none := by rw [HS.out, if_neg (fun q => ha q.2)]
          clear HF HS hb
          go_wp2
          exact ⟨⟨j + 1, by omega, by go_num, h9, by first | trivial | rfl⟩, by simp [intOf]; omega⟩
      · have hkb := beq_f hk
        have h9 : roomT (Tj es (j + 1)) ob = none := by rw [HS.out, if_neg (fun q => hk q.1)]
        clear HF HS hb
        go_wp2
        exact ⟨⟨j + 1, by omega, by go_num, h9, by first | trivial | rfl⟩, by simp [intOf]; omega⟩
    · have h9 : j = n := by omega
      subst h9
      rw [Tj_all HE.out.len] at hN
      have h8 : roomI (es.map me) ob = -1 := by unfold roomI; rw [hN]; rfl
      have H9 : Hid (R = -1) := hide (HR.out.trans h8)
      clear hN h8 HR
      go_wp2
      go_ret
      exact ⟨by rw [H9.out]; rfl, rfl⟩
end Go.Proofs.YtafkammiehcdjaaGreatDoor
