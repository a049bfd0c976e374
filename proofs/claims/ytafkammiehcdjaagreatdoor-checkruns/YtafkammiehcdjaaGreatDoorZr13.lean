import Derived.Test.YtafkammiehcdjaaGreatDoorZr09
import Derived.Test.YtafkammiehcdjaaGreatDoorZr12
/-
  Bounds, the program's.
-/
namespace Go.Proofs.YtafkammiehcdjaaGreatDoor.E6
open Go.RowKit Go.Maps Go.Shelf
abbrev Ev.chk (e : Ev) : Int := E6.chk e.g e.k e.o e.a e.ls
open Classical in
/-- The first fault from the place i on. -/
noncomputable def bnd : List Ev → Nat → List ByteArray → List Nd → Int × Int
  | [], _, _, _ => (-1, 0)
  | e :: r, i, L, N => if e.chk = 0 then if Roomy L N.length (left L N e.ls).2.reverse then bnd r (i + 1) (after L N e.ls).L (after L N e.ls).N else ((i : Int), 3) else ((i : Int), e.chk)
noncomputable def bounds (es : List Ev) : Int × Int := if es.length ≤ 1048576 then bnd es 0 [] [] else (1048576, 3)
theorem chk_zero {g k o a : Int} {ls : List ByteArray} (h : chk g k o a ls = 0) : ls.length ≤ 16 := by
  unfold chk at h
  split at h
  · split at h
    · cases h
    · split at h
      · split at h
        · split at h
          · rename_i hst
            unfold stkB at hst
            simp at hst
            exact hst.1
          · cases h
        · cases h
      · cases h
  · cases h
/-- The program's forest in the midst of Bounds. -/
structure BSt (w0 wr : World) (tb fb : Nat) (L : List ByteArray) (N : List Nd) : Prop where
  st : ∃ T S, St wr T S tb fb L N ∧ ∀ k, T k ∨ S k → w0.heap.size ≤ k
  fit : ∃ P, Fit L N P
  bel : Below w0.heap.size w0 wr
theorem BSt.below {w0 wr w' : World} {tb fb : Nat} {L : List ByteArray} {N : List Nd} (h : BSt w0 wr tb fb L N) (hb : Below wr.heap.size wr w') : BSt w0 w' tb fb L N := by
  obtain ⟨T, S, h1, h2⟩ := h.st
  exact ⟨⟨T, S, h1.but (U := fun _ => False) (But.of_below hb) (fun _ _ e => e) (fun _ _ e => e), h2⟩, h.fit, h.bel.trans (hb.mono h.bel.size)⟩
theorem SRow.old {w : World} {a : Option Addr} {n : Nat} {L : List ByteArray} (h : SRow w a n L) {b off : Nat} (e : a = some ⟨b, off, none⟩) (hn : n ≠ 0) : b < w.heap.size := by
  obtain ⟨b', off', e', hc⟩ := h.at (i := 0) (by omega)
  rw [e] at e'
  cases e'
  exact World.block_lt_of_cell? w _ hc
/-- What Intern answers for one event of Bounds, and leaves. -/
theorem bst_intern {w0 wr : World} {tb fb : Nat} {L : List ByteArray} {N : List Nd} (h : BSt w0 wr tb fb L N) (e : Ev) (hok : e.ok) (hs0 : e.at w0) (h0 : e.chk = 0) :
    Calls Tryz.prog 26 #[.pointer (some ⟨fb, 0, none⟩), .slice e.sa e.ls.length e.sc] wr fun r w' => ∃ id : Nat,
      (Roomy L N.length (left L N e.ls).2.reverse → r = .returned (.tuple #[.int .i64 (id : Int), .int .i64 0]) ∧ BSt w0 w' tb fb (after L N e.ls).L (after L N e.ls).N) ∧
      (¬ Roomy L N.length (left L N e.ls).2.reverse → r = .returned (.tuple #[.int .i64 (id : Int), .int .i64 3]) ∧ Below w0.heap.size w0 w') := by
  obtain ⟨T, S, hst, hold⟩ := h.st
  obtain ⟨P, hfit⟩ := h.fit
  have hs : SRow wr e.sa e.ls.length e.ls := SRow.bel hs0 h.bel
  have h16 := chk_zero h0
  refine (intern_u P hst hfit.good e.sa e.ls.length e.sc e.ls hs (by omega) hok.cap hok.sz (fun b off ea hn => ?_)).mono ?_
  · have hb := SRow.old hs0 ea hn
    constructor
    · intro hT; have := hold b (.inl hT); omega
    · intro hS; have := hold b (.inr hS); omega
  · rintro r w' ⟨id, er, L', N', P', rfl, hres, ⟨T', S', hst', m1, m2⟩, hb⟩
    have hbel : Below w0.heap.size w0 w' := h.bel.trans (hb.below h.bel.size hold)
    refine ⟨id, fun hR => ?_, fun hR => ?_⟩
    · have hf := (hres.fit hfit).1
      cases hres with
      | deep hd => omega
      | full _ hn => exact absurd hR hn
      | ok _ _ =>
        refine ⟨rfl, ⟨T', S', hst', fun k hk => ?_⟩, ⟨_, hf⟩, hbel⟩
        have hsz := h.bel.size
        rcases hk with hk | hk
        · rcases m1 k hk with e1 | e1
          · exact hold k (.inl e1)
          · omega
        · rcases m2 k hk with e1 | e1
          · exact hold k (.inr e1)
          · omega
    · cases hres with
      | deep hd => omega
      | full _ _ => exact ⟨rfl, hbel⟩
      | ok _ hr => exact absurd hr hR
/-- What Bounds answers. -/
def bndV (p : Int × Int) : Value := .tuple #[.int .i64 p.1, .int .i64 p.2]
set_option maxRecDepth 4000 in
set_option maxHeartbeats 2000000 in
theorem bounds_any (a : Option Addr) (n c : Nat) (es : List Ev) (w : World) (h : Kr w) (hr : ERow w a n es) (hok : ∀ e ∈ es, e.ok) (hn : (n : Int) ≤ 9223372036854775806) :
    Calls Tryz.prog 11 #[.slice a n c] w fun r w' => r = .returned (.tuple #[.int .i64 (bounds es).1, .int .i64 (bounds es).2]) ∧ Below w.heap.size w w' := by
  obtain ⟨R, hR⟩ : ∃ R, R = bounds es := ⟨_, rfl⟩
  rw [← hR]
  unfold bounds at hR
  rw [hr.len] at hR
  by_cases hlarge : n ≤ 1048576
  · rw [if_pos hlarge] at hR
    have hl : (n : Int) ≤ 1048576 := by omega
    have HR : Hid _ := hide hR
    have HK : Hid _ := hide h
    have HE : Hid _ := hide hr
    have HO : Hid _ := hide hok
    have HN : Hid _ := hide (new_any w)
    clear hR hlarge h hr hok hn
    go_enter Tryz.func11, Tryz.ntmps11
    go_wp2_with fail
    refine HN.out.mono ?_
    rintro e w1 ⟨rfl, hw1⟩
    have HF : Hid _ := hide (new_f w.heap.size w1)
    have HW1 : Hid _ := hide hw1
    clear hw1
    go_wp2_with fail
    refine HF.out.mono ?_
    rintro e w2 ⟨rfl, ⟨v, mb, hF⟩, hb⟩
    have hst : St w2 (fun k => k = w.heap.size) (fun k => w.heap.size + 1 ≤ k ∧ k < w2.heap.size) w.heap.size (w1.heap.size + 1) [] [] ∧ Below w.heap.size w w2 := by
      rw [HW1.out] at hF hb ⊢; have := st_new hF hb; rw [World.size_alloc]; exact this
    have HB : Hid (BSt w w2 w.heap.size (w1.heap.size + 1) [] []) := hide ⟨⟨_, _, hst.1, by intro k hk; omega⟩, ⟨[], Fit.nil⟩, hst.2⟩
    generalize w1.heap.size + 1 = fb at HB ⊢
    clear hF hb hst HF HN HW1
    go_wp2
    go_loopw [17] (fun i wr => ∃ (j : Nat) (L : List ByteArray) (N : List Nd), j ≤ n ∧ i = .int .i64 j ∧ BSt w wr w.heap.size fb L N ∧ R = bnd (es.drop j) j L N) (fun i _ => n - (intOf i).toNat)
    case atStart => exact ⟨0, [], [], Nat.zero_le _, rfl, HB.out, HR.out⟩
    case round =>
      obtain ⟨j, L, N, hj, rfl, hbst, hRj⟩ := hrel
      have HB' : Hid _ := hide hbst
      clear hbst HB
      by_cases hlt : j < n
      · have hjI : (j : Int) < n := by omega
        have hrr := HE.out.bel HB'.out.bel
        obtain ⟨b, off, e, rfl, hej, c0, c1, c2, c3, c4, hs⟩ := hrr.at hlt
        obtain ⟨b', off', e', hba', hej', _, _, _, _, _, hs0⟩ := HE.out.at hlt
        rw [hej] at hej'
        cases hej'
        have hme := HO.out e (List.mem_of_getElem? hej)
        have hdrop : es.drop j = e :: es.drop (j + 1) := by
          obtain ⟨hl', he'⟩ := List.getElem?_eq_some_iff.1 hej
          rw [List.drop_eq_getElem_cons hl', he']
        rw [hdrop, bnd] at hRj
        have HRj : Hid _ := hide hRj
        have HM : Hid _ := hide hme
        have HS0 : Hid _ := hide hs0
        have hlen : (e.ls.length : Int) ≤ 9223372036854775806 := by have := hme.len; omega
        obtain ⟨W1, hW1⟩ : ∃ W1, W1 = wr.alloc (.cells #[.int .i64 e.g, .int .i64 e.k, .int .u64 e.o, .int .u64 e.a, .slice e.sa e.ls.length e.sc] 36) := ⟨_, rfl⟩
        have hb1 : Below wr.heap.size wr W1 := by rw [hW1]; exact below_new wr _
        have he1 : EvB W1 wr.heap.size e.g e.k e.o e.a e.sa e.ls.length e.sc := by rw [hW1]; exact EvB.new
        have hB1 := HB'.out.below hb1
        have HB1 : Hid _ := hide hB1
        have HE1 : Hid _ := hide he1
        have HC : Hid _ := hide (check_any e.g e.k e.o e.a e.sa e.ls.length e.sc e.ls W1 (HK.out.below hB1.bel (by have := HK.out.size; omega)) (SRow.bel (SRow.bel hs0 HB'.out.bel) hb1) hlen)
        rw [hW1] at HC
        have HW1 : Hid _ := hide hW1
        clear hrr hej hs hs0 hba' hme hdrop hRj hW1 hb1 he1 hB1 hlen
        go_wp2_with fail
        refine HC.out.mono ?_
        rw [← HW1.out]
        rintro r w3 ⟨rfl, hb3⟩
        have HB3 : Hid _ := hide (HB1.out.below hb3)
        have p4 := (HE1.out.below hb3).c4
        clear hb3 HC HW1 HB1 HE1 c0 c1 c2 c3 c4
        obtain ⟨ck, hck⟩ : ∃ ck, ck = chk e.g e.k e.o e.a e.ls := ⟨_, rfl⟩
        rw [← hck]
        by_cases h0 : ck = 0
        · have hne : (ck != 0) = false := by simp [h0]
          have HI : Hid _ := hide (bst_intern HB3.out e HM.out HS0.out (hck.symm.trans h0))
          have HC0 : Hid (e.chk = 0) := hide (hck.symm.trans h0)
          clear h0 hck
          go_wp2_with fail
          refine HI.out.mono ?_
          rintro r w4 ⟨id, hyes, hno⟩
          by_cases hR : Roomy L N.length (left L N e.ls).2.reverse
          · obtain ⟨rfl, hB4⟩ := hyes hR
            have HN : Hid (R = bnd (es.drop (j + 1)) (j + 1) (after L N e.ls).L (after L N e.ls).N) := hide (by rw [HRj.out, if_pos HC0.out, if_pos hR])
            have HB4 : Hid _ := hide hB4
            clear hyes hno hR hB4
            go_wp2
            exact ⟨⟨j + 1, _, _, by omega, by go_num, HB4.out, HN.out⟩, by simp [intOf]; omega⟩
          · obtain ⟨rfl, hb4⟩ := hno hR
            have HN : Hid (R = ((j : Int), 3)) := hide (by rw [HRj.out, if_pos HC0.out, if_neg hR])
            have HB4 : Hid _ := hide hb4
            clear hyes hno hR hb4
            go_wp2
            go_ret2
            exact ⟨by rw [HN.out]; rfl, HB4.out⟩
        · have hne : (ck != 0) = true := by simp [h0]
          have HN : Hid (R = ((j : Int), ck)) := hide (by rw [HRj.out, if_neg (by show ¬ chk e.g e.k e.o e.a e.ls = 0; rw [← hck]; exact h0)]; show ((j : Int), chk e.g e.k e.o e.a e.ls) = _; rw [← hck])
          clear h0 hck
          go_wp2
          go_ret2
          exact ⟨by rw [HN.out]; rfl, HB3.out.bel⟩
      · have HN : Hid (R = (-1, 0)) := hide (by rw [hRj, List.drop_eq_nil_of_le (by rw [HE.out.len]; omega)]; rfl)
        clear hRj
        go_wp2
        go_ret2
        exact ⟨by rw [HN.out]; rfl, HB'.out.bel⟩
  · rw [if_neg hlarge] at hR
    have hl : (1048576 : Int) < n := by omega
    have HN : Hid _ := hide hR
    clear hR hlarge h hr hok
    go_enter Tryz.func11, Tryz.ntmps11
    go_wp2
    go_ret2
    exact ⟨by rw [HN.out]; rfl, Below.refl _ _⟩
end Go.Proofs.YtafkammiehcdjaaGreatDoor.E6
