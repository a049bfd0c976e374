import Derived.Test.YtafkammiehcdjaaGreatDoorZr13
import Derived.Test.YtafkammiehcdjaaGreatDoorZr49
import Derived.Test.YtafkammiehcdjaaGreatDoorZr51
/-
  Bounds, the document's.
-/
namespace Go.Proofs.YtafkammiehcdjaaGreatDoor.E6
open Go.RowKit Go.Maps Go.Shelf
/-- The document's forest in the midst of Bounds. -/
structure BRt (w0 wr : World) (tb fb : Nat) (L : List ByteArray) (N : List Nd) : Prop where
  st : ∃ T S, RSt wr T S tb fb L N ∧ ∀ k, T k ∨ S k → w0.heap.size ≤ k
  fit : ∃ P, Fit L N P
  bel : Below w0.heap.size w0 wr
theorem BRt.below {w0 wr w' : World} {tb fb : Nat} {L : List ByteArray} {N : List Nd} (h : BRt w0 wr tb fb L N) (hb : Below wr.heap.size wr w') : BRt w0 w' tb fb L N := by
  obtain ⟨T, S, h1, h2⟩ := h.st
  exact ⟨⟨T, S, h1.below hb, h2⟩, h.fit, h.bel.trans (hb.mono h.bel.size)⟩
/-- What Intern answers for one event of Bounds, and leaves. -/
theorem brt_intern {w0 wr : World} {tb fb : Nat} {L : List ByteArray} {N : List Nd} (h : BRt w0 wr tb fb L N) (e : Ev) (hok : e.ok) (hs0 : e.at w0) (h0 : e.chk = 0) :
    Calls Tryz.prog 99 #[.pointer (some ⟨fb, 0, none⟩), .slice e.sa e.ls.length e.sc] wr fun r w' => ∃ id : Nat,
      (Roomy L N.length (left L N e.ls).2.reverse → r = .returned (.tuple #[.int .i64 (id : Int), .int .i64 0]) ∧ BRt w0 w' tb fb (after L N e.ls).L (after L N e.ls).N) ∧
      (¬ Roomy L N.length (left L N e.ls).2.reverse → r = .returned (.tuple #[.int .i64 (id : Int), .int .i64 3]) ∧ Below w0.heap.size w0 w') := by
  obtain ⟨T, S, hst, hold⟩ := h.st
  obtain ⟨P, hfit⟩ := h.fit
  have hs : SRow wr e.sa e.ls.length e.ls := SRow.bel hs0 h.bel
  have h16 := chk_zero h0
  refine (rintern_u P hst hfit.good hfit.nodup e.sa e.ls.length e.sc e.ls hs (by omega) hok.sz (fun b off ea hn => ?_)).mono ?_
  · have hb := SRow.old hs0 ea hn
    constructor
    · intro hT; have := hold b (.inl hT); omega
    · intro hS; have := hold b (.inr hS); omega
  · rintro r w' ⟨id, er, L', N', P', rfl, hres, ⟨T', S', hst', m1, m2⟩, hb⟩
    have hbel : Below w0.heap.size w0 w' := h.bel.trans (hb.below h.bel.size hold)
    refine ⟨id, fun hR => ?_, fun hR => ?_⟩
    · have hf := (hres.fit hfit).1
      cases hres with
      | deep hd => omega
      | full _ hn => exact absurd hR hn
      | ok _ _ =>
        refine ⟨rfl, ⟨T', S', hst', fun k hk => ?_⟩, ⟨_, hf⟩, hbel⟩
        have hsz := h.bel.size
        rcases hk with hk | hk
        · rcases m1 k hk with e1 | e1
          · exact hold k (.inl e1)
          · omega
        · rcases m2 k hk with e1 | e1
          · exact hold k (.inr e1)
          · omega
    · cases hres with
      | deep hd => omega
      | full _ _ => exact ⟨rfl, hbel⟩
      | ok _ hr => exact absurd hr hR
theorem rtab_new (w : World) : RTab (w.alloc (.cells #[.slice none 0 0, .int .i64 0] 167)) w.heap.size (fun k => k = w.heap.size) [] (.slice none 0 0) :=
  ⟨heap_alloc_new w _, World.ownsRow_nil _ _ _ _, rfl, by simp [Value.ownBlock], by simp, by simp, by simp, by simp [total]⟩
theorem brt_new {w w1 w2 : World} (hw1 : w1 = w.alloc (.cells #[.slice none 0 0, .int .i64 0] 167)) (hF : RFr w2 w1.heap.size w.heap.size (fun k => k = w1.heap.size) [] (.slice none 0 0)) (hw2 : w2 = w1.alloc (.cells #[.pointer (some ⟨w.heap.size, 0, none⟩), .slice none 0 0] 165)) : BRt w w2 w.heap.size w1.heap.size [] [] := by
  have hb1 : Below w.heap.size w w1 := by rw [hw1]; exact below_new w _
  have hb2 : Below w1.heap.size w1 w2 := by rw [hw2]; exact below_new w1 _
  have hz1 : w1.heap.size = w.heap.size + 1 := by rw [hw1]; simp
  have hz2 : w2.heap.size = w1.heap.size + 1 := by rw [hw2]; simp
  have ht : RTab w2 w.heap.size (fun k => k = w.heap.size) [] (.slice none 0 0) := by
    have h0 := rtab_new w
    rw [← hw1] at h0
    exact h0.kept (T := fun _ => False) (But.of_below hb2) (fun _ _ e => e)
  exact ⟨⟨_, _, ⟨⟨_, _, ht, hF⟩, fun k h1 h2 => by omega, fun k h1 => by omega, fun k h1 => by omega⟩, fun k hk => by rcases hk with e | e <;> omega⟩, ⟨[], Fit.nil⟩, hb1.trans (hb2.mono hb1.size)⟩
set_option maxRecDepth 4000 in
set_option maxHeartbeats 2000000 in
theorem rbounds_any (a : Option Addr) (n c : Nat) (es : List Ev) (w : World) (hr : ERow w a n es) (hok : ∀ e ∈ es, e.ok) (hn : (n : Int) ≤ 9223372036854775806) :
    Calls Tryz.prog 41 #[.slice a n c] w fun r w' => r = .returned (.tuple #[.int .i64 (bounds es).1, .int .i64 (bounds es).2]) ∧ Below w.heap.size w w' := by
  obtain ⟨R, hR⟩ : ∃ R, R = bounds es := ⟨_, rfl⟩
  rw [← hR]
  unfold bounds at hR
  rw [hr.len] at hR
  by_cases hlarge : n ≤ 1048576
  · rw [if_pos hlarge] at hR
    have hl : (n : Int) ≤ 1048576 := by omega
    have HR : Hid _ := hide hR
    have HE : Hid _ := hide hr
    have HO : Hid _ := hide hok
    have HN : Hid _ := hide (rnew_any w)
    clear hR hlarge hr hok hn
    go_enter Tryz.func41, Tryz.ntmps41
    go_wp2_with fail
    refine HN.out.mono ?_
    rintro e w1 ⟨rfl, hw1⟩
    have HF : Hid _ := hide (rnew_f w.heap.size w1)
    have HW1 : Hid _ := hide hw1
    clear hw1
    go_wp2_with fail
    refine HF.out.mono ?_
    rintro e w2 ⟨rfl, hF, hw2⟩
    have HB : Hid (BRt w w2 w.heap.size w1.heap.size [] []) := hide (brt_new HW1.out hF hw2)
    generalize w1.heap.size = fb at HB ⊢
    clear hF hw2 HF HN HW1
    go_wp2
    go_loopw [5] (fun i wr => ∃ (j : Nat) (L : List ByteArray) (N : List Nd), j ≤ n ∧ i = .int .i64 j ∧ BRt w wr w.heap.size fb L N ∧ R = bnd (es.drop j) j L N) (fun i _ => n - (intOf i).toNat)
    case atStart => exact ⟨0, [], [], Nat.zero_le _, rfl, HB.out, HR.out⟩
    case round =>
      obtain ⟨j, L, N, hj, rfl, hbst, hRj⟩ := hrel
      have HB' : Hid _ := hide hbst
      clear hbst HB
      by_cases hlt : j < n
      · have hjI : (j : Int) < n := by omega
        have hrr := HE.out.bel HB'.out.bel
        obtain ⟨b, off, e, rfl, hej, c0, c1, c2, c3, c4, hs⟩ := hrr.at hlt
        obtain ⟨b', off', e', hba', hej', q0, q1, q2, q3, q4, hs0⟩ := HE.out.at hlt
        rw [hej] at hej'
        cases hej'
        cases hba'
        have hme := HO.out e (List.mem_of_getElem? hej)
        have hdrop : es.drop j = e :: es.drop (j + 1) := by
          obtain ⟨hl', he'⟩ := List.getElem?_eq_some_iff.1 hej
          rw [List.drop_eq_getElem_cons hl', he']
        rw [hdrop, bnd] at hRj
        have HRj : Hid _ := hide hRj
        have HM : Hid _ := hide hme
        have HS0 : Hid _ := hide hs0
        have HQ4 : Hid _ := hide q4
        have hlen : (e.ls.length : Int) ≤ 9223372036854775806 := by have := hme.len; omega
        have HC : Hid _ := hide (rcheck_any e.g e.k e.o e.a e.sa e.ls.length e.sc e.ls wr (SRow.bel hs0 HB'.out.bel) hlen hme.ho hme.ha)
        clear hrr hej hs hs0 hme hdrop hRj hlen q0 q1 q2 q3 q4
        go_wp2_with fail
        refine HC.out.mono ?_
        rintro r w3 ⟨rfl, hb3⟩
        have HB3 : Hid _ := hide (HB'.out.below hb3)
        have p4 := cell_bel HQ4.out HB3.out.bel
        clear hb3 HC c0 c1 c2 c3 c4
        obtain ⟨ck, hck⟩ : ∃ ck, ck = chk e.g e.k e.o e.a e.ls := ⟨_, rfl⟩
        rw [← hck]
        by_cases h0 : ck = 0
        · have hne : (ck != 0) = false := by simp [h0]
          have HI : Hid _ := hide (brt_intern HB3.out e HM.out HS0.out (hck.symm.trans h0))
          have HC0 : Hid (e.chk = 0) := hide (hck.symm.trans h0)
          clear h0 hck
          go_wp2_with fail
          refine HI.out.mono ?_
          rintro r w4 ⟨id, hyes, hno⟩
          by_cases hR : Roomy L N.length (left L N e.ls).2.reverse
          · obtain ⟨rfl, hB4⟩ := hyes hR
            have HN : Hid (R = bnd (es.drop (j + 1)) (j + 1) (after L N e.ls).L (after L N e.ls).N) := hide (by rw [HRj.out, if_pos HC0.out, if_pos hR])
            have HB4 : Hid _ := hide hB4
            clear hyes hno hR hB4
            go_wp2
            exact ⟨⟨j + 1, _, _, by omega, by go_num, HB4.out, HN.out⟩, by simp [intOf]; omega⟩
          · obtain ⟨rfl, hb4⟩ := hno hR
            have HN : Hid (R = ((j : Int), 3)) := hide (by rw [HRj.out, if_pos HC0.out, if_neg hR])
            have HB4 : Hid _ := hide hb4
            clear hyes hno hR hb4
            go_wp2
            go_ret2
            exact ⟨by rw [HN.out]; rfl, HB4.out⟩
        · have hne : (ck != 0) = true := by simp [h0]
          have HN : Hid (R = ((j : Int), ck)) := hide (by rw [HRj.out, if_neg (by show ¬ chk e.g e.k e.o e.a e.ls = 0; rw [← hck]; exact h0)]; show ((j : Int), chk e.g e.k e.o e.a e.ls) = _; rw [← hck])
          clear h0 hck
          go_wp2
          go_ret2
          exact ⟨by rw [HN.out]; rfl, HB3.out.bel⟩
      · have HN : Hid (R = (-1, 0)) := hide (by rw [hRj, List.drop_eq_nil_of_le (by rw [HE.out.len]; omega)]; rfl)
        clear hRj
        go_wp2
        go_ret2
        exact ⟨by rw [HN.out]; rfl, HB'.out.bel⟩
  · rw [if_neg hlarge] at hR
    have hl : (1048576 : Int) < n := by omega
    have HN : Hid _ := hide hR
    clear hR hlarge hr hok
    go_enter Tryz.func41, Tryz.ntmps41
    go_wp2
    go_ret2
    exact ⟨by rw [HN.out]; rfl, Below.refl _ _⟩
end Go.Proofs.YtafkammiehcdjaaGreatDoor.E6
