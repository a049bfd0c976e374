/-
  The walk of StacksTwoWay.
-/
import Derived.Test.YtjpccaeojimlfaaLawC
namespace Go.Proofs.Ytjpccaeojimlfaa
open Go.RowKit Go.Maps Go.Shelf
theorem FN.st {w0 w : World} {T S : Nat → Prop} {tb fb : Nat} {L : List ByteArray} {N : List Nd} (h : FN w0 w T S tb fb L N) (hT : ∀ k, T k → k < w0.heap.size) : St w T S tb fb L N := by
  obtain ⟨tv, tm, ht⟩ := h.tab
  obtain ⟨v, mb, hF⟩ := h.frs
  have hs := h.bel.size
  exact ⟨⟨tv, tm, v, mb, ht.kept (T := fun _ => False) (But.of_below h.bel) (fun _ _ e => e), hF⟩, fun k hk e => by have := hT k hk; have := (h.news k e).1; omega, fun k hk => by have := hT k hk; omega, fun k hk => (h.news k hk).2⟩
/-- Intern of a stack that is there, in a row that is new. -/
theorem intern_there {w : World} {T S : Nat → Prop} {tb fb : Nat} {L : List ByteArray} {N : List Nd} {P : List Stk} (h : St w T S tb fb L N) (hf : Fit L N P) (a : Option Addr) (c : Nat) (p : Stk) (hp : Has P p) (hr : SRow w a p.length p) (hc : p.length ≤ c) (hz : ∀ s ∈ p, s.size ≤ maxLen)
    (hrT : ∀ b off, a = some ⟨b, off, none⟩ → p.length ≠ 0 → ¬ T b ∧ ¬ S b) :
    Calls Try.prog 14 #[.pointer (some ⟨fb, 0, none⟩), .slice a p.length c] w fun e w' => e = .returned (.tuple #[.int .i64 (num P p : Int), .int .i64 0]) ∧ (∃ T' S', St w' T' S' tb fb L N ∧ More w T T' ∧ More w S S') ∧ But (fun k => T k ∨ S k) w w' := by
  have hl : p.length ≤ 16 := by
    rcases hp with rfl | hp
    · simp
    · exact hf.rep.deep p hp
  refine (intern_u P h hf.good a p.length c p hr (by omega) hc hz hrT).mono ?_
  rintro e w' ⟨id, er, L', N', P', rfl, hres, hst, hb⟩
  obtain ⟨rfl, rfl, rfl, rfl⟩ := res_old hf hp hres h.bounds.1 h.bounds.2.1 h.bounds.2.2
  exact ⟨rfl, hst, hb⟩
theorem stk_small {w : World} {T S : Nat → Prop} {tb fb : Nat} {L : List ByteArray} {N : List Nd} {P : List Stk} (h : St w T S tb fb L N) (hf : Fit L N P) {p : Stk} (hp : Has P p) : ∀ s ∈ p, s.size ≤ maxLen := by
  obtain ⟨tv, tm, v, mb, hT, _⟩ := h.both
  rcases hp with rfl | hp
  · simp
  · induction p with
    | nil => simp
    | cons x p ih =>
      intro s hs
      have ht := hf.rep.tail hp
      rcases List.mem_cons.1 hs with rfl | hs
      · have := hT.small s ht.2; unfold maxLen; omega
      · rcases ht.1 with e | e
        · rw [e] at hs; cases hs
        · exact ih e s hs
/-- What loops over a forest and a table carry. -/
structure Fx (w0 w : World) (T S : Nat → Prop) (tb fb : Nat) (L : List ByteArray) (N : List Nd) : Prop where
  st : St w T S tb fb L N
  bel : Below w0.heap.size w0 w
  new : ∀ k, T k ∨ S k → w0.heap.size ≤ k
theorem Fx.below {w0 w w' : World} {T S : Nat → Prop} {tb fb : Nat} {L : List ByteArray} {N : List Nd} (h : Fx w0 w T S tb fb L N) (hb : Below w.heap.size w w') : Fx w0 w' T S tb fb L N :=
  ⟨h.st.but (U := fun _ => False) (But.of_below hb) (fun _ _ e => e) (fun _ _ e => e), h.bel.trans (hb.mono h.bel.size), h.new⟩
theorem Fx.put {w0 w w' : World} {T S T' S' : Nat → Prop} {tb fb : Nat} {L L' : List ByteArray} {N N' : List Nd} (h : Fx w0 w T S tb fb L N) (hst : St w' T' S' tb fb L' N') (h1 : More w T T') (h2 : More w S S') (hb : But (fun k => T k ∨ S k) w w') : Fx w0 w' T' S' tb fb L' N' := by
  refine ⟨hst, hb.beyond h.bel h.new, ?_⟩
  have := h.bel.size
  rintro k (hk | hk)
  · rcases h1 k hk with e | e
    · exact h.new k (.inl e)
    · omega
  · rcases h2 k hk with e | e
    · exact h.new k (.inr e)
    · omega
set_option maxHeartbeats 4000000 in
set_option maxRecDepth 8000 in
theorem two_any (a : Option Addr) (n c : Nat) (l : List ByteArray) (a2 : Option Addr) (m c2 : Nat) (bs : List (List Int)) (lim : Int) (w : World) (hr : SRow w a n l) (hn : (n : Int) ≤ 9223372036854775806) (hz : ∀ s ∈ l, s.size ≤ maxLen) (hr2 : LRow w a2 m bs) (hm : (m : Int) ≤ 9223372036854775806)
    (hlm : -9223372036854775808 ≤ lim ∧ lim ≤ 9223372036854775807) :
    Calls Try.prog 5 #[.slice a n c, .slice a2 m c2, .int .i64 lim] w fun e w' => e = .returned (.bool true) ∧ Below w.heap.size w w' := by
  have HR : Hid (SRow w a n l) := hr
  have HZ : Hid (∀ s ∈ l, s.size ≤ maxLen) := hz
  have HLl : Hid (l.length = n) := hr.len
  have HR2 : Hid (LRow w a2 m bs) := hr2
  have HA : Hid _ := hide (awake_any w)
  have HNn : Hid (∀ (e : Int) (w : World), Calls Try.prog 15 #[.int .i64 e] w fun x w' => x = .returned (.int .i64 e) ∧ w' = w) := hide (fun e w => num_any e w)
  obtain ⟨hlm1, hlm2⟩ := hlm
  clear hr hz hr2
  go_enter Try.func5, Try.ntmps5
  go_wp2_with fail
  refine HA.out.mono ?_
  rintro e w1 ⟨rfl, hb1⟩
  have B1 : Hid (Below w.heap.size w w1) := hb1
  have HN : Hid _ := hide (new_any w1)
  clear hb1 HA
  go_wp2_with fail
  refine HN.out.mono ?_
  rintro e w2 ⟨rfl, hw2⟩
  have HT0 : Hid (Tab w2 w1.heap.size (fun k => k = w1.heap.size) [] (.slice none 0 0) (.map none) ∧ Below w.heap.size w w2 ∧ w1.heap.size < w2.heap.size ∧ w.heap.size ≤ w1.heap.size) := hide (by
    rw [hw2]; exact ⟨tab_new w1, B1.out.alloc B1.out.size _, by simp, B1.out.size⟩)
  generalize w1.heap.size = tb at HT0 ⊢
  clear hw2 HN
  go_wp2
  go_loopw [9] (fun i wr => ∃ (k : Nat) (T : Nat → Prop) (L : List ByteArray) (tv tm : Value), k ≤ n ∧ i = .int .i64 (k : Int) ∧ Tab wr tb T L tv tm ∧ (∀ k, T k → w.heap.size ≤ k ∧ k < wr.heap.size) ∧ Below w.heap.size w wr) (fun i _ => n - (intOf i).toNat)
  case atStart => exact ⟨0, _, _, _, _, Nat.zero_le _, rfl, HT0.out.1, (by have := HT0.out.2.2; rintro k rfl; exact ⟨this.2, this.1⟩), HT0.out.2.1⟩
  case round =>
    obtain ⟨k, T, L, tv, tm, hk, rfl, hT, hTn, hB⟩ := hrel
    have HT : Hid _ := hide hT
    have HTn : Hid _ := hide hTn
    have HB : Hid _ := hide hB
    clear hT hTn hB HT0
    by_cases hlt : k < n
    · obtain ⟨bo, oo, ha, hco⟩ := (HR.out.below HB.out).at hlt
      subst ha
      have HI : Hid _ := hide (intern_any HT.out (l.getD k ByteArray.empty) (HZ.out _ (List.mem_of_getElem? (getD_get (by have := HLl.out; omega)))))
      generalize l.getD k ByteArray.empty = s at hco HI
      have hiv : ∃ x y : Int, internV L s = .tuple #[.int .i64 x, .int .i64 y] := by
        unfold internV; split
        · exact ⟨_, _, rfl⟩
        · split <;> exact ⟨_, _, rfl⟩
      obtain ⟨x, y, hxy⟩ := hiv
      rw [hxy] at HI
      clear hxy
      go_wp2_with fail
      refine HI.out.mono ?_
      rintro e w3 ⟨rfl, ⟨tv', tm', hT3⟩, hb3⟩
      have HT3 : Hid _ := hide hT3
      have HB3 : Hid _ := hide hb3
      clear hT3 hb3 hco
      go_wp2
      refine ⟨⟨k + 1, _, _, tv', tm', by omega, by go_num, HT3.out, ?_, HB3.out.beyond HB.out (fun k hk => (HTn.out k hk).1)⟩, by simp [intOf]; omega⟩
      have := HB3.out.size
      have := HB.out.size
      rintro k (hk | hk)
      · have := HTn.out k hk; omega
      · omega
    · have t0 := HT.out.cell0
      have hLl : (L.length : Int) ≤ 65536 := by have := HT.out.len; omega
      obtain ⟨ta, tc, htv⟩ := own_form HT.out.own
      subst htv
      have HTl : Hid (∀ W, Below wr.heap.size wr W → Calls Try.prog 12 #[.pointer (some ⟨tb, 0, none⟩)] W fun e w' => e = .returned (.int .i64 L.length) ∧ w' = W) := hide (fun W hb => len_any tb _ tc ta W (HT.out.kept (T := fun _ => False) (But.of_below hb) (fun _ _ e => e)).cell0)
      have HT0l : Hid _ := hide (HTl.out wr (Below.refl _ _))
      have HD : Hid _ := hide (decode_any HT.out a2 m c2 bs lim (HR2.out.below HB.out) hm)
      clear t0
      go_wp2_with fail
      refine HT0l.out.mono ?_
      rintro e w3 ⟨rfl, hh⟩; rw [hh]; clear hh
      go_wp2_with fail
      refine HD.out.mono ?_
      rintro e w4 ⟨hb4, hdec⟩
      have HB4 : Hid _ := hide hb4
      have HTl4 : Hid _ := hide (HTl.out w4 hb4)
      have HBw : Hid (Below w.heap.size w w4) := hide (HB.out.trans (hb4.mono HB.out.size))
      clear hb4 HD HT0l
      rcases hdec with ⟨_, rfl⟩ | ⟨_, hne, rfl⟩ | ⟨_, _, _, rfl⟩ | ⟨hlim, h0, heq, fb, S, rfl, hFN⟩
      · go_wp2_with (first
          | (go_at_call 15; refine (HNn.out _ _).mono ?_; rintro _ _ ⟨rfl, hh⟩; rw [hh]; clear hh)
          | (go_at_call 12; refine HTl4.out.mono ?_; rintro _ _ ⟨rfl, hh⟩; rw [hh]; clear hh)
          | fail)
        go_ret
        exact ⟨rfl, HBw.out⟩
      · have hnb : ((rdAllN L.length bs []).1 != 0) = true := by rw [bne_iff_ne]; exact hne
        generalize (rdAllN L.length bs []).1 = er at hnb hne ⊢
        go_wp2_with (first
          | (go_at_call 15; refine (HNn.out _ _).mono ?_; rintro _ _ ⟨rfl, hh⟩; rw [hh]; clear hh)
          | (go_at_call 12; refine HTl4.out.mono ?_; rintro _ _ ⟨rfl, hh⟩; rw [hh]; clear hh)
          | fail)
        go_ret
        exact ⟨rfl, HBw.out⟩
      · go_wp2_with (first
          | (go_at_call 15; refine (HNn.out _ _).mono ?_; rintro _ _ ⟨rfl, hh⟩; rw [hh]; clear hh)
          | (go_at_call 12; refine HTl4.out.mono ?_; rintro _ _ ⟨rfl, hh⟩; rw [hh]; clear hh)
          | fail)
        go_ret
        exact ⟨rfl, HBw.out⟩
      · generalize (rdAllN L.length bs []).2 = N at heq hFN
        obtain ⟨lm, rfl⟩ := Int.eq_ofNat_of_zero_le (show 0 ≤ lim by omega)
        rw [Int.toNat_natCast] at heq
        obtain ⟨P, hfit⟩ := hFN.fit
        obtain ⟨v, mb, hFr⟩ := hFN.frs
        have hst := hFN.st (fun k hk => (HTn.out k hk).2)
        have HFx : Hid (Fx w w4 T S tb fb L N) := ⟨hst, HBw.out, by
          have := HB.out.size
          rintro k (hk | hk)
          · exact (HTn.out k hk).1
          · have := (hFN.news k hk).1; omega⟩
        have HFit : Hid (Fit L N P) := hfit
        have HE : Hid _ := hide (encode_ok hFr hfit.rep.anc lm hlim.1 hlim.2)
        have HW : Hid _ := hide (bodiesN_ok hFr lm)
        have hNl : (N.length : Int) ≤ 262144 := by have := hFr.len; omega
        rw [heq] at HE HW
        have hl3 : (lm : Int) ≤ 1048576 := hlim.2
        clear hFN hFr hfit hst h0 hlim heq
        go_wp2_with (first
          | (go_at_call 15; refine (HNn.out _ _).mono ?_; rintro _ _ ⟨rfl, hh⟩; rw [hh]; clear hh)
          | fail)
        refine HE.out.mono ?_
        rintro e w5 ⟨a5, c5, vals5, rfl, hl5, hb5⟩
        have HB5 : Hid _ := hide hb5
        have HF5 : Hid _ := hide (HFx.out.below hb5)
        have HSa : Hid _ := hide (sl_any a5 a2 bs.length c5 m c2 bs bs w5 (hl5.lrow (fun z hz => by have := HW.out.each z hz; omega)) (HR2.out.below HF5.out.bel) (by have := HW.out.len; omega))
        rw [decide_eq_true rfl] at HSa
        have HTl5 : Hid (∀ j, Calls Try.prog 12 #[.pointer (some ⟨tb, 0, none⟩)] (w5.drewN j) fun e w' => e = .returned (.int .i64 L.length) ∧ w' = w5.drewN j) := hide (fun j => HTl.out _ (HB4.out.trans ((hb5.mono HB4.out.size).trans ((below_drewN (Below.refl _ w5) j).mono (Nat.le_trans HB4.out.size hb5.size)))))
        clear hl5 hb5
        go_wp2_with (first
          | (go_at_call 15; refine (HNn.out _ _).mono ?_; rintro _ _ ⟨rfl, hh⟩; rw [hh]; clear hh)
          | fail)
        refine HSa.out.mono ?_
        rintro e w6 ⟨rfl, j6, hj6⟩
        have HT6 : Hid _ := hide (HTl5.out j6)
        have HF6 : Hid _ := hide (HF5.out.below (below_drewN (Below.refl _ w5) j6))
        rw [← hj6] at HT6 HF6
        clear hj6
        go_wp2_with (first
          | (go_at_call 12; refine HT6.out.mono ?_; rintro _ _ ⟨rfl, hh⟩; rw [hh]; clear hh)
          | fail)
        clear HT6 HTl5 HTl4 HTl HSa HE HB5 HF5
        go_loopw [15] (fun i wr => ∃ (k : Nat) (T S : Nat → Prop), 1 ≤ k ∧ k ≤ N.length + 1 ∧ i = .int .i64 (k : Int) ∧ Fx w wr T S tb fb L N) (fun i _ => N.length + 1 - (intOf i).toNat)
        case atStart => exact ⟨1, T, S, Nat.le_refl _, by omega, rfl, HF6.out⟩
        case round =>
          obtain ⟨i, T7, S7, hi1, hi2, rfl, hf7⟩ := hrel
          have HF7 : Hid _ := hide hf7
          have HC7 : Hid _ := hide hf7.st.count
          have HL7 : Hid _ := hide hf7.st.len
          clear hf7
          by_cases hlt2 : i ≤ N.length
          · have hiI : (i : Int) ≤ N.length := by omega
            have hsl := stkP_len HFit.out.rep i
            have hPl := HFit.out.rep.len
            have hnum := num_stkP HFit.out.rep (id := i) (by omega)
            have hhas := stkP_has (P := P) (id := i) (by omega)
            have hne : stkP P i ≠ [] := by
              intro e
              rw [e, num_nil] at hnum
              omega
            have HS7 : Hid _ := hide (stack_in HF7.out.st HFit.out.rep i hlt2)
            have HSm : Hid _ := hide (stk_small HF7.out.st HFit.out hhas)
            generalize hp : stkP P i = p at HS7 hsl hnum hhas hne HSm
            have HNu : Hid _ := hide hnum
            have HHa : Hid _ := hide hhas
            have hpI : (p.length : Int) ≤ 16 := by omega
            have hp1 : (1 : Int) ≤ p.length := by
              have := List.length_pos_iff.2 hne
              omega
            have HI1 : Hid (1 ≤ i) := hi1
            clear hp hnum hhas hsl hPl hne hi1
            go_wp2_with (first
              | (go_at_call 16; refine HC7.out.mono ?_; rintro _ _ ⟨rfl, hh⟩; rw [hh]; clear hh)
              | fail)
            refine HS7.out.mono ?_
            rintro e w8 ⟨v8, rfl, ho8, hb8⟩
            obtain ⟨a8, c8, rfl, hr8, hc8⟩ := row_own ho8
            have HF8 : Hid _ := hide (HF7.out.below hb8)
            have HI : Hid _ := hide (intern_there HF8.out.st HFit.out a8 c8 p HHa.out hr8 hc8 HSm.out (by
              intro b off e h0
              rcases ho8.2 with ⟨hv0, h00⟩ | ⟨g, cap, cur, hv0, hg, _⟩
              · exact absurd h00 h0
              · cases hv0; cases e
                exact ⟨fun e => by have := HF7.out.st.tlt _ e; omega, fun e => by have := HF7.out.st.slt _ e; omega⟩))
            rw [HNu.out] at HI
            clear ho8 hb8 hr8 hc8
            go_wp2_with fail
            refine HI.out.mono ?_
            rintro e w9 ⟨rfl, ⟨T9, S9, hst9, h91, h92⟩, hb9⟩
            have HF9 : Hid _ := hide (HF8.out.put hst9 h91 h92 hb9)
            clear hst9 h91 h92 hb9
            go_wp2_with (first
              | (go_at_call 15; refine (HNn.out _ _).mono ?_; rintro _ _ ⟨rfl, hh⟩; rw [hh]; clear hh)
              | fail)
            exact ⟨⟨i + 1, T9, S9, by omega, by omega, by go_num, HF9.out⟩, by simp [intOf]; omega⟩
          · have hiN : (N.length : Int) < i := by omega
            go_wp2_with (first
              | (go_at_call 16; refine HC7.out.mono ?_; rintro _ _ ⟨rfl, hh⟩; rw [hh]; clear hh)
              | (go_at_call 12; refine HL7.out.mono ?_; rintro _ _ ⟨rfl, hh⟩; rw [hh]; clear hh)
              | fail)
            go_ret
            exact ⟨rfl, HF7.out.bel⟩
end Go.Proofs.Ytjpccaeojimlfaa
