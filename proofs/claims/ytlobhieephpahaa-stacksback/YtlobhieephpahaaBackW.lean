/-
  The walk of StacksBack.
-/
import Derived.Test.YtlobhieephpahaaLawD
namespace Go.Proofs.Ytlobhieephpahaa
open Go.RowKit Go.Maps Go.Shelf
/-- Encode, whatever the limit. -/
def encR (N : List Nd) (lim : Int) : List (List Int) × Int := if 64 ≤ lim ∧ lim ≤ 1048576 then (bodiesN N lim.toNat, 0) else ([], 2)
theorem encode_u {w : World} {T S : Nat → Prop} {tb fb : Nat} {L : List ByteArray} {N : List Nd} {P : List Stk} (h : St w T S tb fb L N) (hf : Fit L N P) (lim : Int) :
    Calls Try.prog 22 #[.pointer (some ⟨fb, 0, none⟩), .int .i64 lim] w fun e w' => ∃ a c vals, e = .returned (.tuple #[.slice a (encR N lim).1.length c, .int .i64 (encR N lim).2]) ∧ Lists w' w.heap.size (.slice a (encR N lim).1.length c) (encR N lim).1 vals ∧ Below w.heap.size w w' ∧ ∀ z ∈ (encR N lim).1, (z.length : Int) ≤ 140737488355328 := by
  obtain ⟨tv, tm, v, mb, hT, hF⟩ := h.both
  by_cases hl : 64 ≤ lim ∧ lim ≤ 1048576
  · obtain ⟨l, rfl⟩ := Int.eq_ofNat_of_zero_le (show 0 ≤ lim by omega)
    have e : encR N l = (bodiesN N l, 0) := by unfold encR; rw [if_pos hl, Int.toNat_natCast]
    rw [e]
    refine (encode_ok hF hf.rep.anc l hl.1 hl.2).mono ?_
    rintro e w' ⟨a, c, vals, rfl, h1, h2⟩
    exact ⟨a, c, vals, rfl, h1, h2, fun z hz => by have := (bodiesN_ok hF l).each z hz; omega⟩
  · have e : encR N lim = ([], 2) := by unfold encR; rw [if_neg hl]
    rw [e]
    refine (encode_bad hF lim hl).mono ?_
    rintro e w' ⟨rfl, rfl⟩
    exact ⟨none, 0, [], rfl, Lists.nil _ _, Below.refl _ _, by simp⟩
theorem encR_len {w : World} {T S : Nat → Prop} {tb fb : Nat} {L : List ByteArray} {N : List Nd} (h : St w T S tb fb L N) (lim : Int) : (encR N lim).1.length ≤ 262144 := by
  obtain ⟨tv, tm, v, mb, hT, hF⟩ := h.both
  unfold encR
  split
  · have := (bodiesN_ok hF lim.toNat).len
    have := hF.len
    dsimp only
    omega
  · simp
set_option maxHeartbeats 4000000 in
set_option maxRecDepth 8000 in
theorem back_any (a : Option Addr) (n c : Nat) (LS : List Stk) (lim other : Int) (w : World) (hLS : PRow w a n LS) (hn : (n : Int) ≤ 9223372036854775806) (hz : ∀ q ∈ LS, (q.length : Int) ≤ 9223372036854775806 ∧ ∀ s ∈ q, s.size ≤ maxLen)
    (hlm : -9223372036854775808 ≤ lim ∧ lim ≤ 9223372036854775807) :
    Calls Try.prog 6 #[.slice a n c, .int .i64 lim, .int .i64 other] w fun e w' => e = .returned (.bool true) ∧ Below w.heap.size w w' := by
  have HLS : Hid (PRow w a n LS) := hLS
  have HZ : Hid (∀ q ∈ LS, (q.length : Int) ≤ 9223372036854775806 ∧ ∀ s ∈ q, s.size ≤ maxLen) := hz
  have HA : Hid _ := hide (awake_any w)
  have HNn : Hid (∀ (e : Int) (w : World), Calls Try.prog 15 #[.int .i64 e] w fun x w' => x = .returned (.int .i64 e) ∧ w' = w) := hide (fun e w => num_any e w)
  obtain ⟨hlm1, hlm2⟩ := hlm
  clear hLS hz
  go_enter Try.func6, Try.ntmps6
  go_wp2_with fail
  refine HA.out.mono ?_
  rintro e w1 ⟨rfl, hb1⟩
  have B1 : Hid (Below w.heap.size w w1) := hb1
  have HG : Hid _ := hide (grown_any a n c LS w1 (HLS.out.below hb1) hn HZ.out)
  clear hb1 HA
  go_wp2_with fail
  refine HG.out.mono ?_
  rintro e w2 ⟨tb, fb, rfl, T, S, L, N, P, hfx, hfit⟩
  have HF2 : Hid (Fx w w2 T S tb fb L N) := hide (by
    have := B1.out.size
    exact ⟨hfx.st, B1.out.trans (hfx.bel.mono this), fun k hk => Nat.le_trans this (hfx.new k hk)⟩)
  have HFit : Hid (Fit L N P) := hfit
  have HBd : Hid _ := hide hfx.st.bounds
  have hNl : (N.length : Int) ≤ 262144 := by have := HBd.out; omega
  clear hfx hfit HG
  by_cases hlim : 64 ≤ lim ∧ lim ≤ 1048576
  · obtain ⟨lm, rfl⟩ := Int.eq_ofNat_of_zero_le (show 0 ≤ lim by omega)
    obtain ⟨hl1, hl2⟩ := hlim
    have hE := encode_u HF2.out.st HFit.out (lm : Int)
    have heR : encR N lm = (bodiesN N lm, 0) := by unfold encR; rw [if_pos ⟨hl1, hl2⟩, Int.toNat_natCast]
    rw [heR] at hE
    have HE : Hid _ := hide hE
    have HLen : Hid ((bodiesN N lm).length ≤ 262144) := hide (by have := encR_len HF2.out.st (lm : Int); rw [heR] at this; exact this)
    have hbI : ((bodiesN N lm).length : Int) ≤ 262144 := by have := HLen.out; omega
    have HRd : Hid _ := hide (rdAllN_bodies HFit.out HBd.out.2.2 HBd.out.1 lm)
    have HWi : Hid (∀ b ∈ bodiesN N lm, b.length ≤ lm) := hide (by
      obtain ⟨tv, tm, v, mb, hT, hF⟩ := HF2.out.st.both
      exact bodies_within hF.len (fun n hn => (hF.small n hn).2) (by omega) N.length (Nat.le_refl _))
    have HNil : Hid _ := hide (cuts_nil (cuts_all N lm N.length))
    have hnil : ((((bodiesN N lm).length : Int) == 0) = ((N.length : Int) == 0)) := by
      by_cases h0 : N.length = 0
      · have e : bodiesN N lm = [] := (HNil.out).2 h0
        rw [e, h0]; rfl
      · have e : (bodiesN N lm).length ≠ 0 := fun e => h0 (HNil.out.1 (List.length_eq_zero_iff.1 e))
        have e1 : (((bodiesN N lm).length : Int) == 0) = false := by rw [beq_eq_false_iff_ne]; omega
        have e2 : ((N.length : Int) == 0) = false := by rw [beq_eq_false_iff_ne]; omega
        rw [e1, e2]
    have HNE : Hid _ := hide hnil
    generalize hbsn : bodiesN N lm = bs at HE HLen hbI HRd HWi HNE
    have HBs : Hid (bodiesN N lm = bs) := hbsn
    have HE2 : Hid _ := hide (fun W (hW : St W T S tb fb L N) => encode_u hW HFit.out other)
    clear hE heR hnil HNil hbsn
    go_wp2_with fail
    refine HE.out.mono ?_
    rintro e w3 ⟨a3, c3, vals3, rfl, hl3, hb3, hz3⟩
    have HF3 : Hid _ := hide (HF2.out.below hb3)
    have hlr3 := hl3.lrow hz3
    have HLr3 : Hid (LRow w3 a3 bs.length bs) := hlr3
    obtain ⟨tv, tm, v, mb, hT3, hFr3⟩ := HF3.out.st.both
    have HD : Hid _ := hide (decode_any hT3 a3 bs.length c3 bs (lm : Int) hlr3 (by omega))
    clear hl3 hb3 hz3 hlr3 hT3 hFr3 HE
    go_wp2_with (first
      | (go_at_call 15; refine (HNn.out _ _).mono ?_; rintro _ _ ⟨rfl, hh⟩; rw [hh]; clear hh)
      | fail)
    refine HD.out.mono ?_
    rintro e w4 ⟨hb4, hdec⟩
    rcases hdec with ⟨hx, _⟩ | ⟨_, hx, _⟩ | ⟨_, _, hx, _⟩ | ⟨_, _, _, gb, S4, rfl, hFN⟩
    · exact absurd ⟨hl1, hl2⟩ hx
    · rw [HRd.out] at hx; exact absurd rfl hx
    · rw [HRd.out, Int.toNat_natCast] at hx; exact absurd HBs.out hx
    rw [HRd.out] at hFN
    have HF4 : Hid (Fx w w4 T S tb fb L N) := hide (HF3.out.below hb4)
    have HG4 : Hid (Fx w w4 T S4 tb gb L N) := ⟨hFN.st (fun k hk => HF3.out.st.tlt k hk), HF4.out.bel, by
      have := HF3.out.bel.size
      rintro k (hk | hk)
      · exact HF3.out.new k (.inl hk)
      · have := (hFN.news k hk).1; omega⟩
    have HLr4 : Hid _ := hide (HLr3.out.below hb4)
    have HCf : Hid _ := hide HF4.out.st.count
    have HCg : Hid _ := hide HG4.out.st.count
    have HCu : Hid _ := hide (cut_any a3 bs.length c3 bs lm w4 HLr4.out (by omega) HWi.out)
    have hne := HNE.out
    clear hb4 hFN HD
    have hneq : (!(((bs.length : Int) == 0) == ((N.length : Int) == 0))) = false := by rw [hne]; cases ((N.length : Int) == 0) <;> rfl
    clear hne
    go_wp2_with (first
      | (go_at_call 15; refine (HNn.out _ _).mono ?_; rintro _ _ ⟨rfl, hh⟩; rw [hh]; clear hh)
      | (go_at_call 16; refine HCg.out.mono ?_; clear HCg; rintro _ _ ⟨rfl, hh⟩; rw [hh]; clear hh)
      | (go_at_call 16; refine HCf.out.mono ?_; rintro _ _ ⟨rfl, hh⟩; rw [hh]; clear hh)
      | (go_at_call 26; refine HCu.out.mono ?_; rintro _ _ ⟨rfl, hh⟩; rw [hh]; clear hh)
      | fail)
    clear hneq HCf HCu HLr4 HLr3
    go_loopw [14] (fun i wr => ∃ (k : Nat), k ≤ N.length + 1 ∧ i = .int .i64 (k : Int) ∧ Fx w wr T S tb fb L N ∧ Fx w wr T S4 tb gb L N) (fun i _ => N.length + 1 - (intOf i).toNat)
    case atStart => exact ⟨0, by omega, rfl, HF4.out, HG4.out⟩
    case round =>
      obtain ⟨i, hi, rfl, hf5, hg5⟩ := hrel
      have HF5 : Hid _ := hide hf5
      have HG5 : Hid _ := hide hg5
      have HC5 : Hid _ := hide hf5.st.count
      clear hf5 hg5
      by_cases hlt2 : i ≤ N.length
      · have hiI : (i : Int) ≤ N.length := by omega
        have hsl := stkP_len HFit.out.rep i
        have HS5 : Hid _ := hide (stack_in HF5.out.st HFit.out.rep i hlt2)
        have HS6 : Hid (∀ W, Fx w W T S4 tb gb L N → Calls Try.prog 20 #[.pointer (some ⟨gb, 0, none⟩), .int .i64 (i : Int)] W fun e w' => ∃ v : Value, e = .returned (.tuple #[v, .int .i64 0]) ∧ w'.ownsRow W.heap.size 9 1 v (stkP P i).length ((stkP P i).map Value.string) ∧ Below W.heap.size W w') := hide (fun W hW => stack_in hW.st HFit.out.rep i hlt2)
        generalize stkP P i = p at HS5 HS6 hsl
        have hpI : (p.length : Int) ≤ 16 := by omega
        clear hsl
        go_wp2_with (first
          | (go_at_call 16; refine HC5.out.mono ?_; rintro _ _ ⟨rfl, hh⟩; rw [hh]; clear hh)
          | fail)
        refine HS5.out.mono ?_
        rintro e w8 ⟨v8, rfl, ho8, hb8⟩
        obtain ⟨a8, c8, rfl, hr8, _⟩ := row_own ho8
        have HF8 : Hid _ := hide (HF5.out.below hb8)
        have HG8 : Hid _ := hide (HG5.out.below hb8)
        have HR8 : Hid _ := hide hr8
        have HS9 : Hid _ := hide (HS6.out w8 HG8.out)
        clear ho8 hb8 hr8
        go_wp2_with fail
        refine HS9.out.mono ?_
        rintro e w9 ⟨v9, rfl, ho9, hb9⟩
        obtain ⟨a9, c9, rfl, hr9, _⟩ := row_own ho9
        have HF9 : Hid _ := hide (HF8.out.below hb9)
        have HG9 : Hid _ := hide (HG8.out.below hb9)
        have HTx : Hid _ := hide (texts_any a8 a9 p.length c8 p.length c9 p p w9 (HR8.out.below hb9) hr9 (by omega))
        rw [eqB_self] at HTx
        clear ho9 hb9 hr9
        go_wp2_with (first
          | (go_at_call 15; refine (HNn.out _ _).mono ?_; rintro _ _ ⟨rfl, hh⟩; rw [hh]; clear hh)
          | fail)
        refine HTx.out.mono ?_
        rintro e w10 ⟨rfl, q, hq⟩
        have HF10 : Hid _ := hide (HF9.out.below (below_drewN (Below.refl _ w9) q))
        have HG10 : Hid _ := hide (HG9.out.below (below_drewN (Below.refl _ w9) q))
        rw [← hq] at HF10 HG10
        clear hq
        go_wp2
        exact ⟨⟨i + 1, by omega, by go_num, HF10.out, HG10.out⟩, by simp [intOf]; omega⟩
      · have hiN : (N.length : Int) < i := by omega
        have HE5 : Hid _ := hide (HE2.out wr HF5.out.st)
        have HE6 : Hid _ := hide (fun W (hW : St W T S4 tb gb L N) => encode_u hW HFit.out other)
        have hen := encR_len HF5.out.st other
        have hx2 : (encR N other).2 = 0 ∨ (encR N other).2 = 2 := by unfold encR; split <;> simp
        generalize encR N other = R at HE5 HE6 hen hx2
        obtain ⟨B, x⟩ := R
        dsimp only at HE5 HE6 hen hx2
        have hxx : (x == x) = true := by simp
        have hBI : (B.length : Int) ≤ 262144 := by omega
        clear HE2 hen hx2
        go_wp2_with (first
          | (go_at_call 16; refine HC5.out.mono ?_; rintro _ _ ⟨rfl, hh⟩; rw [hh]; clear hh)
          | fail)
        refine HE5.out.mono ?_
        rintro e w8 ⟨a8, c8, vals8, rfl, hl8, hb8, hz8⟩
        have HG8 : Hid _ := hide (HG5.out.below hb8)
        have HL8 : Hid _ := hide (hl8.lrow hz8)
        have HE9 : Hid _ := hide (HE6.out w8 HG8.out.st)
        clear hl8 hb8 hz8 HE5 HE6
        go_wp2_with fail
        refine HE9.out.mono ?_
        rintro e w9 ⟨a9, c9, vals9, rfl, hl9, hb9, hz9⟩
        have HG9 : Hid _ := hide (HG8.out.below hb9)
        have HSa : Hid _ := hide (sl_any a8 a9 B.length c8 B.length c9 B B w9 (HL8.out.below hb9) (hl9.lrow hz9) (by omega))
        rw [decide_eq_true rfl] at HSa
        clear hl9 hb9 hz9
        go_wp2_with fail
        refine HSa.out.mono ?_
        rintro e w10 ⟨rfl, q, hq⟩
        have HB10 : Hid (Below w.heap.size w w10) := hide (by rw [hq]; exact below_drewN HG9.out.bel q)
        clear hq
        go_wp2
        go_ret
        exact ⟨rfl, HB10.out⟩
  · have hE := encode_u HF2.out.st HFit.out lim
    have heR : encR N lim = ([], 2) := by unfold encR; rw [if_neg hlim]
    rw [heR] at hE
    have HE : Hid _ := hide hE
    clear hE heR
    by_cases hlo : lim < 64
    · go_wp2_with fail
      refine HE.out.mono ?_
      rintro e w3 ⟨a3, c3, vals3, rfl, hl3, hb3, _⟩
      have HB3 : Hid _ := hide (HF2.out.below hb3).bel
      clear hl3 hb3
      go_wp2_with (first
        | (go_at_call 15; refine (HNn.out _ _).mono ?_; rintro _ _ ⟨rfl, hh⟩; rw [hh]; clear hh)
        | fail)
      go_ret
      exact ⟨rfl, HB3.out⟩
    · have hhi : 1048576 < lim := by omega
      go_wp2_with fail
      refine HE.out.mono ?_
      rintro e w3 ⟨a3, c3, vals3, rfl, hl3, hb3, _⟩
      have HB3 : Hid _ := hide (HF2.out.below hb3).bel
      clear hl3 hb3
      go_wp2_with (first
        | (go_at_call 15; refine (HNn.out _ _).mono ?_; rintro _ _ ⟨rfl, hh⟩; rw [hh]; clear hh)
        | fail)
      go_ret
      exact ⟨rfl, HB3.out⟩
end Go.Proofs.Ytlobhieephpahaa
