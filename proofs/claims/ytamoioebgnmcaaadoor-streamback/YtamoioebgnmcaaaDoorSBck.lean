/-
  StreamBack.
-/
import Derived.Test.YtamoioebgnmcaaaDoorSAwk
import Derived.Test.YtamoioebgnmcaaaDoorSGd
import Derived.Test.YtamoioebgnmcaaaDoorSBkM
namespace Go.Proofs.YtamoioebgnmcaaaDoor
open Go.RowKit
theorem RRow.sub {w : World} {b off n at_ m : Nat} {L : List Rc} (h : RRow w (some ⟨b, off, none⟩) n L) (hle : at_ + m ≤ n) : RRow w (some ⟨b, off + at_ * 5, none⟩) m ((L.drop at_).take m) := by
  have hl := h.len
  refine ⟨by simp; omega, ?_⟩
  by_cases h0 : m = 0
  · exact .inl h0
  · rcases h.cells with e | ⟨b', off', e, hc⟩
    · omega
    · cases e
      refine .inr ⟨b, off + at_ * 5, rfl, fun i r hr => ?_⟩
      have hi : i < m := by have h9 := (List.getElem?_eq_some_iff.1 hr).1; simp at h9; omega
      rw [List.getElem?_take_of_lt hi, List.getElem?_drop] at hr
      have h9 := hc (at_ + i) r hr
      rw [show off + (at_ + i) * 5 = off + at_ * 5 + i * 5 by omega] at h9
      exact h9
set_option maxHeartbeats 3200000 in
set_option maxRecDepth 10000 in
theorem back_ok (a : Option Addr) (n c : Nat) (L : List Rc) (lim : Int) (w : World) (hK : Kn w) (hw : 0 < w.heap.size) (hr : RRow w a n L) (hnc : n ≤ c) (hok : ∀ r ∈ L, r.ok) (hs : strE 0 L = 0) (hlim : 64 ≤ lim ∧ lim ≤ 1048576) :
    Calls Tryd.prog 6 #[.slice a n c, .int .i64 lim] w fun e w' => e = .returned (.bool true) ∧ Below w.heap.size w w' := by
  have HA := awake_any w hK hw
  have HLI := limits_any lim
  rw [decide_eq_true hlim] at HLI
  have hlen := strE_len L 0 (by decide) (by decide) hs
  have hll := hr.len
  have hn20 : (n : Int) ≤ 1048576 := by omega
  have HDE : Hid _ := hide (dec_enc (lim := lim.toNat) (by omega) hs hok)
  have HPART : Hid _ := hide (fun (M : List Rc) (h1 : M ≠ []) (h2 : strE 0 M = 0) (h3 : ∀ r ∈ M, r.ok) => cut_part (lim := lim.toNat) (by omega) h1 h2 h3)
  have HR : Hid _ := hide hr
  have HLL : Hid _ := hide hll
  have HLM : Hid _ := hide hlim
  have HS : Hid _ := hide hs
  have HOK : Hid _ := hide hok
  have HNU := num_any
  have hncI : (n : Int) ≤ (c : Int) := by omega
  clear hr hlim hs hok hlen hll
  go_enter Tryd.func6, Tryd.ntmps6
  go_wp2_with fail
  refine HA.mono ?_
  rintro e w1 ⟨rfl, hb1⟩
  have hs1 := hb1.size
  have HEN := enc_any a n c L lim w1 (hK.below hb1 (by omega)) (by omega) (HR.out.below hb1) HOK.out HLM.out (by omega)
  have HB1 : Hid _ := hide hb1
  clear hb1 HA
  go_wp2_with fail
  refine HEN.mono ?_
  rintro e w2 ⟨hb2, -, hg⟩
  obtain ⟨ao, co, vals, rfl, hBd, hsm, hfew⟩ := hg HS.out
  have hs2 := hb2.size
  have hB2 : Below w.heap.size w w2 := HB1.out.trans (hb2.mono hs1)
  have HC : Hid (∃ cs, cs = cutS lim.toNat [] St.zero L) := hide ⟨_, rfl⟩
  generalize hbs : cutS lim.toNat [] St.zero L = bs at hBd hsm hfew HDE
  have HBS : Hid _ := hide hbs
  have HLR : Hid _ := hide (hBd.lrow rfl (fun x hx => by have h1 := hsm x hx; have h2 := HLM.out.2; omega))
  have hcap : bs.length ≤ co := own_capL hBd.own
  have hbl : (bs.length : Int) ≤ 1048577 := by omega
  have HGD := good_any a n c L w2 (hK.below hB2 (by omega)) (by omega) (HR.out.below hB2) HOK.out (by omega)
  rw [decide_eq_true HS.out] at HGD
  have HB2 : Hid _ := hide hB2
  clear hg hBd hsm hfew hb2 hB2 HEN hbs HC
  go_wp2_with fail
  refine HGD.mono ?_
  rintro e w3 ⟨rfl, hb3⟩
  have hs3 := hb3.size
  have hB3 : Below w.heap.size w w3 := HB2.out.trans (hb3.mono (by omega))
  have HDC := dec_any ao bs.length co bs lim w3 (hK.below hB3 (by omega)) (by omega) (HLR.out.below hb3) HLM.out (by omega)
  rw [HDE.out] at HDC
  have HLR3 : Hid _ := hide (HLR.out.below hb3)
  have HB3 : Hid _ := hide hB3
  clear hb3 hB3 HGD
  go_wp2_with (first | (go_at_call 22; refine (HNU _ _).mono ?_; rintro e w9 ⟨rfl, hw9⟩; rw [hw9]; clear hw9 w9) | (go_at_call 23; refine (HLI _).mono ?_; rintro e w9 ⟨rfl, hw9⟩; rw [hw9]; clear hw9 w9))
  refine HDC.mono ?_
  rintro e w4 ⟨hb4, -, hg⟩
  obtain ⟨v4, rfl, hO4'⟩ := hg (by first | trivial | rfl)
  have hO4 : w4.ownsRow w3.heap.size 52 5 v4 L.length (flat L) := hO4'
  rw [HLL.out] at hO4
  obtain ⟨a4, c4, e9⟩ := own_formR hO4
  subst e9
  have hs4 := hb4.size
  have hB4 : Below w.heap.size w w4 := HB3.out.trans (hb4.mono (by omega))
  have HRS := rsame_eq a4 a n c4 c L w4 (RRow.of_own hO4) (HR.out.below hB4) (by omega)
  have HLR4 : Hid _ := hide (HLR3.out.below hb4)
  have HB4 : Hid _ := hide hB4
  clear hg hO4 hO4' hb4 hB4 HDC HLR HLR3
  go_wp2_with (go_at_call 22; refine (HNU _ _).mono ?_; rintro e w9 ⟨rfl, hw9⟩; rw [hw9]; clear hw9 w9)
  refine HRS.mono ?_
  rintro e w5 ⟨rfl, m, hw5⟩
  have hB45 : Below w4.heap.size w4 w5 := by rw [hw5]; exact below_drewN (Below.refl _ _) m
  have HLR5 : Hid _ := hide (HLR4.out.below hB45)
  have HB5 : Hid _ := hide (HB4.out.trans (hB45.mono (by omega)))
  have hs5 := HB5.out.size
  clear hw5 hB45 HRS HLR4
  have I0 : Hid (bs.drop 0 = cutS lim.toNat [] St.zero (L.drop 0)) := hide (HBS.out.symm)
  go_wp2_with fail
  go_loopw [11, 12] (fun s11 s12 wr => ∃ t i : Nat, s11 = .int .i64 t ∧ s12 = .int .i64 i ∧ i ≤ bs.length ∧ t ≤ n ∧ Below w5.heap.size w5 wr ∧ bs.drop i = cutS lim.toNat [] St.zero (L.drop t)) (fun _ s12 _ => bs.length - (intOf s12).toNat)
  case atStart => exact ⟨0, 0, rfl, rfl, Nat.zero_le _, Nat.zero_le _, Below.refl _ _, I0.out⟩
  case round =>
    obtain ⟨t, i, rfl, rfl, hi, ht, hB, hE⟩ := hrel
    have HB : Hid _ := hide hB
    have HE : Hid _ := hide hE
    have hsz := hB.size
    have HBW : Hid _ := hide (HB5.out.trans (hB.mono hs5))
    clear I0
    by_cases hlt : i < bs.length
    · have hltI : (i : Int) < (bs.length : Int) := by omega
      obtain ⟨G, o0, z, ai, ci, rfl, hz, hcz, hrow, -, -, -⟩ := (HLR5.out.below hB).at hlt
      have hne : L.drop t ≠ [] := by
        intro e
        rw [e, cutS, if_pos rfl] at hE
        have h9 := congrArg List.length hE
        simp at h9
        omega
      have hst : strE 0 (L.drop t) = 0 := strE_post (L.take t) (L.drop t) 0 (by decide) (by rw [List.take_append_drop]; exact HS.out)
      obtain ⟨p, q, e1, e2, e3, e4, e5, e6⟩ := HPART.out (L.drop t) hne hst (fun r hr => HOK.out r (List.mem_of_mem_drop hr))
      rw [drop_get hz, e3] at hE
      obtain ⟨ez, eq⟩ := List.cons.inj hE
      have hlen2 := congrArg List.length e1
      rw [List.length_drop, List.length_append] at hlen2
      have hp0 : 0 < p.length := List.length_pos_iff.2 e2
      have hq : q = L.drop (t + p.length) := by rw [← List.drop_drop, e1, List.drop_left]
      have htp : t + p.length ≤ n := by have := HLL.out; omega
      obtain ⟨b0, off, ea, _⟩ := (HR.out.cells).resolve_left (by omega)
      subst ea
      have hsub : (L.drop t).take p.length = p := by rw [e1, List.take_left]
      have hzl : (z.length : Int) ≤ lim := by have h9 := e4; rw [← ez] at h9; have h8 := HLM.out; omega
      have HCH := chunk_any ai z.length ci z wr (hK.below HBW.out (by omega)) (by omega) hrow (by have h8 := HLM.out.2; omega)
      have hchz : chunkV z = (p, 0) := by rw [ez]; exact e6
      have HCZ : Hid _ := hide hchz
      have HRB : Hid _ := hide (HR.out.below HBW.out)
      have HEQ : Hid (bs.drop (i + 1) = cutS lim.toNat [] St.zero (L.drop (t + p.length))) := hide (by rw [← hq]; exact eq)
      have HSUB : Hid _ := hide hsub
      have HQ : Hid _ := hide hq
      have H5 : Hid _ := hide e5
      have HE1 : Hid _ := hide e1
      have HST : Hid _ := hide hst
      have hzl2 : ¬ lim < (z.length : Int) := by omega
      have hpI : (0 : Int) < (p.length : Int) := by omega
      have hpn : ¬ (p.length : Int) = 0 := by omega
      have hsum : (t : Int) + (p.length : Int) ≤ (n : Int) := by omega
      have hsum2 : ¬ (n : Int) < (t : Int) + (p.length : Int) := by omega
      have hpd : ((p.length : Int) == 0) = false := by simp; omega
      clear hrow hne hst e1 e2 e3 e4 e5 e6 hE ez eq hlen2 hq hsub hchz hB hz
      go_wp2_with fail
      refine HCH.mono ?_
      rintro e w6 ⟨hb6, -, hg⟩
      obtain ⟨v6, rfl, hO6'⟩ := hg (by rw [HCZ.out])
      rw [HCZ.out] at hO6'
      have hO6 : w6.ownsRow wr.heap.size 52 5 v6 p.length (flat p) := hO6'
      obtain ⟨a6, c6, e9⟩ := own_formR hO6
      subst e9
      have hs6 := hb6.size
      have hcz6 := (hb6.cell (p := ⟨G, o0 + i, none⟩) (World.block_lt_of_cell? wr _ hcz)).trans hcz
      have HRP := (HRB.out.below hb6).sub (at_ := t) (m := p.length) htp
      rw [HSUB.out] at HRP
      have HRS := fun cc => rsame_eq a6 (some ⟨b0, off + t * 5, none⟩) p.length c6 cc p w6 (RRow.of_own hO6) HRP (by omega)
      have HB6 : Hid _ := hide (HB.out.trans (hb6.mono hsz))
      have HW6 : Hid _ := hide (HBW.out.trans (hb6.mono HBW.out.size))
      clear hg hO6 hO6' HCH hcz HRP hb6
      go_wp2_with (go_at_call 22; refine (HNU _ _).mono ?_; rintro e w9 ⟨rfl, hw9⟩; rw [hw9]; clear hw9 w9)
      refine (HRS _).mono ?_
      rintro e w7 ⟨rfl, m7, hw7⟩
      have hB67 : Below w6.heap.size w6 w7 := by rw [hw7]; exact below_drewN (Below.refl _ _) m7
      have HB7 : Hid _ := hide (HB6.out.trans (hB67.mono HB6.out.size))
      have HW7 : Hid _ := hide (HW6.out.trans (hB67.mono HW6.out.size))
      have hs7 := HW7.out.size
      clear hw7 HRS hB67 hcz6
      by_cases hl2 : i + 1 < bs.length
      · have hqn : L.drop (t + p.length) ≠ [] := by
          intro e
          have h9 := HEQ.out
          rw [e, cutS, if_pos rfl] at h9
          have h8 := congrArg List.length h9
          simp at h8
          omega
        have htn : t + p.length < n := by
          have h8 := HLL.out
          by_cases h9 : t + p.length < n
          · exact h9
          · exact absurd (List.drop_eq_nil_of_le (by omega)) hqn
        obtain ⟨r, hr⟩ : ∃ r, L[t + p.length]? = some r := ⟨L[t + p.length]'(by have h8 := HLL.out; omega), List.getElem?_eq_getElem _⟩
        have hq2 := HQ.out.trans (drop_get hr)
        have e7 := H5.out r _ hq2
        have e8 : L.drop t = (p ++ [r]) ++ L.drop (t + p.length + 1) := by rw [HE1.out, hq2]; simp
        have hsub2 : (L.drop t).take (p.length + 1) = p ++ [r] := by rw [e8]; exact List.take_left' (by simp)
        have hst2 : strE 0 (p ++ [r]) = 0 := strE_pre (p ++ [r]) _ 0 (by rw [← e8]; exact HST.out)
        have hrr := (HR.out.below HW7.out).sub (at_ := t) (m := p.length + 1) (by omega)
        rw [hsub2] at hrr
        have HEN2 := fun cc => enc_any (some ⟨b0, off + t * 5, none⟩) (p.length + 1) cc (p ++ [r]) lim w7 (hK.below HW7.out (by omega)) (by omega) hrr (fun x hx => HOK.out x (by
          have h9 : x ∈ L.drop t := by rw [e8]; exact List.mem_append_left _ hx
          exact List.mem_of_mem_drop h9)) HLM.out (by omega)
        rw [e7] at HEN2
        have HST2 : Hid _ := hide hst2
        have hl2I : (i : Int) + 1 < (bs.length : Int) := by omega
        have htI : (t : Int) + (p.length : Int) < (n : Int) := by omega
        have htI2 : ¬ (n : Int) ≤ (t : Int) + (p.length : Int) := by omega
        have htI3 : (t : Int) + (p.length : Int) + 1 ≤ (n : Int) := by omega
        have htI4 : (t : Int) + (p.length : Int) + 1 ≤ (c : Int) := by omega
        have ha1 : (t : Int) + (p.length : Int) - (p.length : Int) = (t : Int) := by omega
        have hlast : n = n := rfl
        clear hqn htn hr hq2 e7 e8 hsub2 hst2 hrr hl2 hlast
        go_wp2_with fail
        rw [show t + p.length + 1 - t = p.length + 1 by omega]
        refine (HEN2 _).mono ?_
        rintro e w8 ⟨hb8, -, hg⟩
        obtain ⟨ao2, co2, vals2, rfl, -, -, -⟩ := hg HST2.out
        have HB8 : Hid _ := hide (HB7.out.trans (hb8.mono HB7.out.size))
        clear hg hb8 HEN2
        go_wp2_with (go_at_call 22; refine (HNU _ _).mono ?_; rintro e w9 ⟨rfl, hw9⟩; rw [hw9]; clear hw9 w9)
        exact ⟨⟨t + p.length, i + 1, by go_num, by go_num, by omega, htp, HB8.out, HEQ.out⟩, by simp [intOf]; omega⟩
      · have hl2I : ¬ (i : Int) + 1 < (bs.length : Int) := by omega
        go_wp2
        exact ⟨⟨t + p.length, i + 1, by go_num, by go_num, by omega, htp, HB7.out, HEQ.out⟩, by simp [intOf]; omega⟩
    · have hie : i = bs.length := by omega
      have htn : t = n := by
        have h9 := HE.out
        rw [hie, List.drop_length] at h9
        have h8 := HLL.out
        by_cases h7 : t < n
        · obtain ⟨p, q, e1, e2, e3, -⟩ := HPART.out (L.drop t) (by intro e; have h6 := congrArg List.length e; simp at h6; omega) (strE_post (L.take t) (L.drop t) 0 (by decide) (by rw [List.take_append_drop]; exact HS.out)) (fun r hr => HOK.out r (List.mem_of_mem_drop hr))
          rw [e3] at h9
          cases h9
        · omega
      have hltI : ¬ (i : Int) < (bs.length : Int) := by omega
      have htq : ((t : Int) == (n : Int)) = true := by simp; omega
      clear hie hE hB
      go_wp2
      go_ret
      exact ⟨rfl, HBW.out⟩
end Go.Proofs.YtamoioebgnmcaaaDoor
