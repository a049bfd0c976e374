/-
  The walk of StacksDecodes.
-/
import Derived.Test.YtffakkdmojhjkaaDecW
import Derived.Test.YtffakkdmojhjkaaTwn
import Derived.Test.YtffakkdmojhjkaaTbs
import Derived.Test.YtffakkdmojhjkaaLists
import Derived.BigRegion
import Derived.Laws.BitsAllLaws
namespace Go.Proofs.Ytffakkdmojhjkaa
open Go.RowKit Go.Maps Go.Shelf
attribute [local go_sem] Oper.semAt_some
theorem xor1_bd {z : Int} (h0 : 0 ≤ z) (h1 : z ≤ 255) : 0 ≤ bits .xor .u8 z 1 ∧ bits .xor .u8 z 1 ≤ 255 := by
  rw [u8_xor z 1 h0 (by omega) (by omega) (by omega)]
  have : z.toNat ^^^ (1 : Int).toNat < 2 ^ 8 := Nat.xor_lt_two_pow (by omega) (by decide)
  omega
theorem Fg.form {W : World} {x y : Value} {L : List ByteArray} {N : List Nd} {P : List Stk} (h : Fg W x y L N P) : (x = .pointer none ∧ y = .pointer none) ∨ ∃ fb gb, x = .pointer (some ⟨fb, 0, none⟩) ∧ y = .pointer (some ⟨gb, 0, none⟩) := by
  rcases h with ⟨h1, h2, _⟩ | ⟨tb, fb, ub, gb, T, S, U, V, h1, h2, _⟩
  · exact .inl ⟨h1, h2⟩
  · exact .inr ⟨fb, gb, h1, h2⟩
theorem lists_lrow {w : World} {base n c : Nat} {a : Option Addr} {bs : List (List Int)} {vals : List Value} (h : Lists w base (.slice a n c) bs vals) (hl : bs.length = n) (hz : ∀ z ∈ bs, (z.length : Int) ≤ 140737488351232) : LRow w a n bs := by
  subst hl
  exact h.lrow (fun z h => by have := hz z h; omega)
theorem lens_mem {cs bs : List (List Int)} (h : cs.map List.length = bs.map List.length) {z : List Int} (hz : z ∈ cs) : ∃ y ∈ bs, z.length = y.length := by
  have : z.length ∈ bs.map List.length := by rw [← h]; exact List.mem_map_of_mem hz
  obtain ⟨y, hy, e⟩ := List.mem_map.1 this
  exact ⟨y, hy, e.symm⟩
/-- The answers of both Decodes behind the change of the bodies. -/
theorem second_x {w w1 w9 wr : World} {tb ub : Nat} {T U : Nat → Prop} {L : List ByteArray} (hT : Tbs w w1 tb ub T U L) (h19 : Below w1.heap.size w1 w9) {V : Nat → Prop} (hV : But V w9 wr) (hVl : ∀ k, V k → w1.heap.size ≤ k) : (∃ tv tm, Tab wr tb T L tv tm) ∧ (∃ rv, RTab wr ub U L rv) ∧ Below w.heap.size w wr ∧ (∀ k, T k → k < wr.heap.size) ∧ ∀ k, U k → k < wr.heap.size := by
  have hk : But V w1 wr := (But.of_below (S := V) h19).trans hV (fun _ _ e => e)
  obtain ⟨tv, tm, ht⟩ := hT.tab
  obtain ⟨rv, hr⟩ := hT.rtab
  have hs := hk.size
  refine ⟨⟨tv, tm, ht.kept hk (fun k h1 h2 => ?_)⟩, ⟨rv, hr.kept hk (fun k h1 h2 => ?_)⟩, hT.bel.trans (hk.below hT.bel.size (fun k e => ?_)), fun k h1 => ?_, fun k h1 => ?_⟩
  · have := hT.rng k (.inl h1); have := hVl k h2; omega
  · have := hT.rng k (.inr h1); have := hVl k h2; omega
  · have := hVl k e; have := hT.bel.size; omega
  · have := hT.rng k (.inl h1); omega
  · have := hT.rng k (.inr h1); omega
set_option maxHeartbeats 4000000 in
set_option maxRecDepth 8000 in
theorem decodes_any (wa : Option Addr) (wn wc : Nat) (ls : List ByteArray) (ba : Option Addr) (n bc : Nat) (bs : List (List Int)) (lim : Int) (w : World) (hw : SRow w wa wn ls) (hwn : (wn : Int) ≤ 9223372036854775806) (hz : ∀ s ∈ ls, s.size ≤ maxLen)
    (hr : LRow w ba n bs) (hn : (n : Int) * 24 ≤ 140737488351232) (hzl : ∀ z ∈ bs, z.length ≤ 140737488351232) (hu : ∀ z ∈ bs, ∀ y ∈ z, 0 ≤ y ∧ y ≤ 255)
    (hcap : ∀ i, i < n → ∀ b off ai li ci, ba = some ⟨b, off, none⟩ → w.cell? ⟨b, off + i, none⟩ = some (.slice ai li ci) → ai = none → ci = 0) :
    Calls Try.prog 3 #[.slice wa wn wc, .slice ba n bc, .int .i64 lim] w fun e w' => e = .returned (.bool true) ∧ Below w.heap.size w w' := by
  have HQ0 : Hid _ := hide (tables_any wa wn wc ls w hw hwn hz)
  have HL : Hid (bs.length = n) := hr.len
  have HR : Hid (∀ W, Below w.heap.size w W → LRow W ba n bs) := hide (fun W hW => hr.below hW)
  have HZ : Hid (∀ z ∈ bs, (z.length : Int) ≤ 140737488351232) := hide (fun z h => by have := hzl z h; omega)
  have HU : Hid _ := hide hu
  have HN : Hid ((n : Int) * 24 ≤ 140737488351232) := hn
  have HC : Hid (∀ W, Below w.heap.size w W → ∀ i, i < n → ∀ b off ai li ci, ba = some ⟨b, off, none⟩ → W.cell? ⟨b, off + i, none⟩ = some (.slice ai li ci) → ai = none → ci = 0) := hide (fun W hW i hi b off ai li ci e hc => by
    obtain ⟨b', off', z, a2, c2, ea, _, hc2, _⟩ := hr.at hi
    rw [e] at ea
    cases ea
    have hb := World.block_lt_of_cell? w _ hc2
    have e2 := hW.cell (p := ⟨b, off + i, none⟩) hb
    exact hcap i hi b off ai li ci e (by rw [← e2]; exact hc))
  have hnI : (n : Int) ≤ 140737488351232 := by omega
  clear hw hwn hz hr hn hzl hu hcap
  go_enter Try.func3, Try.ntmps3
  go_wp2_with fail
  refine HQ0.out.mono ?_
  rintro e w1 ⟨tb, ub, T, U, L, rfl, hT⟩
  have HT : Hid (Tbs w w1 tb ub T U L) := hT
  have HQ1 : Hid _ := hide (twin_any ba n bc bs w1 (HR.out w1 hT.bel) HN.out HZ.out HU.out (HC.out w1 hT.bel))
  clear hT HQ0
  go_wp2_with fail
  refine HQ1.out.mono ?_
  rintro e w2 ⟨a2, c2, vals, rfl, hTw, hb2⟩
  have HTw : Hid (Twn w2 w1.heap.size (.slice a2 n c2) bs vals) := hTw
  have HB2 : Hid (Below w1.heap.size w1 w2) := hb2
  have HT2 : Hid (Tbs w w2 tb ub T U L) := hide (HT.out.below hb2)
  have HQ2 : Hid (Calls Try.prog 11 #[.pointer (some ⟨tb, 0, none⟩), .slice a2 n c2, .int .i64 lim] w2 fun e w' => Below w2.heap.size w2 w' ∧ DecE w2 w' T tb L bs lim e) := hide (by
    obtain ⟨tv, tm, ht⟩ := HT2.out.tab
    exact decode_any ht a2 n c2 bs lim (lists_lrow hTw.lists HL.out HZ.out) (by omega))
  clear hTw hb2 HQ1
  go_wp2_with fail
  refine HQ2.out.mono ?_
  rintro e w3 ⟨hb3, hD3⟩
  obtain ⟨x, er, rfl⟩ := decE_form hD3
  have HD3 : Hid _ := hide hD3
  have HB3 : Hid (Below w2.heap.size w2 w3) := hb3
  have HT3 : Hid (Tbs w w3 tb ub T U L) := hide (HT2.out.below hb3)
  have HQ3 : Hid (Calls Try.prog 12 #[.pointer (some ⟨ub, 0, none⟩), .slice ba n bc, .int .i64 lim] w3 fun e w' => Below w3.heap.size w3 w' ∧ RDecE w3 w' U ub L bs lim e) := hide (by
    obtain ⟨tv, ht⟩ := HT3.out.rtab
    exact rdecode_any ht ba n bc bs lim (HR.out w3 HT3.out.bel) (by omega))
  clear hb3 hD3 HQ2
  go_wp2_with fail
  refine HQ3.out.mono ?_
  rintro e w4 ⟨hb4, hD4⟩
  obtain ⟨y, er2, rfl⟩ := rdecE_form hD4
  obtain ⟨e12, N, P, hFg⟩ := both_dec HD3.out hD4 HB3.out (Below.refl _ _) hb4 (fun k hk => (HT2.out.rng k (.inl hk)).2) (fun k hk => (HT3.out.rng k (.inr hk)).2)
  subst e12
  have HT4 : Hid (Tbs w w4 tb ub T U L) := hide (HT3.out.below hb4)
  have HTw4 : Hid (Twn w4 w1.heap.size (.slice a2 n c2) bs vals) := hide ((HTw.out.below HB3.out).below hb4)
  have HB14 : Hid (Below w1.heap.size w1 w4) := hide ((HB2.out.trans (HB3.out.mono HB2.out.size)).trans (hb4.mono (Nat.le_trans HB2.out.size HB3.out.size)))
  have HQ4 : Hid _ := hide (bkept_any ba a2 n bc c2 _ bs vals w4 (HR.out w4 HT4.out.bel) HTw4.out hnI HZ.out)
  have HFg4 : Hid (Fg w4 x y L N P) := hFg
  have hxy := hFg.form
  have hNl : (N.length : Int) ≤ 262144 := by have := (fg_len hFg).1; omega
  clear hb4 hD4 hFg HD3 HQ3
  rcases hxy with ⟨rfl, rfl⟩ | ⟨fb, gb, rfl, rfl⟩
  all_goals
    go_wp2_with fail
    refine HQ4.out.mono ?_
    rintro e w5 ⟨rfl, m5, hw5⟩
    have hb5 : Below w4.heap.size w4 w5 := by rw [hw5]; exact below_drewN (Below.refl _ _) m5
    have HT5 : Hid (Tbs w w5 tb ub T U L) := hide (HT4.out.below hb5)
    have HFg5 : Hid _ := hide (HFg4.out.below hb5)
    have HTw5 : Hid _ := hide (HTw4.out.below hb5)
    have HB15 : Hid (Below w1.heap.size w1 w5) := hide (HB14.out.trans (hb5.mono HB14.out.size))
    have HQ5 : Hid (Calls Try.prog 14 #[.pointer (some ⟨tb, 0, none⟩)] w5 fun e w' => e = .returned (.int .i64 (L.length : Int)) ∧ w' = w5) := hide (by
      obtain ⟨tv, tm, ht⟩ := HT5.out.tab
      obtain ⟨ta, tc, rfl⟩ := own_form ht.own
      exact len_any tb _ tc ta _ ht.cell0)
    have HQ6 : Hid (Calls Try.prog 15 #[.pointer (some ⟨ub, 0, none⟩)] w5 fun e w' => e = .returned (.int .i64 (L.length : Int)) ∧ w' = w5) := hide (by
      obtain ⟨tv, ht⟩ := HT5.out.rtab
      obtain ⟨ta, tc, rfl⟩ := own_form ht.own
      exact rlen_any ub _ tc ta _ ht.cell0)
    have HQ7 : Hid _ := hide (fg_len HFg5.out).2.1
    have HQ8 : Hid _ := hide (fg_len HFg5.out).2.2
    clear hb5 hw5 HQ4
    go_wp2_with fail
    refine HQ5.out.mono ?_
    rintro e w6 ⟨rfl, hh⟩; rw [hh]; clear hh w6
    go_wp2_with fail
    refine HQ6.out.mono ?_
    rintro e w6 ⟨rfl, hh⟩; rw [hh]; clear hh w6
    go_wp2_with fail
    refine HQ7.out.mono ?_
    rintro e w6 ⟨rfl, hh⟩; rw [hh]; clear hh w6
    go_wp2_with fail
    refine HQ8.out.mono ?_
    rintro e w6 ⟨rfl, hh⟩; rw [hh]; clear hh w6
    clear HQ5 HQ6 HQ7 HQ8
    go_wp2
    go_loopw [14] (fun i wr => ∃ t : Int, -1 ≤ t ∧ t ≤ (N.length : Int) + 2 ∧ i = .int .i64 t ∧ Below w5.heap.size w5 wr) (fun i _ => ((N.length : Int) + 2 - intOf i).toNat)
    case atStart => exact ⟨-1, by omega, by omega, rfl, Below.refl _ _⟩
    case round =>
      obtain ⟨t, ht0, ht1, rfl, hb⟩ := hrel
      have HB : Hid (Below w5.heap.size w5 wr) := hb
      have HFr : Hid _ := hide (HFg5.out.below hb)
      have HQ9 : Hid _ := hide (fg_len HFr.out).2.2
      clear hb
      by_cases hlt : t ≤ (N.length : Int) + 1
      · obtain ⟨A, ea, hA, HS1, HS2⟩ := fg_stack HFr.out t (by omega)
        have HS1 := hide HS1
        have HS2 := hide HS2
        have hAI : (A.length : Int) ≤ 16 := by omega
        go_wp2_with fail
        refine HQ9.out.mono ?_
        rintro e w6 ⟨rfl, hh⟩; rw [hh]; clear hh w6
        go_wp2_with fail
        refine HS1.out.mono ?_
        rintro e w6 ⟨s1, k1, rfl, ho1, hb1⟩
        have HO1 : Hid _ := hide ho1
        have HB6 : Hid (Below wr.heap.size wr w6) := hb1
        have HS3 : Hid _ := hide (HS2.out w6 hb1)
        clear ho1 hb1 HS1 HS2 HQ9
        go_wp2_with fail
        refine HS3.out.mono ?_
        rintro e w7 ⟨s2, k2, rfl, ho2, hb2⟩
        have HB7 : Hid (Below wr.heap.size wr w7) := hide (HB6.out.trans (hb2.mono HB6.out.size))
        have HQ := texts_any s1 s2 A.length k1 A.length k2 A A w7 (SRow.of_own (own_but (S := fun _ => False) HO1.out (But.of_below hb2) (fun _ _ e => e))) (SRow.of_own ho2) (by omega)
        rw [eqB_self] at HQ
        have HQ := hide HQ
        clear ho2 hb2 HS3
        go_wp2_with fail
        refine HQ.out.mono ?_
        rintro e w8 ⟨rfl, m8, hw8⟩
        have HB8 : Hid (Below w5.heap.size w5 w8) := hide (by rw [hw8]; exact below_drewN (HB.out.trans (HB7.out.mono HB.out.size)) m8)
        clear hw8 HQ
        go_wp2
        exact ⟨⟨t + 1, by omega, by omega, by go_num, HB8.out⟩, by simp [intOf]; omega⟩
      · obtain ⟨A, ea, hA, HE1, HE2⟩ := fg_encode HFr.out
        have HE1 := hide HE1
        have HE2 := hide HE2
        have HA : Hid (∀ z ∈ A, (z.length : Int) ≤ 140737488355328) := hA.2
        have hAI : (A.length : Int) ≤ 262144 := by have := hA.1; omega
        clear hA
        go_wp2_with fail
        refine HQ9.out.mono ?_
        rintro e w6 ⟨rfl, hh⟩; rw [hh]; clear hh w6
        go_wp2_with fail
        refine HE1.out.mono ?_
        rintro e w6 ⟨s1, k1, v1, rfl, hl1, hb1⟩
        have HL1 : Hid _ := hide hl1
        have HB6 : Hid (Below wr.heap.size wr w6) := hb1
        have HE3 : Hid _ := hide (HE2.out w6 hb1)
        clear hl1 hb1 HE1 HE2 HQ9
        go_wp2_with fail
        refine HE3.out.mono ?_
        rintro e w7 ⟨s2, k2, v2, rfl, hl2, hb2⟩
        have HB7 : Hid (Below w5.heap.size w5 w7) := hide (HB.out.trans ((HB6.out.trans (hb2.mono HB6.out.size)).mono HB.out.size))
        have HDn : Hid _ := hide (decode_nil a2 n c2 lim w7)
        have HQ := sl_any s1 s2 A.length k1 A.length k2 A A w7 ((HL1.out.below hb2).lrow HA.out) (hl2.lrow HA.out) (by omega)
        rw [decide_eq_true (show A = A from rfl)] at HQ
        have HQ := hide HQ
        clear hl2 hb2 HE3
        go_wp2_with fail
        refine HDn.out.mono ?_
        rintro e w8 ⟨rfl, hh⟩; rw [hh]; clear hh w8
        go_wp2_with fail
        refine HQ.out.mono ?_
        rintro e w8 ⟨rfl, m8, hw8⟩
        have HB8 : Hid (Below w5.heap.size w5 w8) := hide (by rw [hw8]; exact below_drewN HB7.out m8)
        have HNm : Hid _ := hide (num_any 1 w8)
        clear hw8 HQ HDn
        go_wp2_with fail
        refine HNm.out.mono ?_
        rintro e w9 ⟨rfl, hh⟩; rw [hh]; clear hh w9
        have HV : Hid (Ovb w8 w8 w1.heap.size (.slice a2 n c2) bs vals) := hide (Ovb.start (HTw5.out.below HB8.out).lists)
        have HVl : Hid (∀ k, (∃ x ∈ vals, x.ownBlock = some k) → w1.heap.size ≤ k) := hide (fun k ⟨x, hx, hg⟩ => (HTw5.out.blocks x hx k hg).1)
        have HB18 : Hid (Below w1.heap.size w1 w8) := hide (HB15.out.trans (HB8.out.mono HB15.out.size))
        clear HNm HB HFr HB6 HL1 HB7 HB8 HA
        generalize w8 = W8 at HV HB18 ⊢
        go_wp2
        go_loopw [25] (fun q wr => ∃ k : Nat, k ≤ n ∧ q = .int .i64 k ∧ Ovb W8 wr w1.heap.size (.slice a2 n c2) bs vals) (fun q _ => n - (intOf q).toNat)
        case atStart => exact ⟨0, Nat.zero_le _, rfl, HV.out⟩
        case round =>
          obtain ⟨k, hk, rfl, hO⟩ := hrel
          have HO : Hid _ := hide hO
          by_cases hlt : k < n
          · have HZk : Hid (bs[k]? = some (bs.getD k [])) := hide (by rw [List.getD_eq_getElem?_getD]; simp [show k < bs.length by rw [HL.out]; exact hlt])
            have hzl : ((bs.getD k []).length : Int) ≤ 140737488351232 := HZ.out _ (List.mem_of_getElem? HZk.out)
            have hltI : (k : Int) < n := by omega
            generalize bs.getD k [] = z at HZk hzl
            clear hO
            go_wp2
            go_loopw [26] (fun q wr' => ∃ j : Nat, j ≤ z.length ∧ q = .int .i64 j ∧ Ovb W8 wr' w1.heap.size (.slice a2 n c2) bs vals) (fun q _ => z.length - (intOf q).toNat)
            case atStart => exact ⟨0, Nat.zero_le _, rfl, HO.out⟩
            case round =>
              clear HO
              obtain ⟨j, hj, rfl, hO⟩ := hrel
              have HO : Hid _ := hide hO
              obtain ⟨gg, ab, cb, rfl, hcb, hv, hc⟩ := hO.row HZk.out
              by_cases hlj : j < z.length
              · obtain ⟨g2, zz, rfl, hz0, hz1, hcz, hfz, hu⟩ := hO.at HZk.out hv hlj
                have HU2 : Hid _ := hide (hu (bits .xor .u8 zz 1) (xor1_bd hz0 hz1))
                have hljI : (j : Int) < z.length := by omega
                clear hO hu hv
                go_wp2
                go_region
                go_wp2
                exact ⟨⟨j + 1, by omega, by go_num, HU2.out.drew⟩, by simp [intOf]; omega⟩
              · have hljI : ¬ (j : Int) < z.length := by omega
                clear hO hv
                go_wp2
                exact ⟨⟨k + 1, by omega, by go_num, HO.out⟩, by simp [intOf]; omega⟩
          · have hltI : ¬ (k : Int) < n := by omega
            obtain ⟨cs, hLs, hlen⟩ := hO.ls
            have hcl : cs.length = n := by
              have := congrArg List.length hlen
              rw [List.length_map, List.length_map] at this
              rw [this]; exact HL.out
            have HZc : Hid (∀ z ∈ cs, (z.length : Int) ≤ 140737488351232) := hide (fun z hz => by
              obtain ⟨y, hy, e⟩ := lens_mem hlen hz
              rw [e]; exact HZ.out y hy)
            obtain ⟨⟨tv, tm, htab⟩, ⟨rv, hrt⟩, hBr, hTl, hUl⟩ := second_x HT.out HB18.out hO.but HVl.out
            have HLs : Hid _ := hide hLs
            have HCl : Hid (cs.length = n) := hcl
            have HRt : Hid _ := hide hrt
            have HBr : Hid (Below w.heap.size w wr) := hBr
            have HTl : Hid _ := hide hTl
            have HUl : Hid _ := hide hUl
            have HQa : Hid _ := hide (decode_any htab a2 n c2 cs lim (lists_lrow hLs hcl HZc.out) (by omega))
            clear hO hLs hlen hcl htab hrt hBr hTl hUl HO
            go_wp2_with fail
            refine HQa.out.mono ?_
            rintro e w10 ⟨hb10, hD10⟩
            obtain ⟨x2, f2, rfl⟩ := decE_form hD10
            have HD10 : Hid _ := hide hD10
            have HB10 : Hid (Below wr.heap.size wr w10) := hb10
            have HLs10 : Hid _ := hide (HLs.out.below hb10)
            have HQb : Hid _ := hide (twin_any a2 n c2 cs w10 (lists_lrow HLs10.out HCl.out HZc.out) HN.out HZc.out HLs10.out.u8 (by have := HLs10.out.caps; rwa [HCl.out] at this))
            clear hb10 hD10 HQa
            go_wp2_with fail
            refine HQb.out.mono ?_
            rintro e w11 ⟨a3, c3, vals3, rfl, hTw3, hb11⟩
            have HB11 : Hid (Below w10.heap.size w10 w11) := hb11
            have HQc : Hid _ := hide (rdecode_any ((HRt.out.below HB10.out).below hb11) a3 n c3 cs lim (lists_lrow hTw3.lists HCl.out HZc.out) (by omega))
            clear hTw3 hb11 HQb
            go_wp2_with fail
            refine HQc.out.mono ?_
            rintro e w12 ⟨hb12, hD12⟩
            obtain ⟨y2, f3, rfl⟩ := rdecE_form hD12
            obtain ⟨e12, N2, P2, hFg2⟩ := both_dec HD10.out hD12 HB10.out HB11.out hb12 HTl.out (fun k hk => by have := HUl.out k hk; have := HB10.out.size; have := HB11.out.size; omega)
            subst e12
            have HBe : Hid (Below w.heap.size w w12) := hide (((HBr.out.trans (HB10.out.mono HBr.out.size)).trans (HB11.out.mono (Nat.le_trans HBr.out.size HB10.out.size))).trans (hb12.mono (Nat.le_trans (Nat.le_trans HBr.out.size HB10.out.size) HB11.out.size)))
            have HQd : Hid _ := hide (fg_len hFg2).2.1
            have HQe : Hid _ := hide (fg_len hFg2).2.2
            have hxy2 := hFg2.form
            clear hb12 hD12 hFg2 HQc HD10
            rcases hxy2 with ⟨rfl, rfl⟩ | ⟨fb2, gb2, rfl, rfl⟩
            all_goals
              go_wp2_with fail
              refine HQd.out.mono ?_
              rintro e w13 ⟨rfl, hh⟩; rw [hh]; clear hh w13
              go_wp2_with fail
              refine HQe.out.mono ?_
              rintro e w13 ⟨rfl, hh⟩; rw [hh]; clear hh w13
              go_wp2
              go_ret
              exact ⟨rfl, HBe.out⟩
end Go.Proofs.Ytffakkdmojhjkaa
