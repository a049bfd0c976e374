/-
  StreamOwn: anew.
-/
import Derived.Test.YtdppbaipmmcjbaaDoorZoa
import Derived.BigRegion
namespace Go.Proofs.YtdppbaipmmcjbaaDoor
open Go.RowKit
theorem Lists.lrowM {w : World} {base : Nat} {a : Option Addr} {m c : Nat} {bs : List (List Int)} {vals : List Value} (h : Lists w base (.slice a m c) bs vals) (hm : bs.length = m) (hz : ∀ z ∈ bs, (z.length : Int) ≤ 1048576) : LRow w a m bs := by
  subst hm
  exact h.lrow (fun z hx => by have := hz z hx; omega)
set_option maxRecDepth 20000 in
set_option maxHeartbeats 6400000 in
theorem anew_any (a : Option Addr) (n c : Nat) (L : List Rc) (lim : Int) (w : World) (hK : Kn w) (hw : 0 < w.heap.size) (hr : RRow w a n L) (h0 : a = none → n = 0 ∧ c = 0) (hok : ∀ r ∈ L, r.ok) (hn : n * 40 ≤ 140737488351232)
    (ab : Option Addr) (m cb : Nat) (bs : List (List Int)) (hb : LRow w ab m bs) (hm : (m : Int) ≤ 1048577) (hz : ∀ z ∈ bs, (z.length : Int) ≤ 1048576) (hu : ∀ z ∈ bs, ∀ y ∈ z, 0 ≤ y ∧ y ≤ 255)
    (hcap : ∀ i, i < m → ∀ b off ai li ci, ab = some ⟨b, off, none⟩ → w.cell? ⟨b, off + i, none⟩ = some (.slice ai li ci) → ai = none → ci = 0) :
    Calls Tryd.prog 27 #[.slice a n c, .slice ab m cb, .int .i64 lim] w fun e w' => e = .returned (.bool true) ∧ Below w.heap.size w w' := by
  have HRo := roomy_any a n c L w hr h0 hn
  have HOK : Hid _ := hide hok
  have HN : Hid _ := hide hn
  have hnI : (n : Int) ≤ 9000000000000 := by omega
  have hLl := hr.len
  have HBd : Hid _ := hide hb
  have HZ : Hid _ := hide hz
  have HU : Hid _ := hide hu
  have HCP : Hid _ := hide hcap
  clear hr h0 hok hn hb hz hu hcap
  go_enter Tryd.func27, Tryd.ntmps27
  go_wp2_with fail
  refine HRo.mono ?_
  rintro e w1 ⟨g, cap, rfl, hcap, ho, hb1⟩
  rw [flat_append] at ho
  have ho1 := own_take5 ho (by rw [flat_len]; omega)
  have HO1 : Hid _ := hide ho1
  have B1 : Hid _ := hide hb1
  have hs1 := hb1.size
  have EN1 := enc_u (some ⟨g, 0, none⟩) n cap L lim w1 (hK.below hb1 hw) (by omega) (RRow.of_own ho1) HOK.out (by omega)
  clear ho ho1 hb1 HRo
  go_wp2_with fail
  refine EN1.mono ?_
  rintro e w2 ⟨hb2, ao, co, vals, rfl, -⟩
  have HO2 : Hid _ := hide (own_below HO1.out hb2)
  have B2 : Hid (Below w.heap.size w w2) := hide (B1.out.trans (hb2.mono hs1))
  clear EN1 hb2 HO1 B1
  have hcapI : (n : Int) ≤ (cap : Int) := by omega
  go_wp2_with fail
  go_loopw [8] (fun s8 wr => ∃ (k : Nat) (M : List Rc), s8 = .int .i64 k ∧ k ≤ n ∧ wr.ownsRow w.heap.size 48 5 (.slice (some ⟨g, 0, none⟩) n cap) n (flat M) ∧ M.length = n ∧ (∀ r ∈ M, r.ok) ∧ Below w.heap.size w wr) (fun s8 _ => n - (intOf s8).toNat)
  case atStart => exact ⟨0, L, rfl, Nat.zero_le _, HO2.out, hLl, HOK.out, B2.out⟩
  case round =>
    clear HO2 B2
    obtain ⟨k, M, rfl, hk, hoM, hMl, hMo, hbw⟩ := hrel
    have HOM : Hid _ := hide hoM
    have HML : Hid _ := hide hMl
    have HMO : Hid _ := hide hMo
    have HBW : Hid _ := hide hbw
    by_cases hlt : k < n
    · have hltI : (k : Int) < (n : Int) := by omega
      obtain ⟨r, hrk⟩ : ∃ r, M[k]? = some r := ⟨M[k]'(by omega), List.getElem?_eq_getElem _⟩
      have c2 : wr.cell? ⟨g, k * 5 + 2, none⟩ = some (.int .u64 r.obj) := by
        rw [hoM.cellAt (k * 5 + 2) (by omega), flat_get hrk (by omega)]; rfl
      have c3 : wr.cell? ⟨g, k * 5 + 3, none⟩ = some (.int .u64 r.arg) := by
        rw [hoM.cellAt (k * 5 + 3) (by omega), flat_get hrk (by omega)]; rfl
      have f2 := hoM.frozenAt (k * 5 + 2)
      have f3 := hoM.frozenAt (k * 5 + 3)
      have hge := (hoM.lt g rfl).1
      have HRK : Hid _ := hide hrk
      have hro := hMo r (List.mem_of_getElem? hrk)
      have HRO : Hid _ := hide hro
      clear hoM hMl hMo hbw hrk hro
      go_wp2
      have hx1 := own_obj HOM.out HRK.out (bits .xor .u64 r.obj 1)
      have hk2 : (M.set k { r with obj := bits .xor .u64 r.obj 1 })[k]? = some { r with obj := bits .xor .u64 r.obj 1 } := List.getElem?_set_self (by have := HML.out; omega)
      have hx2 := own_arg hx1 hk2 (bits .xor .u64 r.arg 1)
      refine ⟨⟨k + 1, _, by go_num, by omega, hx2, by rw [List.length_set, List.length_set]; exact HML.out, fun x hx => ?_, (HBW.out.setCell (p := ⟨g, k * 5 + 2, none⟩) hge _).setCell (p := ⟨g, k * 5 + 3, none⟩) hge _⟩, by simp [intOf]; omega⟩
      rcases List.mem_or_eq_of_mem_set hx with e | e
      · rcases List.mem_or_eq_of_mem_set e with e | e
        · exact HMO.out x e
        · subst e; exact ⟨(bits_u64 _ _).1, (bits_u64 _ _).2, HRO.out.a0, HRO.out.a1⟩
      · subst e; exact ⟨(bits_u64 _ _).1, (bits_u64 _ _).2, (bits_u64 _ _).1, (bits_u64 _ _).2⟩
    · have hltI : ¬ (k : Int) < (n : Int) := by omega
      have hsw := hbw.size
      have EN1 := enc_u (some ⟨g, 0, none⟩) n cap M lim wr (hK.below hbw hw) (by omega) (RRow.of_own hoM) hMo (by omega)
      obtain ⟨A, hA⟩ : ∃ A, A = (Ev lim M).1 := ⟨_, rfl⟩
      obtain ⟨E, hE⟩ : ∃ E, E = (Ev lim M).2 := ⟨_, rfl⟩
      rw [← hA, ← hE] at EN1
      have HAe : Hid _ := hide hA
      have HEe : Hid _ := hide hE
      clear hoM hMo hbw hMl hA hE
      go_wp2_with fail
      refine EN1.mono ?_
      rintro e w3 ⟨hb3, aa, ca, av, rfl, hB3, hx3, hl3⟩
      have HM3 : Hid _ := hide (own_below HOM.out hb3)
      have B3 : Hid (Below w.heap.size w w3) := hide (HBW.out.trans (hb3.mono hsw))
      have A3 : Hid _ := hide hB3
      have HX3 : Hid _ := hide hx3
      have hs3 := B3.out.size
      have HRo := roomy_any (some ⟨g, 0, none⟩) n cap M w3 (RRow.of_own HM3.out) (by intro e; cases e) HN.out
      clear EN1 hb3 hB3 hx3
      go_wp2_with fail
      refine HRo.mono ?_
      rintro e w4 ⟨g4, cap4, rfl, hcap4, ho4, hb4⟩
      rw [flat_append] at ho4
      have hs4 := hb4.size
      have ho5 := own_take5 ho4 (by rw [flat_len]; have := HML.out; omega)
      have EN1 := enc_u (some ⟨g4, 0, none⟩) n cap4 M lim w4 (hK.below (B3.out.trans (hb4.mono hs3)) hw) (by omega) (RRow.of_own ho5) HMO.out (by omega)
      rw [← HAe.out, ← HEe.out] at EN1
      have A4 : Hid _ := hide (A3.out.below hb4)
      have B4 : Hid (Below w.heap.size w w4) := hide (B3.out.trans (hb4.mono hs3))
      clear ho4 ho5 hb4 HRo A3 B3 HM3
      go_wp2_with fail
      refine EN1.mono ?_
      rintro e w5 ⟨hb5, a5, c5, v5, rfl, hB5, -⟩
      have A5 : Hid _ := hide (A4.out.below hb5)
      have Q5 : Hid _ := hide hB5
      have B5 : Hid (Below w.heap.size w w5) := hide (B4.out.trans (hb5.mono B4.out.size))
      have hs5 := B5.out.size
      have TW := twin_any ab m cb bs w5 (HBd.out.below B5.out) (by omega) (fun z hz => by have := HZ.out z hz; omega) HU.out (fun i hi b off ai li ci e1 e2 => by
        have hlt9 : b < w.heap.size := by
          rcases HBd.out.cells with h9 | ⟨b', off', e9, h9⟩
          · omega
          · rw [e1] at e9; cases e9
            obtain ⟨ai', ci', h8, _⟩ := h9 i (bs.getD i []) (by rw [List.getD_eq_getElem?_getD]; simp [show i < bs.length by have := HBd.out.len; omega])
            exact World.block_lt_of_cell? w _ h8
        exact HCP.out i hi b off ai li ci e1 ((B5.out.cell (p := ⟨b, off + i, none⟩) hlt9).symm.trans e2))
      clear EN1 hb5 hB5 A4 B4 HAe HEe
      go_wp2_with fail
      refine TW.mono ?_
      rintro e w6 ⟨ax, cx, xv, rfl, hT6, hb6⟩
      have T6 : Hid (Lists w6 w5.heap.size (.slice ax m cx) bs xv) := hide hT6.lists
      have S6 : Hid (Below w5.heap.size w5 w6) := hide hb6
      have hlen := HBd.out.len
      have hs6 := hb6.size
      have DC := dec_u ax m cx bs lim w6 (hK.below (B5.out.trans (hb6.mono hs5)) hw) (by omega) (by have h9 := T6.out; rw [← hlen] at h9 ⊢; exact h9.lrow (fun z hz => by have := HZ.out z hz; omega)) (by omega)
      clear TW hT6 hb6
      go_wp2_with fail
      refine DC.mono ?_
      rintro e w7 ⟨hb7, a7, c7, rfl, -⟩
      have T7 : Hid _ := hide (T6.out.below hb7)
      have S7 : Hid (Below w5.heap.size w5 w7) := hide (S6.out.trans (hb7.mono hs6))
      have HLen : Hid (bs.length = m) := hide hlen
      clear DC hb7 T6 S6 hlen
      go_wp2_with fail
      go_loopw [14, 15] (fun s14 _ wr => ∃ (i : Nat) (cs : List (List Int)), s14 = .int .i64 i ∧ i ≤ m ∧ Lists wr w5.heap.size (.slice ax m cx) cs xv ∧ cs.length = m ∧ (∀ z ∈ cs, (z.length : Int) ≤ 1048576) ∧ Below w5.heap.size w5 wr) (fun s14 _ _ => m - (intOf s14).toNat)
      case atStart => exact ⟨0, bs, rfl, Nat.zero_le _, T7.out, HLen.out, HZ.out, S7.out⟩
      case round =>
        clear T7 S7
        obtain ⟨i, cs, rfl, hi, hT, hcl, hcz, hSb⟩ := hrel
        rename World => W8
        have HT : Hid _ := hide hT
        have HCL : Hid _ := hide hcl
        have HCZ : Hid _ := hide hcz
        have HSB : Hid _ := hide hSb
        have hs8 := hSb.size
        clear hT hcl hcz hSb
        by_cases hli : i < m
        · have hliI : (i : Int) < (m : Int) := by omega
          have hgi : cs[i]? = some (cs.getD i []) := by have := HCL.out; rw [List.getD_eq_getElem?_getD]; simp [show i < cs.length by omega]
          have hzl : ((cs.getD i []).length : Int) ≤ 1048576 := HCZ.out _ (List.mem_of_getElem? hgi)
          generalize cs.getD i [] = z at hgi hzl
          obtain ⟨G, ai, ci, hG, hvi, hci, hoi⟩ := HT.out.cellAt hgi
          subst hG
          have CH := chunk_u ai z.length ci z W8 (hK.below (B5.out.trans (HSB.out.mono hs5)) hw) (by omega) (own_row_u8 hoi (u8_of_mem (HT.out.u8 z (List.mem_of_getElem? hgi)))) (by omega)
          have HGI : Hid _ := hide hgi
          clear hgi hvi hoi
          go_wp2_with fail
          refine CH.mono ?_
          rintro e w9 ⟨hb9, a9, c9, rfl, -⟩
          have T9 : Hid _ := hide (HT.out.below hb9)
          have S9 : Hid (Below w5.heap.size w5 w9) := hide (HSB.out.trans (hb9.mono hs8))
          clear CH hb9 hci
          go_wp2_with fail
          go_loopw [15] (fun s15 wr => ∃ (q : Nat) (cs : List (List Int)) (y : List Int), s15 = .int .i64 q ∧ q ≤ z.length ∧ Lists wr w5.heap.size (.slice (some ⟨G, 0, none⟩) m cx) cs xv ∧ cs.length = m ∧ (∀ z ∈ cs, (z.length : Int) ≤ 1048576) ∧ cs[i]? = some y ∧ y.length = z.length ∧ Below w5.heap.size w5 wr) (fun s15 _ => z.length - (intOf s15).toNat)
          case atStart => exact ⟨0, cs, z, rfl, Nat.zero_le _, T9.out, HCL.out, HCZ.out, HGI.out, rfl, S9.out⟩
          case round =>
            clear T9 S9 HT HCL HCZ HSB HGI
            obtain ⟨q, cs, y, rfl, hq, hT, hcl, hcz, hcy, hyl, hSb⟩ := hrel
            have HT : Hid _ := hide hT
            have HCL : Hid _ := hide hcl
            have HCZ : Hid _ := hide hcz
            have HSB : Hid _ := hide hSb
            have HCY : Hid _ := hide hcy
            have HYL : Hid _ := hide hyl
            obtain ⟨G', ai, ci, hG', hvk, hck, ho⟩ := hT.cellAt hcy
            cases hG'
            have HVK : Hid _ := hide hvk
            rw [hyl] at hck
            clear hT hcl hcz hSb hcy hvk
            by_cases hlq : q < z.length
            · obtain ⟨gq, rfl⟩ := own_someL ho (by omega)
              have hcz : wr.cell? ⟨gq, q, none⟩ = some (.int .u8 (y.getD q 0)) := by rw [ho.cellAt q (by omega)]; simp [hyl, hlq]
              have hfz := ho.frozenAt q
              have hgb := (ho.lt gq rfl).1
              generalize y.getD q 0 = zz at hcz
              have HU2 : Hid _ := hide (HT.out.store (k := q) HCY.out HVK.out (bits .xor .u8 zz 1) (bits_u8 _ _))
              have hlqI : (q : Int) < (z.length : Int) := by omega
              clear ho hyl
              go_wp2
              go_region
              go_wp2
              refine ⟨⟨q + 1, _, y.set q (bits .xor .u8 zz 1), by go_num, by omega, HU2.out.below (below_drewN (Below.refl _ _) 1), by rw [List.length_set]; exact HCL.out, fun x hx => ?_, List.getElem?_set_self ((List.getElem?_eq_some_iff.1 HCY.out).1), by rw [List.length_set]; exact HYL.out, below_drewN (HSB.out.setCell (p := ⟨gq, q, none⟩) hgb _) 1⟩, by simp [intOf]; omega⟩
              rcases List.mem_or_eq_of_mem_set hx with e | e
              · exact HCZ.out x e
              · subst e; rw [List.length_set]; exact HCZ.out y (List.mem_of_getElem? HCY.out)
            · have hlqI : ¬ (q : Int) < (z.length : Int) := by omega
              clear ho hyl
              go_wp2
              exact ⟨⟨i + 1, cs, by go_num, by omega, HT.out, HCL.out, HCZ.out, HSB.out⟩, by simp [intOf]; omega⟩
        · have hliI : ¬ (i : Int) < (m : Int) := by omega
          have TW := twin_any ax m cx cs W8 (HT.out.lrowM HCL.out HCZ.out) (by omega) (fun z hz => by have := HCZ.out z hz; omega) HT.out.u8 (fun i hi => HT.out.caps i (by have := HCL.out; omega))
          go_wp2_with fail
          refine TW.mono ?_
          rintro e w9 ⟨ay, cy, yv, rfl, hT9, hb9⟩
          have Y9 : Hid (Lists w9 W8.heap.size (.slice ay m cy) cs yv) := hide hT9.lists
          have X9 : Hid _ := hide (HT.out.below hb9)
          have S9 : Hid (Below w5.heap.size w5 w9) := hide (HSB.out.trans (hb9.mono hs8))
          have hs9 := S9.out.size
          have DC := dec_u ax m cx cs lim w9 (hK.below (B5.out.trans (S9.out.mono hs5)) hw) (by omega) (X9.out.lrowM HCL.out HCZ.out) (by omega)
          obtain ⟨D, hD⟩ : ∃ D, D = (Dv lim cs).1 := ⟨_, rfl⟩
          obtain ⟨F, hF⟩ : ∃ F, F = (Dv lim cs).2 := ⟨_, rfl⟩
          have hDl : (D.length : Int) ≤ 1048576 := by rw [hD]; exact Dv_len (fun z hz => u8_of_mem (HT.out.u8 z hz))
          rw [← hD, ← hF] at DC
          have HDe : Hid _ := hide hD
          have HFe : Hid _ := hide hF
          clear TW hT9 hb9 HT hD hF
          go_wp2_with fail
          refine DC.mono ?_
          rintro e w10 ⟨hb10, al, cl, rfl, hrl⟩
          have L10 : Hid _ := hide hrl
          have Y10 : Hid _ := hide (Y9.out.below hb10)
          have X10 : Hid _ := hide (X9.out.below hb10)
          have S10 : Hid (Below w5.heap.size w5 w10) := hide (S9.out.trans (hb10.mono hs9))
          have hs10 := S10.out.size
          have DC2 := dec_u ay m cy cs lim w10 (hK.below (B5.out.trans (S10.out.mono hs5)) hw) (by omega) (Y10.out.lrowM HCL.out HCZ.out) (by omega)
          rw [← HDe.out, ← HFe.out] at DC2
          clear DC hb10 hrl Y9 X9 S9 HDe HFe
          go_wp2_with fail
          refine DC2.mono ?_
          rintro e w11 ⟨hb11, am, cm, rfl, hrm⟩
          have L11 : Hid _ := hide (L10.out.below hb11)
          have M11 : Hid _ := hide hrm
          have Y11 : Hid _ := hide (Y10.out.below hb11)
          have X11 : Hid _ := hide (X10.out.below hb11)
          have S11 : Hid (Below w5.heap.size w5 w11) := hide (S10.out.trans (hb11.mono hs10))
          have hs11 := S11.out.size
          have SA := sl_any aa a5 A.length ca A.length c5 A A w11 ((A5.out.below S11.out).lrow rfl (fun z hz => by have := HX3.out z hz; omega)) ((Q5.out.below S11.out).lrow rfl (fun z hz => by have := HX3.out z hz; omega)) (by omega)
          simp only [decide_true] at SA
          clear DC2 hb11 hrm L10 Y10 X10 S10 A5 Q5
          go_wp2_with fail
          refine SA.mono ?_
          rintro e w12 ⟨rfl, p12, hw12⟩
          have hb12 : Below w11.heap.size w11 w12 := by rw [hw12]; exact below_drewN (Below.refl _ _) p12
          have SM := rsame_eq al am D.length cl cm D w12 (L11.out.below hb12) (M11.out.below hb12) (by omega)
          have Y12 : Hid _ := hide (Y11.out.below hb12)
          have X12 : Hid _ := hide (X11.out.below hb12)
          have S12 : Hid (Below w5.heap.size w5 w12) := hide (S11.out.trans (hb12.mono hs11))
          clear SA hw12 hb12 L11 M11 Y11 X11 S11
          go_wp2_with fail
          refine SM.mono ?_
          rintro e w13 ⟨rfl, p13, hw13⟩
          have hb13 : Below w12.heap.size w12 w13 := by rw [hw13]; exact below_drewN (Below.refl _ _) p13
          have Y13 : Hid _ := hide (Y12.out.below hb13)
          have X13 : Hid _ := hide (X12.out.below hb13)
          have S13 : Hid (Below w5.heap.size w5 w13) := hide (S12.out.trans (hb13.mono S12.out.size))
          have hs13 := S13.out.size
          clear SM hw13 hb13 Y12 X12 S12
          go_wp2_with fail
          go_loopw [21] (fun s21 wr => ∃ j : Nat, s21 = .int .i64 j ∧ j ≤ m ∧ Below w13.heap.size w13 wr) (fun s21 _ => m - (intOf s21).toNat)
          case atStart => exact ⟨0, rfl, Nat.zero_le _, Below.refl _ _⟩
          case round =>
            obtain ⟨j, rfl, hj, hbj⟩ := hrel
            rename World => W14
            have HBJ : Hid _ := hide hbj
            have hs14 := hbj.size
            by_cases hlj : j < m
            · have hljI : (j : Int) < (m : Int) := by omega
              have hgj : cs[j]? = some (cs.getD j []) := by have := HCL.out; rw [List.getD_eq_getElem?_getD]; simp [show j < cs.length by omega]
              have hzl : ((cs.getD j []).length : Int) ≤ 1048576 := HCZ.out _ (List.mem_of_getElem? hgj)
              generalize cs.getD j [] = z at hgj hzl
              have hu8 := u8_of_mem (X13.out.u8 z (List.mem_of_getElem? hgj))
              obtain ⟨Gx, bx, dx, e1, _, hcx, hox⟩ := (X13.out.below hbj).cellAt hgj
              obtain ⟨Gy, by_, dy, e2, _, hcy, hoy⟩ := (Y13.out.below hbj).cellAt hgj
              subst e1 e2
              have CH := chunk_u bx z.length dx z W14 (hK.below (B5.out.trans ((S13.out.trans (hbj.mono hs13)).mono hs5)) hw) (by omega) (own_row_u8 hox hu8) (by omega)
              have HC2 : Hid (∀ X, Below W14.heap.size W14 X → X.cell? ⟨Gy, j, none⟩ = some (.slice by_ z.length dy) ∧ Calls Tryd.prog 19 #[.slice by_ z.length dy] X fun e w' => Below X.heap.size X w' ∧ ∃ av cv, e = .returned (.tuple #[.slice av (chunkV z).1.length cv, .int .i64 (chunkV z).2]) ∧ RRow w' av (chunkV z).1.length (chunkV z).1) := hide (fun X hX => ⟨(hX.cell (p := ⟨Gy, j, none⟩) (World.block_lt_of_cell? W14 _ hcy)).trans hcy, chunk_u by_ z.length dy z X (hK.below (B5.out.trans ((S13.out.trans ((hbj.trans (hX.mono hs14)).mono hs13)).mono hs5)) hw) (by have := hX.size; omega) (own_row_u8 (own_below hoy hX) hu8) (by omega)⟩)
              have hPl := chunk_len (zs := z) hu8
              obtain ⟨P, hP⟩ : ∃ P, P = (chunkV z).1 := ⟨_, rfl⟩
              obtain ⟨J, hJ⟩ : ∃ J, J = (chunkV z).2 := ⟨_, rfl⟩
              rw [← hP, ← hJ] at CH HC2
              rw [← hP] at hPl
              clear hgj hox hoy hbj hu8 hP hJ hcy
              go_wp2_with fail
              refine CH.mono ?_
              rintro e w15 ⟨hb15, ap, cp, rfl, hrp⟩
              obtain ⟨hc15, CH2⟩ := HC2.out w15 hb15
              have P15 : Hid _ := hide hrp
              have B15 : Hid _ := hide hb15
              clear CH hcx hrp hb15
              go_wp2_with fail
              refine CH2.mono ?_
              rintro e w16 ⟨hb16, aq, cq, rfl, hrq⟩
              have B16 : Hid (Below W14.heap.size W14 w16) := hide (B15.out.trans (hb16.mono B15.out.size))
              have SM := rsame_eq ap aq P.length cp cq P w16 (P15.out.below hb16) hrq (by omega)
              clear CH2 hc15 hb16 hrq
              go_wp2_with fail
              refine SM.mono ?_
              rintro e w17 ⟨rfl, p17, hw17⟩
              have B17 : Hid (Below W14.heap.size W14 w17) := hide (B16.out.trans (by rw [hw17]; exact below_drewN (Below.refl _ _) p17))
              clear SM hw17
              go_wp2
              exact ⟨⟨j + 1, by go_num, by omega, HBJ.out.trans (B17.out.mono hs14)⟩, by simp [intOf]; omega⟩
            · have hljI : ¬ (j : Int) < (m : Int) := by omega
              go_wp2
              go_ret
              exact ⟨rfl, B5.out.trans ((S13.out.trans (HBJ.out.mono hs13)).mono hs5)⟩
end Go.Proofs.YtdppbaipmmcjbaaDoor
