/-
  StreamOwn: the walk.
-/
import Derived.Test.YtdppbaipmmcjbaaDoorSOj
namespace Go.Proofs.YtdppbaipmmcjbaaDoor
open Go.RowKit
set_option maxRecDepth 20000 in
set_option maxHeartbeats 12800000 in
theorem sown_any (a : Option Addr) (n c : Nat) (L : List Rc) (lim : Int) (w : World) (hK : Kn w) (hw : 0 < w.heap.size) (hr : RRow w a n L) (h0 : a = none → n = 0 ∧ c = 0) (hok : ∀ r ∈ L, r.ok) (hn : n * 40 ≤ 140737488351232) :
    Calls Tryd.prog 7 #[.slice a n c, .int .i64 lim] w fun e w' => e = .returned (.bool true) ∧ Below w.heap.size w w' := by
  have HR : Hid _ := hide hr
  have H0 : Hid _ := hide h0
  have HOK : Hid _ := hide hok
  have HN : Hid _ := hide hn
  have hnI : (n : Int) ≤ 9000000000000 := by omega
  have AW := awake_any w hK hw
  obtain ⟨A, hA⟩ : ∃ A, A = (Ev lim L).1 := ⟨_, rfl⟩
  obtain ⟨E, hE⟩ : ∃ E, E = (Ev lim L).2 := ⟨_, rfl⟩
  obtain ⟨D, hD⟩ : ∃ D, D = (Dv lim A).1 := ⟨_, rfl⟩
  obtain ⟨F, hF⟩ : ∃ F, F = (Dv lim A).2 := ⟨_, rfl⟩
  have HDL : Hid (E = 0 → D = L) := hide (fun h => by rw [hD, hA]; exact ev_dv hok (by rw [← hE]; exact h))
  have HEN : Hid (∀ X, Below w.heap.size w X → Calls Tryd.prog 10 #[.slice a n c, .int .i64 lim] X fun e w' => Below X.heap.size X w' ∧ ∃ ao co vals, e = .returned (.tuple #[.slice ao A.length co, .int .i64 E]) ∧ Bods w' X.heap.size (.slice ao A.length co) A vals ∧ (∀ x ∈ A, (x.length : Int) ≤ 1048576) ∧ A.length ≤ 1048577) := hide (fun X hX => by
    rw [hA, hE]; exact enc_u a n c L lim X (hK.below hX hw) (by have := hX.size; omega) (hr.below hX) hok (by omega))
  have HDC : Hid (∀ X ad cd, Below w.heap.size w X → LRow X ad A.length A → (A.length : Int) ≤ 1048577 → Calls Tryd.prog 15 #[.slice ad A.length cd, .int .i64 lim] X fun e w' => Below X.heap.size X w' ∧ ∃ av cv, e = .returned (.tuple #[.slice av D.length cv, .int .i64 F]) ∧ w'.ownsRow X.heap.size 48 5 (.slice av D.length cv) D.length (flat D)) := hide (fun X ad cd hX hl hm => by
    rw [hD, hF]; exact dec_o ad A.length cd A lim X (hK.below hX hw) (by have := hX.size; omega) hl (by omega))
  have HDm : Hid ((∀ z ∈ A, ∀ y ∈ z, 0 ≤ y ∧ y ≤ 255) → (D.length : Int) ≤ 1048576) := hide (fun hu => by rw [hD]; exact Dv_len (fun z hz => u8_of_mem (hu z hz)))
  clear hr h0 hok hn hA hE hD hF
  go_enter Tryd.func7, Tryd.ntmps7
  go_wp2_with fail
  refine AW.mono ?_
  rintro e w1 ⟨rfl, hb1⟩
  have B1 : Hid _ := hide hb1
  have EN := HEN.out w1 hb1
  have hs1 := hb1.size
  clear AW hb1
  go_wp2_with fail
  refine EN.mono ?_
  rintro e w2 ⟨hb2, aa, ca, av, rfl, hA2, hx2, hl2⟩
  have A2 : Hid _ := hide hA2
  have HAB : Hid (∀ x ∈ av, ∀ k, x.ownBlock = some k → w1.heap.size ≤ k ∧ k < w2.heap.size) := hide hA2.pts.blocks
  have HAT : Hid (∀ k, (Value.slice aa A.length ca).ownBlock = some k → w1.heap.size ≤ k ∧ k < w2.heap.size) := hide (fun k hk => hA2.own.lt k hk)
  have HX : Hid _ := hide hx2
  have hAl : (A.length : Int) ≤ 1048577 := by omega
  have B2 : Hid (Below w.heap.size w w2) := hide (B1.out.trans (hb2.mono hs1))
  have hs2 := hb2.size
  have EN := HEN.out w2 B2.out
  have HXw : Hid (∀ z ∈ A, (z.length : Int) ≤ 140737488355328) := hide (fun z hz => by have := hx2 z hz; omega)
  clear hA2 hx2 hl2 hb2 B1
  go_wp2_with fail
  refine EN.mono ?_
  rintro e w3 ⟨hb3, ab, cb, bv, rfl, hQ3, -⟩
  have A3 : Hid (Bods w3 w1.heap.size (.slice aa A.length ca) A av) := hide (A2.out.below hb3)
  have Q3 : Hid (Bods w3 w2.heap.size (.slice ab A.length cb) A bv) := hide hQ3
  have HQB : Hid (∀ x ∈ bv, ∀ k, x.ownBlock = some k → w2.heap.size ≤ k ∧ k < w3.heap.size) := hide hQ3.pts.blocks
  have B3 : Hid (Below w.heap.size w w3) := hide (B2.out.trans (hb3.mono B2.out.size))
  have hs3 := hb3.size
  have DC := HDC.out w3 aa ca B3.out (A3.out.lrow rfl HXw.out) hAl
  have hDm := HDm.out A3.out.u8
  clear EN hb3 hQ3 A2 B2
  go_wp2_with fail
  refine DC.mono ?_
  rintro e w4 ⟨hb4, al, cl, rfl, ol⟩
  have A4 : Hid (Bods w4 w1.heap.size (.slice aa A.length ca) A av) := hide (A3.out.below hb4)
  have Q4 : Hid (Bods w4 w2.heap.size (.slice ab A.length cb) A bv) := hide (Q3.out.below hb4)
  have L4 : Hid _ := hide ol
  have B4 : Hid (Below w.heap.size w w4) := hide (B3.out.trans (hb4.mono B3.out.size))
  have hs4 := hb4.size
  have SA := sl_any aa ab A.length ca A.length cb A A w4 (A4.out.lrow rfl HXw.out) (Q4.out.lrow rfl HXw.out) (by omega)
  simp only [decide_true] at SA
  clear DC hb4 ol A3 Q3 B3
  go_wp2_with fail
  refine SA.mono ?_
  rintro e w5 ⟨rfl, p5, hw5⟩
  have hb5 : Below w4.heap.size w4 w5 := by rw [hw5]; exact below_drewN (Below.refl _ _) p5
  have A5 : Hid (Bods w5 w1.heap.size (.slice aa A.length ca) A av) := hide (A4.out.below hb5)
  have Q5 : Hid (Bods w5 w2.heap.size (.slice ab A.length cb) A bv) := hide (Q4.out.below hb5)
  have L5 : Hid (w5.ownsRow w3.heap.size 48 5 (.slice al D.length cl) D.length (flat D)) := hide (own_below L4.out hb5)
  have B5 : Hid (Below w.heap.size w w5) := hide (B4.out.trans (hb5.mono B4.out.size))
  have hs5 := hb5.size
  have HLB : Hid (∀ k, (Value.slice al D.length cl).ownBlock = some k → w3.heap.size ≤ k ∧ k < w4.heap.size) := hide (fun k hk => L4.out.lt k hk)
  clear SA hw5 hb5 A4 Q4 L4 B4
  have WR := written_any a n c L lim w5 (hK.below B5.out hw) (by omega) (HR.out.below B5.out) HOK.out HN.out
  go_wp2_with fail
  refine WR.mono ?_
  rintro e w6 ⟨hb6, ap, cp, ps, pv, rfl, hP6, hps, hpl⟩
  have P6 : Hid _ := hide hP6
  have HPS : Hid _ := hide hps
  have hs6 := hb6.size
  have HPL : Hid _ := hide hpl
  have S6 : Hid _ := hide hb6
  have WR2 := written_any a n c L lim w6 (hK.below (B5.out.trans (hb6.mono B5.out.size)) hw) (by omega) (HR.out.below (B5.out.trans (hb6.mono B5.out.size))) HOK.out HN.out
  clear WR hP6 hps hpl hb6
  go_wp2_with fail
  refine WR2.mono ?_
  rintro e w7 ⟨hb7, ao, co, os, ov, rfl, hO7, hos, hol⟩
  have J7 : Hid (JP w5 w7 w6.heap.size ap cp ps pv ao co os ov) := hide ⟨P6.out.below hb7, hO7, fun g h1 h2 => by have := (P6.out.own.lt g h1).2; have := (hO7.own.lt g h2).1; omega, S6.out.trans (hb7.mono hs6), hs6⟩
  have HOS : Hid _ := hide hos
  have HOL : Hid _ := hide hol
  have HPB : Hid (∀ x ∈ pv, ∀ g, x.ownBlock = some g → g < w6.heap.size) := hide (fun x hx g hg => (P6.out.blocks x hx g hg).2)
  have holI : (os.length : Int) ≤ 9000000000000 := by have := HN.out; omega
  clear WR2 hb7 hO7 hos hol P6
  go_wp2_with fail
  go_loopw [12, 14] (fun s12 s14 wr => ∃ (k : Nat) (a2 : Option Addr) (c2 : Nat) (qs : List (List Int)) (qv : List Value), s14 = .int .i64 k ∧ k ≤ os.length ∧ s12 = .slice a2 qs.length c2 ∧ qs = ps ++ os.take k ∧ qv = pv ++ ov.take k ∧ JP w5 wr w6.heap.size a2 c2 qs qv ao co os ov) (fun _ s14 _ => os.length - (intOf s14).toNat)
  case atStart => exact ⟨0, ap, cp, ps, pv, rfl, Nat.zero_le _, rfl, by simp, by simp, J7.out⟩
  case round =>
    clear J7
    obtain ⟨k, a2, c2, qs, qv, rfl, hk, rfl, hqs, hqv, hJ⟩ := hrel
    have HJ : Hid _ := hide hJ
    have HQS : Hid _ := hide hqs
    have HQV : Hid _ := hide hqv
    by_cases hlt : k < os.length
    · have hltI : (k : Int) < (os.length : Int) := by omega
      have hgk : os[k]? = some (os.getD k []) := by rw [List.getD_eq_getElem?_getD]; simp [hlt]
      generalize os.getD k [] = z at hgk
      obtain ⟨G, ai, cap, hG, hvk, hck, ho, hrow, _⟩ := hJ.o.at hgk
      subst hG
      have HGK : Hid _ := hide hgk
      have HVK : Hid _ := hide hvk
      have hsz := hJ.bel.size
      have HQL : Hid (qs.length = ps.length + k) := hide (by rw [hqs, List.length_append, List.length_take]; omega)
      have HDS : Hid (∀ x ∈ qv, ∀ g, x.ownBlock = some g → (Value.slice ai z.length z.length).ownBlock ≠ some g) := hide (fun x hx g hg e => by
        rw [hqv] at hx
        rcases List.mem_append.1 hx with hx | hx
        · have := HPB.out x hx g hg
          have := (hJ.o.blocks _ (List.mem_of_getElem? hvk) g e).1
          omega
        · obtain ⟨j, hj⟩ := List.mem_iff_getElem?.1 hx
          have hjk : j < k := by have := (List.getElem?_eq_some_iff.1 hj).1; rw [List.length_take] at this; omega
          rw [List.getElem?_take_of_lt hjk] at hj
          have hj1 := (List.getElem?_eq_some_iff.1 hj).1
          have hk1 := (List.getElem?_eq_some_iff.1 hvk).1
          have := List.pairwise_iff_getElem.1 hJ.o.apart j k hj1 hk1 hjk g (by rw [(List.getElem?_eq_some_iff.1 hj).2]; exact hg)
          exact this (by rw [(List.getElem?_eq_some_iff.1 hvk).2]; exact e))
      clear hJ hqs hqv hgk hvk ho hrow
      go_wp2_with (at_builtin; refine append_lstL _ rfl _ _ rfl w5.heap.size (.slice a2 qs.length c2) qs.length qv rfl (HJ.out.p.own.alloc _) ⟨wr.heap.size, 0, none⟩ 1 1 [.slice ai z.length z.length] rfl rfl (cell_news1 _ _ _) (by intro u hu; simp at hu; subst hu; rfl) (by omega) (by have h1 := HQL.out; have h2 := HN.out; have h3 := HPL.out; have h4 := HOL.out; omega) (by simp; omega) ?_; intro a3 c3 w8 o8 g8 l8)
      have hX := HJ.out.next HGK.out HVK.out HDS.out o8 g8 l8
      refine ⟨⟨k + 1, a3, c3, qs ++ [z], qv ++ [.slice ai z.length z.length], by go_num, by omega, by simp, ?_, ?_, hX⟩, by simp [intOf]; omega⟩
      · rw [HQS.out, List.take_add_one, HGK.out, List.append_assoc]; rfl
      · rw [HQV.out, List.take_add_one, HVK.out, List.append_assoc]; rfl
    · have hltI : ¬ (k : Int) < (os.length : Int) := by omega
      have hke : k = os.length := by omega
      have hsz := hJ.bel.size
      have hql : qs.length = ps.length + os.length := by rw [hqs, hke, List.take_length, List.length_append]
      have BA := bapart_any a2 c2 w5.heap.size qs qv wr hJ.p (fun b hb => by
        rw [hqs, hke, List.take_length] at hb
        rcases List.mem_append.1 hb with h | h
        · exact HPS.out b h
        · exact HOS.out b h) (by have h2 := HN.out; have h3 := HPL.out; have h4 := HOL.out; omega)
      clear hJ hqs hqv hql hke HQS HQV
      go_wp2_with fail
      refine BA.mono ?_
      rintro e w8 ⟨rfl, hb8⟩
      have S8 : Hid (Below w5.heap.size w5 w8) := hide (HJ.out.bel.trans (hb8.below hsz (fun k hk => by obtain ⟨x, hx, hg⟩ := hk; exact (HJ.out.p.blocks x hx k hg).1)))
      have A8 : Hid _ := hide (A5.out.below S8.out)
      have Q8 : Hid _ := hide (Q5.out.below S8.out)
      have L8 : Hid _ := hide (own_below L5.out S8.out)
      have B8 : Hid (Below w.heap.size w w8) := hide (B5.out.trans (S8.out.mono B5.out.size))
      have hs8 := S8.out.size
      have HCA : Hid (∀ X, Bods X w1.heap.size (.slice aa A.length ca) A av → ∀ i, i < A.length → ∀ b off ai li ci, aa = some ⟨b, off, none⟩ → X.cell? ⟨b, off + i, none⟩ = some (.slice ai li ci) → ai = none → ci = 0) := hide (fun X hX i hi b off ai li ci e1 e2 e3 => by
        obtain ⟨G, a9, cap, q1, _, q2, _, _, q3⟩ := hX.pts.at (i := i) (z := A[i]) (List.getElem?_eq_getElem hi)
        rw [q1] at e1
        cases e1
        rw [Nat.zero_add, q2] at e2
        cases e2
        exact q3 e3)
      have AN := anew_any a n c L lim w8 (hK.below B8.out hw) (by omega) (HR.out.below B8.out) H0.out HOK.out HN.out aa A.length ca A (A8.out.lrow rfl HXw.out) hAl HX.out A8.out.u8 (HCA.out w8 A8.out)
      clear BA hb8 HJ S8 A5 Q5 L5 B5
      go_wp2_with fail
      refine AN.mono ?_
      rintro e w9 ⟨rfl, hb9⟩
      have A9 : Hid _ := hide (A8.out.below hb9)
      have Q9 : Hid _ := hide (Q8.out.below hb9)
      have L9 : Hid _ := hide (own_below L8.out hb9)
      have B9 : Hid (Below w.heap.size w w9) := hide (B8.out.trans (hb9.mono B8.out.size))
      have hs9 := hb9.size
      have CK := chunks_any aa A.length ca A w9 (hK.below B9.out hw) (by omega) (A9.out.lrow rfl HXw.out) (by omega) HX.out
      clear AN hb9 A8 Q8 L8 B8
      go_wp2_with fail
      refine CK.mono ?_
      rintro e w10 ⟨rfl, hb10⟩
      have A10 : Hid _ := hide (A9.out.below hb10)
      have Q10 : Hid _ := hide (Q9.out.below hb10)
      have L10 : Hid _ := hide (own_below L9.out hb10)
      have B10 : Hid (Below w.heap.size w w10) := hide (B9.out.trans (hb10.mono B9.out.size))
      have hs10 := hb10.size
      have TW := twin_any aa A.length ca A w10 (A10.out.lrow rfl HXw.out) (by omega) (fun z hz => by have := HX.out z hz; omega) A10.out.u8 (HCA.out w10 A10.out)
      clear CK hb10 A9 Q9 L9 B9 HCA
      go_wp2_with fail
      refine TW.mono ?_
      rintro e w11 ⟨aw, cw, wv, rfl, hT11, hb11⟩
      have T11 : Hid (Lists w11 w10.heap.size (.slice aw A.length cw) A wv) := hide hT11.lists
      have A11 : Hid (Bods w11 w1.heap.size (.slice aa A.length ca) A av) := hide (A10.out.below hb11)
      have Q11 : Hid (Bods w11 w2.heap.size (.slice ab A.length cb) A bv) := hide (Q10.out.below hb11)
      have L11 : Hid (w11.ownsRow w3.heap.size 48 5 (.slice al D.length cl) D.length (flat D)) := hide (own_below L10.out hb11)
      have B11 : Hid (Below w.heap.size w w11) := hide (B10.out.trans (hb11.mono B10.out.size))
      have hs11 := hb11.size
      clear TW hT11 hb11 A10 Q10 L10 B10
      go_wp2_with fail
      go_loopw [19] (fun s19 wr => ∃ i : Nat, s19 = .int .i64 i ∧ i ≤ A.length ∧ But (fun k => ∃ x ∈ bv, x.ownBlock = some k) w11 wr ∧ ∀ r, i ≤ r → SpA wr A bv r) (fun s19 _ => A.length - (intOf s19).toNat)
      case atStart => exact ⟨0, rfl, Nat.zero_le _, But.refl _ _, fun r _ => Q11.out.spa r⟩
      case round =>
        obtain ⟨i, rfl, hi, hbt, hsp⟩ := hrel
        have HBT : Hid _ := hide hbt
        have HSP : Hid _ := hide hsp
        by_cases hli : i < A.length
        · have hliI : (i : Int) < (A.length : Int) := by omega
          have hgi : A[i]? = some (A.getD i []) := by rw [List.getD_eq_getElem?_getD]; simp [hli]
          have hzl : ((A.getD i []).length : Int) ≤ 1048576 := HX.out _ (List.mem_of_getElem? hgi)
          generalize A.getD i [] = z at hgi hzl
          obtain ⟨G, ai, cap, hG, hvi, hci, ho, _, _⟩ := Q11.out.pts.at hgi
          obtain ⟨g, cs, h1, h2, h3, h4⟩ := hsp i (Nat.le_refl _) z hgi
          rw [hvi] at h1
          cases h1
          have hGt : ¬ ∃ x ∈ bv, x.ownBlock = some G := fun ⟨x, hx, hxg⟩ => by
            obtain ⟨b, _, a9, c9, rfl, h9⟩ := Q11.out.pts.row hx
            exact own_types h9 Q11.out.own (by decide) G (by rw [ownBlock_cap _ _ _ b.length]; exact hxg) (by rw [hG]; rfl)
          have hcw : wr.cell? ⟨G, i, none⟩ = some (.slice (some ⟨g, 0, none⟩) z.length z.length) := cell_block hci (hbt.block G (World.block_lt_of_cell? _ _ hci) hGt)
          have SP := spoil_any (c := z.length) h2 h3 h4 hzl (Nat.le_refl _)
          have HVI : Hid _ := hide hvi
          subst hG
          clear hbt hsp hvi hci ho h2 h3 h4 hGt hgi
          go_wp2_with fail
          refine SP.mono ?_
          rintro e w12 ⟨rfl, hb12⟩
          have HB12 : Hid _ := hide hb12
          clear SP hb12 hcw
          go_wp2
          refine ⟨⟨i + 1, by go_num, by omega, HBT.out.trans HB12.out (fun q _ e => ⟨_, List.mem_of_getElem? HVI.out, by rw [(e : q = g)]; rfl⟩), fun r hr => (HSP.out r (by omega)).but HB12.out (fun x hx q hq e => ?_)⟩, by simp [intOf]; omega⟩
          have e : q = g := e
          subst e
          have hi1 := (List.getElem?_eq_some_iff.1 HVI.out).1
          have hr1 := (List.getElem?_eq_some_iff.1 hx).1
          have := List.pairwise_iff_getElem.1 Q11.out.apart i r hi1 hr1 (by omega) q (by rw [(List.getElem?_eq_some_iff.1 HVI.out).2]; rfl)
          exact this (by rw [(List.getElem?_eq_some_iff.1 hx).2]; exact hq)
        · have hliI : ¬ (i : Int) < (A.length : Int) := by omega
          have hTb : ∀ k, (∃ x ∈ bv, x.ownBlock = some k) → w2.heap.size ≤ k ∧ k < w3.heap.size := fun k ⟨x, hx, hk⟩ => HQB.out x hx k hk
          obtain ⟨W12, hW12⟩ : ∃ W12, W12 = wr := ⟨_, rfl⟩
          have A12 : Hid (Pts W12 w1.heap.size (.slice aa A.length ca) A av) := hide (by
            rw [hW12]
            exact A11.out.pts.but hbt (fun g hg e => by have := HAT.out g hg; have := hTb g e; omega) (fun x hx g hg e => by have := HAB.out x hx g hg; have := hTb g e; omega))
          have T12 : Hid (Lists W12 w10.heap.size (.slice aw A.length cw) A wv) := hide (by
            rw [hW12]
            exact T11.out.but hbt (fun g hg e => by have := (T11.out.own.lt g hg).1; have := hTb g e; omega) (fun x hx g hg e => by have := (T11.out.blocks x hx g hg).1; have := hTb g e; omega))
          have L12 : Hid (W12.ownsRow w3.heap.size 48 5 (.slice al D.length cl) D.length (flat D)) := hide (by
            rw [hW12]
            exact own_but L11.out hbt (fun g hg e => by have := (L11.out.lt g hg).1; have := hTb g e; omega))
          have B12 : Hid (Below w.heap.size w W12) := hide (by
            rw [hW12]
            exact B11.out.trans (hbt.below B11.out.size (fun k hk => by have := (hTb k hk).1; omega)))
          have HW12 : Hid (W12 = wr) := hide hW12
          have hs12 : w11.heap.size ≤ W12.heap.size := by rw [hW12]; exact hbt.size
          clear hbt hsp HBT HSP hTb hW12 A11 T11 L11 B11 Q11
          go_wp2_with fail
          go_loopw [20, 21, 22, 23] (fun s20 s21 _ _ wr => ∃ (j : Nat) (gs : List (List Int)) (ag : Option Addr) (cg : Nat) (gv : List Value), s21 = .int .i64 j ∧ j ≤ A.length ∧ s20 = .slice ag gs.length cg ∧ Lists wr W12.heap.size (.slice ag gs.length cg) gs gv ∧ gs = gsL A j ∧ Below W12.heap.size W12 wr)
            (fun _ s21 _ _ _ => A.length - (intOf s21).toNat)
          case atStart => exact ⟨0, [], none, 0, [], rfl, Nat.zero_le _, rfl, Lists.nil _ _, rfl, by rw [HW12.out]; exact Below.refl _ _⟩
          case round =>
            obtain ⟨j, gs, ag, cg, gv, rfl, hj, rfl, hL, hgs, hbel⟩ := hrel
            rename World => Wk
            have HL : Hid _ := hide hL
            have HGS : Hid _ := hide hgs
            have HB : Hid _ := hide hbel
            by_cases hlt : j < A.length
            · have hltI : (j : Int) < (A.length : Int) := by omega
              have hgk : A[j]? = some (A.getD j []) := by rw [List.getD_eq_getElem?_getD]; simp [hlt]
              have hzl : ((A.getD j []).length : Int) ≤ 1048576 := HX.out _ (List.mem_of_getElem? hgk)
              have hgsl : Hid (gs.length = j) := hide (by rw [hgs, gsL_len])
              obtain ⟨z, hz⟩ : ∃ z, z = A.getD j [] := ⟨_, rfl⟩
              have HZe : Hid (z = A.getD j []) := hide hz
              rw [← hz] at hzl hgk
              have HZu : Hid (∀ y ∈ z, 0 ≤ y ∧ y ≤ 255) := hide (A12.out.u8 z (List.mem_of_getElem? hgk))
              obtain ⟨G, ai, cap, hG, hvk, hck, ho, hrow, h0⟩ := (A12.out.below hbel).at hgk
              subst hG
              have HRw : Hid _ := hide hrow
              have H0' : Hid _ := hide h0
              have hsr := hbel.size
              clear hL hgs hbel hgk hvk ho hrow h0 hz
              go_wp2_with (first
                | (at_builtin; refine append_cut2 _ rfl _ _ rfl ai z.length z rfl (HRw.out.below (below_alloc1 _ _)) H0'.out Wk.heap.size _ _ rfl (heap_new _ _) (by omega) ?_
                   intro g8 c8 w8' o8 b8
                   have HO8 : Hid _ := hide (own_mono o8 (show Wk.heap.size ≤ (Wk.alloc _).heap.size by simp))
                   have HB8 : Hid (Below Wk.heap.size Wk w8') := hide ((below_alloc1 Wk _).trans (b8.mono (by simp)))
                   clear o8 b8)
                | go_in)
              have HO9 : Hid (w8'.ownsRow Wk.heap.size 5 1 (.slice (some ⟨g8, 0, none⟩) (z.length + 2 * 1) c8) (z.length + 2 * 1) ((z ++ mkL j 1).map (Value.int .u8))) := HO8.out
              clear HO8 hck
              go_loopw [22, 23] (fun s22 s23 wr => ∃ q g cap : Nat, 1 ≤ q ∧ q ≤ 35 ∧ s23 = .int .i64 (2 * (q : Int)) ∧ s22 = .slice (some ⟨g, 0, none⟩) (z.length + 2 * q) cap ∧ wr.ownsRow Wk.heap.size 5 1 (.slice (some ⟨g, 0, none⟩) (z.length + 2 * q) cap) (z.length + 2 * q) ((z ++ mkL j q).map (Value.int .u8)) ∧ Below Wk.heap.size Wk wr)
                (fun _ s23 _ => 70 - (intOf s23).toNat)
              case atStart => exact ⟨1, g8, c8, Nat.le_refl _, by decide, rfl, rfl, HO9.out, HB8.out⟩
              case round =>
                clear HO9 HB8
                obtain ⟨q, g2, cap2, hq1, hq2, rfl, rfl, hon, hbw⟩ := hrel
                have HON : Hid _ := hide hon
                have HBQ : Hid _ := hide hbw
                have hsq := hbw.size
                clear hon hbw
                by_cases hlq : q < 35
                · have hlqI : 2 * (q : Int) < 70 := by omega
                  go_wp2_with (first
                    | (at_builtin; refine append_own2 _ rfl _ _ rfl Wk.heap.size (.slice (some ⟨g2, 0, none⟩) (z.length + 2 * q) cap2) (z.length + 2 * q) (z ++ mkL j q) rfl (HON.out.alloc _) wr.heap.size _ _ rfl (heap_new _ _) (by omega) (by simp; omega) ?_
                       intro g3 c3 w3' o3 gr3
                       have HO3 : Hid _ := hide o3
                       have HB3 : Hid (Below Wk.heap.size Wk w3') := hide ((HBQ.out.trans ((below_alloc1 wr _).mono hsq)).grown gr3 (by simp; omega) (fun k hk => (HON.out.lt k hk).1))
                       clear o3 gr3)
                    | go_in)
                  refine ⟨⟨q + 1, g3, c3, by omega, by omega, by go_num, by rw [show z.length + 2 * (q + 1) = z.length + 2 * q + 2 by omega], ?_, HB3.out⟩, by simp [intOf]; omega⟩
                  rw [show z.length + 2 * (q + 1) = z.length + 2 * q + 2 by omega, mkL_succ, ← List.append_assoc]
                  exact HO3.out
                · have hq35 : q = 35 := by omega
                  subst hq35
                  have HL9 : Hid _ := hide (HL.out.below HBQ.out)
                  go_wp2_with (first
                    | (at_builtin; refine append_lstB _ rfl _ _ rfl W12.heap.size (.slice ag gs.length cg) gs.length gv rfl (HL9.out.own.alloc _) ⟨wr.heap.size, 0, none⟩ 1 1 [.slice (some ⟨g2, 0, none⟩) (z.length + 70) cap2] rfl rfl (cell_news1 _ _ _) (by intro u hu; simp at hu; subst hu; rfl) (by omega) (by have h1 := hgsl.out; omega) (by simp; omega) ?_
                       intro a6 c6 w6' o6 g6)
                    | go_in)
                  have hzz : (z ++ mkL j 35).length = z.length + 70 := by rw [List.length_append, mkL_len]
                  have hXX := HL9.out.snocG (b := z ++ mkL j 35) (a1 := some ⟨g2, 0, none⟩) (c1 := cap2) (by rw [hzz]; exact own_mono HON.out hsr) (fun x hx g hg e => by have h1 := (HL.out.blocks x hx g hg).2; have h2 := (HON.out.lt g (by rw [hzz] at e; exact e)).1; omega) (fun y hy => by
                    rcases List.mem_append.1 hy with h | h
                    · exact HZu.out y h
                    · exact mkL_u8 j 35 y h) (by rw [hzz]; exact o6) (by rw [hzz]; exact g6)
                  have hbl : Below W12.heap.size W12 w6' := (HB.out.trans (HBQ.out.mono hsr)).trans ((((But.refl (fun g => (Value.slice ag gs.length cg).ownBlock = some g) wr).alloc _).grown g6 (fun k _ e => e)).below (by omega) (fun g hg => (HL9.out.own.lt g hg).1))
                  refine ⟨⟨j + 1, gs ++ [z ++ mkL j 35], a6, c6, _, by go_num, by omega, by simp, by simpa using hXX, ?_, hbl⟩, by simp [intOf]; omega⟩
                  rw [HGS.out, gsL_succ, HZe.out]
            · have hltI : ¬ (j : Int) < (A.length : Int) := by omega
              have hje : j = A.length := by omega
              obtain ⟨W13, hW13⟩ : ∃ W13, W13 = Wk := ⟨_, rfl⟩
              have G13 : Hid (Lists W13 W12.heap.size (.slice ag gs.length cg) gs gv) := hide (by rw [hW13]; exact hL)
              have A13 : Hid (Pts W13 w1.heap.size (.slice aa A.length ca) A av) := hide (by rw [hW13]; exact A12.out.below hbel)
              have T13 : Hid (Lists W13 w10.heap.size (.slice aw A.length cw) A wv) := hide (by rw [hW13]; exact T12.out.below hbel)
              have L13 : Hid (W13.ownsRow w3.heap.size 48 5 (.slice al D.length cl) D.length (flat D)) := hide (by rw [hW13]; exact own_below L12.out hbel)
              have B13 : Hid (Below w.heap.size w W13) := hide (by rw [hW13]; exact B12.out.trans (hbel.mono B12.out.size))
              have HW13 : Hid (W13 = Wk) := hide hW13
              have HGA : Hid (gs = gsL A A.length) := hide (by rw [hgs, hje])
              have hs13 : W12.heap.size ≤ W13.heap.size := by rw [hW13]; exact hbel.size
              clear hL hgs hbel HL HGS HB hW13 hje A12 T12 L12 B12 HW12
              go_wp2_with fail
              go_loopw [24, 25] (fun s24 _ wr => ∃ i q : Nat, s24 = .int .i64 i ∧ i ≤ A.length ∧ wr = W13.drewN q) (fun s24 _ _ => A.length - (intOf s24).toNat)
              case atStart => exact ⟨0, 0, rfl, Nat.zero_le _, by rw [HW13.out]; rfl⟩
              case round =>
                obtain ⟨i, p, rfl, hi, hw'⟩ := hrel
                have HW : Hid _ := hide hw'
                by_cases hlt : i < A.length
                · have hltI : (i : Int) < (A.length : Int) := by omega
                  have hgi : A[i]? = some (A.getD i []) := by rw [List.getD_eq_getElem?_getD]; simp [hlt]
                  have hzl : ((A.getD i []).length : Int) ≤ 1048576 := HX.out _ (List.mem_of_getElem? hgi)
                  obtain ⟨M, gm, cm, hM, hmc, hmr⟩ := grown_at G13.out HGA.out hlt
                  obtain ⟨z, hz⟩ : ∃ z, z = A.getD i [] := ⟨_, rfl⟩
                  rw [← hz] at hgi hzl hmc hmr
                  obtain ⟨G, ai, cap, hG, hvk, hck, ho, hrow, h0⟩ := A13.out.at hgi
                  have HMR : Hid _ := hide hmr
                  subst hM hG
                  have HC1 : Hid _ := hide hck
                  have HC2 : Hid _ := hide hmc
                  have hglI : (i : Int) < (gs.length : Int) := by rw [HGA.out, gsL_len]; omega
                  clear hmr hgi hvk hck ho hrow h0 hmc hz hw'
                  go_wp2_with fail
                  go_loopw [25] (fun s25 wr => ∃ q p : Nat, s25 = .int .i64 (2 * (q : Int)) ∧ q ≤ 35 ∧ wr = W13.drewN p) (fun s25 _ => 70 - (intOf s25).toNat)
                  case atStart => exact ⟨0, p, rfl, by decide, HW.out⟩
                  case round =>
                    clear HW
                    obtain ⟨q, p, rfl, hq, hw'⟩ := hrel
                    have HW : Hid _ := hide hw'
                    by_cases hlq : q < 35
                    · have hlqI : 2 * (q : Int) < 70 := by omega
                      have e1 := cell_drewN HC1.out p
                      have e2 := cell_drewN HC2.out p
                      have e3 := cell_drewN (HMR.out q hlq).1 p
                      have e4 := cell_drewN (HMR.out q hlq).2 p
                      rw [← hw'] at e1 e2 e3 e4
                      simp only [mB0, mB1] at e3 e4
                      clear hw'
                      go_wp2
                      go_quiet (fail)
                      go_wp2
                      exact ⟨⟨q + 1, p + nq, by go_num, by omega, by rw [HW.out]; exact World.drewN_drewN _ _ _⟩, by simp [intOf]; omega⟩
                    · have hlqI : ¬ 2 * (q : Int) < 70 := by omega
                      clear hw'
                      go_wp2
                      exact ⟨⟨i + 1, p, by go_num, by omega, HW.out⟩, by simp [intOf]; omega⟩
                · have hltI : ¬ (i : Int) < (A.length : Int) := by omega
                  have hbw : Below W13.heap.size W13 wr := by rw [hw']; exact below_drewN (Below.refl _ _) p
                  have A14 : Hid (Pts wr w1.heap.size (.slice aa A.length ca) A av) := hide (A13.out.below hbw)
                  have T14 : Hid _ := hide (T13.out.below hbw)
                  have L14 : Hid _ := hide (own_below L13.out hbw)
                  have B14 : Hid (Below w.heap.size w wr) := hide (B13.out.trans (hbw.mono B13.out.size))
                  have SA := sl_any aa aw A.length ca A.length cw A A wr (A14.out.lrow rfl HXw.out) (T14.out.lrow HXw.out) (by omega)
                  simp only [decide_true] at SA
                  clear hw' HW hbw A13 T13 L13 B13 G13 HW13 HGA
                  go_wp2_with fail
                  refine SA.mono ?_
                  rintro e w15 ⟨rfl, p15, hw15⟩
                  have hb15 : Below wr.heap.size wr w15 := by rw [hw15]; exact below_drewN (Below.refl _ _) p15
                  have A15 : Hid (Pts w15 w1.heap.size (.slice aa A.length ca) A av) := hide (A14.out.below hb15)
                  have L15 : Hid (w15.ownsRow w3.heap.size 48 5 (.slice al D.length cl) D.length (flat D)) := hide (own_below L14.out hb15)
                  have B15 : Hid (Below w.heap.size w w15) := hide (B14.out.trans (hb15.mono B14.out.size))
                  clear SA hw15 hb15 A14 T14 L14 B14
                  go_wp2_with fail
                  go_loopw [27] (fun s27 wr => ∃ (k : Nat) (ys : List Value), s27 = .int .i64 k ∧ k ≤ D.length ∧ wr.ownsRow w3.heap.size 48 5 (.slice al D.length cl) D.length ys ∧ But (fun k => (Value.slice al D.length cl).ownBlock = some k) w15 wr) (fun s27 _ => D.length - (intOf s27).toNat)
                  case atStart => exact ⟨0, flat D, rfl, Nat.zero_le _, L15.out, But.refl _ _⟩
                  case round =>
                    obtain ⟨k, ys, rfl, hk, oy, hbt⟩ := hrel
                    rename World => Wt
                    by_cases hlk : k < D.length
                    · obtain ⟨yb, rfl⟩ := own_some5 oy (by omega)
                      obtain ⟨v0, h0⟩ := own_cell5 (t := 0) oy hlk (by omega)
                      obtain ⟨v1, h1⟩ := own_cell5 (t := 1) oy hlk (by omega)
                      obtain ⟨v2, h2⟩ := own_cell5 (t := 2) oy hlk (by omega)
                      obtain ⟨v3, h3⟩ := own_cell5 (t := 3) oy hlk (by omega)
                      obtain ⟨v4, h4⟩ := own_cell5 (t := 4) oy hlk (by omega)
                      rw [Nat.add_zero] at h0
                      have f0 := oy.frozenAt (k * 5)
                      have f1 := oy.frozenAt (k * 5 + 1)
                      have f2 := oy.frozenAt (k * 5 + 2)
                      have f3 := oy.frozenAt (k * 5 + 3)
                      have f4 := oy.frozenAt (k * 5 + 4)
                      have HO : Hid _ := hide oy
                      have HBT : Hid _ := hide hbt
                      have hlkI : (k : Int) < (D.length : Int) := by omega
                      clear oy hbt
                      go_wp2
                      obtain ⟨ys', o'⟩ := set5_own (i := k * 5) HO.out (.int .i64 (-7)) (.int .i64 0) (.int .u64 0) (.int .u64 0) (.int .i64 0)
                      exact ⟨⟨k + 1, ys', by go_num, by omega, o', HBT.out.trans (set5_but _ yb (k * 5) _ _ _ _ _) (fun q _ e => by rw [(e : q = yb)]; rfl)⟩, by simp [intOf]; omega⟩
                    · have hlkI : ¬ (k : Int) < (D.length : Int) := by omega
                      have A16 : Hid (Pts Wt w1.heap.size (.slice aa A.length ca) A av) := hide (A15.out.but hbt (fun g hg e => by have := HAT.out g hg; have := HLB.out g e; omega) (fun x hx g hg e => by have := HAB.out x hx g hg; have := HLB.out g e; omega))
                      have B16 : Hid (Below w.heap.size w Wt) := hide (B15.out.trans (hbt.below B15.out.size (fun k hk => by have := (HLB.out k hk).1; omega)))
                      have DC := HDC.out Wt aa ca B16.out (A16.out.lrow rfl HXw.out) hAl
                      clear oy hbt A15 L15 B15
                      go_wp2_with fail
                      refine DC.mono ?_
                      rintro e w17 ⟨hb17, am, cm, rfl, om⟩
                      have B17 : Hid (Below w.heap.size w w17) := hide (B16.out.trans (hb17.mono B16.out.size))
                      have M17 : Hid _ := hide (RRow.of_own om)
                      clear DC hb17 om A16 B16
                      go_wp2_with fail
                      refine (num_any E w17).mono ?_
                      rintro e w18 ⟨rfl, hw18⟩
                      rw [hw18]
                      clear hw18 w18
                      by_cases hE0 : E = 0
                      · have hDL := HDL.out hE0
                        have HDn : Hid (D.length = n) := hide (by rw [hDL]; exact HR.out.len)
                        have SM := rsame_eq am a n cm c L w17 (by have h9 := M17.out; rw [HDn.out, hDL] at h9; exact h9) (HR.out.below B17.out) (by omega)
                        have SM2 : Calls Tryd.prog 17 #[.slice am D.length cm, .slice a n c] w17 fun e w' => e = .returned (.bool true) ∧ ∃ m, w' = w17.drewN m := by rw [HDn.out]; exact SM
                        have hEb : (E != 0) = false := by rw [hE0]; rfl
                        clear hDL SM hE0
                        go_wp2_with fail
                        refine SM2.mono ?_
                        rintro e w18 ⟨rfl, p18, hw18⟩
                        have B18 : Hid (Below w.heap.size w w18) := hide (B17.out.trans (by rw [hw18]; exact below_drewN (Below.refl _ _) p18))
                        clear SM2 hw18
                        go_wp2
                        go_ret
                        exact ⟨rfl, B18.out⟩
                      · have hEb : (E != 0) = true := by simp [hE0]
                        go_wp2
                        go_ret
                        exact ⟨rfl, B17.out⟩
end Go.Proofs.YtdppbaipmmcjbaaDoor
