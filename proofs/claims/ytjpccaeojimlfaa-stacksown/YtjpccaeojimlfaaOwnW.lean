/-
  The walk of StacksOwn.
-/
import Derived.Test.YtjpccaeojimlfaaOwnC
import Derived.BigRegion
import Derived.Deep.QuietTactic
import Derived.BigQuiet
namespace Go.Proofs.Ytjpccaeojimlfaa
open Go.RowKit Go.Maps Go.Shelf
attribute [local go_sem] Oper.semAt_some
theorem sub255o {z : Int} (h0 : 0 ≤ z) (h1 : z ≤ 255) : IntKind.u8.wrap (255 - z) = 255 - z := by rw [IntKind.wrap_u8]; omega
set_option maxHeartbeats 4000000 in
set_option maxRecDepth 8000 in
theorem own_any (a : Option Addr) (n c : Nat) (LS : List Stk) (id : Int) (w : World) (hLS : PRow w a n LS) (hn : (n : Int) ≤ 9223372036854775806) (hz : ∀ q ∈ LS, (q.length : Int) ≤ 9223372036854775806 ∧ ∀ s ∈ q, s.size ≤ maxLen)
    (hid : -9223372036854775808 ≤ id ∧ id ≤ 9223372036854775807) :
    Calls Try.prog 4 #[.slice a n c, .int .i64 id] w fun e w' => e = .returned (.bool true) ∧ Below w.heap.size w w' := by
  have HLS : Hid (PRow w a n LS) := hLS
  have HZ : Hid (∀ q ∈ LS, (q.length : Int) ≤ 9223372036854775806 ∧ ∀ s ∈ q, s.size ≤ maxLen) := hz
  have HA : Hid _ := hide (awake_any w)
  have HNn : Hid (∀ (e : Int) (w : World), Calls Try.prog 15 #[.int .i64 e] w fun x w' => x = .returned (.int .i64 e) ∧ w' = w) := hide (fun e w => num_any e w)
  have HId : Hid (-9223372036854775808 ≤ id ∧ id ≤ 9223372036854775807) := hid
  clear hLS hz hid
  go_enter Try.func4, Try.ntmps4
  go_wp2_with fail
  refine HA.out.mono ?_
  rintro e w1 ⟨rfl, hb1⟩
  have B1 : Hid (Below w.heap.size w w1) := hb1
  have HG : Hid _ := hide (grown_any a n c LS w1 (HLS.out.below hb1) hn HZ.out)
  clear hb1 HA
  go_wp2_with fail
  refine HG.out.mono ?_
  rintro e w2 ⟨tb, fb, rfl, T, S, L, N, P, hfx, hfit⟩
  have HB2 : Hid (Below w.heap.size w w2) := hide (B1.out.trans (hfx.bel.mono B1.out.size))
  have HFit : Hid (Fit L N P) := hfit
  have HSt2 : Hid _ := hide hfx.st
  obtain ⟨A, er, hA, hSk⟩ := st_stack (T := T) (S := S) (tb := tb) (fb := fb) hfit id HId.out
  obtain ⟨X, hXl, hXz, hEn⟩ := st_encode hfx.st hfit
  have HSk : Hid _ := hide hSk
  have HEn : Hid _ := hide hEn
  have HXz : Hid _ := hide hXz
  have hAI : (A.length : Int) ≤ 16 := by omega
  have hXI : (X.length : Int) ≤ 262144 := by omega
  have HNw : Hid _ := hide (new_f tb w2)
  clear hfx hfit HG hSk hEn hXz hA hXl
  go_wp2_with fail
  refine HNw.out.mono ?_
  rintro e w3 ⟨rfl, hgf, hb3⟩
  have HB3 : Hid (Below w2.heap.size w2 w3) := hb3
  have HSt3 : Hid (St w3 T S tb fb L N) := hide (HSt2.out.but (U := fun _ => False) (But.of_below hb3) (fun _ _ e => e) (fun _ _ e => e))
  have HTl : Hid (∀ k, T k ∨ S k → k < w3.heap.size) := hide (fun k hk => by
    have := HB3.out.size
    rcases hk with hk | hk
    · have := HSt2.out.tlt k hk; omega
    · have := HSt2.out.slt k hk; omega)
  have HGf : Hid _ := hide hgf
  have HQ3 : Hid _ := hide (HSk.out w3 HSt3.out)
  clear hb3 hgf HNw
  generalize w2.heap.size + 1 = gb at HGf ⊢
  go_wp2_with fail
  refine HQ3.out.mono ?_
  rintro e w4 ⟨a4, c4, rfl, hoa, hb4⟩
  have HB4 : Hid (Below w3.heap.size w3 w4) := hb4
  have HRa4 : Hid (w4.ownsRow w3.heap.size 9 1 (.slice a4 A.length c4) A.length (A.map Value.string)) := hoa
  have HSt4 : Hid (St w4 T S tb fb L N) := hide (HSt3.out.but (U := fun _ => False) (But.of_below hb4) (fun _ _ e => e) (fun _ _ e => e))
  have HQ4 : Hid _ := hide (HSk.out w4 HSt4.out)
  clear hb4 hoa HQ3
  go_wp2_with fail
  refine HQ4.out.mono ?_
  rintro e w5 ⟨a5, c5, rfl, hob, hb5⟩
  have HB5 : Hid (Below w4.heap.size w4 w5) := hb5
  have HRb5 : Hid (w5.ownsRow w4.heap.size 9 1 (.slice a5 A.length c5) A.length (A.map Value.string)) := hob
  have HSt5 : Hid (St w5 T S tb fb L N) := hide (HSt4.out.but (U := fun _ => False) (But.of_below hb5) (fun _ _ e => e) (fun _ _ e => e))
  have HQ5 : Hid _ := hide (HEn.out w5 HSt5.out)
  clear hb5 hob HQ4
  go_wp2_with fail
  refine HQ5.out.mono ?_
  rintro e w6 ⟨xa, xc, xvals, rfl, hlx, hb6⟩
  have HB6 : Hid (Below w5.heap.size w5 w6) := hb6
  have HX6 : Hid (Lists w6 w5.heap.size (.slice xa X.length xc) X xvals) := hlx
  have HSt6 : Hid (St w6 T S tb fb L N) := hide (HSt5.out.but (U := fun _ => False) (But.of_below hb6) (fun _ _ e => e) (fun _ _ e => e))
  have HQ6 : Hid _ := hide (HEn.out w6 HSt6.out)
  clear hb6 hlx HQ5
  go_wp2_with fail
  refine HQ6.out.mono ?_
  rintro e w7 ⟨ya, yc, yvals, rfl, hly, hb7⟩
  have HB7 : Hid (Below w6.heap.size w6 w7) := hb7
  have HY7 : Hid (Lists w7 w6.heap.size (.slice ya X.length yc) X yvals) := hly
  have HSt7 : Hid (St w7 T S tb fb L N) := hide (HSt6.out.but (U := fun _ => False) (But.of_below hb7) (fun _ _ e => e) (fun _ _ e => e))
  have HX7 : Hid (Lists w7 w5.heap.size (.slice xa X.length xc) X xvals) := hide (HX6.out.below hb7)
  have B57 : Hid (Below w5.heap.size w5 w7) := hide (HB6.out.trans (hb7.mono HB6.out.size))
  have B47 : Hid (Below w4.heap.size w4 w7) := hide (HB5.out.trans (B57.out.mono HB5.out.size))
  have B37 : Hid (Below w3.heap.size w3 w7) := hide (HB4.out.trans (B47.out.mono HB4.out.size))
  have HRa7 : Hid (w7.ownsRow w3.heap.size 9 1 (.slice a4 A.length c4) A.length (A.map Value.string)) := hide (own_but (S := fun _ => False) HRa4.out (But.of_below B47.out) (fun _ _ e => e))
  have HRb7 : Hid (w7.ownsRow w4.heap.size 9 1 (.slice a5 A.length c5) A.length (A.map Value.string)) := hide (own_but (S := fun _ => False) HRb5.out (But.of_below B57.out) (fun _ _ e => e))
  have HQ7 := texts_any a4 a5 A.length c4 A.length c5 A A w7 (SRow.of_own HRa7.out) (SRow.of_own HRb7.out) (by omega)
  rw [eqB_self] at HQ7
  have HQ7 := hide HQ7
  clear hb7 hly HQ6
  go_wp2_with (first | (go_at_call 15; refine (HNn.out _ _).mono ?_; rintro e w8 ⟨rfl, hh⟩; rw [hh]; clear hh w8) | fail)
  refine HQ7.out.mono ?_
  rintro e w8 ⟨rfl, m8, hw8⟩
  have HB8 : Hid (Below w7.heap.size w7 w8) := hide (by rw [hw8]; exact below_drewN (Below.refl _ _) m8)
  have hXz' : ∀ z ∈ X, (z.length : Int) ≤ 140737488355328 := fun z hz => by have := HXz.out z hz; omega
  have HQ8 := sl_any xa ya X.length xc X.length yc X X w8 ((HX7.out.below HB8.out).lrow hXz') ((HY7.out.below HB8.out).lrow hXz') (by omega)
  rw [decide_eq_true (show X = X from rfl)] at HQ8
  have HQ8 := hide HQ8
  clear hw8 HQ7 hXz'
  go_wp2_with fail
  refine HQ8.out.mono ?_
  rintro e w9 ⟨rfl, m9, hw9⟩
  have HB79 : Hid (Below w7.heap.size w7 w9) := hide (by rw [hw9]; exact below_drewN HB8.out m9)
  have HQ9 : Hid (Calls Try.prog 16 #[.pointer (some ⟨gb, 0, none⟩)] w9 fun e w' => e = .returned (.int .i64 0) ∧ w' = w9) := hide (by
    obtain ⟨v, mb, hf⟩ := HGf.out
    have b39 : Below w3.heap.size w3 w9 := B37.out.trans (HB79.out.mono B37.out.size)
    have hf9 := hf.kept (T := fun _ => False) (But.of_below b39) (fun _ _ e => e)
    obtain ⟨va, vc, rfl⟩ := own_form hf9.own
    exact len_f _ _ vc va _ hf9.cell1)
  have HRa9 : Hid (w9.ownsRow w3.heap.size 9 1 (.slice a4 A.length c4) A.length (A.map Value.string)) := hide (own_but (S := fun _ => False) HRa7.out (But.of_below HB79.out) (fun _ _ e => e))
  clear hw9 HQ8 HGf HB8
  go_wp2_with fail
  refine HQ9.out.mono ?_
  rintro e w10 ⟨rfl, hh⟩; rw [hh]; clear hh w10
  go_wp2_with (first
    | (at_builtin; refine append_strs _ rfl _ _ rfl w9.heap.size (.slice none 0 0) 0 [] rfl (World.ownsRow_nil _ _ _ _) a4 A.length c4 A rfl (SRow.of_own HRa9.out) (own_nilS HRa9.out) (by omega) (Nat.le_refl _) ?_
       intro aw cw w10 o1 g1 _
       have HRw : Hid (w10.ownsRow w9.heap.size 9 1 (.slice aw A.length cw) A.length (A.map Value.string)) := hide (by rw [Nat.zero_add] at o1; simpa using o1)
       have HB10 : Hid (Below w9.heap.size w9 w10) := hide ((Below.refl _ w9).grown g1 (Nat.le_refl _) (fun k e => by simp [Value.ownBlock] at e))
       clear o1 g1)
    | go_in)
  have S34 : Hid (w3.heap.size ≤ w4.heap.size ∧ w4.heap.size ≤ w5.heap.size ∧ w5.heap.size ≤ w6.heap.size ∧ w6.heap.size ≤ w7.heap.size ∧ w7.heap.size ≤ w9.heap.size ∧ w9.heap.size ≤ w10.heap.size) := hide ⟨HB4.out.size, HB5.out.size, HB6.out.size, HB7.out.size, HB79.out.size, HB10.out.size⟩
  have B710 : Hid (Below w7.heap.size w7 w10) := hide (HB79.out.trans (HB10.out.mono HB79.out.size))
  have HE10 : Hid (Env w10 T S tb fb L N w3.heap.size w4.heap.size w9.heap.size w10.heap.size (.slice a4 A.length c4) (.slice aw A.length cw) A) := hide (by
    have s := S34.out
    exact ⟨HSt7.out.but (U := fun _ => False) (But.of_below B710.out) (fun _ _ e => e) (fun _ _ e => e), HTl.out, own_but (S := fun _ => False) HRa9.out (But.of_below HB10.out) (fun _ _ e => e), fun g hg => (HRa4.out.lt g hg).2, HRw.out, fun g hg => (HRw.out.lt g hg).2, by omega, by omega, by omega⟩)
  have HVb : Hid (Ovx w10 w10 w4.heap.size a5 A.length c5) := hide ⟨⟨_, own_but (S := fun _ => False) HRb7.out (But.of_below B710.out) (fun _ _ e => e)⟩, But.refl _ _⟩
  have HLb : Hid (∀ g, (Value.slice a5 A.length c5).ownBlock = some g → w4.heap.size ≤ g ∧ g < w5.heap.size) := hide (fun g hg => HRb5.out.lt g hg)
  have HX10 : Hid (Lists w10 w5.heap.size (.slice xa X.length xc) X xvals) := hide (HX7.out.below B710.out)
  have HY10 : Hid (Lists w10 w6.heap.size (.slice ya X.length yc) X yvals) := hide (HY7.out.below B710.out)
  have HLx : Hid ((∀ x ∈ xvals, ∀ g, x.ownBlock = some g → w5.heap.size ≤ g ∧ g < w6.heap.size) ∧ ∀ g, (Value.slice xa X.length xc).ownBlock = some g → w5.heap.size ≤ g ∧ g < w6.heap.size) := hide ⟨HX6.out.blocks, fun g hg => HX6.out.own.lt g hg⟩
  have HLy : Hid ((∀ x ∈ yvals, ∀ g, x.ownBlock = some g → w6.heap.size ≤ g ∧ g < w7.heap.size) ∧ ∀ g, (Value.slice ya X.length yc).ownBlock = some g → w6.heap.size ≤ g ∧ g < w7.heap.size) := hide ⟨HY7.out.blocks, fun g hg => HY7.out.own.lt g hg⟩
  have HBw : Hid (Below w.heap.size w w3) := hide (HB2.out.trans (HB3.out.mono HB2.out.size))
  have HB310 : Hid (Below w3.heap.size w3 w10) := hide (B37.out.trans (B710.out.mono B37.out.size))
  clear HX7 HY7 HRb7 HRb5 HRa7 HRa9 HRa4 HSt2 HSt3 HSt4 HSt5 HSt6 HSt7 HX6 HTl HRw HB10 HB79 HB4 HB5 HB6 HB7 B57 B47 B37 HQ9 HB2 HB3 HLS HZ B1 B710
  go_wp2
  go_loopw [18] (fun q wr => ∃ k : Nat, k ≤ A.length ∧ q = .int .i64 k ∧ Ovx w10 wr w4.heap.size a5 A.length c5) (fun q _ => A.length - (intOf q).toNat)
  case atStart => exact ⟨0, Nat.zero_le _, rfl, HVb.out⟩
  case round =>
    clear HVb
    obtain ⟨k, hk, rfl, hO⟩ := hrel
    have HO : Hid _ := hide hO
    by_cases hlt : k < A.length
    · obtain ⟨G, y, rfl, hc, hf, hu⟩ := hO.at hlt
      have HU : Hid _ := hide hu
      have hltI : (k : Int) < A.length := by omega
      clear hO hu
      go_wp2
      exact ⟨⟨k + 1, by omega, by go_num, HU.out _⟩, by simp [intOf]; omega⟩
    · have hltI : ¬ (k : Int) < A.length := by omega
      have HE11 : Hid (Env wr T S tb fb L N w3.heap.size w4.heap.size w9.heap.size w10.heap.size (.slice a4 A.length c4) (.slice aw A.length cw) A) := hide (HE10.out.but hO.but (fun k e => by have := HLb.out k e; have := S34.out; omega))
      have HX11 : Hid (Lists wr w5.heap.size (.slice xa X.length xc) X xvals) := hide (HX10.out.but hO.but (fun g hg e => by have := HLx.out.2 g hg; have := HLb.out g e; omega) (fun x hx g hg e => by have := HLx.out.1 x hx g hg; have := HLb.out g e; omega))
      have HY11 : Hid (Lists wr w6.heap.size (.slice ya X.length yc) X yvals) := hide (HY10.out.but hO.but (fun g hg e => by have := HLy.out.2 g hg; have := HLb.out g e; have := S34.out; omega) (fun x hx g hg e => by have := HLy.out.1 x hx g hg; have := HLb.out g e; have := S34.out; omega))
      have HB311 : Hid (Below w3.heap.size w3 wr) := hide (HB310.out.trans (hO.but.below HB310.out.size (fun k e => by have := HLb.out k e; have := S34.out; omega)))
      have HS11 : Hid (w10.heap.size ≤ wr.heap.size) := hide hO.but.size
      clear hO HO HE10 HX10 HY10 HB310
      generalize wr = W11 at HE11 HX11 HY11 HB311 HS11 ⊢
      go_wp2
      go_loopw [19] (fun q wr => ∃ k : Nat, k ≤ X.length ∧ q = .int .i64 k ∧ Ovb W11 wr w6.heap.size (.slice ya X.length yc) X yvals) (fun q _ => X.length - (intOf q).toNat)
      case atStart => exact ⟨0, Nat.zero_le _, rfl, Ovb.start HY11.out⟩
      case round =>
        clear HY11
        obtain ⟨k, hk, rfl, hO⟩ := hrel
        have HO : Hid _ := hide hO
        by_cases hlt : k < X.length
        · have HZk : Hid (X[k]? = some (X.getD k [])) := hide (by rw [List.getD_eq_getElem?_getD]; simp [hlt])
          have hzl : ((X.getD k []).length : Int) ≤ 4000000000 := HXz.out _ (List.mem_of_getElem? HZk.out)
          have hltI : (k : Int) < X.length := by omega
          generalize X.getD k [] = z at HZk hzl
          clear hO
          go_wp2
          go_loopw [20] (fun q wr' => ∃ j : Nat, j ≤ z.length ∧ q = .int .i64 j ∧ Ovb W11 wr' w6.heap.size (.slice ya X.length yc) X yvals) (fun q _ => z.length - (intOf q).toNat)
          case atStart => exact ⟨0, Nat.zero_le _, rfl, HO.out⟩
          case round =>
            clear HO
            obtain ⟨j, hj, rfl, hO⟩ := hrel
            have HO : Hid _ := hide hO
            obtain ⟨gg, ab, cb, rfl, hcb, hv, hc⟩ := hO.row HZk.out
            by_cases hlj : j < z.length
            · obtain ⟨g2, zz, rfl, hz0, hz1, hcz, hfz, hu⟩ := hO.at HZk.out hv hlj
              have HU2 : Hid _ := hide (hu (255 - zz) (by omega))
              have hljI : (j : Int) < z.length := by omega
              have hw := sub255o hz0 hz1
              clear hO hu hv
              go_wp2
              go_region
              go_wp2
              exact ⟨⟨j + 1, by omega, by go_num, HU2.out.drew⟩, by simp [intOf]; omega⟩
            · have hljI : ¬ (j : Int) < z.length := by omega
              clear hO hv
              go_wp2
              exact ⟨⟨k + 1, by omega, by go_num, HO.out⟩, by simp [intOf]; omega⟩
        · have hltI : ¬ (k : Int) < X.length := by omega
          have HVl : Hid (∀ g, (∃ x ∈ yvals, x.ownBlock = some g) → w6.heap.size ≤ g ∧ g < w7.heap.size) := hide (fun g ⟨x, hx, hg⟩ => HLy.out.1 x hx g hg)
          have HE12 : Hid (Env wr T S tb fb L N w3.heap.size w4.heap.size w9.heap.size w10.heap.size (.slice a4 A.length c4) (.slice aw A.length cw) A) := hide (HE11.out.but hO.but (fun k e => by have := HVl.out k e; have := S34.out; omega))
          have HX12 : Hid (Lists wr w5.heap.size (.slice xa X.length xc) X xvals) := hide (HX11.out.but hO.but (fun g hg e => by have := HLx.out.2 g hg; have := HVl.out g e; omega) (fun x hx g hg e => by have := HLx.out.1 x hx g hg; have := HVl.out g e; omega))
          have HB312 : Hid (Below w3.heap.size w3 wr) := hide (HB311.out.trans (hO.but.below HB311.out.size (fun k e => by have := HVl.out k e; have := S34.out; omega)))
          have HS12 : Hid (w10.heap.size ≤ wr.heap.size) := hide (Nat.le_trans HS11.out hO.but.size)
          clear hO HO HE11 HX11 HB311 HVl
          generalize wr = W12 at HE12 HX12 HB312 HS12 ⊢
          have HM0 : Hid (Mks W12 W12 w5.heap.size w6.heap.size xa xc X xvals none 0 0 []) := hide (Mks.start HX12.out (fun x hx g hg => (HLx.out.1 x hx g hg).2) (fun g hg => (HLx.out.2 g hg).2))
          go_wp2
          go_loopw [21, 22] (fun mv iv wr => ∃ (k : Nat) (ma : Option Addr) (mc : Nat) (mvals : List Value), k ≤ X.length ∧ iv = .int .i64 k ∧ mv = .slice ma k mc ∧ Mks W12 wr w5.heap.size w6.heap.size xa xc X xvals ma mc k mvals) (fun _ iv _ => X.length - (intOf iv).toNat)
          case atStart => exact ⟨0, none, 0, [], Nat.zero_le _, rfl, rfl, HM0.out⟩
          case round =>
            clear HM0
            obtain ⟨k, ma, mc, mvals, hk, rfl, rfl, hM⟩ := hrel
            rename World => Wk
            have HM : Hid _ := hide hM
            by_cases hlt : k < X.length
            · have hgk : X[k]? = some (X.getD k []) := by rw [List.getD_eq_getElem?_getD]; simp [hlt]
              obtain ⟨G, ab, cb, hG, hxv, hc, hox⟩ := hM.xl.cellAt hgk
              have hzl : ((X.getD k []).length : Int) ≤ 4000000000 := HXz.out _ (List.mem_of_getElem? hgk)
              have HXv : Hid _ := hide hxv
              have HOx : Hid _ := hide hox
              have HBs : Hid (w5.heap.size ≤ Wk.heap.size) := hide (by have := hM.but.size; have := S34.out; have := HS12.out; omega)
              have HMs : Hid (W12.heap.size ≤ Wk.heap.size) := hide hM.but.size
              have hltI : (k : Int) < X.length := by omega
              obtain ⟨z, hz⟩ : ∃ z, z = X.getD k [] := ⟨_, rfl⟩
              have HZe : Hid (z = X.getD k []) := hz
              rw [← hz] at HXv HOx hc hzl
              clear hM hgk hxv hox hz
              subst hG
              go_wp2_with (first
                | (at_builtin; refine append_two Wk _ _ rfl _ _ rfl w5.heap.size (.slice ab z.length cb) z.length z rfl HOx.out rfl (by omega) HBs.out ?_
                   intro g1 cap1 w13 hn1 hk1 hg1 hl1
                   have HMd := hide (Gon.start hn1 hk1 hg1 hl1)
                   clear hn1 hk1 hg1 hl1)
                | go_in)
              have HMe : Hid (Gon Wk w13 w5.heap.size 5 (.slice ab z.length cb) z.length (z.map (Value.int .u8)) g1 cap1 (2 * 1) ((mkL k 1).map (Value.int .u8))) := HMd.out
              clear HMd hc
              go_loopw [23, 24] (fun mv kv Wk' => ∃ q g cap : Nat, 1 ≤ q ∧ q ≤ 35 ∧ kv = .int .i64 (2 * (q : Int)) ∧ mv = .slice (some ⟨g, 0, none⟩) (z.length + 2 * q) cap ∧ Gon Wk Wk' w5.heap.size 5 (.slice ab z.length cb) z.length (z.map (Value.int .u8)) g cap (2 * q) ((mkL k q).map (Value.int .u8))) (fun _ kv _ => 70 - (intOf kv).toNat)
              case atStart => exact ⟨1, g1, cap1, Nat.le_refl _, by decide, rfl, rfl, HMe.out⟩
              case round =>
                clear HMe
                obtain ⟨q, g2, cap2, hq1, hq2, rfl, rfl, hGn⟩ := hrel
                have HGn : Hid _ := hide hGn
                by_cases hlq : q < 35
                · have hlqI : 2 * (q : Int) < 70 := by omega
                  have HOn : Hid (wr.ownsRow w5.heap.size 5 1 (.slice (some ⟨g2, 0, none⟩) (z.length + 2 * q) cap2) (z.length + 2 * q) ((z ++ mkL k q).map (Value.int .u8))) := hide (by rw [List.map_append]; exact hGn.new)
                  have HBq : Hid (w5.heap.size ≤ wr.heap.size) := hide (Nat.le_trans HBs.out hGn.but.size)
                  clear hGn
                  go_wp2_with (first
                    | (at_builtin; refine append_two wr _ _ rfl _ _ rfl w5.heap.size (.slice (some ⟨g2, 0, none⟩) (z.length + 2 * q) cap2) (z.length + 2 * q) (z ++ mkL k q) rfl HOn.out rfl (by omega) HBq.out ?_
                       intro g3 cap3 w14 hn1 hk1 hg1 hl1
                       rw [List.map_append] at hn1 hk1
                       have HG3 := hide (HGn.out.step hn1 hk1 hg1 hl1)
                       clear hn1 hk1 hg1 hl1)
                    | go_in)
                  have hG4 : Gon Wk w14 w5.heap.size 5 (.slice ab z.length cb) z.length (z.map (Value.int .u8)) g3 cap3 (2 * (q + 1)) ((mkL k (q + 1)).map (Value.int .u8)) := by
                    rw [mkL_succ, List.map_append]
                    exact HG3.out
                  exact ⟨⟨q + 1, g3, cap3, by omega, by omega, by go_num, by rw [show z.length + 2 * (q + 1) = z.length + 2 * q + 2 by omega], hG4⟩, by simp [intOf]; omega⟩
                · have hq35 : q = 35 := by omega
                  subst hq35
                  have HMo : Hid _ := hide (HM.out.mo_mid HXv.out hGn)
                  have HNx : Hid (∀ (ma' : Option Addr) (mc' : Nat) (w2 : World) (o : Obj), w2.ownsRow W12.heap.size 46 1 (.slice ma' (k + 1) mc') (k + 1) (mvals ++ [.slice (some ⟨g2, 0, none⟩) (z.length + 70) cap2]) → (wr.alloc o).grownBy w2 (Value.slice ma k mc).ownBlock → Mks W12 w2 w5.heap.size w6.heap.size (some ⟨G, 0, none⟩) xc X xvals ma' mc' (k + 1) (mvals ++ [.slice (some ⟨g2, 0, none⟩) (z.length + 70) cap2])) := hide (by
                    intro ma' mc' w2 o o2 hg2
                    have ez := HZe.out
                    subst ez
                    exact HM.out.next hlt (by have := S34.out; have := HS12.out; omega) HXv.out HGn.out o2 hg2)
                  have HMs2 : Hid (W12.heap.size ≤ wr.heap.size) := hide (Nat.le_trans HMs.out hGn.but.size)
                  clear hGn
                  go_wp2_with (first
                    | (at_builtin; refine append_lstC _ rfl _ _ rfl W12.heap.size (.slice ma k mc) k mvals rfl (HMo.out.alloc _) wr.heap.size (.slice (some ⟨g2, 0, none⟩) (z.length + 70) cap2) rfl (cell_new _ _ _) rfl (by omega) (Nat.le_trans HMs2.out (by simp)) ?_
                       intro a5' c5' w15 o5 g5 _
                       have HN2 := hide (HNx.out _ _ _ _ o5 g5)
                       clear o5 g5)
                    | go_in)
                  exact ⟨⟨k + 1, a5', c5', _, by omega, by go_num, rfl, HN2.out⟩, by simp [intOf]; omega⟩
            · have hkX : k = X.length := by omega
              subst hkX
              have HE13 : Hid (Env Wk T S tb fb L N w3.heap.size w4.heap.size w9.heap.size w10.heap.size (.slice a4 A.length c4) (.slice aw A.length cw) A) := hide (HE12.out.but hM.but (fun g ⟨x, hx, hg⟩ => by have := HLx.out.1 x hx g hg; have := S34.out; omega))
              have HK13 : Hid (Mk2 Wk w5.heap.size W12.heap.size xa xc X xvals ma mc mvals) := hide hM.mk2
              have HB313 : Hid (Below w3.heap.size w3 Wk) := hide (HB312.out.trans (hM.but.below HB312.out.size (fun g ⟨x, hx, hg⟩ => by have := HLx.out.1 x hx g hg; have := S34.out; omega)))
              have HS13 : Hid (w5.heap.size ≤ W12.heap.size ∧ w3.heap.size ≤ Wk.heap.size) := hide ⟨by have := S34.out; have := HS12.out; omega, HB313.out.size⟩
              have hltI : ¬ (X.length : Int) < X.length := by omega
              have hAm : (A.length : Int) ≤ 4294967296 := by omega
              clear hM HM HE12 HX12 HB312 HS12
              go_wp2_with (first
                | (at_builtin; refine append_m Wk sM rfl _ _ rfl w3.heap.size (.slice a4 A.length c4) A.length (A.map Value.string) rfl HE13.out.ra rfl hAm HS13.out.2 ?_
                   intro g1 cap1 w13 hn1 hk1 hg1 hl1
                   have HC1 := hide (Gon.start hn1 hk1 hg1 hl1)
                   clear hn1 hk1 hg1 hl1)
                | go_in)
              have HC2 : Hid (Gon Wk w13 w3.heap.size 9 (.slice a4 A.length c4) A.length (A.map Value.string) g1 cap1 1 (List.replicate 1 (.string sM))) := HC1.out
              clear HC1
              go_loopw [25, 26] (fun cv kv wr' => ∃ q g cap : Nat, 1 ≤ q ∧ q ≤ 70 ∧ kv = .int .i64 (q : Int) ∧ cv = .slice (some ⟨g, 0, none⟩) (A.length + q) cap ∧ Gon Wk wr' w3.heap.size 9 (.slice a4 A.length c4) A.length (A.map Value.string) g cap q (List.replicate q (.string sM))) (fun _ kv _ => 70 - (intOf kv).toNat)
              case atStart => exact ⟨1, g1, cap1, Nat.le_refl _, by decide, rfl, rfl, HC2.out⟩
              case round =>
                clear HC2
                obtain ⟨q, g2, cap2, hq1, hq2, rfl, rfl, hGn⟩ := hrel
                have HGn : Hid _ := hide hGn
                by_cases hlq : q < 70
                · have hlqI : (q : Int) < 70 := by omega
                  have HBq : Hid (w3.heap.size ≤ wr.heap.size) := hide (Nat.le_trans HS13.out.2 hGn.but.size)
                  have hAq : ((A.length + q : Nat) : Int) ≤ 4294967296 := by omega
                  clear hGn
                  go_wp2_with (first
                    | (at_builtin; refine append_m wr sM rfl _ _ rfl w3.heap.size (.slice (some ⟨g2, 0, none⟩) (A.length + q) cap2) (A.length + q) (A.map Value.string ++ List.replicate q (.string sM)) rfl HGn.out.new rfl hAq HBq.out ?_
                       intro g3 cap3 w14 hn1 hk1 hg1 hl1
                       have HG3 := hide (HGn.out.step hn1 hk1 hg1 hl1)
                       clear hn1 hk1 hg1 hl1)
                    | go_in)
                  have hG4 : Gon Wk w14 w3.heap.size 9 (.slice a4 A.length c4) A.length (A.map Value.string) g3 cap3 (q + 1) (List.replicate (q + 1) (.string sM)) := by
                    rw [List.replicate_succ']
                    exact HG3.out
                  exact ⟨⟨q + 1, g3, cap3, by omega, by omega, by go_num, rfl, hG4⟩, by simp [intOf]; omega⟩
                · have hq70 : q = 70 := by omega
                  subst hq70
                  have HE14 : Hid _ := hide (HE13.out.mid hGn)
                  have HK14 : Hid (Mk2 wr w5.heap.size W12.heap.size xa xc X xvals ma mc mvals) := hide (HK13.out.but hGn.but (fun g hg => by have := HE13.out.la g hg; have := S34.out; omega) HS13.out.1)
                  have HB314 : Hid (Below w3.heap.size w3 wr) := hide (HB313.out.trans (hGn.but.below HB313.out.size (fun g hg => (HE13.out.ra.lt g hg).1)))
                  have HCr : Hid (wr.ownsRow w3.heap.size 9 1 (.slice (some ⟨g2, 0, none⟩) (A.length + 70) cap2) (A.length + 70) (A.map Value.string ++ List.replicate 70 (.string sM))) := hGn.new
                  have HQa : Hid _ := hide (HEn.out wr HE14.out.st)
                  clear hGn HGn HE13 HK13 HB313
                  go_wp2_with fail
                  refine HQa.out.mono ?_
                  rintro e w15 ⟨za, zc, zvals, rfl, hlz, hb15⟩
                  have HZ15 : Hid _ := hide hlz
                  have HE15 : Hid _ := hide (HE14.out.below hb15)
                  have HB15 : Hid (Below wr.heap.size wr w15) := hb15
                  have HQb : Hid _ := hide (HSk.out w15 HE15.out.st)
                  clear hlz hb15 HQa HE14
                  go_wp2_with fail
                  refine HQb.out.mono ?_
                  rintro e w16 ⟨da, dc, rfl, hod, hb16⟩
                  have HD16 : Hid _ := hide hod
                  have HE16 : Hid _ := hide (HE15.out.below hb16)
                  have HZ16 : Hid _ := hide (HZ15.out.below hb16)
                  have HBr16 : Hid (Below wr.heap.size wr w16) := hide (HB15.out.trans (hb16.mono HB15.out.size))
                  have HK16 : Hid (Mk2 w16 w5.heap.size W12.heap.size xa xc X xvals ma mc mvals) := hide (HK14.out.below HBr16.out HS13.out.1)
                  have HC16 : Hid (w16.cell? ⟨g2, A.length, none⟩ = some (.string sM)) := hide (by
                    have o16 := own_but (S := fun _ => False) HCr.out (But.of_below HBr16.out) (fun _ _ e => e)
                    rw [o16.cellAt A.length (by omega), List.getElem?_append_right (by rw [List.length_map]; exact Nat.le_refl _)]
                    simp)
                  have hcp : (A.length : Int) + 70 ≤ cap2 := by have := (own_capB HCr.out).1; omega
                  have HB316 : Hid (Below w3.heap.size w3 w16) := hide (HB314.out.trans (HBr16.out.mono HB314.out.size))
                  clear hod hb16 HQb HE15 HZ15 HB15 HK14 HCr HB314 HBr16
                  go_wp2
                  go_loopw [31] (fun iv wr => ∃ k q : Nat, k ≤ X.length ∧ iv = .int .i64 k ∧ wr = w16.drewN q) (fun iv _ => X.length - (intOf iv).toNat)
                  case atStart => exact ⟨0, 0, Nat.zero_le _, rfl, rfl⟩
                  case round =>
                    obtain ⟨k, p, hk, rfl, hw⟩ := hrel
                    have HW : Hid _ := hide hw
                    by_cases hlt : k < X.length
                    · have hltI : (k : Int) < X.length := by omega
                      have hgk : X[k]? = some (X.getD k []) := by rw [List.getD_eq_getElem?_getD]; simp [hlt]
                      have hzl : ((X.getD k []).length : Int) ≤ 4000000000 := HXz.out _ (List.mem_of_getElem? hgk)
                      have HAt : Hid _ := hide (HK16.out.at hlt)
                      obtain ⟨z, hz⟩ : ∃ z, z = X.getD k [] := ⟨_, rfl⟩
                      rw [← hz] at HAt hzl
                      clear hw hgk hz
                      go_wp2
                      go_loopw [32] (fun kv wr' => ∃ j q : Nat, j ≤ 35 ∧ kv = .int .i64 (2 * (j : Int)) ∧ wr' = w16.drewN q) (fun kv _ => 70 - (intOf kv).toNat)
                      case atStart => exact ⟨0, p, by decide, rfl, HW.out⟩
                      case round =>
                        clear HW
                        obtain ⟨j, p, hj, rfl, hw⟩ := hrel
                        have HW : Hid _ := hide hw
                        by_cases hlj : j < 35
                        · have hljI : 2 * (j : Int) < 70 := by omega
                          obtain ⟨G, M, g, cc, ab, cb, hG, hMa, h1, h2, h3⟩ := HAt.out
                          obtain ⟨h3, h4⟩ := h3 j hlj
                          have e1 : wr.cell? ⟨G, k, none⟩ = some (.slice ab z.length cb) := by rw [hw]; exact cell_drewN h1 p
                          have e2 : wr.cell? ⟨M, k, none⟩ = some (.slice (some ⟨g, 0, none⟩) (z.length + 70) cc) := by rw [hw]; exact cell_drewN h2 p
                          have e3 : wr.cell? ⟨g, z.length + 2 * j, none⟩ = some (.int .u8 ((k : Int) % 256)) := by rw [hw]; exact cell_drewN h3 p
                          have e4 : wr.cell? ⟨g, z.length + 2 * j + 1, none⟩ = some (.int .u8 ((k : Int) / 256 % 256)) := by rw [hw]; exact cell_drewN h4 p
                          clear h1 h2 h3 h4 hw
                          subst hG hMa
                          go_wp2
                          go_quiet (fail)
                          go_wp2
                          exact ⟨⟨j + 1, p + nq, by omega, by go_num, by rw [HW.out]; exact World.drewN_drewN _ _ _⟩, by simp [intOf]; omega⟩
                        · have hljI : ¬ 2 * (j : Int) < 70 := by omega
                          clear hw
                          go_wp2
                          exact ⟨⟨k + 1, p, by omega, by go_num, HW.out⟩, by simp [intOf]; omega⟩
                    · have hltI : ¬ (k : Int) < X.length := by omega
                      have HBw1 : Hid (Below w16.heap.size w16 wr) := hide (by rw [hw]; exact below_drewN (Below.refl _ _) p)
                      have HE17 : Hid _ := hide (HE16.out.below HBw1.out)
                      have HQ1 := texts_any a4 aw A.length c4 A.length cw A A wr (SRow.of_own HE17.out.ra) (SRow.of_own HE17.out.rw) (by omega)
                      rw [eqB_self] at HQ1
                      have HQ1 := hide HQ1
                      have HD17 : Hid _ := hide (own_but (S := fun _ => False) HD16.out (But.of_below HBw1.out) (fun _ _ e => e))
                      have HZ17 : Hid _ := hide (HZ16.out.below HBw1.out)
                      have HX17 : Hid _ := hide (HK16.out.xl.below HBw1.out)
                      have HC17 : Hid (wr.cell? ⟨g2, A.length, none⟩ = some (.string sM)) := hide (by rw [hw]; exact cell_drewN HC16.out p)
                      clear hw
                      go_wp2_with fail
                      refine HQ1.out.mono ?_
                      rintro e w17 ⟨rfl, m17, hw17⟩
                      have HB17 : Hid (Below wr.heap.size wr w17) := hide (by rw [hw17]; exact below_drewN (Below.refl _ _) m17)
                      have HE18 : Hid _ := hide (HE17.out.below HB17.out)
                      have HQ2 := texts_any da aw A.length dc A.length cw A A w17 (SRow.of_own (own_but (S := fun _ => False) HD17.out (But.of_below HB17.out) (fun _ _ e => e))) (SRow.of_own HE18.out.rw) (by omega)
                      rw [eqB_self] at HQ2
                      have HQ2 := hide HQ2
                      have HC18 : Hid (w17.cell? ⟨g2, A.length, none⟩ = some (.string sM)) := hide (by rw [hw17]; exact cell_drewN HC17.out m17)
                      clear hw17 HQ1
                      go_wp2_with fail
                      refine HQ2.out.mono ?_
                      rintro e w18 ⟨rfl, m18, hw18⟩
                      have HB18 : Hid (Below wr.heap.size wr w18) := hide (by rw [hw18]; exact below_drewN HB17.out m18)
                      have hXz' : ∀ z ∈ X, (z.length : Int) ≤ 140737488355328 := fun z hz => by have := HXz.out z hz; omega
                      have HQ3 := sl_any xa za X.length xc X.length zc X X w18 ((HX17.out.below HB18.out).lrow hXz') ((HZ17.out.below HB18.out).lrow hXz') (by omega)
                      rw [decide_eq_true (show X = X from rfl)] at HQ3
                      have HQ3 := hide HQ3
                      have HC19 : Hid (w18.cell? ⟨g2, A.length, none⟩ = some (.string sM)) := hide (by rw [hw18]; exact cell_drewN HC18.out m18)
                      clear hw18 HQ2 hXz'
                      go_wp2_with fail
                      refine HQ3.out.mono ?_
                      rintro e w19 ⟨rfl, m19, hw19⟩
                      have HBe : Hid (Below w.heap.size w w19) := hide (by
                        have b1 : Below w16.heap.size w16 w18 := HBw1.out.trans (HB18.out.mono HBw1.out.size)
                        have b2 : Below w3.heap.size w3 w18 := HB316.out.trans (b1.mono HB316.out.size)
                        have b3 : Below w.heap.size w w18 := HBw.out.trans (b2.mono HBw.out.size)
                        rw [hw19]; exact below_drewN b3 m19)
                      have hc20 : w19.cell? ⟨g2, A.length, none⟩ = some (.string sM) := by rw [hw19]; exact cell_drewN HC19.out m19
                      have hq : (sM.toList == [109]) = true := by rw [ByteArray.toList_eq]; rfl
                      clear hw19 HQ3
                      go_wp2
                      go_ret
                      exact ⟨rfl, HBe.out⟩
end Go.Proofs.Ytjpccaeojimlfaa
