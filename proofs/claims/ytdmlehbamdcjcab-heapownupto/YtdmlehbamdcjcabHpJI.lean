/-
  Merge, the walk.
-/
import Derived.Test.YtdmlehbamdcjcabHpNI
import Derived.Test.YtdmlehbamdcjcabMgM
namespace Go.Proofs.Ytdmlehbamdcjcab
open Go.RowKit
def slLen : Value → Nat
  | .slice _ n _ => n
  | _ => 0
/-- What is left of lists, the first i of them without their heads. -/
def LeftI (w : World) (ss : List Sl) (Cs : List (List It)) (i : Nat) : Prop := ∀ (j : Nat) (s : Sl) (C : List It), ss[j]? = some s → Cs[j]? = some C → SitsI w s (if j < i then C.tail else C)
theorem LeftI.step {w : World} {ss : List Sl} {Cs : List (List It)} {i : Nat} {s s' : Sl} {C : List It} (h : LeftI w ss Cs i) (hs : ss[i]? = some s) (hC : Cs[i]? = some C) (hn : SitsI w s C → SitsI w s' C.tail) : LeftI w (ss.set i s') Cs (i + 1) := by
  intro j t D ht hD
  rw [List.getElem?_set] at ht
  by_cases hij : i = j
  · subst hij
    rw [if_pos rfl, if_pos (get_lt hs)] at ht
    rw [hC] at hD
    rw [← Option.some.inj ht, ← Option.some.inj hD, if_pos (Nat.lt_succ_self _)]
    have := h i s C hs hC
    rw [if_neg (Nat.lt_irrefl _)] at this
    exact hn this
  · rw [if_neg hij] at ht
    have := h j t D ht hD
    by_cases hji : j < i
    · rw [if_pos hji] at this; rw [if_pos (by omega)]; exact this
    · rw [if_neg hji] at this; rw [if_neg (by omega)]; exact this
/-- What is left of lists whose heads are in the heap. -/
def TailsI (w : World) (ss : List Sl) (cur : List (List It)) : Prop := ∀ (j : Nat) (s : Sl) (C : List It), ss[j]? = some s → cur[j]? = some C → SitsI w s C.tail
theorem TailsI.step {w : World} {ss : List Sl} {cur : List (List It)} {k : Nat} {s s' : Sl} {x : It} {t : List It} (h : TailsI w ss cur) (hs : ss[k]? = some s) (hC : cur[k]? = some (x :: t)) (hn : SitsI w s t → SitsI w s' t.tail) : TailsI w (ss.set k s') (cur.set k t) := by
  intro j u D hu hD
  rw [List.getElem?_set] at hu hD
  by_cases hij : k = j
  · subst hij
    rw [if_pos rfl, if_pos (get_lt hs)] at hu
    rw [if_pos rfl, if_pos (get_lt hC)] at hD
    rw [← Option.some.inj hu, ← Option.some.inj hD]
    exact hn (h k s _ hs hC)
  · rw [if_neg hij] at hu hD
    exact h j u D hu hD
/-- The next that comes, and what is left in the heap. -/
theorem top_step {cur : List (List It)} {E E' : List (It × Int)} {d : It × Int} (hp : E.Perm (heads cur 0)) (hd : E[0]? = some d) (hE : E'.Perm (cutTop E)) : ∃ (k : Nat) (t : List It), d.2 = (k : Int) ∧ cur[k]? = some (d.1 :: t) ∧ E'.Perm (heads (cur.set k []) 0) := by
  obtain ⟨k, t, h1, h2⟩ := heads_mem (hp.mem_iff.mp (List.mem_of_getElem? hd))
  refine ⟨k, t, by omega, h1, ?_⟩
  have h3 := heads_set cur k (d.1 :: t) 0 (get_lt h1)
  rw [set_self h1] at h3
  have h4 : ((d.1, 0 + (k : Int)) :: heads (cur.set k []) 0).Perm (heads cur 0) := by
    refine List.Perm.trans ?_ h3.symm
    simp only [heads]
    exact (List.perm_append_singleton _ _).symm
  have h5 : d = (d.1, 0 + (k : Int)) := by rw [← h2]
  rw [← h5] at h4
  exact hE.trans (List.Perm.cons_inv ((cutTop_perm hd).symm.trans (hp.trans h4.symm)))
set_option maxRecDepth 8000 in
set_option maxHeartbeats 6400000 in
theorem mergeI (w : World) (a : Option Addr) (N c : Nat) (ss : List Sl) (Cs : List (List It)) (hr : TRow laySl w a N ss) (h0 : a = none → N = 0 ∧ c = 0) (hCl : Cs.length = N) (hS : ∀ (j : Nat) (s : Sl) (C : List It), ss[j]? = some s → Cs[j]? = some C → SitsI w s C) (hN : (N : Int) ≤ 4000000000000) (hT : (total Cs : Int) ≤ 4000000000000) :
    Calls Try.prog 20 #[.slice a N c] w fun r w' => ∃ v O, r = .returned v ∧ Own layI 28 w' w.heap.size v O ∧ Mrg (fst bfI) Cs O ∧ Below w.heap.size w w' := by
  obtain ⟨i0, hi, hz0, hz1, hz2⟩ := info_parts Try.infoTI
  obtain ⟨T, hTT⟩ : ∃ T, T = total Cs := ⟨_, rfl⟩
  rw [← hTT] at hT
  have HTT : Hid _ := hide hTT
  have HSS : Hid (ss.length = N) := hide hr.len
  have HCL : Hid _ := hide hCl
  have HL0 : Hid (LeftI w ss Cs 0) := hide (fun j s C h1 h2 => by rw [if_neg (Nat.not_lt_zero _)]; exact hS j s C h1 h2)
  have HR : Hid _ := hide hr
  have HA0 : Hid _ := hide h0
  clear hTT hCl hS hr h0
  go_enter Try.func20, Try.ntmps20
  go_wp2_with fail
  refine (newI w).mono ?_
  rintro r w1 ⟨rfl, h1, b1⟩
  have CL := clonesI w1 a N c ss (HR.out.below b1) HA0.out (by omega)
  have H1 : Hid _ := hide h1
  have B1 : Hid _ := hide b1
  clear h1 b1
  go_wp2_with fail
  refine CL.mono ?_
  rintro r w2 ⟨v2, rfl, o2, b2⟩
  obtain ⟨a2, c2, hv2, _, _⟩ := own_form o2
  rw [HSS.out] at hv2
  subst hv2
  have O2 : Hid _ := hide (o2.mono B1.out.size)
  have H2 : Hid _ := hide (H1.out.below b2)
  have B2 : Hid _ := hide (Below.on B1.out b2)
  clear CL o2 b2
  go_wp2_with fail
  go_loopw [13] (fun si wr => ∃ (i : Nat) (v : Value) (E : List (It × Int)) (us : List Sl), si = .int .i64 i ∧ i ≤ N ∧ HqI wr w.heap.size w.heap.size v 0 E ∧ E.Perm (heads (Cs.take i) 0) ∧ (Ord (fst bfI) → Hp (fst bfI) E) ∧ Own laySl 24 wr w.heap.size (.slice a2 N c2) us ∧ us.length = N ∧ LeftI w us Cs i ∧ Below w.heap.size w wr) (fun si _ => N - (intOf si).toNat)
  case atStart => exact ⟨0, _, [], ss, rfl, Nat.zero_le _, H2.out, .refl _, fun _ i x y _ hx => by simp at hx, O2.out, HSS.out, HL0.out, B2.out⟩
  case round =>
    obtain ⟨i, v, E, us, rfl, hiN, hq, hpe, hhp, ho, hus, hle, hb⟩ := hrel
    have HQ : Hid _ := hide hq
    have HPE : Hid _ := hide hpe
    have HHP : Hid _ := hide hhp
    have HO : Hid _ := hide ho
    have HUS : Hid _ := hide hus
    have HLE : Hid _ := hide hle
    have HB : Hid _ := hide hb
    clear hq hpe hhp ho hus hle hb
    by_cases hlt : i < N
    · have hltI : (i : Int) < (N : Int) := by omega
      obtain ⟨s, hs⟩ : ∃ s, us[i]? = some s := ⟨_, List.getElem?_eq_getElem (by rw [HUS.out]; exact hlt)⟩
      obtain ⟨C, hC⟩ : ∃ C, Cs[i]? = some C := ⟨_, List.getElem?_eq_getElem (by rw [HCL.out]; exact hlt)⟩
      obtain ⟨gl, c9, hv9, -⟩ := HO.out.frm (by rw [HUS.out]; omega)
      injection hv9 with e1 e2 e3
      subst e1
      clear e2 e3
      have hsit : SitsI w s C := by
        have := HLE.out i s C hs hC
        rw [if_neg (Nat.lt_irrefl _)] at this
        exact this
      have hEl : (E.length : Int) + 1 ≤ 5000000000000 := by
        have := heads_le (Cs.take i) 0
        rw [List.length_take] at this
        rw [HPE.out.length_eq]
        omega
      have PH := putHeadI wr w.heap.size w.heap.size gl N c2 i v 0 E us s C HQ.out HO.out HUS.out hlt hs (hsit.below HB.out) HB.out.size hEl
      have HS : Hid _ := hide hs
      have HC : Hid _ := hide hC
      clear hs hC hsit hEl
      go_wp2_with fail
      refine PH.mono ?_
      rintro r w3 ⟨rfl, v3, s3, E3, h3, p3, hh3, o3, hn3, b3, _⟩
      have HPF : E3.Perm (heads (Cs.take (i + 1)) 0) := by
        rw [take_snoc HC.out, heads_append, List.length_take, HCL.out, Nat.min_eq_left (by omega), Int.zero_add]
        exact p3.trans (HPE.out.append_right _)
      have B3 : Hid (Below w.heap.size w w3) := hide (HB.out.trans (b3.below HB.out.size (fun k hk => by
        rcases hk with e9 | e9 | e9
        · omega
        · exact (HQ.out.own.lt k e9).1
        · have := (HO.out.lt gl rfl).1; omega)))
      have H3 : Hid _ := hide h3
      have P3 : Hid _ := hide HPF
      have HH3 : Hid (Ord (fst bfI) → Hp (fst bfI) E3) := hide (fun o => hh3 o (HHP.out o))
      have O3 : Hid _ := hide o3
      have L3 : Hid _ := hide (HLE.out.step HS.out HC.out (hn3 w))
      clear PH h3 p3 hh3 o3 hn3 b3 HPF
      go_wp2_with fail
      exact ⟨⟨i + 1, v3, E3, us.set i s3, by go_num, by omega, H3.out, P3.out, HH3.out, O3.out, by rw [List.length_set]; exact HUS.out, L3.out, B3.out⟩, by simp [intOf]; omega⟩
    · have hiN' : i = N := by omega
      have P4 : Hid (E.Perm (heads Cs 0)) := hide (by
        have h9 := HPE.out
        rw [hiN', List.take_of_length_le (by rw [HCL.out]; exact Nat.le_refl _)] at h9
        exact h9)
      have L4 : Hid (TailsI w us Cs) := hide (fun j s C h1 h2 => by
        have h9 := HLE.out j s C h1 h2
        rw [hiN', if_pos (by rw [← HCL.out]; exact get_lt h2)] at h9
        exact h9)
      have hltI : ¬ (i : Int) < (N : Int) := by omega
      clear hiN' HPE HLE
      go_wp2_with fail
      rename World => Wz
      go_loopw [6] (fun sm wx => ∃ (v : Value) (E : List (It × Int)) (us : List Sl) (cur : List (List It)) (O : List It), Own layI 28 wx w.heap.size sm O ∧ HqI wx w.heap.size w.heap.size v 0 E ∧ E.Perm (heads cur 0) ∧ (Ord (fst bfI) → Hp (fst bfI) E) ∧ Own laySl 24 wx w.heap.size (.slice a2 N c2) us ∧ us.length = N ∧ cur.length = N ∧ TailsI w us cur ∧ (∀ R, Mrg (fst bfI) cur R → Mrg (fst bfI) Cs (O ++ R)) ∧ O.length + total cur = T ∧ Below w.heap.size w wx) (fun sm _ => T - slLen sm)
      case atStart => exact ⟨v, E, us, Cs, [], Own.nil _ _ _ _, HQ.out, P4.out, HHP.out, HO.out, HUS.out, HCL.out, L4.out, fun R h => h, by rw [HTT.out]; simp, HB.out⟩
      case round =>
        obtain ⟨v5, E5, us5, cur, O, ho5, hq5, hpe5, hhp5, hl5, hus5, hcu5, htl5, hmr5, htt5, hb5⟩ := hrel
        rename World => wx
        have HM5 : Hid _ := hide ho5
        have HQ5 : Hid _ := hide hq5
        have HP5 : Hid _ := hide hpe5
        have HH5 : Hid _ := hide hhp5
        have HO5 : Hid _ := hide hl5
        have HU5 : Hid _ := hide hus5
        have HC5 : Hid _ := hide hcu5
        have HT5 : Hid _ := hide htl5
        have HR5 : Hid _ := hide hmr5
        have HTT5 : Hid _ := hide htt5
        have HB5 : Hid _ := hide hb5
        obtain ⟨av, cv, hvv, hnil, hcap⟩ := own_form ho5
        obtain ⟨m, hm9⟩ : ∃ m, m = O.length := ⟨_, rfl⟩
        rw [← hm9] at hvv hnil hcap htt5
        subst hvv
        have HML : Hid _ := hide hm9
        have LE := lenI hq5
        obtain ⟨el, hel⟩ : ∃ el, el = E5.length := ⟨_, rfl⟩
        rw [← hel] at LE
        have HEL : Hid _ := hide hel
        have hmT : m ≤ T := by omega
        clear ho5 hq5 hpe5 hhp5 hl5 hus5 hcu5 htl5 hmr5 htt5 hb5 hm9 hnil hel
        go_wp2_with fail
        refine LE.mono ?_
        rintro r w6 ⟨rfl, rfl⟩
        clear LE
        by_cases he0 : el = 0
        · have hE0 : E5 = [] := List.length_eq_zero_iff.mp (by rw [← HEL.out]; exact he0)
          have hh0 : heads cur 0 = [] := by have := HP5.out; rw [hE0] at this; exact this.symm.eq_nil
          have d1 : decide ((0 : Int) < (el : Int)) = false := decide_eq_false (by omega)
          have d2 : ¬ (0 : Int) < (el : Int) := by omega
          have HMG : Hid (Mrg (fst bfI) Cs O) := hide (by have := HR5.out [] (.done hh0); rw [List.append_nil] at this; exact this)
          clear hE0 hh0 he0
          go_wp2_with fail
          go_ret
          exact ⟨_, O, rfl, HM5.out, HMG.out, HB5.out⟩
        · obtain ⟨M, hM⟩ : ∃ M, el = M + 1 := ⟨el - 1, by omega⟩
          have hEM : E5.length = M + 1 := by rw [← HEL.out]; exact hM
          obtain ⟨e, he⟩ : ∃ e, E5[0]? = some e := ⟨_, List.getElem?_eq_getElem (by omega)⟩
          obtain ⟨g5, c5, hv5, -⟩ := HQ5.out.own.frm (by omega)
          rw [hEM] at hv5
          subst hv5
          have hMb : (M : Int) + 1 ≤ 5000000000000 := by
            have h7 := heads_le cur 0
            rw [← HP5.out.length_eq, hEM, HC5.out] at h7
            omega
          have TK := takeI w6 w.heap.size w.heap.size g5 c5 M 0 E5 e hEM he HQ5.out.hp HQ5.out.own hMb
          have d2 : 0 < el := by omega
          have HE : Hid _ := hide he
          have HEM : Hid _ := hide hEM
          have HMEQ : Hid _ := hide hM
          obtain ⟨⟨y0, y1⟩, yu⟩ := e
          have HMB : Hid _ := hide hMb
          clear he hEM hM he0 hMb
          go_wp2_with fail
          refine TK.mono ?_
          rintro r w7 ⟨rfl, E7, hp7, ho7, hpe7, hhp7, hb7⟩
          obtain ⟨k, t, hyk, hcur, hp8⟩ := top_step HP5.out HE.out hpe7
          have hyk' : yu = (k : Int) := hyk
          subst hyk'
          have hcur' : cur[k]? = some ((⟨y0, y1⟩ : It) :: t) := hcur
          have hkN : k < N := by have := get_lt hcur; rw [HC5.out] at this; exact this
          have HMIN : Hid (Ord (fst bfI) → ∀ e ∈ heads cur 0, fst bfI e ((⟨y0, y1⟩ : It), (k : Int)) = false) := hide (fun o e he => by
            obtain ⟨j, hj⟩ := List.mem_iff_getElem?.mp (HP5.out.mem_iff.mpr he)
            exact (HH5.out o).least o HE.out j e hj)
          obtain ⟨s, hs⟩ : ∃ s, us5[k]? = some s := ⟨_, List.getElem?_eq_getElem (by rw [HU5.out]; exact hkN)⟩
          obtain ⟨gl, c9, hv9, -⟩ := HO5.out.frm (by rw [HU5.out]; omega)
          injection hv9 with e1 e2 e3
          subst e1
          clear e2 e3
          have hsit : SitsI w s t := HT5.out k s _ hs hcur
          have HSIT : Hid _ := hide hsit
          have hH6 := HQ5.out.hp
          have hg6 : w.heap.size ≤ g5 := (HQ5.out.own.lt g5 rfl).1
          obtain ⟨cur5, hcur5⟩ := own_at HQ5.out.own g5 rfl
          have o7 : Own layI 28 w7 w.heap.size (.slice av m cv) O := HM5.out.but hb7 (fun g' hg' => by
            obtain ⟨cc, hcc⟩ := own_at HM5.out g' hg'
            rintro (e9 | e9)
            · exact ty_neN hcc hH6 (by decide) e9
            · exact ty_neN hcc hcur5 (by decide) e9)
          have l7 : Own laySl 24 w7 w.heap.size (.slice (some ⟨gl, 0, none⟩) N c2) us5 := HO5.out.but hb7 (fun g' hg' => by
            obtain ⟨cc, hcc⟩ := own_at HO5.out g' hg'
            rintro (e9 | e9)
            · exact ty_neN hcc hH6 (by decide) e9
            · exact ty_neN hcc hcur5 (by decide) e9)
          have b7 : Below w.heap.size w w7 := HB5.out.trans (hb7.below HB5.out.size (fun b hb => by
            rcases hb with e9 | e9 <;> omega))
          have HQ7 : Hid (HqI w7 w.heap.size w.heap.size (.slice (some ⟨g5, 0, none⟩) M c5) 0 E7) := hide ⟨hp7, ho7⟩
          have HHP7 : Hid (Ord (fst bfI) → Hp (fst bfI) E7) := hide (fun o => hhp7 o (HH5.out o))
          have HP8 : Hid _ := hide hp8
          have HCUR : Hid _ := hide hcur'
          have HS : Hid _ := hide hs
          have O7 : Hid _ := hide o7
          have L7 : Hid _ := hide l7
          have B7 : Hid _ := hide b7
          have HTS : Hid _ := hide (total_set hcur')
          have hmb : (m : Int) + 1 ≤ 4000000000000 := by have h1 := HTS.out; have h2 := HTT5.out; rw [← HML.out] at h2; omega
          have HE7 : Hid (E7.length = M) := hide (by
            have h1 := ho7
            obtain ⟨_, _, h2, _, _⟩ := own_form h1
            injection h2 with _ h2 _
            exact h2.symm)
          clear TK hp7 ho7 hpe7 hhp7 hb7 hyk hcur hcur' hp8 hs hsit hH6 hg6 hcur5 o7 l7 b7
          go_upto_region 11 with (at_builtin; refine append_lay layI _ 24 28 i0 _ 16 Try.underlying24 hi hz0 hz1 hz2 rfl rfl (.tmp 26) (.tmp 29) rfl w.heap.size _ _ rfl (O7.out.below (below_alloc2 _ _ _)) _ _ _ [(⟨y0, y1⟩ : It)] rfl (TRow.one (heap_new2 _ _ _)) (fun e => by cases e) (by rw [← HML.out]; unfold maxLen; omega) (by rw [← HML.out]; omega) (by simp; have := B7.out.size; omega) ?_; intro v9 w9 hown9 hgr9 hl9)
          have bg := But.of_grown (S := fun b => (Value.slice av m cv).ownBlock = some b) hgr9 (fun _ e9 => e9)
          have bw : Below w7.heap.size w7 ((w7.alloc (.cells #[.int .i64 y0, .int .i64 y1, .int .i64 k] 59 (0, 0))).alloc (.cells #[.int .i64 y0, .int .i64 y1] 28 (0, 0))) := below_alloc2 _ _ _
          have hx9 : w9.heap[w7.heap.size]? = some (.cells #[.int .i64 y0, .int .i64 y1, .int .i64 k] 59 (0, 0)) := by
            rw [bg.block w7.heap.size (by simp; omega) (fun e9 => by have := (O7.out.lt _ e9).2; omega)]
            rw [(below_alloc1 (w7.alloc (.cells #[.int .i64 y0, .int .i64 y1, .int .i64 k] 59 (0, 0))) _).block w7.heap.size (by simp)]
            exact heap_new _ _
          have z2 := cell_at (i := 2) (v := .int .i64 k) hx9 rfl
          have q9 : HqI w9 w.heap.size w.heap.size (.slice (some ⟨g5, 0, none⟩) M c5) 0 E7 := by
            refine (HQ7.out.below bw).but bg (fun e9 => ?_) (fun g' hg' e9 => ?_)
            · obtain ⟨cc, hcc⟩ := own_at O7.out _ e9
              exact ty_neN hcc HQ7.out.hp (by decide) rfl
            · obtain ⟨cc, hcc⟩ := own_at O7.out _ e9
              obtain ⟨cd, hcd⟩ := own_at HQ7.out.own _ hg'
              exact ty_neN hcc hcd (by decide) rfl
          have l9 : Own laySl 24 w9 w.heap.size (.slice (some ⟨gl, 0, none⟩) N c2) us5 := by
            refine (L7.out.below bw).but bg (fun g' hg' e9 => ?_)
            obtain ⟨cc, hcc⟩ := own_at O7.out _ e9
            obtain ⟨cd, hcd⟩ := own_at L7.out _ hg'
            exact ty_neN hcc hcd (by decide) rfl
          have b9 : Below w.heap.size w w9 := (B7.out.trans (bw.mono B7.out.size)).grown hgr9 (by have := B7.out.size; have := bw.size; omega) (fun g hg => (O7.out.lt g hg).1)
          obtain ⟨a9, c9x, hv9, _, _⟩ := own_form hown9
          have hlen9 : (O ++ [(⟨y0, y1⟩ : It)]).length = m + 1 := by rw [List.length_append, ← HML.out]; rfl
          rw [hlen9] at hv9
          subst hv9
          have PH := putHeadI w9 w.heap.size w.heap.size gl N c2 k _ 0 E7 us5 s t q9 l9 HU5.out hkN HS.out (HSIT.out.below b9) b9.size (by rw [HE7.out]; exact HMB.out)
          have Q9 : Hid _ := hide q9
          have L9 : Hid _ := hide l9
          have B9 : Hid _ := hide b9
          have O9 : Hid _ := hide hown9
          clear bg bw hx9 q9 l9 b9 hown9 hgr9 hl9 hlen9
          go_wp2_with fail
          refine PH.mono ?_
          rintro r w10 ⟨rfl, v10, s10, E10, h10, p10, hh10, o10, hn10, b10, hvo⟩
          have B10 : Hid (Below w.heap.size w w10) := hide (B9.out.trans (b10.below B9.out.size (fun b hb => by
            rcases hb with e9 | e9 | e9
            · omega
            · exact (Q9.out.own.lt b e9).1
            · have := (L9.out.lt gl rfl).1; omega)))
          have O10 : Hid (Own layI 28 w10 w.heap.size (.slice a9 (m + 1) c9x) (O ++ [(⟨y0, y1⟩ : It)])) := hide (O9.out.but b10 (fun g' hg' => by
            obtain ⟨cc, hcc⟩ := own_at O9.out g' hg'
            rintro (e9 | e9 | e9)
            · exact ty_neN hcc Q9.out.hp (by decide) e9
            · obtain ⟨cd, hcd⟩ := own_at Q9.out.own _ e9
              exact ty_neN hcc hcd (by decide) rfl
            · obtain ⟨cd, hcd⟩ := own_at L9.out gl rfl
              exact ty_neN hcc hcd (by decide) e9))
          have P10 : Hid (E10.Perm (heads (cur.set k t) 0)) := hide (by
            have h1 := heads_set cur k t 0 (get_lt HCUR.out)
            rw [Int.zero_add] at h1
            exact (p10.trans (HP8.out.append_right _)).trans h1.symm)
          have H10 : Hid _ := hide h10
          have HH10 : Hid (Ord (fst bfI) → Hp (fst bfI) E10) := hide (fun o => hh10 o (HHP7.out o))
          have L10 : Hid _ := hide o10
          have T10 : Hid _ := hide (HT5.out.step HS.out HCUR.out (hn10 w))
          clear PH h10 p10 hh10 o10 hn10 b10 hvo z2
          go_wp2_with fail
          refine ⟨⟨v10, E10, us5.set k s10, cur.set k t, O ++ [(⟨y0, y1⟩ : It)], O10.out, H10.out, P10.out, HH10.out, L10.out, by rw [List.length_set]; exact HU5.out, by rw [List.length_set]; exact HC5.out, T10.out, fun R hR => ?_, ?_, B10.out⟩, ?_⟩
          · have h1 := HR5.out _ (Mrg.step HCUR.out HMIN.out hR)
            rw [List.append_assoc]
            exact h1
          · have h1 := HTS.out
            have h2 := HTT5.out
            rw [List.length_append, List.length_singleton]
            omega
          · have h1 := HTS.out
            have h2 := HTT5.out
            rw [← HML.out] at h2
            show T - (m + 1) < T - m
            omega
end Go.Proofs.Ytdmlehbamdcjcab
