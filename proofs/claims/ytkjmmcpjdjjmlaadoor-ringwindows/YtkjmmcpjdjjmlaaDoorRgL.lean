/-
  RingWindows.
-/
import Derived.Test.YtkjmmcpjdjjmlaaDoorRgK
namespace Go.Proofs.YtkjmmcpjdjjmlaaDoor
open Go.RowKit Go.Maps Go.Shelf
theorem tk_g {x y : Ab} (h : y ∈ tk x) : 0 ≤ y.g ∧ y.g < 65536 := by
  unfold tk at h
  split at h
  · rename_i hc
    rw [List.mem_singleton.1 h]
    unfold chk at hc
    split at hc <;> (try omega)
  · cases h
theorem tk_len (x : Ab) : (tk x).length ≤ 1 := by unfold tk; split <;> simp
theorem Rd.sub {w : World} {b off n : Nat} {es : List Ev} (h : Rd w (some ⟨b, off, .none⟩) n es) {i : Nat} {x : Ev} (hx : es[i]? = some x) : Rd w (some ⟨b, off + i * 5, .none⟩) 1 [x] := by
  have hi := get_lt hx
  have hl := h.row.len
  have h9 := (h.row.drop i (by omega)).cut 1 (by omega)
  have e9 : (es.drop i).take 1 = [x] := by
    rw [List.drop_eq_getElem_cons hi]
    rw [List.getElem?_eq_getElem hi] at hx
    rw [Option.some.inj hx]; rfl
  rw [e9] at h9
  exact ⟨h9, fun e he => by rw [List.mem_singleton.1 he]; exact h.stk x (List.mem_of_getElem? hx)⟩
theorem cnt_drop {A : List Ab} {k : Nat} {x : Ab} (g : Int) (h : A[k]? = some x) : cnt g (A.drop k) = cnt g (A.drop (k + 1)) + (if x.g = g then 1 else 0) := by rw [drop_one h, cnt]
/-- What a walk over all and the window beside it knows. -/
structure At (n : Int) (A : List Ab) (i q : Nat) : Prop where
  eq : (win n A).drop q = win n (A.drop i)
theorem At.zero (n : Int) (A : List Ab) : At n A 0 0 := ⟨rfl⟩
theorem At.skip {n : Int} {A : List Ab} {i q : Nat} {x : Ab} (h : At n A i q) (hx : A[i]? = some x) (hc : ¬ (cnt x.g (A.drop (i + 1)) : Int) < n) : At n A (i + 1) q := ⟨by rw [h.eq, drop_one hx, win_neg hc]⟩
theorem At.take {n : Int} {A : List Ab} {i q : Nat} {x : Ab} (h : At n A i q) (hx : A[i]? = some x) (hc : (cnt x.g (A.drop (i + 1)) : Int) < n) : At n A (i + 1) (q + 1) ∧ (win n A)[q]? = some x := by
  have e := h.eq
  rw [drop_one hx, win_pos hc] at e
  refine ⟨⟨?_⟩, ?_⟩
  · have h9 := congrArg List.tail e
    rw [List.tail_drop] at h9
    exact h9
  · have h9 := congrArg List.head? e
    rw [List.head?_drop] at h9
    exact h9
theorem At.done {n : Int} {A : List Ab} {q : Nat} (h : At n A A.length q) (hq : q ≤ (win n A).length) : q = (win n A).length := by
  have e := h.eq
  rw [List.drop_length] at e
  have h9 := congrArg List.length e
  rw [List.length_drop] at h9
  have h8 : (win n ([] : List Ab)).length = 0 := rfl
  omega
set_option maxRecDepth 8000 in
set_option maxHeartbeats 4000000 in
theorem ring_windows (size : Int) (ta : Option Addr) (tn tc : Nat) (ts : List Ev) (n : Int) (w : World) (hK : Kr w) (hr : ERow w ta tn ts) (hok : ∀ e ∈ ts, e.ok) (ht : tn * 56 ≤ 140737488355328) :
    Calls Tryd.prog 3 #[.int .i64 size, .slice ta tn tc, .int .i64 n] w fun e w' => e = .returned (.bool true) ∧ Below w.heap.size w w' := by
  have HA := hide (alive_any w hK)
  have HK := hide hK
  have HR := hide hr
  have HO := hide hok
  have HT := hide ht
  have HTL := hide hr.len
  have htI : (tn : Int) ≤ 9223372036854775806 := by omega
  clear hK hr hok ht
  go_enter Tryd.func3, Tryd.ntmps3
  go_wp2_with fail
  refine HA.out.mono ?_
  rintro e w1 ⟨rfl, hb1⟩
  have HB1 := hide hb1
  clear hb1 HA
  by_cases hsz : size < 1 ∨ 65536 < size
  · have HN := hide (new_bad size w1 hsz)
    clear hsz
    go_wp2_with fail
    refine HN.out.mono ?_
    rintro e w2 ⟨rfl, hw2⟩
    rw [hw2]
    clear hw2 w2 HN
    go_wp2
    go_ret
    exact ⟨rfl, HB1.out⟩
  · obtain ⟨m, rfl⟩ : ∃ m : Nat, size = (m : Int) := ⟨size.toNat, by omega⟩
    have HN := hide (new_ok m w1 (by omega) (by omega))
    have hm1 : (m : Int) ≤ 65536 := by omega
    clear hsz
    go_wp2_with fail
    refine HN.out.mono ?_
    rintro e w2 ⟨rb, b, rfl, hb2, hR2, hrb, hbb⟩
    have HR2 := hide hR2
    have HB2 := hide (Below.on HB1.out hb2)
    have HG : Hid (w.heap.size ≤ rb ∧ w.heap.size ≤ b) := hide (by have := HB1.out.size; omega)
    clear hb2 hR2 hrb hbb HN
    by_cases hm4 : (4096 : Int) < (m : Int)
    · have hd : decide ((4096 : Int) < (m : Int)) = true := decide_eq_true hm4
      go_wp2
      go_ret
      exact ⟨rfl, HB2.out⟩
    · have hd : decide ((4096 : Int) < (m : Int)) = false := decide_eq_false hm4
      go_wp2_with fail
      go_loopw [10] (fun si wr => ∃ (j : Nat) (T : List Ab) (es : List Ev), si = .int .i64 j ∧ j ≤ tn ∧ T.length ≤ j ∧ Rg wr rb b m es T ∧ (∀ x ∈ T, 0 ≤ x.g ∧ x.g < 65536) ∧ Below w.heap.size w wr) (fun si _ => tn - (intOf si).toNat)
      case atStart => exact ⟨0, [], _, rfl, Nat.zero_le _, Nat.le_refl _, HR2.out, (fun x hx => (by cases hx)), HB2.out⟩
      case round =>
        obtain ⟨j, T, es, rfl, hj, hTj, hRg, hTg, hB⟩ := hrel
        have HRg := hide hRg
        have HTg := hide hTg
        have HB := hide hB
        have HTj := hide hTj
        clear hTg hTj
        by_cases hlt : j < tn
        · have hjI : (j : Int) < tn := by omega
          obtain ⟨tb, off, x, rfl, hxj, c0, c1, c2, c3, c4, hst⟩ := (HR.out.bel hB).at hlt
          have hxo := HO.out x (List.mem_of_getElem? hxj)
          have HE := hide (emit_any hRg (HK.out.below hB (by have := HK.out.size; omega)) x.g x.k x.o x.a x.sa x.ls.length x.sc x.ls hst (by have := hxo.len; omega) (by have := HT.out; have := HTj.out; omega))
          clear hRg hB hxj hst hxo
          go_wp2_with fail
          refine HE.out.mono ?_
          rintro e w3 ⟨rfl, hb3, es3, hR3⟩
          have HR3 := hide hR3
          have HB3 := hide (HB.out.trans (Rg.bel HG.out.1 HG.out.2 HB.out.size hb3))
          have HT3 : Hid ((T ++ tk ⟨x.g, x.k, x.o, x.a, x.ls⟩).length ≤ j + 1) := hide (by rw [List.length_append]; have := tk_len ⟨x.g, x.k, x.o, x.a, x.ls⟩; have := HTj.out; omega)
          have HG3 : Hid (∀ y ∈ T ++ tk ⟨x.g, x.k, x.o, x.a, x.ls⟩, 0 ≤ y.g ∧ y.g < 65536) := hide (fun y hy => by
            rcases List.mem_append.1 hy with h | h
            · exact HTg.out y h
            · exact tk_g h)
          clear hb3 hR3 HE c0 c1 c2 c3 c4
          go_wp2
          exact ⟨⟨j + 1, _, es3, by go_num, by omega, HT3.out, HR3.out, HG3.out, HB3.out⟩, by simp [intOf]; omega⟩
        · have HS := hide (snap_any hRg)
          obtain ⟨A, hA⟩ : ∃ A, A = T.drop (T.length - m) := ⟨_, rfl⟩
          have hAl : (A.length : Int) ≤ 4096 := by rw [hA, List.length_drop]; omega
          rw [← hA] at HS
          clear hB hRg
          go_wp2_with fail
          refine HS.out.mono ?_
          rintro e w3 ⟨va, ea, rfl, hEa, hma, hb3⟩
          obtain ⟨aa, ca, hva, _, hca⟩ := hEa.form
          have hla : ea.length = A.length := by rw [← hma, List.length_map]
          obtain ⟨la, hlA⟩ : ∃ la, la = A.length := ⟨_, rfl⟩
          rw [hla, ← hlA] at hva hca
          subst hva
          have HWn := hide (window_any (HRg.out.below hb3) HTg.out n)
          rw [← hA] at HWn
          have HLA := hide (And.intro hlA hla)
          have HEa := hide hEa
          have HMa := hide hma
          have HRg3 := hide (HRg.out.below hb3)
          have HB3 := hide (Below.on HB.out hb3)
          have HAd := hide hA
          have hlaI : (la : Int) ≤ 4096 := by rw [hlA]; exact hAl
          clear hEa hma hb3 hla hlA hA hAl HS
          go_wp2_with fail
          refine HWn.out.mono ?_
          rintro e w4 ⟨vw, ew, rfl, hEw, hmw, hb4⟩
          obtain ⟨aw, cw, hvw, _, hcw⟩ := hEw.form
          have hlw : ew.length = (win n A).length := by rw [← hmw, List.length_map]
          obtain ⟨lw, hlW⟩ : ∃ lw, lw = (win n A).length := ⟨_, rfl⟩
          rw [hlw, ← hlW] at hvw hcw
          subst hvw
          have hlwI : (lw : Int) ≤ 4096 := by have h9 := win_len n A; have h8 := HLA.out.1; omega
          have HLW := hide (And.intro hlW hlw)
          have HEw := hide hEw
          have HMw := hide hmw
          have HEa4 := hide (HEa.out.below hb4)
          have HRg4 := hide (HRg3.out.below hb4)
          have HB4 := hide (Below.on HB3.out hb4)
          clear hEw hmw hb4 hlw hlW HWn
          go_wp2_with fail
          go_loopw [13, 14] (fun sq si wr => ∃ (q i : Nat), sq = .int .i64 q ∧ si = .int .i64 i ∧ i ≤ la ∧ q ≤ lw ∧ At n A i q ∧ Below w4.heap.size w4 wr) (fun _ si _ => la - (intOf si).toNat)
          case atStart => exact ⟨0, 0, rfl, rfl, Nat.zero_le _, Nat.zero_le _, At.zero _ _, Below.refl _ _⟩
          case round =>
            obtain ⟨q, i, rfl, rfl, hi, hq, hAt, hbr⟩ := hrel
            have HAt := hide hAt
            have HBr := hide hbr
            clear hAt hbr
            by_cases hlt2 : i < la
            · have hiI : (i : Int) < la := by omega
              obtain ⟨x, hx⟩ : ∃ x, ea[i]? = some x := ⟨_, List.getElem?_eq_getElem (by have := HLA.out; omega)⟩
              have hAx : A[i]? = some x.ab := by rw [← HMa.out, List.getElem?_map, hx]; rfl
              obtain ⟨ga, ca', hva, _, _, _⟩ := HEa4.out.own.frm (by have := HLA.out; omega)
              have hva' : aa = some ⟨ga, 0, .none⟩ := by injection hva
              clear hva
              subst hva'
              have HX := hide hx
              have HAx := hide hAx
              clear hx hAx
              go_wp2_with fail
              go_loopw [15, 16] (fun sl sk wk => ∃ (l k : Nat), sl = .int .i64 l ∧ sk = .int .i64 k ∧ i + 1 ≤ k ∧ k ≤ la ∧ l + cnt x.g (A.drop k) = cnt x.g (A.drop (i + 1)) ∧ l ≤ k ∧ Below w4.heap.size w4 wk) (fun _ sk _ => la - (intOf sk).toNat)
              case atStart => exact ⟨0, i + 1, rfl, by go_num, Nat.le_refl _, by omega, by omega, Nat.zero_le _, HBr.out⟩
              case round =>
                obtain ⟨l, k, rfl, rfl, hk1, hk2, hcn, hlk, hbk⟩ := hrel
                have HBk := hide hbk
                have HCn := hide hcn
                have hEk := HEa4.out.below hbk
                have x0 : wr.cell? ⟨ga, i * 5, .none⟩ = some (.int .i64 x.g) := hEk.own.cell HX.out 0 rfl
                clear hbk hcn
                by_cases hlt3 : k < la
                · have hkI : (k : Int) < la := by omega
                  obtain ⟨y, hy⟩ : ∃ y, ea[k]? = some y := ⟨_, List.getElem?_eq_getElem (by have := HLA.out; omega)⟩
                  have hAy : A[k]? = some y.ab := by rw [← HMa.out, List.getElem?_map, hy]; rfl
                  have y0 : wr.cell? ⟨ga, k * 5, .none⟩ = some (.int .i64 y.g) := hEk.own.cell hy 0 rfl
                  have HDr : Hid (cnt x.g (A.drop k) = cnt x.g (A.drop (k + 1)) + (if y.g = x.g then 1 else 0)) := hide (cnt_drop x.g hAy)
                  clear hEk hy hAy
                  by_cases hg : y.g = x.g
                  · have hd2 : (y.g == x.g) = true := by rw [hg]; exact beq_self_eq_true _
                    have HC2 : Hid (l + 1 + cnt x.g (A.drop (k + 1)) = cnt x.g (A.drop (i + 1))) := hide (by have h9 := HDr.out; rw [if_pos hg] at h9; have h8 := HCn.out; omega)
                    clear hg HDr
                    go_wp2_with fail
                    go_quiet (fail)
                    go_wp2
                    exact ⟨⟨l + 1, k + 1, by go_num, by go_num, by omega, by omega, HC2.out, by omega, below_drewN HBk.out _⟩, by simp [intOf]; omega⟩
                  · have hd2 : (y.g == x.g) = false := beq_eq_false_iff_ne.2 hg
                    have HC2 : Hid (l + cnt x.g (A.drop (k + 1)) = cnt x.g (A.drop (i + 1))) := hide (by have h9 := HDr.out; rw [if_neg hg] at h9; have h8 := HCn.out; omega)
                    clear hg HDr
                    go_wp2_with fail
                    go_quiet (fail)
                    go_wp2
                    exact ⟨⟨l, k + 1, rfl, by go_num, by omega, by omega, HC2.out, by omega, below_drewN HBk.out _⟩, by simp [intOf]; omega⟩
                · have hkl : k = la := by omega
                  subst hkl
                  have hlc : l = cnt x.g (A.drop (i + 1)) := by
                    have h9 := HCn.out
                    rw [HLA.out.1, List.drop_length] at h9
                    exact h9
                  have HLc := hide hlc
                  clear hlc x0 hEk
                  by_cases hln : (l : Int) < n
                  · obtain ⟨hat2, hwq⟩ := HAt.out.take HAx.out (show (cnt x.g (A.drop (i + 1)) : Int) < n by rw [← HLc.out]; exact hln)
                    have hql : q < lw := by rw [HLW.out.1]; exact get_lt hwq
                    obtain ⟨y, hy⟩ : ∃ y, ew[q]? = some y := ⟨_, List.getElem?_eq_getElem (by have := HLW.out; omega)⟩
                    have hyx : y.ab = x.ab := by
                      have h9 := hwq
                      rw [← HMw.out, List.getElem?_map, hy] at h9
                      exact Option.some.inj h9
                    obtain ⟨gw, cw', hvw, _, _, _⟩ := HEw.out.own.frm (by have := HLW.out; omega)
                    have hvw' : aw = some ⟨gw, 0, .none⟩ := by injection hvw
                    clear hvw
                    subst hvw'
                    have HTS : Hid (∀ W, Below wr.heap.size wr W → ∀ c1 c2, Calls Tryd.prog 9 #[.slice (some ⟨gw, q * 5, .none⟩) 1 c1, .slice (some ⟨ga, i * 5, .none⟩) 1 c2] W fun e w' => e = .returned (.bool true) ∧ Below W.heap.size W w') := hide (fun W hW c1 c2 => by
                      have e1 := ((HEw.out.below (Below.on HBk.out hW)).rd (by have := HLW.out; omega)).sub hy
                      have e2 := ((HEa4.out.below (Below.on HBk.out hW)).rd (by have := HLA.out; omega)).sub HX.out
                      rw [Nat.zero_add] at e1 e2
                      exact trace_same e1 e2 (by simp [hyx]) (by decide))
                    have HA2 := hide hat2
                    have hd3 : decide (n ≤ (l : Int)) = false := decide_eq_false (by omega)
                    have hq1 : IntKind.i64.wrap ((q : Int) + 1) = (q : Int) + 1 := by rw [IntKind.wrap_i64]; omega
                    have hi1 : IntKind.i64.wrap ((i : Int) + 1) = (i : Int) + 1 := by rw [IntKind.wrap_i64]; omega
                    have hb0 : decide ((lw : Int) ≤ (q : Int)) = false := decide_eq_false (by omega)
                    have hb0N : decide (lw ≤ q) = false := decide_eq_false (by omega)
                    have hb1 : (0 : Int) ≤ (q : Int) := by omega
                    have hb2 : (q : Int) + 1 ≤ (cw : Int) := by omega
                    have hb3 : ¬ cw = q := by omega
                    have hb4 : ¬ (cw : Int) = (q : Int) := by omega
                    have hb5 : (0 : Int) ≤ (i : Int) := by omega
                    have hb6 : (i : Int) + 1 ≤ (ca : Int) := by omega
                    have hb7 : ¬ ca = i := by omega
                    have hb8 : ¬ (ca : Int) = (i : Int) := by omega
                    have hb9 : (q : Int) ≤ (q : Int) + 1 := by omega
                    have hb10 : (i : Int) ≤ (i : Int) + 1 := by omega
                    have HQl := hide hql
                    clear hat2 hwq hy hyx hql
                    go_wp2_with fail
                    go_region_held3 (fun _ => True) (trivial) (first
                      | (go_at_call 9; go_must (refine (HTS.out _ (Below.refl _ _).drew _ _).mono ?_; rintro e w6 ⟨rfl, hb6⟩; have b6 : Below wr.heap.size wr w6 := (Below.refl _ _).drew.trans hb6; clear hb6)))
                    have HB6 := hide (Below.on HBk.out b6)
                    clear b6 HTS
                    go_wp2
                    exact ⟨⟨q + 1, i + 1, by go_num, by go_num, by omega, by have := HQl.out; omega, HA2.out, HB6.out⟩, by simp [intOf]; omega⟩
                  · have hd3 : decide (n ≤ (l : Int)) = true := decide_eq_true (by omega)
                    have HA2 := hide (HAt.out.skip HAx.out (show ¬ (cnt x.g (A.drop (i + 1)) : Int) < n by rw [← HLc.out]; exact hln))
                    go_wp2
                    exact ⟨⟨q, i + 1, rfl, by go_num, by omega, hq, HA2.out, HBk.out⟩, by simp [intOf]; omega⟩
            · have hil : i = la := by omega
              subst hil
              have hqlw : q = lw := by
                have h9 := HAt.out
                rw [HLA.out.1] at h9
                rw [HLW.out.1]
                exact h9.done (by rw [← HLW.out.1]; exact hq)
              subst hqlw
              have hrg := HRg4.out.below HBr.out
              have HWa := hide (window_any hrg HTg.out (i : Int))
              rw [← HAd.out, win_all A (by rw [← HLA.out.1]; exact Int.le_refl _)] at HWa
              have HRr := hide hrg
              have HEr := hide (HEa4.out.below HBr.out)
              have HBb := hide (Below.on HB4.out HBr.out)
              clear hrg hi hq hlt2
              go_wp2_with fail
              refine HWa.out.mono ?_
              rintro e w5 ⟨v5, e5, rfl, hE5, hm5, hb5⟩
              have hl5 : e5.length = i := by have h9 := congrArg List.length hm5; rw [List.length_map] at h9; rw [h9, ← HLA.out.1]
              obtain ⟨a5, c5, hv5, _, _⟩ := hE5.form
              rw [hl5] at hv5
              subst hv5
              have HTS := hide (trace_same (ca := c5) (cb := ca) (hE5.rd hl5) ((HEr.out.below hb5).rd (by have := HLA.out; omega)) (hm5.trans HMa.out.symm) (by omega))
              have HR5 := hide (HRr.out.below hb5)
              have HB5 := hide (Below.on HBb.out hb5)
              clear hE5 hm5 hb5 hl5 HWa
              go_wp2_with fail
              refine HTS.out.mono ?_
              rintro e w6 ⟨rfl, hb6⟩
              have HW0 := hide (window_any (HR5.out.below hb6) HTg.out 0)
              rw [win_none (Int.le_refl _)] at HW0
              have HB6 := hide (Below.on HB5.out hb6)
              clear hb6 HTS
              go_wp2_with fail
              refine HW0.out.mono ?_
              rintro e w7 ⟨v7, e7, rfl, hE7, hm7, hb7⟩
              have hl7 : e7.length = 0 := by have h9 := congrArg List.length hm7; rw [List.length_map] at h9; exact h9
              obtain ⟨a7, c7, hv7, _, _⟩ := hE7.form
              rw [hl7] at hv7
              subst hv7
              have HB7 := hide (Below.on HB6.out hb7)
              clear hE7 hm7 hb7 hl7 HW0
              go_wp2
              go_ret
              exact ⟨rfl, HB7.out⟩
end Go.Proofs.YtkjmmcpjdjjmlaaDoor
