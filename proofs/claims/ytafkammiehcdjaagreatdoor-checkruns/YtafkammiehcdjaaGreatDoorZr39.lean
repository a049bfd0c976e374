import Derived.Test.YtafkammiehcdjaaGreatDoorZr38
/-
  Add.
-/
namespace Go.Proofs.YtafkammiehcdjaaGreatDoor
open Go.RowKit Go.Maps
section
variable {w w' : World} {cb : Nat} {B : Bl} {F : Nat → Option Lb} {M : CS} {N : Nat} {g k o a : Int} {s : Value}
/-- What Add answers, and what it makes of the checker; c is what Check says of the event. -/
def CS.addE (M : CS) (c : Int) : Int := if c ≠ 0 then c else if M.taken = 1048576 then 3 else 0
def CS.addY (M : CS) (c : Int) (e : Me) : Int := if c ≠ 0 then 0 else if M.taken = 1048576 then 0 else M.why e
def CS.addS (M : CS) (c : Int) (e : Me) : CS := if c ≠ 0 then M else if M.taken = 1048576 then M else if M.why e ≠ 0 then M else M.next e
theorem run_enter {f : FuncId} {fn : Func} {c : Code} (hf : Tryz.prog.funcs[f]? = some fn) (hname : (fn.name == "runtime.NumGoroutine") = false) (hb : fn.body = some c) (args : Array Value) (w : World) :
    (callFunc f args).run Tryz.prog w = .ok (.enter f args) w := by
  have h1 : fn.name ≠ "runtime.NumGoroutine" := by simpa using hname
  simp [callFunc, hf, h1, hb]
theorem asks_enter (h1 : 1 ≤ k) (h2 : k ≤ 22) (args : Array Value) (w : World) : (callFunc (asksOf k) args).run Tryz.prog w = .ok (.enter (asksOf k) args) w := by
  rcases kcases h1 h2 with rfl | rfl | rfl | rfl | rfl | rfl | rfl | rfl | rfl | rfl | rfl | rfl | rfl | rfl | rfl | rfl | rfl | rfl | rfl | rfl | rfl | rfl
  · exact run_enter Tryz.func61 (by kernel_rfl) rfl args w
  · exact run_enter Tryz.func61 (by kernel_rfl) rfl args w
  · exact run_enter Tryz.func63 (by kernel_rfl) rfl args w
  · exact run_enter Tryz.func65 (by kernel_rfl) rfl args w
  · exact run_enter Tryz.func67 (by kernel_rfl) rfl args w
  · exact run_enter Tryz.func69 (by kernel_rfl) rfl args w
  · exact run_enter Tryz.func71 (by kernel_rfl) rfl args w
  · exact run_enter Tryz.func73 (by kernel_rfl) rfl args w
  · exact run_enter Tryz.func75 (by kernel_rfl) rfl args w
  · exact run_enter Tryz.func77 (by kernel_rfl) rfl args w
  · exact run_enter Tryz.func79 (by kernel_rfl) rfl args w
  · exact run_enter Tryz.func81 (by kernel_rfl) rfl args w
  · exact run_enter Tryz.func83 (by kernel_rfl) rfl args w
  · exact run_enter Tryz.func85 (by kernel_rfl) rfl args w
  · exact run_enter Tryz.func87 (by kernel_rfl) rfl args w
  · exact run_enter Tryz.func88 (by kernel_rfl) rfl args w
  · exact run_enter Tryz.func61 (by kernel_rfl) rfl args w
  · exact run_enter Tryz.func61 (by kernel_rfl) rfl args w
  · exact run_enter Tryz.func61 (by kernel_rfl) rfl args w
  · exact run_enter Tryz.func90 (by kernel_rfl) rfl args w
  · exact run_enter Tryz.func92 (by kernel_rfl) rfl args w
  · exact run_enter Tryz.func61 (by kernel_rfl) rfl args w
theorem does_enter (h1 : 1 ≤ k) (h2 : k ≤ 22) (args : Array Value) (w : World) : (callFunc (doesOf k) args).run Tryz.prog w = .ok (.enter (doesOf k) args) w := by
  rcases kcases h1 h2 with rfl | rfl | rfl | rfl | rfl | rfl | rfl | rfl | rfl | rfl | rfl | rfl | rfl | rfl | rfl | rfl | rfl | rfl | rfl | rfl | rfl | rfl
  · exact run_enter Tryz.func62 (by kernel_rfl) rfl args w
  · exact run_enter Tryz.func62 (by kernel_rfl) rfl args w
  · exact run_enter Tryz.func64 (by kernel_rfl) rfl args w
  · exact run_enter Tryz.func66 (by kernel_rfl) rfl args w
  · exact run_enter Tryz.func68 (by kernel_rfl) rfl args w
  · exact run_enter Tryz.func70 (by kernel_rfl) rfl args w
  · exact run_enter Tryz.func72 (by kernel_rfl) rfl args w
  · exact run_enter Tryz.func74 (by kernel_rfl) rfl args w
  · exact run_enter Tryz.func76 (by kernel_rfl) rfl args w
  · exact run_enter Tryz.func78 (by kernel_rfl) rfl args w
  · exact run_enter Tryz.func80 (by kernel_rfl) rfl args w
  · exact run_enter Tryz.func82 (by kernel_rfl) rfl args w
  · exact run_enter Tryz.func84 (by kernel_rfl) rfl args w
  · exact run_enter Tryz.func86 (by kernel_rfl) rfl args w
  · exact run_enter Tryz.func62 (by kernel_rfl) rfl args w
  · exact run_enter Tryz.func89 (by kernel_rfl) rfl args w
  · exact run_enter Tryz.func62 (by kernel_rfl) rfl args w
  · exact run_enter Tryz.func62 (by kernel_rfl) rfl args w
  · exact run_enter Tryz.func62 (by kernel_rfl) rfl args w
  · exact run_enter Tryz.func91 (by kernel_rfl) rfl args w
  · exact run_enter Tryz.func93 (by kernel_rfl) rfl args w
  · exact run_enter Tryz.func62 (by kernel_rfl) rfl args w
theorem add_bad {c : Int} (h : c ≠ 0) (e : Me) : M.addY c e = 0 ∧ M.addE c = c ∧ M.addS c e = M := ⟨if_pos h, if_pos h, if_pos h⟩
theorem add_full (h : M.taken = 1048576) (e : Me) : M.addY 0 e = 0 ∧ M.addE 0 = 3 ∧ M.addS 0 e = M := by
  unfold CS.addY CS.addE CS.addS
  have h0 : ¬ ((0 : Int) ≠ 0) := fun e => e rfl
  rw [if_neg h0, if_neg h0, if_neg h0, if_pos h, if_pos h, if_pos h]
  exact ⟨rfl, rfl, rfl⟩
theorem add_why (h : ¬ M.taken = 1048576) (e : Me) : M.addY 0 e = M.why e ∧ M.addE 0 = 0 ∧ M.addS 0 e = if M.why e ≠ 0 then M else M.next e := by
  unfold CS.addY CS.addE CS.addS
  have h0 : ¬ ((0 : Int) ≠ 0) := fun e => e rfl
  rw [if_neg h0, if_neg h0, if_neg h0, if_neg h, if_neg h, if_neg h]
  exact ⟨rfl, rfl, rfl⟩
theorem ckR_same {M : CS} {w' : World} (h : Ck w cb B F M N) (hb : Below w.heap.size w w') : CkR w cb F M N w' := CkR.below hb (CkR.of (h.below hb))
set_option maxRecDepth 8000 in
set_option maxHeartbeats 2000000 in
theorem Add_any {sa : Option Addr} {sn sc : Nat} {ls : List ByteArray} (h : Ck w cb B F M (M.taken + 1)) (hi : M.inv) (ht : M.taken ≤ 1048576) (hK : E6.Kr w) (hs : E6.SRow w sa sn ls) (hn : (sn : Int) ≤ 9223372036854775806) (o0 : 0 ≤ o) (o1 : o ≤ 18446744073709551615) (a0 : 0 ≤ a) (a1 : a ≤ 18446744073709551615) :
    Calls Tryz.prog 14 #[gPtr cb, .agg (evC g k o a (.slice sa sn sc))] w fun e w' => e = .returned (.tuple #[.int .i64 (M.addY (E6.chk g k o a ls) ⟨g, k, o, a⟩), .int .i64 (M.addE (E6.chk g k o a ls))]) ∧ CkR w cb F (M.addS (E6.chk g k o a ls) ⟨g, k, o, a⟩) ((M.addS (E6.chk g k o a ls) ⟨g, k, o, a⟩).taken + 1) w' := by
  obtain ⟨W, hW⟩ : ∃ W, W = w.alloc (.cells (evC g k o a (.slice sa sn sc)) 36) := ⟨_, rfl⟩
  have hb : Below w.heap.size w W := by rw [hW]; exact below_alloc1 w _
  have hC := h.below hb
  have hE : W.heap[w.heap.size]? = some (.cells (evC g k o a (.slice sa sn sc)) 36 (0, 0)) := by rw [hW]; exact heap_new _ _
  obtain ⟨p0, p1, p2, p3, p4⟩ := evc0 hE
  obtain ⟨r0, hg0⟩ := hi.g0
  have hsz := hK.size
  have HMi := hide (missing_any hC hg0)
  have HCh := hide (E6.check_any g k o a sa sn sc ls W (hK.below hb (by omega)) (hs.bel hb) hn)
  have HB := hide hb
  have HW := hide hW
  have HC := hide hC
  have HE := hide hE
  have HI := hide hi
  have HT := hide ht
  have hFe : F w.heap.size = none := by
    cases hq : F w.heap.size with
    | none => rfl
    | some l => have := h.lt _ _ hq; omega
  have HFe := hide hFe
  have hlt := h.clt
  have hltW : cb < W.heap.size := hC.clt
  have hleW : w.heap.size < W.heap.size := (Array.getElem?_eq_some_iff.1 hE).1
  have HEb : Hid (E6.chk g k o a ls = 0 → Eb g k o a) := hide (fun e => chk_eb e o0 o1 a0 a1)
  obtain ⟨c, hc⟩ : ∃ c, c = E6.chk g k o a ls := ⟨_, rfl⟩
  rw [← hc] at HCh HEb ⊢
  obtain ⟨Y, hY⟩ : ∃ Y, Y = M.addY c ⟨g, k, o, a⟩ := ⟨_, rfl⟩
  obtain ⟨E, hE9⟩ : ∃ E, E = M.addE c := ⟨_, rfl⟩
  obtain ⟨S, hS⟩ : ∃ S, S = M.addS c ⟨g, k, o, a⟩ := ⟨_, rfl⟩
  rw [← hY, ← hE9, ← hS]
  have HY := hide hY
  have HEE := hide hE9
  have HS := hide hS
  unfold gPtr at HMi
  clear h hb hW hC hE hi ht hK hs hn o0 o1 a0 a1 hc hY hE9 hS hFe hg0 hsz
  unfold gPtr evC
  unfold evC at HW
  go_enter Tryz.func14, Tryz.ntmps14
  go_wp2_with fail
  rw [← HW.out]
  clear HW
  refine HMi.out.mono ?_
  rintro e w9 ⟨rfl, rfl⟩
  go_wp2_with fail
  refine HCh.out.mono ?_
  rintro e w1 ⟨rfl, hb1⟩
  have HB1 := hide (Below.on HB.out hb1)
  have HC1 := hide (HC.out.below hb1)
  have hE1 := (hb1.block _ hleW).trans HE.out
  obtain ⟨q0, q1, q2, q3, q4⟩ := evc0 hE1
  have HE1 := hide hE1
  have hl1 : cb < w1.heap.size := HC1.out.clt
  have hle1 : w.heap.size < w1.heap.size := (Array.getElem?_eq_some_iff.1 hE1).1
  have t0 := HC1.out.c0
  clear hb1 hE1 HMi HCh p0 p1 p2 p3 p4
  by_cases hc : c = 0
  · have HCc := hide hc
    subst hc
    by_cases htk : M.taken = 1048576
    · have htb : ((M.taken : Int) == 1048576) = true := by rw [beq_iff_eq]; omega
      have HTk := hide htk
      clear htk
      go_wp2
      go_ret2
      obtain ⟨z1, z2, z3⟩ := add_full HTk.out ⟨g, k, o, a⟩
      rw [HY.out, HEE.out, HS.out, z1, z2, z3]
      exact ⟨rfl, CkR.below HB1.out (CkR.of HC1.out)⟩
    · have htb : ((M.taken : Int) == 1048576) = false := by rw [beq_eq_false_iff_ne]; omega
      have HTk := hide htk
      clear htk
      have HEb1 := hide (HEb.out rfl)
      have HAct := hide (mayAct_any (k := k) (s := .slice sa sn sc) HC1.out HEb1.out.ok)
      unfold evC gPtr at HAct
      have hact : ∃ A, A = M.act ⟨g, k, o, a⟩ := ⟨_, rfl⟩
      obtain ⟨A, hA⟩ := hact
      have HAct2 : Hid (Calls Tryz.prog 29 #[.pointer (some ⟨cb, 0, none⟩), .agg #[.int .i64 g, .int .i64 k, .int .u64 o, .int .u64 a, .slice sa sn sc]] w1 fun e w' => e = .returned (.int .i64 A) ∧ Below w1.heap.size w1 w') := hide (by rw [hA]; exact HAct.out)
      have HA := hide hA
      clear hA HAct
      go_wp2_with fail
      refine HAct2.out.mono ?_
      rintro e w2 ⟨rfl, hb2⟩
      have HB2 := hide (Below.on HB1.out hb2)
      have HC2 := hide (HC1.out.below hb2)
      have hE2 := (hb2.block _ hle1).trans HE1.out
      obtain ⟨s0, s1, s2, s3, s4⟩ := evc0 hE2
      have HE2 := hide hE2
      have hl2 : cb < w2.heap.size := HC2.out.clt
      have hle2 : w.heap.size < w2.heap.size := (Array.getElem?_eq_some_iff.1 hE2).1
      clear hb2 hE2 HAct2 q0 q1 q2 q3 q4
      by_cases hA0 : A = 0
      · subst hA0
        obtain ⟨r, hg⟩ : ∃ r, M.gs g = some r := by
          cases hq : M.gs g with
          | some r => exact ⟨r, rfl⟩
          | none => have h9 := HA.out; unfold CS.act at h9; dsimp only at h9; rw [hq] at h9; cases h9
        have HG := hide hg
        have HRu := hide (ruleOf_any (w := w2) HEb1.out.k1 HEb1.out.k2)
        obtain ⟨fa, hfa⟩ : ∃ fa, fa = asksOf k := ⟨_, rfl⟩
        obtain ⟨fd, hfd⟩ : ∃ fd, fd = doesOf k := ⟨_, rfl⟩
        rw [← hfa, ← hfd] at HRu
        have HFa := hide hfa
        have HFd := hide hfd
        clear hfa hfd hg
        go_wp2_with fail
        refine HRu.out.mono ?_
        rintro e w3 ⟨rfl, hb3⟩
        have HB3 := hide (Below.on HB2.out hb3)
        have HC3 := hide (HC2.out.below hb3)
        have hE3 := (hb3.block _ hle2).trans HE2.out
        have HE3 := hide hE3
        have hl3 : cb < w3.heap.size := HC3.out.clt
        have hle3 : w.heap.size < w3.heap.size := (Array.getElem?_eq_some_iff.1 hE3).1
        clear hb3 hE3 HRu s0 s1 s2 s3 s4
        obtain ⟨w4, hw4⟩ : ∃ w4, w4 = w3.alloc (.cells #[.func (.func fa) #[] #[], .func (.func fd) #[] #[]] 78) := ⟨_, rfl⟩
        have hb4 : Below w3.heap.size w3 w4 := by rw [hw4]; exact below_alloc1 w3 _
        have HB4 := hide (Below.on HB3.out hb4)
        have HC4 := hide (HC3.out.below hb4)
        have hE4 := (hb4.block _ hle3).trans HE3.out
        have HE4 := hide hE4
        obtain ⟨s0, s1, s2, s3, s4⟩ := evc0 hE4
        have hR4 : w4.heap[w3.heap.size]? = some (.cells #[.func (.func fa) #[] #[], .func (.func fd) #[] #[]] 78 (0, 0)) := by rw [hw4]; exact heap_new _ _
        have HR4 := hide hR4
        have u0 : w4.cell? ⟨w3.heap.size, 0, none⟩ = some (.func (.func fa) #[] #[]) := cell_at hR4 rfl
        have u1 : w4.cell? ⟨w3.heap.size, 1, none⟩ = some (.func (.func fd) #[] #[]) := cell_at hR4 rfl
        have hl4 : cb < w4.heap.size := HC4.out.clt
        have hle4 : w.heap.size < w4.heap.size := (Array.getElem?_eq_some_iff.1 hE4).1
        have hlr4 : w3.heap.size < w4.heap.size := (Array.getElem?_eq_some_iff.1 hR4).1
        have HSr : Hid ((w3.alloc (.cells #[.nilFunc, .nilFunc] 78)).setRow w3.heap.size #[.func (.func fa) #[] #[], .func (.func fd) #[] #[]] = w4) := hide (by rw [hw4]; exact World.setRow_alloc_new _ _ _ _)
        have hfr : F w3.heap.size = none := by
          cases hq : F w3.heap.size with
          | none => rfl
          | some l => have := HC3.out.lt _ _ hq; omega
        have HFr := hide hfr
        clear hb4 hE4 hR4 hw4 hfr
        go_wp2_with (refine wpList_store_row rfl 78 (.tmp 8) (.tmp 30) rfl w3.heap.size #[.func (.func fa) #[] #[], .func (.func fd) #[] #[]] rfl rfl 78 #[.nilFunc, .nilFunc] (heap_new _ _) infoR1 rfl (fn_one _ _) ?_; rw [HSr.out])
        have HAsk := hide (ask_any (s := .slice sa sn sc) HC4.out HEb1.out (HI.out.ok HT.out) HG.out)
        unfold evC gPtr at HAsk
        obtain ⟨R, hR⟩ : ∃ R, R = M.ask ⟨g, k, o, a⟩ r := ⟨_, rfl⟩
        rw [← hR] at HAsk
        have HR := hide hR
        clear hR
        rw [HFa.out, asks_enter HEb1.out.k1 HEb1.out.k2]
        go_simp
        refine HAsk.out.mono ?_
        rintro e w5 ⟨rfl, hb5⟩
        have HB5 := hide (Below.on HB4.out hb5)
        have HC5 := hide (HC4.out.below hb5)
        have hE5 := (hb5.block _ hle4).trans HE4.out
        have HE5 := hide hE5
        have hR5 := (hb5.block _ hlr4).trans HR4.out
        have v1 : w5.cell? ⟨w3.heap.size, 1, none⟩ = some (.func (.func fd) #[] #[]) := cell_at hR5 rfl
        obtain ⟨x0, x1, x2, x3, x4⟩ := evc0 hE5
        have hl5 : cb < w5.heap.size := HC5.out.clt
        have hle5 : w.heap.size < w5.heap.size := (Array.getElem?_eq_some_iff.1 hE5).1
        have hlr5 : w3.heap.size < w5.heap.size := (Array.getElem?_eq_some_iff.1 hR5).1
        clear hb5 hE5 hR5 HAsk s0 s1 s2 s3 s4 u0 u1
        by_cases hR0 : R = 0
        · subst hR0
          have HDo := hide (does_any (s := .slice sa sn sc) HC5.out (by have := HT.out; omega) HEb1.out (HI.out.ok HT.out) HG.out HR.out.symm)
          unfold evC gPtr at HDo
          go_wp2_with fail
          rw [HFd.out, does_enter HEb1.out.k1 HEb1.out.k2]
          go_simp
          refine HDo.out.mono ?_
          rintro e w7 ⟨rfl, hr⟩
          obtain ⟨B7, F7, k1, k2, k3⟩ := hr
          have hb7 := k1.blk nf
          rw [doo_taken] at hb7
          have d0 : w7.cell? ⟨cb, 0, none⟩ = some (.int .i64 (M.taken : Int)) := cell_at hb7 rfl
          have f0 : w7.frozen? ⟨cb, 0, none⟩ = false := frz hb7 0
          have hl7 : cb < w7.heap.size := k1.clt
          have HK1 := hide k1
          have HK2 := hide k2
          have HK3 := hide k3
          have HB7 := hide hb7
          have ht7 : (M.taken : Int) ≤ 1048576 := by have := HT.out; omega
          clear k1 k2 k3 hb7 HDo
          go_wp2
          go_ret2
          obtain ⟨j1, j2⟩ := HK1.out.setT (w' := w7.setCell ⟨cb, 0, none⟩ (.int .i64 ((M.taken : Int) + 1))) (M.taken + 1) (set1_heap _ HB7.out) ((But.refl (fun k => k = cb) w7).setCell _ (fun _ => rfl) _)
          have hwhy : M.why ⟨g, k, o, a⟩ = 0 := by
            unfold CS.why
            dsimp only
            rw [HG.out]
            dsimp only
            rw [← HA.out, if_neg (fun e => e rfl)]
            exact HR.out.symm
          obtain ⟨z1, z2, z3⟩ := add_why HTk.out ⟨g, k, o, a⟩
          rw [hwhy] at z1 z3
          rw [if_neg (fun e => e rfl)] at z3
          have hnx : M.next ⟨g, k, o, a⟩ = { M.doo ⟨g, k, o, a⟩ r with taken := M.taken + 1 } := by
            unfold CS.next CS.tick
            dsimp only
            rw [HG.out]
            dsimp only
            rw [doo_taken]
          rw [HY.out, HEE.out, HS.out, z1, z2, z3, hnx]
          exact ⟨rfl, CkR.below HB5.out (CkR.trans HK2.out HK3.out ⟨_, _, j1, FEx.refl _ _, j2⟩)⟩
        · have hRn : (R != 0) = true := by rw [bne_iff_ne]; exact hR0
          have HR0 := hide hR0
          clear hR0
          go_wp2
          go_ret2
          have hwhy : M.why ⟨g, k, o, a⟩ = R := by
            unfold CS.why
            dsimp only
            rw [HG.out]
            dsimp only
            rw [← HA.out, if_neg (fun e => e rfl)]
            exact HR.out.symm
          obtain ⟨z1, z2, z3⟩ := add_why HTk.out ⟨g, k, o, a⟩
          rw [hwhy] at z1 z3
          rw [if_pos HR0.out] at z3
          rw [HY.out, HEE.out, HS.out, z1, z2, z3]
          exact ⟨rfl, CkR.below HB5.out (CkR.of HC5.out)⟩
      · have hAb : (A == 0) = false := by rw [beq_eq_false_iff_ne]; exact hA0
        have hAn : (A != 0) = true := by rw [bne_iff_ne]; exact hA0
        have HA0 := hide hA0
        clear hA0
        go_wp2
        go_ret2
        have hwhy : M.why ⟨g, k, o, a⟩ = A := by
          rw [HA.out]
          unfold CS.why
          dsimp only
          cases hq : M.gs g with
          | none => unfold CS.act; dsimp only; rw [hq]
          | some r => dsimp only; rw [if_pos (by rw [← HA.out]; exact HA0.out)]
        obtain ⟨z1, z2, z3⟩ := add_why HTk.out ⟨g, k, o, a⟩
        rw [hwhy] at z1 z3
        rw [if_pos HA0.out] at z3
        rw [HY.out, HEE.out, HS.out, z1, z2, z3]
        exact ⟨rfl, CkR.below HB2.out (CkR.of HC2.out)⟩
  · have hcn : (c != 0) = true := by rw [bne_iff_ne]; exact hc
    have HCc := hide hc
    clear hc
    go_wp2
    go_ret2
    obtain ⟨z1, z2, z3⟩ := add_bad (M := M) HCc.out ⟨g, k, o, a⟩
    rw [HY.out, HEE.out, HS.out, z1, z2, z3]
    exact ⟨rfl, CkR.below HB1.out (CkR.of HC1.out)⟩
end
end Go.Proofs.YtafkammiehcdjaaGreatDoor
