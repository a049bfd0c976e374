import Derived.Test.YtimgkhdgliojgaaGreatDoorOg34
import Derived.Test.YtimgkhdgliojgaaGreatDoorOg33
set_option maxRecDepth 8000
set_option maxHeartbeats 8000000
set_option linter.unusedVariables false
namespace Go.Proofs.YtimgkhdgliojgaaGreatDoor
open Go.RowKit Go.Maps
section
variable {w w' : World} {cb : Nat} {B : Bl} {F : Nat → Option Lb} {M : CS} {N : Nat} {g k o a : Int} {s : Value}
def CS.addE (M:CS) (c:Int):Int:=if c≠0 then c else if M.taken=1048576 then 3 else 0
def CS.addY (M:CS) (c:Int) (e:Me):Int:=if c≠0 then 0 else if M.taken=1048576 then 0 else M.why e
def CS.addS (M:CS) (c:Int) (e:Me):CS:=if c≠0 then M else if M.taken=1048576 then M else if M.why e≠0 then M else M.next e
theorem run_enter {f : FuncId} {fn : Func} {c : Code} (hf : Tryz.prog.funcs[f]? = some fn) (hname : (fn.name == "runtime.NumGoroutine") = false) (hb : fn.body = some c) (args : Array Value) (w : World) :
  (callFunc f args).run Tryz.prog w=.ok (.enter f args) w:=by
 have h1 : fn.name ≠ "runtime.NumGoroutine" := by simpa using hname
 simp [callFunc,hf,h1,hb]
theorem asks_enter (h1:1≤k) (h2:k≤22) (args:Array Value) (w:World):(callFunc (asksOf k) args).run Tryz.prog w=.ok (.enter (asksOf k) args) w:=by
 rcases kcases h1 h2 with rfl|rfl|rfl|rfl|rfl|rfl|rfl|rfl|rfl|rfl|rfl|rfl|rfl|rfl|rfl|rfl|rfl|rfl|rfl|rfl|rfl|rfl
 ·exact run_enter Tryz.func87 (by kernel_rfl) rfl args w
 ·exact run_enter Tryz.func87 (by kernel_rfl) rfl args w
 ·exact run_enter Tryz.func89 (by kernel_rfl) rfl args w
 ·exact run_enter Tryz.func91 (by kernel_rfl) rfl args w
 ·exact run_enter Tryz.func93 (by kernel_rfl) rfl args w
 ·exact run_enter Tryz.func95 (by kernel_rfl) rfl args w
 ·exact run_enter Tryz.func97 (by kernel_rfl) rfl args w
 ·exact run_enter Tryz.func99 (by kernel_rfl) rfl args w
 ·exact run_enter Tryz.func101 (by kernel_rfl) rfl args w
 ·exact run_enter Tryz.func103 (by kernel_rfl) rfl args w
 ·exact run_enter Tryz.func105 (by kernel_rfl) rfl args w
 ·exact run_enter Tryz.func107 (by kernel_rfl) rfl args w
 ·exact run_enter Tryz.func109 (by kernel_rfl) rfl args w
 ·exact run_enter Tryz.func111 (by kernel_rfl) rfl args w
 ·exact run_enter Tryz.func113 (by kernel_rfl) rfl args w
 ·exact run_enter Tryz.func114 (by kernel_rfl) rfl args w
 ·exact run_enter Tryz.func87 (by kernel_rfl) rfl args w
 ·exact run_enter Tryz.func87 (by kernel_rfl) rfl args w
 ·exact run_enter Tryz.func87 (by kernel_rfl) rfl args w
 ·exact run_enter Tryz.func116 (by kernel_rfl) rfl args w
 ·exact run_enter Tryz.func118 (by kernel_rfl) rfl args w
 ·exact run_enter Tryz.func87 (by kernel_rfl) rfl args w
theorem does_enter (h1:1≤k) (h2:k≤22) (args:Array Value) (w:World):(callFunc (doesOf k) args).run Tryz.prog w=.ok (.enter (doesOf k) args) w:=by
 rcases kcases h1 h2 with rfl|rfl|rfl|rfl|rfl|rfl|rfl|rfl|rfl|rfl|rfl|rfl|rfl|rfl|rfl|rfl|rfl|rfl|rfl|rfl|rfl|rfl
 ·exact run_enter Tryz.func88 (by kernel_rfl) rfl args w
 ·exact run_enter Tryz.func88 (by kernel_rfl) rfl args w
 ·exact run_enter Tryz.func90 (by kernel_rfl) rfl args w
 ·exact run_enter Tryz.func92 (by kernel_rfl) rfl args w
 ·exact run_enter Tryz.func94 (by kernel_rfl) rfl args w
 ·exact run_enter Tryz.func96 (by kernel_rfl) rfl args w
 ·exact run_enter Tryz.func98 (by kernel_rfl) rfl args w
 ·exact run_enter Tryz.func100 (by kernel_rfl) rfl args w
 ·exact run_enter Tryz.func102 (by kernel_rfl) rfl args w
 ·exact run_enter Tryz.func104 (by kernel_rfl) rfl args w
 ·exact run_enter Tryz.func106 (by kernel_rfl) rfl args w
 ·exact run_enter Tryz.func108 (by kernel_rfl) rfl args w
 ·exact run_enter Tryz.func110 (by kernel_rfl) rfl args w
 ·exact run_enter Tryz.func112 (by kernel_rfl) rfl args w
 ·exact run_enter Tryz.func88 (by kernel_rfl) rfl args w
 ·exact run_enter Tryz.func115 (by kernel_rfl) rfl args w
 ·exact run_enter Tryz.func88 (by kernel_rfl) rfl args w
 ·exact run_enter Tryz.func88 (by kernel_rfl) rfl args w
 ·exact run_enter Tryz.func88 (by kernel_rfl) rfl args w
 ·exact run_enter Tryz.func117 (by kernel_rfl) rfl args w
 ·exact run_enter Tryz.func119 (by kernel_rfl) rfl args w
 ·exact run_enter Tryz.func88 (by kernel_rfl) rfl args w
theorem add_bad {c:Int} (h:c≠0) (e:Me):M.addY c e=0∧M.addE c=c∧M.addS c e=M:=⟨if_pos h,if_pos h,if_pos h⟩
theorem add_full (h:M.taken=1048576) (e:Me):M.addY 0 e=0∧M.addE 0=3∧M.addS 0 e=M:=by
 unfold CS.addY CS.addE CS.addS
 have h0:¬ ((0:Int)≠0):=fun e=>e rfl
 rw [if_neg h0,if_neg h0,if_neg h0,if_pos h,if_pos h,if_pos h]
 exact ⟨rfl,rfl,rfl⟩
theorem add_why (h:¬ M.taken=1048576) (e:Me):M.addY 0 e=M.why e∧M.addE 0=0∧M.addS 0 e=if M.why e≠0 then M else M.next e:=by
 unfold CS.addY CS.addE CS.addS
 have h0:¬ ((0:Int)≠0):=fun e=>e rfl
 rw [if_neg h0,if_neg h0,if_neg h0,if_neg h,if_neg h,if_neg h]
 exact ⟨rfl,rfl,rfl⟩
theorem Add_any {sa:Option Addr} {sn sc:Nat} {ls:List ByteArray} (h:Ck w cb B F M (M.taken+1)) (hi:M.inv) (ht:M.taken≤1048576) (hK:E6.Kr w) (hs:E6.SRow w sa sn ls) (hn:(sn:Int)≤9223372036854775806) (o0:0≤o) (o1:o≤18446744073709551615) (a0:0≤a) (a1:a≤18446744073709551615) :
  Calls Tryz.prog 30 #[gPtr cb,.agg (evC g k o a (.slice sa sn sc))] w fun e w'=>e=.returned (.tuple #[.int .i64 (M.addY (E6.chk g k o a ls) ⟨g,k,o,a⟩),.int .i64 (M.addE (E6.chk g k o a ls))])∧CkR w cb F (M.addS (E6.chk g k o a ls) ⟨g,k,o,a⟩) ((M.addS (E6.chk g k o a ls) ⟨g,k,o,a⟩).taken+1) w':=by
 obtain ⟨W,hW⟩:∃ W,W=w.alloc (.cells (evC g k o a (.slice sa sn sc)) 35):=⟨_,rfl⟩
 have hb:Below w.heap.size w W:=by rw [hW];exact below_alloc1 w _
 have hC:=h.below hb
 have hE:W.heap[w.heap.size]?=some (.cells (evC g k o a (.slice sa sn sc)) 35 (0,0)):=by rw [hW];exact heap_new _ _
 obtain ⟨p0,p1,p2,p3,p4⟩:=evc0 hE
 obtain ⟨r0,hg0⟩:=hi.g0
 have hsz:=hK.size
 have HMi:=hide (missing_any hC hg0)
 have HCh:=hide (E6.check_any g k o a sa sn sc ls W (hK.below hb (by omega)) (hs.bel hb) hn)
 have HB:=hide hb
 have HW:=hide hW
 have HC:=hide hC
 have HE:=hide hE
 have HI:=hide hi
 have HT:=hide ht
 have hFe:F w.heap.size=none:=by
  cases hq:F w.heap.size with
  | none=>rfl
  | some l=>have:=h.lt _ _ hq;omega
 have HFe:=hide hFe
 have hlt:=h.clt
 have hltW:cb < W.heap.size:=hC.clt
 have hleW:w.heap.size < W.heap.size:=(Array.getElem?_eq_some_iff.1 hE).1
 have HEb:Hid (E6.chk g k o a ls=0→Eb g k o a):=hide (fun e=>chk_eb e o0 o1 a0 a1)
 obtain ⟨c,hc⟩:∃ c,c=E6.chk g k o a ls:=⟨_,rfl⟩
 rw [← hc] at HCh HEb ⊢
 obtain ⟨Y,hY⟩:∃ Y,Y=M.addY c ⟨g,k,o,a⟩:=⟨_,rfl⟩
 obtain ⟨E,hE9⟩:∃ E,E=M.addE c:=⟨_,rfl⟩
 obtain ⟨S,hS⟩:∃ S,S=M.addS c ⟨g,k,o,a⟩:=⟨_,rfl⟩
 rw [← hY,← hE9,← hS]
 have HY:=hide hY
 have HEE:=hide hE9
 have HS:=hide hS
 unfold gPtr at HMi
 clear h hb hW hC hE hi ht hK hs hn o0 o1 a0 a1 hc hY hE9 hS hFe hg0 hsz
 unfold gPtr evC
 unfold evC at HW
 go_enter Tryz.func30,Tryz.ntmps30
 go_wp2_with fail
 rw [← HW.out]
 clear HW
 refine HMi.out.mono ?_
 rintro e w9 ⟨rfl,rfl⟩
 go_wp2_with fail
 refine HCh.out.mono ?_
 rintro e w1 ⟨rfl,hb1⟩
 have HB1:=hide (Below.on HB.out hb1)
 have HC1:=hide (HC.out.below hb1)
 have hE1:=(hb1.block _ hleW).trans HE.out
 obtain ⟨q0,q1,q2,q3,q4⟩:=evc0 hE1
 have HE1:=hide hE1
 have hl1:cb < w1.heap.size:=HC1.out.clt
 have hle1:w.heap.size < w1.heap.size:=(Array.getElem?_eq_some_iff.1 hE1).1
 have t0:=HC1.out.c0
 clear hb1 hE1 HMi HCh p0 p1 p2 p3 p4
 by_cases hc:c=0
 ·have HCc:=hide hc
  subst hc
  by_cases htk:M.taken=1048576
  ·have htb:((M.taken:Int) == 1048576)=true:=by rw [beq_iff_eq];omega
   have HTk:=hide htk
   clear htk
   go_wp2
   go_ret2
   obtain ⟨z1,z2,z3⟩:=add_full HTk.out ⟨g,k,o,a⟩
   rw [HY.out,HEE.out,HS.out,z1,z2,z3]
   exact ⟨rfl,CkR.below HB1.out (CkR.of HC1.out)⟩
  ·have htb:((M.taken:Int) == 1048576)=false:=by rw [beq_eq_false_iff_ne];omega
   have HTk:=hide htk
   clear htk
   have HEb1:=hide (HEb.out rfl)
   have HAct:=hide (mayAct_any (k:=k) (s:=.slice sa sn sc) HC1.out HEb1.out.ok)
   unfold evC gPtr at HAct
   have hact:∃ A,A=M.act ⟨g,k,o,a⟩:=⟨_,rfl⟩
   obtain ⟨A,hA⟩:=hact
   have HAct2:Hid (Calls Tryz.prog 52 #[.pointer (some ⟨cb,0,none⟩),.agg #[.int .i64 g,.int .i64 k,.int .u64 o,.int .u64 a,.slice sa sn sc]] w1 fun e w'=>e=.returned (.int .i64 A)∧Below w1.heap.size w1 w'):=hide (by rw [hA];exact HAct.out)
   have HA:=hide hA
   clear hA HAct
   go_wp2_with fail
   refine HAct2.out.mono ?_
   rintro e w2 ⟨rfl,hb2⟩
   have HB2:=hide (Below.on HB1.out hb2)
   have HC2:=hide (HC1.out.below hb2)
   have hE2:=(hb2.block _ hle1).trans HE1.out
   obtain ⟨s0,s1,s2,s3,s4⟩:=evc0 hE2
   have HE2:=hide hE2
   have hl2:cb < w2.heap.size:=HC2.out.clt
   have hle2:w.heap.size < w2.heap.size:=(Array.getElem?_eq_some_iff.1 hE2).1
   clear hb2 hE2 HAct2 q0 q1 q2 q3 q4
   by_cases hA0:A=0
   ·subst hA0
    obtain ⟨r,hg⟩:∃ r,M.gs g=some r:=by
     cases hq:M.gs g with
     | some r=>exact ⟨r,rfl⟩
     | none=>have h9:=HA.out;unfold CS.act at h9;dsimp only at h9;rw [hq] at h9;cases h9
    have HG:=hide hg
    have HRu:=hide (ruleOf_any (w:=w2) HEb1.out.k1 HEb1.out.k2)
    obtain ⟨fa,hfa⟩:∃ fa,fa=asksOf k:=⟨_,rfl⟩
    obtain ⟨fd,hfd⟩:∃ fd,fd=doesOf k:=⟨_,rfl⟩
    rw [← hfa,← hfd] at HRu
    have HFa:=hide hfa
    have HFd:=hide hfd
    clear hfa hfd hg
    go_wp2_with fail
    refine HRu.out.mono ?_
    rintro e w3 ⟨rfl,hb3⟩
    have HB3:=hide (Below.on HB2.out hb3)
    have HC3:=hide (HC2.out.below hb3)
    have hE3:=(hb3.block _ hle2).trans HE2.out
    have HE3:=hide hE3
    have hl3:cb < w3.heap.size:=HC3.out.clt
    have hle3:w.heap.size < w3.heap.size:=(Array.getElem?_eq_some_iff.1 hE3).1
    clear hb3 hE3 HRu s0 s1 s2 s3 s4
    obtain ⟨w4,hw4⟩:∃ w4,w4=w3.alloc (.cells #[.func (.func fa) #[] #[],.func (.func fd) #[] #[]] 130):=⟨_,rfl⟩
    have hb4:Below w3.heap.size w3 w4:=by rw [hw4];exact below_alloc1 w3 _
    have HB4:=hide (Below.on HB3.out hb4)
    have HC4:=hide (HC3.out.below hb4)
    have hE4:=(hb4.block _ hle3).trans HE3.out
    have HE4:=hide hE4
    obtain ⟨s0,s1,s2,s3,s4⟩:=evc0 hE4
    have hR4:w4.heap[w3.heap.size]?=some (.cells #[.func (.func fa) #[] #[],.func (.func fd) #[] #[]] 130 (0,0)):=by rw [hw4];exact heap_new _ _
    have HR4:=hide hR4
    have u0:w4.cell? ⟨w3.heap.size,0,none⟩=some (.func (.func fa) #[] #[]):=cell_at hR4 rfl
    have u1:w4.cell? ⟨w3.heap.size,1,none⟩=some (.func (.func fd) #[] #[]):=cell_at hR4 rfl
    have hl4:cb < w4.heap.size:=HC4.out.clt
    have hle4:w.heap.size < w4.heap.size:=(Array.getElem?_eq_some_iff.1 hE4).1
    have hlr4:w3.heap.size < w4.heap.size:=(Array.getElem?_eq_some_iff.1 hR4).1
    have HSr:Hid ((w3.alloc (.cells #[.nilFunc,.nilFunc] 130)).setRow w3.heap.size #[.func (.func fa) #[] #[],.func (.func fd) #[] #[]]=w4):=hide (by rw [hw4];exact World.setRow_alloc_new _ _ _ _)
    have hfr:F w3.heap.size=none:=by
     cases hq:F w3.heap.size with
     | none=>rfl
     | some l=>have:=HC3.out.lt _ _ hq;omega
    have HFr:=hide hfr
    clear hb4 hE4 hR4 hw4 hfr
    go_wp2_with (refine wpList_store_row rfl 130 (.tmp 8) (.tmp 30) rfl w3.heap.size #[.func (.func fa) #[] #[],.func (.func fd) #[] #[]] rfl rfl 130 #[.nilFunc,.nilFunc] (heap_new _ _) infoR1 rfl (fn_one _ _) ?_;rw [HSr.out])
    have HAsk:=hide (ask_any (s:=.slice sa sn sc) HC4.out HEb1.out (HI.out.ok HT.out) HG.out)
    unfold evC gPtr at HAsk
    obtain ⟨R,hR⟩:∃ R,R=M.ask ⟨g,k,o,a⟩ r:=⟨_,rfl⟩
    rw [← hR] at HAsk
    have HR:=hide hR
    clear hR
    rw [HFa.out,asks_enter HEb1.out.k1 HEb1.out.k2]
    go_simp
    refine HAsk.out.mono ?_
    rintro e w5 ⟨rfl,hb5⟩
    have HB5:=hide (Below.on HB4.out hb5)
    have HC5:=hide (HC4.out.below hb5)
    have hE5:=(hb5.block _ hle4).trans HE4.out
    have HE5:=hide hE5
    have hR5:=(hb5.block _ hlr4).trans HR4.out
    have v1:w5.cell? ⟨w3.heap.size,1,none⟩=some (.func (.func fd) #[] #[]):=cell_at hR5 rfl
    obtain ⟨x0,x1,x2,x3,x4⟩:=evc0 hE5
    have hl5:cb < w5.heap.size:=HC5.out.clt
    have hle5:w.heap.size < w5.heap.size:=(Array.getElem?_eq_some_iff.1 hE5).1
    have hlr5:w3.heap.size < w5.heap.size:=(Array.getElem?_eq_some_iff.1 hR5).1
    clear hb5 hE5 hR5 HAsk s0 s1 s2 s3 s4 u0 u1
    by_cases hR0:R=0
    ·subst hR0
     have HDo:=hide (does_any (s:=.slice sa sn sc) HC5.out (by have:=HT.out;omega) HEb1.out (HI.out.ok HT.out) HG.out HR.out.symm)
     unfold evC gPtr at HDo
     go_wp2_with fail
     rw [HFd.out,does_enter HEb1.out.k1 HEb1.out.k2]
     go_simp
     refine HDo.out.mono ?_
     rintro e w7 ⟨rfl,hr⟩
     obtain ⟨B7,F7,k1,k2,k3⟩:=hr
     have hb7:=k1.blk nf
     rw [doo_taken] at hb7
     have d0:w7.cell? ⟨cb,0,none⟩=some (.int .i64 (M.taken:Int)):=cell_at hb7 rfl
     have f0:w7.frozen? ⟨cb,0,none⟩=false:=frz hb7 0
     have hl7:cb < w7.heap.size:=k1.clt
     have HK1:=hide k1
     have HK2:=hide k2
     have HK3:=hide k3
     have HB7:=hide hb7
     have ht7:(M.taken:Int)≤1048576:=by have:=HT.out;omega
     clear k1 k2 k3 hb7 HDo
     go_wp2
     go_ret2
     obtain ⟨j1,j2⟩:=HK1.out.setT (w':=w7.setCell ⟨cb,0,none⟩ (.int .i64 ((M.taken:Int)+1))) (M.taken+1) (set1_heap _ HB7.out) ((But.refl (fun k=>k=cb) w7).setCell _ (fun _=>rfl) _)
     have hwhy:M.why ⟨g,k,o,a⟩=0:=by
      unfold CS.why
      dsimp only
      rw [HG.out]
      dsimp only
      rw [← HA.out,if_neg (fun e=>e rfl)]
      exact HR.out.symm
     obtain ⟨z1,z2,z3⟩:=add_why HTk.out ⟨g,k,o,a⟩
     rw [hwhy] at z1 z3
     rw [if_neg (fun e=>e rfl)] at z3
     have hnx:M.next ⟨g,k,o,a⟩={ M.doo ⟨g,k,o,a⟩ r with taken:=M.taken+1 }:=by
      unfold CS.next CS.tick
      dsimp only
      rw [HG.out]
      dsimp only
      rw [doo_taken]
     rw [HY.out,HEE.out,HS.out,z1,z2,z3,hnx]
     exact ⟨rfl,CkR.below HB5.out (CkR.trans HK2.out HK3.out ⟨_,_,j1,FEx.refl _ _,j2⟩)⟩
    ·have hRn:(R != 0)=true:=by rw [bne_iff_ne];exact hR0
     have HR0:=hide hR0
     clear hR0
     go_wp2
     go_ret2
     have hwhy:M.why ⟨g,k,o,a⟩=R:=by
      unfold CS.why
      dsimp only
      rw [HG.out]
      dsimp only
      rw [← HA.out,if_neg (fun e=>e rfl)]
      exact HR.out.symm
     obtain ⟨z1,z2,z3⟩:=add_why HTk.out ⟨g,k,o,a⟩
     rw [hwhy] at z1 z3
     rw [if_pos HR0.out] at z3
     rw [HY.out,HEE.out,HS.out,z1,z2,z3]
     exact ⟨rfl,CkR.below HB5.out (CkR.of HC5.out)⟩
   ·have hAb:(A == 0)=false:=by rw [beq_eq_false_iff_ne];exact hA0
    have hAn:(A != 0)=true:=by rw [bne_iff_ne];exact hA0
    have HA0:=hide hA0
    clear hA0
    go_wp2
    go_ret2
    have hwhy:M.why ⟨g,k,o,a⟩=A:=by
     rw [HA.out]
     unfold CS.why
     dsimp only
     cases hq:M.gs g with
     | none=>unfold CS.act;dsimp only;rw [hq]
     | some r=>dsimp only;rw [if_pos (by rw [← HA.out];exact HA0.out)]
    obtain ⟨z1,z2,z3⟩:=add_why HTk.out ⟨g,k,o,a⟩
    rw [hwhy] at z1 z3
    rw [if_pos HA0.out] at z3
    rw [HY.out,HEE.out,HS.out,z1,z2,z3]
    exact ⟨rfl,CkR.below HB2.out (CkR.of HC2.out)⟩
 ·have hcn:(c != 0)=true:=by rw [bne_iff_ne];exact hc
  have HCc:=hide hc
  clear hc
  go_wp2
  go_ret2
  obtain ⟨z1,z2,z3⟩:=add_bad (M:=M) HCc.out ⟨g,k,o,a⟩
  rw [HY.out,HEE.out,HS.out,z1,z2,z3]
  exact ⟨rfl,CkR.below HB1.out (CkR.of HC1.out)⟩
end
end Go.Proofs.YtimgkhdgliojgaaGreatDoor
namespace Go.Proofs.YtimgkhdgliojgaaGreatDoor.E6
open Go.RowKit Go.Maps Go.Shelf
structure Ev where
 g:Int
 k:Int
 o:Int
 a:Int
 sa:Option Addr
 sc:Nat
 ls:List ByteArray
structure Ev.ok (e:Ev):Prop where
 ho:0≤e.o∧e.o≤18446744073709551615
 ha:0≤e.a∧e.a≤18446744073709551615
 len:e.ls.length≤8796093021952
 sz:∀ s ∈ e.ls,s.size≤maxLen
 cap:e.ls.length≤e.sc
 nil:e.sa=none→e.ls.length=0∧e.sc=0
def Ev.at (w:World) (e:Ev):Prop:=SRow w e.sa e.ls.length e.ls
structure ERow (w:World) (a:Option Addr) (n:Nat) (es:List Ev):Prop where
 len:es.length=n
 cells:n=0∨∃ b off,a=some ⟨b,off,none⟩∧∀ i e,es[i]?=some e→w.cell? ⟨b,off+i * 5,none⟩=some (.int .i64 e.g)∧w.cell? ⟨b,off+i * 5+1,none⟩=some (.int .i64 e.k)∧w.cell? ⟨b,off+i * 5+2,none⟩=some (.int .u64 e.o)∧w.cell? ⟨b,off+i * 5+3,none⟩=some (.int .u64 e.a)∧w.cell? ⟨b,off+i * 5+4,none⟩=some (.slice e.sa e.ls.length e.sc)∧e.at w
theorem ERow.at {w:World} {a:Option Addr} {n:Nat} {es:List Ev} (h:ERow w a n es) {i:Nat} (hi:i < n):∃ b off e,a=some ⟨b,off,none⟩∧es[i]?=some e∧w.cell? ⟨b,off+i * 5,none⟩=some (.int .i64 e.g)∧w.cell? ⟨b,off+i * 5+1,none⟩=some (.int .i64 e.k)∧w.cell? ⟨b,off+i * 5+2,none⟩=some (.int .u64 e.o)∧w.cell? ⟨b,off+i * 5+3,none⟩=some (.int .u64 e.a)∧w.cell? ⟨b,off+i * 5+4,none⟩=some (.slice e.sa e.ls.length e.sc)∧e.at w:=by
 rcases h.cells with h0|⟨b,off,e,hc⟩
 ·omega
 ·have hl:i < es.length:=by rw [h.len];exact hi
  exact ⟨b,off,es[i],e,List.getElem?_eq_getElem hl,hc i _ (List.getElem?_eq_getElem hl)⟩
theorem cell_bel {w w':World} {p:Addr} {v:Value} (hc:w.cell? p=some v) (hb:Below w.heap.size w w'):w'.cell? p=some v :=
 (hb.cell (World.block_lt_of_cell? w _ hc)).trans hc
theorem ERow.bel {w w':World} {a:Option Addr} {n:Nat} {es:List Ev} (h:ERow w a n es) (hb:Below w.heap.size w w'):ERow w' a n es :=
 ⟨h.len,h.cells.imp id fun ⟨b,off,e,hc⟩=>⟨b,off,e,fun i f hf=>by
  obtain ⟨c0,c1,c2,c3,c4,hs⟩:=hc i f hf
  exact ⟨cell_bel c0 hb,cell_bel c1 hb,cell_bel c2 hb,cell_bel c3 hb,cell_bel c4 hb,SRow.bel hs hb⟩⟩⟩
def ecell (e:Ev):List Value:=[.int .i64 e.g,.int .i64 e.k,.int .u64 e.o,.int .u64 e.a,.slice e.sa e.ls.length e.sc]
def ecells:List Ev→List Value
 | []=>[]
 | e :: l=>ecell e++ecells l
theorem Tryz.infoEvent:(Tryz.prog.info? 35).map (fun i=>(i.zero,i.size,i.bytes))=some (some (.agg #[.int .i64 0,.int .i64 0,.int .u64 0,.int .u64 0,.slice none 0 0]),5,56):=by kernel_rfl
end Go.Proofs.YtimgkhdgliojgaaGreatDoor.E6
namespace Go.Proofs.YtimgkhdgliojgaaGreatDoor.E6
open Go.RowKit Go.Maps Go.Shelf
def newR (L:List ByteArray):List ByteArray→List ByteArray
 | []=>[]
 | t :: r=>if isIn L t || isIn r t then newR L r else newR L r++[t]
def newS (L l:List ByteArray):List ByteArray:=newR L l.reverse
theorem isIn_rev (l:List ByteArray) (s:ByteArray):isIn l.reverse s=isIn l s:=by
 rw [Bool.eq_iff_iff,isIn_iff,isIn_iff,List.mem_reverse]
theorem newS_snoc (L l:List ByteArray) (t:ByteArray):newS L (l++[t])=if isIn L t || isIn l t then newS L l else newS L l++[t]:=by
 unfold newS;rw [List.reverse_append];show newR L (t :: l.reverse)=_;rw [newR,isIn_rev]
theorem newS_take {L l:List ByteArray} {k:Nat} (h:k < l.length):newS L (l.take (k+1))=if isIn L (l.getD k ByteArray.empty) || isIn (l.take k) (l.getD k ByteArray.empty) then newS L (l.take k) else newS L (l.take k)++[l.getD k ByteArray.empty]:=by
 rw [← newS_snoc,List.take_add_one,getD_get h];rfl
theorem newS_len (L l:List ByteArray):(newS L l).length≤l.length:=by
 unfold newS
 have e:l.length=l.reverse.length:=by simp
 rw [e]
 clear e
 generalize l.reverse=r
 induction r with
 | nil=>simp [newR]
 | cons t r ih=>unfold newR;split <;> simp <;> omega
theorem newS_mem (L l:List ByteArray):∀ t,t ∈ newS L l ↔ t ∈ l∧t ∉ L:=by
 intro t
 unfold newS
 have e:t ∈ l ↔ t ∈ l.reverse:=by simp
 rw [e]
 clear e
 generalize l.reverse=q
 induction q with
 | nil=>simp [newR]
 | cons u r ih =>
  unfold newR
  by_cases h:(isIn L u || isIn r u)=true
  ·rw [if_pos h]
   refine Iff.trans ih ?_
   rw [Bool.or_eq_true,isIn_iff,isIn_iff] at h
   constructor
   ·rintro ⟨h1,h2⟩;exact ⟨by simp [h1],h2⟩
   ·rintro ⟨h1,h2⟩
    rcases List.mem_cons.1 h1 with rfl|h1
    ·rcases h with h|h
     ·exact absurd h h2
     ·exact ⟨h,h2⟩
    ·exact ⟨h1,h2⟩
  ·rw [if_neg h,List.mem_append]
   rw [Bool.or_eq_true,isIn_iff,isIn_iff] at h
   constructor
   ·rintro (h1|h1)
    ·exact ⟨by simp [(ih.1 h1).1],(ih.1 h1).2⟩
    ·simp at h1;subst h1;exact ⟨by simp,fun e=>h (.inl e)⟩
   ·rintro ⟨h1,h2⟩
    rcases List.mem_cons.1 h1 with rfl|h1
    ·exact .inr (by simp)
    ·exact .inl (ih.2 ⟨h1,h2⟩)
structure Roomy (L:List ByteArray) (n:Nat) (l:List ByteArray):Prop where
 each:∀ t ∈ newS L l,t.size≤65536
 count:L.length+(newS L l).length≤65536
 sum:total L+total (newS L l)≤4194304
 nodes:n+l.length≤262144
theorem total_le {l:List ByteArray} (h:∀ t ∈ l,t.size≤65536):total l≤l.length * 65536:=by
 induction l with
 | nil=>simp [total]
 | cons t r ih =>
  have h1:=h t (by simp)
  have h2:=ih (fun x hx=>h x (by simp [hx]))
  simp only [total,List.map_cons,List.sum_cons,List.length_cons] at h2 ⊢
  omega
def RoomE (L:List ByteArray) (n:Nat) (l:List ByteArray) (e:Ending):Prop:=∃ b:Bool,e=.returned (.bool b)∧(b=true ↔ Roomy L n l)
theorem hasRoom_any {w:World} {fb tb:Nat} {S T:Nat→Prop} {N:List Nd} {v:Value} {mb:Nat} {L:List ByteArray} {tv tm:Value} (hT:Tab w tb T L tv tm) (hF:Frs w fb tb S N v mb)
  (a:Option Addr) (n c:Nat) (l:List ByteArray) (hr:SRow w a n l) (hn:n≤16) (hc:n≤c) (hz:∀ s ∈ l,s.size≤maxLen) :
  Calls Tryz.prog 172 #[.pointer (some ⟨fb,0,none⟩),.slice a n c] w fun e w'=>RoomE L N.length l e∧∃ k,w'=w.drewN k:=by
 have HT:Hid (Tab w tb T L tv tm):=hT
 have HF:Hid (Frs w fb tb S N v mb):=hF
 have HR:Hid (SRow w a n l):=hr
 have HZ:Hid (∀ s ∈ l,s.size≤maxLen):=hz
 have HL:Hid (l.length=n):=hr.len
 have hn':(n:Int)≤16:=by omega
 have c0:=hF.cell0
 have t0:=hT.cell0
 have t2:=hT.cell2
 obtain ⟨ta,tc,rfl⟩:=own_form hT.own
 have hsum:(total L:Int)≤4194304:=by have:=hT.sum;omega
 have hcnt:(L.length:Int)≤65536:=by have:=hT.len;omega
 have HQ1:Hid (∀ j,Calls Tryz.prog 199 #[.pointer (some ⟨tb,0,none⟩)] (w.drewN j) fun e w'=>e=.returned (.int .i64 L.length)∧w'=w.drewN j):=hide (fun j=>len_any tb _ tc ta _ (cell_drewN t0 j))
 have HQ2:Hid (∀ j,Calls Tryz.prog 200 #[.pointer (some ⟨tb,0,none⟩)] (w.drewN j) fun e w'=>e=.returned (.int .i64 (total L:Nat))∧w'=w.drewN j):=hide (fun j=>bytes_any tb _ _ (cell_drewN t2 j))
 clear hT hF hr hz t0 t2
 go_enter Tryz.func172,Tryz.ntmps172
 go_wp2
 go_quiet ((first|(go_at_call 199;exact Calls.quiet_of_same (HQ1.out _))|(go_at_call 200;exact Calls.quiet_of_same (HQ2.out _))))
 go_wp2
 go_loopw [5,6,23] (fun d z i wr=>∃ k q cn sz:Nat,k≤n∧i=.int .i64 k∧d=.int .i64 (cn:Int)∧z=.int .i64 (sz:Int)∧wr=w.drewN q∧cn=L.length+(newS L (l.take k)).length∧sz=total L+total (newS L (l.take k))∧∀ t ∈ newS L (l.take k),t.size≤65536) (fun _ _ i _=>n - (intOf i).toNat)
 case atStart=>exact ⟨0,nq,L.length,total L,Nat.zero_le _,rfl,rfl,rfl,rfl,rfl,rfl,by simp [newS,newR]⟩
 case round =>
  obtain ⟨k,q,cn,sz,hk,rfl,rfl,rfl,hw,hcn,hsz,hev⟩:=hrel
  have HW:Hid (wr=w.drewN q):=hw
  have HEV:Hid (∀ t ∈ newS L (l.take k),t.size≤65536):=hev
  have HCN:Hid (cn=L.length+(newS L (l.take k)).length):=hcn
  have HSZ:Hid (sz=total L+total (newS L (l.take k))):=hsz
  have hTr:Hid (Tab wr tb T L (.slice ta L.length tc) tm):=hide (by rw [hw];exact HT.out.drewN q)
  have hFr:Hid (Frs wr fb tb S N v mb):=hide (by rw [hw];exact HF.out.drewN q)
  have hRr:Hid (SRow wr a n l):=hide (by rw [hw];exact HR.out.drewN q)
  have hkl:(newS L (l.take k)).length≤k:=by have:=newS_len L (l.take k);rw [List.length_take] at this;omega
  have hcn':(cn:Int)≤65552:=by rw [hcn];omega
  have hsz':(sz:Int)≤5242880:=by have:=total_le hev;rw [hsz];omega
  have c0:=hFr.out.cell0
  have c1:=hFr.out.cell1
  have hNl:=hFr.out.len
  obtain ⟨va,vc,rfl⟩:=own_form hFr.out.own
  clear hw hcn hsz hev hkl
  by_cases hlt:k < n
  ·obtain ⟨bo,oo,ha,hco⟩:=hRr.out.at (i:=k) (by omega)
   subst ha
   have hN:=newS_take (L:=L) (l:=l) (k:=k) (by have:=HL.out;omega)
   obtain ⟨s,hs⟩:∃ s,s=l.getD k ByteArray.empty:=⟨_,rfl⟩
   have HS:Hid (s.size≤maxLen):=hide (by rw [hs];exact HZ.out _ (List.mem_of_getElem? (getD_get (by have:=HL.out;omega))))
   rw [← hs] at hco hN
   obtain ⟨b,hb⟩:∃ b,isIn L s=b:=⟨_,rfl⟩
   obtain ⟨fr,hfr⟩:∃ fr:Int,fr=if isIn L s then (place L s:Int) else 0:=⟨_,rfl⟩
   have HQ:Hid (Calls Tryz.prog 198 #[.pointer (some ⟨tb,0,none⟩),.string s] wr fun e w'=>e=.returned (.tuple #[.int .i64 fr,.bool b])∧w'=wr):=hide (by
    have:=find_any hTr.out s HS.out
    have e:lookV L s=.tuple #[.int .i64 fr,.bool b]:=by unfold lookV;rw [hfr,← hb]
    rwa [e] at this)
   obtain ⟨b2,hb2⟩:∃ b2,isIn (l.take k) s=b2:=⟨_,rfl⟩
   have HC:Hid (Calls Tryz.prog 201 #[.slice (some ⟨bo,oo,none⟩) k c,.string s] wr fun e w'=>e=.returned (.bool b2)∧w'=wr):=hide (by
    have:=contains_any (some ⟨bo,oo,none⟩) k c (l.take k) s wr (hRr.out.take hk) (by omega)
    rwa [hb2] at this)
   rw [hb,hb2] at hN
   have HN:Hid _:=hide hN
   have HSM:Hid (s ∈ l):=hide (by rw [hs];exact List.mem_of_getElem? (getD_get (by have:=HL.out;omega)))
   have HSN:Hid (b=true∨s ∉ L):=hide (by cases b;exact .inr (isIn_not.1 hb);exact .inl rfl)
   have hss:(s.size:Int)≤9223372036854775807:=by have:=HS.out;unfold maxLen at this;omega
   clear hs hb hb2 hfr hN
   go_wp2_with fail
   refine HQ.out.mono ?_
   rintro e w' ⟨rfl,rfl⟩
   have hkc:(k:Int)≤c:=by omega
   cases b
   ·go_wp2_with fail
    refine HC.out.mono ?_
    rintro e w'' ⟨rfl,rfl⟩
    cases b2
    ·by_cases hbig:(s.size:Int) > 65536
     ·go_wp2
      go_ret
      refine ⟨⟨false,rfl,?_⟩,q,HW.out⟩
      refine ⟨fun e=>(by cases e),fun h=>?_⟩
      have:=h.each s ((newS_mem L l s).2 ⟨HSM.out,HSN.out.resolve_left (by simp)⟩)
      omega
     ·go_wp2
      refine ⟨⟨k+1,q,cn+1,sz+s.size,by omega,by go_num,by go_num,by go_num,HW.out,?_,?_,?_⟩,by simp [intOf];omega⟩
      ·rw [HN.out,HCN.out];simp;omega
      ·rw [HN.out,HSZ.out];simp [total_snoc];omega
      ·rw [HN.out]
       intro t ht
       simp at ht
       rcases ht with ht|rfl
       ·exact HEV.out t ht
       ·omega
    ·go_wp2
     refine ⟨⟨k+1,q,cn,sz,by omega,by go_num,rfl,rfl,HW.out,?_,?_,?_⟩,by simp [intOf];omega⟩
     ·rw [HN.out,HCN.out];simp
     ·rw [HN.out,HSZ.out];simp
     ·rw [HN.out];exact HEV.out
   ·go_wp2
    refine ⟨⟨k+1,q,cn,sz,by omega,by go_num,rfl,rfl,HW.out,?_,?_,?_⟩,by simp [intOf];omega⟩
    ·rw [HN.out,HCN.out];simp
    ·rw [HN.out,HSZ.out];simp
    ·rw [HN.out];exact HEV.out
  ·have ht:l.take k=l:=List.take_of_length_le (by have:=HL.out;omega)
   rw [ht] at HCN HSZ HEV
   have hkn:k=n:=by omega
   subst hkn
   by_cases h1:(cn:Int)≤65536
   ·by_cases h2:(sz:Int)≤4194304
    ·by_cases h3:(N.length:Int)+k≤262144
     ·have HX:Hid (Roomy L N.length l):=⟨HEV.out,by have:=HCN.out;omega,by have:=HSZ.out;omega,by have:=HL.out;omega⟩
      clear ht
      go_wp2
      go_ret
      exact ⟨⟨true,rfl,fun _=>HX.out,fun _=>rfl⟩,q,HW.out⟩
     ·have HX:Hid (¬ Roomy L N.length l):=fun h=>h3 (by have:=h.nodes;have:=HL.out;omega)
      clear ht
      go_wp2
      go_ret
      exact ⟨⟨false,rfl,fun e=>(by cases e),fun h=>absurd h HX.out⟩,q,HW.out⟩
    ·have HX:Hid (¬ Roomy L N.length l):=fun h=>h2 (by have:=h.sum;have:=HSZ.out;omega)
     clear ht
     go_wp2
     go_ret
     exact ⟨⟨false,rfl,fun e=>(by cases e),fun h=>absurd h HX.out⟩,q,HW.out⟩
   ·have HX:Hid (¬ Roomy L N.length l):=fun h=>h1 (by have:=h.count;have:=HCN.out;omega)
    clear ht
    go_wp2
    go_ret
    exact ⟨⟨false,rfl,fun e=>(by cases e),fun h=>absurd h HX.out⟩,q,HW.out⟩
end Go.Proofs.YtimgkhdgliojgaaGreatDoor.E6
