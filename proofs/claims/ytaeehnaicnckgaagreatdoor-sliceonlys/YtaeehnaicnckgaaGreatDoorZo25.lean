import Derived.Test.YtaeehnaicnckgaaGreatDoorZo24
import Derived.Test.YtaeehnaicnckgaaGreatDoorZo05
import Derived.Test.YtaeehnaicnckgaaGreatDoorZo06
set_option maxRecDepth 8000
set_option maxHeartbeats 8000000
set_option linter.unusedVariables false
namespace Go.Proofs.YtaeehnaicnckgaaGreatDoor
open Go.RowKit Go.Maps
section
variable {w w' : World} {cb : Nat} {B : Bl} {F : Nat → Option Lb} {M : CS} {N : Nat} {g k o a : Int} {s : Value}
def CS.addE (M:CS) (c:Int):Int:=if c≠0 then c else if M.taken=1048576 then 3 else 0
def CS.addY (M:CS) (c:Int) (e:Me):Int:=if c≠0 then 0 else if M.taken=1048576 then 0 else M.why e
def CS.addS (M:CS) (c:Int) (e:Me):CS:=if c≠0 then M else if M.taken=1048576 then M else if M.why e≠0 then M else M.next e
theorem run_enter {f : FuncId} {fn : Func} {c : Code} (hf : Tryz.prog.funcs[f]? = some fn) (hname : (fn.name == "runtime.NumGoroutine") = false) (hb : fn.body = some c) (args : Array Value) (w : World) :
  (callFunc f args).run Tryz.prog w=.ok (.enter f args) w:=by
 have h1 : fn.name ≠ "runtime.NumGoroutine" := by simpa using hname
 simp [callFunc,hf,h1,hb]
theorem asks_enter (h1:1≤k) (h2:k≤22) (args:Array Value) (w:World):(callFunc (asksOf k) args).run Tryz.prog w=.ok (.enter (asksOf k) args) w:=by
 rcases kcases h1 h2 with rfl|rfl|rfl|rfl|rfl|rfl|rfl|rfl|rfl|rfl|rfl|rfl|rfl|rfl|rfl|rfl|rfl|rfl|rfl|rfl|rfl|rfl
 ·exact run_enter Tryz.func66 (by kernel_rfl) rfl args w
 ·exact run_enter Tryz.func66 (by kernel_rfl) rfl args w
 ·exact run_enter Tryz.func68 (by kernel_rfl) rfl args w
 ·exact run_enter Tryz.func70 (by kernel_rfl) rfl args w
 ·exact run_enter Tryz.func72 (by kernel_rfl) rfl args w
 ·exact run_enter Tryz.func74 (by kernel_rfl) rfl args w
 ·exact run_enter Tryz.func76 (by kernel_rfl) rfl args w
 ·exact run_enter Tryz.func78 (by kernel_rfl) rfl args w
 ·exact run_enter Tryz.func80 (by kernel_rfl) rfl args w
 ·exact run_enter Tryz.func82 (by kernel_rfl) rfl args w
 ·exact run_enter Tryz.func84 (by kernel_rfl) rfl args w
 ·exact run_enter Tryz.func86 (by kernel_rfl) rfl args w
 ·exact run_enter Tryz.func88 (by kernel_rfl) rfl args w
 ·exact run_enter Tryz.func90 (by kernel_rfl) rfl args w
 ·exact run_enter Tryz.func92 (by kernel_rfl) rfl args w
 ·exact run_enter Tryz.func93 (by kernel_rfl) rfl args w
 ·exact run_enter Tryz.func66 (by kernel_rfl) rfl args w
 ·exact run_enter Tryz.func66 (by kernel_rfl) rfl args w
 ·exact run_enter Tryz.func66 (by kernel_rfl) rfl args w
 ·exact run_enter Tryz.func95 (by kernel_rfl) rfl args w
 ·exact run_enter Tryz.func97 (by kernel_rfl) rfl args w
 ·exact run_enter Tryz.func66 (by kernel_rfl) rfl args w
theorem does_enter (h1:1≤k) (h2:k≤22) (args:Array Value) (w:World):(callFunc (doesOf k) args).run Tryz.prog w=.ok (.enter (doesOf k) args) w:=by
 rcases kcases h1 h2 with rfl|rfl|rfl|rfl|rfl|rfl|rfl|rfl|rfl|rfl|rfl|rfl|rfl|rfl|rfl|rfl|rfl|rfl|rfl|rfl|rfl|rfl
 ·exact run_enter Tryz.func67 (by kernel_rfl) rfl args w
 ·exact run_enter Tryz.func67 (by kernel_rfl) rfl args w
 ·exact run_enter Tryz.func69 (by kernel_rfl) rfl args w
 ·exact run_enter Tryz.func71 (by kernel_rfl) rfl args w
 ·exact run_enter Tryz.func73 (by kernel_rfl) rfl args w
 ·exact run_enter Tryz.func75 (by kernel_rfl) rfl args w
 ·exact run_enter Tryz.func77 (by kernel_rfl) rfl args w
 ·exact run_enter Tryz.func79 (by kernel_rfl) rfl args w
 ·exact run_enter Tryz.func81 (by kernel_rfl) rfl args w
 ·exact run_enter Tryz.func83 (by kernel_rfl) rfl args w
 ·exact run_enter Tryz.func85 (by kernel_rfl) rfl args w
 ·exact run_enter Tryz.func87 (by kernel_rfl) rfl args w
 ·exact run_enter Tryz.func89 (by kernel_rfl) rfl args w
 ·exact run_enter Tryz.func91 (by kernel_rfl) rfl args w
 ·exact run_enter Tryz.func67 (by kernel_rfl) rfl args w
 ·exact run_enter Tryz.func94 (by kernel_rfl) rfl args w
 ·exact run_enter Tryz.func67 (by kernel_rfl) rfl args w
 ·exact run_enter Tryz.func67 (by kernel_rfl) rfl args w
 ·exact run_enter Tryz.func67 (by kernel_rfl) rfl args w
 ·exact run_enter Tryz.func96 (by kernel_rfl) rfl args w
 ·exact run_enter Tryz.func98 (by kernel_rfl) rfl args w
 ·exact run_enter Tryz.func67 (by kernel_rfl) rfl args w
theorem add_bad {c:Int} (h:c≠0) (e:Me):M.addY c e=0∧M.addE c=c∧M.addS c e=M:=⟨if_pos h,if_pos h,if_pos h⟩
theorem add_full (h:M.taken=1048576) (e:Me):M.addY 0 e=0∧M.addE 0=3∧M.addS 0 e=M:=by
 unfold CS.addY CS.addE CS.addS
 have h0:¬ ((0:Int)≠0):=fun e=>e rfl
 rw [if_neg h0,if_neg h0,if_neg h0,if_pos h,if_pos h,if_pos h]
 exact ⟨rfl,rfl,rfl⟩
theorem add_why (h:¬ M.taken=1048576) (e:Me):M.addY 0 e=M.why e∧M.addE 0=0∧M.addS 0 e=if M.why e≠0 then M else M.next e:=by
 unfold CS.addY CS.addE CS.addS
 have h0:¬ ((0:Int)≠0):=fun e=>e rfl
 rw [if_neg h0,if_neg h0,if_neg h0,if_neg h,if_neg h,if_neg h]
 exact ⟨rfl,rfl,rfl⟩
theorem Add_any {sa:Option Addr} {sn sc:Nat} {ls:List ByteArray} (h:Ck w cb B F M (M.taken+1)) (hi:M.inv) (ht:M.taken≤1048576) (hK:E6.Kr w) (hs:E6.SRow w sa sn ls) (hn:(sn:Int)≤9223372036854775806) (o0:0≤o) (o1:o≤18446744073709551615) (a0:0≤a) (a1:a≤18446744073709551615) :
  Calls Tryz.prog 30 #[gPtr cb,.agg (evC g k o a (.slice sa sn sc))] w fun e w'=>e=.returned (.tuple #[.int .i64 (M.addY (E6.chk g k o a ls) ⟨g,k,o,a⟩),.int .i64 (M.addE (E6.chk g k o a ls))])∧CkR w cb F (M.addS (E6.chk g k o a ls) ⟨g,k,o,a⟩) ((M.addS (E6.chk g k o a ls) ⟨g,k,o,a⟩).taken+1) w':=by
 obtain ⟨W,hW⟩:∃ W,W=w.alloc (.cells (evC g k o a (.slice sa sn sc)) 43):=⟨_,rfl⟩
 have hb:Below w.heap.size w W:=by rw [hW];exact below_alloc1 w _
 have hC:=h.below hb
 have hE:W.heap[w.heap.size]?=some (.cells (evC g k o a (.slice sa sn sc)) 43 (0,0)):=by rw [hW];exact heap_new _ _
 obtain ⟨p0,p1,p2,p3,p4⟩:=evc0 hE
 obtain ⟨r0,hg0⟩:=hi.g0
 have hsz:=hK.size
 have HMi:=hide (missing_any hC hg0)
 have HCh:=hide (E6.check_any g k o a sa sn sc ls W (hK.below hb (by omega)) (hs.bel hb) hn)
 have HB:=hide hb
 have HW:=hide hW
 have HC:=hide hC
 have HE:=hide hE
 have HI:=hide hi
 have HT:=hide ht
 have hFe:F w.heap.size=none:=by
  cases hq:F w.heap.size with
  | none=>rfl
  | some l=>have:=h.lt _ _ hq;omega
 have HFe:=hide hFe
 have hlt:=h.clt
 have hltW:cb < W.heap.size:=hC.clt
 have hleW:w.heap.size < W.heap.size:=(Array.getElem?_eq_some_iff.1 hE).1
 have HEb:Hid (E6.chk g k o a ls=0→Eb g k o a):=hide (fun e=>chk_eb e o0 o1 a0 a1)
 obtain ⟨c,hc⟩:∃ c,c=E6.chk g k o a ls:=⟨_,rfl⟩
 rw [← hc] at HCh HEb ⊢
 obtain ⟨Y,hY⟩:∃ Y,Y=M.addY c ⟨g,k,o,a⟩:=⟨_,rfl⟩
 obtain ⟨E,hE9⟩:∃ E,E=M.addE c:=⟨_,rfl⟩
 obtain ⟨S,hS⟩:∃ S,S=M.addS c ⟨g,k,o,a⟩:=⟨_,rfl⟩
 rw [← hY,← hE9,← hS]
 have HY:=hide hY
 have HEE:=hide hE9
 have HS:=hide hS
 unfold gPtr at HMi
 clear h hb hW hC hE hi ht hK hs hn o0 o1 a0 a1 hc hY hE9 hS hFe hg0 hsz
 unfold gPtr evC
 unfold evC at HW
 go_enter Tryz.func30,Tryz.ntmps30
 go_wp2_with fail
 rw [← HW.out]
 clear HW
 refine HMi.out.mono ?_
 rintro e w9 ⟨rfl,rfl⟩
 go_wp2_with fail
 refine HCh.out.mono ?_
 rintro e w1 ⟨rfl,hb1⟩
 have HB1:=hide (Below.on HB.out hb1)
 have HC1:=hide (HC.out.below hb1)
 have hE1:=(hb1.block _ hleW).trans HE.out
 obtain ⟨q0,q1,q2,q3,q4⟩:=evc0 hE1
 have HE1:=hide hE1
 have hl1:cb < w1.heap.size:=HC1.out.clt
 have hle1:w.heap.size < w1.heap.size:=(Array.getElem?_eq_some_iff.1 hE1).1
 have t0:=HC1.out.c0
 clear hb1 hE1 HMi HCh p0 p1 p2 p3 p4
 by_cases hc:c=0
 ·have HCc:=hide hc
  subst hc
  by_cases htk:M.taken=1048576
  ·have htb:((M.taken:Int) == 1048576)=true:=by rw [beq_iff_eq];omega
   have HTk:=hide htk
   clear htk
   go_wp2
   go_ret2
   obtain ⟨z1,z2,z3⟩:=add_full HTk.out ⟨g,k,o,a⟩
   rw [HY.out,HEE.out,HS.out,z1,z2,z3]
   exact ⟨rfl,CkR.below HB1.out (CkR.of HC1.out)⟩
  ·have htb:((M.taken:Int) == 1048576)=false:=by rw [beq_eq_false_iff_ne];omega
   have HTk:=hide htk
   clear htk
   have HEb1:=hide (HEb.out rfl)
   have HAct:=hide (mayAct_any (k:=k) (s:=.slice sa sn sc) HC1.out HEb1.out.ok)
   unfold evC gPtr at HAct
   have hact:∃ A,A=M.act ⟨g,k,o,a⟩:=⟨_,rfl⟩
   obtain ⟨A,hA⟩:=hact
   have HAct2:Hid (Calls Tryz.prog 46 #[.pointer (some ⟨cb,0,none⟩),.agg #[.int .i64 g,.int .i64 k,.int .u64 o,.int .u64 a,.slice sa sn sc]] w1 fun e w'=>e=.returned (.int .i64 A)∧Below w1.heap.size w1 w'):=hide (by rw [hA];exact HAct.out)
   have HA:=hide hA
   clear hA HAct
   go_wp2_with fail
   refine HAct2.out.mono ?_
   rintro e w2 ⟨rfl,hb2⟩
   have HB2:=hide (Below.on HB1.out hb2)
   have HC2:=hide (HC1.out.below hb2)
   have hE2:=(hb2.block _ hle1).trans HE1.out
   obtain ⟨s0,s1,s2,s3,s4⟩:=evc0 hE2
   have HE2:=hide hE2
   have hl2:cb < w2.heap.size:=HC2.out.clt
   have hle2:w.heap.size < w2.heap.size:=(Array.getElem?_eq_some_iff.1 hE2).1
   clear hb2 hE2 HAct2 q0 q1 q2 q3 q4
   by_cases hA0:A=0
   ·subst hA0
    obtain ⟨r,hg⟩:∃ r,M.gs g=some r:=by
     cases hq:M.gs g with
     | some r=>exact ⟨r,rfl⟩
     | none=>have h9:=HA.out;unfold CS.act at h9;dsimp only at h9;rw [hq] at h9;cases h9
    have HG:=hide hg
    have HRu:=hide (ruleOf_any (w:=w2) HEb1.out.k1 HEb1.out.k2)
    obtain ⟨fa,hfa⟩:∃ fa,fa=asksOf k:=⟨_,rfl⟩
    obtain ⟨fd,hfd⟩:∃ fd,fd=doesOf k:=⟨_,rfl⟩
    rw [← hfa,← hfd] at HRu
    have HFa:=hide hfa
    have HFd:=hide hfd
    clear hfa hfd hg
    go_wp2_with fail
    refine HRu.out.mono ?_
    rintro e w3 ⟨rfl,hb3⟩
    have HB3:=hide (Below.on HB2.out hb3)
    have HC3:=hide (HC2.out.below hb3)
    have hE3:=(hb3.block _ hle2).trans HE2.out
    have HE3:=hide hE3
    have hl3:cb < w3.heap.size:=HC3.out.clt
    have hle3:w.heap.size < w3.heap.size:=(Array.getElem?_eq_some_iff.1 hE3).1
    clear hb3 hE3 HRu s0 s1 s2 s3 s4
    obtain ⟨w4,hw4⟩:∃ w4,w4=w3.alloc (.cells #[.func (.func fa) #[] #[],.func (.func fd) #[] #[]] 86):=⟨_,rfl⟩
    have hb4:Below w3.heap.size w3 w4:=by rw [hw4];exact below_alloc1 w3 _
    have HB4:=hide (Below.on HB3.out hb4)
    have HC4:=hide (HC3.out.below hb4)
    have hE4:=(hb4.block _ hle3).trans HE3.out
    have HE4:=hide hE4
    obtain ⟨s0,s1,s2,s3,s4⟩:=evc0 hE4
    have hR4:w4.heap[w3.heap.size]?=some (.cells #[.func (.func fa) #[] #[],.func (.func fd) #[] #[]] 86 (0,0)):=by rw [hw4];exact heap_new _ _
    have HR4:=hide hR4
    have u0:w4.cell? ⟨w3.heap.size,0,none⟩=some (.func (.func fa) #[] #[]):=cell_at hR4 rfl
    have u1:w4.cell? ⟨w3.heap.size,1,none⟩=some (.func (.func fd) #[] #[]):=cell_at hR4 rfl
    have hl4:cb < w4.heap.size:=HC4.out.clt
    have hle4:w.heap.size < w4.heap.size:=(Array.getElem?_eq_some_iff.1 hE4).1
    have hlr4:w3.heap.size < w4.heap.size:=(Array.getElem?_eq_some_iff.1 hR4).1
    have HSr:Hid ((w3.alloc (.cells #[.nilFunc,.nilFunc] 86)).setRow w3.heap.size #[.func (.func fa) #[] #[],.func (.func fd) #[] #[]]=w4):=hide (by rw [hw4];exact World.setRow_alloc_new _ _ _ _)
    have hfr:F w3.heap.size=none:=by
     cases hq:F w3.heap.size with
     | none=>rfl
     | some l=>have:=HC3.out.lt _ _ hq;omega
    have HFr:=hide hfr
    clear hb4 hE4 hR4 hw4 hfr
    go_wp2_with (refine wpList_store_row rfl 86 (.tmp 8) (.tmp 30) rfl w3.heap.size #[.func (.func fa) #[] #[],.func (.func fd) #[] #[]] rfl rfl 86 #[.nilFunc,.nilFunc] (heap_new _ _) infoR1 rfl (fn_one _ _) ?_;rw [HSr.out])
    have HAsk:=hide (ask_any (s:=.slice sa sn sc) HC4.out HEb1.out (HI.out.ok HT.out) HG.out)
    unfold evC gPtr at HAsk
    obtain ⟨R,hR⟩:∃ R,R=M.ask ⟨g,k,o,a⟩ r:=⟨_,rfl⟩
    rw [← hR] at HAsk
    have HR:=hide hR
    clear hR
    rw [HFa.out,asks_enter HEb1.out.k1 HEb1.out.k2]
    go_simp
    refine HAsk.out.mono ?_
    rintro e w5 ⟨rfl,hb5⟩
    have HB5:=hide (Below.on HB4.out hb5)
    have HC5:=hide (HC4.out.below hb5)
    have hE5:=(hb5.block _ hle4).trans HE4.out
    have HE5:=hide hE5
    have hR5:=(hb5.block _ hlr4).trans HR4.out
    have v1:w5.cell? ⟨w3.heap.size,1,none⟩=some (.func (.func fd) #[] #[]):=cell_at hR5 rfl
    obtain ⟨x0,x1,x2,x3,x4⟩:=evc0 hE5
    have hl5:cb < w5.heap.size:=HC5.out.clt
    have hle5:w.heap.size < w5.heap.size:=(Array.getElem?_eq_some_iff.1 hE5).1
    have hlr5:w3.heap.size < w5.heap.size:=(Array.getElem?_eq_some_iff.1 hR5).1
    clear hb5 hE5 hR5 HAsk s0 s1 s2 s3 s4 u0 u1
    by_cases hR0:R=0
    ·subst hR0
     have HDo:=hide (does_any (s:=.slice sa sn sc) HC5.out (by have:=HT.out;omega) HEb1.out (HI.out.ok HT.out) HG.out HR.out.symm)
     unfold evC gPtr at HDo
     go_wp2_with fail
     rw [HFd.out,does_enter HEb1.out.k1 HEb1.out.k2]
     go_simp
     refine HDo.out.mono ?_
     rintro e w7 ⟨rfl,hr⟩
     obtain ⟨B7,F7,k1,k2,k3⟩:=hr
     have hb7:=k1.blk nf
     rw [doo_taken] at hb7
     have d0:w7.cell? ⟨cb,0,none⟩=some (.int .i64 (M.taken:Int)):=cell_at hb7 rfl
     have f0:w7.frozen? ⟨cb,0,none⟩=false:=frz hb7 0
     have hl7:cb < w7.heap.size:=k1.clt
     have HK1:=hide k1
     have HK2:=hide k2
     have HK3:=hide k3
     have HB7:=hide hb7
     have ht7:(M.taken:Int)≤1048576:=by have:=HT.out;omega
     clear k1 k2 k3 hb7 HDo
     go_wp2
     go_ret2
     obtain ⟨j1,j2⟩:=HK1.out.setT (w':=w7.setCell ⟨cb,0,none⟩ (.int .i64 ((M.taken:Int)+1))) (M.taken+1) (set1_heap _ HB7.out) ((But.refl (fun k=>k=cb) w7).setCell _ (fun _=>rfl) _)
     have hwhy:M.why ⟨g,k,o,a⟩=0:=by
      unfold CS.why
      dsimp only
      rw [HG.out]
      dsimp only
      rw [← HA.out,if_neg (fun e=>e rfl)]
      exact HR.out.symm
     obtain ⟨z1,z2,z3⟩:=add_why HTk.out ⟨g,k,o,a⟩
     rw [hwhy] at z1 z3
     rw [if_neg (fun e=>e rfl)] at z3
     have hnx:M.next ⟨g,k,o,a⟩={ M.doo ⟨g,k,o,a⟩ r with taken:=M.taken+1 }:=by
      unfold CS.next CS.tick
      dsimp only
      rw [HG.out]
      dsimp only
      rw [doo_taken]
     rw [HY.out,HEE.out,HS.out,z1,z2,z3,hnx]
     exact ⟨rfl,CkR.below HB5.out (CkR.trans HK2.out HK3.out ⟨_,_,j1,FEx.refl _ _,j2⟩)⟩
    ·have hRn:(R != 0)=true:=by rw [bne_iff_ne];exact hR0
     have HR0:=hide hR0
     clear hR0
     go_wp2
     go_ret2
     have hwhy:M.why ⟨g,k,o,a⟩=R:=by
      unfold CS.why
      dsimp only
      rw [HG.out]
      dsimp only
      rw [← HA.out,if_neg (fun e=>e rfl)]
      exact HR.out.symm
     obtain ⟨z1,z2,z3⟩:=add_why HTk.out ⟨g,k,o,a⟩
     rw [hwhy] at z1 z3
     rw [if_pos HR0.out] at z3
     rw [HY.out,HEE.out,HS.out,z1,z2,z3]
     exact ⟨rfl,CkR.below HB5.out (CkR.of HC5.out)⟩
   ·have hAb:(A == 0)=false:=by rw [beq_eq_false_iff_ne];exact hA0
    have hAn:(A != 0)=true:=by rw [bne_iff_ne];exact hA0
    have HA0:=hide hA0
    clear hA0
    go_wp2
    go_ret2
    have hwhy:M.why ⟨g,k,o,a⟩=A:=by
     rw [HA.out]
     unfold CS.why
     dsimp only
     cases hq:M.gs g with
     | none=>unfold CS.act;dsimp only;rw [hq]
     | some r=>dsimp only;rw [if_pos (by rw [← HA.out];exact HA0.out)]
    obtain ⟨z1,z2,z3⟩:=add_why HTk.out ⟨g,k,o,a⟩
    rw [hwhy] at z1 z3
    rw [if_pos HA0.out] at z3
    rw [HY.out,HEE.out,HS.out,z1,z2,z3]
    exact ⟨rfl,CkR.below HB2.out (CkR.of HC2.out)⟩
 ·have hcn:(c != 0)=true:=by rw [bne_iff_ne];exact hc
  have HCc:=hide hc
  clear hc
  go_wp2
  go_ret2
  obtain ⟨z1,z2,z3⟩:=add_bad (M:=M) HCc.out ⟨g,k,o,a⟩
  rw [HY.out,HEE.out,HS.out,z1,z2,z3]
  exact ⟨rfl,CkR.below HB1.out (CkR.of HC1.out)⟩
end
end Go.Proofs.YtaeehnaicnckgaaGreatDoor
namespace Go.Proofs.YtaeehnaicnckgaaGreatDoor
open Go.RowKit Go.Maps
section
variable {w w' : World} {cb : Nat} {B : Bl} {F : Nat → Option Lb} {M : CS} {N : Nat} {g k o a : Int} {s : Value}
structure RSt (w wr:World) (cb:Nat) (M:CS):Prop where
 ck:∃ B F,Ck wr cb B F M (M.taken+1)∧∀ k,k < w.heap.size→F k=none
 inv:M.inv
 bel:Below w.heap.size w wr
theorem RSt.on {wr w2:World} (h:RSt w wr cb M) (hb:Below wr.heap.size wr w2):RSt w w2 cb M:=by
 obtain ⟨B,F,h1,h2⟩:=h.ck
 exact ⟨⟨B,F,h1.below hb,h2⟩,h.inv,h.bel.trans (hb.mono h.bel.size)⟩
theorem RSt.under {w0 wr:World} (hb:Below w0.heap.size w0 w) (h:RSt w wr cb M):RSt w0 wr cb M:=by
 obtain ⟨B,F,h1,h2⟩:=h.ck
 exact ⟨⟨B,F,h1,fun k hk=>h2 k (Nat.lt_of_lt_of_le hk hb.size)⟩,h.inv,hb.trans (h.bel.mono hb.size)⟩
theorem RSt.res {wr w2:World} {F:Nat→Option Lb} {M2:CS} (hF:∀ k,k < w.heap.size→F k=none) (hb:Below w.heap.size w wr) (h:CkR wr cb F M2 (M2.taken+1) w2) (hi:M2.inv):RSt w w2 cb M2:=by
 obtain ⟨B',F',h1,h2,h3⟩:=h
 refine ⟨⟨B',F',h1,fun k hk=>(h2 k (Nat.lt_of_lt_of_le hk hb.size)).trans (hF k hk)⟩,hi,hb.trans (h3.below hb.size (fun k e=>?_))⟩
 by_cases hk:k < w.heap.size
 ·exact absurd (hF k hk) e
 ·omega
theorem New_any (w:World):Calls Tryz.prog 29 #[] w fun e w'=>e=.returned (gPtr (w.heap.size+5))∧RSt w w' (w.heap.size+5) CS.new:=by
 obtain ⟨W,hW⟩:∃ W,W=(((((w.alloc (.map #[] 0)).alloc (.map #[] 0)).alloc (.map #[] 0)).alloc (.map #[] 0)).alloc (.map #[] 0)).alloc (.cells (ckc (newB w.heap.size) 0) 80):=⟨_,rfl⟩
 obtain ⟨h1,h2⟩:=new_ck w W hW
 have HBg:=hide (begin_any (x:=0) h1 (by decide) (by decide) (by decide) (by decide) rfl)
 have HB:=hide h2
 have HW:=hide hW
 unfold gPtr at HBg
 clear h1 h2 hW
 unfold ckc newB at HW
 dsimp only at HW
 have hmm:=@run_makeMap Tryz.prog
 go_enter Tryz.func29,Tryz.ntmps29
 go_wp2_with fail
 have HBg2:=HBg
 rw [HW.out] at HBg2
 refine HBg2.out.mono ?_
 rintro e w2 ⟨rfl,hr⟩
 rw [← HW.out] at hr
 have HR:=hide hr
 clear hr HBg HBg2
 go_wp2
 go_ret
 refine ⟨rfl,RSt.res (F:=newF w.heap.size) (M2:=CS.new) (fun k hk=>?_) HB.out HR.out new_inv⟩
 cases hq:newF w.heap.size k with
 | none=>rfl
 | some l=>have:=newF_lt hq;omega
def me (e:E6.Ev):Me:=⟨e.g,e.k,e.o,e.a⟩
def CS.run (M:CS):List E6.Ev→Nat→Int × Int
 | [],_=>(-1,0)
 | e :: es,i=>if M.why (me e)≠0 then ((i:Int),M.why (me e)) else (M.next (me e)).run es (i+1)
noncomputable def runV (es:List E6.Ev):Int × Int × Int:=if (E6.bounds es).2≠0 then ((E6.bounds es).1,0,(E6.bounds es).2) else ((CS.new.run es 0).1,(CS.new.run es 0).2,0)
theorem bnd_zero {es:List E6.Ev}:∀ {i:Nat} {L:List ByteArray} {N:List E6.Nd},(E6.bnd es i L N).2=0→∀ e ∈ es,e.chk=0:=by
 induction es with
 | nil=>intro i L N _ e he;cases he
 | cons x es ih =>
  intro i L N h e he
  rw [E6.bnd] at h
  by_cases hx:x.chk=0
  ·rw [if_pos hx] at h
   split at h
   ·rcases List.mem_cons.1 he with rfl|he
    ·exact hx
    ·exact ih h e he
   ·cases h
  ·rw [if_neg hx] at h;exact absurd h hx
theorem bounds_zero {es:List E6.Ev} (h:(E6.bounds es).2=0):es.length≤1048576∧∀ e ∈ es,e.chk=0:=by
 unfold E6.bounds at h
 split at h
 ·rename_i hl;exact ⟨hl,bnd_zero h⟩
 ·cases h
theorem why_zero {e:Me} (h:M.why e=0):∃ r,M.gs e.g=some r∧M.ask e r=0:=by
 unfold CS.why at h
 cases hq:M.gs e.g with
 | none=>rw [hq] at h;cases h
 | some r =>
  rw [hq] at h
  dsimp only at h
  refine ⟨r,rfl,?_⟩
  by_cases h1:M.act e≠0
  ·rw [if_pos h1] at h;exact absurd h h1
  ·rw [if_neg h1] at h;exact h
theorem next_taken {e:Me} (h:M.why e=0):(M.next e).taken=M.taken+1:=by
 obtain ⟨r,hg,_⟩:=why_zero h
 unfold CS.next CS.tick
 rw [hg]
 dsimp only
 rw [doo_taken]
theorem addS_inv {ls:List ByteArray} (hi:M.inv) (hE:E6.chk g k o a ls=0→Eb g k o a):(M.addS (E6.chk g k o a ls) ⟨g,k,o,a⟩).inv:=by
 unfold CS.addS
 split
 ·exact hi
 ·rename_i hc
  split
  ·exact hi
  ·split
   ·exact hi
   ·rename_i hw
    have hw':M.why ⟨g,k,o,a⟩=0:=by by_cases e:M.why ⟨g,k,o,a⟩=0;exact e;exact absurd e hw
    obtain ⟨r,hg,hask⟩:=why_zero hw'
    exact next_inv hi (hE (by by_cases e:E6.chk g k o a ls=0;exact e;exact absurd e hc)) hg hask
theorem RSt.add {wr:World} (h:RSt w wr cb M) (ht:M.taken≤1048576) (hK:E6.Kr w) (e:E6.Ev) (hok:e.ok) (hs:E6.SRow wr e.sa e.ls.length e.ls) :
  Calls Tryz.prog 30 #[gPtr cb,.agg #[.int .i64 e.g,.int .i64 e.k,.int .u64 e.o,.int .u64 e.a,.slice e.sa e.ls.length e.sc]] wr fun r w'=>r=.returned (.tuple #[.int .i64 (M.addY e.chk (me e)),.int .i64 (M.addE e.chk)])∧RSt w w' cb (M.addS e.chk (me e)):=by
 obtain ⟨B,F,h1,h2⟩:=h.ck
 have hsz:=hK.size
 refine (Add_any (sa:=e.sa) (sn:=e.ls.length) (sc:=e.sc) (ls:=e.ls) h1 h.inv ht (hK.below h.bel (by omega)) hs (by have:=hok.len;omega) hok.ho.1 hok.ho.2 hok.ha.1 hok.ha.2).mono ?_
 rintro r w' ⟨rfl,hr⟩
 exact ⟨rfl,RSt.res h2 h.bel hr (addS_inv h.inv (fun hc=>chk_eb hc hok.ho.1 hok.ho.2 hok.ha.1 hok.ha.2))⟩
theorem Run_any (ad:Option Addr) (n c:Nat) (es:List E6.Ev) (w:World) (hK:E6.Kr w) (hr:E6.ERow w ad n es) (hok:∀ e ∈ es,e.ok) (hn:(n:Int)≤9223372036854775806) :
  Calls Tryz.prog 17 #[.slice ad n c] w fun r w'=>r=.returned (.tuple #[.int .i64 (runV es).1,.int .i64 (runV es).2.1,.int .i64 (runV es).2.2])∧Below w.heap.size w w':=by
 obtain ⟨R,hR⟩:∃ R,R=runV es:=⟨_,rfl⟩
 rw [← hR]
 have HR:=hide hR
 have HBo:=hide (E6.bounds_any ad n c es w hK hr hok hn)
 have HK:=hide hK
 have HE:=hide hr
 have HO:=hide hok
 obtain ⟨bp,hbp⟩:∃ bp,bp=(E6.bounds es).1:=⟨_,rfl⟩
 obtain ⟨be,hbe⟩:∃ be,be=(E6.bounds es).2:=⟨_,rfl⟩
 rw [← hbp,← hbe] at HBo
 have HBp:=hide hbp
 have HBe:=hide hbe
 clear hR hK hr hok hbp hbe
 go_enter Tryz.func17,Tryz.ntmps17
 go_wp2_with fail
 refine HBo.out.mono ?_
 rintro e w1 ⟨rfl,hb1⟩
 have HB1:=hide hb1
 clear hb1 HBo
 by_cases h0:be=0
 ·have hne:(be != 0)=false:=by simp [h0]
  have hz:(E6.bounds es).2=0:=by rw [← HBe.out];exact h0
  obtain ⟨hlen,hchk⟩:=bounds_zero hz
  rw [HE.out.len] at hlen
  have HCk:=hide hchk
  have HRn:Hid (R=((CS.new.run es 0).1,(CS.new.run es 0).2,0)):=hide (by rw [HR.out];unfold runV;rw [if_neg (fun e=>e hz)])
  have hl:(n:Int)≤1048576:=by omega
  have HNw:=hide (New_any w1)
  unfold gPtr at HNw
  clear h0 hz hchk HR HBp HBe hlen
  go_wp2_with fail
  refine HNw.out.mono ?_
  rintro e w2 ⟨rfl,hrs⟩
  have HS:=hide (RSt.under HB1.out hrs)
  generalize w1.heap.size+5=cb at HS ⊢
  clear hrs HNw HB1
  go_wp2
  go_loopw [24] (fun i wr=>∃ (j:Nat) (M:CS),j≤n∧i=.int .i64 j∧RSt w wr cb M∧M.taken=j∧(R=((M.run (es.drop j) j).1,(M.run (es.drop j) j).2,0))) (fun i _=>n - (intOf i).toNat)
  case atStart=>exact ⟨0,CS.new,Nat.zero_le _,rfl,HS.out,rfl,HRn.out⟩
  case round =>
   obtain ⟨j,M,hj,rfl,hst,htk,hRj⟩:=hrel
   have HS':=hide hst
   have HTk:=hide htk
   clear hst HS htk HRn
   by_cases hlt:j < n
   ·have hjI:(j:Int) < n:=by omega
    have hrr:=HE.out.bel HS'.out.bel
    obtain ⟨b,off,e,rfl,hej,c0,c1,c2,c3,c4,hs⟩:=hrr.at hlt
    have hme:=HO.out e (List.mem_of_getElem? hej)
    have hck:=HCk.out e (List.mem_of_getElem? hej)
    have hdrop:es.drop j=e :: es.drop (j+1):=by
     obtain ⟨hl',he'⟩:=List.getElem?_eq_some_iff.1 hej
     rw [List.drop_eq_getElem_cons hl',he']
    rw [hdrop,CS.run] at hRj
    have HRj:=hide hRj
    obtain ⟨W1,hW1⟩:∃ W1,W1=wr.alloc (.cells #[.int .i64 e.g,.int .i64 e.k,.int .u64 e.o,.int .u64 e.a,.slice e.sa e.ls.length e.sc] 43):=⟨_,rfl⟩
    have hb1:Below wr.heap.size wr W1:=by rw [hW1];exact below_alloc1 wr _
    have hS1:=HS'.out.on hb1
    have HAd:=hide (hS1.add (by rw [HTk.out];omega) HK.out e hme (E6.SRow.bel hs hb1))
    unfold gPtr at HAd
    rw [hck] at HAd
    obtain ⟨z1,z2,z3⟩:=add_why (M:=M) (by rw [HTk.out];omega) (me e)
    rw [z1,z2,z3] at HAd
    obtain ⟨Y,hY⟩:∃ Y,Y=M.why (me e):=⟨_,rfl⟩
    rw [← hY] at HAd
    have HY:=hide hY
    rw [hW1] at HAd
    have HW1:=hide hW1
    clear hrr hej hs hme hck hdrop hRj hW1 hb1 hS1 z1 z2 z3 hY
    go_wp2_with fail
    refine HAd.out.mono ?_
    rintro r w3 ⟨rfl,hs3⟩
    have HS3:=hide hs3
    clear hs3 HAd HW1 c0 c1 c2 c3 c4
    by_cases hY0:Y=0
    ·have hYb:(Y != 0)=false:=by simp [hY0]
     have hw0:M.why (me e)=0:=by rw [← HY.out];exact hY0
     have HS4:Hid (RSt w w3 cb (M.next (me e))):=hide (by have h9:=HS3.out;rw [if_neg (fun e=>e hY0)] at h9;exact h9)
     have HTn:=hide (next_taken hw0)
     have HRn:Hid (R=(((M.next (me e)).run (es.drop (j+1)) (j+1)).1,((M.next (me e)).run (es.drop (j+1)) (j+1)).2,0)):=hide (by rw [HRj.out,if_neg (fun e=>e hw0)])
     clear hY0 hw0 HS3
     go_wp2
     exact ⟨⟨j+1,_,by omega,by go_num,HS4.out,by rw [HTn.out,HTk.out],HRn.out⟩,by simp [intOf];omega⟩
    ·have hYb:(Y != 0)=true:=by simp [hY0]
     have HRn:Hid (R=((j:Int),Y,0)):=hide (by rw [HRj.out,if_pos (by rw [← HY.out];exact hY0),HY.out])
     have HS4:Hid (Below w.heap.size w w3):=hide HS3.out.bel
     clear hY0 HS3
     go_wp2
     go_ret3
     exact ⟨by rw [HRn.out];rfl,HS4.out⟩
   ·have HRn:Hid (R=(-1,0,0)):=hide (by rw [hRj,List.drop_eq_nil_of_le (by rw [HE.out.len];omega)];rfl)
    clear hRj
    go_wp2
    go_ret3
    exact ⟨by rw [HRn.out];rfl,HS'.out.bel⟩
 ·have hne:(be != 0)=true:=by simp [h0]
  have HRn:Hid (R=(bp,0,be)):=hide (by rw [HR.out];unfold runV;rw [if_pos (by rw [← HBe.out];exact h0),HBp.out,HBe.out])
  clear h0
  go_wp2
  go_ret3
  exact ⟨by rw [HRn.out];rfl,HB1.out⟩
end
end Go.Proofs.YtaeehnaicnckgaaGreatDoor
namespace Go.Proofs.YtaeehnaicnckgaaGreatDoor.E6
open Go.RowKit Go.Maps Go.Shelf
theorem ecells_get {l:List Ev} {i:Nat} {e:Ev} (h:l[i]?=some e) {t:Nat} (ht:t < 5):(ecells l)[i * 5+t]?=(ecell e)[t]?:=by
 induction l generalizing i with
 | nil=>simp at h
 | cons x l ih =>
  cases i with
  | zero =>
   simp at h;subst h
   rw [ecells,Nat.zero_mul,Nat.zero_add,List.getElem?_append_left (by simpa [ecell] using ht)]
  | succ i =>
   rw [ecells,List.getElem?_append_right (by simp [ecell];omega)]
   have e1:(i+1) * 5+t - (ecell x).length=i * 5+t:=by simp [ecell];omega
   rw [e1]
   exact ih (by simpa using h)
theorem Tw.form {w0 wr:World} {es fs:List Ev} {n:Nat} {v:Value} (h:Tw w0 wr es n fs v):∃ a c,v=.slice a n c∧ERow wr a n fs∧n≤c:=by
 have ho:=h.own
 rcases ho.2 with ⟨hv,h0⟩|⟨g,cap,cur,hv,hb,hg,hn,hm,hs,ht⟩
 ·subst h0;exact ⟨none,0,hv,⟨h.len,.inl rfl⟩,Nat.le_refl _⟩
 ·refine ⟨some ⟨g,0,none⟩,cap,hv,⟨h.len,.inr ⟨g,0,rfl,fun i f hf=>?_⟩⟩,hn⟩
  have hc:∀ t (ht:t < 5),wr.cell? ⟨g,0+i * 5+t,none⟩=(ecell f)[t]?:=by
   intro t ht5
   have hlt:=(List.getElem?_eq_some_iff.1 hf).1
   subst hv
   have:=ho.cellAt (i * 5+t) (by rw [h.len] at hlt;omega)
   rw [Nat.zero_add,this,ecells_get hf ht5]
  obtain ⟨e,_,_,_,_,h5⟩:=h.each i f hf
  exact ⟨hc 0 (by omega),hc 1 (by omega),hc 2 (by omega),hc 3 (by omega),hc 4 (by omega),SRow.of_own h5⟩
def Twins:List Ev→List Ev→Prop
 | [],[]=>True
 | e :: r,f :: q=>e.twin f∧Twins r q
 | _,_=>False
theorem twins_of {es fs:List Ev} (hl:fs.length=es.length) (h:∀ (i:Nat) f,fs[i]?=some f→∃ e,es[i]?=some e∧e.twin f):Twins es fs:=by
 induction es generalizing fs with
 | nil=>cases fs with
  | nil=>trivial
  | cons _ _=>simp at hl
 | cons e es ih=>cases fs with
  | nil=>simp at hl
  | cons f fs =>
   refine ⟨?_,ih (by simpa using hl) (fun i g hg=>?_)⟩
   ·obtain ⟨e',h1,h2⟩:=h 0 f rfl
    simp at h1;subst h1;exact h2
   ·obtain ⟨e',h1,h2⟩:=h (i+1) g (by simpa using hg)
    exact ⟨e',by simpa using h1,h2⟩
theorem Twins.get {es fs:List Ev} (h:Twins es fs) {i:Nat} {e f:Ev} (he:es[i]?=some e) (hf:fs[i]?=some f):e.twin f:=by
 induction es generalizing fs i with
 | nil=>simp at he
 | cons x es ih=>cases fs with
  | nil=>simp at hf
  | cons y fs=>cases i with
   | zero=>simp at he hf;subst he;subst hf;exact h.1
   | succ i=>exact ih h.2 (by simpa using he) (by simpa using hf)
theorem Twins.len {es fs:List Ev} (h:Twins es fs):fs.length=es.length:=by
 induction es generalizing fs with
 | nil=>cases fs with
  | nil=>rfl
  | cons _ _=>exact h.elim
 | cons x es ih=>cases fs with
  | nil=>exact h.elim
  | cons y fs=>simp [ih h.2]
theorem Ev.twin.chk {e f:Ev} (h:e.twin f):f.chk=e.chk:=by
 obtain ⟨h1,h2,h3,h4,h5⟩:=h
 unfold Ev.chk;rw [h1,h2,h3,h4,h5]
theorem bnd_twins {es fs:List Ev} (h:Twins es fs):∀ i L N,bnd fs i L N=bnd es i L N:=by
 induction es generalizing fs with
 | nil=>cases fs with
  | nil=>intros;rfl
  | cons _ _=>exact h.elim
 | cons x es ih=>cases fs with
  | nil=>exact h.elim
  | cons y fs =>
   intro i L N
   rw [bnd,bnd,h.1.chk,h.1.2.2.2.2,ih h.2]
theorem bounds_twins {es fs:List Ev} (h:Twins es fs):bounds fs=bounds es:=by
 unfold bounds;rw [h.len,bnd_twins h]
theorem Tw.twins {w0 wr:World} {es fs:List Ev} {n:Nat} {v:Value} (h:Tw w0 wr es n fs v) (hl:es.length=n):Twins es fs :=
 twins_of (by rw [h.len,hl]) fun i f hf=>by obtain ⟨e,h1,h2,_⟩:=h.each i f hf;exact ⟨e,h1,h2⟩
theorem Tw.ok {w0 wr:World} {es fs:List Ev} {n:Nat} {v:Value} (h:Tw w0 wr es n fs v) (hok:∀ e ∈ es,e.ok):∀ f ∈ fs,f.ok:=by
 intro f hf
 obtain ⟨i,hi,e0⟩:=List.getElem_of_mem hf
 obtain ⟨e,h1,⟨_,_,t3,t4,t5⟩,h3,h4,_⟩:=h.each i f (by rw [List.getElem?_eq_getElem hi,e0])
 have ho:=hok e (List.mem_of_getElem? h1)
 exact ⟨by rw [t3];exact ho.ho,by rw [t4];exact ho.ha,by rw [t5];exact ho.len,by rw [t5];exact ho.sz,h3,h4⟩
end Go.Proofs.YtaeehnaicnckgaaGreatDoor.E6
namespace Go.Proofs.YtaeehnaicnckgaaGreatDoor
open Go.RowKit Go.Maps
theorem run_twins {es fs:List E6.Ev} (h:E6.Twins es fs):∀ (M:CS) (i:Nat),M.run fs i=M.run es i:=by
 induction es generalizing fs with
 | nil=>cases fs with
  | nil=>intros;rfl
  | cons _ _=>exact h.elim
 | cons x es ih=>cases fs with
  | nil=>exact h.elim
  | cons y fs =>
   intro M i
   have e1:me y=me x:=by obtain ⟨h1,h2,h3,h4,_⟩:=h.1;unfold me;rw [h1,h2,h3,h4]
   rw [CS.run,CS.run,e1,ih h.2]
theorem runV_twins {es fs:List E6.Ev} (h:E6.Twins es fs):runV fs=runV es:=by
 unfold runV;rw [E6.bounds_twins h,run_twins h]
theorem run_bd:∀ (es:List E6.Ev) (M:CS) (k:Nat),((M.run es k).1=-1∧(M.run es k).2=0)∨((k:Int)≤(M.run es k).1∧(M.run es k).1 < k+es.length∧(M.run es k).2≠0):=by
 intro es
 induction es with
 | nil=>intro M k;exact .inl ⟨rfl,rfl⟩
 | cons e es ih =>
  intro M k
  rw [CS.run]
  by_cases h:M.why (me e)≠0
  ·rw [if_pos h]
   refine .inr ⟨Int.le_refl _,?_,h⟩
   dsimp only
   rw [List.length_cons]
   omega
  ·rw [if_neg h]
   rcases ih (M.next (me e)) (k+1) with h1|⟨h1,h2,h3⟩
   ·exact .inl h1
   ·refine .inr ⟨by omega,?_,h3⟩
    rw [List.length_cons]
    omega
end Go.Proofs.YtaeehnaicnckgaaGreatDoor
