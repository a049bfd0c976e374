import Derived.Test.YthgelfdefkbfeaaGreatDoorZu19
import Derived.Deep.WholeRow
import Derived.Laws.CopyOwn
import Derived.Test.YthgelfdefkbfeaaGreatDoorZu20
import Derived.Test.YthgelfdefkbfeaaGreatDoorZu21
import Derived.Test.YthgelfdefkbfeaaGreatDoorZu22
import Derived.Test.YthgelfdefkbfeaaGreatDoorZu02
set_option maxRecDepth 8000
set_option maxHeartbeats 8000000
set_option linter.unusedVariables false
namespace Go.Proofs.YthgelfdefkbfeaaGreatDoor
open Go.RowKit Go.Maps
section
variable {w w' : World} {cb : Nat} {B : Bl} {F : Nat → Option Lb} {M : CS} {N : Nat} {g k o a : Int} {s : Value}
theorem fK_put {M:CS} {o v:Int} (hv:v≠0):setF (fK M) o (some (.int .i64 v))=fun x=>if setF M.cnt o v x=0 then none else some (.int .i64 (setF M.cnt o v x)):=by
 funext x
 unfold fK
 by_cases hx:x=o
 ·subst hx;rw [setF_same,setF_same,if_neg hv]
 ·rw [setF_other _ _ hx,setF_other _ _ hx]
theorem fK_del {M:CS} {o v:Int} (hv:v=0):setF (setF (fK M) o (some (.int .i64 v))) o none=fun x=>if setF M.cnt o v x=0 then none else some (.int .i64 (setF M.cnt o v x)):=by
 funext x
 unfold fK
 by_cases hx:x=o
 ·subst hx;rw [setF_same,setF_same,if_pos hv]
 ·rw [setF_other _ _ hx,setF_other _ _ hx,setF_other _ _ hx]
theorem count_any (h:Ck w cb B F M N) (ho:EOk g o a) (hN:N≤2000000) (hc0:0≤M.cnt o+mzag a) (hc1:M.cnt o+mzag a≤2147483647) :
  Calls Tryz.prog 91 #[gPtr cb,.agg (evC g k o a s)] w fun e w'=>e=.returned (.tuple #[])∧CkR w cb F { M with cnt:=setF M.cnt o (M.cnt o+mzag a) } (N+1) w':=by
 obtain ⟨W,hW⟩:∃ W,W=w.alloc (.cells (evC g k o a s) 43):=⟨_,rfl⟩
 have hb:Below w.heap.size w W:=by rw [hW];exact below_alloc1 w _
 have hC:=h.below hb
 have hCd:Ck W.drew cb B F M N:=hC.below (Below.refl _ _).drew
 have hE:W.heap[w.heap.size]?=some (.cells (evC g k o a s) 43 (0,0)):=by rw [hW];exact heap_new _ _
 obtain ⟨p0,p1,p2,p3,p4⟩:=evc0 hE
 have hmax:N < maxLen:=by unfold maxLen;omega
 have HB:=hide hb
 have HW:=hide hW
 have HC:=hide hC
 have hlt:=h.clt
 have hltW:cb < W.heap.size:=hC.clt
 have hleW:w.heap.size < W.heap.size:=(Array.getElem?_eq_some_iff.1 hE).1
 have hFe:F w.heap.size=none:=by
  cases hq:F w.heap.size with
  | none=>rfl
  | some l=>have:=h.lt _ _ hq;omega
 obtain ⟨v,hv⟩:∃ v,v=M.cnt o+mzag a:=⟨_,rfl⟩
 rw [← hv] at hc0 hc1 ⊢
 obtain ⟨w1,hup,hm1,hb1⟩:=(hCd.mt nf).2.put lawU Tryz.underlying74 hmax (keyU ho.o0 ho.o1) (.int .i64 v)
 have t5:=hC.c5
 have hFl:=(hC.mt nf).1
 have hlk:=hCd.lkK ho
 have hwv:IntKind.i64.wrap (M.cnt o+mzag a)=v:=by rw [IntKind.wrap_i64,← hv];omega
 have HSL:Hid (∀ X,But (fun k=>k=B.km) W X→X.cell? ⟨cb,5,none⟩=some (.map (some B.km))∧X.cell? ⟨w.heap.size,2,none⟩=some (.int .u64 o)∧X.cell? ⟨w.heap.size,3,none⟩=some (.int .u64 a)):=hide (fun X hX=>⟨cell_but t5 hX (fun e=>by have e9:cb=B.km:=e;rw [← e9,hC.top] at hFl;cases hFl),cell_but p2 hX (fun e=>by have e9:w.heap.size=B.km:=e;rw [← e9,hFe] at hFl;cases hFl),cell_but p3 hX (fun e=>by have e9:w.heap.size=B.km:=e;rw [← e9,hFe] at hFl;cases hFl)⟩)
 have HK1:Hid (But (fun k=>k=B.km) W w1):=hide ((But.refl (fun k=>k=B.km) W).drew.trans hb1 (fun _ _ e=>e))
 have hl1:cb < w1.heap.size:=Nat.lt_of_lt_of_le hltW HK1.out.size
 have hl2:w.heap.size < w1.heap.size:=Nat.lt_of_lt_of_le hleW HK1.out.size
 have HM1:=hide hm1
 have HV:=hide hv
 have HLk:Hid (∀ X,Below w1.heap.size w1 X→(Instr.lookup 74 (.map (some B.km)) (.int .u64 o) false).run Tryz.prog X=.ok (.int .i64 v) X):=hide (fun X hX=>by
  have h9:=(hm1.below hX).look (x:=o) lawU Tryz.underlying74 (zeroI X) (keyU ho.o0 ho.o1)
  rw [setF_same] at h9
  exact h9)
 have HEnd:Hid (∀ (X:World) (hm:HM X 33 .u64 B.km (N+1) (.int .i64 0) (fun x=>if setF M.cnt o v x=0 then none else some (.int .i64 (setF M.cnt o v x)))) (hX:But (fun k=>k=B.km) W X),CkR w cb F { M with cnt:=setF M.cnt o v } (N+1) X):=hide (fun X hm hX=>by
  obtain ⟨k1,k2⟩:=hC.setK (Nat.le_succ N) hm hX
  exact CkR.below hb ⟨_,_,k1,FEx.refl _ _,k2⟩)
 have HO:=hide ho
 clear h hb hW hmax hC hCd hE hFe ho p0 p1 p2 p3 p4 hm1 hb1 t5 hFl hv hc0 hc1
 unfold gPtr evC
 unfold evC at HW
 go_enter Tryz.func91,Tryz.ntmps91
 go_wp2_with fail
 rw [← HW.out]
 clear HW
 refine wp_region_noPanic ?_
 refine wp_region_held_drew (S:=fun X=>X.cell? ⟨cb,5,none⟩=some (.map (some B.km))∧X.cell? ⟨w.heap.size,2,none⟩=some (.int .u64 o)∧X.cell? ⟨w.heap.size,3,none⟩=some (.int .u64 a)) (by kernel_rfl) (HSL.out _ (But.refl _ _).drew) (fun hHeld=>?_)
 refine wpAnyH_take (i:=0) (oi:=_) (v:=?v0_1) rfl (by kernel_rfl) (by kernel_rfl) (by kernel_rfl) (fun _ _ _ h=>h) (Or.inl ⟨by rfl,?y0_1⟩) (by assumption) ?r0_1
 case y0_1=>(intro w' hSw;(try dsimp only at hSw);go_simp;try with_reducible rfl)
 refine wpAnyH_take (i:=1) (oi:=_) (v:=?v1_1) rfl (by kernel_rfl) (by kernel_rfl) (by kernel_rfl) (fun _ _ _ h=>h) (Or.inl ⟨by rfl,?y1_1⟩) (by assumption) ?r1_1
 case y1_1=>(intro w' hSw;(try dsimp only at hSw);go_simp;try with_reducible rfl)
 refine wpAnyH_take (i:=2) (oi:=_) (v:=?v2_1) rfl (by kernel_rfl) (by kernel_rfl) (by kernel_rfl) (fun _ _ _ h=>h) (Or.inl ⟨by rfl,?y2_1⟩) (by assumption) ?r2_1
 case y2_1=>(intro w' hSw;(try dsimp only at hSw);go_simp;try with_reducible rfl)
 refine wpAnyH_take (i:=3) (oi:=_) (v:=?v3_1) rfl (by kernel_rfl) (by kernel_rfl) (by kernel_rfl) (fun _ _ _ h=>h) (Or.inl ⟨by rfl,?y3_1⟩) (by assumption) ?r3_1
 case y3_1=>(intro w' hSw;(try dsimp only at hSw);go_simp;try with_reducible rfl)
 refine wpAnyH_take (i:=4) (oi:=_) (v:=?v4_1) rfl (by kernel_rfl) (by kernel_rfl) (by kernel_rfl) (fun _ _ _ h=>h) (Or.inl ⟨by rfl,?y4_1⟩) (by assumption) ?r4_1
 case y4_1=>(intro w' hSw;(try dsimp only at hSw);go_simp;try with_reducible rfl)
 refine wpAnyH_take (i:=5) (oi:=_) (v:=?v5_1) rfl (by kernel_rfl) (by kernel_rfl) (by kernel_rfl) (fun _ _ _ h=>h) (Or.inl ⟨by rfl,?y5_1⟩) (by assumption) ?r5_1
 case y5_1=>(intro w' hSw;(try dsimp only at hSw);go_simp;try with_reducible rfl)
 refine wpAnyH_take (i:=7) (oi:=_) (v:=?v7_1) rfl (by kernel_rfl) (by kernel_rfl) (by kernel_rfl) (fun _ _ _ h=>h) (Or.inl ⟨by rfl,?y7_1⟩) (by assumption) ?r7_1
 case y7_1=>(intro w' hSw;(try dsimp only at hSw);go_simp;try with_reducible rfl)
 refine wpAnyH_take (i:=8) (oi:=_) (v:=?v8_1) rfl (by kernel_rfl) (by kernel_rfl) (by kernel_rfl) (fun _ _ _ h=>h) (Or.inl ⟨by rfl,?y8_1⟩) (by assumption) ?r8_1
 case y8_1=>(intro w' hSw;(try dsimp only at hSw);go_simp;try with_reducible rfl)
 refine wpAnyH_ready (rs:=[6,9]) (by kernel_rfl) (by simp) ?_
 refine AllReadyH.cons (o:=_) rfl (fun KK hKK=>?_) (AllReadyH.cons (o:=_) rfl (fun KK hKK=>?_) AllReadyH.nil)
 ·go_simp
  refine hKK.out _ _ (HSL.out _ (But.refl _ _).drew) (fun hHeld6=>?_)
  clear hKK KK
  refine wpAnyH_ready (rs:=[9]) (by kernel_rfl) (by simp) ?_
  refine AllReadyH.cons (o:=_) rfl (fun KK hKK=>?_) AllReadyH.nil
  go_simp
  refine (zag_any _ _ HO.out.a0 HO.out.a1).mono ?_
  rintro e w9 ⟨rfl,rfl⟩
  refine hKK.out _ _ (HSL.out _ (But.refl _ _).drew) (fun hHeld9=>?_)
  clear hKK KK
  refine wpAnyH_take (i:=10) (oi:=_) (v:=?v10_3) rfl (by kernel_rfl) (by kernel_rfl) (by kernel_rfl) (fun _ _ _ h=>h) (Or.inl ⟨by rfl,?y10_3⟩) (by assumption) ?r10_3
  case y10_3=>(intro w' hSw;(try dsimp only at hSw);go_simp;try with_reducible rfl)
  refine wpAnyH_ready (rs:=[11]) (by kernel_rfl) (by simp) ?_
  refine AllReadyH.cons (o:=_) rfl (fun KK hKK=>?_) AllReadyH.nil
  go_simp
  refine hKK.out _ _ (HSL.out _ HK1.out) (fun hHeld11=>?_)
  clear hKK KK
  refine wpAnyH_done (by kernel_rfl) ?_ _
  refine NoPanic.normal ?_
  clear hHeld hHeld6 hHeld9 hHeld11 hlk hup
  obtain ⟨s1,s2,s3⟩:=HSL.out _ HK1.out
  have hlq:=fun q=>HLk.out (w1.drewN q) (below_drewN (Below.refl _ _) q)
  by_cases hz:v=0
  ·have hzb:(v == 0)=true:=by rw [beq_iff_eq];exact hz
   have HZ:=hide hz
   clear hz
   go_wp2_with fail
   go_quiet (fail)
   obtain ⟨W2,hW2⟩:∃ W2,W2=w1.drewN nq:=⟨_,rfl⟩
   rw [← hW2]
   have hb2:Below w1.heap.size w1 W2:=by rw [hW2];exact below_drewN (Below.refl _ _) _
   have hm2:=(HM1.out.below hb2).below (Below.refl _ W2).drew
   obtain ⟨w3,hup3,hm3,hb3⟩:=hm2.del lawU Tryz.underlying74 (keyU HO.out.o0 HO.out.o1) 0
   rw [fK_del HZ.out] at hm3
   have HK2:Hid (But (fun k=>k=B.km) W W2):=hide (HK1.out.on hb2)
   have HK3:Hid (But (fun k=>k=B.km) W w3):=hide ((HK1.out.on hb2).drew.trans hb3 (fun _ _ e=>e))
   have HF:=hide (HEnd.out _ hm3 HK3.out)
   have hl3:cb < W2.heap.size:=Nat.lt_of_lt_of_le hl1 hb2.size
   have hl4:w.heap.size < W2.heap.size:=Nat.lt_of_lt_of_le hl2 hb2.size
   clear hW2 hb2 hm2 hm3 hb3 hlq s1 s2 s3
   go_wp2_with fail
   go_region_held3 (fun X=>X.cell? ⟨cb,5,none⟩=some (.map (some B.km))∧X.cell? ⟨w.heap.size,2,none⟩=some (.int .u64 o)∧X.cell? ⟨w.heap.size,3,none⟩=some (.int .u64 a))
    (first|with_reducible exact HSL.out _ HK2.out|with_reducible exact HSL.out _ HK2.out.drew|with_reducible exact HSL.out _ HK3.out)
    (fail)
   go_wp2
   go_end0
   exact ⟨rfl,HF.out⟩
  ·have hzb:(v == 0)=false:=by rw [beq_eq_false_iff_ne];exact hz
   have HZ:=hide hz
   clear hz
   go_wp2_with fail
   go_quiet (fail)
   go_wp2
   go_end0
   have hm3:=HM1.out
   rw [fK_put HZ.out] at hm3
   exact ⟨rfl,(HEnd.out _ hm3 HK1.out).on (below_drewN (Below.refl _ _) _)⟩
 ·go_simp
  refine (zag_any _ _ HO.out.a0 HO.out.a1).mono ?_
  rintro e w9 ⟨rfl,rfl⟩
  refine hKK.out _ _ (HSL.out _ (But.refl _ _).drew) (fun hHeld9=>?_)
  clear hKK KK
  refine wpAnyH_ready (rs:=[6]) (by kernel_rfl) (by simp) ?_
  refine AllReadyH.cons (o:=_) rfl (fun KK hKK=>?_) AllReadyH.nil
  go_simp
  refine hKK.out _ _ (HSL.out _ (But.refl _ _).drew) (fun hHeld6=>?_)
  clear hKK KK
  refine wpAnyH_take (i:=10) (oi:=_) (v:=?v10_6) rfl (by kernel_rfl) (by kernel_rfl) (by kernel_rfl) (fun _ _ _ h=>h) (Or.inl ⟨by rfl,?y10_6⟩) (by assumption) ?r10_6
  case y10_6=>(intro w' hSw;(try dsimp only at hSw);go_simp;try with_reducible rfl)
  refine wpAnyH_ready (rs:=[11]) (by kernel_rfl) (by simp) ?_
  refine AllReadyH.cons (o:=_) rfl (fun KK hKK=>?_) AllReadyH.nil
  go_simp
  refine hKK.out _ _ (HSL.out _ HK1.out) (fun hHeld11=>?_)
  clear hKK KK
  refine wpAnyH_done (by kernel_rfl) ?_ _
  refine NoPanic.normal ?_
  clear hHeld hHeld6 hHeld9 hHeld11 hlk hup
  obtain ⟨s1,s2,s3⟩:=HSL.out _ HK1.out
  have hlq:=fun q=>HLk.out (w1.drewN q) (below_drewN (Below.refl _ _) q)
  by_cases hz:v=0
  ·have hzb:(v == 0)=true:=by rw [beq_iff_eq];exact hz
   have HZ:=hide hz
   clear hz
   go_wp2_with fail
   go_quiet (fail)
   obtain ⟨W2,hW2⟩:∃ W2,W2=w1.drewN nq:=⟨_,rfl⟩
   rw [← hW2]
   have hb2:Below w1.heap.size w1 W2:=by rw [hW2];exact below_drewN (Below.refl _ _) _
   have hm2:=(HM1.out.below hb2).below (Below.refl _ W2).drew
   obtain ⟨w3,hup3,hm3,hb3⟩:=hm2.del lawU Tryz.underlying74 (keyU HO.out.o0 HO.out.o1) 0
   rw [fK_del HZ.out] at hm3
   have HK2:Hid (But (fun k=>k=B.km) W W2):=hide (HK1.out.on hb2)
   have HK3:Hid (But (fun k=>k=B.km) W w3):=hide ((HK1.out.on hb2).drew.trans hb3 (fun _ _ e=>e))
   have HF:=hide (HEnd.out _ hm3 HK3.out)
   have hl3:cb < W2.heap.size:=Nat.lt_of_lt_of_le hl1 hb2.size
   have hl4:w.heap.size < W2.heap.size:=Nat.lt_of_lt_of_le hl2 hb2.size
   clear hW2 hb2 hm2 hm3 hb3 hlq s1 s2 s3
   go_wp2_with fail
   go_region_held3 (fun X=>X.cell? ⟨cb,5,none⟩=some (.map (some B.km))∧X.cell? ⟨w.heap.size,2,none⟩=some (.int .u64 o)∧X.cell? ⟨w.heap.size,3,none⟩=some (.int .u64 a))
    (first|with_reducible exact HSL.out _ HK2.out|with_reducible exact HSL.out _ HK2.out.drew|with_reducible exact HSL.out _ HK3.out)
    (fail)
   go_wp2
   go_end0
   exact ⟨rfl,HF.out⟩
  ·have hzb:(v == 0)=false:=by rw [beq_eq_false_iff_ne];exact hz
   have HZ:=hide hz
   clear hz
   go_wp2_with fail
   go_quiet (fail)
   go_wp2
   go_end0
   have hm3:=HM1.out
   rw [fK_put HZ.out] at hm3
   exact ⟨rfl,(HEnd.out _ hm3 HK1.out).on (below_drewN (Below.refl _ _) _)⟩
end
end Go.Proofs.YthgelfdefkbfeaaGreatDoor
namespace Go.Proofs.YthgelfdefkbfeaaGreatDoor
open Go.RowKit Go.Maps
section
variable {w w' : World} {cb : Nat} {B : Bl} {F : Nat → Option Lb} {M : CS} {N : Nat} {g k o a : Int} {s : Value}
def asksOf (k:Int):Nat :=
 if k=1 then 66
 else if k=2 then 66
 else if k=3 then 68
 else if k=4 then 70
 else if k=5 then 72
 else if k=6 then 74
 else if k=7 then 76
 else if k=8 then 78
 else if k=9 then 80
 else if k=10 then 82
 else if k=11 then 84
 else if k=12 then 86
 else if k=13 then 88
 else if k=14 then 90
 else if k=15 then 92
 else if k=16 then 93
 else if k=17 then 66
 else if k=18 then 66
 else if k=19 then 66
 else if k=20 then 95
 else if k=21 then 97
 else if k=22 then 66
 else 0
def doesOf (k:Int):Nat :=
 if k=1 then 67
 else if k=2 then 67
 else if k=3 then 69
 else if k=4 then 71
 else if k=5 then 73
 else if k=6 then 75
 else if k=7 then 77
 else if k=8 then 79
 else if k=9 then 81
 else if k=10 then 83
 else if k=11 then 85
 else if k=12 then 87
 else if k=13 then 89
 else if k=14 then 91
 else if k=15 then 67
 else if k=16 then 94
 else if k=17 then 67
 else if k=18 then 67
 else if k=19 then 67
 else if k=20 then 96
 else if k=21 then 98
 else if k=22 then 67
 else 0
def rulesC:Array Value:=#[.nilFunc,.nilFunc,.func (.func 66) #[] #[],.func (.func 67) #[] #[],.func (.func 66) #[] #[],.func (.func 67) #[] #[],.func (.func 68) #[] #[],.func (.func 69) #[] #[],.func (.func 70) #[] #[],.func (.func 71) #[] #[],.func (.func 72) #[] #[],.func (.func 73) #[] #[],.func (.func 74) #[] #[],.func (.func 75) #[] #[],.func (.func 76) #[] #[],.func (.func 77) #[] #[],.func (.func 78) #[] #[],.func (.func 79) #[] #[],.func (.func 80) #[] #[],.func (.func 81) #[] #[],.func (.func 82) #[] #[],.func (.func 83) #[] #[],.func (.func 84) #[] #[],.func (.func 85) #[] #[],.func (.func 86) #[] #[],.func (.func 87) #[] #[],.func (.func 88) #[] #[],.func (.func 89) #[] #[],.func (.func 90) #[] #[],.func (.func 91) #[] #[],.func (.func 92) #[] #[],.func (.func 67) #[] #[],.func (.func 93) #[] #[],.func (.func 94) #[] #[],.func (.func 66) #[] #[],.func (.func 67) #[] #[],.func (.func 66) #[] #[],.func (.func 67) #[] #[],.func (.func 66) #[] #[],.func (.func 67) #[] #[],.func (.func 95) #[] #[],.func (.func 96) #[] #[],.func (.func 97) #[] #[],.func (.func 98) #[] #[],.func (.func 66) #[] #[],.func (.func 67) #[] #[]]
def rules0:Array Value:=#[.nilFunc,.nilFunc,.nilFunc,.nilFunc,.nilFunc,.nilFunc,.nilFunc,.nilFunc,.nilFunc,.nilFunc,.nilFunc,.nilFunc,.nilFunc,.nilFunc,.nilFunc,.nilFunc,.nilFunc,.nilFunc,.nilFunc,.nilFunc,.nilFunc,.nilFunc,.nilFunc,.nilFunc,.nilFunc,.nilFunc,.nilFunc,.nilFunc,.nilFunc,.nilFunc,.nilFunc,.nilFunc,.nilFunc,.nilFunc,.nilFunc,.nilFunc,.nilFunc,.nilFunc,.nilFunc,.nilFunc,.nilFunc,.nilFunc,.nilFunc,.nilFunc,.nilFunc,.nilFunc]
theorem rulesC_one:rulesC.all (·.oneCell')=true:=by kernel_rfl
theorem infoRA:(Tryz.prog.info? 127).map (·.size)=some rulesC.size:=by kernel_rfl
theorem infoR1:(Tryz.prog.info? 86).map (·.size)=some 2:=by kernel_rfl
theorem fn_one (a b:Nat):(#[.func (.func a) #[] #[],.func (.func b) #[] #[]]:Array Value).all (·.oneCell')=true:=by first|kernel_rfl|simp [Value.oneCell']
theorem results_cell1 {P:Program} {fn:Func} {p:Tmp} {ty:TypeId} (h:fn.results=#[.cell p ty]) (tmps:Array Value) (w:World) (g:Nat) (t:TypeId) (cs:Array Value) (fr:Nat × Nat) (d:TypeDesc)
  (hp:tmps.getD p undef=.pointer (some ⟨g,0,none⟩)) (hg:w.heap[g]?=some (.cells cs t fr))
  (hu:P.underlying ty=some d) (hd:(match d with|.struct _|.array _ _=>true|_=>false)=true) (hi:(P.info? ty).map (·.size)=some cs.size) :
  (results fn tmps).run P w=.ok (.agg cs) w:=by
 have hp':tmps[p]?.getD undef=.pointer (some ⟨g,0,none⟩):=by simpa using hp
 simp [results,h,hp',asAddr,run_loadVar_row w g t ty cs fr d hg hu hd hi]
theorem ruleOf_any (h1:1≤k) (h2:k≤22):Calls Tryz.prog 47 #[.int .i64 k] w fun e w'=>e=.returned (.agg #[.func (.func (asksOf k)) #[] #[],.func (.func (doesOf k)) #[] #[]])∧Below w.heap.size w w':=by
 have HZ:((w.alloc (.cells #[.nilFunc,.nilFunc] 86)).alloc (.cells rules0 127)).heap[w.heap.size+1]?=some (.cells rules0 127 (0,0)):=by
  have h9:=heap_alloc_last (w.alloc (.cells #[.nilFunc,.nilFunc] 86)) (.cells rules0 127)
  rw [World.size_alloc] at h9
  exact h9
 obtain ⟨W,hW⟩:∃ W,W=(w.alloc (.cells #[.nilFunc,.nilFunc] 86)).alloc (.cells rulesC 127):=⟨_,rfl⟩
 have hWr:((w.alloc (.cells #[.nilFunc,.nilFunc] 86)).alloc (.cells rules0 127)).setRow (w.heap.size+1) rulesC=W:=by
  rw [hW]
  have h9:=World.setRow_alloc_new (w.alloc (.cells #[.nilFunc,.nilFunc] 86)) rules0 rulesC 127
  rw [World.size_alloc] at h9
  exact h9
 have hA:W.heap[w.heap.size+1]?=some (.cells rulesC 127 (0,0)):=by
  have h9:=heap_alloc_last (w.alloc (.cells #[.nilFunc,.nilFunc] 86)) (.cells rulesC 127)
  rw [World.size_alloc] at h9
  rw [hW]
  exact h9
 have hb0:Below w.heap.size w W:=by rw [hW];exact (below_alloc1 w _).alloc (by rw [World.size_alloc];omega) _
 have hR:W.heap[w.heap.size]?=some (.cells #[.nilFunc,.nilFunc] 86 (0,0)):=by
  rw [hW]
  exact ((Below.refl _ (w.alloc (.cells #[.nilFunc,.nilFunc] 86))).alloc (Nat.le_refl _) _).block _ (by rw [World.size_alloc];omega) |>.trans (heap_alloc_last w _)
 have hq:W.cell? ⟨w.heap.size+1,k.toNat * 2,none⟩=some (.func (.func (asksOf k)) #[] #[])∧W.cell? ⟨w.heap.size+1,k.toNat * 2+1,none⟩=some (.func (.func (doesOf k)) #[] #[]):=by
  have hk:k=1∨k=2∨k=3∨k=4∨k=5∨k=6∨k=7∨k=8∨k=9∨k=10∨k=11∨k=12∨k=13∨k=14∨k=15∨k=16∨k=17∨k=18∨k=19∨k=20∨k=21∨k=22:=by omega
  rcases hk with rfl|rfl|rfl|rfl|rfl|rfl|rfl|rfl|rfl|rfl|rfl|rfl|rfl|rfl|rfl|rfl|rfl|rfl|rfl|rfl|rfl|rfl
  all_goals exact ⟨cell_at hA rfl,cell_at hA rfl⟩
 obtain ⟨qa,qd⟩:=hq
 have HWr:=hide hWr
 have HA:=hide hA
 have HR:=hide hR
 have HB:=hide hb0
 have r0:W.cell? ⟨w.heap.size,0,none⟩=some .nilFunc:=cell_at hR rfl
 have r1:W.cell? ⟨w.heap.size,1,none⟩=some .nilFunc:=cell_at hR rfl
 have z0:W.frozen? ⟨w.heap.size,0,none⟩=false:=frz hR 0
 have z1:W.frozen? ⟨w.heap.size,1,none⟩=false:=frz hR 1
 have hl0:w.heap.size < W.heap.size:=(Array.getElem?_eq_some_iff.1 hR).1
 have hl1:w.heap.size+1 < W.heap.size:=(Array.getElem?_eq_some_iff.1 hA).1
 clear hW hWr hA hR hb0
 go_enter Tryz.func47,Tryz.ntmps47
 unfold rules0 at HWr
 have hone:(#[.func (.func (asksOf k)) #[] #[],.func (.func (doesOf k)) #[] #[]]:Array Value).all (·.oneCell')=true:=fn_one _ _
 go_wp2_with (first
  | (refine wpList_store_row rfl 127 (.tmp 3) (.tmp 26) rfl (w.heap.size+1) rulesC rfl rfl 127 rules0 HZ infoRA rfl rulesC_one ?_;rw [HWr.out])
  | (refine wpList_store_row rfl 86 (.tmp 2) (.tmp 29) rfl w.heap.size #[.func (.func (asksOf k)) #[] #[],.func (.func (doesOf k)) #[] #[]] rfl rfl 86 #[.nilFunc,.nilFunc] HR.out infoR1 rfl hone ?_))
 refine bodyPost_ret (v:=.agg #[.func (.func (asksOf k)) #[] #[],.func (.func (doesOf k)) #[] #[]]) ?_ ?_ ?_
 ·exact results_cell1 Tryz.results47 _ _ w.heap.size 86 #[.func (.func (asksOf k)) #[] #[],.func (.func (doesOf k)) #[] #[]] (0,0) _ rfl (setRow_heap _ _ _ _ _ _ HR.out) Tryz.underlying86 rfl infoR1
 ·rfl
 ·exact ⟨rfl,below_setRow HB.out (Nat.le_refl _) _⟩
theorem nothing_any (h:Ck w cb B F M N):Calls Tryz.prog 67 #[gPtr cb,.agg (evC g k o a s)] w fun e w'=>e=.returned (.tuple #[])∧CkR w cb F M N w':=by
 obtain ⟨W,hW⟩:∃ W,W=w.alloc (.cells (evC g k o a s) 43):=⟨_,rfl⟩
 have hb:Below w.heap.size w W:=by rw [hW];exact below_alloc1 w _
 have HC:=hide (CkR.below hb (CkR.of (h.below hb)))
 have HW:=hide hW
 clear h hb hW
 unfold gPtr evC
 unfold evC at HW
 go_enter Tryz.func67,Tryz.ntmps67
 go_wp2
 go_end0
 rw [← HW.out]
 exact ⟨rfl,HC.out⟩
theorem missing_any (h:Ck w cb B F M N) {r:Gor} (hg:M.gs 0=some r):Calls Tryz.prog 45 #[gPtr cb] w fun e w'=>e=.returned (.bool false)∧w'=w:=by
 obtain ⟨m,hm,hlen⟩:=(h.mg nf).2.len (x:=0) Tryz.underlying71 (by unfold fG;rw [hg];rfl) 3
 have t1:=h.c1
 have hlt:=h.clt
 have hz:((m:Int) == 0)=false:=by rw [beq_eq_false_iff_ne];omega
 clear h hg
 unfold gPtr
 go_enter Tryz.func45,Tryz.ntmps45
 go_wp2
 go_ret
 exact ⟨rfl,rfl⟩
def newS:CS:=⟨0,fun _=>none,[],fun _=>none,fun _=>none,fun _=>0,fun _=>false,[]⟩
def newB (n:Nat):Bl:=⟨n,n+1,n+2,n+3,n+4,.slice none 0 0,.slice none 0 0,fun _=>0,fun _=>.slice none 0 0,fun _=>0⟩
def newF (n:Nat) (k:Nat):Option Lb:=if k=n then some .gm else if k=n+1 then some .lm else if k=n+2 then some .cm else if k=n+3 then some .km else if k=n+4 then some .om else if k=n+5 then some .top else none
theorem newF_lt {n k:Nat} {l:Lb} (h:newF n k=some l):n≤k∧k < n+6:=by
 unfold newF at h
 repeat' split at h
 all_goals first|omega|cases h
theorem new_ck (w w':World) (hw:w'=(((((w.alloc (.map #[] 0)).alloc (.map #[] 0)).alloc (.map #[] 0)).alloc (.map #[] 0)).alloc (.map #[] 0)).alloc (.cells (ckc (newB w.heap.size) 0) 80)) :
  Ck w' (w.heap.size+5) (newB w.heap.size) (newF w.heap.size) newS 0∧Below w.heap.size w w':=by
 obtain ⟨w1,h1⟩:∃ w1,w1=w.alloc (.map #[] 0):=⟨_,rfl⟩
 obtain ⟨w2,h2⟩:∃ w2,w2=w1.alloc (.map #[] 0):=⟨_,rfl⟩
 obtain ⟨w3,h3⟩:∃ w3,w3=w2.alloc (.map #[] 0):=⟨_,rfl⟩
 obtain ⟨w4,h4⟩:∃ w4,w4=w3.alloc (.map #[] 0):=⟨_,rfl⟩
 obtain ⟨w5,h5⟩:∃ w5,w5=w4.alloc (.map #[] 0):=⟨_,rfl⟩
 rw [← h1,← h2,← h3,← h4,← h5] at hw
 have s1:w1.heap.size=w.heap.size+1:=by rw [h1,World.size_alloc]
 have s2:w2.heap.size=w.heap.size+2:=by rw [h2,World.size_alloc,s1]
 have s3:w3.heap.size=w.heap.size+3:=by rw [h3,World.size_alloc,s2]
 have s4:w4.heap.size=w.heap.size+4:=by rw [h4,World.size_alloc,s3]
 have s5:w5.heap.size=w.heap.size+5:=by rw [h5,World.size_alloc,s4]
 have b1:Below w.heap.size w w1:=by rw [h1];exact below_alloc1 w _
 have b2:Below w1.heap.size w1 w2:=by rw [h2];exact below_alloc1 w1 _
 have b3:Below w2.heap.size w2 w3:=by rw [h3];exact below_alloc1 w2 _
 have b4:Below w3.heap.size w3 w4:=by rw [h4];exact below_alloc1 w3 _
 have b5:Below w4.heap.size w4 w5:=by rw [h5];exact below_alloc1 w4 _
 have b6:Below w5.heap.size w5 w':=by rw [hw];exact below_alloc1 w5 _
 have s6:w'.heap.size=w.heap.size+6:=by rw [hw,World.size_alloc,s5]
 have m1:HM w1 3 .i64 w.heap.size 0 (.pointer none) (fun _=>none):=by rw [h1];exact HM.made w _ _ _
 have m2:HM w2 33 .u64 (w.heap.size+1) 0 (.agg #[.bool false,.int .i64 0]) (fun _=>none):=by rw [h2,← s1];exact HM.made w1 _ _ _
 have m3:HM w3 33 .u64 (w.heap.size+2) 0 (.pointer none) (fun _=>none):=by rw [h3,← s2];exact HM.made w2 _ _ _
 have m4:HM w4 33 .u64 (w.heap.size+3) 0 (.int .i64 0) (fun _=>none):=by rw [h4,← s3];exact HM.made w3 _ _ _
 have m5:HM w5 33 .u64 (w.heap.size+4) 0 (.agg #[]) (fun _=>none):=by rw [h5,← s4];exact HM.made w4 _ _ _
 have ht:w'.heap[w.heap.size+5]?=some (.cells (ckc (newB w.heap.size) 0) 80 (0,0)):=by rw [hw,← s5];exact heap_new _ _
 refine ⟨⟨fun k l hl=>by have:=newF_lt hl;omega,?_,fun _=>ht,fun _=>⟨?_,?_⟩,fun _=>⟨?_,?_⟩,fun _=>⟨?_,?_⟩,fun _=>⟨?_,?_⟩,fun _=>⟨?_,?_⟩,fun _=>Rise.nil _ _,fun _=>Rise.nil _ _,fun g r hg=>(by cases hg),fun g r hg=>(by cases hg),fun c r hc=>(by cases hc)⟩,?_⟩
 ·unfold newF;simp
 ·show newF w.heap.size (w.heap.size)=some .gm
  unfold newF;simp
 ·exact ((((m1.below b2).below b3).below b4).below b5).below b6
 ·show newF w.heap.size (w.heap.size+1)=some .lm
  unfold newF;simp
 ·exact (((m2.below b3).below b4).below b5).below b6
 ·show newF w.heap.size (w.heap.size+2)=some .cm
  unfold newF;simp
 ·exact ((m3.below b4).below b5).below b6
 ·show newF w.heap.size (w.heap.size+3)=some .km
  unfold newF;simp
 ·exact (m4.below b5).below b6
 ·show newF w.heap.size (w.heap.size+4)=some .om
  unfold newF;simp
 ·exact m5.below b6
 ·exact Below.on (Below.on (Below.on (Below.on (Below.on b1 b2) b3) b4) b5) b6
end
end Go.Proofs.YthgelfdefkbfeaaGreatDoor
namespace Go.Proofs.YthgelfdefkbfeaaGreatDoor
open Go.RowKit Go.Maps
section
variable {w w' : World} {cb : Nat} {B : Bl} {F : Nat → Option Lb} {M : CS} {N : Nat} {g k o a : Int} {s : Value}
structure Eb (g k o a:Int):Prop where
 ok:EOk g o a
 k1:1≤k
 k2:k≤22
 fj:k=7∨k=8→a≤65535
 mc:k=9→a≤65536
 rc:k=12→a≤1
 ct:k=14→a≤4294967295
 al:k=20∨k=21→1≤a∧o+(a - 1)≤18446744073709551615
theorem kcases {k:Int} (h1:1≤k) (h2:k≤22):k=1∨k=2∨k=3∨k=4∨k=5∨k=6∨k=7∨k=8∨k=9∨k=10∨k=11∨k=12∨k=13∨k=14∨k=15∨k=16∨k=17∨k=18∨k=19∨k=20∨k=21∨k=22:=by omega
theorem chk_eb {ls:List ByteArray} (h:E6.chk g k o a ls=0) (o0:0≤o) (o1:o≤18446744073709551615) (a0:0≤a) (a1:a≤18446744073709551615):Eb g k o a:=by
 unfold E6.chk at h
 by_cases hk:1≤k∧k≤22
 ·rw [if_pos hk] at h
  by_cases hg:g < 0∨65536≤g
  ·rw [if_pos hg] at h;cases h
  ·rw [if_neg hg] at h
   cases hob:E6.objB k.toNat o a with
   | false=>rw [hob] at h;cases h
   | true =>
    rw [hob,if_pos rfl] at h
    cases har:E6.argB k.toNat a with
    | false=>rw [har] at h;cases h
    | true =>
     clear h
     refine ⟨⟨by omega,by omega,o0,o1,a0,a1⟩,hk.1,hk.2,?_,?_,?_,?_,?_⟩
     ·rintro (rfl|rfl) <;> (have:=of_decide_eq_true har;exact this.2)
     ·rintro rfl;have:=of_decide_eq_true har;exact this.2
     ·rintro rfl;have:=of_decide_eq_true har;exact this.2
     ·rintro rfl
      have h9:=of_decide_eq_true har
      have h8:a≤4294967294:=h9.2
      omega
     ·rintro (rfl|rfl)
      all_goals
       have h9:=of_decide_eq_true har
       have h8:(1:Int)≤a:=h9.1
       unfold E6.objB at hob
       rw [if_neg (by decide),if_pos (by decide),har] at hob
       have h7:o≤18446744073709551615 - (a - 1):=by simpa using hob
       exact ⟨h8,by omega⟩
 ·rw [if_neg hk] at h;cases h
theorem ask_any (h:Ck w cb B F M N) (he:Eb g k o a) (hok:M.ok) {r:Gor} (hg:M.gs g=some r) :
  Calls Tryz.prog (asksOf k) #[gPtr cb,.agg (evC g k o a s)] w fun e w'=>e=.returned (.int .i64 (M.ask ⟨g,k,o,a⟩ r))∧Below w.heap.size w w':=by
 have ho:=he.ok
 rcases kcases he.k1 he.k2 with rfl|rfl|rfl|rfl|rfl|rfl|rfl|rfl|rfl|rfl|rfl|rfl|rfl|rfl|rfl|rfl|rfl|rfl|rfl|rfl|rfl|rfl
 ·exact always_any
 ·exact always_any
 ·exact mayAcquire_any h ho
 ·exact mayRelease_any h ho hg
 ·exact mayAcquireToRead_any h ho
 ·exact mayReleaseToRead_any h ho hg
 ·exact mayFork_any h ho (he.fj (.inl rfl))
 ·exact mayJoin_any h ho (he.fj (.inr rfl))
 ·have e9:M.ask ⟨g,9,o,a⟩ r=(if (M.chans o).isSome=true then 13 else 0):=by
   show M.askChan ⟨g,9,o,a⟩ r=_
   unfold CS.askChan
   dsimp only
   cases M.chans o <;> rfl
  rw [e9]
  exact mayMake_any h ho
 ·refine Calls.mono (maySend_any h ho hok) ?_
  rintro e w1 ⟨rfl,hb⟩
  refine ⟨?_,hb⟩
  show _=Ending.returned (Value.int .i64 (M.askChan ⟨g,10,o,a⟩ r))
  unfold CS.askChan
  dsimp only
  cases M.chans o <;> rfl
 ·refine Calls.mono (mayAck_any h ho hok hg) ?_
  rintro e w1 ⟨rfl,hb⟩
  refine ⟨?_,hb⟩
  show _=Ending.returned (Value.int .i64 (M.askChan ⟨g,11,o,a⟩ r))
  unfold CS.askChan
  dsimp only
  cases M.chans o <;> rfl
 ·refine Calls.mono (mayReceive_any h ho hok) ?_
  rintro e w1 ⟨rfl,hb⟩
  refine ⟨?_,hb⟩
  show _=Ending.returned (Value.int .i64 (M.askChan ⟨g,12,o,a⟩ r))
  unfold CS.askChan
  dsimp only
  cases M.chans o <;> rfl
 ·refine Calls.mono (mayClose_any h ho hok) ?_
  rintro e w1 ⟨rfl,hb⟩
  refine ⟨?_,hb⟩
  show _=Ending.returned (Value.int .i64 (M.askChan ⟨g,13,o,a⟩ r))
  unfold CS.askChan
  dsimp only
  cases M.chans o <;> rfl
 ·exact mayCount_any h ho hok (he.ct rfl)
 ·exact mayWait_any h ho
 ·exact mayRunOnce_any h ho
 ·exact always_any
 ·exact always_any
 ·exact always_any
 ·exact mayAllocate_any h ho (he.al (.inl rfl)).1 (he.al (.inl rfl)).2
 ·exact mayFree_any h ho (he.al (.inr rfl)).1 (he.al (.inr rfl)).2
 ·exact always_any
theorem CkR.up {M2:CS} {w2:World} {N':Nat} (h:CkR w cb F M2 N w2) (hN:N≤N'):CkR w cb F M2 N' w2:=by
 obtain ⟨B',F',h1,h2,h3⟩:=h
 exact ⟨B',F',h1.up hN,h2,h3⟩
theorem has_look {x:Int} {L:List Ent} (h:has x L=true):∃ u,look x L=some u:=Option.isSome_iff_exists.1 h
theorem does_any (h:Ck w cb B F M N) (hN:N≤2000000) (he:Eb g k o a) (hok:M.ok) {r:Gor} (hg:M.gs g=some r) (hask:M.ask ⟨g,k,o,a⟩ r=0) :
  Calls Tryz.prog (doesOf k) #[gPtr cb,.agg (evC g k o a s)] w fun e w'=>e=.returned (.tuple #[])∧CkR w cb F (M.doo ⟨g,k,o,a⟩ r) (N+1) w':=by
 have ho:=he.ok
 have hup:∀ {M2:CS},(∀ e w',e=Ending.returned (.tuple #[])∧CkR w cb F M2 N w'→e=Ending.returned (.tuple #[])∧CkR w cb F M2 (N+1) w'):=fun e w' ⟨h1,h2⟩=>⟨h1,h2.up (Nat.le_succ N)⟩
 rcases kcases he.k1 he.k2 with rfl|rfl|rfl|rfl|rfl|rfl|rfl|rfl|rfl|rfl|rfl|rfl|rfl|rfl|rfl|rfl|rfl|rfl|rfl|rfl|rfl|rfl
 ·exact (nothing_any h).mono hup
 ·exact (nothing_any h).mono hup
 ·exact acquire_any h ho hN hok hg
 ·have h4:M.toWrite o=true∧has o r.held=true:=by
   by_cases h5:M.toWrite o=true∧has o r.held=true
   ·exact h5
   ·have h6:M.ask ⟨g,4,o,a⟩ r=5:=by show (if M.toWrite o=true∧has o r.held=true then (0:Int) else 5)=5;rw [if_neg h5]
    rw [h6] at hask;cases hask
  obtain ⟨u,hu⟩:=has_look h4.2
  exact release_any h ho hN hok hg hu
 ·exact acquireToRead_any h ho hN hok hg
 ·have h4:has o r.held=true:=by
   by_cases h5:has o r.held=true
   ·exact h5
   ·have h6:M.ask ⟨g,6,o,a⟩ r=7:=by
     show (if M.toWrite o=true then (7:Int) else if has o r.held=true then 0 else 7)=7
     rw [if_neg h5]
     split <;> rfl
    rw [h6] at hask;cases hask
  obtain ⟨u,hu⟩:=has_look h4
  exact releaseToRead_any h ho hN hok hg hu
 ·have h4:M.gs a=none:=by
   have h6:(if (M.gs a).isSome=true then (8:Int) else 0)=0:=hask
   cases hq:M.gs a with
   | none=>rfl
   | some q=>rw [hq] at h6;cases h6
  exact fork_any h ho hN hok (he.fj (.inl rfl)) h4
 ·have h4:has a M.alive=true:=by
   have h6:M.askGor ⟨g,8,o,a⟩=0:=hask
   unfold CS.askGor at h6
   dsimp only at h6
   rw [if_neg (by decide)] at h6
   cases hq:M.gs a with
   | none=>rw [hq] at h6;cases h6
   | some q =>
    rw [hq] at h6
    by_cases h5:has a M.alive=true
    ·exact h5
    ·dsimp only at h6;rw [if_neg h5] at h6;cases h6
  obtain ⟨u,hu⟩:=has_look h4
  exact (join_any h ho hN hok hu).mono hup
 ·have h4:M.chans o=none:=by
   have h6:M.askChan ⟨g,9,o,a⟩ r=0:=hask
   unfold CS.askChan at h6
   cases hq:M.chans o with
   | none=>rfl
   | some q=>dsimp only at h6;rw [hq] at h6;cases h6
  exact makeChannel_any h ho hN (he.mc rfl) h4
 ·cases hq:M.chans o with
  | none =>
   have h6:M.askChan ⟨g,10,o,a⟩ r=0:=hask
   unfold CS.askChan at h6
   dsimp only at h6;rw [hq] at h6;cases h6
  | some c =>
   have e9:M.doo ⟨g,10,o,a⟩ r={ M with chans:=setF M.chans o (some { c with sends:=c.sends+1 }),gs:=if c.room=0 then setF M.gs g (some { r with «to»:=o,as_:=c.sends+1 }) else M.gs }:=by
    show (match M.chans o with|none=>M|some c=>{ M with chans:=setF M.chans o (some { c with sends:=c.sends+1 }),gs:=if c.room=0 then setF M.gs g (some { r with «to»:=o,as_:=c.sends+1 }) else M.gs })=_
    rw [hq]
   rw [e9]
   exact (send_any h ho hN hok hg hq).mono hup
 ·exact (ack_any h ho hN hg).mono hup
 ·cases hq:M.chans o with
  | none =>
   have h6:M.askChan ⟨g,12,o,a⟩ r=0:=hask
   unfold CS.askChan at h6
   dsimp only at h6;rw [hq] at h6;cases h6
  | some c =>
   have e9:M.doo ⟨g,12,o,a⟩ r={ M with chans:=setF M.chans o (some { c with recvs:=c.recvs+a }) }:=by
    show (match M.chans o with|none=>M|some c=>{ M with chans:=setF M.chans o (some { c with recvs:=c.recvs+a }) })=_
    rw [hq]
   rw [e9]
   exact (receive_any h ho hN hok (he.rc rfl) hq).mono hup
 ·cases hq:M.chans o with
  | none =>
   have h6:M.askChan ⟨g,13,o,a⟩ r=0:=hask
   unfold CS.askChan at h6
   dsimp only at h6;rw [hq] at h6;cases h6
  | some c =>
   have e9:M.doo ⟨g,13,o,a⟩ r={ M with chans:=setF M.chans o (some { c with closed:=true }) }:=by
    show (match M.chans o with|none=>M|some c=>{ M with chans:=setF M.chans o (some { c with closed:=true }) })=_
    rw [hq]
   rw [e9]
   exact (closeChannel_any h ho hN hq).mono hup
 ·have h6:(if M.cnt o+mzag a < 0∨2147483647 < M.cnt o+mzag a then (23:Int) else 0)=0:=hask
  by_cases h5:M.cnt o+mzag a < 0∨2147483647 < M.cnt o+mzag a
  ·rw [if_pos h5] at h6;cases h6
  ·exact count_any h ho hN (by omega) (by omega)
 ·exact (nothing_any h).mono hup
 ·exact runOnce_any h ho hN
 ·exact (nothing_any h).mono hup
 ·exact (nothing_any h).mono hup
 ·exact (nothing_any h).mono hup
 ·exact (allocate_any h ho hN hok (he.al (.inl rfl)).1 (he.al (.inl rfl)).2).mono hup
 ·have h6:(if nxt (o+(a - 1)) M.mem=some (o+(a - 1),o) then (0:Int) else 28)=0:=hask
  by_cases h5:nxt (o+(a - 1)) M.mem=some (o+(a - 1),o)
  ·exact (free_any h ho hN hok (he.al (.inr rfl)).1 (he.al (.inr rfl)).2 (look_of_mem (h.me nf).ris (nxt_mem h5).1)).mono hup
  ·rw [if_neg h5] at h6;cases h6
 ·exact (nothing_any h).mono hup
end
end Go.Proofs.YthgelfdefkbfeaaGreatDoor
