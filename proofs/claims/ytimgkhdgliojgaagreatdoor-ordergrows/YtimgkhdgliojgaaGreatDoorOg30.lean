import Derived.Test.YtimgkhdgliojgaaGreatDoorOg18
import Derived.Deep.WholeRow
import Derived.Laws.CopyOwn
import Derived.Test.YtimgkhdgliojgaaGreatDoorRows
import Derived.WalkKit
import Derived.WalkLawsBesides
import Derived.BigQuiet
import Derived.Deep.QuietTactic
import Derived.WalkSpells
import Derived.WalkSmall
import Derived.Maps.OwnSet
import Derived.Maps.OwnOps
import Derived.Maps.AppendAt
import Derived.Laws.AppendOwnNone
import Derived.KernelRfl
set_option maxRecDepth 8000
set_option maxHeartbeats 8000000
set_option linter.unusedVariables false
namespace Go.Proofs.YtimgkhdgliojgaaGreatDoor
open Go.RowKit Go.Maps
section
variable {w w' : World} {cb : Nat} {B : Bl} {F : Nat → Option Lb} {M : CS} {N : Nat} {g k o a : Int} {s : Value}
theorem fK_put {M:CS} {o v:Int} (hv:v≠0):setF (fK M) o (some (.int .i64 v))=fun x=>if setF M.cnt o v x=0 then none else some (.int .i64 (setF M.cnt o v x)):=by
 funext x
 unfold fK
 by_cases hx:x=o
 ·subst hx;rw [setF_same,setF_same,if_neg hv]
 ·rw [setF_other _ _ hx,setF_other _ _ hx]
theorem fK_del {M:CS} {o v:Int} (hv:v=0):setF (setF (fK M) o (some (.int .i64 v))) o none=fun x=>if setF M.cnt o v x=0 then none else some (.int .i64 (setF M.cnt o v x)):=by
 funext x
 unfold fK
 by_cases hx:x=o
 ·subst hx;rw [setF_same,setF_same,if_pos hv]
 ·rw [setF_other _ _ hx,setF_other _ _ hx,setF_other _ _ hx]
theorem count_any (h:Ck w cb B F M N) (ho:EOk g o a) (hN:N≤2000000) (hc0:0≤M.cnt o+mzag a) (hc1:M.cnt o+mzag a≤2147483647) :
  Calls Tryz.prog 112 #[gPtr cb,.agg (evC g k o a s)] w fun e w'=>e=.returned (.tuple #[])∧CkR w cb F { M with cnt:=setF M.cnt o (M.cnt o+mzag a) } (N+1) w':=by
 obtain ⟨W,hW⟩:∃ W,W=w.alloc (.cells (evC g k o a s) 35):=⟨_,rfl⟩
 have hb:Below w.heap.size w W:=by rw [hW];exact below_alloc1 w _
 have hC:=h.below hb
 have hCd:Ck W.drew cb B F M N:=hC.below (Below.refl _ _).drew
 have hE:W.heap[w.heap.size]?=some (.cells (evC g k o a s) 35 (0,0)):=by rw [hW];exact heap_new _ _
 obtain ⟨p0,p1,p2,p3,p4⟩:=evc0 hE
 have hmax:N < maxLen:=by unfold maxLen;omega
 have HB:=hide hb
 have HW:=hide hW
 have HC:=hide hC
 have hlt:=h.clt
 have hltW:cb < W.heap.size:=hC.clt
 have hleW:w.heap.size < W.heap.size:=(Array.getElem?_eq_some_iff.1 hE).1
 have hFe:F w.heap.size=none:=by
  cases hq:F w.heap.size with
  | none=>rfl
  | some l=>have:=h.lt _ _ hq;omega
 obtain ⟨v,hv⟩:∃ v,v=M.cnt o+mzag a:=⟨_,rfl⟩
 rw [← hv] at hc0 hc1 ⊢
 obtain ⟨w1,hup,hm1,hb1⟩:=(hCd.mt nf).2.put lawU Tryz.underlying111 hmax (keyU ho.o0 ho.o1) (.int .i64 v)
 have t5:=hC.c5
 have hFl:=(hC.mt nf).1
 have hlk:=hCd.lkK ho
 have hwv:IntKind.i64.wrap (M.cnt o+mzag a)=v:=by rw [IntKind.wrap_i64,← hv];omega
 have HSL:Hid (∀ X,But (fun k=>k=B.km) W X→X.cell? ⟨cb,5,none⟩=some (.map (some B.km))∧X.cell? ⟨w.heap.size,2,none⟩=some (.int .u64 o)∧X.cell? ⟨w.heap.size,3,none⟩=some (.int .u64 a)):=hide (fun X hX=>⟨cell_but t5 hX (fun e=>by have e9:cb=B.km:=e;rw [← e9,hC.top] at hFl;cases hFl),cell_but p2 hX (fun e=>by have e9:w.heap.size=B.km:=e;rw [← e9,hFe] at hFl;cases hFl),cell_but p3 hX (fun e=>by have e9:w.heap.size=B.km:=e;rw [← e9,hFe] at hFl;cases hFl)⟩)
 have HK1:Hid (But (fun k=>k=B.km) W w1):=hide ((But.refl (fun k=>k=B.km) W).drew.trans hb1 (fun _ _ e=>e))
 have hl1:cb < w1.heap.size:=Nat.lt_of_lt_of_le hltW HK1.out.size
 have hl2:w.heap.size < w1.heap.size:=Nat.lt_of_lt_of_le hleW HK1.out.size
 have HM1:=hide hm1
 have HV:=hide hv
 have HLk:Hid (∀ X,Below w1.heap.size w1 X→(Instr.lookup 111 (.map (some B.km)) (.int .u64 o) false).run Tryz.prog X=.ok (.int .i64 v) X):=hide (fun X hX=>by
  have h9:=(hm1.below hX).look (x:=o) lawU Tryz.underlying111 (zeroI X) (keyU ho.o0 ho.o1)
  rw [setF_same] at h9
  exact h9)
 have HEnd:Hid (∀ (X:World) (hm:HM X 32 .u64 B.km (N+1) (.int .i64 0) (fun x=>if setF M.cnt o v x=0 then none else some (.int .i64 (setF M.cnt o v x)))) (hX:But (fun k=>k=B.km) W X),CkR w cb F { M with cnt:=setF M.cnt o v } (N+1) X):=hide (fun X hm hX=>by
  obtain ⟨k1,k2⟩:=hC.setK (Nat.le_succ N) hm hX
  exact CkR.below hb ⟨_,_,k1,FEx.refl _ _,k2⟩)
 have HO:=hide ho
 clear h hb hW hmax hC hCd hE hFe ho p0 p1 p2 p3 p4 hm1 hb1 t5 hFl hv hc0 hc1
 unfold gPtr evC
 unfold evC at HW
 go_enter Tryz.func112,Tryz.ntmps112
 go_wp2_with fail
 rw [← HW.out]
 clear HW
 refine wp_region_noPanic ?_
 refine wp_region_held_drew (S:=fun X=>X.cell? ⟨cb,5,none⟩=some (.map (some B.km))∧X.cell? ⟨w.heap.size,2,none⟩=some (.int .u64 o)∧X.cell? ⟨w.heap.size,3,none⟩=some (.int .u64 a)) (by kernel_rfl) (HSL.out _ (But.refl _ _).drew) (fun hHeld=>?_)
 refine wpAnyH_take (i:=0) (oi:=_) (v:=?v0_1) rfl (by kernel_rfl) (by kernel_rfl) (by kernel_rfl) (fun _ _ _ h=>h) (Or.inl ⟨by rfl,?y0_1⟩) (by assumption) ?r0_1
 case y0_1=>(intro w' hSw;(try dsimp only at hSw);go_simp;try with_reducible rfl)
 refine wpAnyH_take (i:=1) (oi:=_) (v:=?v1_1) rfl (by kernel_rfl) (by kernel_rfl) (by kernel_rfl) (fun _ _ _ h=>h) (Or.inl ⟨by rfl,?y1_1⟩) (by assumption) ?r1_1
 case y1_1=>(intro w' hSw;(try dsimp only at hSw);go_simp;try with_reducible rfl)
 refine wpAnyH_take (i:=2) (oi:=_) (v:=?v2_1) rfl (by kernel_rfl) (by kernel_rfl) (by kernel_rfl) (fun _ _ _ h=>h) (Or.inl ⟨by rfl,?y2_1⟩) (by assumption) ?r2_1
 case y2_1=>(intro w' hSw;(try dsimp only at hSw);go_simp;try with_reducible rfl)
 refine wpAnyH_take (i:=3) (oi:=_) (v:=?v3_1) rfl (by kernel_rfl) (by kernel_rfl) (by kernel_rfl) (fun _ _ _ h=>h) (Or.inl ⟨by rfl,?y3_1⟩) (by assumption) ?r3_1
 case y3_1=>(intro w' hSw;(try dsimp only at hSw);go_simp;try with_reducible rfl)
 refine wpAnyH_take (i:=4) (oi:=_) (v:=?v4_1) rfl (by kernel_rfl) (by kernel_rfl) (by kernel_rfl) (fun _ _ _ h=>h) (Or.inl ⟨by rfl,?y4_1⟩) (by assumption) ?r4_1
 case y4_1=>(intro w' hSw;(try dsimp only at hSw);go_simp;try with_reducible rfl)
 refine wpAnyH_take (i:=5) (oi:=_) (v:=?v5_1) rfl (by kernel_rfl) (by kernel_rfl) (by kernel_rfl) (fun _ _ _ h=>h) (Or.inl ⟨by rfl,?y5_1⟩) (by assumption) ?r5_1
 case y5_1=>(intro w' hSw;(try dsimp only at hSw);go_simp;try with_reducible rfl)
 refine wpAnyH_take (i:=7) (oi:=_) (v:=?v7_1) rfl (by kernel_rfl) (by kernel_rfl) (by kernel_rfl) (fun _ _ _ h=>h) (Or.inl ⟨by rfl,?y7_1⟩) (by assumption) ?r7_1
 case y7_1=>(intro w' hSw;(try dsimp only at hSw);go_simp;try with_reducible rfl)
 refine wpAnyH_take (i:=8) (oi:=_) (v:=?v8_1) rfl (by kernel_rfl) (by kernel_rfl) (by kernel_rfl) (fun _ _ _ h=>h) (Or.inl ⟨by rfl,?y8_1⟩) (by assumption) ?r8_1
 case y8_1=>(intro w' hSw;(try dsimp only at hSw);go_simp;try with_reducible rfl)
 refine wpAnyH_ready (rs:=[6,9]) (by kernel_rfl) (by simp) ?_
 refine AllReadyH.cons (o:=_) rfl (fun KK hKK=>?_) (AllReadyH.cons (o:=_) rfl (fun KK hKK=>?_) AllReadyH.nil)
 ·go_simp
  refine hKK.out _ _ (HSL.out _ (But.refl _ _).drew) (fun hHeld6=>?_)
  clear hKK KK
  refine wpAnyH_ready (rs:=[9]) (by kernel_rfl) (by simp) ?_
  refine AllReadyH.cons (o:=_) rfl (fun KK hKK=>?_) AllReadyH.nil
  go_simp
  refine (zag_any _ _ HO.out.a0 HO.out.a1).mono ?_
  rintro e w9 ⟨rfl,rfl⟩
  refine hKK.out _ _ (HSL.out _ (But.refl _ _).drew) (fun hHeld9=>?_)
  clear hKK KK
  refine wpAnyH_take (i:=10) (oi:=_) (v:=?v10_3) rfl (by kernel_rfl) (by kernel_rfl) (by kernel_rfl) (fun _ _ _ h=>h) (Or.inl ⟨by rfl,?y10_3⟩) (by assumption) ?r10_3
  case y10_3=>(intro w' hSw;(try dsimp only at hSw);go_simp;try with_reducible rfl)
  refine wpAnyH_ready (rs:=[11]) (by kernel_rfl) (by simp) ?_
  refine AllReadyH.cons (o:=_) rfl (fun KK hKK=>?_) AllReadyH.nil
  go_simp
  refine hKK.out _ _ (HSL.out _ HK1.out) (fun hHeld11=>?_)
  clear hKK KK
  refine wpAnyH_done (by kernel_rfl) ?_ _
  refine NoPanic.normal ?_
  clear hHeld hHeld6 hHeld9 hHeld11 hlk hup
  obtain ⟨s1,s2,s3⟩:=HSL.out _ HK1.out
  have hlq:=fun q=>HLk.out (w1.drewN q) (below_drewN (Below.refl _ _) q)
  by_cases hz:v=0
  ·have hzb:(v == 0)=true:=by rw [beq_iff_eq];exact hz
   have HZ:=hide hz
   clear hz
   go_wp2_with fail
   go_quiet (fail)
   obtain ⟨W2,hW2⟩:∃ W2,W2=w1.drewN nq:=⟨_,rfl⟩
   rw [← hW2]
   have hb2:Below w1.heap.size w1 W2:=by rw [hW2];exact below_drewN (Below.refl _ _) _
   have hm2:=(HM1.out.below hb2).below (Below.refl _ W2).drew
   obtain ⟨w3,hup3,hm3,hb3⟩:=hm2.del lawU Tryz.underlying111 (keyU HO.out.o0 HO.out.o1) 0
   rw [fK_del HZ.out] at hm3
   have HK2:Hid (But (fun k=>k=B.km) W W2):=hide (HK1.out.on hb2)
   have HK3:Hid (But (fun k=>k=B.km) W w3):=hide ((HK1.out.on hb2).drew.trans hb3 (fun _ _ e=>e))
   have HF:=hide (HEnd.out _ hm3 HK3.out)
   have hl3:cb < W2.heap.size:=Nat.lt_of_lt_of_le hl1 hb2.size
   have hl4:w.heap.size < W2.heap.size:=Nat.lt_of_lt_of_le hl2 hb2.size
   clear hW2 hb2 hm2 hm3 hb3 hlq s1 s2 s3
   go_wp2_with fail
   go_region_held3 (fun X=>X.cell? ⟨cb,5,none⟩=some (.map (some B.km))∧X.cell? ⟨w.heap.size,2,none⟩=some (.int .u64 o)∧X.cell? ⟨w.heap.size,3,none⟩=some (.int .u64 a))
    (first|with_reducible exact HSL.out _ HK2.out|with_reducible exact HSL.out _ HK2.out.drew|with_reducible exact HSL.out _ HK3.out)
    (fail)
   go_wp2
   go_end0
   exact ⟨rfl,HF.out⟩
  ·have hzb:(v == 0)=false:=by rw [beq_eq_false_iff_ne];exact hz
   have HZ:=hide hz
   clear hz
   go_wp2_with fail
   go_quiet (fail)
   go_wp2
   go_end0
   have hm3:=HM1.out
   rw [fK_put HZ.out] at hm3
   exact ⟨rfl,(HEnd.out _ hm3 HK1.out).on (below_drewN (Below.refl _ _) _)⟩
 ·go_simp
  refine (zag_any _ _ HO.out.a0 HO.out.a1).mono ?_
  rintro e w9 ⟨rfl,rfl⟩
  refine hKK.out _ _ (HSL.out _ (But.refl _ _).drew) (fun hHeld9=>?_)
  clear hKK KK
  refine wpAnyH_ready (rs:=[6]) (by kernel_rfl) (by simp) ?_
  refine AllReadyH.cons (o:=_) rfl (fun KK hKK=>?_) AllReadyH.nil
  go_simp
  refine hKK.out _ _ (HSL.out _ (But.refl _ _).drew) (fun hHeld6=>?_)
  clear hKK KK
  refine wpAnyH_take (i:=10) (oi:=_) (v:=?v10_6) rfl (by kernel_rfl) (by kernel_rfl) (by kernel_rfl) (fun _ _ _ h=>h) (Or.inl ⟨by rfl,?y10_6⟩) (by assumption) ?r10_6
  case y10_6=>(intro w' hSw;(try dsimp only at hSw);go_simp;try with_reducible rfl)
  refine wpAnyH_ready (rs:=[11]) (by kernel_rfl) (by simp) ?_
  refine AllReadyH.cons (o:=_) rfl (fun KK hKK=>?_) AllReadyH.nil
  go_simp
  refine hKK.out _ _ (HSL.out _ HK1.out) (fun hHeld11=>?_)
  clear hKK KK
  refine wpAnyH_done (by kernel_rfl) ?_ _
  refine NoPanic.normal ?_
  clear hHeld hHeld6 hHeld9 hHeld11 hlk hup
  obtain ⟨s1,s2,s3⟩:=HSL.out _ HK1.out
  have hlq:=fun q=>HLk.out (w1.drewN q) (below_drewN (Below.refl _ _) q)
  by_cases hz:v=0
  ·have hzb:(v == 0)=true:=by rw [beq_iff_eq];exact hz
   have HZ:=hide hz
   clear hz
   go_wp2_with fail
   go_quiet (fail)
   obtain ⟨W2,hW2⟩:∃ W2,W2=w1.drewN nq:=⟨_,rfl⟩
   rw [← hW2]
   have hb2:Below w1.heap.size w1 W2:=by rw [hW2];exact below_drewN (Below.refl _ _) _
   have hm2:=(HM1.out.below hb2).below (Below.refl _ W2).drew
   obtain ⟨w3,hup3,hm3,hb3⟩:=hm2.del lawU Tryz.underlying111 (keyU HO.out.o0 HO.out.o1) 0
   rw [fK_del HZ.out] at hm3
   have HK2:Hid (But (fun k=>k=B.km) W W2):=hide (HK1.out.on hb2)
   have HK3:Hid (But (fun k=>k=B.km) W w3):=hide ((HK1.out.on hb2).drew.trans hb3 (fun _ _ e=>e))
   have HF:=hide (HEnd.out _ hm3 HK3.out)
   have hl3:cb < W2.heap.size:=Nat.lt_of_lt_of_le hl1 hb2.size
   have hl4:w.heap.size < W2.heap.size:=Nat.lt_of_lt_of_le hl2 hb2.size
   clear hW2 hb2 hm2 hm3 hb3 hlq s1 s2 s3
   go_wp2_with fail
   go_region_held3 (fun X=>X.cell? ⟨cb,5,none⟩=some (.map (some B.km))∧X.cell? ⟨w.heap.size,2,none⟩=some (.int .u64 o)∧X.cell? ⟨w.heap.size,3,none⟩=some (.int .u64 a))
    (first|with_reducible exact HSL.out _ HK2.out|with_reducible exact HSL.out _ HK2.out.drew|with_reducible exact HSL.out _ HK3.out)
    (fail)
   go_wp2
   go_end0
   exact ⟨rfl,HF.out⟩
  ·have hzb:(v == 0)=false:=by rw [beq_eq_false_iff_ne];exact hz
   have HZ:=hide hz
   clear hz
   go_wp2_with fail
   go_quiet (fail)
   go_wp2
   go_end0
   have hm3:=HM1.out
   rw [fK_put HZ.out] at hm3
   exact ⟨rfl,(HEnd.out _ hm3 HK1.out).on (below_drewN (Below.refl _ _) _)⟩
end
end Go.Proofs.YtimgkhdgliojgaaGreatDoor
namespace Go.Proofs.YtimgkhdgliojgaaGreatDoor
open Go.RowKit Go.Maps
section
variable {w w' : World} {cb : Nat} {B : Bl} {F : Nat → Option Lb} {M : CS} {N : Nat} {g k o a : Int} {s : Value}
def asksOf (k:Int):Nat :=
 if k=1 then 87
 else if k=2 then 87
 else if k=3 then 89
 else if k=4 then 91
 else if k=5 then 93
 else if k=6 then 95
 else if k=7 then 97
 else if k=8 then 99
 else if k=9 then 101
 else if k=10 then 103
 else if k=11 then 105
 else if k=12 then 107
 else if k=13 then 109
 else if k=14 then 111
 else if k=15 then 113
 else if k=16 then 114
 else if k=17 then 87
 else if k=18 then 87
 else if k=19 then 87
 else if k=20 then 116
 else if k=21 then 118
 else if k=22 then 87
 else 0
def doesOf (k:Int):Nat :=
 if k=1 then 88
 else if k=2 then 88
 else if k=3 then 90
 else if k=4 then 92
 else if k=5 then 94
 else if k=6 then 96
 else if k=7 then 98
 else if k=8 then 100
 else if k=9 then 102
 else if k=10 then 104
 else if k=11 then 106
 else if k=12 then 108
 else if k=13 then 110
 else if k=14 then 112
 else if k=15 then 88
 else if k=16 then 115
 else if k=17 then 88
 else if k=18 then 88
 else if k=19 then 88
 else if k=20 then 117
 else if k=21 then 119
 else if k=22 then 88
 else 0
def rulesC:Array Value:=#[.nilFunc,.nilFunc,.func (.func 87) #[] #[],.func (.func 88) #[] #[],.func (.func 87) #[] #[],.func (.func 88) #[] #[],.func (.func 89) #[] #[],.func (.func 90) #[] #[],.func (.func 91) #[] #[],.func (.func 92) #[] #[],.func (.func 93) #[] #[],.func (.func 94) #[] #[],.func (.func 95) #[] #[],.func (.func 96) #[] #[],.func (.func 97) #[] #[],.func (.func 98) #[] #[],.func (.func 99) #[] #[],.func (.func 100) #[] #[],.func (.func 101) #[] #[],.func (.func 102) #[] #[],.func (.func 103) #[] #[],.func (.func 104) #[] #[],.func (.func 105) #[] #[],.func (.func 106) #[] #[],.func (.func 107) #[] #[],.func (.func 108) #[] #[],.func (.func 109) #[] #[],.func (.func 110) #[] #[],.func (.func 111) #[] #[],.func (.func 112) #[] #[],.func (.func 113) #[] #[],.func (.func 88) #[] #[],.func (.func 114) #[] #[],.func (.func 115) #[] #[],.func (.func 87) #[] #[],.func (.func 88) #[] #[],.func (.func 87) #[] #[],.func (.func 88) #[] #[],.func (.func 87) #[] #[],.func (.func 88) #[] #[],.func (.func 116) #[] #[],.func (.func 117) #[] #[],.func (.func 118) #[] #[],.func (.func 119) #[] #[],.func (.func 87) #[] #[],.func (.func 88) #[] #[]]
def rules0:Array Value:=#[.nilFunc,.nilFunc,.nilFunc,.nilFunc,.nilFunc,.nilFunc,.nilFunc,.nilFunc,.nilFunc,.nilFunc,.nilFunc,.nilFunc,.nilFunc,.nilFunc,.nilFunc,.nilFunc,.nilFunc,.nilFunc,.nilFunc,.nilFunc,.nilFunc,.nilFunc,.nilFunc,.nilFunc,.nilFunc,.nilFunc,.nilFunc,.nilFunc,.nilFunc,.nilFunc,.nilFunc,.nilFunc,.nilFunc,.nilFunc,.nilFunc,.nilFunc,.nilFunc,.nilFunc,.nilFunc,.nilFunc,.nilFunc,.nilFunc,.nilFunc,.nilFunc,.nilFunc,.nilFunc]
theorem rulesC_one:rulesC.all (·.oneCell')=true:=by kernel_rfl
theorem infoRA:(Tryz.prog.info? 176).map (·.size)=some rulesC.size:=by kernel_rfl
theorem infoR1:(Tryz.prog.info? 130).map (·.size)=some 2:=by kernel_rfl
theorem fn_one (a b:Nat):(#[.func (.func a) #[] #[],.func (.func b) #[] #[]]:Array Value).all (·.oneCell')=true:=by first|kernel_rfl|simp [Value.oneCell']
theorem results_cell1 {P:Program} {fn:Func} {p:Tmp} {ty:TypeId} (h:fn.results=#[.cell p ty]) (tmps:Array Value) (w:World) (g:Nat) (t:TypeId) (cs:Array Value) (fr:Nat × Nat) (d:TypeDesc)
  (hp:tmps.getD p undef=.pointer (some ⟨g,0,none⟩)) (hg:w.heap[g]?=some (.cells cs t fr))
  (hu:P.underlying ty=some d) (hd:(match d with|.struct _|.array _ _=>true|_=>false)=true) (hi:(P.info? ty).map (·.size)=some cs.size) :
  (results fn tmps).run P w=.ok (.agg cs) w:=by
 have hp':tmps[p]?.getD undef=.pointer (some ⟨g,0,none⟩):=by simpa using hp
 simp [results,h,hp',asAddr,run_loadVar_row w g t ty cs fr d hg hu hd hi]
theorem ruleOf_any (h1:1≤k) (h2:k≤22):Calls Tryz.prog 53 #[.int .i64 k] w fun e w'=>e=.returned (.agg #[.func (.func (asksOf k)) #[] #[],.func (.func (doesOf k)) #[] #[]])∧Below w.heap.size w w':=by
 have HZ:((w.alloc (.cells #[.nilFunc,.nilFunc] 130)).alloc (.cells rules0 176)).heap[w.heap.size+1]?=some (.cells rules0 176 (0,0)):=by
  have h9:=heap_alloc_last (w.alloc (.cells #[.nilFunc,.nilFunc] 130)) (.cells rules0 176)
  rw [World.size_alloc] at h9
  exact h9
 obtain ⟨W,hW⟩:∃ W,W=(w.alloc (.cells #[.nilFunc,.nilFunc] 130)).alloc (.cells rulesC 176):=⟨_,rfl⟩
 have hWr:((w.alloc (.cells #[.nilFunc,.nilFunc] 130)).alloc (.cells rules0 176)).setRow (w.heap.size+1) rulesC=W:=by
  rw [hW]
  have h9:=World.setRow_alloc_new (w.alloc (.cells #[.nilFunc,.nilFunc] 130)) rules0 rulesC 176
  rw [World.size_alloc] at h9
  exact h9
 have hA:W.heap[w.heap.size+1]?=some (.cells rulesC 176 (0,0)):=by
  have h9:=heap_alloc_last (w.alloc (.cells #[.nilFunc,.nilFunc] 130)) (.cells rulesC 176)
  rw [World.size_alloc] at h9
  rw [hW]
  exact h9
 have hb0:Below w.heap.size w W:=by rw [hW];exact (below_alloc1 w _).alloc (by rw [World.size_alloc];omega) _
 have hR:W.heap[w.heap.size]?=some (.cells #[.nilFunc,.nilFunc] 130 (0,0)):=by
  rw [hW]
  exact ((Below.refl _ (w.alloc (.cells #[.nilFunc,.nilFunc] 130))).alloc (Nat.le_refl _) _).block _ (by rw [World.size_alloc];omega) |>.trans (heap_alloc_last w _)
 have hq:W.cell? ⟨w.heap.size+1,k.toNat * 2,none⟩=some (.func (.func (asksOf k)) #[] #[])∧W.cell? ⟨w.heap.size+1,k.toNat * 2+1,none⟩=some (.func (.func (doesOf k)) #[] #[]):=by
  have hk:k=1∨k=2∨k=3∨k=4∨k=5∨k=6∨k=7∨k=8∨k=9∨k=10∨k=11∨k=12∨k=13∨k=14∨k=15∨k=16∨k=17∨k=18∨k=19∨k=20∨k=21∨k=22:=by omega
  rcases hk with rfl|rfl|rfl|rfl|rfl|rfl|rfl|rfl|rfl|rfl|rfl|rfl|rfl|rfl|rfl|rfl|rfl|rfl|rfl|rfl|rfl|rfl
  all_goals exact ⟨cell_at hA rfl,cell_at hA rfl⟩
 obtain ⟨qa,qd⟩:=hq
 have HWr:=hide hWr
 have HA:=hide hA
 have HR:=hide hR
 have HB:=hide hb0
 have r0:W.cell? ⟨w.heap.size,0,none⟩=some .nilFunc:=cell_at hR rfl
 have r1:W.cell? ⟨w.heap.size,1,none⟩=some .nilFunc:=cell_at hR rfl
 have z0:W.frozen? ⟨w.heap.size,0,none⟩=false:=frz hR 0
 have z1:W.frozen? ⟨w.heap.size,1,none⟩=false:=frz hR 1
 have hl0:w.heap.size < W.heap.size:=(Array.getElem?_eq_some_iff.1 hR).1
 have hl1:w.heap.size+1 < W.heap.size:=(Array.getElem?_eq_some_iff.1 hA).1
 clear hW hWr hA hR hb0
 go_enter Tryz.func53,Tryz.ntmps53
 unfold rules0 at HWr
 have hone:(#[.func (.func (asksOf k)) #[] #[],.func (.func (doesOf k)) #[] #[]]:Array Value).all (·.oneCell')=true:=fn_one _ _
 go_wp2_with (first
  | (refine wpList_store_row rfl 176 (.tmp 3) (.tmp 26) rfl (w.heap.size+1) rulesC rfl rfl 176 rules0 HZ infoRA rfl rulesC_one ?_;rw [HWr.out])
  | (refine wpList_store_row rfl 130 (.tmp 2) (.tmp 29) rfl w.heap.size #[.func (.func (asksOf k)) #[] #[],.func (.func (doesOf k)) #[] #[]] rfl rfl 130 #[.nilFunc,.nilFunc] HR.out infoR1 rfl hone ?_))
 refine bodyPost_ret (v:=.agg #[.func (.func (asksOf k)) #[] #[],.func (.func (doesOf k)) #[] #[]]) ?_ ?_ ?_
 ·exact results_cell1 Tryz.results53 _ _ w.heap.size 130 #[.func (.func (asksOf k)) #[] #[],.func (.func (doesOf k)) #[] #[]] (0,0) _ rfl (setRow_heap _ _ _ _ _ _ HR.out) Tryz.underlying130 rfl infoR1
 ·rfl
 ·exact ⟨rfl,below_setRow HB.out (Nat.le_refl _) _⟩
theorem nothing_any (h:Ck w cb B F M N):Calls Tryz.prog 88 #[gPtr cb,.agg (evC g k o a s)] w fun e w'=>e=.returned (.tuple #[])∧CkR w cb F M N w':=by
 obtain ⟨W,hW⟩:∃ W,W=w.alloc (.cells (evC g k o a s) 35):=⟨_,rfl⟩
 have hb:Below w.heap.size w W:=by rw [hW];exact below_alloc1 w _
 have HC:=hide (CkR.below hb (CkR.of (h.below hb)))
 have HW:=hide hW
 clear h hb hW
 unfold gPtr evC
 unfold evC at HW
 go_enter Tryz.func88,Tryz.ntmps88
 go_wp2
 go_end0
 rw [← HW.out]
 exact ⟨rfl,HC.out⟩
theorem missing_any (h:Ck w cb B F M N) {r:Gor} (hg:M.gs 0=some r):Calls Tryz.prog 50 #[gPtr cb] w fun e w'=>e=.returned (.bool false)∧w'=w:=by
 obtain ⟨m,hm,hlen⟩:=(h.mg nf).2.len (x:=0) Tryz.underlying108 (by unfold fG;rw [hg];rfl) 3
 have t1:=h.c1
 have hlt:=h.clt
 have hz:((m:Int) == 0)=false:=by rw [beq_eq_false_iff_ne];omega
 clear h hg
 unfold gPtr
 go_enter Tryz.func50,Tryz.ntmps50
 go_wp2
 go_ret
 exact ⟨rfl,rfl⟩
def newS:CS:=⟨0,fun _=>none,[],fun _=>none,fun _=>none,fun _=>0,fun _=>false,[]⟩
def newB (n:Nat):Bl:=⟨n,n+1,n+2,n+3,n+4,.slice none 0 0,.slice none 0 0,fun _=>0,fun _=>.slice none 0 0,fun _=>0⟩
def newF (n:Nat) (k:Nat):Option Lb:=if k=n then some .gm else if k=n+1 then some .lm else if k=n+2 then some .cm else if k=n+3 then some .km else if k=n+4 then some .om else if k=n+5 then some .top else none
theorem newF_lt {n k:Nat} {l:Lb} (h:newF n k=some l):n≤k∧k < n+6:=by
 unfold newF at h
 repeat' split at h
 all_goals first|omega|cases h
theorem new_ck (w w':World) (hw:w'=(((((w.alloc (.map #[] 0)).alloc (.map #[] 0)).alloc (.map #[] 0)).alloc (.map #[] 0)).alloc (.map #[] 0)).alloc (.cells (ckc (newB w.heap.size) 0) 117)) :
  Ck w' (w.heap.size+5) (newB w.heap.size) (newF w.heap.size) newS 0∧Below w.heap.size w w':=by
 obtain ⟨w1,h1⟩:∃ w1,w1=w.alloc (.map #[] 0):=⟨_,rfl⟩
 obtain ⟨w2,h2⟩:∃ w2,w2=w1.alloc (.map #[] 0):=⟨_,rfl⟩
 obtain ⟨w3,h3⟩:∃ w3,w3=w2.alloc (.map #[] 0):=⟨_,rfl⟩
 obtain ⟨w4,h4⟩:∃ w4,w4=w3.alloc (.map #[] 0):=⟨_,rfl⟩
 obtain ⟨w5,h5⟩:∃ w5,w5=w4.alloc (.map #[] 0):=⟨_,rfl⟩
 rw [← h1,← h2,← h3,← h4,← h5] at hw
 have s1:w1.heap.size=w.heap.size+1:=by rw [h1,World.size_alloc]
 have s2:w2.heap.size=w.heap.size+2:=by rw [h2,World.size_alloc,s1]
 have s3:w3.heap.size=w.heap.size+3:=by rw [h3,World.size_alloc,s2]
 have s4:w4.heap.size=w.heap.size+4:=by rw [h4,World.size_alloc,s3]
 have s5:w5.heap.size=w.heap.size+5:=by rw [h5,World.size_alloc,s4]
 have b1:Below w.heap.size w w1:=by rw [h1];exact below_alloc1 w _
 have b2:Below w1.heap.size w1 w2:=by rw [h2];exact below_alloc1 w1 _
 have b3:Below w2.heap.size w2 w3:=by rw [h3];exact below_alloc1 w2 _
 have b4:Below w3.heap.size w3 w4:=by rw [h4];exact below_alloc1 w3 _
 have b5:Below w4.heap.size w4 w5:=by rw [h5];exact below_alloc1 w4 _
 have b6:Below w5.heap.size w5 w':=by rw [hw];exact below_alloc1 w5 _
 have s6:w'.heap.size=w.heap.size+6:=by rw [hw,World.size_alloc,s5]
 have m1:HM w1 3 .i64 w.heap.size 0 (.pointer none) (fun _=>none):=by rw [h1];exact HM.made w _ _ _
 have m2:HM w2 32 .u64 (w.heap.size+1) 0 (.agg #[.bool false,.int .i64 0]) (fun _=>none):=by rw [h2,← s1];exact HM.made w1 _ _ _
 have m3:HM w3 32 .u64 (w.heap.size+2) 0 (.pointer none) (fun _=>none):=by rw [h3,← s2];exact HM.made w2 _ _ _
 have m4:HM w4 32 .u64 (w.heap.size+3) 0 (.int .i64 0) (fun _=>none):=by rw [h4,← s3];exact HM.made w3 _ _ _
 have m5:HM w5 32 .u64 (w.heap.size+4) 0 (.agg #[]) (fun _=>none):=by rw [h5,← s4];exact HM.made w4 _ _ _
 have ht:w'.heap[w.heap.size+5]?=some (.cells (ckc (newB w.heap.size) 0) 117 (0,0)):=by rw [hw,← s5];exact heap_new _ _
 refine ⟨⟨fun k l hl=>by have:=newF_lt hl;omega,?_,fun _=>ht,fun _=>⟨?_,?_⟩,fun _=>⟨?_,?_⟩,fun _=>⟨?_,?_⟩,fun _=>⟨?_,?_⟩,fun _=>⟨?_,?_⟩,fun _=>Rise.nil _ _,fun _=>Rise.nil _ _,fun g r hg=>(by cases hg),fun g r hg=>(by cases hg),fun c r hc=>(by cases hc)⟩,?_⟩
 ·unfold newF;simp
 ·show newF w.heap.size (w.heap.size)=some .gm
  unfold newF;simp
 ·exact ((((m1.below b2).below b3).below b4).below b5).below b6
 ·show newF w.heap.size (w.heap.size+1)=some .lm
  unfold newF;simp
 ·exact (((m2.below b3).below b4).below b5).below b6
 ·show newF w.heap.size (w.heap.size+2)=some .cm
  unfold newF;simp
 ·exact ((m3.below b4).below b5).below b6
 ·show newF w.heap.size (w.heap.size+3)=some .km
  unfold newF;simp
 ·exact (m4.below b5).below b6
 ·show newF w.heap.size (w.heap.size+4)=some .om
  unfold newF;simp
 ·exact m5.below b6
 ·exact Below.on (Below.on (Below.on (Below.on (Below.on b1 b2) b3) b4) b5) b6
end
end Go.Proofs.YtimgkhdgliojgaaGreatDoor
namespace Go.Proofs.YtimgkhdgliojgaaGreatDoor.E6
open Go.RowKit Go.Maps
theorem hide {p:Prop} (h:p):Hid p:=h
structure But (S:Nat→Prop) (w w':World):Prop where
 os:w'.os=w.os
 tape:w'.tape=w.tape
 output:w'.output=w.output
 size:w.heap.size≤w'.heap.size
 block:∀ k,k < w.heap.size→¬ S k→w'.heap[k]?=w.heap[k]?
theorem But.refl (S:Nat→Prop) (w:World):But S w w:=⟨rfl,rfl,rfl,Nat.le_refl _,fun _ _ _=>rfl⟩
theorem But.trans {S T:Nat→Prop} {a b c:World} (h:But S a b) (k:But T b c) (hT:∀ i,i < a.heap.size→T i→S i):But S a c :=
 ⟨k.os.trans h.os,k.tape.trans h.tape,k.output.trans h.output,Nat.le_trans h.size k.size,
  fun i hi hs=>(k.block i (Nat.lt_of_lt_of_le hi h.size) (fun e=>hs (hT i hi e))).trans (h.block i hi hs)⟩
theorem But.of_grown {S:Nat→Prop} {w w':World} {row:Option Nat} (hg:w.grownBy w' row) (hS:∀ k,row=some k→S k):But S w w' :=
 ⟨hg.os,hg.tape,hg.output,hg.size,fun k hk hs=>hg.block k hk (fun e=>hs (hS k e.symm))⟩
theorem But.grown {S:Nat→Prop} {w:World} {a w':World} {row:Option Nat} (h:But S a w) (hg:w.grownBy w' row) (hS:∀ k,k < a.heap.size→row=some k→S k):But S a w' :=
 h.trans (T:=fun k=>row=some k) (But.of_grown hg fun _ e=>e) hS
theorem But.alloc {S:Nat→Prop} {a w:World} (h:But S a w) (o:Obj):But S a (w.alloc o) :=
 h.trans (T:=fun _=>False) ⟨rfl,rfl,rfl,by simp,fun k hk _=>Below.heap_alloc _ _ _ hk⟩ (fun _ _ e=>e.elim)
theorem But.drew {S:Nat→Prop} {a w:World} (h:But S a w):But S a w.drew:=⟨h.os,h.tape,h.output,h.size,h.block⟩
theorem But.setCell {S:Nat→Prop} {a w:World} (h:But S a w) (p:Addr) (hp:p.block < a.heap.size→S p.block) (u:Value):But S a (w.setCell p u) :=
 h.trans (T:=fun k=>k=p.block) ⟨rfl,rfl,rfl,by simp [World.setCell],fun k _ hs=>Below.heap_setCell _ _ _ _ hs⟩ (fun i hi e=>by subst e;exact hp hi)
theorem But.below {S:Nat→Prop} {w w':World} {B:Nat} (h:But S w w') (hB:B≤w.heap.size) (hS:∀ k,S k→B≤k):Below B w w' :=
 ⟨h.os,h.tape,h.output,h.size,fun k hk=>h.block k (by omega) (fun e=>by have:=hS k e;omega)⟩
theorem But.of_below {S:Nat→Prop} {w w':World} (h:Below w.heap.size w w'):But S w w':=⟨h.os,h.tape,h.output,h.size,fun k hk _=>h.block k hk⟩
theorem But.mono {S T:Nat→Prop} {w w':World} (h:But S w w') (hT:∀ k,S k→T k):But T w w':=⟨h.os,h.tape,h.output,h.size,fun k hk hs=>h.block k hk fun e=>hs (hT k e)⟩
theorem own_but {S:Nat→Prop} {w w':World} {base:Nat} {e:TypeId} {size n:Nat} {v:Value} {xs:List Value} (h:w.ownsRow base e size v n xs) (hb:But S w w') (hv:∀ g,v.ownBlock=some g→¬ S g):w'.ownsRow base e size v n xs:=by
 obtain ⟨h1,h2⟩:=h
 refine ⟨h1,h2.imp id ?_⟩
 rintro ⟨g,cap,cur,rfl,hg,hh,r⟩
 exact ⟨g,cap,cur,rfl,hg,(hb.block g (Array.getElem?_eq_some_iff.1 hh).1 (hv g rfl)).trans hh,r⟩
theorem map_but {S:Nat→Prop} {w w':World} {H:Type} {P:Program} {k:TypeId} {R:Value→Option (DataW H × List MemPlace)} {b n:Nat} {D:DataW H} (h:w.ownsMap P k R b n D) (hb:But S w w') (hv:¬ S b):w'.ownsMap P k R b n D:=by
 obtain ⟨es,cl,hh,r⟩:=h
 exact ⟨es,cl,(hb.block b (Array.getElem?_eq_some_iff.1 hh).1 hv).trans hh,r⟩
def skey (s:ByteArray):Lit:=.string s.data.toList
theorem skey_inj {a b:ByteArray} (h:skey a=skey b):a=b:=by
 simp only [skey,Lit.string.injEq] at h
 cases a;cases b;simp only [ByteArray.mk.injEq];exact Array.toList_inj.1 h
theorem skey_key (s:ByteArray):WideAt.IsKeyLit (skey s):=by simp [skey,WideAt.IsKeyLit]
def isIn (L:List ByteArray) (s:ByteArray):Bool:=(L.map ByteArray.data).contains s.data
theorem isIn_iff {L:List ByteArray} {s:ByteArray}:isIn L s=true ↔ s ∈ L:=by
 unfold isIn
 rw [List.contains_iff_mem,List.mem_map]
 constructor
 ·rintro ⟨t,ht,e⟩
  cases t;cases s;subst e;exact ht
 ·exact fun h=>⟨s,h,rfl⟩
theorem isIn_not {L:List ByteArray} {s:ByteArray}:isIn L s=false ↔ s ∉ L:=by rw [← isIn_iff];simp
theorem isIn_snoc (L:List ByteArray) (s:ByteArray):isIn (L++[s]) s=true:=isIn_iff.2 (by simp)
theorem isIn_snoc_ne (L:List ByteArray) {s t:ByteArray} (h:t≠s):isIn (L++[s]) t=isIn L t:=by
 rw [Bool.eq_iff_iff,isIn_iff,isIn_iff];simp [h]
structure Ids (D:DataW Unit) (L:List ByteArray):Prop where
 isMap:Maps.IsMap D
 has:∀ s,Maps.has D (skey s)=isIn L s
 place:∀ (i:Nat) s,L[i]?=some s→D.atKey (skey s) (.lit (.int .i64 0))=.lit (.int .i64 (i:Int))
theorem Ids.nil:Ids (.map []) []:=⟨Maps.isMap_empty,fun s=>rfl,fun i s h=>by simp at h⟩
theorem Ids.put {D:DataW Unit} {L:List ByteArray} (h:Ids D L) {s:ByteArray} (hs:s ∉ L):Ids (D.put (skey s) (.lit (.int .i64 (L.length:Int)))) (L++[s]):=by
 refine ⟨h.isMap.put _ _,fun t=>?_,fun i t ht=>?_⟩
 ·by_cases e:t=s
  ·subst e;rw [Maps.has_put_same h.isMap (skey_key _),isIn_snoc]
  ·rw [Maps.has_put_other (fun c=>e (skey_inj c)),h.has t,isIn_snoc_ne L e]
 ·by_cases e:t=s
  ·subst e
   rw [Maps.atKey_put_same h.isMap (skey_key _)]
   by_cases hi:i < L.length
   ·rw [List.getElem?_append_left hi] at ht
    exact absurd (List.mem_of_getElem? ht) hs
   ·have:i < (L++[t]).length:=(List.getElem?_eq_some_iff.1 ht).1
    simp at this
    have:i=L.length:=by omega
    rw [this]
  ·rw [Maps.atKey_put_other (fun c=>e (skey_inj c))]
   refine h.place i t ?_
   by_cases hi:i < L.length
   ·rwa [List.getElem?_append_left hi] at ht
   ·rw [List.getElem?_append_right (by omega)] at ht
    have:=List.mem_of_getElem? ht
    simp at this
    exact absurd this e
def total (L:List ByteArray):Nat:=(L.map ByteArray.size).sum
theorem total_snoc (L:List ByteArray) (s:ByteArray):total (L++[s])=total L+s.size:=by simp [total]
structure Tab (w:World) (tb:Nat) (S:Nat→Prop) (L:List ByteArray) (v mv:Value):Prop where
 blk:w.heap[tb]?=some (.cells #[v,mv,.int .i64 (total L:Nat)] 254 (0,0))
 own:w.ownsRow 0 9 1 v L.length (L.map Value.string)
 ids:(mv=.map none∧L=[])∨∃ mb D,mv=.map (some mb)∧S mb∧w.ownsMap Tryz.prog 9 (plainElem Tryz.prog 3) mb L.length D∧Ids D L
 inS:S tb
 rowS:∀ g,v.ownBlock=some g→S g
 nodup:L.Nodup
 small:∀ s ∈ L,s.size≤65536
 len:L.length≤65536
 sum:total L≤4194304
section
variable {w : World} {tb : Nat} {S : Nat → Prop} {L : List ByteArray} {v mv : Value}
theorem Tab.kept {T:Nat→Prop} {w':World} (h:Tab w tb S L v mv) (hb:But T w w') (hd:∀ k,S k→¬ T k):Tab w' tb S L v mv :=
 ⟨(hb.block tb (Array.getElem?_eq_some_iff.1 h.blk).1 (hd _ h.inS)).trans h.blk,own_but h.own hb fun g e=>hd g (h.rowS g e),
  h.ids.imp id fun ⟨mb,D,e,hs,hm,hi⟩=>⟨mb,D,e,hs,map_but hm hb (hd _ hs),hi⟩,h.inS,h.rowS,h.nodup,h.small,h.len,h.sum⟩
theorem Tab.cell0 (h:Tab w tb S L v mv):w.cell? ⟨tb,0,none⟩=some v:=by rw [cell_of_row w tb 0 _ 254 (0,0) h.blk];rfl
theorem Tab.cell1 (h:Tab w tb S L v mv):w.cell? ⟨tb,1,none⟩=some mv:=by rw [cell_of_row w tb 1 _ 254 (0,0) h.blk];rfl
theorem Tab.cell2 (h:Tab w tb S L v mv):w.cell? ⟨tb,2,none⟩=some (.int .i64 (total L:Nat)):=by rw [cell_of_row w tb 2 _ 254 (0,0) h.blk];rfl
theorem Tab.free (h:Tab w tb S L v mv) (j:Nat):w.frozen? ⟨tb,j,none⟩=false:=frozen_of_row w tb j _ 254 h.blk
theorem Tab.lt (h:Tab w tb S L v mv):tb < w.heap.size:=(Array.getElem?_eq_some_iff.1 h.blk).1
end
theorem own_form {w:World} {base n:Nat} {e:TypeId} {size:Nat} {v:Value} {xs:List Value} (h:w.ownsRow base e size v n xs):∃ a c,v=.slice a n c:=by
 rcases h.2 with ⟨rfl,rfl⟩|⟨g,cap,cur,rfl,_⟩
 ·exact ⟨none,0,rfl⟩
 ·exact ⟨_,cap,rfl⟩
theorem law9:Keyed Tryz.prog 9:=string_keyed Tryz.underlying9
theorem zero3 (w:World):(zeroValue 3).run Tryz.prog w=.ok (.int .i64 0) w:=by kernel_rfl
theorem key9 {s:ByteArray} (h:s.size≤maxLen):keyOf Tryz.prog 9 (.string s)=some (skey s):=Go.WideMaps.keyOf_string_mk Tryz.underlying9 h
end Go.Proofs.YtimgkhdgliojgaaGreatDoor.E6
