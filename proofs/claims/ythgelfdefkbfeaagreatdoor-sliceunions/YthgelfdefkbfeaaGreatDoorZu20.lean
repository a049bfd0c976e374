import Derived.Test.YthgelfdefkbfeaaGreatDoorZu19
set_option maxRecDepth 8000
set_option maxHeartbeats 8000000
set_option linter.unusedVariables false
namespace Go.Proofs.YthgelfdefkbfeaaGreatDoor
open Go.RowKit Go.Maps
section
variable {w w' : World} {cb : Nat} {B : Bl} {F : Nat → Option Lb} {M : CS} {N : Nat} {g k o a : Int} {s : Value}
theorem setF_setF {α:Type} (f:Int→α) (x:Int) (v u:α):setF (setF f x v) x u=setF f x u:=by
 funext y
 by_cases hy:y=x
 ·subst hy;rw [setF_same,setF_same]
 ·rw [setF_other _ _ hy,setF_other _ _ hy,setF_other _ _ hy]
theorem acquireToRead_any (h:Ck w cb B F M N) (ho:EOk g o a) (hN:N≤2000000) (hok:M.ok) {r:Gor} (hg:M.gs g=some r) :
  Calls Tryz.prog 73 #[gPtr cb,.agg (evC g k o a s)] w fun e w'=>e=.returned (.tuple #[])∧CkR w cb F { M with locks:=setF M.locks o (some (false,M.times o+1)),gs:=setF M.gs g (some { r with held:=insE o ((look o r.held).getD 0+1) r.held }) } (N+1) w':=by
 obtain ⟨W,hW⟩:∃ W,W=w.alloc (.cells (evC g k o a s) 43):=⟨_,rfl⟩
 have hb:Below w.heap.size w W:=by rw [hW];exact below_alloc1 w _
 have hC:=h.below hb
 have hCd:Ck W.drew cb B F M N:=hC.below (Below.refl _ _).drew
 have hE:W.heap[w.heap.size]?=some (.cells (evC g k o a s) 43 (0,0)):=by rw [hW];exact heap_new _ _
 obtain ⟨p0,p1,p2,p3,p4⟩:=evc0 hE
 have hmax:N < maxLen:=by unfold maxLen;omega
 have HB:=hide hb
 have HW:=hide hW
 have HC:=hide hC
 have hlt:=h.clt
 have hltW:cb < W.heap.size:=hC.clt
 have hleW:w.heap.size < W.heap.size:=(Array.getElem?_eq_some_iff.1 hE).1
 have hFe:F w.heap.size=none:=by
  cases hq:F w.heap.size with
  | none=>rfl
  | some l=>have:=h.lt _ _ hq;omega
 have t1:=hC.c1
 have hlg:=fun q=>(hC.drew q).lkG1 hg ho
 have HE:=hide hE
 have HOk:=hide hok
 have HFe:=hide hFe
 have HMax:=hide hmax
 have HO:=hide ho
 clear h hb hW hmax hC hCd hE hFe hok ho
 unfold gPtr evC
 unfold evC at HW
 go_enter Tryz.func73,Tryz.ntmps73
 go_wp2_with fail
 rw [← HW.out]
 clear HW
 go_quiet (fail)
 obtain ⟨W2,hW2⟩:∃ W2,W2=W.drewN nq:=⟨_,rfl⟩
 rw [← hW2]
 have hb2:Below W.heap.size W W2:=by rw [hW2];exact below_drewN (Below.refl _ _) _
 have HB2:=hide (Below.on HB.out hb2)
 have hC2:=HC.out.below hb2
 have hE2:W2.heap[w.heap.size]?=some (.cells (evC g k o a s) 43 (0,0)):=(hb2.block _ hleW).trans HE.out
 have hle2:w.heap.size < W2.heap.size:=(Array.getElem?_eq_some_iff.1 hE2).1
 obtain ⟨p0,p1,p2,p3,p4⟩:=evc0 hE2
 clear hW2 hb2
 have hCd:=hC2.below (Below.refl _ W2).drew
 obtain ⟨w1,hup,hm1,hb1⟩:=(hCd.ml nf).2.put lawU Tryz.underlying72 HMax.out (keyU HO.out.o0 HO.out.o1) (lockV (false,M.times o+1))
 have hm1':HM w1 33 .u64 B.lm (N+1) (.agg #[.bool false,.int .i64 0]) (fun x=>(setF M.locks o (some (false,M.times o+1)) x).map lockV):=by rw [setF_map];exact hm1
 obtain ⟨hC1,hB1⟩:=hCd.setL (Nat.le_succ N) hm1' hb1
 have t3:=hC2.c3
 have hFl:=(hC2.ml nf).1
 have HSL:Hid (∀ X,But (fun k=>k=B.lm) W2 X→X.cell? ⟨cb,3,none⟩=some (.map (some B.lm))∧X.cell? ⟨w.heap.size,2,none⟩=some (.int .u64 o)):=hide (fun X hX=>⟨cell_but t3 hX (fun e=>by have e9:cb=B.lm:=e;rw [← e9,hC2.top] at hFl;cases hFl),cell_but p2 hX (fun e=>by have e9:w.heap.size=B.lm:=e;rw [← e9,HFe.out] at hFl;cases hFl)⟩)
 have HK1:Hid (But (fun k=>k=B.lm) W2 w1):=hide ((But.refl (fun k=>k=B.lm) W2).drew.trans hb1 (fun _ _ e=>e))
 have hE1:w1.heap[w.heap.size]?=some (.cells (evC g k o a s) 43 (0,0)):=(HK1.out.block _ hle2 (fun e=>by have e9:w.heap.size=B.lm:=e;rw [← e9,HFe.out] at hFl;cases hFl)).trans hE2
 have HBW:Hid (But (fun k=>F k≠none) W2.drew w1):=hide hB1
 have HC1:=hide hC1
 have HE1:=hide hE1
 have hlk:=hCd.lkL HO.out
 have htm:-1048576≤M.times o∧M.times o≤1048576:=by
  unfold CS.times
  cases hq:M.locks o with
  | none=>simp
  | some p=>have:=HOk.out.lk o p.1 p.2 hq;simpa using this
 obtain ⟨tm0,tm1⟩:=htm
 have hwt:IntKind.i64.wrap (M.times o+1)=M.times o+1:=by rw [IntKind.wrap_i64];omega
 have fl1:=fldL1
 have hup':(Instr.mapUpdate 72 (.map (some B.lm)) (.int .u64 o) (.agg #[.bool false,.int .i64 (M.times o+1)])).run Tryz.prog W2.drew=.ok () w1:=hup
 have HR1:Hid (CkR w cb F { M with locks:=setF M.locks o (some (false,M.times o+1)) } (N+1) w1):=hide (CkR.below HB2.out (CkR.below (Below.refl _ _).drew ⟨B,F,hC1,FEx.refl _ _,hB1⟩))
 clear hCd hm1 hm1' hC1 hb1 hB1 t3 hFl hE1 hE2 hC2 p0 p1 p2 p3 p4 hup
 go_wp2_with fail
 refine wp_region_noPanic ?_
 refine wp_region_held_drew (S:=fun X=>X.cell? ⟨cb,3,none⟩=some (.map (some B.lm))∧X.cell? ⟨w.heap.size,2,none⟩=some (.int .u64 o)) (by kernel_rfl) (HSL.out _ (But.refl _ _).drew) (fun hHeld=>?_)
 refine wpAnyH_take (i:=0) (oi:=_) (v:=?v0_1) rfl (by kernel_rfl) (by kernel_rfl) (by kernel_rfl) (fun _ _ _ h=>h) (Or.inl ⟨by rfl,?y0_1⟩) (by assumption) ?r0_1
 case y0_1=>(intro w' hSw;(try dsimp only at hSw);go_simp;try with_reducible rfl)
 refine wpAnyH_take (i:=1) (oi:=_) (v:=?v1_1) rfl (by kernel_rfl) (by kernel_rfl) (by kernel_rfl) (fun _ _ _ h=>h) (Or.inl ⟨by rfl,?y1_1⟩) (by assumption) ?r1_1
 case y1_1=>(intro w' hSw;(try dsimp only at hSw);go_simp;try with_reducible rfl)
 refine wpAnyH_take (i:=2) (oi:=_) (v:=?v2_1) rfl (by kernel_rfl) (by kernel_rfl) (by kernel_rfl) (fun _ _ _ h=>h) (Or.inl ⟨by rfl,?y2_1⟩) (by assumption) ?r2_1
 case y2_1=>(intro w' hSw;(try dsimp only at hSw);go_simp;try with_reducible rfl)
 refine wpAnyH_take (i:=3) (oi:=_) (v:=?v3_1) rfl (by kernel_rfl) (by kernel_rfl) (by kernel_rfl) (fun _ _ _ h=>h) (Or.inl ⟨by rfl,?y3_1⟩) (by assumption) ?r3_1
 case y3_1=>(intro w' hSw;(try dsimp only at hSw);go_simp;try with_reducible rfl)
 refine wpAnyH_take (i:=4) (oi:=_) (v:=?v4_1) rfl (by kernel_rfl) (by kernel_rfl) (by kernel_rfl) (fun _ _ _ h=>h) (Or.inl ⟨by rfl,?y4_1⟩) (by assumption) ?r4_1
 case y4_1=>(intro w' hSw;(try dsimp only at hSw);go_simp;try with_reducible rfl)
 refine wpAnyH_take (i:=5) (oi:=_) (v:=?v5_1) rfl (by kernel_rfl) (by kernel_rfl) (by kernel_rfl) (fun _ _ _ h=>h) (Or.inl ⟨by rfl,?y5_1⟩) (by assumption) ?r5_1
 case y5_1=>(intro w' hSw;(try dsimp only at hSw);go_simp;try with_reducible rfl)
 refine wpAnyH_take (i:=6) (oi:=_) (v:=?v6_1) rfl (by kernel_rfl) (by kernel_rfl) (by kernel_rfl) (fun _ _ _ h=>h) (Or.inl ⟨by rfl,?y6_1⟩) (by assumption) ?r6_1
 case y6_1=>(intro w' hSw;(try dsimp only at hSw);go_simp;try with_reducible rfl)
 refine wpAnyH_take (i:=7) (oi:=_) (v:=?v7_1) rfl (by kernel_rfl) (by kernel_rfl) (by kernel_rfl) (fun _ _ _ h=>h) (Or.inl ⟨by rfl,?y7_1⟩) (by assumption) ?r7_1
 case y7_1=>(intro w' hSw;(try dsimp only at hSw);go_simp;try with_reducible rfl)
 refine wpAnyH_take (i:=8) (oi:=_) (v:=?v8_1) rfl (by kernel_rfl) (by kernel_rfl) (by kernel_rfl) (fun _ _ _ h=>h) (Or.inl ⟨by rfl,?y8_1⟩) (by assumption) ?r8_1
 case y8_1=>(intro w' hSw;(try dsimp only at hSw);go_simp;try with_reducible rfl)
 refine wpAnyH_take (i:=9) (oi:=_) (v:=?v9_1) rfl (by kernel_rfl) (by kernel_rfl) (by kernel_rfl) (fun _ _ _ h=>h) (Or.inl ⟨by rfl,?y9_1⟩) (by assumption) ?r9_1
 case y9_1=>(intro w' hSw;(try dsimp only at hSw);go_simp;try with_reducible rfl)
 refine wpAnyH_take (i:=10) (oi:=_) (v:=?v10_1) rfl (by kernel_rfl) (by kernel_rfl) (by kernel_rfl) (fun _ _ _ h=>h) (Or.inl ⟨by rfl,?y10_1⟩) (by assumption) ?r10_1
 case y10_1=>(intro w' hSw;(try dsimp only at hSw);go_simp;try with_reducible rfl)
 refine wpAnyH_take (i:=11) (oi:=_) (v:=?v11_1) rfl (by kernel_rfl) (by kernel_rfl) (by kernel_rfl) (fun _ _ _ h=>h) (Or.inl ⟨by rfl,?y11_1⟩) (by assumption) ?r11_1
 case y11_1=>(intro w' hSw;(try dsimp only at hSw);go_simp;try with_reducible rfl)
 refine wpAnyH_ready (rs:=[12]) (by kernel_rfl) (by simp) ?_
 refine AllReadyH.cons (o:=_) rfl (fun KK hKK=>?_) AllReadyH.nil
 go_simp
 refine hKK.out _ _ (HSL.out _ (But.refl _ _).drew) (fun hHeld12=>?_)
 clear hKK KK
 refine wpAnyH_take (i:=13) (oi:=_) (v:=?v13_2) rfl (by kernel_rfl) (by kernel_rfl) (by kernel_rfl) (fun _ _ _ h=>h) (Or.inl ⟨by rfl,?y13_2⟩) (by assumption) ?r13_2
 case y13_2=>(intro w' hSw;(try dsimp only at hSw);go_simp;try with_reducible rfl)
 refine wpAnyH_take (i:=14) (oi:=_) (v:=?v14_2) rfl (by kernel_rfl) (by kernel_rfl) (by kernel_rfl) (fun _ _ _ h=>h) (Or.inl ⟨by rfl,?y14_2⟩) (by assumption) ?r14_2
 case y14_2=>(intro w' hSw;(try dsimp only at hSw);go_simp;try with_reducible rfl)
 refine wpAnyH_take (i:=15) (oi:=_) (v:=?v15_2) rfl (by kernel_rfl) (by kernel_rfl) (by kernel_rfl) (fun _ _ _ h=>h) (Or.inl ⟨by rfl,?y15_2⟩) (by assumption) ?r15_2
 case y15_2=>(intro w' hSw;(try dsimp only at hSw);go_simp;try with_reducible rfl)
 refine wpAnyH_ready (rs:=[16]) (by kernel_rfl) (by simp) ?_
 refine AllReadyH.cons (o:=_) rfl (fun KK hKK=>?_) AllReadyH.nil
 go_simp
 refine hKK.out _ _ (HSL.out _ HK1.out) (fun hHeld16=>?_)
 clear hKK KK
 refine wpAnyH_done (by kernel_rfl) ?_ _
 refine NoPanic.normal ?_
 have HGo:=hide (HC1.out.gor g r hg nf).2
 have hv0:0≤(look o r.held).getD 0∧(look o r.held).getD 0≤1048576:=by
  cases hq:look o r.held with
  | none=>simp
  | some u=>have:=(HOk.out.gor g r hg).2.2.2.2 _ (look_mem hq);simp at this ⊢;omega
 obtain ⟨v00,v01⟩:=hv0
 have HGet:=hide (fun (X:World) (hX:Below w1.heap.size w1 X)=>rise_get (rb:=B.gb g) (ro:=0) (k:=o) (cell_at (v:=B.gv g) ((HC1.out.below hX).gor g r hg nf).2 rfl) ((HC1.out.below hX).he g r hg nf))
 have HPut:=hide (fun (X:World) (hX:Below w1.heap.size w1 X)=>rise_put (rb:=B.gb g) (ro:=0) (k:=o) (x:=(look o r.held).getD 0+1) ((HC1.out.below hX).gor g r hg nf).2 rfl ((HC1.out.below hX).he g r hg nf) ((HC1.out.below hX).goP hg) (by have:=(HOk.out.gor g r hg).2.2.2.1;have:=HOk.out.tk;omega))
 have hl1:w.heap.size < w1.heap.size:=(Array.getElem?_eq_some_iff.1 HE1.out).1
 have hgb:=(HC1.out.gor g r hg nf).1
 have hne:w.heap.size≠B.gb g:=fun e=>by rw [← e,HFe.out] at hgb;cases hgb
 have HS3:Hid (∀ X,But (HeS F B g) w1 X→X.cell? ⟨w.heap.size,2,none⟩=some (.int .u64 o)):=hide (fun X hX=>cell_but (evc0 HE1.out).2.2.1 hX (fun e=>by
  rcases e with e|e
  ·have e9:F w.heap.size=some (.he g):=e
   rw [HFe.out] at e9;cases e9
  ·exact hne e))
 clear hgb hne hHeld hHeld12 hHeld16 hlk hup' HSL
 generalize hv:(look o r.held).getD 0=v0 at *
 have hwv:IntKind.u64.wrap (v0+1)=v0+1:=by rw [IntKind.wrap_u64];omega
 have HV:=hide hv
 clear hv
 go_wp2_with fail
 go_region_held3 (fun X=>X.cell? ⟨w.heap.size,2,none⟩=some (.int .u64 o))
  (first|with_reducible exact HS3.out _ (But.refl _ _)|with_reducible exact HS3.out _ (But.refl _ _).drew|with_reducible exact HS3.out _ HK3.out|with_reducible exact HS3.out _ HK2.out)
  (first
   | (go_at_call 63;go_must (refine (HPut.out _ HB5.out).mono ?_;rintro e w6 ⟨rfl,hrp⟩;have HRP:=hide hrp;have HK3:Hid (But (HeS F B g) w1 w6):=hide ((But.of_below (S:=HeS F B g) HB5.out).trans hrp.choose_spec.2.2 (fun _ _ e=>e));clear hrp))
   | (go_at_call 132;go_must (refine (HGet.out _ ((Below.refl _ _).drew)).mono ?_;rintro e w5 ⟨rfl,hb5⟩;have HB5:=hide (Below.on (Below.refl w1.heap.size w1).drew hb5);have HK2:Hid (But (HeS F B g) w1 w5):=hide (But.of_below HB5.out);clear hb5)))
 go_wp2
 go_end0
 exact ⟨rfl,CkR.below HB2.out (CkR.below (Below.refl _ _).drew (CkR.trans (FEx.refl _ _) HBW.out (CkR.below HB5.out ((HC1.out.below HB5.out).setH hg (by rw [HV.out];exact HRP.out)))))⟩
theorem releaseToRead_any (h:Ck w cb B F M N) (ho:EOk g o a) (hN:N≤2000000) (hok:M.ok) {r:Gor} (hg:M.gs g=some r) {u:Int} (hl:look o r.held=some u) :
  Calls Tryz.prog 75 #[gPtr cb,.agg (evC g k o a s)] w fun e w'=>e=.returned (.tuple #[])∧CkR w cb F { M with locks:=rdLocks M o (M.times o - 1),gs:=setF M.gs g (some { r with held:=if (look o r.held).getD 0 - 1=0 then delE o r.held else insE o ((look o r.held).getD 0 - 1) r.held }) } (N+1) w':=by
 obtain ⟨W,hW⟩:∃ W,W=w.alloc (.cells (evC g k o a s) 43):=⟨_,rfl⟩
 have hb:Below w.heap.size w W:=by rw [hW];exact below_alloc1 w _
 have hC:=h.below hb
 have hCd:Ck W.drew cb B F M N:=hC.below (Below.refl _ _).drew
 have hE:W.heap[w.heap.size]?=some (.cells (evC g k o a s) 43 (0,0)):=by rw [hW];exact heap_new _ _
 obtain ⟨p0,p1,p2,p3,p4⟩:=evc0 hE
 have hmax:N < maxLen:=by unfold maxLen;omega
 have HB:=hide hb
 have HW:=hide hW
 have HC:=hide hC
 have hlt:=h.clt
 have hltW:cb < W.heap.size:=hC.clt
 have hleW:w.heap.size < W.heap.size:=(Array.getElem?_eq_some_iff.1 hE).1
 have hFe:F w.heap.size=none:=by
  cases hq:F w.heap.size with
  | none=>rfl
  | some l=>have:=h.lt _ _ hq;omega
 have t1:=hC.c1
 have hlg:=fun q=>(hC.drew q).lkG1 hg ho
 have HE:=hide hE
 have HOk:=hide hok
 have HFe:=hide hFe
 have HMax:=hide hmax
 have HL:=hide hl
 have hu:=(hok.gor g r hg).2.2.2.2 _ (look_mem hl)
 obtain ⟨hu1,hu2⟩:=hu
 dsimp only at hu1 hu2
 obtain ⟨L2,hL2⟩:∃ L2,L2=(if (look o r.held).getD 0 - 1=0 then delE o r.held else insE o ((look o r.held).getD 0 - 1) r.held):=⟨_,rfl⟩
 rw [← hL2]
 rw [hl] at hL2
 dsimp only [Option.getD_some] at hL2
 have HL2:=hide hL2
 have HO:=hide ho
 clear h hb hW hmax hC hCd hE hFe hok ho hl hL2
 unfold gPtr evC
 unfold evC at HW
 go_enter Tryz.func75,Tryz.ntmps75
 go_wp2_with fail
 rw [← HW.out]
 clear HW
 go_quiet (fail)
 obtain ⟨W2,hW2⟩:∃ W2,W2=W.drewN nq:=⟨_,rfl⟩
 rw [← hW2]
 have hb2:Below W.heap.size W W2:=by rw [hW2];exact below_drewN (Below.refl _ _) _
 have HB2:=hide (Below.on HB.out hb2)
 have hC2:=HC.out.below hb2
 have hE2:W2.heap[w.heap.size]?=some (.cells (evC g k o a s) 43 (0,0)):=(hb2.block _ hleW).trans HE.out
 have hle2:w.heap.size < W2.heap.size:=(Array.getElem?_eq_some_iff.1 hE2).1
 obtain ⟨p0,p1,p2,p3,p4⟩:=evc0 hE2
 clear hW2 hb2
 have hCd:=hC2.below (Below.refl _ W2).drew
 obtain ⟨w1,hup,hm1,hb1⟩:=(hCd.ml nf).2.put lawU Tryz.underlying72 HMax.out (keyU HO.out.o0 HO.out.o1) (lockV (false,M.times o - 1))
 have hm1':HM w1 33 .u64 B.lm (N+1) (.agg #[.bool false,.int .i64 0]) (fun x=>(setF M.locks o (some (false,M.times o - 1)) x).map lockV):=by rw [setF_map];exact hm1
 obtain ⟨hC1,hB1⟩:=hCd.setL (Nat.le_succ N) hm1' hb1
 have t3:=hC2.c3
 have hFl:=(hC2.ml nf).1
 have HSL:Hid (∀ X,But (fun k=>k=B.lm) W2 X→X.cell? ⟨cb,3,none⟩=some (.map (some B.lm))∧X.cell? ⟨w.heap.size,2,none⟩=some (.int .u64 o)):=hide (fun X hX=>⟨cell_but t3 hX (fun e=>by have e9:cb=B.lm:=e;rw [← e9,hC2.top] at hFl;cases hFl),cell_but p2 hX (fun e=>by have e9:w.heap.size=B.lm:=e;rw [← e9,HFe.out] at hFl;cases hFl)⟩)
 have HK1:Hid (But (fun k=>k=B.lm) W2 w1):=hide ((But.refl (fun k=>k=B.lm) W2).drew.trans hb1 (fun _ _ e=>e))
 have hE1:w1.heap[w.heap.size]?=some (.cells (evC g k o a s) 43 (0,0)):=(HK1.out.block _ hle2 (fun e=>by have e9:w.heap.size=B.lm:=e;rw [← e9,HFe.out] at hFl;cases hFl)).trans hE2
 have HBW:Hid (But (fun k=>F k≠none) W2.drew w1):=hide hB1
 have HC1:=hide hC1
 have HE1:=hide hE1
 have hlk:=hCd.lkL HO.out
 have htm:-1048576≤M.times o∧M.times o≤1048576:=by
  unfold CS.times
  cases hq:M.locks o with
  | none=>simp
  | some p=>have:=HOk.out.lk o p.1 p.2 hq;simpa using this
 obtain ⟨tm0,tm1⟩:=htm
 have hwt:IntKind.i64.wrap (M.times o - 1)=M.times o - 1:=by rw [IntKind.wrap_i64];omega
 have fl1:=fldL1
 have hup':(Instr.mapUpdate 72 (.map (some B.lm)) (.int .u64 o) (.agg #[.bool false,.int .i64 (M.times o - 1)])).run Tryz.prog W2.drew=.ok () w1:=hup
 have HR1:Hid (CkR w cb F { M with locks:=setF M.locks o (some (false,M.times o - 1)) } (N+1) w1):=hide (CkR.below HB2.out (CkR.below (Below.refl _ _).drew ⟨B,F,hC1,FEx.refl _ _,hB1⟩))
 clear hCd hm1 hm1' hC1 hb1 hB1 t3 hFl hE1 hE2 hC2 p0 p1 p2 p3 p4 hup
 go_wp2_with fail
 refine wp_region_noPanic ?_
 refine wp_region_held_drew (S:=fun X=>X.cell? ⟨cb,3,none⟩=some (.map (some B.lm))∧X.cell? ⟨w.heap.size,2,none⟩=some (.int .u64 o)) (by kernel_rfl) (HSL.out _ (But.refl _ _).drew) (fun hHeld=>?_)
 refine wpAnyH_take (i:=0) (oi:=_) (v:=?v0_4) rfl (by kernel_rfl) (by kernel_rfl) (by kernel_rfl) (fun _ _ _ h=>h) (Or.inl ⟨by rfl,?y0_4⟩) (by assumption) ?r0_4
 case y0_4=>(intro w' hSw;(try dsimp only at hSw);go_simp;try with_reducible rfl)
 refine wpAnyH_take (i:=1) (oi:=_) (v:=?v1_4) rfl (by kernel_rfl) (by kernel_rfl) (by kernel_rfl) (fun _ _ _ h=>h) (Or.inl ⟨by rfl,?y1_4⟩) (by assumption) ?r1_4
 case y1_4=>(intro w' hSw;(try dsimp only at hSw);go_simp;try with_reducible rfl)
 refine wpAnyH_take (i:=2) (oi:=_) (v:=?v2_4) rfl (by kernel_rfl) (by kernel_rfl) (by kernel_rfl) (fun _ _ _ h=>h) (Or.inl ⟨by rfl,?y2_4⟩) (by assumption) ?r2_4
 case y2_4=>(intro w' hSw;(try dsimp only at hSw);go_simp;try with_reducible rfl)
 refine wpAnyH_take (i:=3) (oi:=_) (v:=?v3_4) rfl (by kernel_rfl) (by kernel_rfl) (by kernel_rfl) (fun _ _ _ h=>h) (Or.inl ⟨by rfl,?y3_4⟩) (by assumption) ?r3_4
 case y3_4=>(intro w' hSw;(try dsimp only at hSw);go_simp;try with_reducible rfl)
 refine wpAnyH_take (i:=4) (oi:=_) (v:=?v4_4) rfl (by kernel_rfl) (by kernel_rfl) (by kernel_rfl) (fun _ _ _ h=>h) (Or.inl ⟨by rfl,?y4_4⟩) (by assumption) ?r4_4
 case y4_4=>(intro w' hSw;(try dsimp only at hSw);go_simp;try with_reducible rfl)
 refine wpAnyH_take (i:=5) (oi:=_) (v:=?v5_4) rfl (by kernel_rfl) (by kernel_rfl) (by kernel_rfl) (fun _ _ _ h=>h) (Or.inl ⟨by rfl,?y5_4⟩) (by assumption) ?r5_4
 case y5_4=>(intro w' hSw;(try dsimp only at hSw);go_simp;try with_reducible rfl)
 refine wpAnyH_take (i:=6) (oi:=_) (v:=?v6_4) rfl (by kernel_rfl) (by kernel_rfl) (by kernel_rfl) (fun _ _ _ h=>h) (Or.inl ⟨by rfl,?y6_4⟩) (by assumption) ?r6_4
 case y6_4=>(intro w' hSw;(try dsimp only at hSw);go_simp;try with_reducible rfl)
 refine wpAnyH_take (i:=7) (oi:=_) (v:=?v7_4) rfl (by kernel_rfl) (by kernel_rfl) (by kernel_rfl) (fun _ _ _ h=>h) (Or.inl ⟨by rfl,?y7_4⟩) (by assumption) ?r7_4
 case y7_4=>(intro w' hSw;(try dsimp only at hSw);go_simp;try with_reducible rfl)
 refine wpAnyH_take (i:=8) (oi:=_) (v:=?v8_4) rfl (by kernel_rfl) (by kernel_rfl) (by kernel_rfl) (fun _ _ _ h=>h) (Or.inl ⟨by rfl,?y8_4⟩) (by assumption) ?r8_4
 case y8_4=>(intro w' hSw;(try dsimp only at hSw);go_simp;try with_reducible rfl)
 refine wpAnyH_take (i:=9) (oi:=_) (v:=?v9_4) rfl (by kernel_rfl) (by kernel_rfl) (by kernel_rfl) (fun _ _ _ h=>h) (Or.inl ⟨by rfl,?y9_4⟩) (by assumption) ?r9_4
 case y9_4=>(intro w' hSw;(try dsimp only at hSw);go_simp;try with_reducible rfl)
 refine wpAnyH_take (i:=10) (oi:=_) (v:=?v10_4) rfl (by kernel_rfl) (by kernel_rfl) (by kernel_rfl) (fun _ _ _ h=>h) (Or.inl ⟨by rfl,?y10_4⟩) (by assumption) ?r10_4
 case y10_4=>(intro w' hSw;(try dsimp only at hSw);go_simp;try with_reducible rfl)
 refine wpAnyH_take (i:=11) (oi:=_) (v:=?v11_4) rfl (by kernel_rfl) (by kernel_rfl) (by kernel_rfl) (fun _ _ _ h=>h) (Or.inl ⟨by rfl,?y11_4⟩) (by assumption) ?r11_4
 case y11_4=>(intro w' hSw;(try dsimp only at hSw);go_simp;try with_reducible rfl)
 refine wpAnyH_ready (rs:=[12]) (by kernel_rfl) (by simp) ?_
 refine AllReadyH.cons (o:=_) rfl (fun KK hKK=>?_) AllReadyH.nil
 go_simp
 refine hKK.out _ _ (HSL.out _ (But.refl _ _).drew) (fun hHeld12=>?_)
 clear hKK KK
 refine wpAnyH_take (i:=13) (oi:=_) (v:=?v13_5) rfl (by kernel_rfl) (by kernel_rfl) (by kernel_rfl) (fun _ _ _ h=>h) (Or.inl ⟨by rfl,?y13_5⟩) (by assumption) ?r13_5
 case y13_5=>(intro w' hSw;(try dsimp only at hSw);go_simp;try with_reducible rfl)
 refine wpAnyH_take (i:=14) (oi:=_) (v:=?v14_5) rfl (by kernel_rfl) (by kernel_rfl) (by kernel_rfl) (fun _ _ _ h=>h) (Or.inl ⟨by rfl,?y14_5⟩) (by assumption) ?r14_5
 case y14_5=>(intro w' hSw;(try dsimp only at hSw);go_simp;try with_reducible rfl)
 refine wpAnyH_take (i:=15) (oi:=_) (v:=?v15_5) rfl (by kernel_rfl) (by kernel_rfl) (by kernel_rfl) (fun _ _ _ h=>h) (Or.inl ⟨by rfl,?y15_5⟩) (by assumption) ?r15_5
 case y15_5=>(intro w' hSw;(try dsimp only at hSw);go_simp;try with_reducible rfl)
 refine wpAnyH_ready (rs:=[16]) (by kernel_rfl) (by simp) ?_
 refine AllReadyH.cons (o:=_) rfl (fun KK hKK=>?_) AllReadyH.nil
 go_simp
 refine hKK.out _ _ (HSL.out _ HK1.out) (fun hHeld16=>?_)
 clear hKK KK
 refine wpAnyH_done (by kernel_rfl) ?_ _
 refine NoPanic.normal ?_
 clear hHeld hHeld12 hHeld16 hlk hup' HSL
 have hC1:=HC1.out
 have hl1':=fun q=>(hC1.drew q).lkL HO.out
 have etw:({ M with locks:=setF M.locks o (some (false,M.times o - 1)) }:CS).toWrite o=false:=by unfold CS.toWrite;dsimp only;rw [setF_same];rfl
 have etm:({ M with locks:=setF M.locks o (some (false,M.times o - 1)) }:CS).times o=M.times o - 1:=by unfold CS.times;dsimp only;rw [setF_same];rfl
 rw [etw,etm] at hl1'
 have u3:=hC1.c3
 obtain ⟨e0,e1,e2,e3,e4⟩:=evc0 HE1.out
 have hle1:w.heap.size < w1.heap.size:=(Array.getElem?_eq_some_iff.1 HE1.out).1
 clear etw etm hC1
 go_wp2_with fail
 go_quiet (fail)
 obtain ⟨wy,hwy⟩:∃ wy,wy=w1.drewN nq:=⟨_,rfl⟩
 rw [← hwy]
 have hby:Below w1.heap.size w1 wy:=by rw [hwy];exact below_drewN (Below.refl _ _) _
 have hCy:=HC1.out.below hby
 have HEy:=hide ((hby.block _ hle1).trans HE1.out)
 have HRy:Hid (∀ M2 w2,CkR wy cb F M2 (N+1) w2→CkR w cb F M2 (N+1) w2):=hide (fun M2 w2 h9=>CkR.below HB2.out (CkR.below (Below.refl _ _).drew (CkR.trans (FEx.refl _ _) HBW.out (CkR.below hby h9))))
 clear hwy hby hl1' u3 e0 e1 e2 e3 e4 HR1 HBW HK1 HC1
 by_cases ht:M.times o - 1=0
 ·have hb1:(M.times o - 1 == 0)=true:=by rw [beq_iff_eq];exact ht
  have hb2:(M.times o == 1)=true:=by rw [beq_iff_eq];omega
  have HT:Hid (setF M.locks o none=rdLocks M o (M.times o - 1)):=hide (by unfold rdLocks;rw [if_pos ht])
  have hCyd:=hCy.below (Below.refl _ wy).drew
  obtain ⟨wz,hdel,hmz,hbz⟩:=(hCyd.ml nf).2.del lawU Tryz.underlying72 (keyU HO.out.o0 HO.out.o1) 0
  have hmz':HM wz 33 .u64 B.lm (N+1) (.agg #[.bool false,.int .i64 0]) (fun x=>(setF M.locks o none x).map lockV):=by
   have h9:=hmz
   unfold fL at h9
   dsimp only at h9
   rw [setF_map,setF_setF] at h9
   rw [setF_map];exact h9
  obtain ⟨hCz0,hBz⟩:=hCyd.setL (Nat.le_refl (N+1)) hmz' hbz
  rw [HT.out] at hCz0
  have HCz:Hid (Ck wz cb B F { M with locks:=rdLocks M o (M.times o - 1) } (N+1)):=hide hCz0
  have hFl:=(hCy.ml nf).1
  have t3:=hCy.c3
  obtain ⟨p0,p1,p2,p3,p4⟩:=evc0 HEy.out
  have hley:w.heap.size < wy.heap.size:=(Array.getElem?_eq_some_iff.1 HEy.out).1
  have nlb:w.heap.size≠B.lm:=fun e=>by rw [← e,HFe.out] at hFl;cases hFl
  have HSL:Hid (∀ X,But (fun k=>k=B.lm) wy X→X.cell? ⟨cb,3,none⟩=some (.map (some B.lm))∧X.cell? ⟨w.heap.size,2,none⟩=some (.int .u64 o)):=hide (fun X hX=>⟨cell_but t3 hX (fun e=>by have e9:cb=B.lm:=e;rw [← e9,hCy.top] at hFl;cases hFl),cell_but p2 hX nlb⟩)
  have HK1:Hid (But (fun k=>k=B.lm) wy wz):=hide ((But.refl (fun k=>k=B.lm) wy).drew.trans hbz (fun _ _ e=>e))
  have HEz:=hide ((HK1.out.block _ hley nlb).trans HEy.out)
  have HFin:Hid (∀ M2 w2,CkR wz cb F M2 (N+1) w2→CkR w cb F M2 (N+1) w2):=hide (fun M2 w2 h9=>HRy.out M2 w2 (CkR.below (Below.refl _ _).drew (CkR.trans (FEx.refl _ _) hBz h9)))
  clear hCyd hmz hmz' hbz hCz0 hBz hFl t3 p0 p1 p2 p3 p4 nlb ht hCy
  go_wp2_with fail
  go_region_held3 (fun X=>X.cell? ⟨cb,3,none⟩=some (.map (some B.lm))∧X.cell? ⟨w.heap.size,2,none⟩=some (.int .u64 o))
   (first|with_reducible exact HSL.out _ (But.refl _ _)|with_reducible exact HSL.out _ (But.refl _ _).drew|with_reducible exact HSL.out _ HK1.out)
   (fail)
  clear HSL hdel HK1 HEy HRy hb1 hb2
  have hl1:w.heap.size < wz.heap.size:=(Array.getElem?_eq_some_iff.1 HEz.out).1
  have hgb:=(HCz.out.gor g r hg nf).1
  have hne:w.heap.size≠B.gb g:=fun e=>by rw [← e,HFe.out] at hgb;cases hgb
  have HS3:Hid (∀ X,But (HeS F B g) wz X→X.cell? ⟨w.heap.size,2,none⟩=some (.int .u64 o)):=hide (fun X hX=>cell_but (evc0 HEz.out).2.2.1 hX (fun e=>by
   rcases e with e|e
   ·have e9:F w.heap.size=some (.he g):=e
    rw [HFe.out] at e9;cases e9
   ·exact hne e))
  have HGet:=hide (fun (X:World) (hX:Below wz.heap.size wz X)=>rise_get (rb:=B.gb g) (ro:=0) (k:=o) (cell_at (v:=B.gv g) ((HCz.out.below hX).gor g r hg nf).2 rfl) ((HCz.out.below hX).he g r hg nf))
  rw [HL.out] at HGet
  dsimp only [Option.getD_some] at HGet
  have HPut:=hide (fun (X:World) (hX:Below wz.heap.size wz X)=>rise_put (rb:=B.gb g) (ro:=0) (k:=o) (x:=u - 1) ((HCz.out.below hX).gor g r hg nf).2 rfl ((HCz.out.below hX).he g r hg nf) ((HCz.out.below hX).goP hg) (by have:=(HOk.out.gor g r hg).2.2.2.1;have:=HOk.out.tk;omega))
  clear hgb hne
  have hwv:IntKind.u64.wrap (u - 1)=u - 1:=by rw [IntKind.wrap_u64];omega
  go_wp2_with fail
  go_region_held3 (fun X=>X.cell? ⟨w.heap.size,2,none⟩=some (.int .u64 o))
   (first|with_reducible exact HS3.out _ (But.refl _ _)|with_reducible exact HS3.out _ (But.refl _ _).drew|with_reducible exact HS3.out _ HK3.out|with_reducible exact HS3.out _ HK2.out)
   (first
    | (go_at_call 63;go_must (refine (HPut.out _ HB5.out).mono ?_;rintro e w6 ⟨rfl,hrp⟩;have HRP:=hide hrp;have HK3:Hid (But (HeS F B g) wz w6):=hide ((But.of_below (S:=HeS F B g) HB5.out).trans hrp.choose_spec.2.2 (fun _ _ e=>e));clear hrp))
    | (go_at_call 132;go_must (refine (HGet.out _ ((Below.refl _ _).drew)).mono ?_;rintro e w5 ⟨rfl,hb5⟩;have HB5:=hide (Below.on (Below.refl wz.heap.size wz).drew hb5);have HK2:Hid (But (HeS F B g) wz w5):=hide (But.of_below HB5.out);clear hb5)))
  obtain ⟨v6,k1,k2,k3⟩:=(HCz.out.below HB5.out).setHe hg HRP.out
  have hg6:(setF M.gs g (some { r with held:=insE o (u - 1) r.held })) g=some { r with held:=insE o (u - 1) r.held }:=setF_same _ _ _
  have q2:w6.cell? ⟨w.heap.size,2,none⟩=some (.int .u64 o):=HS3.out _ HK3.out
  have HGet2:=hide (rise_get (rb:=B.gb g) (ro:=0) (k:=o) (cell_at (v:=(setF B.gv g v6) g) (k1.gor g _ hg6 nf).2 rfl) (k1.he g _ hg6 nf))
  have hlk2:look o (insE o (u - 1) r.held)=some (u - 1):=by rw [look_insE,if_pos rfl]
  rw [hlk2] at HGet2
  dsimp only [Option.getD_some] at HGet2
  have HRem:=hide (fun (X:World) (hX:Below w6.heap.size w6 X)=>rise_remove (rb:=B.gb g) (ro:=0) (k:=o) ((k1.below hX).gor g _ hg6 nf).2 rfl ((k1.below hX).he g _ hg6 nf) ((k1.below hX).goP hg6) (by show ((insE o (u - 1) r.held).length:Int)+1≤2000000;have:=insE_len o (u - 1) r.held;have:=(HOk.out.gor g r hg).2.2.2.1;have:=HOk.out.tk;omega) hlk2)
  have HC6:=hide k1
  have HEE:=hide (And.intro k2 k3)
  have hw6:w.heap.size < w6.heap.size:=World.block_lt_of_cell? w6 _ q2
  have HRis:=hide ((HCz.out.he g r hg nf).ris)
  clear HS3 HGet HPut k1 k2 k3
  go_wp2_with fail
  refine HGet2.out.mono ?_
  rintro e w7 ⟨rfl,hb7⟩
  have HB7:=hide hb7
  have q7:w7.cell? ⟨w.heap.size,2,none⟩=some (.int .u64 o):=(hb7.cell (p:=⟨w.heap.size,2,none⟩) hw6).trans q2
  clear hb7 HGet2 q2
  by_cases hz:u - 1=0
  ·have HZ:=hide hz
   have hzb:(u - 1 == 0)=true:=by rw [beq_iff_eq];exact hz
   have hzb2:(u == 1)=true:=by rw [beq_iff_eq];omega
   go_wp2_with fail
   refine (HRem.out _ HB7.out).mono ?_
   rintro e w8 ⟨rfl,hrp8⟩
   have HR8:=hide ((HC6.out.below HB7.out).setH hg6 hrp8)
   clear hrp8 HRem
   go_wp2
   go_end0
   refine ⟨rfl,HFin.out _ _ (CkR.below HB5.out (CkR.trans HEE.out.1 HEE.out.2 (CkR.below HB7.out ?_)))⟩
   have h9:=HR8.out
   rw [delE_insE HRis.out,setF_setF] at h9
   rw [HL2.out,if_pos HZ.out]
   exact h9
  ·have HZ:=hide hz
   have hzb:(u - 1 == 0)=false:=by rw [beq_eq_false_iff_ne];exact hz
   have hzb2:(u == 1)=false:=by rw [beq_eq_false_iff_ne];omega
   clear HRem
   go_wp2
   go_end0
   refine ⟨rfl,HFin.out _ _ (CkR.below HB5.out (CkR.trans HEE.out.1 HEE.out.2 (CkR.below HB7.out ?_)))⟩
   rw [HL2.out,if_neg HZ.out]
   exact CkR.of (HC6.out.below HB7.out)
 ·have hb1:(M.times o - 1 == 0)=false:=by rw [beq_eq_false_iff_ne];exact ht
  have hb2:(M.times o == 1)=false:=by rw [beq_eq_false_iff_ne];omega
  have HT:Hid (setF M.locks o (some (false,M.times o - 1))=rdLocks M o (M.times o - 1)):=hide (by unfold rdLocks;rw [if_neg ht])
  rw [HT.out] at hCy
  obtain ⟨wz,hwz⟩:∃ wz,wz=wy:=⟨_,rfl⟩
  rw [← hwz] at hCy HEy HRy ⊢
  have HCz:Hid (Ck wz cb B F { M with locks:=rdLocks M o (M.times o - 1) } (N+1)):=hide hCy
  have HEz:=HEy
  have HFin:=HRy
  clear hwz hCy HEy HRy ht
  have hl1:w.heap.size < wz.heap.size:=(Array.getElem?_eq_some_iff.1 HEz.out).1
  have hgb:=(HCz.out.gor g r hg nf).1
  have hne:w.heap.size≠B.gb g:=fun e=>by rw [← e,HFe.out] at hgb;cases hgb
  have HS3:Hid (∀ X,But (HeS F B g) wz X→X.cell? ⟨w.heap.size,2,none⟩=some (.int .u64 o)):=hide (fun X hX=>cell_but (evc0 HEz.out).2.2.1 hX (fun e=>by
   rcases e with e|e
   ·have e9:F w.heap.size=some (.he g):=e
    rw [HFe.out] at e9;cases e9
   ·exact hne e))
  have HGet:=hide (fun (X:World) (hX:Below wz.heap.size wz X)=>rise_get (rb:=B.gb g) (ro:=0) (k:=o) (cell_at (v:=B.gv g) ((HCz.out.below hX).gor g r hg nf).2 rfl) ((HCz.out.below hX).he g r hg nf))
  rw [HL.out] at HGet
  dsimp only [Option.getD_some] at HGet
  have HPut:=hide (fun (X:World) (hX:Below wz.heap.size wz X)=>rise_put (rb:=B.gb g) (ro:=0) (k:=o) (x:=u - 1) ((HCz.out.below hX).gor g r hg nf).2 rfl ((HCz.out.below hX).he g r hg nf) ((HCz.out.below hX).goP hg) (by have:=(HOk.out.gor g r hg).2.2.2.1;have:=HOk.out.tk;omega))
  clear hgb hne
  have hwv:IntKind.u64.wrap (u - 1)=u - 1:=by rw [IntKind.wrap_u64];omega
  go_wp2_with fail
  go_region_held3 (fun X=>X.cell? ⟨w.heap.size,2,none⟩=some (.int .u64 o))
   (first|with_reducible exact HS3.out _ (But.refl _ _)|with_reducible exact HS3.out _ (But.refl _ _).drew|with_reducible exact HS3.out _ HK3.out|with_reducible exact HS3.out _ HK2.out)
   (first
    | (go_at_call 63;go_must (refine (HPut.out _ HB5.out).mono ?_;rintro e w6 ⟨rfl,hrp⟩;have HRP:=hide hrp;have HK3:Hid (But (HeS F B g) wz w6):=hide ((But.of_below (S:=HeS F B g) HB5.out).trans hrp.choose_spec.2.2 (fun _ _ e=>e));clear hrp))
    | (go_at_call 132;go_must (refine (HGet.out _ ((Below.refl _ _).drew)).mono ?_;rintro e w5 ⟨rfl,hb5⟩;have HB5:=hide (Below.on (Below.refl wz.heap.size wz).drew hb5);have HK2:Hid (But (HeS F B g) wz w5):=hide (But.of_below HB5.out);clear hb5)))
  obtain ⟨v6,k1,k2,k3⟩:=(HCz.out.below HB5.out).setHe hg HRP.out
  have hg6:(setF M.gs g (some { r with held:=insE o (u - 1) r.held })) g=some { r with held:=insE o (u - 1) r.held }:=setF_same _ _ _
  have q2:w6.cell? ⟨w.heap.size,2,none⟩=some (.int .u64 o):=HS3.out _ HK3.out
  have HGet2:=hide (rise_get (rb:=B.gb g) (ro:=0) (k:=o) (cell_at (v:=(setF B.gv g v6) g) (k1.gor g _ hg6 nf).2 rfl) (k1.he g _ hg6 nf))
  have hlk2:look o (insE o (u - 1) r.held)=some (u - 1):=by rw [look_insE,if_pos rfl]
  rw [hlk2] at HGet2
  dsimp only [Option.getD_some] at HGet2
  have HRem:=hide (fun (X:World) (hX:Below w6.heap.size w6 X)=>rise_remove (rb:=B.gb g) (ro:=0) (k:=o) ((k1.below hX).gor g _ hg6 nf).2 rfl ((k1.below hX).he g _ hg6 nf) ((k1.below hX).goP hg6) (by show ((insE o (u - 1) r.held).length:Int)+1≤2000000;have:=insE_len o (u - 1) r.held;have:=(HOk.out.gor g r hg).2.2.2.1;have:=HOk.out.tk;omega) hlk2)
  have HC6:=hide k1
  have HEE:=hide (And.intro k2 k3)
  have hw6:w.heap.size < w6.heap.size:=World.block_lt_of_cell? w6 _ q2
  have HRis:=hide ((HCz.out.he g r hg nf).ris)
  clear HS3 HGet HPut k1 k2 k3
  go_wp2_with fail
  refine HGet2.out.mono ?_
  rintro e w7 ⟨rfl,hb7⟩
  have HB7:=hide hb7
  have q7:w7.cell? ⟨w.heap.size,2,none⟩=some (.int .u64 o):=(hb7.cell (p:=⟨w.heap.size,2,none⟩) hw6).trans q2
  clear hb7 HGet2 q2
  by_cases hz:u - 1=0
  ·have HZ:=hide hz
   have hzb:(u - 1 == 0)=true:=by rw [beq_iff_eq];exact hz
   have hzb2:(u == 1)=true:=by rw [beq_iff_eq];omega
   go_wp2_with fail
   refine (HRem.out _ HB7.out).mono ?_
   rintro e w8 ⟨rfl,hrp8⟩
   have HR8:=hide ((HC6.out.below HB7.out).setH hg6 hrp8)
   clear hrp8 HRem
   go_wp2
   go_end0
   refine ⟨rfl,HFin.out _ _ (CkR.below HB5.out (CkR.trans HEE.out.1 HEE.out.2 (CkR.below HB7.out ?_)))⟩
   have h9:=HR8.out
   rw [delE_insE HRis.out,setF_setF] at h9
   rw [HL2.out,if_pos HZ.out]
   exact h9
  ·have HZ:=hide hz
   have hzb:(u - 1 == 0)=false:=by rw [beq_eq_false_iff_ne];exact hz
   have hzb2:(u == 1)=false:=by rw [beq_eq_false_iff_ne];omega
   clear HRem
   go_wp2
   go_end0
   refine ⟨rfl,HFin.out _ _ (CkR.below HB5.out (CkR.trans HEE.out.1 HEE.out.2 (CkR.below HB7.out ?_)))⟩
   rw [HL2.out,if_neg HZ.out]
   exact CkR.of (HC6.out.below HB7.out)
end
end Go.Proofs.YthgelfdefkbfeaaGreatDoor
