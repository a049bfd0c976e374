import Derived.Test.YthgelfdefkbfeaaGreatDoorZu14
import Derived.Test.YthgelfdefkbfeaaGreatDoorZu08
import Derived.Maps.OwnSet
import Derived.Maps.OwnOps
set_option maxRecDepth 8000
set_option maxHeartbeats 8000000
set_option linter.unusedVariables false
namespace Go.Proofs.YthgelfdefkbfeaaGreatDoor
open Go.RowKit
theorem rise_remove {rb ro:Nat} {k u0:Int} {w:World} {cs:Array Value} {T:TypeId} {v:Value} {P:Nat→Prop} {L:List Ent} (hrb:w.heap[rb]?=some (.cells cs T (0,0))) (hro:cs[ro]?=some v) (h:Rise w P v L) (hPr:¬ P rb) (hfew:(L.length:Int)+1≤2000000) (hk:look k L=some u0) :
  Calls Tryz.prog 131 #[.pointer (some ⟨rb,ro,none⟩),.int .u64 k] w fun r w'=>r=.returned (.tuple #[])∧RP w P rb ro cs T (delE k L) w':=by
 obtain ⟨ps,h1,h2,rfl⟩:=h.ex
 have hlen:=pcs_len h2
 have hps:ps≠[]:=fun e=>by rw [e] at hk;cases hk
 obtain ⟨pg,c1,rfl,_,_,_⟩:=h1.own.frm (List.length_pos_iff.2 hps)
 have hPS:PutS w P rb ro cs T pg c1 ps k:=⟨hrb,hro,h1,hPr,hps,h.ris,fun p hp=>(h2 p (List.dropLast_subset _ hp)).1,.inr (fun p hp=>(h2 p hp).1),fun p hp=>(h2 p hp).2,hfew,by omega⟩
 have HS:=hide hPS
 have HAll:Hid (∀ p ∈ ps,p.es≠[]):=hide (fun p hp=>(h2 p hp).1)
 have HK:=hide hk
 clear h h1 h2 hlen hPr hfew hrb hro hPS hk hps
 go_enter Tryz.func131,Tryz.ntmps131
 go_wp2_with fail
 refine HS.out.seek.mono ?_
 rintro e w2 ⟨i,j,is,rfl,hsk,hb2⟩
 obtain rfl:is=true:=by rw [hsk.look HS.out.ris,HK.out];rfl
 obtain ⟨p,hp⟩:=get_ex (L:=ps) (i:=i) (by have:=hsk.lt;simpa using this)
 have hpm:=List.mem_of_getElem? hp
 have hrb2:w2.heap[rb]?=some (.cells cs T (0,0)):=(hb2.block rb (Array.getElem?_eq_some_iff.1 HS.out.holder).1).trans HS.out.holder
 have hP2:=HS.out.pcs.below hb2
 have d0:w2.cell? ⟨rb,ro,none⟩=some (.slice (some ⟨pg,0,none⟩) ps.length c1):=cell_at hrb2 HS.out.held
 have d1:w2.cell? ⟨pg,i * 1+0,none⟩=some (.slice p.a p.es.length p.c):=hP2.own.cell hp 0 rfl
 rw [Nat.mul_one,Nat.add_zero] at d1
 have hiN:i < ps.length:=get_lt hp
 have hiI:(i:Int) < (ps.length:Int):=by omega
 have hpl:=HS.out.len p hpm
 have HB2:=hide hb2
 have HSk:=hide hsk
 have HP0:=hide hp
 have hpgP:P pg:=HS.out.pcs.vin pg rfl
 have hne:¬ rb=pg:=fun e=>HS.out.out (by rw [e];exact hpgP)
 have hrow:=hP2.each p hpm
 have HPp:=hide (HS.out.pcs.pin p hpm)
 have HNE:=hide hne
 have hltg:pg < w2.heap.size:=(hP2.own.lt pg rfl).2
 have HPL:=hide hpl
 have HPgn:=hide (pcs_ne hP2 rfl hrow)
 obtain ⟨u,hu⟩:=hsk.is.1 rfl
 rw [esOf_getD hp] at hu
 have HU:=hide hu
 have hjN:j < p.es.length:=get_lt hu
 clear hsk hb2 hp hP2 hrb2 hpgP hpl hu HK
 have HI:=hide (fun (W9:World) (hb9:Below w2.heap.size w2 W9)=>delE_any p.val p.es j W9 (hrow.below hb9) hjN (by have:=HPL.out;omega))
 have hwj:IntKind.i64.wrap ((j:Int)+1)=(j:Int)+1:=by have:=HPL.out;rw [IntKind.wrap_i64];omega
 clear hrow hpm
 go_wp2_with fail
 refine wp_region_noPanic ?_
 refine wp_region_held_drew (S:=fun X=>X.cell? ⟨rb,ro,none⟩=some (.slice (some ⟨pg,0,none⟩) ps.length c1)) (by kernel_rfl) (d0) (fun hHeld=>?_)
 refine wpAnyH_take (i:=0) (oi:=_) (v:=?v0_1) rfl (by kernel_rfl) (by kernel_rfl) (by kernel_rfl) (fun _ _ _ h=>h) (Or.inl ⟨by rfl,?y0_1⟩) (by assumption) ?r0_1
 case y0_1=>(intro w' hSw;(try dsimp only at hSw);go_simp;try with_reducible rfl)
 refine wpAnyH_take (i:=1) (oi:=_) (v:=?v1_1) rfl (by kernel_rfl) (by kernel_rfl) (by kernel_rfl) (fun _ _ _ h=>h) (Or.inl ⟨by rfl,?y1_1⟩) (by assumption) ?r1_1
 case y1_1=>(intro w' hSw;(try dsimp only at hSw);go_simp;try with_reducible rfl)
 refine wpAnyH_take (i:=2) (oi:=_) (v:=?v2_1) rfl (by kernel_rfl) (by kernel_rfl) (by kernel_rfl) (fun _ _ _ h=>h) (Or.inl ⟨by rfl,?y2_1⟩) (by assumption) ?r2_1
 case y2_1=>(intro w' hSw;(try dsimp only at hSw);go_simp;try with_reducible rfl)
 refine wpAnyH_take (i:=3) (oi:=_) (v:=?v3_1) rfl (by kernel_rfl) (by kernel_rfl) (by kernel_rfl) (fun _ _ _ h=>h) (Or.inl ⟨by rfl,?y3_1⟩) (by assumption) ?r3_1
 case y3_1=>(intro w' hSw;(try dsimp only at hSw);go_simp;try with_reducible rfl)
 refine wpAnyH_take (i:=4) (oi:=_) (v:=?v4_1) rfl (by kernel_rfl) (by kernel_rfl) (by kernel_rfl) (fun _ _ _ h=>h) (Or.inl ⟨by rfl,?y4_1⟩) (by assumption) ?r4_1
 case y4_1=>(intro w' hSw;(try dsimp only at hSw);go_simp;try with_reducible rfl)
 refine wpAnyH_take (i:=5) (oi:=_) (v:=?v5_1) rfl (by kernel_rfl) (by kernel_rfl) (by kernel_rfl) (fun _ _ _ h=>h) (Or.inl ⟨by rfl,?y5_1⟩) (by assumption) ?r5_1
 case y5_1=>(intro w' hSw;(try dsimp only at hSw);go_simp;try with_reducible rfl)
 refine wpAnyH_take (i:=6) (oi:=_) (v:=?v6_1) rfl (by kernel_rfl) (by kernel_rfl) (by kernel_rfl) (fun _ _ _ h=>h) (Or.inl ⟨by rfl,?y6_1⟩) (by assumption) ?r6_1
 case y6_1=>(intro w' hSw;(try dsimp only at hSw);go_simp;try with_reducible rfl)
 refine wpAnyH_take (i:=7) (oi:=_) (v:=?v7_1) rfl (by kernel_rfl) (by kernel_rfl) (by kernel_rfl) (fun _ _ _ h=>h) (Or.inl ⟨by rfl,?y7_1⟩) (by assumption) ?r7_1
 case y7_1=>(intro w' hSw;(try dsimp only at hSw);go_simp;try with_reducible rfl)
 refine wpAnyH_take (i:=8) (oi:=_) (v:=?v8_1) rfl (by kernel_rfl) (by kernel_rfl) (by kernel_rfl) (fun _ _ _ h=>h) (Or.inl ⟨by rfl,?y8_1⟩) (by assumption) ?r8_1
 case y8_1=>(intro w' hSw;(try dsimp only at hSw);go_simp;try with_reducible rfl)
 refine wpAnyH_take (i:=9) (oi:=_) (v:=?v9_1) rfl (by kernel_rfl) (by kernel_rfl) (by kernel_rfl) (fun _ _ _ h=>h) (Or.inl ⟨by rfl,?y9_1⟩) (by assumption) ?r9_1
 case y9_1=>(intro w' hSw;(try dsimp only at hSw);go_simp;try with_reducible rfl)
 refine wpAnyH_take (i:=10) (oi:=_) (v:=?v10_1) rfl (by kernel_rfl) (by kernel_rfl) (by kernel_rfl) (fun _ _ _ h=>h) (Or.inl ⟨by rfl,?y10_1⟩) (by assumption) ?r10_1
 case y10_1=>(intro w' hSw;(try dsimp only at hSw);go_simp;try with_reducible rfl)
 refine wpAnyH_take (i:=12) (oi:=_) (v:=?v12_1) rfl (by kernel_rfl) (by kernel_rfl) (by kernel_rfl) (fun _ _ _ h=>h) (Or.inl ⟨by rfl,?y12_1⟩) (by assumption) ?r12_1
 case y12_1=>(intro w' hSw;(try dsimp only at hSw);go_simp;try with_reducible rfl)
 refine wpAnyH_take (i:=13) (oi:=_) (v:=?v13_1) rfl (by kernel_rfl) (by kernel_rfl) (by kernel_rfl) (fun _ _ _ h=>h) (Or.inl ⟨by rfl,?y13_1⟩) (by assumption) ?r13_1
 case y13_1=>(intro w' hSw;(try dsimp only at hSw);go_simp;try with_reducible rfl)
 refine wpAnyH_take (i:=14) (oi:=_) (v:=?v14_1) rfl (by kernel_rfl) (by kernel_rfl) (by kernel_rfl) (fun _ _ _ h=>h) (Or.inl ⟨by rfl,?y14_1⟩) (by assumption) ?r14_1
 case y14_1=>(intro w' hSw;(try dsimp only at hSw);go_simp;try with_reducible rfl)
 refine wpAnyH_ready (rs:=[11]) (by kernel_rfl) (by simp) ?_
 refine AllReadyH.cons (o:=_) rfl (fun KK hKK=>?_) AllReadyH.nil
 go_simp
 refine hKK.out _ _ (d0) (fun hHeld11=>?_)
 clear hKK KK
 refine wpAnyH_ready (rs:=[15]) (by kernel_rfl) (by simp) ?_
 refine AllReadyH.cons (o:=_) rfl (fun KK hKK=>?_) AllReadyH.nil
 go_simp
 refine (HI.out _ ((Below.refl w2.heap.size w2).drew)).mono ?_
 rintro e w3 ⟨v3,rfl,o3,b3,l3⟩
 obtain ⟨a3,n3,c3,rfl⟩:∃ a3 n3 c3,v3=.slice a3 n3 c3:=by obtain ⟨a3,c3,hv3,_,_⟩:=own_form o3;exact ⟨a3,_,c3,hv3⟩
 have k3:w3.cell? ⟨rb,ro,none⟩=some (.slice (some ⟨pg,0,none⟩) ps.length c1):=cell_but (w:=w2.drew) d0 b3 (fun e=>HS.out.out (HPp.out rb e))
 have k4:w3.cell? ⟨pg,i,none⟩=some (.slice p.a p.es.length p.c):=cell_but (w:=w2.drew) d1 b3 (fun e=>HPgn.out e)
 have f4:w3.frozen? ⟨pg,i,none⟩=false:=by obtain ⟨cu,hcu⟩:=own_ty (HS.out.pcs.own.below HB2.out) rfl;exact frz ((b3.block pg hltg (fun e=>HPgn.out e)).trans hcu) i
 have O3:=hide o3
 have B3:=hide b3
 have L3:=hide l3
 clear o3 b3 l3
 refine hKK.out _ _ (k3) (fun hHeld15=>?_)
 clear hKK KK
 refine wpAnyH_take (i:=16) (oi:=_) (v:=?v16_3) rfl (by kernel_rfl) (by kernel_rfl) (by kernel_rfl) (fun _ _ _ h=>h) (Or.inl ⟨by rfl,?y16_3⟩) (by assumption) ?r16_3
 case y16_3=>(intro w' hSw;(try dsimp only at hSw);go_simp;try with_reducible rfl)
 refine wpAnyH_ready (rs:=[17]) (by kernel_rfl) (by simp) ?_
 refine AllReadyH.cons (o:=_) rfl (fun KK hKK=>?_) AllReadyH.nil
 go_simp
 refine hKK.out _ _ (cell_but k3 ((But.refl (fun b=>b=pg) w3).setCell ⟨pg,i,none⟩ (fun _=>rfl) _) HNE.out) (fun hHeld17=>?_)
 clear hKK KK
 refine wpAnyH_done (by kernel_rfl) ?_ _
 refine NoPanic.normal ?_
 have hPN:=put_no HS.out HB2.out ((Below.refl w2.heap.size w2).drew) HP0.out O3.out B3.out (.inl L3.out) rfl
 have hqe:(p.es.take j++p.es.drop (j+1)).length=n3:=by
  obtain ⟨a',c',hf9,_,_⟩:=own_form O3.out
  injection hf9 with e1 e2 e3
  exact e2.symm
 obtain ⟨w4,hw4⟩:∃ w4,w4=w3.setCell ⟨pg,i,none⟩ (.slice a3 n3 c3):=⟨_,rfl⟩
 rw [← hw4] at hPN ⊢
 have e0:w4.cell? ⟨rb,ro,none⟩=some (.slice (some ⟨pg,0,none⟩) ps.length c1):=cell_at hPN.holder HS.out.held
 have e1:w4.cell? ⟨pg,i,none⟩=some (.slice a3 n3 c3):=by
  have h9:=hPN.pcs.own.cell (i:=i) (a:=⟨a3,c3,p.es.take j++p.es.drop (j+1)⟩) (by rw [List.getElem?_set,if_pos rfl,if_pos hiN]) 0 rfl
  have h8:w4.cell? ⟨pg,i * 1+0,none⟩=some (.slice a3 (p.es.take j++p.es.drop (j+1)).length c3):=h9
  rw [Nat.mul_one,Nat.add_zero,hqe] at h8
  exact h8
 have HPN:=hide hPN
 have HQE:=hide hqe
 clear hPN hqe hw4 k3 k4 f4 d0 d1 hHeld hHeld11 hHeld15 hHeld17 HI hltg hne O3 B3 L3
 by_cases h0:n3=0
 ·subst h0
  have HV:=hide (delP_any _ _ i w4 HPN.out.pcs.own (by rw [List.length_set];exact hiN) (by rw [List.length_set];have:=HS.out.many;omega))
  have hwi:wrap64 ((i:Int)+1)=(i:Int)+1:=by have:=HS.out.many;unfold wrap64;omega
  have hmI:(ps.length:Int)≤2000000:=HS.out.many
  have frb:=frz HPN.out.holder ro
  go_wp2_with fail
  refine HV.out.mono ?_
  rintro e w5 ⟨v5,rfl,o5,b5,l5⟩
  obtain ⟨a5,n5,c5,rfl⟩:∃ a5 n5 c5,v5=.slice a5 n5 c5:=by obtain ⟨a5,c5,hv5,_,_⟩:=own_form o5;exact ⟨a5,_,c5,hv5⟩
  have HG:=hide (HPN.out.gone HS.out HAll.out HSk.out HP0.out HU.out rfl (List.length_eq_zero_iff.1 HQE.out) o5 b5 l5)
  have r5:w5.heap[rb]?=some (.cells cs T (0,0)):=(b5.block rb (by have:=(Array.getElem?_eq_some_iff.1 HPN.out.holder).1;exact this) (fun e=>HNE.out (Option.some.inj (show some pg=some rb from e)).symm)).trans HPN.out.holder
  have q5:w5.cell? ⟨rb,ro,none⟩=some (.slice (some ⟨pg,0,none⟩) ps.length c1):=cell_at r5 HS.out.held
  have f5:=frz r5 ro
  clear o5 b5 l5 HV e0 e1 r5 frb
  go_wp2
  go_end0
  exact ⟨rfl,HG.out⟩
 ·have hb0:((n3:Int) == 0)=false:=by rw [beq_eq_false_iff_ne];omega
  go_wp2
  go_end0
  exact ⟨rfl,HPN.out.less HS.out HSk.out HP0.out HU.out rfl (fun e=>h0 (by rw [← HQE.out];exact congrArg List.length e))⟩
end Go.Proofs.YthgelfdefkbfeaaGreatDoor
namespace Go.Proofs.YthgelfdefkbfeaaGreatDoor
structure Gor where
 held:List Ent
 «to»:Int
 as_:Int
structure Chn where
 room:Int
 sends:Int
 recvs:Int
 closed:Bool
structure CS where
 taken:Nat
 gs:Int→Option Gor
 alive:List Ent
 locks:Int→Option (Bool × Int)
 chans:Int→Option Chn
 cnt:Int→Int
 once:Int→Bool
 mem:List Ent
structure Me where
 g:Int
 k:Int
 o:Int
 a:Int
def setF {α:Type} (f:Int→α) (x:Int) (v:α):Int→α:=fun y=>if y=x then v else f y
theorem setF_same {α:Type} (f:Int→α) (x:Int) (v:α):setF f x v x=v:=if_pos rfl
theorem setF_other {α:Type} (f:Int→α) {x y:Int} (v:α) (h:y≠x):setF f x v y=f y:=if_neg h
def CS.times (M:CS) (o:Int):Int:=((M.locks o).map (·.2)).getD 0
def CS.toWrite (M:CS) (o:Int):Bool:=((M.locks o).map (·.1)).getD false
def has (k:Int) (L:List Ent):Bool:=(look k L).isSome
def Chn.inside (c:Chn):Int:=c.sends - c.recvs
def mzag (n:Int):Int:=if n % 2=0 then n / 2 else -(n / 2) - 1
def CS.act (M:CS) (e:Me):Int :=
 match M.gs e.g with
 | none=>1
 | some r=>if has e.g M.alive then if 0 < r.as_∧(e.k≠11∨e.o≠r.to) then 3 else 0 else 2
def CS.askLock (M:CS) (e:Me) (r:Gor):Int :=
 if e.k=3 then if 0 < M.times e.o then 4 else 0
 else if e.k=4 then if M.toWrite e.o∧has e.o r.held then 0 else 5
 else if e.k=5 then if M.toWrite e.o then 6 else 0
 else if M.toWrite e.o then 7 else if has e.o r.held then 0 else 7
def CS.askGor (M:CS) (e:Me):Int :=
 if e.k=7 then if (M.gs e.a).isSome then 8 else 0
 else match M.gs e.a with
  | none=>9
  | some q=>if has e.a M.alive then if e.a=e.g then 11 else if 0 < q.as_ then 12 else 0 else 10
def CS.askChan (M:CS) (e:Me) (r:Gor):Int :=
 match M.chans e.o with
 | none=>if e.k=9 then 0 else 14
 | some c =>
  if e.k=9 then 13
  else if e.k=10 then if c.closed then 15 else if 0 < c.room∧c.room≤c.inside then 16 else 0
  else if e.k=11 then if 0 < r.as_ then if c.recvs < r.as_ then 22 else 0 else 21
  else if e.k=12 then if e.a=1 then if c.inside=0 then 17 else 0 else if c.closed then if 0 < c.inside then 19 else 0 else 18
  else if c.closed then 15 else if c.room=0∧0 < c.inside then 20 else 0
def CS.askOther (M:CS) (e:Me):Int :=
 if e.k=14 then if M.cnt e.o+mzag e.a < 0∨2147483647 < M.cnt e.o+mzag e.a then 23 else 0
 else if e.k=15 then if M.cnt e.o=0 then 0 else 24
 else if e.k=16 then if e.a=1∧M.once e.o then 25 else if e.a=0∧¬ M.once e.o then 26 else 0
 else if e.k=20 then match nxt e.o M.mem with
  | none=>0
  | some p=>if p.2≤e.o+(e.a - 1) then 27 else 0
 else if e.k=21 then if nxt (e.o+(e.a - 1)) M.mem=some (e.o+(e.a - 1),e.o) then 0 else 28
 else 0
def CS.ask (M:CS) (e:Me) (r:Gor):Int :=
 if 3≤e.k∧e.k≤6 then M.askLock e r
 else if 7≤e.k∧e.k≤8 then M.askGor e
 else if 9≤e.k∧e.k≤13 then M.askChan e r
 else M.askOther e
def rdLocks (M:CS) (o n:Int):Int→Option (Bool × Int):=setF M.locks o (if n=0 then none else some (false,n))
def CS.doo (M:CS) (e:Me) (r:Gor):CS :=
 if e.k=3 then { M with locks:=setF M.locks e.o (some (true,1)),gs:=setF M.gs e.g (some { r with held:=insE e.o 1 r.held }) }
 else if e.k=4 then { M with locks:=setF M.locks e.o none,gs:=setF M.gs e.g (some { r with held:=delE e.o r.held }) }
 else if e.k=5 then { M with locks:=setF M.locks e.o (some (false,M.times e.o+1)),gs:=setF M.gs e.g (some { r with held:=insE e.o ((look e.o r.held).getD 0+1) r.held }) }
 else if e.k=6 then { M with locks:=rdLocks M e.o (M.times e.o - 1),gs:=setF M.gs e.g (some { r with held:=if (look e.o r.held).getD 0 - 1=0 then delE e.o r.held else insE e.o ((look e.o r.held).getD 0 - 1) r.held }) }
 else if e.k=7 then { M with gs:=setF M.gs e.a (some ⟨[],0,0⟩),alive:=insE e.a 0 M.alive }
 else if e.k=8 then { M with alive:=delE e.a M.alive }
 else if e.k=9 then { M with chans:=setF M.chans e.o (some ⟨e.a,0,0,false⟩) }
 else if e.k=10 then match M.chans e.o with
  | none=>M
  | some c=>{ M with chans:=setF M.chans e.o (some { c with sends:=c.sends+1 }),gs:=if c.room=0 then setF M.gs e.g (some { r with «to»:=e.o,as_:=c.sends+1 }) else M.gs }
 else if e.k=11 then { M with gs:=setF M.gs e.g (some { r with «to»:=0,as_:=0 }) }
 else if e.k=12 then match M.chans e.o with
  | none=>M
  | some c=>{ M with chans:=setF M.chans e.o (some { c with recvs:=c.recvs+e.a }) }
 else if e.k=13 then match M.chans e.o with
  | none=>M
  | some c=>{ M with chans:=setF M.chans e.o (some { c with closed:=true }) }
 else if e.k=14 then { M with cnt:=setF M.cnt e.o (M.cnt e.o+mzag e.a) }
 else if e.k=16 then { M with once:=setF M.once e.o true }
 else if e.k=20 then { M with mem:=insE (e.o+(e.a - 1)) e.o M.mem }
 else if e.k=21 then { M with mem:=delE (e.o+(e.a - 1)) M.mem }
 else M
def CS.tick (M:CS):CS:={ M with taken:=M.taken+1 }
def CS.why (M:CS) (e:Me):Int :=
 match M.gs e.g with
 | none=>1
 | some r=>if M.act e≠0 then M.act e else M.ask e r
def CS.next (M:CS) (e:Me):CS :=
 match M.gs e.g with
 | none=>M
 | some r=>(M.doo e r).tick
def CS.new:CS:=⟨0,setF (fun _=>none) 0 (some ⟨[],0,0⟩),[(0,0)],fun _=>none,fun _=>none,fun _=>0,fun _=>false,[]⟩
structure CS.ok (M:CS):Prop where
 tk:M.taken≤1048576
 gor:∀ g r,M.gs g=some r→(0≤g∧g≤65535)∧(0≤r.to∧r.to≤18446744073709551615)∧(0≤r.as_∧r.as_≤1048576)∧r.held.length≤M.taken∧∀ p ∈ r.held,1≤p.2∧p.2≤1048576
 al:M.alive.length≤M.taken+1
 lk:∀ o b n,M.locks o=some (b,n)→-1048576≤n∧n≤1048576
 ch:∀ o c,M.chans o=some c→(0≤c.room∧c.room≤65536)∧(0≤c.sends∧c.sends≤1048576)∧(0≤c.recvs∧c.recvs≤1048576)
 ct:∀ o,0≤M.cnt o∧M.cnt o≤2147483647
 me:M.mem.length≤M.taken
end Go.Proofs.YthgelfdefkbfeaaGreatDoor
namespace Go.Proofs.YthgelfdefkbfeaaGreatDoor
open Go.RowKit Go.Maps
def heldR (v:Value):Option (DataW Value × List MemPlace):=some (.held v,[])
theorem lawI:Keyed Tryz.prog 3:=int_keyed Tryz.underlying3
theorem lawU:Keyed Tryz.prog 33:=int_keyed Tryz.underlying33
theorem keyI {g:Int} (h0:-9223372036854775808≤g) (h1:g≤9223372036854775807):keyOf Tryz.prog 3 (.int .i64 g)=some (.int .i64 g):=keyOf_int_mk Tryz.underlying3 (WalkArith.wf_i64 (by omega))
theorem keyU {x:Int} (h0:0≤x) (h1:x≤18446744073709551615):keyOf Tryz.prog 33 (.int .u64 x)=some (.int .u64 x):=keyOf_int_mk Tryz.underlying33 (WalkArith.wf_u64 ⟨h0,h1⟩)
theorem litK (kk:IntKind) (g:Int):WideAt.IsKeyLit (.int kk g):=by trivial
def HM (w:World) (kt:TypeId) (kk:IntKind) (b n:Nat) (z:Value) (f:Int→Option Value):Prop :=
 ∃ D,w.ownsMap Tryz.prog kt heldR b n D∧(∀ x,D.atKey (.int kk x) (.held z)=.held ((f x).getD z))∧(∀ x,Maps.has D (.int kk x)=(f x).isSome)
section
variable {w w' : World} {kt : TypeId} {kk : IntKind} {b n : Nat} {z : Value} {f : Int → Option Value}
theorem HM.but {S:Nat→Prop} (h:HM w kt kk b n z f) (hb:But S w w') (hS:¬ S b):HM w' kt kk b n z f:=by
 obtain ⟨D,h1,h2⟩:=h
 exact ⟨D,map_but h1 hb hS,h2⟩
theorem HM.below (h:HM w kt kk b n z f) (hb:Below w.heap.size w w'):HM w' kt kk b n z f:=h.but (S:=fun _=>False) (But.of_below hb) (fun e=>e)
theorem HM.up {m:Nat} (h:HM w kt kk b n z f) (hm:n≤m):HM w kt kk b m z f:=by
 obtain ⟨D,⟨es,cl,h1,h2,h3,h4⟩,h5⟩:=h
 exact ⟨D,⟨es,cl,h1,h2,Nat.le_trans h3 hm,h4⟩,h5⟩
theorem HM.made (w:World) (kt:TypeId) (kk:IntKind) (z:Value):HM (w.alloc (.map #[] 0)) kt kk w.heap.size 0 z (fun _=>none) :=
 ⟨.map [],World.ownsMap_made w Tryz.prog kt heldR,fun x=>by rw [Maps.atKey_of_not_has rfl];rfl,fun x=>rfl⟩
theorem HM.look (h:HM w kt kk b n z f) (K:Keyed Tryz.prog kt) {t e:TypeId} (ht:Tryz.prog.underlying t=some (.map kt e)) (hz:(zeroValue e).run Tryz.prog w=.ok z w) {x:Int} (hk:keyOf Tryz.prog kt (.int kk x)=some (.int kk x)):(Instr.lookup t (.map (some b)) (.int kk x) false).run Tryz.prog w=.ok ((f x).getD z) w:=by
 obtain ⟨D,h1,h2,_⟩:=h
 obtain ⟨v,ps,hrun,hv⟩:=h1.lookup K ht hz (zd:=.held z) (zp:=[]) rfl hk
 rw [h2 x] at hv
 simp [heldR] at hv
 rw [hrun,hv.1]
theorem HM.lookOk (h:HM w kt kk b n z f) (K:Keyed Tryz.prog kt) {t e:TypeId} (ht:Tryz.prog.underlying t=some (.map kt e)) (hz:(zeroValue e).run Tryz.prog w=.ok z w) {x:Int} (hk:keyOf Tryz.prog kt (.int kk x)=some (.int kk x)):(Instr.lookup t (.map (some b)) (.int kk x) true).run Tryz.prog w=.ok (.tuple #[(f x).getD z,.bool (f x).isSome]) w:=by
 obtain ⟨D,h1,h2,h3⟩:=h
 obtain ⟨v,ps,hrun,hv⟩:=h1.look_ok K ht hz (zd:=.held z) (zp:=[]) rfl hk
 rw [h2 x] at hv
 simp [heldR] at hv
 rw [hrun,hv.1,h3 x]
theorem HM.put (h:HM w kt kk b n z f) (K:Keyed Tryz.prog kt) {t e:TypeId} (ht:Tryz.prog.underlying t=some (.map kt e)) (hn:n < maxLen) {x:Int} (hk:keyOf Tryz.prog kt (.int kk x)=some (.int kk x)) (v:Value) :
  ∃ w',(Instr.mapUpdate t (.map (some b)) (.int kk x) v).run Tryz.prog w=.ok () w'∧HM w' kt kk b (n+1) z (setF f x (some v))∧But (fun k=>k=b) w w':=by
 obtain ⟨D,h1,h2,h3⟩:=h
 obtain ⟨w',hrun,r1,r2⟩:=h1.update (val:=v) K ht hn hk (d:=.held v) (ps:=[]) (show heldR v=some (.held v,[]) from rfl)
 refine ⟨w',hrun,⟨_,r1,fun y=>?_,fun y=>?_⟩,But.of_grown r2 (fun k e=>(Option.some.inj e).symm)⟩
 ·by_cases hy:y=x
  ·subst hy;rw [Maps.atKey_put_same h1.isMap (litK _ _),setF_same];rfl
  ·rw [Maps.atKey_put_other (fun c=>hy (by injection c)),setF_other f _ hy,h2]
 ·by_cases hy:y=x
  ·subst hy;rw [Maps.has_put_same h1.isMap (litK _ _),setF_same];rfl
  ·rw [Maps.has_put_other (fun c=>hy (by injection c)),setF_other f _ hy,h3]
theorem HM.del (h:HM w kt kk b n z f) (K:Keyed Tryz.prog kt) {t e:TypeId} (ht:Tryz.prog.underlying t=some (.map kt e)) {x:Int} (hk:keyOf Tryz.prog kt (.int kk x)=some (.int kk x)) (ty:TypeId) :
  ∃ w',(Builtin.delete_ #[t,kt] ty #[.map (some b),.int kk x]).run Tryz.prog w=.ok (.tuple #[]) w'∧HM w' kt kk b n z (setF f x none)∧But (fun k=>k=b) w w':=by
 obtain ⟨D,h1,h2,h3⟩:=h
 obtain ⟨w',hrun,r1,r2⟩:=h1.drop K ht hk ty
 refine ⟨w',hrun,⟨_,r1,fun y=>?_,fun y=>?_⟩,But.of_grown r2.grown (fun k e=>(Option.some.inj e).symm)⟩
 ·by_cases hy:y=x
  ·subst hy;rw [Maps.atKey_del_same,setF_same];rfl
  ·rw [Maps.atKey_del_other (fun c=>hy (by injection c)),setF_other f _ hy,h2]
 ·by_cases hy:y=x
  ·subst hy;rw [Maps.has_del_same,setF_same];rfl
  ·rw [Maps.has_del_other (fun c=>hy (by injection c)),setF_other f _ hy,h3]
theorem HM.len (h:HM w kt kk b n z f) {t e:TypeId} (ht:Tryz.prog.underlying t=some (.map kt e)) {x:Int} (hx:(f x).isSome=true) (ty:TypeId):∃ m:Nat,0 < m∧(Builtin.len_ #[t] ty #[.map (some b)]).run Tryz.prog w=.ok (.int .i64 (m:Int)) w:=by
 obtain ⟨D,h1,_,h3⟩:=h
 refine ⟨Maps.size D,?_,h1.len ht ty⟩
 have h9:=h3 x
 rw [hx] at h9
 cases D with
 | map es =>
  cases es with
  | nil=>simp [Maps.has] at h9
  | cons p r=>simp [Maps.size]
 | _=>simp [Maps.has] at h9
end
end Go.Proofs.YthgelfdefkbfeaaGreatDoor
