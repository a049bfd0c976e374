import Derived.Test.YthgelfdefkbfeaaGreatDoorZu13
set_option maxRecDepth 8000
set_option maxHeartbeats 8000000
set_option linter.unusedVariables false
namespace Go.Proofs.YthgelfdefkbfeaaGreatDoor
open Go.RowKit
theorem PutS.seek {W:World} {P:Nat→Prop} {rb ro:Nat} {cs:Array Value} {T:TypeId} {pg c1:Nat} {ps:List Pc} {k:Int} (h:PutS W P rb ro cs T pg c1 ps k) :
  Calls Tryz.prog 128 #[.pointer (some ⟨rb,ro,none⟩),.int .u64 k] W fun e w'=>∃ (i j:Nat) (is:Bool),e=.returned (.tuple #[.int .i64 (i:Int),.int .i64 (j:Int),.bool is])∧Sk (esOf ps) k i j is∧Below W.heap.size W w' :=
 seek_any rb ro k W _ P ps (cell_at h.holder h.held) h.pcs h.ris h.pos (by have:=h.many;omega) h.ne (fun p hp=>by have:=h.len p hp;omega)
theorem rise_put {rb ro:Nat} {k x:Int} {w:World} {cs:Array Value} {T:TypeId} {v:Value} {P:Nat→Prop} {L:List Ent} (hrb:w.heap[rb]?=some (.cells cs T (0,0))) (hro:cs[ro]?=some v) (h:Rise w P v L) (hPr:¬ P rb) (hfew:(L.length:Int)+1≤2000000) :
  Calls Tryz.prog 63 #[.pointer (some ⟨rb,ro,none⟩),.int .u64 k,.int .u64 x] w fun r w'=>r=.returned (.tuple #[])∧RP w P rb ro cs T (insE k x L) w':=by
 obtain ⟨ps,h1,h2,rfl⟩:=h.ex
 have hlen:=pcs_len h2
 by_cases hps:ps=[]
 ·subst hps
  obtain ⟨a,c,rfl,_,_⟩:=own_form h1.own
  obtain ⟨W,hW⟩:∃ W,W=(w.setCell ⟨rb,ro,none⟩ (.slice (some ⟨w.heap.size,0,none⟩) 1 1)).alloc (.cells #[.slice none 0 0] 149):=⟨_,rfl⟩
  have hlt:rb < w.heap.size:=(Array.getElem?_eq_some_iff.1 hrb).1
  have hszc:(w.setCell ⟨rb,ro,none⟩ (.slice (some ⟨w.heap.size,0,none⟩) 1 1)).heap.size=w.heap.size:=by simp [World.setCell]
  have hrbA:W.heap[rb]?=some (.cells (cs.setIfInBounds ro (.slice (some ⟨w.heap.size,0,none⟩) 1 1)) T (0,0)):=by rw [hW];exact (heap_alloc_old _ (by rw [hszc];exact hlt)).trans (set1_heap _ hrb)
  have hrow1:W.heap[w.heap.size]?=some (.cells #[.slice none 0 0] 149 (0,0)):=by
   rw [hW];exact heap_newS hszc
  have hWB:But (fun b=>P b∨b=rb) w W:=by rw [hW];exact ((But.refl (fun b=>P b∨b=rb) w).setCell ⟨rb,ro,none⟩ (fun _=>.inr rfl) _).alloc _
  have hsz:W.heap.size=w.heap.size+1:=by rw [hW,World.size_alloc,hszc]
  have hPS:PutS W (More P w W) rb ro (cs.setIfInBounds ro (.slice (some ⟨w.heap.size,0,none⟩) 1 1)) T w.heap.size 1 [⟨none,0,[]⟩] k:=by
   refine ⟨hrbA,?_,⟨?_,?_,?_,?_,?_⟩,?_,by simp,by simp [Ris,esOf],by simp,.inl rfl,by simp,by simp,by simp⟩
   ·rw [Array.getElem?_setIfInBounds,if_pos rfl,if_pos (Array.getElem?_eq_some_iff.1 hro).1];rfl
   ·exact Own.of_raw (y:=layP) (L:=[⟨none,0,[]⟩]) (c:=1) hrow1 rfl rfl (by simp) (Nat.zero_le _) (by unfold maxLen;omega)
   ·intro p hp;rw [List.mem_singleton.1 hp];exact Own.nil _ _ _ _
   ·intro b hb;exact .inr ⟨Nat.le_of_eq (Option.some.inj (show some w.heap.size=some b from hb)),by rw [hsz,← Option.some.inj (show some w.heap.size=some b from hb)];omega⟩
   ·intro p hp b hb;rw [List.mem_singleton.1 hp] at hb;simp [Value.ownBlock] at hb
   ·intro i j p q b hp hq _ _;have:=get_lt hp;have:=get_lt hq;simp at *;omega
   ·rintro (e|e)
    ·exact hPr e
    ·omega
  have HFin:Hid (∀ w',RP W (More P w W) rb ro (cs.setIfInBounds ro (.slice (some ⟨w.heap.size,0,none⟩) 1 1)) T (insE k x (esOf [⟨none,0,[]⟩]).flatten) w'→RP w P rb ro cs T (insE k x (esOf ([]:List Pc)).flatten) w'):=hide (fun w' h9=>RP.from hWB h9)
  have c0:w.cell? ⟨rb,ro,none⟩=some (.slice a 0 c):=cell_at hrb hro
  have f0:=frz hrb ro
  have HW:=hide hW
  clear h h1 h2 hlen hPr hfew hrb hro hrbA hrow1 hWB hsz hW hszc
  go_enter Tryz.func63,Tryz.ntmps63
  go_wp2_with fail
  rw [← HW.out]
  clear HW c0 f0
  generalize hcs1:cs.setIfInBounds ro (.slice (some ⟨w.heap.size,0,none⟩) 1 1)=cs1 at hPS HFin
  clear hcs1
  generalize hP1:More P w W=P1 at hPS HFin
  clear hP1
  obtain ⟨pg,hpg⟩:∃ pg,pg=w.heap.size:=⟨_,rfl⟩
  obtain ⟨c1,hc1⟩:∃ c1,c1=1:=⟨_,rfl⟩
  obtain ⟨ps,hpsd⟩:∃ ps:List Pc,ps=[⟨none,0,[]⟩]:=⟨_,rfl⟩
  rw [← hpg,← hc1,← hpsd] at hPS
  rw [← hpsd] at HFin
  have HS:=hide hPS
  clear hPS hpg hc1 hpsd
  refine HS.out.seek.mono ?_
  rintro e w2 ⟨i,j,is,rfl,hsk,hb2⟩
  obtain ⟨p,hp⟩:=get_ex (L:=ps) (i:=i) (by have:=hsk.lt;simpa using this)
  have hpm:=List.mem_of_getElem? hp
  have hrb2:w2.heap[rb]?=some (.cells cs1 T (0,0)):=(hb2.block rb (Array.getElem?_eq_some_iff.1 HS.out.holder).1).trans HS.out.holder
  have hP2:=HS.out.pcs.below hb2
  have d0:w2.cell? ⟨rb,ro,none⟩=some (.slice (some ⟨pg,0,none⟩) ps.length c1):=cell_at hrb2 HS.out.held
  have d1:w2.cell? ⟨pg,i * 1+0,none⟩=some (.slice p.a p.es.length p.c):=hP2.own.cell hp 0 rfl
  rw [Nat.mul_one,Nat.add_zero] at d1
  have fg:w2.frozen? ⟨pg,i,none⟩=false:=hP2.own.frozen i
  have hiN:i < ps.length:=get_lt hp
  have hiI:(i:Int) < (ps.length:Int):=by omega
  have hpl:=HS.out.len p hpm
  have hjl:=hsk.le
  rw [esOf_getD hp] at hjl
  have HB2:=hide hb2
  have HSk:=hide hsk
  have HP0:=hide hp
  have hpgP:P1 pg:=HS.out.pcs.vin pg rfl
  have hne:¬ rb=pg:=fun e=>HS.out.out (by rw [e];exact hpgP)
  have hrow:=hP2.each p hpm
  have HPp:=hide (HS.out.pcs.pin p hpm)
  have HNE:=hide hne
  have hlt2:rb < w2.heap.size:=(Array.getElem?_eq_some_iff.1 hrb2).1
  have hltg:pg < w2.heap.size:=(hP2.own.lt pg rfl).2
  have HJ:=hide hjl
  have HPL:=hide hpl
  clear hsk hb2 hp hP2 hrb2 hpgP hjl hpl
  obtain ⟨pa,pcc,es⟩:=p
  have hrow':Own layN 148 w2 0 (.slice pa es.length pcc) es:=hrow
  have d1':w2.cell? ⟨pg,i,none⟩=some (.slice pa es.length pcc):=d1
  have HJ':Hid (j≤es.length):=HJ
  have HPL':Hid (es.length≤512):=HPL
  clear hrow d1 HJ HPL
  cases is with
  | true =>
   obtain ⟨u,hu⟩:=HSk.out.is.1 rfl
   rw [esOf_getD HP0.out] at hu
   have hu':es[j]?=some (k,u):=hu
   have hjN:j < es.length:=get_lt hu'
   have hjI:(j:Int) < (es.length:Int):=by omega
   obtain ⟨g,gc,hpv,_,_,_⟩:=hrow'.frm (by omega)
   cases hpv
   have d2:w2.cell? ⟨g,j * 2+1,none⟩=some (.int .u64 u):=hrow'.cell hu' 1 rfl
   have f2:w2.frozen? ⟨g,j * 2+1,none⟩=false:=hrow'.frozen _
   have HU:=hide hu'
   clear hrow' hu hu' hpm
   go_wp2
   exact bodyPost_ret (results_none rfl _ _ _) rfl ⟨rfl,HFin.out _ (put_yes HS.out HB2.out HSk.out HP0.out HU.out)⟩
  | false =>
   have HI:=hide (fun (W9:World) (hb9:Below w2.heap.size w2 W9) (hc9:W9.heap[w2.heap.size]?=some (.cells #[.int .u64 k,.int .u64 x] 148 (0,0)))=>insE_any (.slice pa es.length pcc) es j (k,x) w2.heap.size W9 (hrow'.below hb9) HJ'.out hc9 (fun e=>by have:=(hrow'.lt _ e).2;omega) (by have:=HPL'.out;omega))
   clear hpm
   go_wp2_with fail
   have hwb:(w2.alloc (.cells #[.int .u64 k,.int .u64 x] 148)).heap.size=w2.heap.size+1:=World.size_alloc _ _
   have HSZ:=hide hwb
   have HBA:Hid (Below w2.heap.size w2 (w2.alloc (.cells #[.int .u64 k,.int .u64 x] 148)).drew):=hide ((below_alloc1 w2 _).drew)
   have HCA:Hid ((w2.alloc (.cells #[.int .u64 k,.int .u64 x] 148)).drew.heap[w2.heap.size]?=some (.cells #[.int .u64 k,.int .u64 x] 148 (0,0))):=hide (heap_new _ _)
   have HKA:Hid ((w2.alloc (.cells #[.int .u64 k,.int .u64 x] 148)).drew.cell? ⟨rb,ro,none⟩=some (.slice (some ⟨pg,0,none⟩) ps.length c1)):=hide ((HBA.out.cell (p:=⟨rb,ro,none⟩) hlt2).trans d0)
   have HKB:Hid ((w2.alloc (.cells #[.int .u64 k,.int .u64 x] 148)).drew.cell? ⟨pg,i,none⟩=some (.slice pa es.length pcc)):=hide ((HBA.out.cell (p:=⟨pg,i,none⟩) hltg).trans d1')
   have HPgn:Hid (¬ (Value.slice pa es.length pcc).ownBlock=some pg):=hide (pcs_ne (HS.out.pcs.below HB2.out) rfl (q:=⟨pa,pcc,es⟩) hrow')
   clear hwb hrow'
   refine wp_region_noPanic ?_
   refine wp_region_held_drew (S:=fun X=>X.cell? ⟨rb,ro,none⟩=some (.slice (some ⟨pg,0,none⟩) ps.length c1)) (by kernel_rfl) (d0) (fun hHeld=>?_)
   refine wpAnyH_take (i:=0) (oi:=_) (v:=?v0_1) rfl (by kernel_rfl) (by kernel_rfl) (by kernel_rfl) (fun _ _ _ h=>h) (Or.inl ⟨by rfl,?y0_1⟩) (by assumption) ?r0_1
   case y0_1=>(intro w' hSw;(try dsimp only at hSw);go_simp;try with_reducible rfl)
   refine wpAnyH_take (i:=1) (oi:=_) (v:=?v1_1) rfl (by kernel_rfl) (by kernel_rfl) (by kernel_rfl) (fun _ _ _ h=>h) (Or.inl ⟨by rfl,?y1_1⟩) (by assumption) ?r1_1
   case y1_1=>(intro w' hSw;(try dsimp only at hSw);go_simp;try with_reducible rfl)
   refine wpAnyH_take (i:=2) (oi:=_) (v:=?v2_1) rfl (by kernel_rfl) (by kernel_rfl) (by kernel_rfl) (fun _ _ _ h=>h) (Or.inl ⟨by rfl,?y2_1⟩) (by assumption) ?r2_1
   case y2_1=>(intro w' hSw;(try dsimp only at hSw);go_simp;try with_reducible rfl)
   refine wpAnyH_take (i:=3) (oi:=_) (v:=?v3_1) rfl (by kernel_rfl) (by kernel_rfl) (by kernel_rfl) (fun _ _ _ h=>h) (Or.inl ⟨by rfl,?y3_1⟩) (by assumption) ?r3_1
   case y3_1=>(intro w' hSw;(try dsimp only at hSw);go_simp;try with_reducible rfl)
   refine wpAnyH_take (i:=4) (oi:=_) (v:=?v4_1) rfl (by kernel_rfl) (by kernel_rfl) (by kernel_rfl) (fun _ _ _ h=>h) (Or.inl ⟨by rfl,?y4_1⟩) (by assumption) ?r4_1
   case y4_1=>(intro w' hSw;(try dsimp only at hSw);go_simp;try with_reducible rfl)
   refine wpAnyH_take (i:=5) (oi:=_) (v:=?v5_1) rfl (by kernel_rfl) (by kernel_rfl) (by kernel_rfl) (fun _ _ _ h=>h) (Or.inl ⟨by rfl,?y5_1⟩) (by assumption) ?r5_1
   case y5_1=>(intro w' hSw;(try dsimp only at hSw);go_simp;try with_reducible rfl)
   refine wpAnyH_take (i:=6) (oi:=_) (v:=?v6_1) rfl (by kernel_rfl) (by kernel_rfl) (by kernel_rfl) (fun _ _ _ h=>h) (Or.inl ⟨by rfl,?y6_1⟩) (by assumption) ?r6_1
   case y6_1=>(intro w' hSw;(try dsimp only at hSw);go_simp;try with_reducible rfl)
   refine wpAnyH_take (i:=7) (oi:=_) (v:=?v7_1) rfl (by kernel_rfl) (by kernel_rfl) (by kernel_rfl) (fun _ _ _ h=>h) (Or.inl ⟨by rfl,?y7_1⟩) (by assumption) ?r7_1
   case y7_1=>(intro w' hSw;(try dsimp only at hSw);go_simp;try with_reducible rfl)
   refine wpAnyH_take (i:=8) (oi:=_) (v:=?v8_1) rfl (by kernel_rfl) (by kernel_rfl) (by kernel_rfl) (fun _ _ _ h=>h) (Or.inl ⟨by rfl,?y8_1⟩) (by assumption) ?r8_1
   case y8_1=>(intro w' hSw;(try dsimp only at hSw);go_simp;try with_reducible rfl)
   refine wpAnyH_take (i:=9) (oi:=_) (v:=?v9_1) rfl (by kernel_rfl) (by kernel_rfl) (by kernel_rfl) (fun _ _ _ h=>h) (Or.inl ⟨by rfl,?y9_1⟩) (by assumption) ?r9_1
   case y9_1=>(intro w' hSw;(try dsimp only at hSw);go_simp;try with_reducible rfl)
   refine wpAnyH_take (i:=10) (oi:=_) (v:=?v10_1) rfl (by kernel_rfl) (by kernel_rfl) (by kernel_rfl) (fun _ _ _ h=>h) (Or.inl ⟨by rfl,?y10_1⟩) (by assumption) ?r10_1
   case y10_1=>(intro w' hSw;(try dsimp only at hSw);go_simp;try with_reducible rfl)
   refine wpAnyH_take (i:=12) (oi:=_) (v:=?v12_1) rfl (by kernel_rfl) (by kernel_rfl) (by kernel_rfl) (fun _ _ _ h=>h) (Or.inl ⟨by rfl,?y12_1⟩) (by assumption) ?r12_1
   case y12_1=>(intro w' hSw;(try dsimp only at hSw);go_simp;try with_reducible rfl)
   refine wpAnyH_take (i:=13) (oi:=_) (v:=?v13_1) rfl (by kernel_rfl) (by kernel_rfl) (by kernel_rfl) (fun _ _ _ h=>h) (Or.inl ⟨by rfl,?y13_1⟩) (by assumption) ?r13_1
   case y13_1=>(intro w' hSw;(try dsimp only at hSw);go_simp;try with_reducible rfl)
   refine wpAnyH_take (i:=14) (oi:=_) (v:=?v14_1) rfl (by kernel_rfl) (by kernel_rfl) (by kernel_rfl) (fun _ _ _ h=>h) (Or.inl ⟨by rfl,?y14_1⟩) (by assumption) ?r14_1
   case y14_1=>(intro w' hSw;(try dsimp only at hSw);go_simp;try with_reducible rfl)
   refine wpAnyH_take (i:=15) (oi:=_) (v:=?v15_1) rfl (by kernel_rfl) (by kernel_rfl) (by kernel_rfl) (fun _ _ _ h=>h) (Or.inl ⟨by rfl,?y15_1⟩) (by assumption) ?r15_1
   case y15_1=>(intro w' hSw;(try dsimp only at hSw);go_simp;try with_reducible rfl)
   refine wpAnyH_ready (rs:=[11,16]) (by kernel_rfl) (by simp) ?_
   refine AllReadyH.cons (o:=_) rfl (fun KK hKK=>?_) (AllReadyH.cons (o:=_) rfl (fun KK hKK=>?_) AllReadyH.nil)
   ·go_simp
    refine hKK.out _ _ (by first|exact d0|exact HKA.out) (fun hHeld11=>?_)
    clear hKK KK
    refine wpAnyH_ready (rs:=[16]) (by kernel_rfl) (by simp) ?_
    refine AllReadyH.cons (o:=_) rfl (fun KK hKK=>?_) AllReadyH.nil
    go_simp
    refine hKK.out _ _ (by first|exact d0|exact HKA.out) (fun hHeld16=>?_)
    clear hKK KK
    refine wpAnyH_ready (rs:=[17]) (by kernel_rfl) (by simp) ?_
    refine AllReadyH.cons (o:=_) rfl (fun KK hKK=>?_) AllReadyH.nil
    go_simp
    refine (HI.out _ HBA.out HCA.out).mono ?_
    rintro e w3 ⟨v3,rfl,o3,b3,l3⟩
    obtain ⟨a3,n3,c3,rfl⟩:∃ a3 n3 c3,v3=.slice a3 n3 c3:=by obtain ⟨a3,c3,hv3,_,_⟩:=own_form o3;exact ⟨a3,_,c3,hv3⟩
    have k3:w3.cell? ⟨rb,ro,none⟩=some (.slice (some ⟨pg,0,none⟩) ps.length c1):=cell_but (HKA.out) b3 (fun e=>HS.out.out (HPp.out rb e))
    have k4:w3.cell? ⟨pg,i,none⟩=some (.slice pa es.length pcc):=cell_but (HKB.out) b3 (fun e=>HPgn.out e)
    have f4:w3.frozen? ⟨pg,i,none⟩=false:=by obtain ⟨cu,hcu⟩:=own_ty (HS.out.pcs.own.below HB2.out) rfl;exact frz ((b3.block pg (by show pg < (w2.alloc _).heap.size;rw [HSZ.out];omega) (fun e=>HPgn.out e)).trans ((HBA.out.block pg hltg).trans hcu)) i
    have O3:=hide o3
    have B3:=hide b3
    have L3:=hide l3
    clear o3 b3 l3
    refine hKK.out _ _ (k3) (fun hHeld17=>?_)
    clear hKK KK
    refine wpAnyH_take (i:=18) (oi:=_) (v:=?v18_4) rfl (by kernel_rfl) (by kernel_rfl) (by kernel_rfl) (fun _ _ _ h=>h) (Or.inl ⟨by rfl,?y18_4⟩) (by assumption) ?r18_4
    case y18_4=>(intro w' hSw;(try dsimp only at hSw);go_simp;try with_reducible rfl)
    refine wpAnyH_ready (rs:=[19]) (by kernel_rfl) (by simp) ?_
    refine AllReadyH.cons (o:=_) rfl (fun KK hKK=>?_) AllReadyH.nil
    go_simp
    refine hKK.out _ _ (by first|exact cell_but k3 ((But.refl (fun b=>b=pg) w3).setCell ⟨pg,i,none⟩ (fun _=>rfl) _) HNE.out) (fun hHeld19=>?_)
    clear hKK KK
    refine wpAnyH_done (by kernel_rfl) ?_ _
    refine NoPanic.normal ?_
    have hPN:=put_no HS.out HB2.out HBA.out HP0.out O3.out B3.out L3.out rfl
    have hn3:n3=es.length+1:=by
     obtain ⟨a',c',hf9,_,_⟩:=own_form O3.out
     injection hf9 with e1 e2 e3
     rw [e2,List.length_append,List.length_cons,List.length_take,List.length_drop]
     have:=HJ'.out
     omega
    have hqe:(es.take j++(k,x) :: es.drop j).length=n3:=by rw [hn3,List.length_append,List.length_cons,List.length_take,List.length_drop];have:=HJ'.out;omega
    obtain ⟨w4,hw4⟩:∃ w4,w4=w3.setCell ⟨pg,i,none⟩ (.slice a3 n3 c3):=⟨_,rfl⟩
    rw [← hw4] at hPN ⊢
    have e0:w4.cell? ⟨rb,ro,none⟩=some (.slice (some ⟨pg,0,none⟩) ps.length c1):=cell_at hPN.holder HS.out.held
    have e1:w4.cell? ⟨pg,i,none⟩=some (.slice a3 n3 c3):=by
     have h9:=hPN.pcs.own.cell (i:=i) (a:=⟨a3,c3,es.take j++(k,x) :: es.drop j⟩) (by rw [List.getElem?_set,if_pos rfl,if_pos hiN]) 0 rfl
     have h8:w4.cell? ⟨pg,i * 1+0,none⟩=some (.slice a3 (es.take j++(k,x) :: es.drop j).length c3):=h9
     rw [Nat.mul_one,Nat.add_zero,hqe] at h8
     exact h8
    have HPN:=hide hPN
    have HQE:=hide hqe
    have HN3:=hide hn3
    clear hPN hqe hw4 k3 k4 f4 d0 d1' fg hHeld hHeld11 hHeld16 hHeld17 hHeld19 HI hlt2 hltg hne O3 B3 L3 HKA HKB HBA HCA HSZ
    by_cases hbig:n3≤512
    ·have hbI:(n3:Int)≤512:=by omega
     have hbd:decide ((512:Int) < (n3:Int))=false:=decide_eq_false (by omega)
     clear hn3
     go_wp2
     go_end0
     exact ⟨rfl,HFin.out _ (HPN.out.small HS.out HSk.out HP0.out rfl (by rw [HQE.out];exact hbig))⟩
    ·have h513:n3=513:=by have:=HPL'.out;omega
     have hbI:(512:Int) < (n3:Int):=by omega
     have HOut:Hid (¬ More P1 W w4 rb):=hide (fun e=>e.elim HS.out.out (fun e=>by have:=(Array.getElem?_eq_some_iff.1 HS.out.holder).1;omega))
     have HV:=hide (halve_any rb ro i w4 cs1 T _ _ _ _ HPN.out.holder HS.out.held HPN.out.pcs HOut.out (by rw [List.getElem?_set,if_pos rfl,if_pos hiN]) (by rw [HQE.out];omega) (by rw [HQE.out];omega) (by rw [List.length_set];have:=HS.out.many;omega))
     have H513:=hide h513
     clear hn3 h513 hbig
     go_wp2_with fail
     refine HV.out.mono ?_
     rintro e w5 ⟨rfl,v5,ps5,g1,g2,g3,g4⟩
     have HG:=hide (HPN.out.great HS.out HSk.out HP0.out rfl (by rw [HQE.out,H513.out]) g1 g2 g3 g4)
     clear g1 g2 g3 g4 HV e0 e1
     go_wp2
     go_end0
     exact ⟨rfl,HFin.out _ HG.out⟩
   ·go_simp
    refine hKK.out _ _ (by first|exact d0|exact HKA.out) (fun hHeld16=>?_)
    clear hKK KK
    refine wpAnyH_ready (rs:=[11]) (by kernel_rfl) (by simp) ?_
    refine AllReadyH.cons (o:=_) rfl (fun KK hKK=>?_) AllReadyH.nil
    go_simp
    refine hKK.out _ _ (by first|exact d0|exact HKA.out) (fun hHeld11=>?_)
    clear hKK KK
    refine wpAnyH_ready (rs:=[17]) (by kernel_rfl) (by simp) ?_
    refine AllReadyH.cons (o:=_) rfl (fun KK hKK=>?_) AllReadyH.nil
    go_simp
    refine (HI.out _ HBA.out HCA.out).mono ?_
    rintro e w3 ⟨v3,rfl,o3,b3,l3⟩
    obtain ⟨a3,n3,c3,rfl⟩:∃ a3 n3 c3,v3=.slice a3 n3 c3:=by obtain ⟨a3,c3,hv3,_,_⟩:=own_form o3;exact ⟨a3,_,c3,hv3⟩
    have k3:w3.cell? ⟨rb,ro,none⟩=some (.slice (some ⟨pg,0,none⟩) ps.length c1):=cell_but (HKA.out) b3 (fun e=>HS.out.out (HPp.out rb e))
    have k4:w3.cell? ⟨pg,i,none⟩=some (.slice pa es.length pcc):=cell_but (HKB.out) b3 (fun e=>HPgn.out e)
    have f4:w3.frozen? ⟨pg,i,none⟩=false:=by obtain ⟨cu,hcu⟩:=own_ty (HS.out.pcs.own.below HB2.out) rfl;exact frz ((b3.block pg (by show pg < (w2.alloc _).heap.size;rw [HSZ.out];omega) (fun e=>HPgn.out e)).trans ((HBA.out.block pg hltg).trans hcu)) i
    have O3:=hide o3
    have B3:=hide b3
    have L3:=hide l3
    clear o3 b3 l3
    refine hKK.out _ _ (k3) (fun hHeld17=>?_)
    clear hKK KK
    refine wpAnyH_take (i:=18) (oi:=_) (v:=?v18_8) rfl (by kernel_rfl) (by kernel_rfl) (by kernel_rfl) (fun _ _ _ h=>h) (Or.inl ⟨by rfl,?y18_8⟩) (by assumption) ?r18_8
    case y18_8=>(intro w' hSw;(try dsimp only at hSw);go_simp;try with_reducible rfl)
    refine wpAnyH_ready (rs:=[19]) (by kernel_rfl) (by simp) ?_
    refine AllReadyH.cons (o:=_) rfl (fun KK hKK=>?_) AllReadyH.nil
    go_simp
    refine hKK.out _ _ (by first|exact cell_but k3 ((But.refl (fun b=>b=pg) w3).setCell ⟨pg,i,none⟩ (fun _=>rfl) _) HNE.out) (fun hHeld19=>?_)
    clear hKK KK
    refine wpAnyH_done (by kernel_rfl) ?_ _
    refine NoPanic.normal ?_
    have hPN:=put_no HS.out HB2.out HBA.out HP0.out O3.out B3.out L3.out rfl
    have hn3:n3=es.length+1:=by
     obtain ⟨a',c',hf9,_,_⟩:=own_form O3.out
     injection hf9 with e1 e2 e3
     rw [e2,List.length_append,List.length_cons,List.length_take,List.length_drop]
     have:=HJ'.out
     omega
    have hqe:(es.take j++(k,x) :: es.drop j).length=n3:=by rw [hn3,List.length_append,List.length_cons,List.length_take,List.length_drop];have:=HJ'.out;omega
    obtain ⟨w4,hw4⟩:∃ w4,w4=w3.setCell ⟨pg,i,none⟩ (.slice a3 n3 c3):=⟨_,rfl⟩
    rw [← hw4] at hPN ⊢
    have e0:w4.cell? ⟨rb,ro,none⟩=some (.slice (some ⟨pg,0,none⟩) ps.length c1):=cell_at hPN.holder HS.out.held
    have e1:w4.cell? ⟨pg,i,none⟩=some (.slice a3 n3 c3):=by
     have h9:=hPN.pcs.own.cell (i:=i) (a:=⟨a3,c3,es.take j++(k,x) :: es.drop j⟩) (by rw [List.getElem?_set,if_pos rfl,if_pos hiN]) 0 rfl
     have h8:w4.cell? ⟨pg,i * 1+0,none⟩=some (.slice a3 (es.take j++(k,x) :: es.drop j).length c3):=h9
     rw [Nat.mul_one,Nat.add_zero,hqe] at h8
     exact h8
    have HPN:=hide hPN
    have HQE:=hide hqe
    have HN3:=hide hn3
    clear hPN hqe hw4 k3 k4 f4 d0 d1' fg hHeld hHeld11 hHeld16 hHeld17 hHeld19 HI hlt2 hltg hne O3 B3 L3 HKA HKB HBA HCA HSZ
    by_cases hbig:n3≤512
    ·have hbI:(n3:Int)≤512:=by omega
     have hbd:decide ((512:Int) < (n3:Int))=false:=decide_eq_false (by omega)
     clear hn3
     go_wp2
     go_end0
     exact ⟨rfl,HFin.out _ (HPN.out.small HS.out HSk.out HP0.out rfl (by rw [HQE.out];exact hbig))⟩
    ·have h513:n3=513:=by have:=HPL'.out;omega
     have hbI:(512:Int) < (n3:Int):=by omega
     have HOut:Hid (¬ More P1 W w4 rb):=hide (fun e=>e.elim HS.out.out (fun e=>by have:=(Array.getElem?_eq_some_iff.1 HS.out.holder).1;omega))
     have HV:=hide (halve_any rb ro i w4 cs1 T _ _ _ _ HPN.out.holder HS.out.held HPN.out.pcs HOut.out (by rw [List.getElem?_set,if_pos rfl,if_pos hiN]) (by rw [HQE.out];omega) (by rw [HQE.out];omega) (by rw [List.length_set];have:=HS.out.many;omega))
     have H513:=hide h513
     clear hn3 h513 hbig
     go_wp2_with fail
     refine HV.out.mono ?_
     rintro e w5 ⟨rfl,v5,ps5,g1,g2,g3,g4⟩
     have HG:=hide (HPN.out.great HS.out HSk.out HP0.out rfl (by rw [HQE.out,H513.out]) g1 g2 g3 g4)
     clear g1 g2 g3 g4 HV e0 e1
     go_wp2
     go_end0
     exact ⟨rfl,HFin.out _ HG.out⟩
 ·obtain ⟨pg,c1,rfl,_,_,_⟩:=h1.own.frm (List.length_pos_iff.2 hps)
  have hPS:PutS w P rb ro cs T pg c1 ps k:=⟨hrb,hro,h1,hPr,hps,h.ris,fun p hp=>(h2 p (List.dropLast_subset _ hp)).1,.inr (fun p hp=>(h2 p hp).1),fun p hp=>(h2 p hp).2,hfew,by omega⟩
  have HS:=hide hPS
  have c0:w.cell? ⟨rb,ro,none⟩=some (.slice (some ⟨pg,0,none⟩) ps.length c1):=cell_at hrb hro
  have hpos:0 < ps.length:=List.length_pos_iff.2 hps
  have hz:((ps.length:Int) == 0)=false:=by rw [beq_eq_false_iff_ne];omega
  have hzn:¬ ps.length=0:=by omega
  clear h h1 h2 hlen hPr hfew hrb hro hPS
  obtain ⟨P1,hP1⟩:∃ P1,P1=P:=⟨_,rfl⟩
  obtain ⟨cs1,hcs1⟩:∃ cs1,cs1=cs:=⟨_,rfl⟩
  rw [← hP1,← hcs1] at HS
  have HFin:Hid (∀ w',RP w P1 rb ro cs1 T (insE k x (esOf ps).flatten) w'→RP w P rb ro cs T (insE k x (esOf ps).flatten) w'):=hide (fun _ e=>by rw [hP1,hcs1] at e;exact e)
  clear hP1 hcs1
  go_enter Tryz.func63,Tryz.ntmps63
  go_wp2_with fail
  clear c0
  refine HS.out.seek.mono ?_
  rintro e w2 ⟨i,j,is,rfl,hsk,hb2⟩
  obtain ⟨p,hp⟩:=get_ex (L:=ps) (i:=i) (by have:=hsk.lt;simpa using this)
  have hpm:=List.mem_of_getElem? hp
  have hrb2:w2.heap[rb]?=some (.cells cs1 T (0,0)):=(hb2.block rb (Array.getElem?_eq_some_iff.1 HS.out.holder).1).trans HS.out.holder
  have hP2:=HS.out.pcs.below hb2
  have d0:w2.cell? ⟨rb,ro,none⟩=some (.slice (some ⟨pg,0,none⟩) ps.length c1):=cell_at hrb2 HS.out.held
  have d1:w2.cell? ⟨pg,i * 1+0,none⟩=some (.slice p.a p.es.length p.c):=hP2.own.cell hp 0 rfl
  rw [Nat.mul_one,Nat.add_zero] at d1
  have fg:w2.frozen? ⟨pg,i,none⟩=false:=hP2.own.frozen i
  have hiN:i < ps.length:=get_lt hp
  have hiI:(i:Int) < (ps.length:Int):=by omega
  have hpl:=HS.out.len p hpm
  have hjl:=hsk.le
  rw [esOf_getD hp] at hjl
  have HB2:=hide hb2
  have HSk:=hide hsk
  have HP0:=hide hp
  have hpgP:P1 pg:=HS.out.pcs.vin pg rfl
  have hne:¬ rb=pg:=fun e=>HS.out.out (by rw [e];exact hpgP)
  have hrow:=hP2.each p hpm
  have HPp:=hide (HS.out.pcs.pin p hpm)
  have HNE:=hide hne
  have hlt2:rb < w2.heap.size:=(Array.getElem?_eq_some_iff.1 hrb2).1
  have hltg:pg < w2.heap.size:=(hP2.own.lt pg rfl).2
  have HJ:=hide hjl
  have HPL:=hide hpl
  clear hsk hb2 hp hP2 hrb2 hpgP hjl hpl
  obtain ⟨pa,pcc,es⟩:=p
  have hrow':Own layN 148 w2 0 (.slice pa es.length pcc) es:=hrow
  have d1':w2.cell? ⟨pg,i,none⟩=some (.slice pa es.length pcc):=d1
  have HJ':Hid (j≤es.length):=HJ
  have HPL':Hid (es.length≤512):=HPL
  clear hrow d1 HJ HPL
  cases is with
  | true =>
   obtain ⟨u,hu⟩:=HSk.out.is.1 rfl
   rw [esOf_getD HP0.out] at hu
   have hu':es[j]?=some (k,u):=hu
   have hjN:j < es.length:=get_lt hu'
   have hjI:(j:Int) < (es.length:Int):=by omega
   obtain ⟨g,gc,hpv,_,_,_⟩:=hrow'.frm (by omega)
   cases hpv
   have d2:w2.cell? ⟨g,j * 2+1,none⟩=some (.int .u64 u):=hrow'.cell hu' 1 rfl
   have f2:w2.frozen? ⟨g,j * 2+1,none⟩=false:=hrow'.frozen _
   have HU:=hide hu'
   clear hrow' hu hu' hpm
   go_wp2
   exact bodyPost_ret (results_none rfl _ _ _) rfl ⟨rfl,HFin.out _ (put_yes HS.out HB2.out HSk.out HP0.out HU.out)⟩
  | false =>
   have HI:=hide (fun (W9:World) (hb9:Below w2.heap.size w2 W9) (hc9:W9.heap[w2.heap.size]?=some (.cells #[.int .u64 k,.int .u64 x] 148 (0,0)))=>insE_any (.slice pa es.length pcc) es j (k,x) w2.heap.size W9 (hrow'.below hb9) HJ'.out hc9 (fun e=>by have:=(hrow'.lt _ e).2;omega) (by have:=HPL'.out;omega))
   clear hpm
   go_wp2_with fail
   have hwb:(w2.alloc (.cells #[.int .u64 k,.int .u64 x] 148)).heap.size=w2.heap.size+1:=World.size_alloc _ _
   have HSZ:=hide hwb
   have HBA:Hid (Below w2.heap.size w2 (w2.alloc (.cells #[.int .u64 k,.int .u64 x] 148)).drew):=hide ((below_alloc1 w2 _).drew)
   have HCA:Hid ((w2.alloc (.cells #[.int .u64 k,.int .u64 x] 148)).drew.heap[w2.heap.size]?=some (.cells #[.int .u64 k,.int .u64 x] 148 (0,0))):=hide (heap_new _ _)
   have HKA:Hid ((w2.alloc (.cells #[.int .u64 k,.int .u64 x] 148)).drew.cell? ⟨rb,ro,none⟩=some (.slice (some ⟨pg,0,none⟩) ps.length c1)):=hide ((HBA.out.cell (p:=⟨rb,ro,none⟩) hlt2).trans d0)
   have HKB:Hid ((w2.alloc (.cells #[.int .u64 k,.int .u64 x] 148)).drew.cell? ⟨pg,i,none⟩=some (.slice pa es.length pcc)):=hide ((HBA.out.cell (p:=⟨pg,i,none⟩) hltg).trans d1')
   have HPgn:Hid (¬ (Value.slice pa es.length pcc).ownBlock=some pg):=hide (pcs_ne (HS.out.pcs.below HB2.out) rfl (q:=⟨pa,pcc,es⟩) hrow')
   clear hwb hrow'
   refine wp_region_noPanic ?_
   refine wp_region_held_drew (S:=fun X=>X.cell? ⟨rb,ro,none⟩=some (.slice (some ⟨pg,0,none⟩) ps.length c1)) (by kernel_rfl) (d0) (fun hHeld=>?_)
   refine wpAnyH_take (i:=0) (oi:=_) (v:=?v0_10) rfl (by kernel_rfl) (by kernel_rfl) (by kernel_rfl) (fun _ _ _ h=>h) (Or.inl ⟨by rfl,?y0_10⟩) (by assumption) ?r0_10
   case y0_10=>(intro w' hSw;(try dsimp only at hSw);go_simp;try with_reducible rfl)
   refine wpAnyH_take (i:=1) (oi:=_) (v:=?v1_10) rfl (by kernel_rfl) (by kernel_rfl) (by kernel_rfl) (fun _ _ _ h=>h) (Or.inl ⟨by rfl,?y1_10⟩) (by assumption) ?r1_10
   case y1_10=>(intro w' hSw;(try dsimp only at hSw);go_simp;try with_reducible rfl)
   refine wpAnyH_take (i:=2) (oi:=_) (v:=?v2_10) rfl (by kernel_rfl) (by kernel_rfl) (by kernel_rfl) (fun _ _ _ h=>h) (Or.inl ⟨by rfl,?y2_10⟩) (by assumption) ?r2_10
   case y2_10=>(intro w' hSw;(try dsimp only at hSw);go_simp;try with_reducible rfl)
   refine wpAnyH_take (i:=3) (oi:=_) (v:=?v3_10) rfl (by kernel_rfl) (by kernel_rfl) (by kernel_rfl) (fun _ _ _ h=>h) (Or.inl ⟨by rfl,?y3_10⟩) (by assumption) ?r3_10
   case y3_10=>(intro w' hSw;(try dsimp only at hSw);go_simp;try with_reducible rfl)
   refine wpAnyH_take (i:=4) (oi:=_) (v:=?v4_10) rfl (by kernel_rfl) (by kernel_rfl) (by kernel_rfl) (fun _ _ _ h=>h) (Or.inl ⟨by rfl,?y4_10⟩) (by assumption) ?r4_10
   case y4_10=>(intro w' hSw;(try dsimp only at hSw);go_simp;try with_reducible rfl)
   refine wpAnyH_take (i:=5) (oi:=_) (v:=?v5_10) rfl (by kernel_rfl) (by kernel_rfl) (by kernel_rfl) (fun _ _ _ h=>h) (Or.inl ⟨by rfl,?y5_10⟩) (by assumption) ?r5_10
   case y5_10=>(intro w' hSw;(try dsimp only at hSw);go_simp;try with_reducible rfl)
   refine wpAnyH_take (i:=6) (oi:=_) (v:=?v6_10) rfl (by kernel_rfl) (by kernel_rfl) (by kernel_rfl) (fun _ _ _ h=>h) (Or.inl ⟨by rfl,?y6_10⟩) (by assumption) ?r6_10
   case y6_10=>(intro w' hSw;(try dsimp only at hSw);go_simp;try with_reducible rfl)
   refine wpAnyH_take (i:=7) (oi:=_) (v:=?v7_10) rfl (by kernel_rfl) (by kernel_rfl) (by kernel_rfl) (fun _ _ _ h=>h) (Or.inl ⟨by rfl,?y7_10⟩) (by assumption) ?r7_10
   case y7_10=>(intro w' hSw;(try dsimp only at hSw);go_simp;try with_reducible rfl)
   refine wpAnyH_take (i:=8) (oi:=_) (v:=?v8_10) rfl (by kernel_rfl) (by kernel_rfl) (by kernel_rfl) (fun _ _ _ h=>h) (Or.inl ⟨by rfl,?y8_10⟩) (by assumption) ?r8_10
   case y8_10=>(intro w' hSw;(try dsimp only at hSw);go_simp;try with_reducible rfl)
   refine wpAnyH_take (i:=9) (oi:=_) (v:=?v9_10) rfl (by kernel_rfl) (by kernel_rfl) (by kernel_rfl) (fun _ _ _ h=>h) (Or.inl ⟨by rfl,?y9_10⟩) (by assumption) ?r9_10
   case y9_10=>(intro w' hSw;(try dsimp only at hSw);go_simp;try with_reducible rfl)
   refine wpAnyH_take (i:=10) (oi:=_) (v:=?v10_10) rfl (by kernel_rfl) (by kernel_rfl) (by kernel_rfl) (fun _ _ _ h=>h) (Or.inl ⟨by rfl,?y10_10⟩) (by assumption) ?r10_10
   case y10_10=>(intro w' hSw;(try dsimp only at hSw);go_simp;try with_reducible rfl)
   refine wpAnyH_take (i:=12) (oi:=_) (v:=?v12_10) rfl (by kernel_rfl) (by kernel_rfl) (by kernel_rfl) (fun _ _ _ h=>h) (Or.inl ⟨by rfl,?y12_10⟩) (by assumption) ?r12_10
   case y12_10=>(intro w' hSw;(try dsimp only at hSw);go_simp;try with_reducible rfl)
   refine wpAnyH_take (i:=13) (oi:=_) (v:=?v13_10) rfl (by kernel_rfl) (by kernel_rfl) (by kernel_rfl) (fun _ _ _ h=>h) (Or.inl ⟨by rfl,?y13_10⟩) (by assumption) ?r13_10
   case y13_10=>(intro w' hSw;(try dsimp only at hSw);go_simp;try with_reducible rfl)
   refine wpAnyH_take (i:=14) (oi:=_) (v:=?v14_10) rfl (by kernel_rfl) (by kernel_rfl) (by kernel_rfl) (fun _ _ _ h=>h) (Or.inl ⟨by rfl,?y14_10⟩) (by assumption) ?r14_10
   case y14_10=>(intro w' hSw;(try dsimp only at hSw);go_simp;try with_reducible rfl)
   refine wpAnyH_take (i:=15) (oi:=_) (v:=?v15_10) rfl (by kernel_rfl) (by kernel_rfl) (by kernel_rfl) (fun _ _ _ h=>h) (Or.inl ⟨by rfl,?y15_10⟩) (by assumption) ?r15_10
   case y15_10=>(intro w' hSw;(try dsimp only at hSw);go_simp;try with_reducible rfl)
   refine wpAnyH_ready (rs:=[11,16]) (by kernel_rfl) (by simp) ?_
   refine AllReadyH.cons (o:=_) rfl (fun KK hKK=>?_) (AllReadyH.cons (o:=_) rfl (fun KK hKK=>?_) AllReadyH.nil)
   ·go_simp
    refine hKK.out _ _ (by first|exact d0|exact HKA.out) (fun hHeld11=>?_)
    clear hKK KK
    refine wpAnyH_ready (rs:=[16]) (by kernel_rfl) (by simp) ?_
    refine AllReadyH.cons (o:=_) rfl (fun KK hKK=>?_) AllReadyH.nil
    go_simp
    refine hKK.out _ _ (by first|exact d0|exact HKA.out) (fun hHeld16=>?_)
    clear hKK KK
    refine wpAnyH_ready (rs:=[17]) (by kernel_rfl) (by simp) ?_
    refine AllReadyH.cons (o:=_) rfl (fun KK hKK=>?_) AllReadyH.nil
    go_simp
    refine (HI.out _ HBA.out HCA.out).mono ?_
    rintro e w3 ⟨v3,rfl,o3,b3,l3⟩
    obtain ⟨a3,n3,c3,rfl⟩:∃ a3 n3 c3,v3=.slice a3 n3 c3:=by obtain ⟨a3,c3,hv3,_,_⟩:=own_form o3;exact ⟨a3,_,c3,hv3⟩
    have k3:w3.cell? ⟨rb,ro,none⟩=some (.slice (some ⟨pg,0,none⟩) ps.length c1):=cell_but (HKA.out) b3 (fun e=>HS.out.out (HPp.out rb e))
    have k4:w3.cell? ⟨pg,i,none⟩=some (.slice pa es.length pcc):=cell_but (HKB.out) b3 (fun e=>HPgn.out e)
    have f4:w3.frozen? ⟨pg,i,none⟩=false:=by obtain ⟨cu,hcu⟩:=own_ty (HS.out.pcs.own.below HB2.out) rfl;exact frz ((b3.block pg (by show pg < (w2.alloc _).heap.size;rw [HSZ.out];omega) (fun e=>HPgn.out e)).trans ((HBA.out.block pg hltg).trans hcu)) i
    have O3:=hide o3
    have B3:=hide b3
    have L3:=hide l3
    clear o3 b3 l3
    refine hKK.out _ _ (k3) (fun hHeld17=>?_)
    clear hKK KK
    refine wpAnyH_take (i:=18) (oi:=_) (v:=?v18_13) rfl (by kernel_rfl) (by kernel_rfl) (by kernel_rfl) (fun _ _ _ h=>h) (Or.inl ⟨by rfl,?y18_13⟩) (by assumption) ?r18_13
    case y18_13=>(intro w' hSw;(try dsimp only at hSw);go_simp;try with_reducible rfl)
    refine wpAnyH_ready (rs:=[19]) (by kernel_rfl) (by simp) ?_
    refine AllReadyH.cons (o:=_) rfl (fun KK hKK=>?_) AllReadyH.nil
    go_simp
    refine hKK.out _ _ (by first|exact cell_but k3 ((But.refl (fun b=>b=pg) w3).setCell ⟨pg,i,none⟩ (fun _=>rfl) _) HNE.out) (fun hHeld19=>?_)
    clear hKK KK
    refine wpAnyH_done (by kernel_rfl) ?_ _
    refine NoPanic.normal ?_
    have hPN:=put_no HS.out HB2.out HBA.out HP0.out O3.out B3.out L3.out rfl
    have hn3:n3=es.length+1:=by
     obtain ⟨a',c',hf9,_,_⟩:=own_form O3.out
     injection hf9 with e1 e2 e3
     rw [e2,List.length_append,List.length_cons,List.length_take,List.length_drop]
     have:=HJ'.out
     omega
    have hqe:(es.take j++(k,x) :: es.drop j).length=n3:=by rw [hn3,List.length_append,List.length_cons,List.length_take,List.length_drop];have:=HJ'.out;omega
    obtain ⟨w4,hw4⟩:∃ w4,w4=w3.setCell ⟨pg,i,none⟩ (.slice a3 n3 c3):=⟨_,rfl⟩
    rw [← hw4] at hPN ⊢
    have e0:w4.cell? ⟨rb,ro,none⟩=some (.slice (some ⟨pg,0,none⟩) ps.length c1):=cell_at hPN.holder HS.out.held
    have e1:w4.cell? ⟨pg,i,none⟩=some (.slice a3 n3 c3):=by
     have h9:=hPN.pcs.own.cell (i:=i) (a:=⟨a3,c3,es.take j++(k,x) :: es.drop j⟩) (by rw [List.getElem?_set,if_pos rfl,if_pos hiN]) 0 rfl
     have h8:w4.cell? ⟨pg,i * 1+0,none⟩=some (.slice a3 (es.take j++(k,x) :: es.drop j).length c3):=h9
     rw [Nat.mul_one,Nat.add_zero,hqe] at h8
     exact h8
    have HPN:=hide hPN
    have HQE:=hide hqe
    have HN3:=hide hn3
    clear hPN hqe hw4 k3 k4 f4 d0 d1' fg hHeld hHeld11 hHeld16 hHeld17 hHeld19 HI hlt2 hltg hne O3 B3 L3 HKA HKB HBA HCA HSZ
    by_cases hbig:n3≤512
    ·have hbI:(n3:Int)≤512:=by omega
     have hbd:decide ((512:Int) < (n3:Int))=false:=decide_eq_false (by omega)
     clear hn3
     go_wp2
     go_end0
     exact ⟨rfl,HFin.out _ (HPN.out.small HS.out HSk.out HP0.out rfl (by rw [HQE.out];exact hbig))⟩
    ·have h513:n3=513:=by have:=HPL'.out;omega
     have hbI:(512:Int) < (n3:Int):=by omega
     have HOut:Hid (¬ More P1 w w4 rb):=hide (fun e=>e.elim HS.out.out (fun e=>by have:=(Array.getElem?_eq_some_iff.1 HS.out.holder).1;omega))
     have HV:=hide (halve_any rb ro i w4 cs1 T _ _ _ _ HPN.out.holder HS.out.held HPN.out.pcs HOut.out (by rw [List.getElem?_set,if_pos rfl,if_pos hiN]) (by rw [HQE.out];omega) (by rw [HQE.out];omega) (by rw [List.length_set];have:=HS.out.many;omega))
     have H513:=hide h513
     clear hn3 h513 hbig
     go_wp2_with fail
     refine HV.out.mono ?_
     rintro e w5 ⟨rfl,v5,ps5,g1,g2,g3,g4⟩
     have HG:=hide (HPN.out.great HS.out HSk.out HP0.out rfl (by rw [HQE.out,H513.out]) g1 g2 g3 g4)
     clear g1 g2 g3 g4 HV e0 e1
     go_wp2
     go_end0
     exact ⟨rfl,HFin.out _ HG.out⟩
   ·go_simp
    refine hKK.out _ _ (by first|exact d0|exact HKA.out) (fun hHeld16=>?_)
    clear hKK KK
    refine wpAnyH_ready (rs:=[11]) (by kernel_rfl) (by simp) ?_
    refine AllReadyH.cons (o:=_) rfl (fun KK hKK=>?_) AllReadyH.nil
    go_simp
    refine hKK.out _ _ (by first|exact d0|exact HKA.out) (fun hHeld11=>?_)
    clear hKK KK
    refine wpAnyH_ready (rs:=[17]) (by kernel_rfl) (by simp) ?_
    refine AllReadyH.cons (o:=_) rfl (fun KK hKK=>?_) AllReadyH.nil
    go_simp
    refine (HI.out _ HBA.out HCA.out).mono ?_
    rintro e w3 ⟨v3,rfl,o3,b3,l3⟩
    obtain ⟨a3,n3,c3,rfl⟩:∃ a3 n3 c3,v3=.slice a3 n3 c3:=by obtain ⟨a3,c3,hv3,_,_⟩:=own_form o3;exact ⟨a3,_,c3,hv3⟩
    have k3:w3.cell? ⟨rb,ro,none⟩=some (.slice (some ⟨pg,0,none⟩) ps.length c1):=cell_but (HKA.out) b3 (fun e=>HS.out.out (HPp.out rb e))
    have k4:w3.cell? ⟨pg,i,none⟩=some (.slice pa es.length pcc):=cell_but (HKB.out) b3 (fun e=>HPgn.out e)
    have f4:w3.frozen? ⟨pg,i,none⟩=false:=by obtain ⟨cu,hcu⟩:=own_ty (HS.out.pcs.own.below HB2.out) rfl;exact frz ((b3.block pg (by show pg < (w2.alloc _).heap.size;rw [HSZ.out];omega) (fun e=>HPgn.out e)).trans ((HBA.out.block pg hltg).trans hcu)) i
    have O3:=hide o3
    have B3:=hide b3
    have L3:=hide l3
    clear o3 b3 l3
    refine hKK.out _ _ (k3) (fun hHeld17=>?_)
    clear hKK KK
    refine wpAnyH_take (i:=18) (oi:=_) (v:=?v18_17) rfl (by kernel_rfl) (by kernel_rfl) (by kernel_rfl) (fun _ _ _ h=>h) (Or.inl ⟨by rfl,?y18_17⟩) (by assumption) ?r18_17
    case y18_17=>(intro w' hSw;(try dsimp only at hSw);go_simp;try with_reducible rfl)
    refine wpAnyH_ready (rs:=[19]) (by kernel_rfl) (by simp) ?_
    refine AllReadyH.cons (o:=_) rfl (fun KK hKK=>?_) AllReadyH.nil
    go_simp
    refine hKK.out _ _ (by first|exact cell_but k3 ((But.refl (fun b=>b=pg) w3).setCell ⟨pg,i,none⟩ (fun _=>rfl) _) HNE.out) (fun hHeld19=>?_)
    clear hKK KK
    refine wpAnyH_done (by kernel_rfl) ?_ _
    refine NoPanic.normal ?_
    have hPN:=put_no HS.out HB2.out HBA.out HP0.out O3.out B3.out L3.out rfl
    have hn3:n3=es.length+1:=by
     obtain ⟨a',c',hf9,_,_⟩:=own_form O3.out
     injection hf9 with e1 e2 e3
     rw [e2,List.length_append,List.length_cons,List.length_take,List.length_drop]
     have:=HJ'.out
     omega
    have hqe:(es.take j++(k,x) :: es.drop j).length=n3:=by rw [hn3,List.length_append,List.length_cons,List.length_take,List.length_drop];have:=HJ'.out;omega
    obtain ⟨w4,hw4⟩:∃ w4,w4=w3.setCell ⟨pg,i,none⟩ (.slice a3 n3 c3):=⟨_,rfl⟩
    rw [← hw4] at hPN ⊢
    have e0:w4.cell? ⟨rb,ro,none⟩=some (.slice (some ⟨pg,0,none⟩) ps.length c1):=cell_at hPN.holder HS.out.held
    have e1:w4.cell? ⟨pg,i,none⟩=some (.slice a3 n3 c3):=by
     have h9:=hPN.pcs.own.cell (i:=i) (a:=⟨a3,c3,es.take j++(k,x) :: es.drop j⟩) (by rw [List.getElem?_set,if_pos rfl,if_pos hiN]) 0 rfl
     have h8:w4.cell? ⟨pg,i * 1+0,none⟩=some (.slice a3 (es.take j++(k,x) :: es.drop j).length c3):=h9
     rw [Nat.mul_one,Nat.add_zero,hqe] at h8
     exact h8
    have HPN:=hide hPN
    have HQE:=hide hqe
    have HN3:=hide hn3
    clear hPN hqe hw4 k3 k4 f4 d0 d1' fg hHeld hHeld11 hHeld16 hHeld17 hHeld19 HI hlt2 hltg hne O3 B3 L3 HKA HKB HBA HCA HSZ
    by_cases hbig:n3≤512
    ·have hbI:(n3:Int)≤512:=by omega
     have hbd:decide ((512:Int) < (n3:Int))=false:=decide_eq_false (by omega)
     clear hn3
     go_wp2
     go_end0
     exact ⟨rfl,HFin.out _ (HPN.out.small HS.out HSk.out HP0.out rfl (by rw [HQE.out];exact hbig))⟩
    ·have h513:n3=513:=by have:=HPL'.out;omega
     have hbI:(512:Int) < (n3:Int):=by omega
     have HOut:Hid (¬ More P1 w w4 rb):=hide (fun e=>e.elim HS.out.out (fun e=>by have:=(Array.getElem?_eq_some_iff.1 HS.out.holder).1;omega))
     have HV:=hide (halve_any rb ro i w4 cs1 T _ _ _ _ HPN.out.holder HS.out.held HPN.out.pcs HOut.out (by rw [List.getElem?_set,if_pos rfl,if_pos hiN]) (by rw [HQE.out];omega) (by rw [HQE.out];omega) (by rw [List.length_set];have:=HS.out.many;omega))
     have H513:=hide h513
     clear hn3 h513 hbig
     go_wp2_with fail
     refine HV.out.mono ?_
     rintro e w5 ⟨rfl,v5,ps5,g1,g2,g3,g4⟩
     have HG:=hide (HPN.out.great HS.out HSk.out HP0.out rfl (by rw [HQE.out,H513.out]) g1 g2 g3 g4)
     clear g1 g2 g3 g4 HV e0 e1
     go_wp2
     go_end0
     exact ⟨rfl,HFin.out _ HG.out⟩
end Go.Proofs.YthgelfdefkbfeaaGreatDoor
