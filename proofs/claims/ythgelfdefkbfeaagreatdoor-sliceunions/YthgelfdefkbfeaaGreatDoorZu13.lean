import Derived.Test.YthgelfdefkbfeaaGreatDoorZu12
set_option maxRecDepth 8000
set_option maxHeartbeats 8000000
set_option linter.unusedVariables false
namespace Go.Proofs.YthgelfdefkbfeaaGreatDoor
open Go.RowKit
theorem Pcs.upd {w w1:World} {P:Nat→Prop} {v:Value} {ps:List Pc} {i:Nat} {p q:Pc} (h:Pcs w P v ps) (hp:ps[i]?=some p) (hb:But (fun b=>p.val.ownBlock=some b) w w1) (ho:Own layN 148 w1 0 q.val q.es) (hv:q.val=p.val):Pcs w1 P v (ps.set i q):=by
 have hpm:=List.mem_of_getElem? hp
 have hne:∀ g,v.ownBlock=some g→¬ p.val.ownBlock=some g:=fun g hg e=>pcs_ne h hg (h.each p hpm) e
 have hcs:layP.cs q=layP.cs p:=by show [Value.slice q.a q.es.length q.c]=[Value.slice p.a p.es.length p.c];exact congrArg (fun z=>[z]) hv
 have hil:=get_lt hp
 have hfl:layP.fl (ps.set i q)=layP.fl ps:=by
  have h1:=layP.fl_set hil q
  have h2:=layP.fl_set hil p
  rw [hcs] at h1
  rw [← h1,h2]
  congr 1
  rw [List.set_eq_take_append_cons_drop,if_pos hil]
  have e:=(List.getElem?_eq_some_iff.1 hp).2
  rw [← e]
  conv=>rhs;rw [← List.take_append_drop i ps,List.drop_eq_getElem_cons hil]
 have hown:Own layP 149 w1 0 v (ps.set i q):=by
  have h1:=h.own.but hb hne
  unfold Own at h1 ⊢
  rw [List.length_set,hfl]
  exact h1
 have hget:∀ (j:Nat) (r:Pc),(ps.set i q)[j]?=some r→(j=i∧r=q)∨(j≠i∧ps[j]?=some r):=by
  intro j r hr
  rw [List.getElem?_set] at hr
  by_cases e:i=j
  ·rw [if_pos e,if_pos (by omega)] at hr
   cases hr;exact .inl ⟨e.symm,rfl⟩
  ·rw [if_neg e] at hr;exact .inr ⟨fun e'=>e e'.symm,hr⟩
 refine ⟨hown,fun r hr=>?_,h.vin,fun r hr b hb=>?_,fun j1 j2 r1 r2 b hr1 hr2 hb1 hb2=>?_⟩
 ·obtain ⟨j,hj⟩:=List.mem_iff_getElem?.1 hr
  rcases hget j r hj with ⟨rfl,rfl⟩|⟨hn,hr'⟩
  ·exact ho
  ·exact (h.each r (List.mem_of_getElem? hr')).but hb (fun g hg e=>hn (h.apart j i r p g hr' hp hg e))
 ·obtain ⟨j,hj⟩:=List.mem_iff_getElem?.1 hr
  rcases hget j r hj with ⟨rfl,rfl⟩|⟨hn,hr'⟩
  ·rw [hv] at hb;exact h.pin p hpm b hb
  ·exact h.pin r (List.mem_of_getElem? hr') b hb
 ·rcases hget j1 r1 hr1 with ⟨e1,rfl⟩|⟨n1,h1⟩
  ·rcases hget j2 r2 hr2 with ⟨e2,rfl⟩|⟨n2,h2⟩
   ·rw [e1,e2]
   ·rw [hv] at hb1;rw [e1];exact h.apart i j2 p r2 b hp h2 hb1 hb2
  ·rcases hget j2 r2 hr2 with ⟨e2,rfl⟩|⟨n2,h2⟩
   ·rw [hv] at hb2;rw [e2];exact h.apart j1 i r1 p b h1 hp hb1 hb2
   ·exact h.apart j1 j2 r1 r2 b h1 h2 hb1 hb2
theorem esOf_set (ps:List Pc) (i:Nat) (q:Pc):esOf (ps.set i q)=(esOf ps).set i q.es:=by simp [esOf,List.map_set]
theorem set_set (cs:Array Value) (ro:Nat) (v1 v':Value):(cs.setIfInBounds ro v1).setIfInBounds ro v'=cs.setIfInBounds ro v':=by
 apply Array.ext_getElem?
 intro i
 rw [Array.getElem?_setIfInBounds,Array.getElem?_setIfInBounds,Array.getElem?_setIfInBounds,Array.size_setIfInBounds]
 split <;> rfl
def RP (w:World) (P:Nat→Prop) (rb ro:Nat) (cs:Array Value) (T:TypeId) (L:List Ent) (w':World):Prop :=
 ∃ v',Rise w' (More P w w') v' L∧w'.heap[rb]?=some (.cells (cs.setIfInBounds ro v') T (0,0))∧But (fun b=>P b∨b=rb) w w'
theorem RP.from {w W w':World} {P:Nat→Prop} {rb ro:Nat} {cs:Array Value} {v1:Value} {T:TypeId} {L:List Ent} (hB:But (fun b=>P b∨b=rb) w W) (h:RP W (More P w W) rb ro (cs.setIfInBounds ro v1) T L w'):RP w P rb ro cs T L w':=by
 obtain ⟨v',h1,h2,h3⟩:=h
 have hs:=hB.size
 have hs3:=h3.size
 refine ⟨v',h1.mono (fun b hb=>?_),?_,hB.trans h3 (fun b hb e=>?_)⟩
 ·rcases hb with (hb|hb)|hb
  ·exact .inl hb
  ·exact .inr ⟨hb.1,by omega⟩
  ·exact .inr ⟨by omega,hb.2⟩
 ·rw [h2];congr 2
  exact set_set cs ro v1 v'
 ·rcases e with (e|e)|e
  ·exact .inl e
  ·omega
  ·exact .inr e
theorem set_same {cs:Array Value} {ro:Nat} {v:Value} (h:cs[ro]?=some v):cs.setIfInBounds ro v=cs:=by
 apply Array.ext_getElem?
 intro i
 rw [Array.getElem?_setIfInBounds]
 split
 ·rename_i e
  subst e
  rw [h,if_pos (Array.getElem?_eq_some_iff.1 h).1]
 ·rfl
structure PutS (W:World) (P:Nat→Prop) (rb ro:Nat) (cs:Array Value) (T:TypeId) (pg c1:Nat) (ps:List Pc) (k:Int):Prop where
 holder:W.heap[rb]?=some (.cells cs T (0,0))
 held:cs[ro]?=some (.slice (some ⟨pg,0,none⟩) ps.length c1)
 pcs:Pcs W P (.slice (some ⟨pg,0,none⟩) ps.length c1) ps
 out:¬ P rb
 pos:ps≠[]
 ris:Ris (esOf ps).flatten
 ne:∀ p ∈ ps.dropLast,p.es≠[]
 one:ps.length=1∨∀ p ∈ ps,p.es≠[]
 len:∀ p ∈ ps,p.es.length≤512
 few:((esOf ps).flatten.length:Int)+1≤2000000
 many:(ps.length:Int)≤2000000
theorem set_mem {ps:List Pc} {i:Nat} {q:Pc} (hq:q.es≠[]∧q.es.length≤512) (h1:ps.length=1∨∀ p ∈ ps,p.es≠[]) (hl:∀ p ∈ ps,p.es.length≤512) (hi:i < ps.length):∀ p ∈ ps.set i q,p.es≠[]∧p.es.length≤512:=by
 intro p hp
 obtain ⟨j,hj⟩:=List.mem_iff_getElem?.1 hp
 rw [List.getElem?_set] at hj
 by_cases e:i=j
 ·rw [if_pos e,if_pos (by omega)] at hj
  cases hj;exact hq
 ·rw [if_neg e] at hj
  have:=get_lt hj
  rcases h1 with h1|h1
  ·omega
  ·exact ⟨h1 p (List.mem_of_getElem? hj),hl p (List.mem_of_getElem? hj)⟩
theorem put_yes {W w2:World} {P:Nat→Prop} {rb ro:Nat} {cs:Array Value} {T:TypeId} {pg c1:Nat} {ps:List Pc} {k x u:Int} {i j g pcc:Nat} {es:List Ent} (h:PutS W P rb ro cs T pg c1 ps k) (hb:Below W.heap.size W w2) (hsk:Sk (esOf ps) k i j true) (hp:ps[i]?=some ⟨some ⟨g,0,none⟩,pcc,es⟩) (hu:es[j]?=some (k,u)) :
  RP W P rb ro cs T (insE k x (esOf ps).flatten) (w2.setCell ⟨g,j * 2+1,none⟩ (.int .u64 x)):=by
 have hP2:=h.pcs.below hb
 have hpm:=List.mem_of_getElem? hp
 have hgP:P g:=h.pcs.pin _ hpm g rfl
 have hrow:Own layN 148 w2 0 (.slice (some ⟨g,0,none⟩) es.length pcc) es:=hP2.each _ hpm
 have hset:=hrow.setU rfl hu (t:=1) (a':=(k,x)) (u:=.int .u64 x) (by decide) rfl
 have hset':Own layN 148 (w2.setCell ⟨g,j * 2+1,none⟩ (.int .u64 x)) 0 (.slice (some ⟨g,0,none⟩) es.length pcc) (es.set j (k,x)):=hset
 have hB:But (fun b=>b=g) w2 (w2.setCell ⟨g,j * 2+1,none⟩ (.int .u64 x)):=(But.refl (fun b=>b=g) w2).setCell ⟨g,j * 2+1,none⟩ (fun _=>rfl) _
 have hPn:=hP2.upd (q:=⟨some ⟨g,0,none⟩,pcc,es.set j (k,x)⟩) hp (hB.mono (fun b e=>by rw [e];rfl)) (by show Own layN _ _ 0 (.slice _ (es.set j (k,x)).length _) _;rw [List.length_set];exact hset') (by show Value.slice _ (es.set j (k,x)).length _=Value.slice _ es.length _;rw [List.length_set])
 have hel:(es.set j (k,x)).length=es.length:=List.length_set
 have hjl:=get_lt hu
 have hfl:(esOf (ps.set i ⟨some ⟨g,0,none⟩,pcc,es.set j (k,x)⟩)).flatten=insE k x (esOf ps).flatten:=by
  rw [esOf_set,← hsk.upd (u:=u) (x:=x) (by rw [esOf_getD hp];exact hu),esOf_getD hp]
 have hK:But (fun b=>P b∨b=rb) W (w2.setCell ⟨g,j * 2+1,none⟩ (.int .u64 x)):=((But.refl (fun b=>P b∨b=rb) W).on hb).trans hB (fun b _ e=>.inl (by have e9:b=g:=e;rw [e9];exact hgP))
 have hne:rb≠g:=fun e=>h.out (by rw [e];exact hgP)
 refine ⟨.slice (some ⟨pg,0,none⟩) ps.length c1,⟨⟨_,hPn.mono (fun b e=>.inl e),set_mem ⟨fun e=>?_,?_⟩ h.one h.len (get_lt hp),hfl⟩,h.ris.ins k x,?_⟩,?_,hK⟩
 ·have e9:es.set j (k,x)=[]:=e
  rw [e9] at hel
  simp at hel
  omega
 ·show (es.set j (k,x)).length≤512
  rw [hel];exact h.len _ hpm
 ·have:=insE_len k x (esOf ps).flatten
  have:=h.few
  omega
 ·rw [set_same h.held]
  exact (hB.block rb (Nat.lt_of_lt_of_le (Array.getElem?_eq_some_iff.1 h.holder).1 hb.size) hne).trans ((hb.block rb (Array.getElem?_eq_some_iff.1 h.holder).1).trans h.holder)
structure PutN (W:World) (P:Nat→Prop) (rb ro:Nat) (cs:Array Value) (T:TypeId) (pg c1:Nat) (ps:List Pc) (i:Nat) (q:Pc) (w4:World):Prop where
 pcs:Pcs w4 (More P W w4) (.slice (some ⟨pg,0,none⟩) ps.length c1) (ps.set i q)
 holder:w4.heap[rb]?=some (.cells cs T (0,0))
 but:But (fun b=>P b∨b=rb) W w4
theorem put_no {W w2 wa w3:World} {P:Nat→Prop} {rb ro:Nat} {cs:Array Value} {T:TypeId} {pg c1:Nat} {ps:List Pc} {k:Int} {i:Nat} {p:Pc} {E':List Ent} {v3:Value} {a3:Option Addr} {n3 c3:Nat} (h:PutS W P rb ro cs T pg c1 ps k) (hb:Below W.heap.size W w2) (hA:Below w2.heap.size w2 wa) (hp:ps[i]?=some p)
  (o3:Own layN 148 w3 0 v3 E') (b3:But (fun b=>p.val.ownBlock=some b) wa w3) (l3:v3.ownBlock=p.val.ownBlock∨∃ b,v3.ownBlock=some b∧wa.heap.size≤b) (hv3:v3=.slice a3 n3 c3) :
  PutN W P rb ro cs T pg c1 ps i ⟨a3,c3,E'⟩ (w3.setCell ⟨pg,i,none⟩ v3):=by
 have hs:=hb.size
 have hsA:=hA.size
 have hs3:=b3.size
 have hpm:=List.mem_of_getElem? hp
 have hPA:=(h.pcs.below hb).below hA
 have hpgP:P pg:=h.pcs.vin pg rfl
 have hne:rb≠pg:=fun e=>h.out (by rw [e];exact hpgP)
 obtain ⟨a',c',hf,_,_⟩:=own_form o3
 have hval:(⟨a3,c3,E'⟩:Pc).val=v3:=by
  rw [hv3] at hf ⊢
  injection hf with e1 e2 e3
  show Value.slice a3 _ c3=_
  rw [e2]
 have hsz:(w3.setCell ⟨pg,i,none⟩ v3).heap.size=w3.heap.size:=by simp [World.setCell]
 have hput:=hPA.put (P':=More P W w3) (q:=⟨a3,c3,E'⟩) rfl hp b3 (by rw [hval];exact o3) (by rw [hval];exact l3) (fun b e=>.inl e) (fun b e=>by
  rw [hval] at e
  rcases l3 with l3|⟨b',hb',hle⟩
  ·rw [l3] at e;exact .inl (h.pcs.pin p hpm b e)
  ·rw [hb'] at e
   cases e
   exact .inr ⟨by omega,(o3.lt b hb').2⟩)
 rw [hval] at hput
 have hB4:But (fun b=>b=pg) w3 (w3.setCell ⟨pg,i,none⟩ v3):=(But.refl (fun b=>b=pg) w3).setCell ⟨pg,i,none⟩ (fun _=>rfl) _
 have hK:But (fun b=>P b∨b=rb) W (w3.setCell ⟨pg,i,none⟩ v3):=((((But.refl (fun b=>P b∨b=rb) W).on hb).on hA).trans b3 (fun b _ e=>.inl (h.pcs.pin p hpm b e))).trans hB4 (fun b _ e=>.inl (by have e9:b=pg:=e;rw [e9];exact hpgP))
 have hrl:=(Array.getElem?_eq_some_iff.1 h.holder).1
 refine ⟨hput.mono (fun b e=>?_),?_,hK⟩
 ·rcases e with e|e
  ·exact .inl e
  ·exact .inr ⟨e.1,by rw [hsz];exact e.2⟩
 ·refine (hB4.block rb (by omega) hne).trans ((b3.block rb (by omega) (fun e=>h.out (h.pcs.pin p hpm rb e))).trans ((hA.block rb (by omega)).trans ((hb.block rb hrl).trans h.holder)))
theorem PutN.small {W w4:World} {P:Nat→Prop} {rb ro:Nat} {cs:Array Value} {T:TypeId} {pg c1:Nat} {ps:List Pc} {k x:Int} {i j:Nat} {p q:Pc} (h:PutS W P rb ro cs T pg c1 ps k) (hn:PutN W P rb ro cs T pg c1 ps i q w4) (hsk:Sk (esOf ps) k i j false) (hp:ps[i]?=some p) (hq:q.es=p.es.take j++(k,x) :: p.es.drop j) (hl:q.es.length≤512) :
  RP W P rb ro cs T (insE k x (esOf ps).flatten) w4:=by
 have hfl:(esOf (ps.set i q)).flatten=insE k x (esOf ps).flatten:=by
  rw [esOf_set,← hsk.ins h.ris x,esOf_getD hp,hq]
 refine ⟨.slice (some ⟨pg,0,none⟩) ps.length c1,⟨⟨_,hn.pcs,set_mem ⟨fun e=>?_,hl⟩ h.one h.len (get_lt hp),hfl⟩,h.ris.ins k x,?_⟩,?_,hn.but⟩
 ·rw [hq] at e;simp at e
 ·have:=insE_len k x (esOf ps).flatten
  have:=h.few
  omega
 ·rw [set_same h.held];exact hn.holder
theorem set_mem2 {ps:List Pc} {i:Nat} {q:Pc} (h1:∀ p ∈ ps,p.es≠[]∧p.es.length≤512):∀ p ∈ (ps.set i q).take i++(ps.set i q).drop (i+1),p.es≠[]∧p.es.length≤512:=by
 intro p hp
 have hm:p ∈ ps:=by
  rcases List.mem_append.1 hp with hp|hp
  ·obtain ⟨j,hj⟩:=List.mem_iff_getElem?.1 hp
   rw [List.getElem?_take] at hj
   split at hj
   ·rw [List.getElem?_set,if_neg (by omega)] at hj;exact List.mem_of_getElem? hj
   ·cases hj
  ·obtain ⟨j,hj⟩:=List.mem_iff_getElem?.1 hp
   rw [List.getElem?_drop,List.getElem?_set,if_neg (by omega)] at hj;exact List.mem_of_getElem? hj
 exact h1 p hm
theorem PutN.less {W w4:World} {P:Nat→Prop} {rb ro:Nat} {cs:Array Value} {T:TypeId} {pg c1:Nat} {ps:List Pc} {k u:Int} {i j:Nat} {p q:Pc} (h:PutS W P rb ro cs T pg c1 ps k) (hn:PutN W P rb ro cs T pg c1 ps i q w4) (hsk:Sk (esOf ps) k i j true) (hp:ps[i]?=some p) (hu:p.es[j]?=some (k,u)) (hq:q.es=p.es.take j++p.es.drop (j+1)) (hl:q.es≠[]) :
  RP W P rb ro cs T (delE k (esOf ps).flatten) w4:=by
 have hpm:=List.mem_of_getElem? hp
 have hfl:(esOf (ps.set i q)).flatten=delE k (esOf ps).flatten:=by
  rw [esOf_set,← hsk.del (u:=u) (by rw [esOf_getD hp];exact hu),esOf_getD hp,hq]
 refine ⟨.slice (some ⟨pg,0,none⟩) ps.length c1,⟨⟨_,hn.pcs,set_mem ⟨hl,?_⟩ h.one h.len (get_lt hp),hfl⟩,h.ris.del k,?_⟩,?_,hn.but⟩
 ·rw [hq,List.length_append,List.length_take,List.length_drop]
  have:=h.len p hpm
  omega
 ·have:=delE_len k (esOf ps).flatten
  have:=h.few
  omega
 ·rw [set_same h.held];exact hn.holder
theorem PutN.gone {W w4 w5:World} {P:Nat→Prop} {rb ro:Nat} {cs:Array Value} {T:TypeId} {pg c1:Nat} {ps:List Pc} {k u:Int} {i j:Nat} {p q:Pc} {v':Value} (h:PutS W P rb ro cs T pg c1 ps k) (hall:∀ p ∈ ps,p.es≠[]) (hn:PutN W P rb ro cs T pg c1 ps i q w4) (hsk:Sk (esOf ps) k i j true) (hp:ps[i]?=some p) (hu:p.es[j]?=some (k,u)) (hq:q.es=p.es.take j++p.es.drop (j+1)) (hl:q.es=[])
  (o5:Own layP 149 w5 0 v' ((ps.set i q).take i++(ps.set i q).drop (i+1))) (b5:But (fun b=>(Value.slice (some ⟨pg,0,none⟩) ps.length c1).ownBlock=some b) w4 w5) (l5:v'.ownBlock=(Value.slice (some ⟨pg,0,none⟩) ps.length c1).ownBlock) :
  RP W P rb ro cs T (delE k (esOf ps).flatten) (w5.setCell ⟨rb,ro,none⟩ v'):=by
 have hil:=get_lt hp
 have hd:=hn.pcs.del b5 o5 l5
 have hfl:(esOf (ps.set i q)).flatten=delE k (esOf ps).flatten:=by
  rw [esOf_set,← hsk.del (u:=u) (by rw [esOf_getD hp];exact hu),esOf_getD hp,hq]
 have hg:(esOf (ps.set i q)).getD i []=[]:=by rw [esOf_getD (p:=q) (by rw [List.getElem?_set,if_pos rfl,if_pos hil]),hl]
 have hfl2:(esOf ((ps.set i q).take i++(ps.set i q).drop (i+1))).flatten=delE k (esOf ps).flatten:=by
  rw [← hfl,split_flat (esOf (ps.set i q)) i 0 (by simp [esOf];exact hil),hg]
  simp [esOf,List.map_take,List.map_drop]
 have hs:=hn.but.size
 have hs5:=b5.size
 have hpgP:P pg:=h.pcs.vin pg rfl
 have hne:rb≠pg:=fun e=>h.out (by rw [e];exact hpgP)
 have hrl:=(Array.getElem?_eq_some_iff.1 h.holder).1
 have hB6:But (fun b=>b=rb) w5 (w5.setCell ⟨rb,ro,none⟩ v'):=(But.refl (fun b=>b=rb) w5).setCell ⟨rb,ro,none⟩ (fun _=>rfl) _
 have hsz:(w5.setCell ⟨rb,ro,none⟩ v').heap.size=w5.heap.size:=by simp [World.setCell]
 have hb5:∀ b,(Value.slice (some ⟨pg,0,none⟩) ps.length c1).ownBlock=some b→b=pg:=fun b e=>(Option.some.inj (show some pg=some b from e)).symm
 have hrb5:w5.heap[rb]?=some (.cells cs T (0,0)):=(b5.block rb (by omega) (fun e=>hne (hb5 rb e))).trans hn.holder
 refine ⟨v',⟨⟨_,(hd.but hB6 (fun b hb e=>?_)).mono (fun b hb=>?_),set_mem2 (fun r hr=>⟨hall r hr,h.len r hr⟩),hfl2⟩,h.ris.del k,?_⟩,set1_heap _ hrb5,(hn.but.trans b5 (fun b _ e=>.inl (by rw [hb5 b e];exact hpgP))).trans hB6 (fun b _ e=>.inr e)⟩
 ·have e9:b=rb:=e
  rcases hb with hb|hb
  ·rw [e9] at hb;exact h.out hb
  ·omega
 ·rcases hb with hb|hb
  ·exact .inl hb
  ·exact .inr ⟨hb.1,by rw [hsz];omega⟩
 ·have:=delE_len k (esOf ps).flatten
  have:=h.few
  omega
theorem PutN.great {W w4 w5:World} {P:Nat→Prop} {rb ro:Nat} {cs:Array Value} {T:TypeId} {pg c1:Nat} {ps ps':List Pc} {k x:Int} {i j:Nat} {p q:Pc} {v':Value} (h:PutS W P rb ro cs T pg c1 ps k) (hn:PutN W P rb ro cs T pg c1 ps i q w4) (hsk:Sk (esOf ps) k i j false) (hp:ps[i]?=some p) (hq:q.es=p.es.take j++(k,x) :: p.es.drop j) (hl:q.es.length=513)
  (h1:Pcs w5 (More (More P W w4) w4 w5) v' ps') (h2:esOf ps'=(esOf (ps.set i q)).take i++q.es.take (q.es.length / 2) :: q.es.drop (q.es.length / 2) :: (esOf (ps.set i q)).drop (i+1)) (h3:w5.heap[rb]?=some (.cells (cs.setIfInBounds ro v') T (0,0))) (h4:But (fun b=>More P W w4 b∨b=rb) w4 w5) :
  RP W P rb ro cs T (insE k x (esOf ps).flatten) w5:=by
 have hil:=get_lt hp
 have hfl:(esOf (ps.set i q)).flatten=insE k x (esOf ps).flatten:=by
  rw [esOf_set,← hsk.ins h.ris x,esOf_getD hp,hq]
 have hg:(esOf (ps.set i q)).getD i []=q.es:=esOf_getD (by rw [List.getElem?_set,if_pos rfl,if_pos hil])
 have hfl2:(esOf ps').flatten=insE k x (esOf ps).flatten:=by
  rw [← hfl,h2,split_flat (esOf (ps.set i q)) i (q.es.length / 2) (by simp [esOf];exact hil),hg]
  simp [List.append_assoc]
 have hs:=hn.but.size
 have hs2:=h4.size
 have hmem:∀ p ∈ ps',p.es≠[]∧p.es.length≤512:=by
  intro r hr
  have hr2:r.es ∈ esOf ps':=List.mem_map.2 ⟨r,hr,rfl⟩
  have hother:∀ l,(l ∈ (esOf (ps.set i q)).take i∨l ∈ (esOf (ps.set i q)).drop (i+1))→l≠[]∧l.length≤512:=by
   intro l hl'
   have hx:∃ j,j≠i∧(esOf ps)[j]?=some l:=by
    rcases hl' with hl'|hl'
    ·obtain ⟨a,ha⟩:=List.mem_iff_getElem?.1 hl'
     rw [List.getElem?_take] at ha
     split at ha
     ·rw [esOf_set,List.getElem?_set,if_neg (by omega)] at ha
      exact ⟨a,by omega,ha⟩
     ·cases ha
    ·obtain ⟨a,ha⟩:=List.mem_iff_getElem?.1 hl'
     rw [List.getElem?_drop,esOf_set,List.getElem?_set,if_neg (by omega)] at ha
     exact ⟨i+1+a,by omega,ha⟩
   obtain ⟨a,hai,ha⟩:=hx
   rw [List.getElem?_map] at ha
   obtain ⟨y,hy,rfl⟩:∃ y,ps[a]?=some y∧y.es=l:=by
    cases hy:ps[a]? with
    | none=>rw [hy] at ha;cases ha
    | some y=>rw [hy] at ha;cases ha;exact ⟨y,rfl,rfl⟩
   have:=get_lt hy
   rcases h.one with h1|h1
   ·omega
   ·exact ⟨h1 y (List.mem_of_getElem? hy),h.len y (List.mem_of_getElem? hy)⟩
  rw [h2] at hr2
  rcases List.mem_append.1 hr2 with hr2|hr2
  ·exact hother _ (.inl hr2)
  ·rcases List.mem_cons.1 hr2 with hr2|hr2
   ·rw [hr2]
    refine ⟨fun e=>?_,by rw [List.length_take];omega⟩
    have:=congrArg List.length e
    rw [List.length_take,List.length_nil] at this
    omega
   ·rcases List.mem_cons.1 hr2 with hr2|hr2
    ·rw [hr2]
     refine ⟨fun e=>?_,by rw [List.length_drop];omega⟩
     have:=congrArg List.length e
     rw [List.length_drop,List.length_nil] at this
     omega
    ·exact hother _ (.inr hr2)
 refine ⟨v',⟨⟨ps',h1.mono (fun b e=>?_),hmem,hfl2⟩,h.ris.ins k x,?_⟩,h3,hn.but.trans h4 (fun b hb e=>?_)⟩
 ·rcases e with (e|e)|e
  ·exact .inl e
  ·exact .inr ⟨e.1,by omega⟩
  ·exact .inr ⟨by omega,e.2⟩
 ·have:=insE_len k x (esOf ps).flatten
  have:=h.few
  omega
 ·rcases e with (e|e)|e
  ·exact .inl e
  ·omega
  ·exact .inr e
end Go.Proofs.YthgelfdefkbfeaaGreatDoor
