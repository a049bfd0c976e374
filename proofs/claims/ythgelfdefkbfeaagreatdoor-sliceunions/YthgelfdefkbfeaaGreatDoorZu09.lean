import Derived.Test.YthgelfdefkbfeaaGreatDoorZu08
import Derived.Test.YthgelfdefkbfeaaGreatDoorZu07
import Derived.Laws.CopyOwn
import Derived.Laws.Append
import Derived.Laws.NewBlocks
import Derived.Lib.AppendZerosOnto
import Derived.Lib.Overlaps
import Derived.Laws.Externs
set_option maxRecDepth 8000
set_option maxHeartbeats 8000000
set_option linter.unusedVariables false
namespace Go.Proofs.YthgelfdefkbfeaaGreatDoor
open Go.RowKit
structure Pcs (w:World) (P:Nat→Prop) (v:Value) (ps:List Pc):Prop where
 own:Own layP 149 w 0 v ps
 each:∀ p ∈ ps,Own layN 148 w 0 p.val p.es
 vin:∀ b,v.ownBlock=some b→P b
 pin:∀ p ∈ ps,∀ b,p.val.ownBlock=some b→P b
 apart:∀ (i j:Nat) (p q:Pc) (b:Nat),ps[i]?=some p→ps[j]?=some q→p.val.ownBlock=some b→q.val.ownBlock=some b→i=j
abbrev esOf (ps:List Pc):List (List Ent):=ps.map Pc.es
theorem Pcs.below {w w':World} {P:Nat→Prop} {v:Value} {ps:List Pc} (h:Pcs w P v ps) (hb:Below w.heap.size w w'):Pcs w' P v ps :=
 ⟨h.own.below hb,fun p hp=>(h.each p hp).below hb,h.vin,h.pin,h.apart⟩
theorem Pcs.but {S:Nat→Prop} {w w':World} {P:Nat→Prop} {v:Value} {ps:List Pc} (h:Pcs w P v ps) (hb:But S w w') (hS:∀ b,P b→¬ S b):Pcs w' P v ps :=
 ⟨h.own.but hb (fun g hg=>hS g (h.vin g hg)),fun p hp=>(h.each p hp).but hb (fun g hg=>hS g (h.pin p hp g hg)),h.vin,h.pin,h.apart⟩
theorem Pcs.mono {w:World} {P Q:Nat→Prop} {v:Value} {ps:List Pc} (h:Pcs w P v ps) (hQ:∀ b,P b→Q b):Pcs w Q v ps :=
 ⟨h.own,h.each,fun b hb=>hQ b (h.vin b hb),fun p hp b hb=>hQ b (h.pin p hp b hb),h.apart⟩
theorem esOf_getD {ps:List Pc} {i:Nat} {p:Pc} (h:ps[i]?=some p):(esOf ps).getD i []=p.es:=by simp [List.getD,esOf,h]
theorem ris_pieces {ps:List Pc} (h:Ris (esOf ps).flatten):(∀ p ∈ ps,Ris p.es)∧∀ (i j:Nat) (p q:Pc),i < j→ps[i]?=some p→ps[j]?=some q→∀ x ∈ p.es,∀ y ∈ q.es,x.1 < y.1:=by
 obtain ⟨h1,h2⟩:=List.pairwise_flatten.1 h
 refine ⟨fun p hp=>h1 p.es (List.mem_map.2 ⟨p,hp,rfl⟩),fun i j p q hij hp hq=>?_⟩
 have hj:=get_lt hq
 have hi:=get_lt hp
 have:=List.pairwise_iff_getElem.1 h2 i j (by simpa using hi) (by simpa using hj) hij
 have e1:ps[i]=p:=(List.getElem?_eq_some_iff.1 hp).2
 have e2:ps[j]=q:=(List.getElem?_eq_some_iff.1 hq).2
 simp only [esOf,List.getElem_map,e1,e2] at this
 exact this
theorem last_mem {l:List Ent} {x:Ent} (h:l.getLast?=some x):x ∈ l:=List.mem_of_getLast? h
theorem ris_last {l:List Ent} (hl:Ris l) {x:Ent} (h:l.getLast?=some x):∀ e ∈ l,e.1≤x.1:=by
 intro e he
 rw [List.getLast?_eq_getElem?] at h
 obtain ⟨i,hi⟩:=List.mem_iff_getElem?.1 he
 have h1:=get_lt h
 have h2:=get_lt hi
 by_cases e1:i=l.length - 1
 ·subst e1;rw [h] at hi;cases hi;exact Int.le_refl _
 ·have:=List.pairwise_iff_getElem.1 hl i (l.length - 1) h2 h1 (by omega)
  rw [(List.getElem?_eq_some_iff.1 hi).2,(List.getElem?_eq_some_iff.1 h).2] at this
  omega
theorem sk_mk {ps:List Pc} {k:Int} {m i j:Nat} {is:Bool} {p:Pc} (hm:ps.length=m+1) (hR:Ris (esOf ps).flatten) (h1:LP (ps.take m) k i) (hp:ps[i]?=some p) (h2:LB p.es k j is):Sk (esOf ps) k i j is:=by
 obtain ⟨r1,r2⟩:=ris_pieces hR
 have hil:=get_lt hp
 have hD:(esOf ps).getD i []=p.es:=esOf_getD hp
 have hlast:i < m→∃ x,p.es.getLast?=some x∧k≤x.1:=fun hlt=>h1.high p (by
  refine List.mem_iff_getElem?.2 ⟨0,?_⟩
  rw [List.getElem?_drop,Nat.add_zero,List.getElem?_take,if_pos hlt];exact hp)
 refine ⟨by simpa using hil,by rw [hD];exact h2.le,?_,?_,by rw [hD];exact h2.is,?_⟩
 ·rw [hD]
  intro e he
  rcases List.mem_append.1 he with he|he
  ·obtain ⟨l,hl,hel⟩:=List.mem_flatten.1 he
   obtain ⟨a,ha⟩:=List.mem_iff_getElem?.1 hl
   rw [List.getElem?_take] at ha
   split at ha
   ·rename_i hai
    rw [List.getElem?_map] at ha
    obtain ⟨q,hq,rfl⟩:∃ q,ps[a]?=some q∧q.es=l:=by
     cases hq:ps[a]? with
     | none=>rw [hq] at ha;cases ha
     | some q=>rw [hq] at ha;cases ha;exact ⟨q,rfl,rfl⟩
    have him:i≤m:=by have:=h1.le;rw [List.length_take] at this;omega
    obtain ⟨x,hx,hxk⟩:=h1.low q (by
     refine List.mem_iff_getElem?.2 ⟨a,?_⟩
     rw [List.getElem?_take,if_pos hai,List.getElem?_take,if_pos (by omega)];exact hq)
    have:=ris_last (r1 q (List.mem_of_getElem? hq)) hx e hel
    omega
   ·cases ha
  ·exact h2.low e he
 ·rw [hD]
  intro e he
  rcases List.mem_append.1 he with he|he
  ·exact h2.high e he
  ·obtain ⟨l,hl,hel⟩:=List.mem_flatten.1 he
   obtain ⟨a,ha⟩:=List.mem_iff_getElem?.1 hl
   rw [List.getElem?_drop,List.getElem?_map] at ha
   obtain ⟨q,hq,rfl⟩:∃ q,ps[i+1+a]?=some q∧q.es=l:=by
    cases hq:ps[i+1+a]? with
    | none=>rw [hq] at ha;cases ha
    | some q=>rw [hq] at ha;cases ha;exact ⟨q,rfl,rfl⟩
   have:=get_lt hq
   obtain ⟨x,hx,hxk⟩:=hlast (by omega)
   have:=r2 i (i+1+a) p q (by omega) hp hq x (last_mem hx) e hel
   omega
 ·rw [hD]
  intro hj
  show i+1=(ps.map Pc.es).length
  rw [List.length_map,hm]
  by_cases hlt:i < m
  ·obtain ⟨x,hx,hxk⟩:=hlast hlt
   have:=h2.low x (by rw [hj,List.take_length];exact last_mem hx)
   omega
  ·omega
theorem lris_of {ps:List Pc} (hR:Ris (esOf ps).flatten) (m:Nat):LRis (ps.take m):=by
 obtain ⟨_,r2⟩:=ris_pieces hR
 intro i j p q x y hij hp hq hx hy
 rw [List.getElem?_take] at hp hq
 split at hp
 ·split at hq
  ·exact r2 i j p q hij hp hq x (last_mem hx) y (last_mem hy)
  ·cases hq
 ·cases hp
theorem seek_nil (rb ro:Nat) (k:Int) (w:World) (a:Option Addr) (c:Nat) (hc:w.cell? ⟨rb,ro,none⟩=some (.slice a 0 c)) :
  Calls Tryz.prog 128 #[.pointer (some ⟨rb,ro,none⟩),.int .u64 k] w fun e w'=>e=.returned (.tuple #[.int .i64 0,.int .i64 0,.bool false])∧w'=w:=by
 go_enter Tryz.func128,Tryz.ntmps128
 go_wp2
 go_ret3
 exact ⟨rfl,rfl⟩
theorem seek_any (rb ro:Nat) (k:Int) (w:World) (v:Value) (P:Nat→Prop) (ps:List Pc) (hc:w.cell? ⟨rb,ro,none⟩=some v) (h:Pcs w P v ps) (hR:Ris (esOf ps).flatten) (hps:ps≠[]) (hn:(ps.length:Int)≤4000000)
  (hne:∀ p ∈ ps.dropLast,p.es≠[]) (hl:∀ p ∈ ps,p.es.length≤513) :
  Calls Tryz.prog 128 #[.pointer (some ⟨rb,ro,none⟩),.int .u64 k] w fun e w'=>∃ (i j:Nat) (is:Bool),e=.returned (.tuple #[.int .i64 (i:Int),.int .i64 (j:Int),.bool is])∧Sk (esOf ps) k i j is∧Below w.heap.size w w':=by
 obtain ⟨m,hm⟩:∃ m,ps.length=m+1:=⟨ps.length - 1,by have:=List.length_pos_iff.2 hps;omega⟩
 obtain ⟨g,c,rfl,_,hg,hcap⟩:=h.own.frm (by omega)
 rw [hm] at hc
 have hrow:TRow layP w (some ⟨g,0,none⟩) m (ps.take m):=(h.own.row rfl).cut m (by omega)
 have hne2:∀ p ∈ ps.take m,∃ x,p.es.getLast?=some x:=fun p hp=>by
  have:=hne p (by rw [List.dropLast_eq_take,hm];exact hp)
  cases he:p.es.getLast? with
  | none=>exact absurd (List.getLast?_eq_none_iff.1 he) this
  | some x=>exact ⟨x,rfl⟩
 have hmI:(m:Int)≤4000000:=by omega
 have HS1:=hide (fun q=>bsP_any (some ⟨g,0,none⟩) m c (ps.take m) k (w.drewN q) (hrow.below (below_drewN (Below.refl _ _) q)) (fun p hp=>(h.each p (List.mem_of_mem_take hp)).below (below_drewN (Below.refl _ _) q)) (fun p hp=>by have:=hl p (List.mem_of_mem_take hp);omega) (lris_of hR m) hne2 hmI)
 have hce:(m:Int)+1≤(c:Int):=by omega
 have HP:=hide h
 have HR:=hide hR
 have HM:=hide hm
 have HL:=hide hl
 have hlt:rb < w.heap.size:=World.block_lt_of_cell? w _ hc
 clear h hR hl hne hps hn hrow hne2 hg hcap hm
 go_enter Tryz.func128,Tryz.ntmps128
 go_wp2_with fail
 go_quiet (fail)
 go_wp2_with fail
 refine (HS1.out _).mono ?_
 rintro e w2 ⟨i,is1,rfl,hLP,hb2⟩
 have hb02:=Below.on (below_drewN (Below.refl w.heap.size w) nq) hb2
 obtain ⟨p,hp⟩:=get_ex (L:=ps) (i:=i) (by have:=hLP.le;rw [List.length_take] at this;have:=HM.out;omega)
 have hpm:=List.mem_of_getElem? hp
 have hP2:=HP.out.below hb02
 have c0:w2.cell? ⟨g,i * 1+0,none⟩=some (.slice p.a p.es.length p.c):=hP2.own.cell hp 0 rfl
 rw [Nat.mul_one,Nat.add_zero] at c0
 have hc2:w2.cell? ⟨rb,ro,none⟩=some (.slice (some ⟨g,0,none⟩) (m+1) c):=(hb02.cell (p:=⟨rb,ro,none⟩) hlt).trans hc
 have hr2:TRow layN w2 p.a p.es.length p.es:=(hP2.each p hpm).row rfl
 have hpl:(p.es.length:Int)≤513:=by have:=HL.out p hpm;omega
 have HS2:=hide (bsE_any p.a p.es.length p.c p.es k w2 hr2 ((ris_pieces HR.out).1 p hpm) (by omega))
 have hiI:(i:Int) < (m:Int)+1:=by have:=get_lt hp;have:=HM.out;omega
 have hiN:i < m+1:=by omega
 have HLP:=hide hLP
 have HP0:=hide hp
 have HB02:=hide hb02
 clear hLP hp hpm hP2 hr2 hpl hb02 hb2 HS1 hc
 go_wp2_with fail
 refine HS2.out.mono ?_
 rintro e w3 ⟨j,is,rfl,hLB,hb3⟩
 have HN:=hide (sk_mk HM.out HR.out HLP.out HP0.out hLB)
 have HB:=hide (Below.on HB02.out hb3)
 clear hLB hb3 HS2 c0 hc2
 go_wp2
 go_ret3
 exact ⟨i,j,is,rfl,HN.out,HB.out⟩
end Go.Proofs.YthgelfdefkbfeaaGreatDoor
namespace Go.Proofs.YthgelfdefkbfeaaGreatDoor
open Go.RowKit
structure Rise (w:World) (P:Nat→Prop) (v:Value) (L:List Ent):Prop where
 ex:∃ ps,Pcs w P v ps∧(∀ p ∈ ps,p.es≠[]∧p.es.length≤512)∧(esOf ps).flatten=L
 ris:Ris L
 few:(L.length:Int)≤2000000
theorem Rise.but {S:Nat→Prop} {w w':World} {P:Nat→Prop} {v:Value} {L:List Ent} (h:Rise w P v L) (hb:But S w w') (hS:∀ b,P b→¬ S b):Rise w' P v L:=by
 obtain ⟨ps,h1,h2,h3⟩:=h.ex
 exact ⟨⟨ps,h1.but hb hS,h2,h3⟩,h.ris,h.few⟩
theorem Rise.mono {w:World} {P Q:Nat→Prop} {v:Value} {L:List Ent} (h:Rise w P v L) (hQ:∀ b,P b→Q b):Rise w Q v L:=by
 obtain ⟨ps,h1,h2,h3⟩:=h.ex
 exact ⟨⟨ps,h1.mono hQ,h2,h3⟩,h.ris,h.few⟩
theorem Pcs.nil (w:World) (P:Nat→Prop):Pcs w P (.slice .none 0 0) [] :=
 ⟨Own.nil _ _ _ _,fun p hp=>(by cases hp),fun b hb=>(by simp [Value.ownBlock] at hb),fun p hp=>(by cases hp),fun i j p q b h=>(by simp at h)⟩
theorem Rise.nil (w:World) (P:Nat→Prop):Rise w P (.slice .none 0 0) []:=⟨⟨[],Pcs.nil w P,fun p hp=>(by cases hp),rfl⟩,List.Pairwise.nil,by simp⟩
theorem pcs_len {ps:List Pc} (h:∀ p ∈ ps,p.es≠[]∧p.es.length≤512):ps.length≤(esOf ps).flatten.length:=by
 have:=flat_len_ge (ps:=esOf ps) (fun l hl=>by obtain ⟨p,hp,rfl⟩:=List.mem_map.1 hl;exact (h p hp).1)
 rwa [List.length_map] at this
theorem set2_heap {w:World} {g:Nat} {T:TypeId} {a b:Value} {fr:Nat × Nat} (x y:Value) (h:w.heap[g]?=some (.cells #[a,b] T fr)):((w.setCell ⟨g,0,none⟩ x).setCell ⟨g,1,none⟩ y).heap[g]?=some (.cells #[x,y] T fr):=by
 have h1:=set1_heap (i:=0) x h
 exact set1_heap (i:=1) y h1
section
variable {rb ro : Nat} {k : Int} {w : World} {v : Value} {P : Nat → Prop} {L : List Ent}
theorem rise_has (hc:w.cell? ⟨rb,ro,none⟩=some v) (h:Rise w P v L) :
  Calls Tryz.prog 64 #[.pointer (some ⟨rb,ro,none⟩),.int .u64 k] w fun e w'=>e=.returned (.bool (look k L).isSome)∧Below w.heap.size w w':=by
 obtain ⟨ps,h1,h2,rfl⟩:=h.ex
 by_cases hps:ps=[]
 ·subst hps
  obtain ⟨a,c,rfl,_,_⟩:=own_form h1.own
  have HS:=hide (seek_nil rb ro k w a c hc)
  clear h h1 h2
  show Calls Tryz.prog _ _ _ fun e w'=>e=.returned (.bool false)∧_
  go_enter Tryz.func64,Tryz.ntmps64
  go_wp2_with fail
  refine HS.out.mono ?_
  rintro e w1 ⟨rfl,hw⟩
  rw [hw];clear hw w1
  go_wp2
  go_ret
  exact ⟨rfl,Below.refl _ _⟩
 ·have hlen:=pcs_len h2
  have HS:=hide (seek_any rb ro k w v P ps hc h1 h.ris hps (by have:=h.few;omega) (fun p hp=>(h2 p (List.dropLast_subset _ hp)).1) (fun p hp=>by have:=(h2 p hp).2;omega))
  have HR:=hide h.ris
  clear h h1 h2 hlen
  go_enter Tryz.func64,Tryz.ntmps64
  go_wp2_with fail
  refine HS.out.mono ?_
  rintro e w1 ⟨i,j,is,rfl,hk,hb⟩
  have HN:=hide (hk.look HR.out)
  have HB:=hide hb
  clear hk hb HS
  go_wp2
  go_ret
  exact ⟨by rw [← HN.out];rfl,HB.out⟩
theorem rise_get (hc:w.cell? ⟨rb,ro,none⟩=some v) (h:Rise w P v L) :
  Calls Tryz.prog 132 #[.pointer (some ⟨rb,ro,none⟩),.int .u64 k] w fun e w'=>e=.returned (.int .u64 ((look k L).getD 0))∧Below w.heap.size w w':=by
 obtain ⟨ps,h1,h2,rfl⟩:=h.ex
 by_cases hps:ps=[]
 ·subst hps
  obtain ⟨a,c,rfl,_,_⟩:=own_form h1.own
  have HS:=hide (seek_nil rb ro k w a c hc)
  clear h h1 h2
  show Calls Tryz.prog _ _ _ fun e w'=>e=.returned (.int .u64 0)∧_
  go_enter Tryz.func132,Tryz.ntmps132
  go_wp2_with fail
  refine HS.out.mono ?_
  rintro e w1 ⟨rfl,hw⟩
  rw [hw];clear hw w1
  go_wp2
  go_ret
  exact ⟨rfl,Below.refl _ _⟩
 ·have hlen:=pcs_len h2
  have HS:=hide (seek_any rb ro k w v P ps hc h1 h.ris hps (by have:=h.few;omega) (fun p hp=>(h2 p (List.dropLast_subset _ hp)).1) (fun p hp=>by have:=(h2 p hp).2;omega))
  have HR:=hide h.ris
  have HP:=hide h1
  have hlt:rb < w.heap.size:=World.block_lt_of_cell? w _ hc
  obtain ⟨g,c,rfl,_,_,_⟩:=h1.own.frm (List.length_pos_iff.2 hps)
  have HF:=hide h.few
  clear h h1 h2
  go_enter Tryz.func132,Tryz.ntmps132
  go_wp2_with fail
  refine HS.out.mono ?_
  rintro e w1 ⟨i,j,is,rfl,hk,hb⟩
  cases is with
  | false =>
   have HN:=hide (hk.no HR.out)
   have HB:=hide hb
   clear hk hb HS
   go_wp2
   go_ret
   exact ⟨by rw [HN.out];rfl,HB.out⟩
  | true =>
   obtain ⟨x,hx⟩:=hk.is.1 rfl
   have HN:=hide (hk.yes hx)
   obtain ⟨p,hp⟩:=get_ex (L:=ps) (i:=i) (by have:=hk.lt;simpa using this)
   rw [esOf_getD hp] at hx
   have hP1:=HP.out.below hb
   have c0:w1.cell? ⟨g,i * 1+0,none⟩=some (.slice p.a p.es.length p.c):=hP1.own.cell hp 0 rfl
   rw [Nat.mul_one,Nat.add_zero] at c0
   have hc2:w1.cell? ⟨rb,ro,none⟩=some (.slice (some ⟨g,0,none⟩) ps.length c):=(hb.cell (p:=⟨rb,ro,none⟩) hlt).trans hc
   have hjl:=get_lt hx
   obtain ⟨pg,pc,hpv,_,_,_⟩:=(hP1.each p (List.mem_of_getElem? hp)).frm (by omega)
   have hrow:=hP1.each p (List.mem_of_getElem? hp)
   obtain ⟨pa,pcc,es⟩:=p
   obtain ⟨rfl,rfl⟩:pa=some ⟨pg,0,none⟩∧pcc=pc:=by injection hpv with e1 e2 e3;exact ⟨e1,e3⟩
   have c1:w1.cell? ⟨pg,j * 2+1,none⟩=some (.int .u64 x):=hrow.cell hx 1 rfl
   have hiI:(i:Int) < (ps.length:Int):=by have:=get_lt hp;omega
   have hjI:(j:Int) < (es.length:Int):=by have:j < es.length:=hjl;omega
   have hiN:i < ps.length:=get_lt hp
   have hjN:j < es.length:=hjl
   have HB:=hide hb
   have c0':w1.cell? ⟨g,i,none⟩=some (.slice (some ⟨pg,0,none⟩) es.length pcc):=c0
   clear hk hb HS hx hp hP1 hjl hrow hpv c0 hc
   go_wp2
   go_ret
   exact ⟨by rw [HN.out];rfl,HB.out⟩
def nxtV (o:Option Ent):Value:=match o with
 | some x=>.tuple #[.agg #[.int .u64 x.1,.int .u64 x.2],.bool true]
 | .none=>.tuple #[.agg #[.int .u64 0,.int .u64 0],.bool false]
theorem rise_next (hc:w.cell? ⟨rb,ro,none⟩=some v) (h:Rise w P v L) :
  Calls Tryz.prog 138 #[.pointer (some ⟨rb,ro,none⟩),.int .u64 k] w fun e w'=>e=.returned (nxtV (nxt k L))∧Below w.heap.size w w':=by
 obtain ⟨ps,h1,h2,rfl⟩:=h.ex
 have hlt:rb < w.heap.size:=World.block_lt_of_cell? w _ hc
 obtain ⟨W0,hW0⟩:∃ W0,W0=w.alloc (.cells #[.int .u64 0,.int .u64 0] 148):=⟨_,rfl⟩
 have hb0:Below w.heap.size w W0:=by rw [hW0];exact below_alloc1 w _
 have hn0:W0.heap[w.heap.size]?=some (.cells #[.int .u64 0,.int .u64 0] 148 (0,0)):=by rw [hW0];exact heap_new _ _
 have hc0:W0.cell? ⟨rb,ro,none⟩=some v:=(hb0.cell (p:=⟨rb,ro,none⟩) hlt).trans hc
 have hs0:w.heap.size < W0.heap.size:=(Array.getElem?_eq_some_iff.1 hn0).1
 by_cases hps:ps=[]
 ·subst hps
  obtain ⟨a,c,rfl,_,_⟩:=own_form h1.own
  have HS:=hide (seek_nil rb ro k W0 a c hc0)
  have HB0:=hide hb0
  have f0:=frz hn0 0
  have f1:=frz hn0 1
  have d0:=cell_at (i:=0) hn0 rfl
  have d1:=cell_at (i:=1) hn0 rfl
  have HN0:=hide hn0
  have hc0':W0.cell? ⟨rb,ro,none⟩=some (.slice a 0 c):=hc0
  clear h h1 h2 hc hn0 hb0
  show Calls Tryz.prog _ _ _ fun e w'=>e=.returned (nxtV .none)∧_
  go_enter Tryz.func138,Tryz.ntmps138
  go_wp2_with fail
  rw [← hW0]
  clear hW0
  refine HS.out.mono ?_
  rintro e w1 ⟨rfl,hw⟩
  rw [hw];clear hw w1
  go_wp2
  refine bodyPost_ret (results_ct rfl _ _ w.heap.size 148 #[.int .u64 0,.int .u64 0] (0,0) _ rfl (set2_heap _ _ HN0.out) Tryz.underlying148 rfl (by kernel_rfl)) rfl ⟨rfl,(HB0.out.setCell (Nat.le_refl _) _).setCell (Nat.le_refl _) _⟩
 ·have hlen:=pcs_len h2
  have hP0:=h1.below hb0
  have HS:=hide (seek_any rb ro k W0 v P ps hc0 hP0 h.ris hps (by have:=h.few;omega) (fun p hp=>(h2 p (List.dropLast_subset _ hp)).1) (fun p hp=>by have:=(h2 p hp).2;omega))
  have HP:=hide hP0
  have HB0:=hide hb0
  have HN0:=hide hn0
  obtain ⟨g,c,rfl,_,_,_⟩:=h1.own.frm (List.length_pos_iff.2 hps)
  have hpos:0 < ps.length:=List.length_pos_iff.2 hps
  have hz:((ps.length:Int) == 0)=false:=by rw [beq_eq_false_iff_ne];omega
  have hzn:¬ ps.length=0:=by omega
  have hrs:rb < W0.heap.size:=by omega
  have HK:=hide hs0
  clear h h1 h2 hlen hP0 hb0 hn0 hc
  go_enter Tryz.func138,Tryz.ntmps138
  go_wp2_with fail
  rw [← hW0]
  clear hW0
  refine HS.out.mono ?_
  rintro e w1 ⟨i,j,is,rfl,hk,hb⟩
  have HN:=hide hk.nxt
  obtain ⟨p,hp⟩:=get_ex (L:=ps) (i:=i) (by have:=hk.lt;simpa using this)
  have hjle:=hk.le
  rw [esOf_getD hp] at HN hjle
  have hP1:=HP.out.below hb
  have c0:w1.cell? ⟨g,i * 1+0,none⟩=some (.slice p.a p.es.length p.c):=hP1.own.cell hp 0 rfl
  rw [Nat.mul_one,Nat.add_zero] at c0
  have hc2:w1.cell? ⟨rb,ro,none⟩=some (.slice (some ⟨g,0,none⟩) ps.length c):=(hb.cell (p:=⟨rb,ro,none⟩) hrs).trans hc0
  have hiI:(i:Int) < (ps.length:Int):=by have:=get_lt hp;omega
  have hiN:i < ps.length:=get_lt hp
  have hn1:w1.heap[w.heap.size]?=some (.cells #[.int .u64 0,.int .u64 0] 148 (0,0)):=(hb.block _ HK.out).trans HN0.out
  have f0:=frz hn1 0
  have f1:=frz hn1 1
  have d0:w1.cell? ⟨w.heap.size,0,none⟩=some (.int .u64 0):=cell_at (i:=0) hn1 rfl
  have d1:w1.cell? ⟨w.heap.size,1,none⟩=some (.int .u64 0):=cell_at (i:=1) hn1 rfl
  have HN1:=hide hn1
  have HB:=hide (Below.on HB0.out hb)
  have hrow:=hP1.each p (List.mem_of_getElem? hp)
  obtain ⟨pa,pcc,es⟩:=p
  have hjle':j≤es.length:=hjle
  have HN':Hid (nxt k (esOf ps).flatten=es[j]?):=HN
  have hrow':Own layN 148 w1 0 (.slice pa es.length pcc) es:=hrow
  have c0':w1.cell? ⟨g,i,none⟩=some (.slice pa es.length pcc):=c0
  clear HN hjle c0 hrow hk hb HS hp hP1 hn1 HP HB0 hc0 HN0 HK
  by_cases hj:j=es.length
  ·have hN:nxt k (esOf ps).flatten=none:=by rw [HN'.out,List.getElem?_eq_none (by omega)]
   have HNN:=hide hN
   have hjb:((j:Int) == (es.length:Int))=true:=by rw [beq_iff_eq];omega
   clear hrow' hN HN' hjle'
   subst hj
   go_wp2
   refine bodyPost_ret (results_ct rfl _ _ w.heap.size 148 #[.int .u64 0,.int .u64 0] (0,0) _ rfl (set2_heap _ _ HN1.out) Tryz.underlying148 rfl (by kernel_rfl)) rfl ⟨by rw [HNN.out];rfl,(HB.out.setCell (Nat.le_refl _) _).setCell (Nat.le_refl _) _⟩
  ·have hjN:j < es.length:=by omega
   obtain ⟨x,hx⟩:=get_ex (L:=es) (i:=j) hjN
   have hN:nxt k (esOf ps).flatten=some x:=by rw [HN'.out,hx]
   have HNN:=hide hN
   obtain ⟨pg,pc,hpv,_,_,_⟩:=hrow'.frm (by omega)
   cases hpv
   have e0:w1.cell? ⟨pg,j * 2,none⟩=some (.int .u64 x.1):=hrow'.cell hx 0 rfl
   have e1:w1.cell? ⟨pg,j * 2+1,none⟩=some (.int .u64 x.2):=hrow'.cell hx 1 rfl
   have hjI:(j:Int) < (es.length:Int):=by omega
   have hjb:((j:Int) == (es.length:Int))=false:=by rw [beq_eq_false_iff_ne];omega
   have hjn:¬ j=es.length:=hj
   have hjn2:¬ (j:Int)=(es.length:Int):=by omega
   clear hrow' hN HN' hj hx hjle'
   go_wp2
   refine bodyPost_ret (results_ct rfl _ _ w.heap.size 148 #[.int .u64 x.1,.int .u64 x.2] (0,0) _ rfl (set2_heap _ _ HN1.out) Tryz.underlying148 rfl (by kernel_rfl)) rfl ⟨by rw [HNN.out];rfl,(HB.out.setCell (Nat.le_refl _) _).setCell (Nat.le_refl _) _⟩
end
end Go.Proofs.YthgelfdefkbfeaaGreatDoor
namespace Go.Proofs.YthgelfdefkbfeaaGreatDoor
open Go.RowKit
theorem run_copy_lay {P:Program} {w:World} (dT sT ty elem:TypeId) (g o dLen dCap:Nat) (a:Addr) (sLen sCap z:Nat) (cur:Array Value) (t:TypeId) (cs:List Value) (n:Nat)
  (hu:P.underlying dT=some (.slice elem)) (hs:(P.info? elem).map (·.size)=some z)
  (hg:w.heap[g]?=some (.cells cur t (0,0))) (hn:Nat.min sLen dLen=n) (hcs:cs.length=n * z)
  (hsrc:∀ j v,cs[j]?=some v→w.cell? (a.add j)=some v) (hfit:o+cs.length≤cur.size) (h1:∀ v ∈ cs,v.oneCell'=true) :
  (Builtin.copy_ #[dT,sT] ty #[.slice (some ⟨g,o,none⟩) dLen dCap,.slice (some a) sLen sCap]).run P w =
   .ok (goInt n) (w.setRow g (cur.toList.take o++cs++cur.toList.drop (o+cs.length)).toArray):=by
 have hl:=run_loadCells_list (P:=P) w a cs hsrc
 have hst:=run_storeCells_at P g o t cs 0 cur w hg (by simpa using hfit) h1
 rw [hcs] at hl
 cases hq:P.info? elem with
 | none=>simp [hq] at hs
 | some i =>
  have hi:i.size=z:=by simpa [hq] using hs
  simp [Builtin.copy_,run_underlying hu,Builtin.lenOf,Builtin.firstCells,sizeOf,typeInfo,hq,hi,hn,hl,hst]
theorem take_app {α:Type} (a b:List α) (n:Nat) (h:a.length=n):(a++b).take n=a:=by rw [← h,List.take_left]
def spl (z:Nat) (cur:Array Value) (p:Nat) (cs:List Value):Array Value:=(cur.toList.take (p * z)++cs++cur.toList.drop (p * z+cs.length)).toArray
theorem spl_size {z:Nat} {cur:Array Value} {p:Nat} {cs:List Value} (h:p * z+cs.length≤cur.size):(spl z cur p cs).size=cur.size:=by
 unfold spl
 simp
 omega
theorem spl_list {z:Nat} {cur:Array Value} {p:Nat} {cs:List Value}:(spl z cur p cs).toList=cur.toList.take (p * z)++cs++cur.toList.drop (p * z+cs.length):=by unfold spl;simp
section
variable {α : Type} (y : Lay α) (t e : TypeId)
theorem run_copyR {w:World} (hu:Tryz.prog.underlying t=some (.slice e)) (hs:(Tryz.prog.info? e).map (·.size)=some y.z) (ty:TypeId) (g:Nat) (cur:Array Value) (T:TypeId) (hg:w.heap[g]?=some (.cells cur T (0,0))) (p dLen dCap:Nat) (sp:Option Addr) (sLen sCap:Nat) (M:List α) (n:Nat) (hM:TRow y w sp n M) (hn:Nat.min sLen dLen=n) (h0:0 < n) (hfit:p * y.z+n * y.z≤cur.size) :
  (Builtin.copy_ #[t,t] ty #[.slice (some ⟨g,p * y.z,none⟩) dLen dCap,.slice sp sLen sCap]).run Tryz.prog w=.ok (goInt n) (w.setRow g (spl y.z cur p (y.fl M))):=by
 obtain ⟨sb,so,rfl,_,_⟩:=hM.at (by omega)
 have hlen:(y.fl M).length=n * y.z:=by rw [y.fl_len,hM.len]
 exact run_copy_lay (P:=Tryz.prog) (w:=w) t t ty e g (p * y.z) dLen dCap ⟨sb,so,.none⟩ sLen sCap y.z cur T (y.fl M) n hu hs hg hn hlen hM.news (by rw [hlen];exact hfit) (y.fl_cell _)
end
theorem wp_copy_run {w:World} {o:Oper} {a:Act} {K:Act→World→Prop} {Q:Exit→Act→World→Prop} (d s:Operand) (t t':TypeId)
  (ho:o.op=.call { callee:=.builtin .copy,args:=#[d,s],argTypes:=#[t,t'] }) (v u:Value) (hd:a.eval d=v) (hs:a.eval s=u) {v':Value} {w':World}
  (hr:(Builtin.copy_ #[t,t'] o.type #[v,u]).run Tryz.prog w=.ok v' w') (h:K (a.put o.dst v') w'):o.wp Tryz.prog a w K Q:=by
 unfold Oper.wp execOp
 simp only [ho,resolve,invoke,builtin,Sem.run_bind,Sem.run_pure,Result.andThen_ok,List.map_toArray,List.map_cons,List.map_nil,hd,hs,hr]
 exact h
theorem wpList_copy_run {w:World} {ops:Array Oper} {rest:List Oper} {o:Oper} {a:Act} {Q:Exit→Act→World→Prop} (hgd:o.guard=none) (d s:Operand) (t t':TypeId)
  (ho:o.op=.call { callee:=.builtin .copy,args:=#[d,s],argTypes:=#[t,t'] }) (v u:Value) (hd:a.eval d=v) (hs:a.eval s=u) {v':Value} {w':World}
  (hr:(Builtin.copy_ #[t,t'] o.type #[v,u]).run Tryz.prog w=.ok v' w') (h:wpList Tryz.prog ops Q rest (a.put o.dst v') w'):wpList Tryz.prog ops Q (o :: rest) a w :=
 wpList_plain hgd fun _ hK=>wp_copy_run d s t t' ho v u hd hs hr (hK _ _ h)
theorem step_copy_run {ops:Array Oper} {o:Oper} {a:Act} {w:World} {K:Act→World→Prop} {Q:Exit→Act→World→Prop} {E:Prop}
  (hg:o.guard=none) (d x:Operand) (dT sT:TypeId) (hop:o.op=Op.call { callee:=Callee.builtin Builtin.copy,args:=#[d,x],argTypes:=#[dT,sT] })
  (v u:Value) (hd:a.eval d=v) (hx:a.eval x=u) {v':Value} {w':World} (hr:(Builtin.copy_ #[dT,sT] o.type #[v,u]).run Tryz.prog w=.ok v' w') (hK:K (a.put o.dst v') w') :
  if Region.wanted o (yielded ops a.tmps)=true then Oper.wp Tryz.prog o a w K Q else E:=by
 have hw:Region.wanted o (yielded ops a.tmps)=true:=by simp [Region.wanted,hg]
 rw [if_pos hw]
 exact wp_copy_run d x dT sT hop v u hd hx hr hK
theorem step_append_run {ops:Array Oper} {o:Oper} {a:Act} {w:World} {K:Act→World→Prop} {Q:Exit→Act→World→Prop} {E:Prop}
  (hg:o.guard=none) (d x:Operand) (dT sT:TypeId) (hop:o.op=Op.call { callee:=Callee.builtin Builtin.append,args:=#[d,x],argTypes:=#[dT,sT] })
  (v u:Value) (hd:a.eval d=v) (hx:a.eval x=u) {v':Value} {w':World} (hr:(Builtin.append_ #[dT,sT] o.type #[v,u]).run Tryz.prog w=.ok v' w') (hK:K (a.put o.dst v') w') :
  if Region.wanted o (yielded ops a.tmps)=true then Oper.wp Tryz.prog o a w K Q else E:=by
 have hw:Region.wanted o (yielded ops a.tmps)=true:=by simp [Region.wanted,hg]
 rw [if_pos hw]
 unfold Oper.wp execOp
 simp only [hop,resolve,invoke,builtin,Sem.run_bind,Sem.run_pure,Result.andThen_ok,List.map_toArray,List.map_cons,List.map_nil,hd,hx,hr]
 exact hK
theorem wpList_clear_run {w:World} {ops:Array Oper} {rest:List Oper} {o:Oper} {a:Act} {Q:Exit→Act→World→Prop} (hgd:o.guard=none) (d:Operand) (t:TypeId)
  (ho:o.op=.call { callee:=.builtin .clear,args:=#[d],argTypes:=#[t] }) (v:Value) (hd:a.eval d=v) {v':Value} {w':World}
  (hr:(Builtin.clear_ #[t] o.type #[v]).run Tryz.prog w=.ok v' w') (h:wpList Tryz.prog ops Q rest (a.put o.dst v') w'):wpList Tryz.prog ops Q (o :: rest) a w :=
 wpList_plain hgd fun _ hK=>by
  unfold Oper.wp execOp
  simp only [ho,resolve,invoke,builtin,Sem.run_bind,Sem.run_pure,Result.andThen_ok,List.map_toArray,List.map_cons,List.map_nil,hd,hr]
  exact hK _ _ h
theorem run_clearR {α:Type} (y:Lay α) (t e:TypeId) {w:World} (hu:Tryz.prog.underlying t=some (.slice e)) (z:Value) (hv:∀ w,(zeroValue e).run Tryz.prog w=.ok z w) (zr:α) (hz:(Builtin.zeroCells z.cells 1).toList=y.cs zr) (ty:TypeId) (g:Nat) (cur:Array Value) (T:TypeId) (hg:w.heap[g]?=some (.cells cur T (0,0))) (p cc:Nat) (hfit:p * y.z+y.z≤cur.size) :
  (Builtin.clear_ #[t] ty #[.slice (some ⟨g,p * y.z,none⟩) 1 cc]).run Tryz.prog w=.ok (.tuple #[]) (w.setRow g (spl y.z cur p (y.cs zr))):=by
 have hst:=run_storeCells_at Tryz.prog g (p * y.z) T (y.cs zr) 0 cur w hg (by rw [y.len];simpa using hfit) (y.one zr)
 simp only [Nat.add_zero] at hst
 simp [Builtin.clear_,run_underlying hu,hv,hz,hst,spl]
theorem spl_take {z:Nat} {cur:Array Value} {p:Nat} {cs:List Value} (h:p * z≤cur.size):(spl z cur p cs).toList.take (p * z)=cur.toList.take (p * z):=by
 rw [spl_list,List.append_assoc]
 exact take_app _ _ _ (by rw [List.length_take,Array.length_toList];omega)
theorem Own.raw {α:Type} {y:Lay α} {e:TypeId} {w:World} {base g n c:Nat} {L:List α} (h:Own y e w base (.slice (some ⟨g,0,none⟩) n c) L):∃ cur,w.heap[g]?=some (.cells cur e (0,0))∧cur.size=c * y.z∧cur.toList.take (L.length * y.z)=y.fl L∧L.length≤c∧base≤g∧c≤maxLen:=by
 obtain ⟨h1,h2⟩:=h
 rcases h2 with ⟨h2,_⟩|⟨g',cap,cur,h2,hb,hh,hc,hm,hs',ht⟩
 ·cases h2
 ·cases h2
  exact ⟨cur,hh,hs',ht,hc,hb,hm⟩
theorem Own.of_raw {α:Type} {y:Lay α} {e:TypeId} {w:World} {base g c:Nat} {L:List α} {cur:Array Value} (hh:w.heap[g]?=some (.cells cur e (0,0))) (hs:cur.size=c * y.z) (ht:cur.toList.take (L.length * y.z)=y.fl L) (hc:L.length≤c) (hb:base≤g) (hm:c≤maxLen):Own y e w base (.slice (some ⟨g,0,none⟩) L.length c) L :=
 ⟨by rw [y.fl_len],.inr ⟨g,c,cur,rfl,hb,hh,hc,hm,hs,ht⟩⟩
theorem drop_app {α:Type} (a b:List α) (n:Nat) (h:a.length=n):(a++b).drop n=b:=by rw [← h,List.drop_left]
theorem spl_shift {α:Type} (y:Lay α) {cur:Array Value} {L:List α} {i c:Nat} (x:α) (hs:cur.size=c * y.z) (ht:cur.toList.take (L.length * y.z)=y.fl L) (hi:i < L.length) (hc:L.length+1≤c) :
  (spl y.z (spl y.z cur (i+1) (y.fl (L.drop i))) i (y.cs x)).size=c * y.z∧(spl y.z (spl y.z cur (i+1) (y.fl (L.drop i))) i (y.cs x)).toList.take ((L.take i++x :: L.drop i).length * y.z)=y.fl (L.take i++x :: L.drop i):=by
 have hdl:(y.fl (L.drop i)).length=(L.length - i) * y.z:=by rw [y.fl_len,List.length_drop]
 have e1:(i+1) * y.z+(L.length - i) * y.z=(L.length+1) * y.z:=by rw [← Nat.add_mul];congr 1;omega
 have hle:(L.length+1) * y.z≤c * y.z:=Nat.mul_le_mul_right _ hc
 have h1:(spl y.z cur (i+1) (y.fl (L.drop i))).size=cur.size:=spl_size (by rw [hdl,e1,hs];exact hle)
 have hi1:(i+1) * y.z≤c * y.z:=Nat.mul_le_mul_right _ (by omega)
 have hcs:=y.len x
 have e2:i * y.z+y.z=(i+1) * y.z:=by rw [Nat.succ_mul]
 refine ⟨by rw [spl_size (by rw [hcs,h1,hs,e2];exact hi1),h1,hs],?_⟩
 have hti:cur.toList.take (i * y.z)=y.fl (L.take i):=by
  rw [← y.fl_take,← ht,List.take_take]
  congr 1
  have:i * y.z≤L.length * y.z:=Nat.mul_le_mul_right _ (by omega)
  omega
 have hl1:(cur.toList.take ((i+1) * y.z)).length=(i+1) * y.z:=by rw [List.length_take,Array.length_toList,hs];omega
 have t1:(spl y.z cur (i+1) (y.fl (L.drop i))).toList.take (i * y.z)=y.fl (L.take i):=by
  rw [spl_list,List.append_assoc,List.take_append_of_le_length (by rw [hl1,← e2];omega),List.take_take,← hti]
  congr 1
  rw [← e2];omega
 have t2:(spl y.z cur (i+1) (y.fl (L.drop i))).toList.drop (i * y.z+(y.cs x).length)=y.fl (L.drop i)++cur.toList.drop ((i+1) * y.z+(y.fl (L.drop i)).length):=by
  rw [spl_list,hcs,e2,List.append_assoc,drop_app _ _ _ hl1]
 rw [spl_list (cs:=y.cs x),t1,t2]
 have e3:y.fl (L.take i)++y.cs x++(y.fl (L.drop i)++cur.toList.drop ((i+1) * y.z+(y.fl (L.drop i)).length))=y.fl (L.take i++x :: L.drop i)++cur.toList.drop ((i+1) * y.z+(y.fl (L.drop i)).length):=by
  rw [y.fl_app,y.fl_cons]
  simp only [List.append_assoc]
 rw [e3]
 exact take_app _ _ _ (by rw [y.fl_len])
theorem spl_new {α:Type} (y:Lay α) {cur:Array Value} {L:List α} {i c:Nat} (x:α) (hs:cur.size=c * y.z) (ht:cur.toList.take (i * y.z)=y.fl (L.take i)) (hi:i < L.length) (hc:L.length+1≤c) :
  (spl y.z (spl y.z cur i (y.cs x)) (i+1) (y.fl (L.drop i))).size=c * y.z∧(spl y.z (spl y.z cur i (y.cs x)) (i+1) (y.fl (L.drop i))).toList.take ((L.take i++x :: L.drop i).length * y.z)=y.fl (L.take i++x :: L.drop i):=by
 have hdl:(y.fl (L.drop i)).length=(L.length - i) * y.z:=by rw [y.fl_len,List.length_drop]
 have e1:(i+1) * y.z+(L.length - i) * y.z=(L.length+1) * y.z:=by rw [← Nat.add_mul];congr 1;omega
 have hle:(L.length+1) * y.z≤c * y.z:=Nat.mul_le_mul_right _ hc
 have hi1:(i+1) * y.z≤c * y.z:=Nat.mul_le_mul_right _ (by omega)
 have hcs:=y.len x
 have e2:i * y.z+y.z=(i+1) * y.z:=by rw [Nat.succ_mul]
 have h1:(spl y.z cur i (y.cs x)).size=cur.size:=spl_size (by rw [hcs,hs,e2];exact hi1)
 refine ⟨by rw [spl_size (by rw [hdl,h1,hs,e1];exact hle),h1,hs],?_⟩
 have hl0:(cur.toList.take (i * y.z)).length=i * y.z:=by rw [List.length_take,Array.length_toList,hs];omega
 have hl1:(cur.toList.take (i * y.z)++y.cs x).length=(i+1) * y.z:=by rw [List.length_append,hl0,hcs,e2]
 have t1:(spl y.z cur i (y.cs x)).toList.take ((i+1) * y.z)=y.fl (L.take i)++y.cs x:=by
  rw [spl_list,take_app _ _ _ hl1,ht]
 rw [spl_list (cur:=spl y.z cur i (y.cs x)),t1]
 have e3:y.fl (L.take i)++y.cs x++y.fl (L.drop i)=y.fl (L.take i++x :: L.drop i):=by
  rw [y.fl_app,y.fl_cons]
  simp only [List.append_assoc]
 rw [e3]
 exact take_app _ _ _ (by rw [y.fl_len])
end Go.Proofs.YthgelfdefkbfeaaGreatDoor
