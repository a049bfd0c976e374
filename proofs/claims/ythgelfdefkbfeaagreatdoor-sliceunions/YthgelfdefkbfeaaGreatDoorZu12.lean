import Derived.Test.YthgelfdefkbfeaaGreatDoorZu10
import Derived.Test.YthgelfdefkbfeaaGreatDoorZu11
import Derived.Lib.SliceRun
set_option maxRecDepth 8000
set_option maxHeartbeats 8000000
set_option linter.unusedVariables false
namespace Go.Proofs.YthgelfdefkbfeaaGreatDoor
open Go.RowKit
theorem pcs_ne {w:World} {P:Nat→Prop} {v:Value} {ps:List Pc} (h:Pcs w P v ps) {b:Nat} (hb:v.ownBlock=some b) {q:Pc} (hq:Own layN 148 w 0 q.val q.es):q.val.ownBlock≠some b:=by
 intro e
 obtain ⟨c1,h1⟩:=own_ty h.own hb
 obtain ⟨c2,h2⟩:=own_ty hq e
 rw [h1] at h2
 simp at h2
theorem Pcs.put {w w1:World} {P P':Nat→Prop} {pg n c:Nat} {ps:List Pc} {i:Nat} {p q:Pc} (h:Pcs w P (.slice (some ⟨pg,0,none⟩) n c) ps) (hn:ps.length=n) (hp:ps[i]?=some p) (hb:But (fun b=>p.val.ownBlock=some b) w w1) (ho:Own layN 148 w1 0 q.val q.es)
  (hq:q.val.ownBlock=p.val.ownBlock∨∃ b,q.val.ownBlock=some b∧w.heap.size≤b) (hP:∀ b,P b→P' b) (hqP:∀ b,q.val.ownBlock=some b→P' b) :
  Pcs (w1.setCell ⟨pg,i,none⟩ q.val) P' (.slice (some ⟨pg,0,none⟩) n c) (ps.set i q):=by
 have hpm:=List.mem_of_getElem? hp
 have hpg:∀ r ∈ ps,r.val.ownBlock≠some pg:=fun r hr=>pcs_ne h rfl (h.each r hr)
 have hlt:=(h.own.lt pg rfl).2
 have hown1:Own layP 149 w1 0 (.slice (some ⟨pg,0,none⟩) n c) ps:=h.own.but hb (fun g hg e=>by
  have e1:pg=g:=by simpa [Value.ownBlock] using hg
  subst e1;exact hpg p hpm e)
 have hown2:=hown1.setU hn hp (t:=0) (a':=q) (u:=q.val) (by decide) rfl
 have e0:i * layP.z+0=i:=Nat.mul_one i
 rw [e0] at hown2
 have hB:But (fun b=>b=pg) w1 (w1.setCell ⟨pg,i,none⟩ q.val):=(But.refl (fun b=>b=pg) w1).setCell ⟨pg,i,none⟩ (fun _=>rfl) _
 have hqn:q.val.ownBlock≠some pg:=by
  intro e
  obtain ⟨c1,h1⟩:=own_ty hown1 rfl
  obtain ⟨c2,h2⟩:=own_ty ho e
  rw [h1] at h2
  simp at h2
 have hget:∀ (j:Nat) (r:Pc),(ps.set i q)[j]?=some r→(j=i∧r=q)∨(j≠i∧ps[j]?=some r):=by
  intro j r hr
  rw [List.getElem?_set] at hr
  by_cases e:i=j
  ·rw [if_pos e] at hr
   split at hr
   ·cases hr;exact .inl ⟨e.symm,rfl⟩
   ·cases hr
  ·rw [if_neg e] at hr;exact .inr ⟨fun e'=>e e'.symm,hr⟩
 have hold:∀ (j:Nat) (r:Pc),j≠i→ps[j]?=some r→Own layN 148 w1 0 r.val r.es:=fun j r hj hr =>
  (h.each r (List.mem_of_getElem? hr)).but hb (fun g hg e=>hj (h.apart j i r p g hr hp hg e))
 have hdis:∀ (j:Nat) (r:Pc) (b:Nat),j≠i→ps[j]?=some r→r.val.ownBlock=some b→q.val.ownBlock≠some b:=by
  intro j r b hj hr hrb e
  rcases hq with hq|⟨b',hb',hle⟩
  ·rw [hq] at e;exact hj (h.apart j i r p b hr hp hrb e)
  ·rw [hb'] at e
   cases e
   have:=((h.each r (List.mem_of_getElem? hr)).lt b hrb).2
   omega
 refine ⟨hown2,fun r hr=>?_,fun b hb=>hP b (h.vin b hb),fun r hr b hb=>?_,fun j1 j2 r1 r2 b hr1 hr2 hb1 hb2=>?_⟩
 ·obtain ⟨j,hj⟩:=List.mem_iff_getElem?.1 hr
  rcases hget j r hj with ⟨rfl,rfl⟩|⟨hne,hr'⟩
  ·exact ho.but hB (fun g hg e=>hqn (by rw [hg,e]))
  ·exact (hold j r hne hr').but hB (fun g hg e=>hpg r (List.mem_of_getElem? hr') (by rw [hg,e]))
 ·obtain ⟨j,hj⟩:=List.mem_iff_getElem?.1 hr
  rcases hget j r hj with ⟨rfl,rfl⟩|⟨hne,hr'⟩
  ·exact hqP b hb
  ·exact hP b (h.pin r (List.mem_of_getElem? hr') b hb)
 ·rcases hget j1 r1 hr1 with ⟨e1,rfl⟩|⟨n1,h1⟩
  ·rcases hget j2 r2 hr2 with ⟨e2,rfl⟩|⟨n2,h2⟩
   ·rw [e1,e2]
   ·exact absurd hb1 (hdis j2 r2 b n2 h2 hb2)
  ·rcases hget j2 r2 hr2 with ⟨e2,rfl⟩|⟨n2,h2⟩
   ·exact absurd hb2 (hdis j1 r1 b n1 h1 hb1)
   ·exact h.apart j1 j2 r1 r2 b h1 h2 hb1 hb2
theorem cloE_any (b off n c:Nat) (M:List Ent) (w:World) (h:TRow layN w (some ⟨b,off,none⟩) n M) (hn:(n:Int)≤4000000) :
  Calls Tryz.prog 169 #[.slice (some ⟨b,off,none⟩) n c] w fun r w'=>∃ v',r=.returned v'∧Own layN 148 w' w.heap.size v' M∧Below w.heap.size w w':=by
 obtain ⟨i0,hi,hz0,hz1,hz2⟩:=info_parts Tryz.infoN
 have hb1:=below_alloc1 w (.cells #[] 148)
 have HB1:=hide hb1
 have HR:=hide (h.below hb1)
 have HO:=hide (Own.lit0 layN 148 w (base:=w.heap.size) (Nat.le_refl _))
 have HN:=hide hn
 clear h hb1 hn
 have hnil:=fun W:World=>Lib.run_eql_slice_nil (P:=Tryz.prog) W 149 148 (some ⟨b,off,none⟩) n c 0 0 Tryz.underlying149
 go_enter Tryz.func169,Tryz.ntmps169
 go_wp2_with (at_builtin;refine append_lay layN _ 149 148 i0 _ 16 Tryz.underlying149 hi hz0 hz1 hz2 rfl rfl _ _ rfl w.heap.size _ [] rfl HO.out _ n c M rfl HR.out (fun e=>by cases e) ?b1 ?b2 (by simp) ?_)
 case b1=>unfold maxLen;have:=HN.out;simp;omega
 case b2=>have:=HN.out;simp;omega
 intro v' w' o1 g1 l1
 go_wp2
 go_ret
 refine ⟨v',rfl,by simpa using o1,?_⟩
 exact (But.of_below (S:=fun b=>b=w.heap.size) HB1.out).grown g1 (fun k hk e=>by simp [Value.ownBlock] at e;exact e.symm) |>.below (Nat.le_refl _) (fun k e=>by omega)
theorem Pcs.ins {w w1:World} {P P':Nat→Prop} {v v':Value} {ps:List Pc} {i:Nat} {q:Pc} (h:Pcs w P v ps) (hi:i≤ps.length) (hb:But (fun b=>v.ownBlock=some b) w w1) (ho:Own layP 149 w1 0 v' (ps.take i++q :: ps.drop i))
  (hq:Own layN 148 w 0 q.val q.es) (hqn:∀ r ∈ ps,∀ b,r.val.ownBlock=some b→q.val.ownBlock≠some b) (hP:∀ b,P b→P' b) (hvP:∀ b,v'.ownBlock=some b→P' b) (hqP:∀ b,q.val.ownBlock=some b→P' b):Pcs w1 P' v' (ps.take i++q :: ps.drop i):=by
 have hne:∀ r:Pc,Own layN 148 w 0 r.val r.es→∀ g,r.val.ownBlock=some g→¬ v.ownBlock=some g:=fun r hr g hg e=>pcs_ne h e hr hg
 have hmem:∀ r,r ∈ ps.take i++q :: ps.drop i→r=q∨r ∈ ps:=fun r hr=>by
  rcases List.mem_append.1 hr with hr|hr
  ·exact .inr (List.mem_of_mem_take hr)
  ·rcases List.mem_cons.1 hr with hr|hr
   ·exact .inl hr
   ·exact .inr (List.mem_of_mem_drop hr)
 have htl:(ps.take i).length=i:=by rw [List.length_take];omega
 have hget:∀ (j:Nat) (r:Pc),(ps.take i++q :: ps.drop i)[j]?=some r→(j < i∧ps[j]?=some r)∨(j=i∧r=q)∨(i < j∧ps[j - 1]?=some r):=by
  intro j r hr
  rcases Nat.lt_trichotomy j i with hj|hj|hj
  ·rw [List.getElem?_append_left (by omega),List.getElem?_take,if_pos hj] at hr
   exact .inl ⟨hj,hr⟩
  ·subst hj
   rw [List.getElem?_append_right (by omega),htl,Nat.sub_self] at hr
   simp at hr
   exact .inr (.inl ⟨rfl,hr.symm⟩)
  ·rw [List.getElem?_append_right (by omega),htl] at hr
   obtain ⟨m,hm⟩:∃ m,j - i=m+1:=⟨j - i - 1,by omega⟩
   rw [hm,List.getElem?_cons_succ,List.getElem?_drop] at hr
   rw [show i+m=j - 1 by omega] at hr
   exact .inr (.inr ⟨hj,hr⟩)
 refine ⟨ho,fun r hr=>?_,hvP,fun r hr b hb=>?_,fun j1 j2 r1 r2 b hr1 hr2 hb1 hb2=>?_⟩
 ·rcases hmem r hr with rfl|hr
  ·exact hq.but hb (hne _ hq)
  ·exact (h.each r hr).but hb (hne _ (h.each r hr))
 ·rcases hmem r hr with rfl|hr
  ·exact hqP b hb
  ·exact hP b (h.pin r hr b hb)
 ·rcases hget j1 r1 hr1 with ⟨l1,g1⟩|⟨e1,rfl⟩|⟨l1,g1⟩ <;> rcases hget j2 r2 hr2 with ⟨l2,g2⟩|⟨e2,rfl⟩|⟨l2,g2⟩
  ·exact h.apart j1 j2 r1 r2 b g1 g2 hb1 hb2
  ·exact absurd hb2 (hqn r1 (List.mem_of_getElem? g1) b hb1)
  ·have:=h.apart j1 (j2 - 1) r1 r2 b g1 g2 hb1 hb2;omega
  ·exact absurd hb1 (hqn r2 (List.mem_of_getElem? g2) b hb2)
  ·omega
  ·exact absurd hb1 (hqn r2 (List.mem_of_getElem? g2) b hb2)
  ·have:=h.apart (j1 - 1) j2 r1 r2 b g1 g2 hb1 hb2;omega
  ·exact absurd hb2 (hqn r1 (List.mem_of_getElem? g1) b hb1)
  ·have:=h.apart (j1 - 1) (j2 - 1) r1 r2 b g1 g2 hb1 hb2;omega
theorem Pcs.del {w w1:World} {P:Nat→Prop} {v v':Value} {ps:List Pc} {i:Nat} (h:Pcs w P v ps) (hb:But (fun b=>v.ownBlock=some b) w w1) (ho:Own layP 149 w1 0 v' (ps.take i++ps.drop (i+1))) (hv:v'.ownBlock=v.ownBlock):Pcs w1 P v' (ps.take i++ps.drop (i+1)):=by
 have hne:∀ r:Pc,Own layN 148 w 0 r.val r.es→∀ g,r.val.ownBlock=some g→¬ v.ownBlock=some g:=fun r hr g hg e=>pcs_ne h e hr hg
 have hmem:∀ r,r ∈ ps.take i++ps.drop (i+1)→r ∈ ps:=fun r hr=>by
  rcases List.mem_append.1 hr with hr|hr
  ·exact List.mem_of_mem_take hr
  ·exact List.mem_of_mem_drop hr
 have hget:∀ (j:Nat) (r:Pc),(ps.take i++ps.drop (i+1))[j]?=some r→(j < i∧ps[j]?=some r)∨(i≤j∧ps[j+1]?=some r):=by
  intro j r hr
  by_cases hj:j < (ps.take i).length
  ·rw [List.getElem?_append_left hj] at hr
   rw [List.length_take] at hj
   rw [List.getElem?_take,if_pos (by omega)] at hr
   exact .inl ⟨by omega,hr⟩
  ·rw [List.getElem?_append_right (by omega),List.getElem?_drop] at hr
   rw [List.length_take] at hj hr
   have:=get_lt hr
   rw [show i+1+(j - min i ps.length)=j+1 by omega] at hr
   exact .inr ⟨by omega,hr⟩
 refine ⟨ho,fun r hr=>(h.each r (hmem r hr)).but hb (hne _ (h.each r (hmem r hr))),fun b hb=>h.vin b (by rw [← hv];exact hb),fun r hr b hb=>h.pin r (hmem r hr) b hb,fun j1 j2 r1 r2 b hr1 hr2 hb1 hb2=>?_⟩
 rcases hget j1 r1 hr1 with ⟨l1,g1⟩|⟨l1,g1⟩ <;> rcases hget j2 r2 hr2 with ⟨l2,g2⟩|⟨l2,g2⟩
 ·exact h.apart j1 j2 r1 r2 b g1 g2 hb1 hb2
 ·have:=h.apart j1 (j2+1) r1 r2 b g1 g2 hb1 hb2;omega
 ·have:=h.apart (j1+1) j2 r1 r2 b g1 g2 hb1 hb2;omega
 ·have:=h.apart (j1+1) (j2+1) r1 r2 b g1 g2 hb1 hb2;omega
def More (P:Nat→Prop) (w w':World) (b:Nat):Prop:=P b∨(w.heap.size≤b∧b < w'.heap.size)
end Go.Proofs.YthgelfdefkbfeaaGreatDoor
namespace Go.Proofs.YthgelfdefkbfeaaGreatDoor
open Go.RowKit
theorem set_flat2 (ps:List Pc) (i:Nat) (q1 q2:Pc) (hi:i < ps.length):(ps.set i q1).take (i+1)++q2 :: (ps.set i q1).drop (i+1)=ps.take i++q1 :: q2 :: ps.drop (i+1):=by
 rw [List.set_eq_take_append_cons_drop,if_pos hi]
 have hl:(ps.take i).length=i:=by rw [List.length_take];omega
 have e1:(ps.take i++q1 :: ps.drop (i+1)).take (i+1)=ps.take i++[q1]:=by
  rw [show ps.take i++q1 :: ps.drop (i+1)=(ps.take i++[q1])++ps.drop (i+1) by simp]
  exact List.take_left' (by simp [hl])
 have e2:(ps.take i++q1 :: ps.drop (i+1)).drop (i+1)=ps.drop (i+1):=by
  rw [show ps.take i++q1 :: ps.drop (i+1)=(ps.take i++[q1])++ps.drop (i+1) by simp]
  exact List.drop_left' (by simp [hl])
 rw [e1,e2]
 simp
theorem heap_alloc_old {w:World} {k:Nat} (o:Obj) (h:k < w.heap.size):(w.alloc o).heap[k]?=w.heap[k]?:=Below.heap_alloc _ _ _ h
theorem halve_end {w W1 w2 w3:World} {P:Nat→Prop} {v v2 v3:Value} {ps:List Pc} {i hf rb ro pg:Nat} {es:List Ent} {q1:Pc} {a2:Option Addr} {c2:Nat} {cs:Array Value} {T:TypeId}
  (hP1:Pcs W1 P v (ps.set i q1)) (hB1:But (fun b=>b=pg) w W1) (o2:Own layN 148 w2 W1.heap.size v2 (es.drop hf)) (b2:Below W1.heap.size W1 w2) (hv2:v2=.slice a2 (es.drop hf).length c2)
  (o3:Own layP 149 w3 0 v3 ((ps.set i q1).take (i+1)++(⟨a2,c2,es.drop hf⟩:Pc) :: (ps.set i q1).drop (i+1))) (b3:But (fun b=>v.ownBlock=some b) (w2.alloc (.cells #[v2] 149)) w3)
  (l3:v3.ownBlock=v.ownBlock∨∃ b,v3.ownBlock=some b∧(w2.alloc (.cells #[v2] 149)).heap.size≤b) (r3:w3.heap[rb]?=some (.cells cs T (0,0))) (hlt:rb < w.heap.size) (hPr:¬ P rb) (hpP:P pg) (hil:i < ps.length) (hq1:q1.es=es.take hf) :
  ∃ v' ps',Pcs (w3.setCell ⟨rb,ro,none⟩ v3) (More P w (w3.setCell ⟨rb,ro,none⟩ v3)) v' ps'∧esOf ps'=(esOf ps).take i++es.take hf :: es.drop hf :: (esOf ps).drop (i+1)∧(w3.setCell ⟨rb,ro,none⟩ v3).heap[rb]?=some (.cells (cs.setIfInBounds ro v') T (0,0))∧But (fun b=>P b∨b=rb) w (w3.setCell ⟨rb,ro,none⟩ v3):=by
 have hs1:=hB1.size
 have hs2:=b2.size
 have hs3:=b3.size
 rw [World.size_alloc] at hs3
 have ba:Below w2.heap.size w2 (w2.alloc (.cells #[v2] 149)):=below_alloc1 w2 _
 have hPA:Pcs (w2.alloc (.cells #[v2] 149)) P v (ps.set i q1):=(hP1.below b2).below ba
 have hsz4:(w3.setCell ⟨rb,ro,none⟩ v3).heap.size=w3.heap.size:=by simp [World.setCell]
 have h2lt:=fun b hb=>(o2.lt b hb)
 have hqo:Own layN 148 (w2.alloc (.cells #[v2] 149)) 0 (⟨a2,c2,es.drop hf⟩:Pc).val (⟨a2,c2,es.drop hf⟩:Pc).es:=by
  have h9:=(o2.mono (Nat.zero_le _)).below ba
  rw [hv2] at h9 ⊢
  exact h9
 have hv2b:(⟨a2,c2,es.drop hf⟩:Pc).val.ownBlock=v2.ownBlock:=by rw [hv2]
 have hins:=hPA.ins (P':=More P w w3) (v':=v3) (i:=i+1) (q:=⟨a2,c2,es.drop hf⟩) (by rw [List.length_set];omega) b3 o3 hqo
  (fun r hr b hb e=>by
   rw [hv2b] at e
   have h8:=(h2lt b e).1
   have h7:=((hP1.each r hr).lt b hb).2
   omega)
  (fun b hb=>.inl hb)
  (fun b hb=>by
   rcases l3 with l3|⟨b',hb',hle⟩
   ·rw [l3] at hb;exact .inl (hPA.vin b hb)
   ·rw [hb'] at hb
    cases hb
    rw [World.size_alloc] at hle
    exact .inr ⟨by omega,(o3.lt b hb').2⟩)
  (fun b hb=>by
   rw [hv2b] at hb
   have h8:=h2lt b hb
   exact .inr ⟨by omega,by omega⟩)
 have hB4:But (fun b=>b=rb) w3 (w3.setCell ⟨rb,ro,none⟩ v3):=(But.refl (fun b=>b=rb) w3).setCell ⟨rb,ro,none⟩ (fun _=>rfl) _
 refine ⟨v3,_,(hins.but hB4 (fun b hb e=>?_)).mono (fun b hb=>?_),?_,set1_heap _ r3,?_⟩
 ·have e9:b=rb:=e
  rcases hb with hb|hb
  ·rw [e9] at hb;exact hPr hb
  ·omega
 ·rcases hb with hb|hb
  ·exact .inl hb
  ·exact .inr ⟨hb.1,by rw [hsz4];exact hb.2⟩
 ·rw [set_flat2 ps i q1 _ hil]
  simp only [esOf,List.map_append,List.map_cons,List.map_take,List.map_drop,hq1]
 ·have k1:But (fun b=>P b∨b=rb) w W1:=hB1.mono (fun b e=>.inl (by rw [e];exact hpP))
  have k2:=(k1.on b2).on ba
  refine (k2.trans b3 (fun b _ e=>.inl (hPA.vin b e))).trans hB4 (fun b _ e=>.inr e)
theorem halve_any (rb ro i:Nat) (w:World) (cs:Array Value) (T:TypeId) (v:Value) (P:Nat→Prop) (ps:List Pc) (p:Pc) (hrb:w.heap[rb]?=some (.cells cs T (0,0))) (hro:cs[ro]?=some v) (h:Pcs w P v ps) (hPr:¬ P rb) (hp:ps[i]?=some p) (hl:2≤p.es.length) (hl2:p.es.length≤513) (hn:(ps.length:Int)≤3000000) :
  Calls Tryz.prog 130 #[.pointer (some ⟨rb,ro,none⟩),.int .i64 (i:Int)] w fun r w'=>r=.returned (.tuple #[])∧∃ v' ps',Pcs w' (More P w w') v' ps'∧esOf ps'=(esOf ps).take i++p.es.take (p.es.length / 2) :: p.es.drop (p.es.length / 2) :: (esOf ps).drop (i+1)∧w'.heap[rb]?=some (.cells (cs.setIfInBounds ro v') T (0,0))∧But (fun b=>P b∨b=rb) w w':=by
 have hil:=get_lt hp
 obtain ⟨pg,c,rfl,_,hpgl,hcap⟩:=h.own.frm (by omega)
 have hpgP:P pg:=h.vin pg rfl
 have hne:¬ rb=pg:=fun e=>hPr (by rw [e];exact hpgP)
 have hpm:=List.mem_of_getElem? hp
 obtain ⟨pa,pcc,es⟩:=p
 have hel:2≤es.length:=hl
 obtain ⟨g,pc,hpv,_,hgl,hgc⟩:=(h.each _ hpm).frm (show 0 < es.length by omega)
 obtain ⟨rfl,rfl⟩:pa=some ⟨g,0,none⟩∧pcc=pc:=by injection hpv with e1 e2 e3;exact ⟨e1,e3⟩
 have hOp:Own layN 148 w 0 (.slice (some ⟨g,0,none⟩) es.length pcc) es:=h.each _ hpm
 have hgP:P g:=h.pin _ hpm g rfl
 have hgc':es.length≤pcc:=hgc
 obtain ⟨hf,hhf⟩:∃ hf,hf=es.length / 2:=⟨_,rfl⟩
 have hh1:1≤hf:=by omega
 have hh2:hf < es.length:=by omega
 obtain ⟨n,hnn⟩:∃ n,n=es.length:=⟨_,rfl⟩
 have hq:Int.tdiv (n:Int) 2=(hf:Int):=by rw [Int.tdiv_eq_ediv_of_nonneg (by omega),hhf,hnn];omega
 have hq2:(n:Int) / 2=(hf:Int):=by rw [hhf,hnn];omega
 obtain ⟨W1,hW1⟩:∃ W1,W1=(w.setCell ⟨pg,i,none⟩ (.slice (some ⟨g,0,none⟩) hf pcc)).drew:=⟨_,rfl⟩
 have hcutO:Own layN 148 w 0 (.slice (some ⟨g,0,none⟩) hf pcc) (es.take hf):=hOp.cut rfl (by omega)
 have htl:(es.take hf).length=hf:=by rw [List.length_take];omega
 have hP1:Pcs W1 P (.slice (some ⟨pg,0,none⟩) ps.length c) (ps.set i ⟨some ⟨g,0,none⟩,pcc,es.take hf⟩):=by
  have h9:=h.put (w1:=w) (P':=P) (q:=⟨some ⟨g,0,none⟩,pcc,es.take hf⟩) rfl hp (But.refl _ _) (by show Own layN _ _ 0 (.slice (some ⟨g,0,none⟩) (es.take hf).length pcc) _;rw [htl];exact hcutO) (.inl rfl) (fun _ e=>e) (fun b e=>(show P b from (Option.some.inj (show some g=some b from e)) ▸ hgP))
  rw [hW1]
  have e9:(⟨some ⟨g,0,none⟩,pcc,es.take hf⟩:Pc).val=.slice (some ⟨g,0,none⟩) hf pcc:=by show Value.slice _ (es.take hf).length _=_;rw [htl]
  rw [e9] at h9
  exact h9.below (Below.refl _ _).drew
 have hB1:But (fun b=>b=pg) w W1:=by rw [hW1];exact ((But.refl (fun b=>b=pg) w).setCell ⟨pg,i,none⟩ (fun _=>rfl) _).drew
 have hrow1:TRow layN W1 (some ⟨g,hf * 2,none⟩) (n - hf) (es.drop hf):=by
  have h8:=(hOp.row rfl).drop hf (by omega)
  rw [Nat.zero_add] at h8
  rw [hnn]
  refine h8.but hB1 (fun b off _ e e2=>?_)
  have e3:g=b:=by injection e with e;injection e
  have e4:b=pg:=e2
  exact pcs_ne h rfl (h.each _ hpm) (by show some g=some pg;rw [e3,e4])
 have hrb1:W1.heap[rb]?=some (.cells cs T (0,0)):=(hB1.block rb (Array.getElem?_eq_some_iff.1 hrb).1 hne).trans hrb
 have c0:w.cell? ⟨rb,ro,none⟩=some (.slice (some ⟨pg,0,none⟩) ps.length c):=cell_at hrb hro
 have c1:w.cell? ⟨pg,i,none⟩=some (.slice (some ⟨g,0,none⟩) n pcc):=by
  have h9:w.cell? ⟨pg,i * 1+0,none⟩=some (.slice (some ⟨g,0,none⟩) es.length pcc):=h.own.cell hp 0 rfl
  rw [Nat.mul_one,Nat.add_zero,← hnn] at h9;exact h9
 have f1:w.frozen? ⟨pg,i,none⟩=false:=h.own.frozen i
 have hiI:(i:Int) < (ps.length:Int):=by omega
 have hnI:(n:Int)≤513:=by have:es.length≤513:=hl2;omega
 have hhI:(hf:Int)≤(n:Int):=by omega
 have hhN:hf≤n:=by omega
 have hnc:(n:Int)≤(pcc:Int):=by omega
 have hx1:¬ (pcc=hf):=by omega
 have HP1:=hide hP1
 have HIl:=hide hil
 have HPgl:=hide hpgl
 have HGP:=hide hgP
 have HPG:=hide hpgP
 have HNeq:=hide hne
 have HLt:=hide (Nat.lt_of_lt_of_le (Array.getElem?_eq_some_iff.1 hrb).1 hB1.size)
 have HLt0:=hide (Array.getElem?_eq_some_iff.1 hrb).1
 have HW1:=hide hW1
 have HRo:=hide hro
 have HB1:=hide hB1
 have HRow:=hide hrow1
 have HRb:=hide hrb1
 have HE:=hide hhf
 have HNN:=hide hnn
 have HPr:=hide hPr
 have HN:=hide hn
 have HH:=hide h
 have hlN:ps.length=ps.length:=rfl
 clear hOp hgc hgc' hel hcutO hl hl2 h hp hpm hrb hro hW1 hP1 hB1 hrow1 hrb1 hhf hnn hn htl hgP hpgP hPr hpv hcap
 go_enter Tryz.func130,Tryz.ntmps130
 go_wp2_with fail
 go_region
 rw [← HW1.out]
 have d0:W1.cell? ⟨rb,ro,none⟩=some (.slice (some ⟨pg,0,none⟩) ps.length c):=cell_at HRb.out HRo.out
 have fd:W1.frozen? ⟨rb,ro,none⟩=false:=frz HRb.out ro
 clear c0 c1 f1 HW1
 go_wp2_with fail
 have HC:=hide (cloE_any g (hf * 2) (n - hf) (pcc - hf) (es.drop hf) W1.drew (HRow.out.below (Below.refl _ _).drew) (by omega))
 have HNe2:Hid (∀ w2:World,Below W1.heap.size W1 w2→(Value.slice (some ⟨pg,0,none⟩) ps.length c).ownBlock≠some w2.heap.size):=hide (fun w2 b2 e=>by
  have e9:pg=w2.heap.size:=Option.some.inj (show some pg=some w2.heap.size from e)
  have:=HPgl.out;have:=HB1.out.size;have:=b2.size;omega)
 have HI:Hid (∀ (w2:World) (v2:Value),Own layN 148 w2 W1.heap.size v2 (es.drop hf)→Below W1.heap.size W1 w2→∀ (a2:Option Addr) (c2:Nat),v2=.slice a2 (es.drop hf).length c2→_):=hide (fun w2 v2 o2 b2 a2 c2 hv2=>insP_any (.slice (some ⟨pg,0,none⟩) ps.length c) (ps.set i ⟨some ⟨g,0,none⟩,pcc,es.take hf⟩) (i+1) ⟨a2,c2,es.drop hf⟩ w2.heap.size (w2.alloc (.cells #[v2] 149)) ((HP1.out.below b2).below (below_alloc1 w2 _)).own (by rw [List.length_set];have:=HIl.out;omega) (by rw [hv2];exact heap_new _ _) (HNe2.out w2 b2) (by rw [List.length_set];have:=HN.out;omega))
 have hwf:IntKind.i64.wrap (hf:Int)=(hf:Int):=by rw [IntKind.wrap_i64];omega
 have hw0:(0:Int)≤(hf:Int):=by omega
 have hwi:IntKind.i64.wrap ((i:Int)+1)=(i:Int)+1:=by have:=HN.out;rw [IntKind.wrap_i64];omega
 have ei:((i+1:Nat):Int)=(i:Int)+1:=by omega
 rw [ei] at HI
 clear HRow HNN hnc
 refine wp_region_noPanic ?_
 refine wp_region_held_drew (S:=fun _=>True) (by kernel_rfl) (trivial) (fun hHeld=>?_)
 refine wpAnyH_take (i:=0) (oi:=_) (v:=?v0) rfl (by kernel_rfl) (by kernel_rfl) (by kernel_rfl) (fun _ _ _ h=>h) (Or.inl ⟨by rfl,?y0⟩) (by assumption) ?r0
 case y0=>(intro w' hSw;(try dsimp only at hSw);go_simp;try with_reducible rfl)
 refine wpAnyH_take (i:=1) (oi:=_) (v:=?v1) rfl (by kernel_rfl) (by kernel_rfl) (by kernel_rfl) (fun _ _ _ h=>h) (Or.inl ⟨by rfl,?y1⟩) (by assumption) ?r1
 case y1=>(intro w' hSw;(try dsimp only at hSw);go_simp;try with_reducible rfl)
 refine wpAnyH_take (i:=2) (oi:=_) (v:=?v2) rfl (by kernel_rfl) (by kernel_rfl) (by kernel_rfl) (fun _ _ _ h=>h) (Or.inl ⟨by rfl,?y2⟩) (by assumption) ?r2
 case y2=>(intro w' hSw;(try dsimp only at hSw);go_simp;try with_reducible rfl)
 refine wpAnyH_take (i:=3) (oi:=_) (v:=?v3) rfl (by kernel_rfl) (by kernel_rfl) (by kernel_rfl) (fun _ _ _ h=>h) (Or.inl ⟨by rfl,?y3⟩) (by assumption) ?r3
 case y3=>(intro w' hSw;(try dsimp only at hSw);go_simp;try with_reducible rfl)
 refine wpAnyH_take (i:=5) (oi:=_) (v:=?v5) rfl (by kernel_rfl) (by kernel_rfl) (by kernel_rfl) (fun _ _ _ h=>h) (Or.inl ⟨by rfl,?y5⟩) (by assumption) ?r5
 case y5=>(intro w' hSw;(try dsimp only at hSw);go_simp;try with_reducible rfl)
 refine wpAnyH_take (i:=6) (oi:=_) (v:=?v6) rfl (by kernel_rfl) (by kernel_rfl) (by kernel_rfl) (fun _ _ _ h=>h) (Or.inl ⟨by rfl,?y6⟩) (by assumption) ?r6
 case y6=>(intro w' hSw;(try dsimp only at hSw);go_simp;try with_reducible rfl)
 refine wpAnyH_take (i:=7) (oi:=_) (v:=?v7) rfl (by kernel_rfl) (by kernel_rfl) (by kernel_rfl) (fun _ _ _ h=>h) (Or.inl ⟨by rfl,?y7⟩) (by assumption) ?r7
 case y7=>(intro w' hSw;(try dsimp only at hSw);go_simp;try with_reducible rfl)
 refine wpAnyH_take (i:=8) (oi:=_) (v:=?v8) rfl (by kernel_rfl) (by kernel_rfl) (by kernel_rfl) (fun _ _ _ h=>h) (Or.inl ⟨by rfl,?y8⟩) (by assumption) ?r8
 case y8=>(intro w' hSw;(try dsimp only at hSw);go_simp;try with_reducible rfl)
 refine wpAnyH_take (i:=9) (oi:=_) (v:=?v9) rfl (by kernel_rfl) (by kernel_rfl) (by kernel_rfl) (fun _ _ _ h=>h) (Or.inl ⟨by rfl,?y9⟩) (by assumption) ?r9
 case y9=>(intro w' hSw;(try dsimp only at hSw);go_simp;try with_reducible rfl)
 refine wpAnyH_take (i:=10) (oi:=_) (v:=?v10) rfl (by kernel_rfl) (by kernel_rfl) (by kernel_rfl) (fun _ _ _ h=>h) (Or.inl ⟨by rfl,?y10⟩) (by assumption) ?r10
 case y10=>(intro w' hSw;(try dsimp only at hSw);go_simp;try with_reducible rfl)
 refine wpAnyH_take (i:=11) (oi:=_) (v:=?v11) rfl (by kernel_rfl) (by kernel_rfl) (by kernel_rfl) (fun _ _ _ h=>h) (Or.inl ⟨by rfl,?y11⟩) (by assumption) ?r11
 case y11=>(intro w' hSw;(try dsimp only at hSw);go_simp;try with_reducible rfl)
 refine wpAnyH_ready (rs:=[4,12]) (by kernel_rfl) (by simp) ?_
 refine AllReadyH.cons (o:=_) rfl (fun KK hKK=>?_) (AllReadyH.cons (o:=_) rfl (fun KK hKK=>?_) AllReadyH.nil)
 ·go_simp
  refine hKK.out _ _ (trivial) (fun hHeld4=>?_)
  clear hKK KK
  refine wpAnyH_ready (rs:=[12]) (by kernel_rfl) (by simp) ?_
  refine AllReadyH.cons (o:=_) rfl (fun KK hKK=>?_) AllReadyH.nil
  go_simp
  refine HC.out.mono ?_
  rintro e w2 ⟨v2,rfl,o2,b2⟩
  obtain ⟨a2,c2,hv2,_,_⟩:=own_form o2
  obtain ⟨m2,hm2⟩:∃ m2,m2=(es.drop hf).length:=⟨_,rfl⟩
  rw [← hm2] at hv2
  subst hv2
  have HM2:=hide hm2
  clear hm2
  have k2:w2.cell? ⟨rb,ro,none⟩=some (.slice (some ⟨pg,0,none⟩) ps.length c):=(b2.cell (p:=⟨rb,ro,none⟩) HLt.out).trans d0
  have hs2:rb < w2.heap.size:=Nat.lt_of_lt_of_le HLt.out b2.size
  have O2:=hide o2
  have B2:=hide (Below.on ((Below.refl W1.heap.size W1).drew) b2)
  clear o2 b2
  refine hKK.out _ _ (trivial) (fun hHeld12=>?_)
  clear hKK KK
  refine wpAnyH_ready (rs:=[13]) (by kernel_rfl) (by simp) ?_
  refine AllReadyH.cons (o:=_) rfl (fun KK hKK=>?_) AllReadyH.nil
  go_simp
  refine hKK.out _ _ (trivial) (fun hHeld13=>?_)
  clear hKK KK
  refine wpAnyH_ready (rs:=[14]) (by kernel_rfl) (by simp) ?_
  refine AllReadyH.cons (o:=_) rfl (fun KK hKK=>?_) AllReadyH.nil
  go_simp
  refine (HI.out w2 _ O2.out B2.out a2 c2 (by rw [HM2.out])).mono ?_
  rintro e w3 ⟨v3,rfl,o3,b3,l3⟩
  obtain ⟨a3,n3,c3,rfl⟩:∃ a3 n3 c3,v3=.slice a3 n3 c3:=by obtain ⟨a3,c3,hv3,_,_⟩:=own_form o3;exact ⟨a3,_,c3,hv3⟩
  have r3:w3.heap[rb]?=some (.cells cs T (0,0)):=(b3.block rb (by rw [World.size_alloc];omega) (fun e=>HNeq.out (by injection e with e;exact e.symm))).trans ((heap_alloc_old _ hs2).trans ((B2.out.block rb HLt.out).trans HRb.out))
  have k3:w3.cell? ⟨rb,ro,none⟩=some (.slice (some ⟨pg,0,none⟩) ps.length c):=cell_at r3 HRo.out
  have f3:=frz r3 ro
  have O3:=hide o3
  have B3:=hide b3
  have L3:=hide l3
  have R3:=hide r3
  clear o3 b3 l3 r3
  refine hKK.out _ _ (trivial) (fun hHeld14=>?_)
  clear hKK KK
  refine wpAnyH_take (i:=15) (oi:=_) (v:=?v15_4) rfl (by kernel_rfl) (by kernel_rfl) (by kernel_rfl) (fun _ _ _ h=>h) (Or.inl ⟨by rfl,?y15_4⟩) (by assumption) ?r15_4
  case y15_4=>(intro w' hSw;(try dsimp only at hSw);go_simp;try with_reducible rfl)
  refine wpAnyH_take (i:=16) (oi:=_) (v:=?v16_4) rfl (by kernel_rfl) (by kernel_rfl) (by kernel_rfl) (fun _ _ _ h=>h) (Or.inl ⟨by rfl,?y16_4⟩) (by assumption) ?r16_4
  case y16_4=>(intro w' hSw;(try dsimp only at hSw);go_simp;try with_reducible rfl)
  refine wpAnyH_ready (rs:=[17]) (by kernel_rfl) (by simp) ?_
  refine AllReadyH.cons (o:=_) rfl (fun KK hKK=>?_) AllReadyH.nil
  go_simp
  refine hKK.out _ _ (trivial) (fun hHeld17=>?_)
  clear hKK KK
  refine wpAnyH_done (by kernel_rfl) ?_ _
  refine NoPanic.normal ?_
  go_wp2
  go_end0
  exact ⟨rfl,by rw [← HE.out];exact halve_end HP1.out HB1.out O2.out B2.out (by rw [HM2.out]) O3.out B3.out L3.out R3.out HLt0.out HPr.out HPG.out HIl.out rfl⟩
 ·go_simp
  refine HC.out.mono ?_
  rintro e w2 ⟨v2,rfl,o2,b2⟩
  obtain ⟨a2,c2,hv2,_,_⟩:=own_form o2
  obtain ⟨m2,hm2⟩:∃ m2,m2=(es.drop hf).length:=⟨_,rfl⟩
  rw [← hm2] at hv2
  subst hv2
  have HM2:=hide hm2
  clear hm2
  have k2:w2.cell? ⟨rb,ro,none⟩=some (.slice (some ⟨pg,0,none⟩) ps.length c):=(b2.cell (p:=⟨rb,ro,none⟩) HLt.out).trans d0
  have hs2:rb < w2.heap.size:=Nat.lt_of_lt_of_le HLt.out b2.size
  have O2:=hide o2
  have B2:=hide (Below.on ((Below.refl W1.heap.size W1).drew) b2)
  clear o2 b2
  refine hKK.out _ _ (trivial) (fun hHeld12=>?_)
  clear hKK KK
  refine wpAnyH_ready (rs:=[4,13]) (by kernel_rfl) (by simp) ?_
  refine AllReadyH.cons (o:=_) rfl (fun KK hKK=>?_) (AllReadyH.cons (o:=_) rfl (fun KK hKK=>?_) AllReadyH.nil)
  ·go_simp
   refine hKK.out _ _ (trivial) (fun hHeld4=>?_)
   clear hKK KK
   refine wpAnyH_ready (rs:=[13]) (by kernel_rfl) (by simp) ?_
   refine AllReadyH.cons (o:=_) rfl (fun KK hKK=>?_) AllReadyH.nil
   go_simp
   refine hKK.out _ _ (trivial) (fun hHeld13=>?_)
   clear hKK KK
   refine wpAnyH_ready (rs:=[14]) (by kernel_rfl) (by simp) ?_
   refine AllReadyH.cons (o:=_) rfl (fun KK hKK=>?_) AllReadyH.nil
   go_simp
   refine (HI.out w2 _ O2.out B2.out a2 c2 (by rw [HM2.out])).mono ?_
   rintro e w3 ⟨v3,rfl,o3,b3,l3⟩
   obtain ⟨a3,n3,c3,rfl⟩:∃ a3 n3 c3,v3=.slice a3 n3 c3:=by obtain ⟨a3,c3,hv3,_,_⟩:=own_form o3;exact ⟨a3,_,c3,hv3⟩
   have r3:w3.heap[rb]?=some (.cells cs T (0,0)):=(b3.block rb (by rw [World.size_alloc];omega) (fun e=>HNeq.out (by injection e with e;exact e.symm))).trans ((heap_alloc_old _ hs2).trans ((B2.out.block rb HLt.out).trans HRb.out))
   have k3:w3.cell? ⟨rb,ro,none⟩=some (.slice (some ⟨pg,0,none⟩) ps.length c):=cell_at r3 HRo.out
   have f3:=frz r3 ro
   have O3:=hide o3
   have B3:=hide b3
   have L3:=hide l3
   have R3:=hide r3
   clear o3 b3 l3 r3
   refine hKK.out _ _ (trivial) (fun hHeld14=>?_)
   clear hKK KK
   refine wpAnyH_take (i:=15) (oi:=_) (v:=?v15_9) rfl (by kernel_rfl) (by kernel_rfl) (by kernel_rfl) (fun _ _ _ h=>h) (Or.inl ⟨by rfl,?y15_9⟩) (by assumption) ?r15_9
   case y15_9=>(intro w' hSw;(try dsimp only at hSw);go_simp;try with_reducible rfl)
   refine wpAnyH_take (i:=16) (oi:=_) (v:=?v16_9) rfl (by kernel_rfl) (by kernel_rfl) (by kernel_rfl) (fun _ _ _ h=>h) (Or.inl ⟨by rfl,?y16_9⟩) (by assumption) ?r16_9
   case y16_9=>(intro w' hSw;(try dsimp only at hSw);go_simp;try with_reducible rfl)
   refine wpAnyH_ready (rs:=[17]) (by kernel_rfl) (by simp) ?_
   refine AllReadyH.cons (o:=_) rfl (fun KK hKK=>?_) AllReadyH.nil
   go_simp
   refine hKK.out _ _ (trivial) (fun hHeld17=>?_)
   clear hKK KK
   refine wpAnyH_done (by kernel_rfl) ?_ _
   refine NoPanic.normal ?_
   go_wp2
   go_end0
   exact ⟨rfl,by rw [← HE.out];exact halve_end HP1.out HB1.out O2.out B2.out (by rw [HM2.out]) O3.out B3.out L3.out R3.out HLt0.out HPr.out HPG.out HIl.out rfl⟩
  ·go_simp
   refine hKK.out _ _ (trivial) (fun hHeld13=>?_)
   clear hKK KK
   refine wpAnyH_ready (rs:=[4]) (by kernel_rfl) (by simp) ?_
   refine AllReadyH.cons (o:=_) rfl (fun KK hKK=>?_) AllReadyH.nil
   go_simp
   refine hKK.out _ _ (trivial) (fun hHeld4=>?_)
   clear hKK KK
   refine wpAnyH_ready (rs:=[14]) (by kernel_rfl) (by simp) ?_
   refine AllReadyH.cons (o:=_) rfl (fun KK hKK=>?_) AllReadyH.nil
   go_simp
   refine (HI.out w2 _ O2.out B2.out a2 c2 (by rw [HM2.out])).mono ?_
   rintro e w3 ⟨v3,rfl,o3,b3,l3⟩
   obtain ⟨a3,n3,c3,rfl⟩:∃ a3 n3 c3,v3=.slice a3 n3 c3:=by obtain ⟨a3,c3,hv3,_,_⟩:=own_form o3;exact ⟨a3,_,c3,hv3⟩
   have r3:w3.heap[rb]?=some (.cells cs T (0,0)):=(b3.block rb (by rw [World.size_alloc];omega) (fun e=>HNeq.out (by injection e with e;exact e.symm))).trans ((heap_alloc_old _ hs2).trans ((B2.out.block rb HLt.out).trans HRb.out))
   have k3:w3.cell? ⟨rb,ro,none⟩=some (.slice (some ⟨pg,0,none⟩) ps.length c):=cell_at r3 HRo.out
   have f3:=frz r3 ro
   have O3:=hide o3
   have B3:=hide b3
   have L3:=hide l3
   have R3:=hide r3
   clear o3 b3 l3 r3
   refine hKK.out _ _ (trivial) (fun hHeld14=>?_)
   clear hKK KK
   refine wpAnyH_take (i:=15) (oi:=_) (v:=?v15_13) rfl (by kernel_rfl) (by kernel_rfl) (by kernel_rfl) (fun _ _ _ h=>h) (Or.inl ⟨by rfl,?y15_13⟩) (by assumption) ?r15_13
   case y15_13=>(intro w' hSw;(try dsimp only at hSw);go_simp;try with_reducible rfl)
   refine wpAnyH_take (i:=16) (oi:=_) (v:=?v16_13) rfl (by kernel_rfl) (by kernel_rfl) (by kernel_rfl) (fun _ _ _ h=>h) (Or.inl ⟨by rfl,?y16_13⟩) (by assumption) ?r16_13
   case y16_13=>(intro w' hSw;(try dsimp only at hSw);go_simp;try with_reducible rfl)
   refine wpAnyH_ready (rs:=[17]) (by kernel_rfl) (by simp) ?_
   refine AllReadyH.cons (o:=_) rfl (fun KK hKK=>?_) AllReadyH.nil
   go_simp
   refine hKK.out _ _ (trivial) (fun hHeld17=>?_)
   clear hKK KK
   refine wpAnyH_done (by kernel_rfl) ?_ _
   refine NoPanic.normal ?_
   go_wp2
   go_end0
   exact ⟨rfl,by rw [← HE.out];exact halve_end HP1.out HB1.out O2.out B2.out (by rw [HM2.out]) O3.out B3.out L3.out R3.out HLt0.out HPr.out HPG.out HIl.out rfl⟩
end Go.Proofs.YthgelfdefkbfeaaGreatDoor
