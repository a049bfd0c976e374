import Derived.Test.YtaeehnaicnckgaaGreatDoorZo26
import Derived.Test.YtaeehnaicnckgaaGreatDoorZo15
set_option maxRecDepth 8000
set_option maxHeartbeats 8000000
set_option linter.unusedVariables false
namespace Go.Proofs.YtaeehnaicnckgaaGreatDoor
open Go.RowKit Go.Maps Go.Shelf
theorem made_ints (w:World) (n:Nat) (hn:n * 8≤140737488355328):∃ w',(Instr.makeSlice 34 (.int .i64 0) (.int .i64 (n:Int))).run Tryz.prog w=.ok (.slice (some ⟨w.heap.size,0,none⟩) 0 n) w'∧Own sI 3 w' w.heap.size (.slice (some ⟨w.heap.size,0,none⟩) 0 n) []∧w.grownBy w' none:=by
 obtain ⟨i0,hi,hz0,hz1,hz2⟩:=info_parts sInfoI
 exact run_make_own (P:=Tryz.prog) w w.heap.size 34 3 i0 _ 1 Tryz.underlying34 hi hz0 hz1 .i64 .i64 n (by rw [hz2];omega) (by unfold maxLen;omega) (Nat.le_refl _)
structure Li (w0 wr:World) (v:Value) (P:List Int):Prop where
 own:Own sI 3 wr w0.heap.size v P
 bel:Below w0.heap.size w0 wr
theorem Li.on {w0 wr w':World} {v:Value} {P:List Int} (h:Li w0 wr v P) (hb:Below wr.heap.size wr w'):Li w0 w' v P:=⟨h.own.below hb,h.bel.trans (hb.mono h.bel.size)⟩
theorem Li.push {w0 wr w':World} {v v':Value} {P Q:List Int} (h:Li w0 wr v P) (ho:Own sI 3 w' w0.heap.size v' Q) (hg:wr.grownBy w' v.ownBlock):Li w0 w' v' Q :=
 ⟨ho,h.bel.grown hg h.bel.size (fun k hk=>(h.own.lt k hk).1)⟩
theorem Li.nil (w:World):Li w w (.slice none 0 0) []:=⟨Own.nil _ _ _ _,Below.refl _ _⟩
theorem places_any (a:Option Addr) (n c:Nat) (ks:List Bool) (w:World) (hb:TRow sB w a n ks) (hn:n * 56≤140737488355328) :
  Calls Tryz.prog 20 #[.slice a n c] w fun r w'=>∃ v,r=.returned v∧Li w w' v (intP (plc ks n)):=by
 have HB:=hide hb
 have HN:=hide hn
 have HL:=hide hb.len
 have hnM:(n:Int)≤9223372036854775806:=by omega
 have HMk:=hide (fun X m (h:m * 8≤140737488355328)=>made_ints X m h)
 obtain ⟨i0,hi0,hz0,hz1,hz2⟩:=info_parts sInfoI
 clear hb hn
 go_enter Tryz.func20,Tryz.ntmps20
 go_wp2
 go_loopw [3,11] (fun s3 s11 wr=>∃ i k:Nat,i≤n∧s11=.int .i64 i∧s3=.int .i64 k∧Hid (k=(plc ks i).length)∧k≤i∧wr=w) (fun _ s _=>n - (intOf s).toNat)
 case atStart=>exact ⟨0,0,Nat.zero_le _,rfl,rfl,hide rfl,Nat.le_refl _,rfl⟩
 case round =>
  obtain ⟨i,k,hi,rfl,rfl,HK,hki,hwr⟩:=hrel
  rw [hwr]
  clear hwr
  by_cases hlt:i < n
  ·have hiI:(i:Int) < n:=by omega
   have hi0':(0:Int)≤i:=by omega
   have hkI:(k:Int)≤i:=by omega
   obtain ⟨x,hx⟩:∃ x,ks[i]?=some x:=⟨_,List.getElem?_eq_getElem (by rw [HL.out];exact hlt)⟩
   obtain ⟨b1,o1,e1,d1⟩:=sB_cell HB.out hx
   subst e1
   cases x with
   | false =>
    have HK2:Hid (k=(plc ks (i+1)).length):=hide (by rw [plc_f hx];exact HK.out)
    clear hx
    go_wp2
    exact ⟨⟨i+1,k,by omega,by go_num,rfl,HK2,by omega,trivial⟩,by simp [intOf];omega⟩
   | true =>
    have HK2:Hid (k+1=(plc ks (i+1)).length):=hide (by rw [plc_t hx,List.length_append,HK.out];rfl)
    clear hx
    go_wp2
    exact ⟨⟨i+1,k+1,by omega,by go_num,by go_num,HK2,by omega,trivial⟩,by simp [intOf];omega⟩
  ·have h9:i=n:=by omega
   subst h9
   have hiI:¬ (i:Int) < i:=by omega
   obtain ⟨w1,hmk,hown,hgr⟩:=HMk.out w k (by have:=HN.out;omega)
   have HLi:Hid (Li w w1 (.slice (some ⟨w.heap.size,0,none⟩) 0 k) (intP (plc ks 0))):=hide ⟨hown,⟨hgr.os,hgr.tape,hgr.output,hgr.size,fun k hk=>hgr.block k hk (by simp)⟩⟩
   have hk0:(0:Int)≤k:=by omega
   have hkI:(k:Int)≤i:=by omega
   clear hown hgr HMk HK hlt
   go_wp2
   rename World=>Wk
   go_loopw [6,23] (fun s6 s23 wr=>∃ j:Nat,j≤i∧s23=.int .i64 j∧Hid (Li w wr s6 (intP (plc ks j)))) (fun _ s _=>i - (intOf s).toNat)
   case atStart=>exact ⟨0,Nat.zero_le _,rfl,HLi⟩
   case round =>
    obtain ⟨j,hj,rfl,HJ⟩:=hrel
    clear HLi hmk
    by_cases hlj:j < i
    ·have hjI:(j:Int) < i:=by omega
     have hj0:(0:Int)≤j:=by omega
     obtain ⟨x,hx⟩:∃ x,ks[j]?=some x:=⟨_,List.getElem?_eq_getElem (by rw [HL.out];exact hlj)⟩
     obtain ⟨b1,o1,e1,d1⟩:=sB_cell (HB.out.below HJ.out.bel) hx
     subst e1
     cases x with
     | false =>
      have HJ2:Hid (intP (plc ks (j+1))=intP (plc ks j)):=hide (by rw [plc_f hx])
      clear hx
      go_wp2
      exact ⟨⟨j+1,by omega,by go_num,hide (by rw [HJ2.out];exact HJ.out)⟩,by simp [intOf];omega⟩
     | true =>
      have HJ2:Hid (intP (plc ks (j+1))=intP (plc ks j)++[(j:Int)]):=hide (by rw [plc_t hx,intP_snoc])
      have HJ3:=hide (HJ.out.on (below_alloc1 wr (.cells #[.int .i64 (j:Int)] 3)))
      have HT:=hide (TRow.one (y:=sI) (w:=wr.alloc (.cells #[.int .i64 (j:Int)] 3)) (B:=wr.heap.size) (x:=(j:Int)) (heap_new wr (.cells #[.int .i64 (j:Int)] 3)))
      have HLn:Hid ((intP (plc ks j)).length≤j):=hide (by rw [intP_len];exact plc_le ks j)
      clear hx
      generalize intP (plc ks j)=PP at HJ HJ2 HJ3 HLn
      go_wp2_with (at_builtin;refine append_lay sI _ 34 3 i0 _ 8 Tryz.underlying34 hi0 hz0 hz1 hz2 rfl rfl _ _ rfl w.heap.size _ PP rfl HJ3.out.own _ 1 1 [(j:Int)] rfl HT.out (fun e=>by cases e) ?b1 ?b2 HJ3.out.bel.size ?_)
      case b1=>unfold maxLen;have:=HLn.out;have:=HN.out;omega
      case b2=>have:=HLn.out;have:=HN.out;omega
      intro v' w' o2 g2 l2
      have HJ4:Hid (Li w w' v' (intP (plc ks (j+1)))):=hide (by rw [HJ2.out];exact HJ3.out.push o2 g2)
      clear o2 g2 l2
      go_wp2
      exact ⟨⟨j+1,by omega,by go_num,HJ4⟩,by simp [intOf];omega⟩
    ·have h9:j=i:=by omega
     subst h9
     have hjI:¬ (j:Int) < j:=by omega
     go_wp2
     go_ret
     exact ⟨_,rfl,HJ.out⟩
theorem taken_any (a:Option Addr) (n c:Nat) (es:List E6.Ev) (a2:Option Addr) (m c2:Nat) (P:List Nat) (w:World) (hr:E6.ERow w a n es) (hok:∀ e ∈ es,e.ok) (hn:n * 56≤140737488355328) (hp:TRow sI w a2 m (intP P)) (hP:∀ p ∈ P,p < n) (hm:m≤n) :
  Calls Tryz.prog 22 #[.slice a n c,.slice a2 m c2] w fun r w'=>∃ fs v,r=.returned v∧E6.Tw w w' (pkE es P) m fs v:=by
 have HR:=hide hr
 have HO:=hide hok
 have HN:=hide hn
 have HP:=hide hp
 have HPn:=hide hP
 have HPl:Hid (P.length=m):=hide (by have:=hp.len;rw [intP_len] at this;exact this)
 have hmM:(m:Int)≤9223372036854775806:=by omega
 obtain ⟨i0,hi0,hz0,hz1,hz2⟩:=info_parts E6.Tryz.infoEvent
 clear hr hok hn hp hP
 go_enter Tryz.func22,Tryz.ntmps22
 go_wp2_with (at_make;refine wpList_make_full _ rfl _ _ 22 rfl w.heap.size 43 i0 (.agg #[.int .i64 0,.int .i64 0,.int .u64 0,.int .u64 0,.slice none 0 0]) 5 Tryz.underlying22 hi0 hz0 hz1 _ _ _ _ m rfl rfl rfl rfl ?b2 ?b3 (Nat.le_refl _) ?_)
 case b2=>rw [hz2];have:=HN.out;omega
 case b3=>unfold maxLen;have:=HN.out;omega
 intro w2 hown2 hgr2
 have HM:=hide (Mk.start (w0:=w) (L:=pkE es P) (made_nE m) hown2 ⟨hgr2.os,hgr2.tape,hgr2.output,hgr2.size,fun k hk=>hgr2.block k hk (by simp)⟩)
 generalize w.heap.size=b at HM ⊢
 clear hown2 hgr2 hi0 hz0 hz1 hz2
 go_wp2
 go_loopw [13] (fun s wr=>∃ j:Nat,j≤m∧s=.int .i64 j∧Hid (∃ fs,Mk w wr (pkE es P) m j b fs)) (fun s _=>m - (intOf s).toNat)
 case atStart=>exact ⟨0,Nat.zero_le _,rfl,hide ⟨_,HM.out⟩⟩
 case round =>
  obtain ⟨j,hj,rfl,HJ⟩:=hrel
  clear HM
  obtain ⟨fs,hM⟩:=HJ.out
  have HM:=hide hM
  clear hM HJ
  by_cases hlt:j < m
  ·have hjI:(j:Int) < m:=by omega
   have hj0:(0:Int)≤j:=by omega
   obtain ⟨p,hp⟩:∃ p,P[j]?=some p:=⟨_,List.getElem?_eq_getElem (by rw [HPl.out];exact hlt)⟩
   have hpn:=HPn.out p (List.mem_of_getElem? hp)
   have hpI:(p:Int) < n:=by omega
   have hp0:(0:Int)≤p:=by omega
   obtain ⟨b1,o1,e1,d1⟩:=sI_cell (HP.out.below HM.out.bel) (intP_at hp)
   subst e1
   obtain ⟨b0,off,e,ha,hej,c0,c1,c2,c3,c4,hs⟩:=(HR.out.bel HM.out.bel).at (i:=p) hpn
   have hme:=HO.out e (List.mem_of_getElem? hej)
   have HC:=hide (own_any e wr hs (by have:=hme.len;omega) hme.nil)
   have HE:=hide (pkE_at hp hej)
   subst ha
   clear hs hme hej hp hpn
   go_wp2_with fail
   refine HC.out.mono ?_
   rintro r w3 ⟨sa,sc,rfl,ho,hcap,hnil,hb3⟩
   have HM3:=hide (HM.out.on hb3)
   have HF:Hid (Ok1 w w3 e ⟨e.g,e.k,e.o,e.a,sa,sc,e.ls⟩):=hide ⟨⟨rfl,rfl,rfl,rfl,rfl⟩,hcap,hnil,own_mono ho HM.out.bel.size⟩
   obtain ⟨x,x0,x1,x2,x3,x4,z0,z1,z2,z3,z4⟩:=HM3.out.cells (by omega)
   have HM4:=hide (HM3.out.set (by omega) HE.out HF.out)
   clear ho hcap hnil hb3 HC c0 c1 c2 c3 c4
   go_wp2
   exact ⟨⟨j+1,by omega,by go_num,hide ⟨_,HM4.out⟩⟩,by simp [intOf];omega⟩
  ·have h9:j=m:=by omega
   subst h9
   have hjI:¬ (j:Int) < j:=by omega
   have HT:=hide HM.out.tw
   go_wp2
   go_ret
   exact ⟨fs,_,rfl,HT.out⟩
end Go.Proofs.YtaeehnaicnckgaaGreatDoor
namespace Go.Proofs.YtaeehnaicnckgaaGreatDoor
open Go.RowKit Go.Maps Go.Shelf
theorem tw_nil (w:World) (es:List E6.Ev):E6.Tw w w es 0 [] (.slice none 0 0):=⟨rfl,World.ownsRow_nil _ _ _ _,fun i f hf=>by simp at hf,Below.refl _ _⟩
theorem tw_more {w0 wr w3 w5:World} {es fs:List E6.Ev} {j:Nat} {v v':Value} {e:E6.Ev} {sa:Option Addr} {sc:Nat} {o:Obj} (h:E6.Tw w0 wr es j fs v) (he:es[j]?=some e)
  (hs:w3.ownsRow wr.heap.size 9 1 (.slice sa e.ls.length sc) e.ls.length (e.ls.map Value.string)) (hcap:e.ls.length≤sc) (hnil:sa=none→e.ls.length=0∧sc=0) (hb:Below wr.heap.size wr w3)
  (o5:w5.ownsRow w0.heap.size 43 5 v' (j+1) (E6.ecells (fs++[⟨e.g,e.k,e.o,e.a,sa,sc,e.ls⟩]))) (g5:(w3.alloc o).grownBy w5 v.ownBlock):E6.Tw w0 w5 es (j+1) (fs++[⟨e.g,e.k,e.o,e.a,sa,sc,e.ls⟩]) v' :=
 h.next (f:=⟨e.g,e.k,e.o,e.a,sa,sc,e.ls⟩) he ⟨rfl,rfl,rfl,rfl,rfl⟩ hcap hnil (Below.on hb (below_alloc1 w3 o)) ((own_mono hs h.bel.size).alloc _) o5 g5
def TkR (es:List E6.Ev) (P:List Nat) (w:World) (r:Ending) (w':World):Prop :=
 ∃ fs a1 c1 a2 c2,r=.returned (.tuple #[.slice a1 P.length c1,.slice a2 P.length c2,.int .i64 0])∧E6.Tw w w' (pkE es P) P.length fs (.slice a1 P.length c1)∧Li w w' (.slice a2 P.length c2) (intP P)
theorem tw_base {w0 w1 w2:World} {L fs:List E6.Ev} {n:Nat} {v:Value} (h:E6.Tw w1 w2 L n fs v) (hb:Below w0.heap.size w0 w1):E6.Tw w0 w2 L n fs v :=
 ⟨h.len,own_mono h.own hb.size,fun i f hf=>by obtain ⟨e,h1,h2,h3,h4,h5⟩:=h.each i f hf;exact ⟨e,h1,h2,h3,h4,own_mono h5 hb.size⟩,hb.trans (h.bel.mono hb.size)⟩
theorem Li.base {w0 w1 w2:World} {v:Value} {P:List Int} (h:Li w1 w2 v P) (hb:Below w0.heap.size w0 w1):Li w0 w2 v P:=⟨h.own.mono hb.size,hb.trans (h.bel.mono hb.size)⟩
theorem Li.frm {w0 w1:World} {v:Value} {P:List Int} (h:Li w0 w1 v P):∃ a c,v=.slice a P.length c∧TRow sI w1 a P.length P:=by
 obtain ⟨a,c,rfl,_,_⟩:=own_form h.own
 exact ⟨a,c,rfl,h.own.row rfl⟩
theorem tw_frm {w0 w1:World} {L fs:List E6.Ev} {n:Nat} {v:Value} (h:E6.Tw w0 w1 L n fs v):∃ a c,v=.slice a n c:=by
 obtain ⟨a,c,rfl,_,_⟩:=own_form h.own
 exact ⟨a,c,rfl⟩
end Go.Proofs.YtaeehnaicnckgaaGreatDoor
namespace Go.Proofs.YtaeehnaicnckgaaGreatDoor
open Go.RowKit Go.Maps Go.Shelf
theorem tw_but {S:Nat→Prop} {w0 w1 w2:World} {L fs:List E6.Ev} {n:Nat} {v:Value} (h:E6.Tw w0 w1 L n fs v) (hb:But S w1 w2) (hS:∀ q cur t,S q→w1.heap[q]?=some (.cells cur t (0,0))→t≠43∧t≠9) (hge:∀ q,S q→w0.heap.size≤q):E6.Tw w0 w2 L n fs v:=by
 have hne:∀ {e z:Nat} {x:Value} {m:Nat} {xs:List Value},w1.ownsRow w0.heap.size e z x m xs→e=43∨e=9→∀ g,x.ownBlock=some g→¬ S g:=fun {e z x m xs} ho he g hg hs=>by
  rcases ho.2 with ⟨hv,_⟩|⟨g1,c1,cur,hv,_,hh,_⟩
  ·rw [hv] at hg;simp [Value.ownBlock] at hg
  ·rw [hv] at hg
   have e1:g1=g:=by simpa [Value.ownBlock] using hg
   subst e1
   obtain ⟨q1,q2⟩:=hS g1 cur e hs hh
   rcases he with h9|h9
   ·exact q1 h9
   ·exact q2 h9
 refine ⟨h.len,own_but h.own hb (hne h.own (.inl rfl)),fun i f hf=>?_,h.bel.trans (hb.below h.bel.size hge)⟩
 obtain ⟨e,h1,h2,h3,h4,h5⟩:=h.each i f hf
 exact ⟨e,h1,h2,h3,h4,own_but h5 hb (hne h5 (.inr rfl))⟩
theorem Li.ev {w0 w1 w2:World} {L fs:List E6.Ev} {n:Nat} {v u:Value} {P:List Int} (h:Li w0 w1 u P) (ht:E6.Tw w0 w1 L n fs v) (hg:w1.grownBy w2 v.ownBlock):Li w0 w2 u P:=by
 refine ⟨h.own.but (S:=fun q=>v.ownBlock=some q) ((But.refl _ w1).grown hg (fun k _ e=>e)) (fun g hg1 hg2=>?_),h.bel.grown hg h.bel.size (fun k hk=>(ht.own.lt k hk).1)⟩
 obtain ⟨cur,hc⟩:=own_ty h.own hg1
 rcases ht.own.2 with ⟨hv,_⟩|⟨g1,c1,cur1,hv,_,hh,_⟩
 ·rw [hv] at hg2;simp [Value.ownBlock] at hg2
 ·rw [hv] at hg2
  have e1:g1=g:=by simpa [Value.ownBlock] using hg2
  subst e1
  rw [hh] at hc
  simp at hc
theorem tw_li {w0 w1 w2:World} {L fs:List E6.Ev} {n:Nat} {v u:Value} {P:List Int} (ht:E6.Tw w0 w1 L n fs v) (h:Li w0 w1 u P) (hg:w1.grownBy w2 u.ownBlock):E6.Tw w0 w2 L n fs v:=by
 refine tw_but ht (S:=fun q=>u.ownBlock=some q) ((But.refl _ w1).grown hg (fun k _ e=>e)) (fun q cur t hq hc=>?_) (fun q hq=>(h.own.lt q hq).1)
 obtain ⟨cur1,hc1⟩:=own_ty h.own hq
 rw [hc1] at hc
 simp at hc
 obtain ⟨_,rfl⟩:=hc
 exact ⟨by decide,by decide⟩
theorem rtake_ok (a : Option Addr) (n c : Nat) (es : List E6.Ev) (a2 : Option Addr) (c2 : Nat) (ks : List Bool) (w : World) (hr : E6.ERow w a n es) (hok : ∀ e ∈ es, e.ok) (hn : n * 56 ≤ 140737488355328) (hb : TRow sB w a2 n ks) :
    Calls Tryz.prog 25 #[.slice a n c, .slice a2 n c2] w (TkR es (plc ks n) w) := by
  have HR := hide hr
  have HO := hide hok
  have HN := hide hn
  have HB := hide hb
  have HL := hide hb.len
  have b1 : ((n : Int) != (n : Int)) = false := by simp
  have hnM : (n : Int) ≤ 9223372036854775806 := by omega
  obtain ⟨i0, hi0, hz0, hz1, hz2⟩ := info_parts sInfoI
  clear hr hok hn hb
  go_enter Tryz.func25, Tryz.ntmps25
  go_wp2
  clear b1
  go_loopw [7, 8, 9] (fun s7 s8 s wr => ∃ (j : Nat) (fs : List E6.Ev) (k : Nat) (ua : Option Addr) (uc : Nat) (va : Option Addr) (vc : Nat), j ≤ n ∧ s = .int .i64 j ∧ s7 = .slice ua k uc ∧ s8 = .slice va k vc ∧ Hid (k = (plc ks j).length) ∧ Hid (E6.Tw w wr (pkE es (plc ks n)) k fs (.slice ua k uc) ∧ Li w wr (.slice va k vc) (intP (plc ks j)))) (fun _ _ s _ => n - (intOf s).toNat)
  case atStart => exact ⟨0, [], 0, none, 0, none, 0, Nat.zero_le _, rfl, rfl, rfl, hide rfl, hide ⟨tw_nil _ _, Li.nil w⟩⟩
  case round =>
    obtain ⟨j, fs, k, ua, uc, va, vc, hj, rfl, rfl, rfl, HK, HT⟩ := hrel
    by_cases hlt : j < n
    · have hjI : (j : Int) < n := by omega
      have hj0 : (0 : Int) ≤ j := by omega
      obtain ⟨x, hx⟩ : ∃ x, ks[j]? = some x := ⟨_, List.getElem?_eq_getElem (by rw [HL.out]; exact hlt)⟩
      obtain ⟨b1, o1, e1, d1⟩ := sB_cell (HB.out.below HT.out.1.bel) hx
      subst e1
      cases x with
      | false =>
        have HP : Hid (plc ks (j + 1) = plc ks j) := hide (plc_f hx)
        clear hx
        go_wp2
        exact ⟨⟨j + 1, fs, k, ua, uc, va, vc, by omega, by go_num, rfl, rfl, hide (by rw [HP.out]; exact HK.out), hide (by rw [HP.out]; exact HT.out)⟩, by simp [intOf]; omega⟩
      | true =>
        obtain ⟨b0, off, e, ha, hej, c0, c1, c2, c3, c4, hs⟩ := (HR.out.bel HT.out.1.bel).at (i := j) hlt
        have hme := HO.out e (List.mem_of_getElem? hej)
        have HC := hide (rown_any e wr hs (by have := hme.len; omega) hme.nil)
        have HP : Hid (plc ks (j + 1) = plc ks j ++ [j]) := hide (plc_t hx)
        have HE : Hid ((pkE es (plc ks n))[k]? = some e) := hide (pkE_at (by rw [HK.out]; exact plc_at hx hlt) hej)
        have HKn : Hid (k ≤ j) := hide (by rw [HK.out]; exact plc_le ks j)
        have HQ : Hid ((k + 1) * 56 ≤ 140737488355328) := hide (by have := HN.out; have := HKn.out; omega)
        subst ha
        clear hs hme hej hx
        go_wp2_with fail
        refine HC.out.mono ?_
        rintro r w3 ⟨sa, sc, rfl, ho, hcap, hnil, hb3⟩
        have HS := hide (And.intro ho (And.intro hcap hnil))
        have HB3 := hide hb3
        have HEv : Hid (E6.EvB (w3.alloc (.cells #[.int .i64 e.g, .int .i64 e.k, .int .u64 e.o, .int .u64 e.a, .slice sa e.ls.length sc] 43)) w3.heap.size e.g e.k e.o e.a sa e.ls.length sc) := hide E6.EvB.new
        have hb4 := Below.on hb3 (below_alloc1 w3 (.cells #[.int .i64 e.g, .int .i64 e.k, .int .u64 e.o, .int .u64 e.a, .slice sa e.ls.length sc] 43))
        have HTw4 := hide (tw_on HT.out.1 hb4)
        have HLi4 := hide (HT.out.2.on hb4)
        have HSz : Hid (w.heap.size ≤ (w3.alloc (.cells #[.int .i64 e.g, .int .i64 e.k, .int .u64 e.o, .int .u64 e.a, .slice sa e.ls.length sc] 43)).heap.size) := hide HTw4.out.bel.size
        have HPI : Hid (intP (plc ks (j + 1)) = intP (plc ks j) ++ [(j : Int)]) := hide (by rw [HP.out, intP_snoc])
        have HPl : Hid ((intP (plc ks j)).length = k) := hide (by rw [intP_len, HK.out])
        clear ho hcap hnil hb3 hb4 HC c0 c1 c2 c3 c4 d1
        generalize intP (plc ks j) = PP at HT HLi4 HPI HPl
        go_wp2_with (first
          | (at_builtin; refine E6.append_ev _ rfl _ _ rfl w.heap.size (.slice ua k uc) k fs rfl HTw4.out.own w3.heap.size ⟨e.g, e.k, e.o, e.a, sa, sc, e.ls⟩ rfl HEv.out HQ.out HSz.out ?_
             intro a2 c2 w5 o5 g5 _
             have HT5 := hide (tw_more HT.out.1 HE.out HS.out.1 HS.out.2.1 HS.out.2.2 HB3.out o5 g5)
             have HLi5 := hide (HLi4.out.ev HTw4.out g5)
             have HLi6 := hide (HLi5.out.on (below_alloc1 w5 (.cells #[.int .i64 (j : Int)] 3)))
             have HT6 := hide (tw_on HT5.out (below_alloc1 w5 (.cells #[.int .i64 (j : Int)] 3)))
             have HTr := hide (TRow.one (y := sI) (w := w5.alloc (.cells #[.int .i64 (j : Int)] 3)) (B := w5.heap.size) (x := (j : Int)) (heap_new w5 (.cells #[.int .i64 (j : Int)] 3)))
             clear o5 g5)
          | (at_builtin; refine append_lay sI _ 34 3 i0 _ 8 Tryz.underlying34 hi0 hz0 hz1 hz2 rfl rfl _ _ rfl w.heap.size (.slice va k vc) PP rfl HLi6.out.own _ 1 1 [(j : Int)] rfl HTr.out (fun e => by cases e) (by unfold maxLen; have := HPl.out; have := HQ.out; omega) (by have := HPl.out; have := HQ.out; omega) HLi6.out.bel.size ?_
             intro v' w7 o7 g7 l7
             have HLi7 : Hid (Li w w7 v' (intP (plc ks (j + 1)))) := hide (by rw [HPI.out]; exact HLi6.out.push o7 g7)
             have HT7 := hide (tw_li HT6.out HLi6.out g7)
             obtain ⟨a7, c7, hv7⟩ : ∃ a7 c7, v' = .slice a7 (k + 1) c7 := by
               obtain ⟨a7, c7, hv, _⟩ := HLi7.out.frm
               exact ⟨a7, c7, by rw [hv, intP_len, HP.out, List.length_append, HK.out]; rfl⟩
             subst hv7
             clear o7 g7 l7)
          | go_in)
        exact ⟨⟨j + 1, _, k + 1, a2, c2, a7, c7, by omega, by go_num, rfl, rfl, hide (by rw [HP.out, List.length_append, HK.out]; rfl), hide ⟨HT7.out, HLi7.out⟩⟩, by simp [intOf]; omega⟩
    · have h9 : j = n := by omega
      subst h9
      have hjI : ¬ (j : Int) < j := by omega
      go_wp2
      go_ret3
      exact ⟨fs, ua, uc, va, vc, by rw [← HK.out]; rfl, by rw [← HK.out]; exact HT.out.1, by rw [← HK.out]; exact HT.out.2⟩
end Go.Proofs.YtaeehnaicnckgaaGreatDoor
namespace Go.Proofs.YtaeehnaicnckgaaGreatDoor
open Go.RowKit Go.Maps Go.Shelf
theorem twins_via {w0 w1 x0 x1:World} {es gs ps qs:List E6.Ev} {n:Nat} {v u:Value} (hg:E6.Twins es gs) (h:E6.Tw w0 w1 gs n ps v) (k:E6.Tw x0 x1 es n qs u):E6.Twins qs ps:=by
 refine E6.twins_of (by rw [h.len,k.len]) fun i f hf=>?_
 obtain ⟨g,h1,⟨a1,a2,a3,a4,a5⟩,_⟩:=h.each i f hf
 have hl:=(List.getElem?_eq_some_iff.1 hf).1
 have hq:qs[i]?=some (qs[i]'(by rw [k.len,← h.len];exact hl)):=List.getElem?_eq_getElem _
 refine ⟨_,hq,?_⟩
 obtain ⟨e,h2,⟨b1,b2,b3,b4,b5⟩,_⟩:=k.each i _ hq
 obtain ⟨c1,c2,c3,c4,c5⟩:=hg.get h2 h1
 exact ⟨by rw [a1,b1,c1],by rw [a2,b2,c2],by rw [a3,b3,c3],by rw [a4,b4,c4],by rw [a5,b5,c5]⟩
theorem pk_twins {es gs:List E6.Ev} (hg:E6.Twins es gs) {P:List Nat} (hP:∀ p ∈ P,p < es.length):E6.Twins (pkE es P) (pkE gs P):=by
 refine E6.twins_of (by rw [pkE_len,pkE_len]) fun i f hf=>?_
 have hl:=(List.getElem?_eq_some_iff.1 hf).1
 rw [pkE_len] at hl
 have hp:P[i]?=some P[i]:=List.getElem?_eq_getElem hl
 have hlt:=hP _ (List.getElem_mem hl)
 have he:es[P[i]]?=some es[P[i]]:=List.getElem?_eq_getElem hlt
 have hg2:gs[P[i]]?=some (gs[P[i]]'(by rw [hg.len];exact hlt)):=List.getElem?_eq_getElem _
 refine ⟨_,pkE_at hp he,?_⟩
 have h1:=pkE_at hp hg2
 rw [hf] at h1
 cases h1
 exact hg.get he hg2
theorem twins_viaP {w0 w1 x0 x1:World} {es gs ps qs:List E6.Ev} {P:List Nat} {n:Nat} {v u:Value} (hg:E6.Twins es gs) (h:E6.Tw w0 w1 (pkE gs P) n ps v) (k:E6.Tw x0 x1 (pkE es P) n qs u) (hP:∀ p ∈ P,p < es.length):E6.Twins qs ps :=
 twins_via (pk_twins hg hP) h k
end Go.Proofs.YtaeehnaicnckgaaGreatDoor
namespace Go.Proofs.YtaeehnaicnckgaaGreatDoor
def nmd (T:List Me) (k x:Int):Bool:=T.any fun e=>decide (e.k=k∧e.a=x)
def cnA (T:List Me) (k o:Int):Nat:=T.countP fun e=>decide (e.k=k∧e.o=o)
def cnT (T:List Me) (k o a:Int):Nat:=T.countP fun e=>decide (e.k=k∧e.o=o∧e.a=a)
def cnZ:List Me→Int→Int
 | [],_=>0
 | e :: T,o=>(if e.k=14∧e.o=o then mzag e.a else 0)+cnZ T o
def roomT:List Me→Int→Option Int
 | [],_=>none
 | e :: T,o=>if e.k=9∧e.o=o then some e.a else roomT T o
structure Gdm (e:Me):Prop where
 g:0≤e.g∧e.g≤65535
 on:e.k=16→e.a=0∨e.a=1
 rc:e.k=12→e.a=0∨e.a=1
 al:e.k=20→1≤e.a
inductive Rch:List Me→CS→Prop
 | new:Rch [] CS.new
 | step {T:List Me} {M:CS} {e:Me}:Rch T M→Gdm e→M.why e=0→Rch (T++[e]) (M.next e)
section
variable {T : List Me} {M : CS} {e : Me} {r : Gor} {k o a x g : Int}
theorem nmd_snoc:nmd (T++[e]) k x=(nmd T k x || decide (e.k=k∧e.a=x)):=by
 unfold nmd;simp [List.any_append]
theorem cnA_snoc:cnA (T++[e]) k o=cnA T k o+(if e.k=k∧e.o=o then 1 else 0):=by
 unfold cnA
 rw [List.countP_append]
 congr 1
 by_cases h:e.k=k∧e.o=o
 ·rw [if_pos h];simp [h]
 ·rw [if_neg h];simp [h]
theorem cnT_snoc:cnT (T++[e]) k o a=cnT T k o a+(if e.k=k∧e.o=o∧e.a=a then 1 else 0):=by
 unfold cnT
 rw [List.countP_append]
 congr 1
 by_cases h:e.k=k∧e.o=o∧e.a=a
 ·rw [if_pos h];simp [h]
 ·rw [if_neg h];simp [h]
theorem cnZ_snoc:cnZ (T++[e]) o=cnZ T o+(if e.k=14∧e.o=o then mzag e.a else 0):=by
 induction T with
 | nil=>simp [cnZ]
 | cons x T ih=>rw [List.cons_append,cnZ,cnZ,ih];omega
theorem roomT_snoc:roomT (T++[e]) o=match roomT T o with
  | some r=>some r
  | none=>if e.k=9∧e.o=o then some e.a else none:=by
 induction T with
 | nil=>simp [roomT]
 | cons x T ih =>
  rw [List.cons_append,roomT,roomT]
  by_cases h:x.k=9∧x.o=o
  ·rw [if_pos h,if_pos h]
  ·rw [if_neg h,if_neg h,ih]
structure Can (M:CS) (e:Me) (r:Gor):Prop where
 gs:M.gs e.g=some r
 al:has e.g M.alive=true
 du:0 < r.as_→e.k=11∧e.o=r.to
 ask:M.ask e r=0
 nx:M.next e=(M.doo e r).tick
theorem why_can (h:M.why e=0):∃ r,Can M e r:=by
 unfold CS.why at h
 cases hg:M.gs e.g with
 | none=>rw [hg] at h;simp at h
 | some r =>
  rw [hg] at h
  simp only at h
  have h0:M.act e=0:=by
   by_cases h0:M.act e=0
   ·exact h0
   ·rw [if_pos h0] at h;exact h
  rw [if_neg (by simp [h0])] at h
  unfold CS.act at h0
  rw [hg] at h0
  simp only at h0
  by_cases ha:has e.g M.alive=true
  ·rw [if_pos ha] at h0
   refine ⟨r,hg,ha,fun h1=>?_,h,?_⟩
   ·by_cases h2:e.k≠11∨e.o≠r.to
    ·rw [if_pos ⟨h1,h2⟩] at h0;simp at h0
    ·omega
   ·unfold CS.next;rw [hg]
  ·rw [if_neg ha] at h0;simp at h0
theorem doo_cnt:(M.doo e r).tick.cnt=if e.k=14 then setF M.cnt e.o (M.cnt e.o+mzag e.a) else M.cnt:=by
 show (M.doo e r).cnt=_
 unfold CS.doo
 by_cases h3:e.k=3
 ·simp [h3]
 by_cases h4:e.k=4
 ·simp [h4]
 by_cases h5:e.k=5
 ·simp [h5]
 by_cases h6:e.k=6
 ·simp [h6]
 by_cases h7:e.k=7
 ·simp [h7]
 by_cases h8:e.k=8
 ·simp [h8]
 by_cases h9:e.k=9
 ·simp [h9]
 by_cases h10:e.k=10
 ·cases hc:M.chans e.o <;> simp [h10]
 by_cases h11:e.k=11
 ·simp [h11]
 by_cases h12:e.k=12
 ·cases hc:M.chans e.o <;> simp [h12]
 by_cases h13:e.k=13
 ·cases hc:M.chans e.o <;> simp [h13]
 by_cases h14:e.k=14
 ·simp [h14]
 by_cases h16:e.k=16
 ·simp [h16]
 by_cases h20:e.k=20
 ·simp [h20]
 by_cases h21:e.k=21
 ·simp [h21]
 simp [h3,h4,h5,h6,h7,h8,h9,h10,h11,h12,h13,h14,h16,h20,h21]
theorem doo_once:(M.doo e r).tick.once=if e.k=16 then setF M.once e.o true else M.once:=by
 show (M.doo e r).once=_
 unfold CS.doo
 by_cases h3:e.k=3
 ·simp [h3]
 by_cases h4:e.k=4
 ·simp [h4]
 by_cases h5:e.k=5
 ·simp [h5]
 by_cases h6:e.k=6
 ·simp [h6]
 by_cases h7:e.k=7
 ·simp [h7]
 by_cases h8:e.k=8
 ·simp [h8]
 by_cases h9:e.k=9
 ·simp [h9]
 by_cases h10:e.k=10
 ·cases hc:M.chans e.o <;> simp [h10]
 by_cases h11:e.k=11
 ·simp [h11]
 by_cases h12:e.k=12
 ·cases hc:M.chans e.o <;> simp [h12]
 by_cases h13:e.k=13
 ·cases hc:M.chans e.o <;> simp [h13]
 by_cases h14:e.k=14
 ·simp [h14]
 by_cases h16:e.k=16
 ·simp [h16]
 by_cases h20:e.k=20
 ·simp [h20]
 by_cases h21:e.k=21
 ·simp [h21]
 simp [h3,h4,h5,h6,h7,h8,h9,h10,h11,h12,h13,h14,h16,h20,h21]
def chNext (M:CS) (e:Me):Int→Option Chn :=
 if e.k=9 then setF M.chans e.o (some ⟨e.a,0,0,false⟩)
 else match M.chans e.o with
  | none=>M.chans
  | some c=>if e.k=10 then setF M.chans e.o (some { c with sends:=c.sends+1 }) else if e.k=12 then setF M.chans e.o (some { c with recvs:=c.recvs+e.a }) else if e.k=13 then setF M.chans e.o (some { c with closed:=true }) else M.chans
theorem doo_chans:(M.doo e r).tick.chans=chNext M e:=by
 show (M.doo e r).chans=_
 unfold CS.doo chNext
 by_cases h3:e.k=3
 ·cases hc:M.chans e.o <;> simp [h3]
 by_cases h4:e.k=4
 ·cases hc:M.chans e.o <;> simp [h4]
 by_cases h5:e.k=5
 ·cases hc:M.chans e.o <;> simp [h5]
 by_cases h6:e.k=6
 ·cases hc:M.chans e.o <;> simp [h6]
 by_cases h7:e.k=7
 ·cases hc:M.chans e.o <;> simp [h7]
 by_cases h8:e.k=8
 ·cases hc:M.chans e.o <;> simp [h8]
 by_cases h9:e.k=9
 ·simp [h9]
 by_cases h10:e.k=10
 ·cases hc:M.chans e.o <;> simp [h10]
 by_cases h11:e.k=11
 ·cases hc:M.chans e.o <;> simp [h11]
 by_cases h12:e.k=12
 ·cases hc:M.chans e.o <;> simp [h12]
 by_cases h13:e.k=13
 ·cases hc:M.chans e.o <;> simp [h13]
 by_cases h14:e.k=14
 ·cases hc:M.chans e.o <;> simp [h14]
 by_cases h16:e.k=16
 ·cases hc:M.chans e.o <;> simp [h16]
 by_cases h20:e.k=20
 ·cases hc:M.chans e.o <;> simp [h20]
 by_cases h21:e.k=21
 ·cases hc:M.chans e.o <;> simp [h21]
 cases hc:M.chans e.o <;> simp [h3,h4,h5,h6,h7,h8,h9,h10,h11,h12,h13,h14,h16,h20,h21]
structure LkO (T:List Me) (M:CS):Prop where
 ct:∀ o,M.cnt o=cnZ T o
 on:∀ o,M.once o=decide (0 < cnT T 16 o 1)
theorem LkO.new:LkO [] CS.new:=⟨fun _=>rfl,fun _=>rfl⟩
theorem ask_once (h:M.ask e r=0) (hk:e.k=16):¬ (e.a=1∧M.once e.o=true)∧¬ (e.a=0∧¬ M.once e.o=true):=by
 unfold CS.ask CS.askOther at h
 simp [hk] at h
 by_cases h1:e.a=1∧M.once e.o=true
 ·rw [if_pos h1] at h;simp at h
 ·rw [if_neg h1] at h
  refine ⟨h1,fun h2=>?_⟩
  rw [if_pos (by simpa using h2)] at h
  simp at h
theorem LkO.step (h:LkO T M) (hg:Gdm e) (hc:Can M e r):LkO (T++[e]) (M.next e):=by
 rw [hc.nx]
 refine ⟨fun o=>?_,fun o=>?_⟩
 ·rw [doo_cnt,cnZ_snoc]
  by_cases hk:e.k=14
  ·rw [if_pos hk]
   by_cases ho:e.o=o
   ·subst ho;rw [setF_same,if_pos ⟨hk,rfl⟩,h.ct]
   ·rw [setF_other _ _ (fun e9=>ho e9.symm),if_neg (fun e9=>ho e9.2),h.ct];omega
  ·rw [if_neg hk,if_neg (fun e9=>hk e9.1),h.ct];omega
 ·rw [doo_once,cnT_snoc]
  by_cases hk:e.k=16
  ·rw [if_pos hk]
   have hq:=ask_once hc.ask hk
   by_cases ho:e.o=o
   ·subst ho
    rw [setF_same]
    rcases hg.on hk with ha|ha
    ·have h1:M.once e.o=true:=by
      cases h9:M.once e.o with
      | true=>rfl
      | false=>exact absurd ⟨ha,by rw [h9];decide⟩ hq.2
     rw [if_neg (by omega),Nat.add_zero,← h.on,h1]
    ·rw [if_pos ⟨hk,rfl,ha⟩];simp
   ·rw [setF_other _ _ (fun e9=>ho e9.symm),if_neg (fun e9=>ho e9.2.1),h.on];rfl
  ·rw [if_neg hk,if_neg (fun e9=>hk e9.1),h.on];rfl
structure LkC (T:List Me) (M:CS):Prop where
 ch:∀ o,M.chans o=(roomT T o).map fun c=>⟨c,(cnA T 10 o:Int),(cnT T 12 o 1:Int),decide (0 < cnA T 13 o)⟩
 no:∀ o,roomT T o=none→cnA T 10 o=0∧cnT T 12 o 1=0∧cnA T 13 o=0
theorem LkC.new:LkC [] CS.new:=⟨fun _=>rfl,fun _ _=>⟨rfl,rfl,rfl⟩⟩
theorem ask_chan (h:M.ask e r=0) (h1:9≤e.k) (h2:e.k≤13):e.k=9 ↔ M.chans e.o=none:=by
 unfold CS.ask CS.askChan at h
 rw [if_neg (by omega),if_neg (by omega),if_pos ⟨h1,h2⟩] at h
 cases hc:M.chans e.o with
 | none =>
  rw [hc] at h
  simp only at h
  by_cases hk:e.k=9
  ·exact ⟨fun _=>rfl,fun _=>hk⟩
  ·rw [if_neg hk] at h;simp at h
 | some c =>
  rw [hc] at h
  simp only at h
  refine ⟨fun hk=>?_,fun e9=>by cases e9⟩
  rw [if_pos hk] at h
  simp at h
theorem LkC.step (h:LkC T M) (hg:Gdm e) (hc:Can M e r):LkC (T++[e]) (M.next e):=by
 rw [hc.nx]
 have hq:9≤e.k→e.k≤13→(e.k=9 ↔ roomT T e.o=none):=fun h1 h2=>by
  rw [ask_chan hc.ask h1 h2,h.ch];simp
 refine ⟨fun o=>?_,fun o hr=>?_⟩
 ·rw [doo_chans,roomT_snoc,cnA_snoc,cnT_snoc,cnA_snoc]
  unfold chNext
  by_cases ho:e.o=o
  ·subst ho
   by_cases h9:e.k=9
   ·have hn:=(hq (by omega) (by omega)).1 h9
    obtain ⟨n1,n2,n3⟩:=h.no _ hn
    rw [if_pos h9,setF_same,hn]
    simp [h9,n1,n2,n3]
   ·rw [if_neg h9,h.ch]
    cases hr:roomT T e.o with
    | none =>
     have hk:¬ (9≤e.k∧e.k≤13):=fun hk=>h9 ((hq hk.1 hk.2).2 hr)
     simp [h9,h.ch,hr]
    | some c =>
     simp only [Option.map_some]
     by_cases h10:e.k=10
     ·rw [if_pos h10,setF_same];simp [h10]
     ·rw [if_neg h10]
      by_cases h12:e.k=12
      ·rw [if_pos h12,setF_same]
       rcases hg.rc h12 with ha|ha <;> simp [h12,ha]
      ·rw [if_neg h12]
       by_cases h13:e.k=13
       ·rw [if_pos h13,setF_same];simp [h13]
       ·rw [if_neg h13,h.ch,hr];simp [h10,h12,h13]
  ·have ho2:o≠e.o:=fun e9=>ho e9.symm
   have e1:(if e.k=9 then setF M.chans e.o (some ⟨e.a,0,0,false⟩) else match M.chans e.o with
    | none=>M.chans
    | some c=>if e.k=10 then setF M.chans e.o (some { c with sends:=c.sends+1 }) else if e.k=12 then setF M.chans e.o (some { c with recvs:=c.recvs+e.a }) else if e.k=13 then setF M.chans e.o (some { c with closed:=true }) else M.chans) o=M.chans o:=by
    cases M.chans e.o with
    | none =>
     simp only
     split
     ·exact setF_other _ _ ho2
     ·rfl
    | some c =>
     simp only
     repeat' split
     all_goals first|rfl|exact setF_other _ _ ho2
   rw [e1,h.ch]
   cases hr:roomT T o with
   | none=>simp [ho]
   | some c=>simp [ho]
 ·rw [roomT_snoc] at hr
  cases hr2:roomT T o with
  | some c=>rw [hr2] at hr;cases hr
  | none =>
   rw [hr2] at hr
   simp only at hr
   obtain ⟨n1,n2,n3⟩:=h.no _ hr2
   have h9:¬ (e.k=9∧e.o=o):=fun e9=>by rw [if_pos e9] at hr;cases hr
   have hk:∀ q:Int,10≤q→q≤13→e.k=q→e.o≠o:=fun q q1 q2 q3 q4=>by
    subst q4
    exact h9 ⟨(hq (by omega) (by omega)).2 hr2,rfl⟩
   rw [cnA_snoc,cnT_snoc,cnA_snoc,n1,n2,n3]
   refine ⟨?_,?_,?_⟩
   ·rw [if_neg (fun e9=>hk 10 (by omega) (by omega) e9.1 e9.2)]
   ·rw [if_neg (fun e9=>hk 12 (by omega) (by omega) e9.1 e9.2.1)]
   ·rw [if_neg (fun e9=>hk 13 (by omega) (by omega) e9.1 e9.2)]
theorem Rch.lkO (h:Rch T M):LkO T M:=by
 induction h with
 | new=>exact LkO.new
 | step _ hg hw ih=>obtain ⟨r,hc⟩:=why_can hw;exact ih.step hg hc
theorem Rch.lkC (h:Rch T M):LkC T M:=by
 induction h with
 | new=>exact LkC.new
 | step _ hg hw ih=>obtain ⟨r,hc⟩:=why_can hw;exact ih.step hg hc
end
end Go.Proofs.YtaeehnaicnckgaaGreatDoor
