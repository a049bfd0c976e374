import Derived.Test.YthgelfdefkbfeaaGreatDoorZu33
import Derived.Test.YthgelfdefkbfeaaGreatDoorZu03
import Derived.ProofKit
import Derived.OpenShut
import Derived.SizedLaws
import Derived.SliceStrings
import Derived.Deep.Slices
import Derived.Test.YthgelfdefkbfeaaGreatDoorZu02
import Derived.LaidMore
import Derived.Stop.Joined
set_option maxRecDepth 8000
set_option maxHeartbeats 8000000
set_option linter.unusedVariables false
namespace Go.Proofs.YthgelfdefkbfeaaGreatDoor
open Go.RowKit Go.Maps Go.Shelf
theorem unions_any (a:Option Addr) (n c:Nat) (es:List E6.Ev) (a1:Option Addr) (n1 c1:Nat) (K1:List Bool) (a2:Option Addr) (n2 c2:Nat) (K2:List Bool) (w:World) (hK:E6.Kr w) (hr:E6.ERow w a n es) (hok:∀ e ∈ es,e.ok) (hn:n * 56≤140737488355328) (hc0:a=none→c=0) (h1:TRow sB w a1 n1 K1) (h2:TRow sB w a2 n2 K2) (hn1:(n1:Int)≤9223372036854775806) (hn2:(n2:Int)≤9223372036854775806) :
  Calls Tryz.prog 3 #[.slice a n c,.slice a1 n1 c1,.slice a2 n2 c2] w fun e w'=>e=.returned (.bool true)∧Below w.heap.size w w':=by
 have hsz:=hK.size
 have hnM:(n:Int)≤9223372036854775806:=by omega
 have HAw:=hide (awakeU_any w hK)
 have HRu:=hide (fun X (hb:Below w.heap.size w X)=>runU_any a n c es X (hK.below hb (by omega)) (hr.bel hb) hok hn hc0)
 have HTc:=hide (fun X (hb:Below w.heap.size w X) (hE:wnE es=0)=>twc_any a n c es X (hK.below hb (by omega)) (hr.bel hb) hok hE hn hc0)
 have HL:=hide hr.len
 have HN1:Hid (wnE es=0→n≤1048576):=hide (fun hE=>by rw [← hr.len];exact (wn_rch hE hok).1)
 have H1:=hide h1
 have H2:=hide h2
 clear hK hr hok hn hc0 h1 h2 hsz
 go_enter Tryz.func3,Tryz.ntmps3
 go_wp2_with fail
 refine HAw.out.mono ?_
 rintro r w1 ⟨rfl,hb1⟩
 have HRu1:=hide (HRu.out w1 hb1)
 have HB1:=hide hb1
 clear hb1 HAw HRu
 obtain ⟨D,hD⟩:∃ D,decide (wnE es=0)=D:=⟨_,rfl⟩
 rw [hD] at HRu1
 have HD:=hide hD
 clear hD
 go_wp2_with fail
 refine HRu1.out.mono ?_
 rintro r w2 ⟨rfl,hb2⟩
 have HB2:=hide (Below.on HB1.out hb2)
 clear hb2 HRu1 HB1
 cases D with
 | false =>
  go_wp2
  go_ret
  exact ⟨rfl,HB2.out⟩
 | true =>
 have HE:Hid (wnE es=0):=hide (of_decide_eq_true HD.out)
 have HN:=hide (HN1.out HE.out)
 clear HD HN1
 have HC:Hid (∀ (X:World) (kd:Option Addr) (kn kc:Nat) (ks:List Bool),TRow sB X kd kn ks→(kn:Int)≤9223372036854775806→Calls Tryz.prog 8 #[.slice a n c,.slice kd kn kc] X fun r w'=>∃ va vc,r=.returned (.slice va n vc)∧Own sB 4 w' X.heap.size (.slice va n vc) (chL n ks)∧Below X.heap.size X w'):=hide (fun X kd kn kc ks hk hkn=>by
  refine (choice_any a n c kd kn kc ks X HN.out hk hkn).mono ?_
  rintro r w' ⟨v,rfl,hl⟩
  obtain ⟨va,vc,hv,_⟩:=own_form hl.own
  have ho:=hl.own
  rw [chL_len] at hv
  subst hv
  exact ⟨va,vc,rfl,ho,hl.bel⟩)
 have HCa:=hide (HC.out w2 a1 n1 c1 K1 (H1.out.below HB2.out) hn1)
 go_wp2_with fail
 refine HCa.out.mono ?_
 rintro r w3 ⟨xa,xc,rfl,xo,xb⟩
 have HOx:=hide xo
 have HSx:=hide xb
 have HB3:=hide (Below.on HB2.out xb)
 clear xo xb HCa
 have HCa:=hide (HC.out w3 a2 n2 c2 K2 (H2.out.below HB3.out) hn2)
 go_wp2_with fail
 refine HCa.out.mono ?_
 rintro r w4 ⟨ya,yc,rfl,yo,yb⟩
 have HOy:=hide yo
 have HSy:=hide yb
 have HB4:=hide (Below.on HB3.out yb)
 clear yo yb HCa
 have HCa:=hide (HC.out w4 none 0 0 [] (TRow.nil _ _ _) (by decide))
 go_wp2_with fail
 refine HCa.out.mono ?_
 rintro r w5 ⟨za,zc,rfl,zo,zb⟩
 have HOz:=hide zo
 have HSz:=hide zb
 have HB5:=hide (Below.on HB4.out zb)
 clear zo zb HCa
 have HCa:=hide (HC.out w5 none 0 0 [] (TRow.nil _ _ _) (by decide))
 go_wp2_with fail
 refine HCa.out.mono ?_
 rintro r w6 ⟨fa,fc,rfl,fo,fb⟩
 have HOf:=hide fo
 have HSf:=hide fb
 have HB6:=hide (Below.on HB5.out fb)
 clear fo fb HCa
 obtain ⟨X,hX⟩:∃ X,chL n K1=X:=⟨_,rfl⟩
 obtain ⟨Y,hY⟩:∃ Y,chL n K2=Y:=⟨_,rfl⟩
 have HXl:Hid (X.length=n):=hide (by rw [← hX,chL_len])
 have HYl:Hid (Y.length=n):=hide (by rw [← hY,chL_len])
 rw [hX] at HOx
 rw [hY] at HOy
 clear hX hY
 have HUL:Hid (UL w6 w6 w.heap.size n (.slice xa n xc) (.slice ya n yc) (.slice za n zc) (.slice fa n fc) X Y (orL X Y) (chL n []) (List.replicate n true) (chL n []) 0):=hide (by
  have bx:=(HOx.out.below HSy.out)
  have bx5:=(bx.below HSz.out)
  have by5:=(HOy.out.below HSz.out)
  have s2:=HB2.out.size
  have s3:=HSx.out.size
  have s4:=HSy.out.size
  have s5:=HSz.out.size
  have s6:=HSf.out.size
  refine ⟨(bx5.below HSf.out).mono s2,(by5.below HSf.out).mono (by omega),(HOz.out.below HSf.out).mono (by omega),HOf.out.mono (by omega),fun q hq=>?_,fun q hq=>?_,But.refl _ _⟩
  ·have h1:=(HOz.out.lt q hq).1
   have h2:=(HOz.out.lt q hq).2
   refine ⟨fun e=>?_,fun e=>?_,fun e=>?_⟩
   ·have:=(HOx.out.lt q e).2;omega
   ·have:=(HOy.out.lt q e).2;omega
   ·have:=(HOf.out.lt q e).1;omega
  ·have h1:=(HOf.out.lt q hq).1
   refine ⟨fun e=>?_,fun e=>?_,fun e=>?_⟩
   ·have:=(HOx.out.lt q e).2;omega
   ·have:=(HOy.out.lt q e).2;omega
   ·have:=(HOz.out.lt q e).2;omega)
 have HZn:Hid (Below w.heap.size w w6∧(∀ q,(Value.slice za n zc).ownBlock=some q∨(Value.slice fa n fc).ownBlock=some q→w.heap.size≤q)):=hide ⟨HB6.out,fun q hq=>by
  have s2:=HB2.out.size
  have s3:=HSx.out.size
  have s4:=HSy.out.size
  have s5:=HSz.out.size
  rcases hq with e|e
  ·have:=(HOz.out.lt q e).1;omega
  ·have:=(HOf.out.lt q e).1;omega⟩
 clear HOx HOy HOz HOf HSx HSy HSz HSf HB2 HB3 HB4 HB5 HB6 H1 H2 hn1 hn2
 go_wp2
 go_loopw [11] (fun s wr=>∃ j:Nat,j≤n∧s=.int .i64 j∧Hid (UL w6 wr w.heap.size n (.slice xa n xc) (.slice ya n yc) (.slice za n zc) (.slice fa n fc) X Y (orL X Y) (chL n []) (List.replicate n true) (chL n []) j)) (fun s _=>n - (intOf s).toNat)
 case atStart=>exact ⟨0,Nat.zero_le _,rfl,HUL⟩
 case round =>
  clear HUL
  obtain ⟨j,hj,rfl,HJ⟩:=hrel
  by_cases hlt:j < n
  ·have hjI:(j:Int) < n:=by omega
   have hj0:(0:Int)≤j:=by omega
   have lz:(mixL (orL X Y) (chL n []) j).length=n:=mixL_len (orL_len HXl.out HYl.out) chL_len hj
   have lt':(mixL (List.replicate n true) (chL n []) j).length=n:=mixL_len (by simp) chL_len hj
   obtain ⟨zb,c3,e3,_,_⟩:=HJ.out.z.frm (by rw [lz];omega)
   obtain ⟨tb,c4,e4,_,_⟩:=HJ.out.a.frm (by rw [lt'];omega)
   rw [lz] at e3
   rw [lt'] at e4
   injection e3 with e3 _ _
   injection e4 with e4 _ _
   obtain ⟨p,hp⟩:∃ p,X[j]?=some p:=⟨_,List.getElem?_eq_getElem (by rw [HXl.out];exact hlt)⟩
   obtain ⟨q,hq⟩:∃ q,Y[j]?=some q:=⟨_,List.getElem?_eq_getElem (by rw [HYl.out];exact hlt)⟩
   obtain ⟨bx,ox,ex,dx⟩:=sB_cell (HJ.out.x.row HXl.out) hp
   obtain ⟨bY,oy,ey,dy⟩:=sB_cell (HJ.out.y.row HYl.out) hq
   subst ex
   subst ey
   subst e3
   subst e4
   obtain ⟨⟨uz,kz⟩,fz,sz⟩:=mix_cell HJ.out.z lz hlt
   obtain ⟨⟨ut,kt⟩,ft,st⟩:=mix_cell HJ.out.a lt' hlt
   have hzt:¬ zb=tb:=fun e=>(HJ.out.xz zb rfl).2.2 (by rw [e];rfl)
   have htz:¬ tb=zb:=fun e=>hzt e.symm
   have HJ2:=hide (HJ.out.step (orL_len HXl.out HYl.out) chL_len (by simp) chL_len hlt (orL_get hp hq) (by rw [List.getElem?_replicate,if_pos hlt]:(List.replicate n true)[j]?=some true))
   clear lz lt' hp hq
   clear HJ
   cases p <;> cases q
   all_goals
    go_wp2
    exact ⟨⟨j+1,by omega,by go_num,HJ2⟩,by simp [intOf];omega⟩
  ·have h9:j=n:=by omega
   subst h9
   have hjI:¬ (j:Int) < j:=by omega
   have HB6:Hid (Below w.heap.size w wr):=hide (HZn.out.1.trans (HJ.out.but.below HZn.out.1.size HZn.out.2))
   have HR6:Hid (RowsB wr j [(xa,X),(ya,Y),(za,orL X Y),(fa,List.replicate j true)]):=hide ⟨HJ.out.x.row HXl.out,HJ.out.y.row HYl.out,by
    have h:=HJ.out.z
    rw [mixL_full (orL_len HXl.out HYl.out) chL_len] at h
    exact h.row (orL_len HXl.out HYl.out),by
    have h:=HJ.out.a
    rw [mixL_full (by simp) chL_len] at h
    exact h.row (by simp),trivial⟩
   clear HJ HZn hlt
   have hb6:=HB6.out
   generalize wr=w6' at HB6 HR6 hb6 ⊢
   clear hb6
   have HTp:=hide (HTc.out w6' HB6.out HE.out)
   go_wp2_with fail
   refine HTp.out.mono ?_
   rintro r vp ⟨ga,gc,rfl,hb,hcl⟩
   have HCp:=hide (hcl vp (Below.refl _ _) xa xc X (RowsB.below hb HR6.out).1)
   have HBvp:=hide (Below.on HB6.out hb)
   have HRvp:=hide (RowsB.below hb HR6.out)
   clear hb hcl HTp HB6 HR6
   go_wp2_with fail
   refine HCp.out.mono ?_
   rintro r up ⟨kp,rfl,ho,hb⟩
   have HBup:=hide (Below.on HBvp.out hb)
   have HRup:Hid (RowsB up j ((some ⟨kp,0,none⟩,cl es X) :: _)):=hide ⟨ho,RowsB.below hb HRvp.out⟩
   clear ho hb HCp HBvp HRvp
   have HTq:=hide (HTc.out up HBup.out HE.out)
   go_wp2_with fail
   refine HTq.out.mono ?_
   rintro r vq ⟨ga,gc,rfl,hb,hcl⟩
   have HCq:=hide (hcl vq (Below.refl _ _) ya yc Y (RowsB.below hb HRup.out).2.2.1)
   have HBvq:=hide (Below.on HBup.out hb)
   have HRvq:=hide (RowsB.below hb HRup.out)
   clear hb hcl HTq HBup HRup
   go_wp2_with fail
   refine HCq.out.mono ?_
   rintro r uq ⟨kq,rfl,ho,hb⟩
   have HBuq:=hide (Below.on HBvq.out hb)
   have HRuq:Hid (RowsB uq j ((some ⟨kq,0,none⟩,cl es Y) :: _)):=hide ⟨ho,RowsB.below hb HRvq.out⟩
   clear ho hb HCq HBvq HRvq
   have HTr:=hide (HTc.out uq HBuq.out HE.out)
   go_wp2_with fail
   refine HTr.out.mono ?_
   rintro r vr ⟨ga,gc,rfl,hb,hcl⟩
   have HCr:=hide (hcl vr (Below.refl _ _) za zc (orL X Y) (RowsB.below hb HRuq.out).2.2.2.2.1)
   have HBvr:=hide (Below.on HBuq.out hb)
   have HRvr:=hide (RowsB.below hb HRuq.out)
   clear hb hcl HTr HBuq HRuq
   go_wp2_with fail
   refine HCr.out.mono ?_
   rintro r ur ⟨kr,rfl,ho,hb⟩
   have HBur:=hide (Below.on HBvr.out hb)
   have HRur:Hid (RowsB ur j ((some ⟨kr,0,none⟩,cl es (orL X Y)) :: _)):=hide ⟨ho,RowsB.below hb HRvr.out⟩
   clear ho hb HCr HBvr HRvr
   have HTs:=hide (HTc.out ur HBur.out HE.out)
   go_wp2_with fail
   refine HTs.out.mono ?_
   rintro r vs ⟨ga,gc,rfl,hb,hcl⟩
   have HCs:=hide (hcl vs (Below.refl _ _) fa fc (List.replicate j true) (RowsB.below hb HRur.out).2.2.2.2.2.2.1)
   have HBvs:=hide (Below.on HBur.out hb)
   have HRvs:=hide (RowsB.below hb HRur.out)
   clear hb hcl HTs HBur HRur
   go_wp2_with fail
   refine HCs.out.mono ?_
   rintro r us ⟨ks,rfl,ho,hb⟩
   have HBus:=hide (Below.on HBvs.out hb)
   have HRus:Hid (RowsB us j ((some ⟨ks,0,none⟩,cl es (List.replicate j true)) :: _)):=hide ⟨ho,RowsB.below hb HRvs.out⟩
   clear ho hb HCs HBvs HRvs
   have bjj:((j:Int) != (j:Int))=false:=by simp
   obtain ⟨P,hP⟩:∃ P,cl es X=P:=⟨_,rfl⟩
   obtain ⟨Q,hQ⟩:∃ Q,cl es Y=Q:=⟨_,rfl⟩
   have HPl:Hid (P.length=j):=hide (by rw [← hP,cl_len,HL.out])
   have HQl:Hid (Q.length=j):=hide (by rw [← hQ,cl_len,HL.out])
   have HRr:Hid (cl es (orL X Y)=orL P Q):=hide (by rw [cl_or (by rw [HXl.out,HL.out]) (by rw [HYl.out,HL.out]),hP,hQ])
   have HRs:Hid (cl es (List.replicate j true)=List.replicate j true):=hide (by rw [← HL.out];exact cl_all)
   have HRn:Hid (cl es (chL j [])=chL j []):=hide (by rw [chL_nil,← HL.out];exact cl_none)
   rw [hP,hQ,HRr.out,HRs.out] at HRus
   clear hP hQ HRr HRs
   obtain ⟨i0,hi0,hz0,hz1,hz2⟩:=info_parts zInfoU
   go_wp2
   go_loopw [24,25] (fun s5 s6 wr=>∃ i:Nat,i≤j∧s6=.int .i64 i∧Hid (LbU us wr s5 ((orL P Q).take i))) (fun _ s _=>j - (intOf s).toNat)
   case atStart=>exact ⟨0,Nat.zero_le _,rfl,hide (LbU.nil us)⟩
   case round =>
    obtain ⟨i,hi,rfl,HJ⟩:=hrel
    by_cases hlt:i < j
    ·have hiI:(i:Int) < j:=by omega
     have hi00:(0:Int)≤i:=by omega
     obtain ⟨p,hp⟩:∃ p,P[i]?=some p:=⟨_,List.getElem?_eq_getElem (by rw [HPl.out];exact hlt)⟩
     obtain ⟨q,hq⟩:∃ q,Q[i]?=some q:=⟨_,List.getElem?_eq_getElem (by rw [HQl.out];exact hlt)⟩
     obtain ⟨bp,op,ep,dp⟩:=sB_cell (RowsB.below HJ.out.bel HRus.out).2.2.2.1 hp
     obtain ⟨bq,oq,eq,dq⟩:=sB_cell (RowsB.below HJ.out.bel HRus.out).2.2.1 hq
     injection ep with ep
     injection ep with ep1 ep2 _
     injection eq with eq
     injection eq with eq1 eq2 _
     rw [← ep1,← ep2,Nat.zero_add] at dp
     rw [← eq1,← eq2,Nat.zero_add] at dq
     have hpq:=orL_get hp hq
     obtain ⟨hl9,h99⟩:=List.getElem?_eq_some_iff.1 hpq
     have HLn:Hid (((orL P Q).take i).length≤i):=hide (by rw [List.length_take];omega)
     have HJ2:Hid ((orL P Q).take (i+1)=(orL P Q).take i++[p || q]):=hide (by rw [List.take_succ_eq_append_getElem hl9,h99])
     clear hp hq hpq h99 ep1 ep2 eq1 eq2
     cases p <;> cases q
     ·have HJ3:=hide (HJ.out.on (below_alloc1 wr (.cells #[.bool false] 4)))
      have HT:=hide (TRow.one (y:=sB) (w:=wr.alloc (.cells #[.bool false] 4)) (B:=wr.heap.size) (x:=false) (heap_new wr (.cells #[.bool false] 4)))
      have HJ2:Hid ((orL P Q).take (i+1)=(orL P Q).take i++[false]):=HJ2
      clear hl9
      generalize (orL P Q).take i=PP at HJ HJ2 HJ3 HLn
      go_wp2_with (at_builtin;refine append_lay sB _ 23 4 i0 _ 1 Tryz.underlying23 hi0 hz0 hz1 hz2 rfl rfl _ _ rfl us.heap.size _ PP rfl HJ3.out.own _ 1 1 [false] rfl HT.out (fun e=>by cases e) ?b1 ?b2 HJ3.out.bel.size ?_)
      case b1=>unfold maxLen;have:=HLn.out;have:=HN.out;omega
      case b2=>have:=HLn.out;have:=HN.out;omega
      intro v' w' o2 g2 l2
      have HJ4:Hid (LbU us w' v' ((orL P Q).take (i+1))):=hide (by rw [HJ2.out];exact HJ3.out.push o2 g2)
      clear o2 g2 l2
      go_wp2
      exact ⟨⟨i+1,by omega,by go_num,HJ4⟩,by simp [intOf];omega⟩
     ·have HJ3:=hide (HJ.out.on (below_alloc1 wr (.cells #[.bool true] 4)))
      have HT:=hide (TRow.one (y:=sB) (w:=wr.alloc (.cells #[.bool true] 4)) (B:=wr.heap.size) (x:=true) (heap_new wr (.cells #[.bool true] 4)))
      have HJ2:Hid ((orL P Q).take (i+1)=(orL P Q).take i++[true]):=HJ2
      clear hl9
      generalize (orL P Q).take i=PP at HJ HJ2 HJ3 HLn
      go_wp2_with (at_builtin;refine append_lay sB _ 23 4 i0 _ 1 Tryz.underlying23 hi0 hz0 hz1 hz2 rfl rfl _ _ rfl us.heap.size _ PP rfl HJ3.out.own _ 1 1 [true] rfl HT.out (fun e=>by cases e) ?b1 ?b2 HJ3.out.bel.size ?_)
      case b1=>unfold maxLen;have:=HLn.out;have:=HN.out;omega
      case b2=>have:=HLn.out;have:=HN.out;omega
      intro v' w' o2 g2 l2
      have HJ4:Hid (LbU us w' v' ((orL P Q).take (i+1))):=hide (by rw [HJ2.out];exact HJ3.out.push o2 g2)
      clear o2 g2 l2
      go_wp2
      exact ⟨⟨i+1,by omega,by go_num,HJ4⟩,by simp [intOf];omega⟩
     ·have HJ3:=hide (HJ.out.on (below_alloc1 wr (.cells #[.bool true] 4)))
      have HT:=hide (TRow.one (y:=sB) (w:=wr.alloc (.cells #[.bool true] 4)) (B:=wr.heap.size) (x:=true) (heap_new wr (.cells #[.bool true] 4)))
      have HJ2:Hid ((orL P Q).take (i+1)=(orL P Q).take i++[true]):=HJ2
      clear hl9
      generalize (orL P Q).take i=PP at HJ HJ2 HJ3 HLn
      go_wp2_with (at_builtin;refine append_lay sB _ 23 4 i0 _ 1 Tryz.underlying23 hi0 hz0 hz1 hz2 rfl rfl _ _ rfl us.heap.size _ PP rfl HJ3.out.own _ 1 1 [true] rfl HT.out (fun e=>by cases e) ?b1 ?b2 HJ3.out.bel.size ?_)
      case b1=>unfold maxLen;have:=HLn.out;have:=HN.out;omega
      case b2=>have:=HLn.out;have:=HN.out;omega
      intro v' w' o2 g2 l2
      have HJ4:Hid (LbU us w' v' ((orL P Q).take (i+1))):=hide (by rw [HJ2.out];exact HJ3.out.push o2 g2)
      clear o2 g2 l2
      go_wp2
      exact ⟨⟨i+1,by omega,by go_num,HJ4⟩,by simp [intOf];omega⟩
     ·have HJ3:=hide (HJ.out.on (below_alloc1 wr (.cells #[.bool true] 4)))
      have HT:=hide (TRow.one (y:=sB) (w:=wr.alloc (.cells #[.bool true] 4)) (B:=wr.heap.size) (x:=true) (heap_new wr (.cells #[.bool true] 4)))
      have HJ2:Hid ((orL P Q).take (i+1)=(orL P Q).take i++[true]):=HJ2
      clear hl9
      generalize (orL P Q).take i=PP at HJ HJ2 HJ3 HLn
      go_wp2_with (at_builtin;refine append_lay sB _ 23 4 i0 _ 1 Tryz.underlying23 hi0 hz0 hz1 hz2 rfl rfl _ _ rfl us.heap.size _ PP rfl HJ3.out.own _ 1 1 [true] rfl HT.out (fun e=>by cases e) ?b1 ?b2 HJ3.out.bel.size ?_)
      case b1=>unfold maxLen;have:=HLn.out;have:=HN.out;omega
      case b2=>have:=HLn.out;have:=HN.out;omega
      intro v' w' o2 g2 l2
      have HJ4:Hid (LbU us w' v' ((orL P Q).take (i+1))):=hide (by rw [HJ2.out];exact HJ3.out.push o2 g2)
      clear o2 g2 l2
      go_wp2
      exact ⟨⟨i+1,by omega,by go_num,HJ4⟩,by simp [intOf];omega⟩
    ·have h9:i=j:=by omega
     subst h9
     have hiI:¬ (i:Int) < i:=by omega
     have hlb:LbU us wr _ ((orL P Q).take i):=HJ.out
     rw [List.take_of_length_le (by rw [orL_len HPl.out HQl.out];exact Nat.le_refl _)] at hlb
     obtain ⟨la,lc,hlv,hlr⟩:=hlb.frm
     rw [orL_len HPl.out HQl.out] at hlv hlr
     subst hlv
     have HR9:Hid (RowsB wr i ((la,orL P Q) :: _)):=hide ⟨hlr,RowsB.below hlb.bel HRus.out⟩
     have HB9:=hide (Below.on HBus.out hlb.bel)
     have HT9:=hide (HTc.out wr HB9.out HE.out)
     clear hlb hlr HJ HRus HBus hlt hi0 hz0 hz1 hz2 HPl HQl HXl HYl
     go_wp2_with fail
     refine HT9.out.mono ?_
     rintro r wa ⟨ga,gc,rfl,hba,hcl⟩
     have HBa:=hide (Below.on HB9.out hba)
     have HRa:=hide (RowsB.below hba HR9.out)
     have HCa:=hide (HC.out wa none 0 0 [] (TRow.nil _ _ _) (by decide))
     have HCl:=hide hcl
     clear hba hcl HT9 HB9 HR9
     go_wp2_with fail
     refine HCa.out.mono ?_
     rintro r wb ⟨na,nc,rfl,no,hbb⟩
     have HBb:=hide (Below.on HBa.out hbb)
     have HRb:=hide (RowsB.below hbb HRa.out)
     have HCn:=hide (HCl.out wb hbb na nc (chL i []) (no.row chL_len))
     rw [HRn.out] at HCn
     clear no hbb HCa HCl HBa HRa
     go_wp2_with fail
     refine HCn.out.mono ?_
     rintro r wd ⟨kn,rfl,ho,hbd⟩
     have HBd:=hide (Below.on HBb.out hbd)
     have HRd:Hid (RowsB wd i ((some ⟨kn,0,none⟩,chL i []) :: _)):=hide ⟨ho,RowsB.below hbd HRb.out⟩
     have HS1:=hide (u_bools (some ⟨kr,0,none⟩) la i i lc (orL P Q) wd HRd.out.2.2.2.1 HRd.out.2.1 hnM)
     clear ho hbd HCn HBb HRb
     go_wp2_with fail
     refine HS1.out.mono ?_
     rintro r we ⟨rfl,hbe⟩
     have HBe:=hide (Below.on HBd.out hbe)
     have HRe:=hide (RowsB.below hbe HRd.out)
     have HS2:=hide (u_bools (some ⟨ks,0,none⟩) fa i i fc (List.replicate i true) we HRe.out.2.2.1 HRe.out.2.2.2.2.2.2.2.2.2.1 hnM)
     clear hbe HS1 HBd HRd
     go_wp2_with fail
     refine HS2.out.mono ?_
     rintro r wf ⟨rfl,hbf⟩
     have HBf:=hide (Below.on HBe.out hbf)
     have HRf:=hide (RowsB.below hbf HRe.out)
     have HCa:=hide (HC.out wf none 0 0 [] (TRow.nil _ _ _) (by decide))
     clear hbf HS2 HBe HRe
     go_wp2_with fail
     refine HCa.out.mono ?_
     rintro r wg ⟨na2,nc2,rfl,no,hbg⟩
     have HBg:=hide (Below.on HBf.out hbg)
     have HRg:=hide (RowsB.below hbg HRf.out)
     have HS3:=hide (u_bools (some ⟨kn,0,none⟩) na2 i i nc2 (chL i []) wg HRg.out.1 (no.row chL_len) hnM)
     clear no hbg HCa HBf HRf
     go_wp2_with fail
     refine HS3.out.mono ?_
     rintro r wh ⟨rfl,hbh⟩
     have HBh:=hide (Below.on HBg.out hbh)
     clear hbh HS3 HBg HRg
     go_wp2
     go_ret
     exact ⟨rfl,HBh.out⟩
end Go.Proofs.YthgelfdefkbfeaaGreatDoor
namespace Go.Proofs.YthgelfdefkbfeaaGreatDoor.E6
open Go.ChangeShapes Go.WideShapes Go.ChangeAt Go.RowKit
theorem add_at (b off i:Nat):(⟨b,off,none⟩:Addr).add i=⟨b,off+i,none⟩:=by unfold Addr.add;split <;> simp_all
theorem bytes9:Tryz.prog.bytesOf 9=16:=by kernel_rfl
theorem weights_all {H:Type} {P:Program} {e:TypeId} {d:DataW H} {n:Nat}:∀ {l:List (DataW H)},d ∈ l→n ∈ d.weights P e→n ∈ DataW.weightsAll P e l
 | [],h,_=>by cases h
 | x :: r,h,hn=>by
  rw [DataW.weightsAll,List.mem_append]
  rcases List.mem_cons.1 h with rfl|h
  ·exact .inl hn
  ·exact .inr (weights_all h hn)
theorem open_strs_in {H:Type} {enc:TypeId × Value→H} {W:World} {v:Value} {fuel:Nat} {d:DataW H} {p:List MemPlace}
  (hf:DataW.trod enc Tryz.prog W 0 (fun _=>true) true fuel 41 [v]=some (d,p)) (hw:∀ n ∈ d.weights Tryz.prog 41,n≤reachBytes) :
  ∃ (z:List ByteArray) (ai:Option Addr) (ci:Nat),v=.slice ai z.length ci∧SRow W ai z.length z∧z.length≤ci∧z.length≤8796093021952∧(∀ s ∈ z,s.size≤maxLen)∧(ai=none→z.length=0∧ci=0):=by
 rcases open_strings Tryz.underlying41 Tryz.underlying9 (by kernel_rfl) hf with ⟨hcs,_⟩|⟨x,l,c,zs,hcs,_,hl,hm,hz,hx,hcell,hwz⟩
 ·simp at hcs
  subst hcs
  exact ⟨[],none,0,rfl,⟨rfl,.inl rfl⟩,Nat.le_refl _,by simp,by simp,fun _=>⟨rfl,rfl⟩⟩
 ·simp at hcs
  subst hcs
  simp only [Prod.mk.injEq] at hx
  have hz':zs.length=c:=by simpa using hz
  have hs:=hw (((strs (zs.take l):List (DataW H)).length+(strs (zs.drop l):List (DataW H)).length) * Tryz.prog.bytesOf 9) (by rw [hx.1];simp [DataW.weights,Tryz.underlying41])
  rw [bytes9] at hs
  simp only [strs,List.length_map,List.length_take,List.length_drop,reachBytes] at hs
  have hlen:(zs.take l).length=l:=by rw [List.length_take];omega
  refine ⟨zs.take l,some x,c,by rw [hlen],?_,by omega,by omega,fun s hs=>hwz s (List.mem_of_mem_take hs),fun h=>(by cases h)⟩
  rw [hlen]
  refine ⟨hlen,?_⟩
  by_cases h0:l=0
  ·exact .inl h0
  ·right
   obtain ⟨b,off,sp⟩:=x
   have h1:=hcell 0 (by omega)
   have hsp:sp=none:=by simpa [Addr.add] using World.cell?_spot h1
   subst hsp
   refine ⟨b,off,rfl,fun i hi=>?_⟩
   have:=hcell i (by omega)
   rw [add_at] at this
   rw [this]
   congr 2
   rw [List.getD_eq_getElem?_getD,List.getD_eq_getElem?_getD,List.getElem?_take_of_lt hi]
instance:Inhabited Ev:=⟨⟨0,0,0,0,none,0,[]⟩⟩
theorem ocells3:Tryz.prog.cellsOf 3=1:=by kernel_rfl
theorem ocellsU:Tryz.prog.cellsOf 33=1:=by kernel_rfl
theorem ocellsS:Tryz.prog.cellsOf 41=1:=by kernel_rfl
theorem ocellsE:Tryz.prog.cellsOf 43=5:=by kernel_rfl
theorem obytesE:Tryz.prog.bytesOf 43=56:=by kernel_rfl
theorem u64_bd {a:Int} (h:(Lit.int .u64 a).wf=true):0≤a∧a≤18446744073709551615:=by
 have hw:IntKind.u64.min≤a∧a≤IntKind.u64.max:=by simpa [Lit.wf] using h
 have e1:IntKind.u64.min=0:=by decide
 have e2:IntKind.u64.max=18446744073709551615:=by decide
 rw [e1,e2] at hw
 exact hw
theorem ofive {α:Type} {l:List α} (h:l.length=5):∃ a b c d e,l=[a,b,c,d,e]:=by
 match l,h with
 | [a,b,c,d,e],_=>exact ⟨a,b,c,d,e,rfl⟩
theorem open_ev_in {H:Type} {enc:TypeId × Value→H} {W:World} {cs:List Value} {fuel:Nat} {d:DataW H} {p:List MemPlace}
  (hf:DataW.trod enc Tryz.prog W 0 (fun _=>true) true fuel 43 cs=some (d,p)) (hw:∀ n ∈ d.weights Tryz.prog 43,n≤reachBytes) :
  ∃ e:Ev,cs=ecell e∧e.ok∧e.at W:=by
 obtain ⟨xs,k,_,hxd,hlen,hxs,hfs⟩:=DataW.trod_struct Tryz.underlying43 hf
 rw [ocellsE] at hlen
 have g0:=hfs 0 _ rfl
 have g1:=hfs 1 _ rfl
 have g2:=hfs 2 _ rfl
 have g3:=hfs 3 _ rfl
 have g4:=hfs 4 _ rfl
 obtain ⟨y0,y1,y2,y3,y4,rfl⟩:=ofive hxs
 obtain ⟨v0,v1,v2,v3,v4,rfl⟩:=ofive hlen
 simp [ocells3,ocellsU,ocellsS] at g0 g1 g2 g3 g4
 obtain ⟨g,e0,_,_⟩:=DataW.trod_int Tryz.underlying3 g0
 obtain ⟨k',e1,_,_⟩:=DataW.trod_int Tryz.underlying3 g1
 obtain ⟨o,e2,_,w2⟩:=DataW.trod_int Tryz.underlying33 g2
 obtain ⟨a,e3,_,w3⟩:=DataW.trod_int Tryz.underlying33 g3
 obtain ⟨z,ai,ci,e4,hs,hzc,hzl,hz,hnil⟩:=open_strs_in g4 (fun n hn=>hw n (by
  rw [(Prod.mk.inj hxd).1]
  simp [DataW.weights,Tryz.underlying43,DataW.weightsEach,hn]))
 simp at e0 e1 e2 e3
 subst e0 e1 e2 e3 e4
 exact ⟨⟨g,k',o,a,ai,ci,z⟩,rfl,⟨u64_bd w2,u64_bd w3,hzl,hz,hzc,hnil⟩,hs⟩
set_option maxRecDepth 20000 in
theorem open_evs {H:Type} {enc:TypeId × Value→H} {W:World} {a:Option Addr} {len cap:Nat} {d:DataW H} {p:List MemPlace} {ts:List TypeId} {ds:List (DataW H)} {j:Nat}
  (h:DataW.Trod enc Tryz.prog W 0 (fun _=>true) true 22 (.slice a len cap) d p)
  (hsz:(DataW.weightsEach Tryz.prog ts ds).all (·≤reachBytes)=true) (ht:ts[j]?=some 22) (hd:ds[j]?=some d) :
  ∃ es,ERow W a len es∧(∀ e ∈ es,e.ok)∧len * 56≤140737488355328∧len≤cap∧(a=none→len=0∧cap=0):=by
 obtain ⟨fuel,hf⟩:=h
 rcases Deep.open_slice Tryz.underlying22 hf with ⟨hcs,_⟩|⟨x,l,c,m,n,D,Pl,hcs,_,hl,hm,hmm,hx,hel⟩
 ·simp [Value.cells] at hcs
  obtain ⟨rfl,rfl,rfl⟩:=hcs
  exact ⟨[],⟨rfl,.inl rfl⟩,by simp,by omega,by omega,fun _=>⟨rfl,rfl⟩⟩
 ·simp [Value.cells] at hcs
  obtain ⟨rfl,rfl,rfl⟩:=hcs
  simp only [Prod.mk.injEq] at hx
  have hm':m=cap:=by simpa using hmm
  subst hm'
  have hall:∀ n ∈ d.weights Tryz.prog 22,n≤reachBytes:=fun n hn=>by
   have:=List.all_eq_true.1 hsz _ (DataW.weights_mem_each ht hd n hn)
   simpa using this
  rw [hx.1] at hall
  have hlen:=hall (((List.range len).map D).length+((List.range (m - len)).map fun j=>D (len+j)).length |> (· * Tryz.prog.bytesOf 43)) (by simp [DataW.weights,Tryz.underlying22])
  rw [obytesE] at hlen
  simp only [List.length_map,List.length_range,reachBytes] at hlen
  have each:∀ i,i < len→∃ q:Ev,q.ok∧q.at W∧∀ t,t < 5→W.cell? (x.add (i * 5+t))=(ecell q)[t]?:=by
   intro i hi
   obtain ⟨cs',h1,h2⟩:=hel i (by omega)
   rw [ocellsE] at h1
   obtain ⟨_,hl5,hcell⟩:=World.cells?_some h1
   obtain ⟨q,e1,e2,e3⟩:=open_ev_in h2 (fun n hn=>hall n (by
    simp only [DataW.weights,Tryz.underlying22,List.mem_cons,List.mem_append]
    exact .inr (.inl (weights_all (List.mem_map.2 ⟨i,List.mem_range.2 hi,rfl⟩) hn))))
   refine ⟨q,e2,e3,fun t ht5=>?_⟩
   have:=hcell t (by omega)
   rw [Deep.add_add] at this
   rw [this,e1]
  obtain ⟨f,hch⟩:=Deep.choose_lt each
  have hget:∀ i e,((List.range len).map f)[i]?=some e→i < len∧f i=e:=by
   intro i e he
   have hi:i < len:=by have:=(List.getElem?_eq_some_iff.1 he).1;simpa using this
   exact ⟨hi,by simpa [hi] using he⟩
  refine ⟨(List.range len).map f,⟨by simp,?_⟩,?_,by omega,by omega,fun h=>by cases h⟩
  ·by_cases h0:len=0
   ·exact .inl h0
   ·right
    obtain ⟨b,off,sp⟩:=x
    have h1:=(hch 0 (by omega)).2.2 0 (by omega)
    have hsp:sp=none:=by
     have:(ecell (f 0))[0]?=some (.int .i64 (f 0).g):=rfl
     rw [this] at h1
     simpa [Addr.add] using World.cell?_spot h1
    subst hsp
    refine ⟨b,off,rfl,fun i e he=>?_⟩
    obtain ⟨hi,rfl⟩:=hget i e he
    obtain ⟨_,hat,hc⟩:=hch i hi
    have hc':∀ t,t < 5→W.cell? ⟨b,off+i * 5+t,none⟩=(ecell (f i))[t]?:=fun t ht5=>by
     have:=hc t ht5
     rw [add_at,← Nat.add_assoc] at this
     exact this
    exact ⟨hc' 0 (by omega),hc' 1 (by omega),hc' 2 (by omega),hc' 3 (by omega),hc' 4 (by omega),hat⟩
  ·intro e he
   obtain ⟨i,hi,rfl⟩:=List.mem_map.1 he
   exact (hch i (List.mem_range.1 hi)).1
end Go.Proofs.YthgelfdefkbfeaaGreatDoor.E6
namespace Go.Proofs.YthgelfdefkbfeaaGreatDoor
open Go.ChangeShapes Go.WideShapes Go.ChangeAt Go.RowKit
theorem sbytesU:Tryz.prog.bytesOf 4=1:=by kernel_rfl
theorem open_bsU {H:Type} {enc:TypeId × Value→H} {W:World} {a:Option Addr} {len cap:Nat} {d:DataW H} {p:List MemPlace} {ts:List TypeId} {ds:List (DataW H)} {j:Nat}
  (h:DataW.Trod enc Tryz.prog W 0 (fun _=>true) true 23 (.slice a len cap) d p)
  (hsz:(DataW.weightsEach Tryz.prog ts ds).all (·≤reachBytes)=true) (ht:ts[j]?=some 23) (hd:ds[j]?=some d) :
  ∃ bs,TRow sB W a len bs∧len * 1≤140737488355328∧(a=none→len=0∧cap=0):=by
 obtain ⟨fuel,hf⟩:=h
 rcases Deep.open_slice1 Tryz.underlying23 (by kernel_rfl) hf with ⟨hcs,_⟩|⟨x,l,c,m,n,V,D,Pl,hcs,_,hl,hm,hmm,hx,hel⟩
 ·simp [Value.cells] at hcs
  obtain ⟨rfl,rfl,rfl⟩:=hcs
  exact ⟨[],TRow.nil _ _ _,by omega,fun _=>⟨rfl,rfl⟩⟩
 ·simp [Value.cells] at hcs
  obtain ⟨rfl,rfl,rfl⟩:=hcs
  simp only [Prod.mk.injEq] at hx
  have hm':m=cap:=by simpa using hmm
  subst hm'
  have hall:∀ n ∈ d.weights Tryz.prog 23,n≤reachBytes:=fun n hn=>by
   have:=List.all_eq_true.1 hsz _ (DataW.weights_mem_each ht hd n hn)
   simpa using this
  rw [hx.1] at hall
  have hlen:=hall (((List.range len).map D).length+((List.range (m - len)).map fun j=>D (len+j)).length |> (· * Tryz.prog.bytesOf 4)) (by simp [DataW.weights,Tryz.underlying23])
  rw [sbytesU] at hlen
  simp only [List.length_map,List.length_range,reachBytes] at hlen
  have each:∀ i,i < len→∃ q:Bool,V i=.bool q:=by
   intro i hi
   obtain ⟨_,h2⟩:=hel i (by omega)
   obtain ⟨q,e,_⟩:=DataW.trod_bool Tryz.underlying4 h2
   exact ⟨q,by simpa using e⟩
  obtain ⟨f,hch⟩:=Deep.choose_lt each
  refine ⟨(List.range len).map f,⟨by simp,?_⟩,by omega,fun e=>by cases e⟩
  by_cases h0:len=0
  ·exact .inl h0
  ·right
   obtain ⟨b,off,sp⟩:=x
   have h1:=(hel 0 (by omega)).1
   have hsp:sp=none:=by simpa [Addr.add] using World.cell?_spot h1
   subst hsp
   refine ⟨b,off,rfl,fun i v hv t u hu=>?_⟩
   have hi:i < len:=by have:=(List.getElem?_eq_some_iff.1 hv).1;simpa using this
   have hc:=(hel i (by omega)).1
   rw [add_at,hch i hi] at hc
   have hv':f i=v:=by simpa [hi] using hv
   rw [hv'] at hc
   have ht0:t=0:=by have:=get_lt hu;simpa [sB] using this
   subst ht0
   have hu':u=.bool v:=by simpa [sB] using hu.symm
   subst hu'
   show W.cell? ⟨b,off+i * 1+0,none⟩=_
   rw [Nat.mul_one,Nat.add_zero]
   exact hc
end Go.Proofs.YthgelfdefkbfeaaGreatDoor
namespace Go.Proofs.YthgelfdefkbfeaaGreatDoor.E6
open Go.ChangeShapes Go.WideShapes Go.ChangeAt Go.RowKit
theorem kcellsT:Tryz.prog.cellsOf 97=2:=by kernel_rfl
theorem kcells9:Tryz.prog.cellsOf 9=1:=by kernel_rfl
theorem kcells3:Tryz.prog.cellsOf 3=1:=by kernel_rfl
theorem kinds_data {H:Type}:(Rows.laid_hindsight_event_kinds:DataW H)=.agg ((List.range 23).map fun k=>.agg [.lit (.string (kname k).data.toList),.lit (.int .i64 (ksort k:Int))]):=rfl
theorem two_of {α:Type} {l:List α} (h:l.length=2):∃ a b,l=[a,b]:=by
 match l,h with
 | [a,b],_=>exact ⟨a,b,rfl⟩
theorem drop_two {α:Type} {l:List α} {i:Nat} {a b:α} (h:(l.drop i).take 2=[a,b]):l[i]?=some a∧l[i+1]?=some b:=by
 have h0:((l.drop i).take 2)[0]?=some a:=by rw [h];rfl
 have h1:((l.drop i).take 2)[1]?=some b:=by rw [h];rfl
 rw [List.getElem?_take,List.getElem?_drop] at h0 h1
 simp at h0 h1
 exact ⟨h0,h1⟩
theorem kinds_of {H:Type} {enc:TypeId × Value→H} {W:World} {base:Nat} {spare:Nat→Bool} {held:Bool} {fuel:Nat} {cs:List Value} {p:List MemPlace}
  (hd:DataW.trod enc Tryz.prog W base spare held fuel 98 cs=some (Rows.laid_hindsight_event_kinds,p)):∀ k,k < 23→cs[k * 2]?=some (.string (kname k))∧cs[k * 2+1]?=some (.int .i64 (ksort k:Int)):=by
 obtain ⟨xs,m,rfl,hx,_,hn,hel⟩:=DataW.trod_array Tryz.underlying98 hd
 intro k hk
 have he:=hel k hk
 rw [kcellsT] at he
 have hxk:xs[k]?=some xs[k]:=List.getElem?_eq_getElem (by omega)
 rw [hxk] at he
 obtain ⟨ys,m',rfl,hy,hl,hn2,hf⟩:=DataW.trod_struct Tryz.underlying97 he
 rw [kcellsT] at hl
 obtain ⟨u,v,huv⟩:=two_of hl
 have f0:=hf 0 _ rfl
 have f1:=hf 1 _ rfl
 obtain ⟨y0,y1,rfl⟩:=two_of hn2
 rw [huv] at f0 f1
 simp [kcells9,kcells3] at f0 f1
 obtain ⟨s,e0,z0,_⟩:=DataW.trod_string Tryz.underlying9 f0
 obtain ⟨i,e1,z1,_⟩:=DataW.trod_int Tryz.underlying3 f1
 simp at e0 e1
 subst e0 e1
 obtain ⟨g0,g1⟩:=drop_two huv
 have hdat:(xs.map (·.1))[k]?=some (.agg [.lit (.string (kname k).data.toList),.lit (.int .i64 (ksort k:Int))]):=by
  rw [kinds_data] at hx
  have:=(Prod.mk.inj hx).1
  injection this with this
  rw [← this]
  simp [hk]
 rw [List.getElem?_map,hxk,Option.map_some,hy,z0,z1] at hdat
 simp only [List.map_cons,List.map_nil,Option.some.injEq,DataW.agg.injEq,List.cons.injEq,DataW.lit.injEq,Lit.string.injEq,Lit.int.injEq,true_and,and_true] at hdat
 obtain ⟨d1,d2⟩:=hdat
 refine ⟨by rw [g0];congr 2;cases s;congr 1;exact Array.toList_inj.1 d1,by rw [g1,d2]⟩
theorem rcellsT:Tryz.prog.cellsOf 99=2:=by kernel_rfl
theorem rcellsU:Tryz.prog.cellsOf 33=1:=by kernel_rfl
theorem ranges_data {H:Type}:(Rows.laid_hindsight_event_ranges:DataW H)=.agg ((List.range 9).map fun s=>.agg [.lit (.int .u64 (rlo s)),.lit (.int .u64 (rhi s))]):=rfl
theorem ranges_of {H:Type} {enc:TypeId × Value→H} {W:World} {base:Nat} {spare:Nat→Bool} {held:Bool} {fuel:Nat} {cs:List Value} {p:List MemPlace}
  (hd:DataW.trod enc Tryz.prog W base spare held fuel 100 cs=some (Rows.laid_hindsight_event_ranges,p)):∀ k,k < 9→cs[k * 2]?=some (.int .u64 (rlo k))∧cs[k * 2+1]?=some (.int .u64 (rhi k)):=by
 obtain ⟨xs,m,rfl,hx,_,hn,hel⟩:=DataW.trod_array Tryz.underlying100 hd
 intro k hk
 have he:=hel k hk
 rw [rcellsT] at he
 have hxk:xs[k]?=some xs[k]:=List.getElem?_eq_getElem (by omega)
 rw [hxk] at he
 obtain ⟨ys,m',rfl,hy,hl,hn2,hf⟩:=DataW.trod_struct Tryz.underlying99 he
 rw [rcellsT] at hl
 obtain ⟨u,v,huv⟩:=two_of hl
 have f0:=hf 0 _ rfl
 have f1:=hf 1 _ rfl
 obtain ⟨y0,y1,rfl⟩:=two_of hn2
 rw [huv] at f0 f1
 simp [rcellsU] at f0 f1
 obtain ⟨j,e0,z0,_⟩:=DataW.trod_int Tryz.underlying33 f0
 obtain ⟨i,e1,z1,_⟩:=DataW.trod_int Tryz.underlying33 f1
 simp at e0 e1
 subst e0 e1
 obtain ⟨g0,g1⟩:=drop_two huv
 have hdat:(xs.map (·.1))[k]?=some (.agg [.lit (.int .u64 (rlo k)),.lit (.int .u64 (rhi k))]):=by
  rw [ranges_data] at hx
  have:=(Prod.mk.inj hx).1
  injection this with this
  rw [← this]
  simp [hk]
 rw [List.getElem?_map,hxk,Option.map_some,hy,z0,z1] at hdat
 simp only [List.map_cons,List.map_nil,Option.some.injEq,DataW.agg.injEq,List.cons.injEq,DataW.lit.injEq,Lit.int.injEq,true_and,and_true] at hdat
 obtain ⟨d1,d2⟩:=hdat
 exact ⟨by rw [g0,d1],by rw [g1,d2]⟩
theorem gKinds : Tryz.prog.globalNamed "hindsight/event.kinds" = some 0 := by kernel_rfl
theorem tKinds:(Tryz.prog.globals[0]?).map (·.type)=some 98:=by kernel_rfl
theorem gRanges : Tryz.prog.globalNamed "hindsight/event.ranges" = some 1 := by kernel_rfl
theorem tRanges:(Tryz.prog.globals[1]?).map (·.type)=some 100:=by kernel_rfl
abbrev laid2 : List (String × DataW Unit) := [("hindsight/event.kinds", Rows.laid_hindsight_event_kinds), ("hindsight/event.ranges", Rows.laid_hindsight_event_ranges)]
theorem kr_of_laid {W:World} (h:laidMetH Tryz.prog laid2 W):Kr W:=by
 rw [MakeChecks.laidMetH_plain _ _ _ (by kernel_rfl)] at h
 obtain ⟨ps,⟨g0,t0,cs0,f0,p0,q0,hg0,ht0,hv0,hd0,⟨g1,t1,cs1,f1,p1,q1,hg1,ht1,hv1,hd1,_,_⟩,_⟩,_,_⟩:=h
 obtain rfl:=Option.some.inj (gKinds.symm.trans hg0)
 obtain rfl:=Option.some.inj (gRanges.symm.trans hg1)
 obtain rfl:=Option.some.inj (tKinds.symm.trans ht0)
 obtain rfl:=Option.some.inj (tRanges.symm.trans ht1)
 have K:=kinds_of hd0
 have R:=ranges_of hd1
 refine ⟨⟨fun k hk=>?_,fun k hk=>?_⟩,fun k hk=>?_,fun k hk=>?_⟩
 ·rw [World.var?_cell hg0 hv0];simpa using (K k hk).1
 ·rw [World.var?_cell hg0 hv0];simpa using (K k hk).2
 ·rw [World.var?_cell hg1 hv1];simpa using (R k hk).1
 ·rw [World.var?_cell hg1 hv1];simpa using (R k hk).2
end Go.Proofs.YthgelfdefkbfeaaGreatDoor.E6
