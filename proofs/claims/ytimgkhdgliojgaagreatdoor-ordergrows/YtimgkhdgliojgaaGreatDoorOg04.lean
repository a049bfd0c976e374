import Derived.Test.YtimgkhdgliojgaaGreatDoorOg03
set_option maxRecDepth 8000
set_option maxHeartbeats 8000000
set_option linter.unusedVariables false
namespace Go.Proofs.YtimgkhdgliojgaaGreatDoor
open Go.RowKit Go.Maps
theorem Tr.In.lo {k q m c:Nat} {l:Int} {lo hi:Tr} (h:(Tr.node k q l lo hi).ok) (hi_:(Tr.node k q l lo hi).In m c):lo.In m c:=by
 have h1:=h.2.2.2.1.up (m:=m) (by have:=hi_.1;have:k≤m:=this;omega)
 have h2:q / 2 ^ (m - k)=c:=hi_.2
 have hk:k≤m:=hi_.1
 have h5:=h.1
 rw [show m - (k - 1)=1+(m - k) by omega,← div_div2,Nat.pow_one,show 2 * q / 2=q by omega,h2] at h1
 exact h1
theorem Tr.In.hi {k q m c:Nat} {l:Int} {lo hi:Tr} (h:(Tr.node k q l lo hi).ok) (hi_:(Tr.node k q l lo hi).In m c):hi.In m c:=by
 have h1:=h.2.2.2.2.1.up (m:=m) (by have:=hi_.1;have:k≤m:=this;omega)
 have h2:q / 2 ^ (m - k)=c:=hi_.2
 have hk:k≤m:=hi_.1
 have h5:=h.1
 rw [show m - (k - 1)=1+(m - k) by omega,← div_div2,Nat.pow_one,show (2 * q+1) / 2=q by omega,h2] at h1
 exact h1
theorem fin_node {Z:Nat→Prop} {w w2 w3:World} {k q:Nat} {la lb:Int} {al ah bl bh t1 t2:Tr} {pa pb pal pah pbl pbh z1 z2:Nat} {e:Ending}
  (oka:(Tr.node k q la al ah).ok) (okb:(Tr.node k q lb bl bh).ok)
  (ta:TrAt Z w (.node k q la al ah) pa) (tb:TrAt Z w (.node k q lb bl bh) pb) (h1:TrAt Z w al pal) (h2:TrAt Z w ah pah) (h3:TrAt Z w bl pbl) (h4:TrAt Z w bh pbh)
  (hb:Below w.heap.size w w2) (g1:TrAt (Nz Z w w2) w2 t1 z1) (g2:TrAt (Nz Z w w2) w2 t2 z2) (j1:Jn al bl t1) (j2:Jn ah bh t2)
  (hj:Jh w2 w3 pa pb z1 z2 (Tr.node k q la al ah).gg (Tr.node k q la al ah).fr t1.last t2.last (decide (pal=z1)) (decide (pah=z2)) (decide (pbl=z1)) (decide (pbh=z2)) e):JnP Z w w3 (.node k q la al ah) (.node k q lb bl bh) e:=by
 obtain ⟨hb3,hj⟩:=hj
 have hbw:Below w.heap.size w w3:=hb.trans (hb3.mono hb.size)
 rcases hj with ⟨e1,e2,rfl⟩|⟨e1,e2,rfl⟩|⟨z,rfl,hz1,hz2⟩
 ·have u1:=of_decide_eq_true e1
  have u2:=of_decide_eq_true e2
  subst u1
  subst u2
  obtain rfl:=(h1.bel hb).uniq g1
  obtain rfl:=(h2.bel hb).uniq g2
  refine ⟨pa,_,rfl,TrAt.mono Nz.old (ta.bel hbw),Jn.left oka (fun x=>?_),hbw⟩
  have l1:=j1.le x
  have l2:=j2.le x
  rw [show (Tr.node k q lb bl bh).tm x=max (bl.tm x) (bh.tm x) from rfl,show (Tr.node k q la al ah).tm x=max (al.tm x) (ah.tm x) from rfl]
  omega
 ·have u1:=of_decide_eq_true e1
  have u2:=of_decide_eq_true e2
  subst u1
  subst u2
  obtain rfl:=(h3.bel hb).uniq g1
  obtain rfl:=(h4.bel hb).uniq g2
  refine ⟨pb,_,rfl,TrAt.mono Nz.old (tb.bel hbw),Jn.right okb (fun x=>?_),hbw⟩
  have l1:=j1.symm.le x
  have l2:=j2.symm.le x
  rw [show (Tr.node k q lb bl bh).tm x=max (bl.tm x) (bh.tm x) from rfl,show (Tr.node k q la al ah).tm x=max (al.tm x) (ah.tm x) from rfl]
  omega
 ·refine ⟨z,.node k q (max t1.last t2.last) t1 t2,rfl,⟨.inr ⟨Nat.le_trans hb.size hz1,lt_heap hz2⟩,z1,z2,hz2,TrAt.mono (Nz.on hb3.size) (g1.bel hb3),TrAt.mono (Nz.on hb3.size) (g2.bel hb3)⟩,Jn.node oka okb j1 j2,hbw⟩
theorem fin_low {Z:Nat→Prop} {w w2 w3:World} {k q:Nat} {la:Int} {al ah b t1:Tr} {pa pb pal pah z1:Nat} {e:Ending} {B3 B4:Bool}
  (oka:(Tr.node k q la al ah).ok) (hin:b.In (k - 1) (2 * q))
  (ta:TrAt Z w (.node k q la al ah) pa) (h1:TrAt Z w al pal) (h2:TrAt Z w ah pah)
  (hb:Below w.heap.size w w2) (g1:TrAt (Nz Z w w2) w2 t1 z1) (j1:Jn al b t1) (hno:B3=true→B4=true→False)
  (hj:Jh w2 w3 pa pb z1 pah (Tr.node k q la al ah).gg (Tr.node k q la al ah).fr t1.last ah.last (decide (pal=z1)) (decide (pah=pah)) B3 B4 e):JnP Z w w3 (.node k q la al ah) b e:=by
 obtain ⟨hb3,hj⟩:=hj
 have hbw:Below w.heap.size w w3:=hb.trans (hb3.mono hb.size)
 rcases hj with ⟨e1,e2,rfl⟩|⟨e1,e2,rfl⟩|⟨z,rfl,hz1,hz2⟩
 ·have u1:=of_decide_eq_true e1
  subst u1
  obtain rfl:=(h1.bel hb).uniq g1
  refine ⟨pa,_,rfl,TrAt.mono Nz.old (ta.bel hbw),Jn.left oka (fun x=>?_),hbw⟩
  have l1:=j1.le x
  rw [show (Tr.node k q la al ah).tm x=max (al.tm x) (ah.tm x) from rfl]
  omega
 ·exact (hno e1 e2).elim
 ·refine ⟨z,.node k q (max t1.last ah.last) t1 ah,rfl,⟨.inr ⟨Nat.le_trans hb.size hz1,lt_heap hz2⟩,z1,pah,hz2,TrAt.mono (Nz.on hb3.size) (g1.bel hb3),TrAt.mono Nz.old (h2.bel hbw)⟩,Jn.low oka hin j1,hbw⟩
theorem fin_high {Z:Nat→Prop} {w w2 w3:World} {k q:Nat} {la:Int} {al ah b t1:Tr} {pa pb pal pah z1:Nat} {e:Ending} {B3 B4:Bool}
  (oka:(Tr.node k q la al ah).ok) (hin:b.In (k - 1) (2 * q+1))
  (ta:TrAt Z w (.node k q la al ah) pa) (h1:TrAt Z w al pal) (h2:TrAt Z w ah pah)
  (hb:Below w.heap.size w w2) (g1:TrAt (Nz Z w w2) w2 t1 z1) (j1:Jn ah b t1) (hno:B3=true→B4=true→False)
  (hj:Jh w2 w3 pa pb pal z1 (Tr.node k q la al ah).gg (Tr.node k q la al ah).fr al.last t1.last (decide (pal=pal)) (decide (pah=z1)) B3 B4 e):JnP Z w w3 (.node k q la al ah) b e:=by
 obtain ⟨hb3,hj⟩:=hj
 have hbw:Below w.heap.size w w3:=hb.trans (hb3.mono hb.size)
 rcases hj with ⟨e1,e2,rfl⟩|⟨e1,e2,rfl⟩|⟨z,rfl,hz1,hz2⟩
 ·have u1:=of_decide_eq_true e2
  subst u1
  obtain rfl:=(h2.bel hb).uniq g1
  refine ⟨pa,_,rfl,TrAt.mono Nz.old (ta.bel hbw),Jn.left oka (fun x=>?_),hbw⟩
  have l1:=j1.le x
  rw [show (Tr.node k q la al ah).tm x=max (al.tm x) (ah.tm x) from rfl]
  omega
 ·exact (hno e1 e2).elim
 ·refine ⟨z,.node k q (max al.last t1.last) al t1,rfl,⟨.inr ⟨Nat.le_trans hb.size hz1,lt_heap hz2⟩,pal,z1,hz2,TrAt.mono Nz.old (h1.bel hbw),TrAt.mono (Nz.on hb3.size) (g1.bel hb3)⟩,Jn.high oka hin j1,hbw⟩
theorem halves_eq {Z Y:Nat→Prop} {w:World} {b s t:Tr} {pb x y:Nat} (hb:TrAt Z w b pb) (hs:TrAt Y w s x) (ht:TrAt Y w t y):∃ ob1 ob2 blf B3 B4,w.heap[pb]?=some (.cells (tC b.gg b.fr b.last (.pointer ob1) (.pointer ob2) blf) 166 (0,0)) ∧
  (∀ X,Below w.heap.size w X→(binOp .eql 73 (.pointer ob1) (.pointer (some ⟨x,0,none⟩))).run Tryz.prog X=.ok (.bool B3) X)∧(∀ X,Below w.heap.size w X→(binOp .eql 73 (.pointer ob2) (.pointer (some ⟨y,0,none⟩))).run Tryz.prog X=.ok (.bool B4) X) ∧
  (∀ m c c':Nat,b.ok→b.In m c→(s.In m c'∨t.In m c')→c≠c'→(B3=true→B4=true→False)):=by
 obtain ⟨s1,s2,s3,hsb⟩:=hs.blk
 obtain ⟨t1,t2,t3,htb⟩:=ht.blk
 cases b with
 | leaf q l xs =>
  obtain ⟨_,lp,_,h1,_⟩:=hb
  exact ⟨none,none,_,false,false,h1,fun X _=>peq_nil X x,fun X _=>peq_nil X y,fun _ _ _ _ _ _ _ e=>by cases e⟩
 | node k q l lo hi =>
  obtain ⟨_,a,b',h1,h2,h3⟩:=hb
  obtain ⟨u1,u2,u3,hlb⟩:=h2.blk
  obtain ⟨v1,v2,v3,hhb⟩:=h3.blk
  refine ⟨some ⟨a,0,none⟩,some ⟨b',0,none⟩,_,decide (a=x),decide (b'=y),h1,fun X hX=>peq ((hX.block a (lt_heap hlb)).trans hlb) ((hX.block x (lt_heap hsb)).trans hsb),fun X hX=>peq ((hX.block b' (lt_heap hhb)).trans hhb) ((hX.block y (lt_heap htb)).trans htb),fun m c c' hok hin hst hne e3 e4=>?_⟩
  have w1:=of_decide_eq_true e3
  have w2:=of_decide_eq_true e4
  subst w1
  subst w2
  obtain rfl:=h2.uniq hs
  obtain rfl:=h3.uniq ht
  rcases hst with h|h
  ·exact hne ((Tr.In.lo hok hin).uniq h)
  ·exact hne ((Tr.In.hi hok hin).uniq h)
end Go.Proofs.YtimgkhdgliojgaaGreatDoor
namespace Go.Proofs.YtimgkhdgliojgaaGreatDoor
open Go.RowKit Go.Maps
theorem join_leaf {Z:Nat→Prop} {w:World} {q:Nat} {la lb:Int} {xs ys:List Int} {pa pb:Nat} (ha:TrAt Z w (.leaf q la xs) pa) (hb:TrAt Z w (.leaf q lb ys) pb) (oka:(Tr.leaf q la xs).ok) (okb:(Tr.leaf q lb ys).ok) (hne:¬ pa=pb) :
  Calls Tryz.prog 47 #[.pointer (some ⟨pa,0,none⟩),.pointer (some ⟨pb,0,none⟩)] w fun e w'=>JnP Z w w' (.leaf q la xs) (.leaf q lb ys) e:=by
 obtain ⟨_,lpa,_,h1,_⟩:=id ha
 obtain ⟨_,lpb,_,h2,_⟩:=id hb
 have E0:=peq h1 h2
 rw [decide_eq_false hne] at E0
 obtain ⟨a0,a1,a2,a3,a4,a5,al⟩:=tc_cells h1
 obtain ⟨b0,b1,b2,b3,b4,b5,bl⟩:=tc_cells h2
 unfold ptr at a5
 have HS:Hid (∀ X,Below w.heap.size w X→Calls Tryz.prog 75 #[.pointer (some ⟨pa,0,none⟩),.int .u16 ((q * 16:Nat):Int)] X fun e w'=>e=.returned (.bool true)∧∃ m,w'=X.drewN m):=hide (fun X hX=>by
  have h9:=spans_any (ha.bel hX) oka (Tr.gg_lt okb)
  rw [decide_eq_true (show (Tr.leaf q lb ys).q * 2 ^ (Tr.leaf q lb ys).k / 2 ^ (Tr.leaf q la xs).k=(Tr.leaf q la xs).q from Tr.gg_div (t:=Tr.leaf q lb ys))] at h9
  exact h9)
 have HO:Hid (∀ X,Below w.heap.size w X→Calls Tryz.prog 78 #[.pointer (some ⟨pa,0,none⟩),.pointer (some ⟨pb,0,none⟩)] X fun e w'=>JnP Z X w' (.leaf q la xs) (.leaf q lb ys) e):=hide (fun X hX=>joinLeaves_any (ha.bel hX) (hb.bel hX) oka okb)
 have HCb:Hid (∀ X,Below w.heap.size w X→X.cell? ⟨pb,0,none⟩=some (.int .u16 ((q * 16:Nat):Int))∧pb < X.heap.size∧X.cell? ⟨pa,5,none⟩=some (.pointer (some ⟨lpa,0,none⟩))∧pa < X.heap.size):=hide (fun X hX=>⟨(hX.cell (p:=⟨pb,0,none⟩) bl).trans b0,Nat.lt_of_lt_of_le bl hX.size,(hX.cell (p:=⟨pa,5,none⟩) al).trans a5,Nat.lt_of_lt_of_le al hX.size⟩)
 generalize ((q * 16:Nat):Int)=G at HS HCb b0
 clear ha hb oka okb hne h1 h2 a0 a2 a3 a4 a5 b2 b3 b4 b5
 go_enter Tryz.func47,Tryz.ntmps47
 go_wp2_with fail
 go_quiet (fail)
 obtain ⟨V,hV⟩:∃ V,V=w.drewN nq:=⟨_,rfl⟩
 rw [← hV]
 have HB:Hid (Below w.heap.size w V):=hide (bel_drew18 ⟨_,hV⟩)
 have HC:=hide (HS.out V HB.out)
 obtain ⟨y0,yl,y5,zl⟩:=HCb.out V HB.out
 clear hV a1 b1 al bl b0
 go_wp2_with fail
 refine HC.out.mono ?_
 rintro e w1 ⟨rfl,hw1⟩
 have HB1:=hide (HB.out.trans ((bel_drew18 hw1).mono HB.out.size))
 have HC2:=hide (HO.out w1 HB1.out)
 clear HC hw1 y0 yl y5 zl
 obtain ⟨y0,yl,y5,zl⟩:=HCb.out w1 HB1.out
 go_wp2_with fail
 refine HC2.out.mono ?_
 rintro e w2 hj
 have HJ:=hide (JnP.up HB1.out hj)
 obtain ⟨z,t,hz,_⟩:=hj
 subst hz
 clear HC2 y0 yl y5 zl
 go_wp2
 go_ret
 exact HJ.out
theorem join_node {Z:Nat→Prop} {w:World} {k q:Nat} {la:Int} {al ah bl bh:Tr} {lb:Int} {pa pb pal pah pbl pbh:Nat} (ba:w.heap[pa]?=some (.cells (tC ((q * 2 ^ k:Nat):Int) ((2 ^ k - 1:Nat):Int) la (ptr pal) (ptr pah) (.pointer none)) 166 (0,0))) (bb:w.heap[pb]?=some (.cells (tC ((q * 2 ^ k:Nat):Int) ((2 ^ k - 1:Nat):Int) lb (ptr pbl) (ptr pbh) (.pointer none)) 166 (0,0))) (ha:TrAt Z w (.node k q la al ah) pa) (hb:TrAt Z w (Tr.node k q lb bl bh) pb) (h1:TrAt Z w al pal) (h2:TrAt Z w ah pah) (h3:TrAt Z w bl pbl) (h4:TrAt Z w bh pbh) (oka:(Tr.node k q la al ah).ok) (okb:(Tr.node k q lb bl bh).ok) (hne:¬ pa=pb)
  (IH1:∀ X,Below w.heap.size w X→Calls Tryz.prog 47 #[.pointer (some ⟨pal,0,none⟩),.pointer (some ⟨pbl,0,none⟩)] X fun e w'=>JnP Z X w' al bl e)
  (IH2:∀ X,Below w.heap.size w X→Calls Tryz.prog 47 #[.pointer (some ⟨pah,0,none⟩),.pointer (some ⟨pbh,0,none⟩)] X fun e w'=>JnP Z X w' ah bh e) :
  Calls Tryz.prog 47 #[.pointer (some ⟨pa,0,none⟩),.pointer (some ⟨pb,0,none⟩)] w fun e w'=>JnP Z w w' (.node k q la al ah) (Tr.node k q lb bl bh) e:=by
 have E0:=peq ba bb
 rw [decide_eq_false hne] at E0
 obtain ⟨a0,a1,a2,a3,a4,a5,al_⟩:=tc_cells ba
 obtain ⟨b0,b1,b2,b3,b4,b5,bl_⟩:=tc_cells bb
 unfold ptr at a3 a4 b3 b4
 have HS:Hid (∀ X,Below w.heap.size w X→Calls Tryz.prog 75 #[.pointer (some ⟨pa,0,none⟩),.int .u16 ((q * 2 ^ k:Nat):Int)] X fun e w'=>e=.returned (.bool true)∧∃ m,w'=X.drewN m):=hide (fun X hX=>by
  have h9:=spans_any (ha.bel hX) oka (Tr.gg_lt okb)
  rw [decide_eq_true (show (Tr.node k q lb bl bh).q * 2 ^ (Tr.node k q lb bl bh).k / 2 ^ (Tr.node k q la al ah).k=(Tr.node k q la al ah).q from Tr.gg_div (t:=Tr.node k q lb bl bh))] at h9
  exact h9)
 have HCb:Hid (∀ X,Below w.heap.size w X→X.cell? ⟨pb,0,none⟩=some (.int .u16 ((q * 2 ^ k:Nat):Int))∧X.cell? ⟨pa,1,none⟩=some (.int .u16 ((2 ^ k - 1:Nat):Int))∧X.cell? ⟨pb,1,none⟩=some (.int .u16 ((2 ^ k - 1:Nat):Int))∧X.cell? ⟨pa,3,none⟩=some (.pointer (some ⟨pal,0,none⟩))∧X.cell? ⟨pa,4,none⟩=some (.pointer (some ⟨pah,0,none⟩))∧X.cell? ⟨pb,3,none⟩=some (.pointer (some ⟨pbl,0,none⟩))∧X.cell? ⟨pb,4,none⟩=some (.pointer (some ⟨pbh,0,none⟩))∧X.cell? ⟨pa,5,none⟩=some (.pointer none)∧pb < X.heap.size∧pa < X.heap.size):=hide (fun X hX=>⟨(hX.cell (p:=⟨pb,0,none⟩) bl_).trans b0,(hX.cell (p:=⟨pa,1,none⟩) al_).trans a1,(hX.cell (p:=⟨pb,1,none⟩) bl_).trans b1,(hX.cell (p:=⟨pa,3,none⟩) al_).trans a3,(hX.cell (p:=⟨pa,4,none⟩) al_).trans a4,(hX.cell (p:=⟨pb,3,none⟩) bl_).trans b3,(hX.cell (p:=⟨pb,4,none⟩) bl_).trans b4,(hX.cell (p:=⟨pa,5,none⟩) al_).trans a5,Nat.lt_of_lt_of_le bl_ hX.size,Nat.lt_of_lt_of_le al_ hX.size⟩)
 have HJH:Hid (∀ (w2:World) (t1 t2:Tr) (z1 z2:Nat),Below w.heap.size w w2→TrAt (Nz Z w w2) w2 t1 z1→TrAt (Nz Z w w2) w2 t2 z2→Jn al bl t1→Jn ah bh t2→Calls Tryz.prog 79 #[.pointer (some ⟨pa,0,none⟩),.pointer (some ⟨pb,0,none⟩),.pointer (some ⟨z1,0,none⟩),.pointer (some ⟨z2,0,none⟩)] w2 fun e w'=>JnP Z w w' (.node k q la al ah) (.node k q lb bl bh) e):=hide (fun w2 t1 t2 z1 z2 hb2 g1 g2 j1 j2=>by
  obtain ⟨_,_,_,k1⟩:=g1.blk
  obtain ⟨_,_,_,k2⟩:=g2.blk
  obtain ⟨_,_,_,m1⟩:=(h1.bel hb2).blk
  obtain ⟨_,_,_,m2⟩:=(h2.bel hb2).blk
  obtain ⟨_,_,_,m3⟩:=(h3.bel hb2).blk
  obtain ⟨_,_,_,m4⟩:=(h4.bel hb2).blk
  refine (joinHalves_raw ((hb2.block pa (lt_heap ba)).trans ba) ((hb2.block pb (lt_heap bb)).trans bb) (tc_cells k1).2.2.1 (tc_cells k2).2.2.1
   (fun X hX=>peq ((hX.block pal (lt_heap m1)).trans m1) ((hX.block z1 (lt_heap k1)).trans k1)) (fun X hX=>peq ((hX.block pah (lt_heap m2)).trans m2) ((hX.block z2 (lt_heap k2)).trans k2))
   (fun X hX=>peq ((hX.block pbl (lt_heap m3)).trans m3) ((hX.block z1 (lt_heap k1)).trans k1)) (fun X hX=>peq ((hX.block pbh (lt_heap m4)).trans m4) ((hX.block z2 (lt_heap k2)).trans k2))).mono ?_
  intro e w3 hj
  exact fin_node oka okb ha hb h1 h2 h3 h4 hb2 g1 g2 j1 j2 hj)
 have HI1:=hide IH1
 have HI2:=hide IH2
 generalize ((q * 2 ^ k:Nat):Int)=G at HS HCb b0
 generalize ((2 ^ k - 1:Nat):Int)=R at HCb a1 b1
 clear ha hb oka okb hne h1 h2 h3 h4 ba bb a0 a2 a3 a4 a5 b2 b3 b4 b5 IH1 IH2
 go_enter Tryz.func47,Tryz.ntmps47
 go_wp2_with fail
 go_quiet (fail)
 obtain ⟨V,hV⟩:∃ V,V=w.drewN nq:=⟨_,rfl⟩
 rw [← hV]
 have HB:Hid (Below w.heap.size w V):=hide (bel_drew18 ⟨_,hV⟩)
 have HC:=hide (HS.out V HB.out)
 obtain ⟨y0,y1,y2,y3,y4,y6,y7,y5,yl,zl⟩:=HCb.out V HB.out
 clear hV a1 b1 al_ bl_ b0
 go_wp2_with fail
 refine HC.out.mono ?_
 rintro e w1 ⟨rfl,hw1⟩
 have HB1:=hide (HB.out.trans ((bel_drew18 hw1).mono HB.out.size))
 clear HC hw1 y0 y1 y2 y3 y4 y5 y6 y7 yl zl
 obtain ⟨y0,y1,y2,y3,y4,y6,y7,y5,yl,zl⟩:=HCb.out w1 HB1.out
 go_wp2_with fail
 go_quiet (fail)
 obtain ⟨V2,hV2⟩:∃ V2,V2=w1.drewN nq:=⟨_,rfl⟩
 rw [← hV2]
 have HB2:Hid (Below w.heap.size w V2):=hide (HB1.out.trans ((bel_drew18 ⟨_,hV2⟩).mono HB1.out.size))
 clear hV2 y0 y1 y2 y3 y4 y5 y6 y7 yl zl
 obtain ⟨y0,y1,y2,y3,y4,y6,y7,y5,yl,zl⟩:=HCb.out V2 HB2.out
 go_wp2_with fail
 go_quiet (fail)
 obtain ⟨V3,hV3⟩:∃ V3,V3=V2.drewN nq:=⟨_,rfl⟩
 rw [← hV3]
 have HB3:Hid (Below w.heap.size w V3):=hide (HB2.out.trans ((bel_drew18 ⟨_,hV3⟩).mono HB2.out.size))
 clear hV3 y0 y1 y2 y3 y4 y5 y6 y7 yl zl
 have HSx:Hid (∀ X,Below w.heap.size w X→X.cell? ⟨pb,3,none⟩=some (.pointer (some ⟨pbl,0,none⟩))∧X.cell? ⟨pb,4,none⟩=some (.pointer (some ⟨pbh,0,none⟩))):=hide (fun X hX=>⟨(HCb.out X hX).2.2.2.2.2.1,(HCb.out X hX).2.2.2.2.2.2.1⟩)
 have HB4:Hid (Below w.heap.size w V3.drew):=hide HB3.out.drew
 have HC3:=hide (HI1.out _ HB4.out)
 go_wp2_with fail
 go_region_held3 (fun X=>X.cell? ⟨pb,3,none⟩=some (.pointer (some ⟨pbl,0,none⟩))∧X.cell? ⟨pb,4,none⟩=some (.pointer (some ⟨pbh,0,none⟩)))
  (first|with_reducible exact HSx.out _ HB3.out|with_reducible exact HSx.out _ HB4.out|with_reducible exact HSx.out _ HB5.out|with_reducible exact HSx.out _ HB6.out)
  (first
   | (go_at_call 47;have HC4b:=HC4;go_must (refine HC4b.out.mono ?_;rintro e9 w6 ⟨z2,t2,rfl,ht2,hj2,hb6⟩;have HB6:Hid (Below w.heap.size w w6):=hide (HB5.out.trans (hb6.mono HB5.out.size));have HT2:Hid (TrAt (Nz Z w w6) w6 t2 z2):=hide (TrAt.mono (Nz.up HB5.out.size) ht2);have HT1b:Hid (TrAt (Nz Z w w6) w6 t1 z1):=hide (TrAt.mono (Nz.on hb6.size) (HT1.out.bel hb6));have HJ2:=hide hj2;clear ht2 hj2 hb6 HC4b))
   | (go_at_call 47;go_must (refine HC3.out.mono ?_;rintro e8 w5 ⟨z1,t1,rfl,ht1,hj1,hb5⟩;have HB5:Hid (Below w.heap.size w w5):=hide (HB4.out.trans (hb5.mono HB4.out.size));have HT1:Hid (TrAt (Nz Z w w5) w5 t1 z1):=hide (TrAt.mono (Nz.up HB4.out.size) ht1);have HJ1:=hide hj1;have HC4:=hide (HI2.out _ HB5.out);clear ht1 hj1 hb5)))
 have HC5:=hide (HJH.out w6 t1 t2 z1 z2 HB6.out HT1b.out HT2.out HJ1.out HJ2.out)
 clear HC3 HC4 HT1 HT1b HT2 HJ1 HJ2 HJH
 go_wp2_with fail
 refine HC5.out.mono ?_
 rintro e w7 hj
 have HJ:=hide hj
 obtain ⟨z,t,hz,_⟩:=hj
 subst hz
 clear HC5
 go_wp2
 go_ret
 exact HJ.out
end Go.Proofs.YtimgkhdgliojgaaGreatDoor
namespace Go.Proofs.YtimgkhdgliojgaaGreatDoor
open Go.RowKit Go.Maps
theorem join_low {Z:Nat→Prop} {w:World} {k q:Nat} {la:Int} {al ah b:Tr} {pa pb pal pah:Nat} (ba:w.heap[pa]?=some (.cells (tC ((q * 2 ^ k:Nat):Int) ((2 ^ k - 1:Nat):Int) la (ptr pal) (ptr pah) (.pointer none)) 166 (0,0))) (ha:TrAt Z w (.node k q la al ah) pa) (hb:TrAt Z w b pb) (h1:TrAt Z w al pal) (h2:TrAt Z w ah pah) (oka:(Tr.node k q la al ah).ok) (okb:b.ok) (hne:¬ pa=pb) (hk:b.k < k) (hsp:b.q * 2 ^ b.k / 2 ^ k=q) (hbit:b.q * 2 ^ b.k / 2 ^ (k - 1) % 2=0)
  (IH:∀ X,Below w.heap.size w X→Calls Tryz.prog 47 #[.pointer (some ⟨pal,0,none⟩),.pointer (some ⟨pb,0,none⟩)] X fun e w'=>JnP Z X w' al b e) :
  Calls Tryz.prog 47 #[.pointer (some ⟨pa,0,none⟩),.pointer (some ⟨pb,0,none⟩)] w fun e w'=>JnP Z w w' (.node k q la al ah) b e:=by
 obtain ⟨_,_,_,bb⟩:=hb.blk
 have E0:=peq ba bb
 rw [decide_eq_false hne] at E0
 obtain ⟨a0,a1,a2,a3,a4,a5,al_⟩:=tc_cells ba
 obtain ⟨b0,b1,b2,b3,b4,b5,bl_⟩:=tc_cells bb
 unfold ptr at a3 a4
 have hin:b.In (k - 1) (2 * q):=⟨by omega,by
  have h9:=half_of oka.1 hsp
  rw [hbit] at h9
  have h8:b.q / 2 ^ (k - 1 - b.k)=b.q * 2 ^ b.k / 2 ^ (k - 1):=by
   rw [show k - 1=b.k+(k - 1 - b.k) by omega,← div_div2,Tr.gg_div]
   congr 2
   omega
  rw [h8];exact h9⟩
 have hpp:¬ pah=pal:=fun e=>by
  subst e
  obtain rfl:=h1.uniq h2
  have:=oka.2.2.2.1.uniq oka.2.2.2.2.1
  omega
 have hlt:¬ ((2 ^ k - 1:Nat):Int) < b.fr:=fun e=>by have:=(Tr.fr_lt (a:=Tr.node k q la al ah) (b:=b)).1 e;have:k < b.k:=this;omega
 have hqe:(((2 ^ k - 1:Nat):Int) == b.fr)=false:=by
  rw [beq_eq_false_iff_ne]
  intro e
  have h9:=(Tr.fr_lt (a:=b) (b:=Tr.node k q la al ah)).2 hk
  have h8:(Tr.node k q la al ah).fr=((2 ^ k - 1:Nat):Int):=rfl
  rw [h8] at h9
  omega
 have HS:Hid (∀ X,Below w.heap.size w X→Calls Tryz.prog 75 #[.pointer (some ⟨pa,0,none⟩),.int .u16 b.gg] X fun e w'=>e=.returned (.bool true)∧∃ m,w'=X.drewN m):=hide (fun X hX=>by
  have h9:=spans_any (ha.bel hX) oka (Tr.gg_lt okb)
  rw [decide_eq_true (show b.q * 2 ^ b.k / 2 ^ (Tr.node k q la al ah).k=(Tr.node k q la al ah).q from hsp)] at h9
  exact h9)
 have HD:Hid (∀ X,Below w.heap.size w X→Calls Tryz.prog 76 #[.pointer (some ⟨pa,0,none⟩),.int .u16 b.gg] X fun e w'=>e=.returned (.pointer (some ⟨pal,0,none⟩))∧∃ m,w'=X.drewN m):=hide (fun X hX=>by
  have h9:=side_any (Z:=Z) (lo:=al) (hi:=ah) ((hX.block pa (lt_heap ba)).trans ba) oka (Tr.gg_lt okb)
  rw [if_pos hbit] at h9
  exact h9)
 have HE:Hid (∀ X,Below w.heap.size w X→(binOp .eql 73 (.pointer (some ⟨pal,0,none⟩)) (.pointer (some ⟨pal,0,none⟩))).run Tryz.prog X=.ok (.bool true) X):=hide (fun X hX=>by
  obtain ⟨_,_,_,m1⟩:=(h1.bel hX).blk
  obtain ⟨_,_,_,m2⟩:=(h2.bel hX).blk
  have h9:=peq m1 m1
  rw [decide_eq_true rfl] at h9
  exact h9)
 have HCb:Hid (∀ X,Below w.heap.size w X→X.cell? ⟨pb,0,none⟩=some (.int .u16 b.gg)∧X.cell? ⟨pa,1,none⟩=some (.int .u16 ((2 ^ k - 1:Nat):Int))∧X.cell? ⟨pb,1,none⟩=some (.int .u16 b.fr)∧X.cell? ⟨pa,3,none⟩=some (.pointer (some ⟨pal,0,none⟩))∧X.cell? ⟨pa,4,none⟩=some (.pointer (some ⟨pah,0,none⟩))∧X.cell? ⟨pa,5,none⟩=some (.pointer none)∧pb < X.heap.size∧pa < X.heap.size):=hide (fun X hX=>⟨(hX.cell (p:=⟨pb,0,none⟩) bl_).trans b0,(hX.cell (p:=⟨pa,1,none⟩) al_).trans a1,(hX.cell (p:=⟨pb,1,none⟩) bl_).trans b1,(hX.cell (p:=⟨pa,3,none⟩) al_).trans a3,(hX.cell (p:=⟨pa,4,none⟩) al_).trans a4,(hX.cell (p:=⟨pa,5,none⟩) al_).trans a5,Nat.lt_of_lt_of_le bl_ hX.size,Nat.lt_of_lt_of_le al_ hX.size⟩)
 have HJH:Hid (∀ (w2:World) (t1:Tr) (z1:Nat),Below w.heap.size w w2→TrAt (Nz Z w w2) w2 t1 z1→Jn al b t1→Calls Tryz.prog 79 #[.pointer (some ⟨pa,0,none⟩),.pointer (some ⟨pb,0,none⟩),.pointer (some ⟨z1,0,none⟩),.pointer (some ⟨pah,0,none⟩)] w2 fun e w'=>JnP Z w w' (.node k q la al ah) b e):=hide (fun w2 t1 z1 hb2 g1 j1=>by
  obtain ⟨_,_,_,k1⟩:=g1.blk
  obtain ⟨_,_,_,m1⟩:=(h1.bel hb2).blk
  obtain ⟨_,_,_,m2⟩:=(h2.bel hb2).blk
  obtain ⟨ob1,ob2,blf,B3,B4,bb2,e3,e4,hno⟩:=halves_eq (hb.bel hb2) g1 (TrAt.mono (Nz.old (w:=w) (w':=w2)) (h2.bel hb2))
  refine (joinHalves_raw ((hb2.block pa (lt_heap ba)).trans ba) bb2 (tc_cells k1).2.2.1 (tc_cells m2).2.2.1
   (fun X hX=>peq ((hX.block pal (lt_heap m1)).trans m1) ((hX.block z1 (lt_heap k1)).trans k1)) (fun X hX=>peq ((hX.block pah (lt_heap m2)).trans m2) ((hX.block pah (lt_heap m2)).trans m2)) e3 e4).mono ?_
  intro e w3 hj
  exact fin_low oka hin ha h1 h2 hb2 g1 j1 (hno (k - 1) (2 * q) (2 * q+1) okb hin (.inr oka.2.2.2.2.1) (by omega)) hj)
 have HI:=hide IH
 generalize b.gg=G at HS HD HCb b0
 generalize b.fr=R2 at HCb b1 hlt hqe
 generalize ((2 ^ k - 1:Nat):Int)=R at HCb a1 hlt hqe
 clear ha hb oka okb hne h1 h2 ba bb a0 a2 a3 a4 a5 b2 b3 b4 b5 IH hin hpp hk hsp hbit
 go_enter Tryz.func47,Tryz.ntmps47
 go_wp2_with fail
 go_quiet (fail)
 obtain ⟨V,hV⟩:∃ V,V=w.drewN nq:=⟨_,rfl⟩
 rw [← hV]
 have HB:Hid (Below w.heap.size w V):=hide (bel_drew18 ⟨_,hV⟩)
 have HC:=hide (HS.out V HB.out)
 obtain ⟨y0,y1,y2,y3,y4,y5,yl,zl⟩:=HCb.out V HB.out
 clear hV a1 b1 al_ bl_ b0
 go_wp2_with fail
 refine HC.out.mono ?_
 rintro e w1 ⟨rfl,hw1⟩
 have HB1:=hide (HB.out.trans ((bel_drew18 hw1).mono HB.out.size))
 clear HC hw1 y0 y1 y2 y3 y4 y5 yl zl
 obtain ⟨y0,y1,y2,y3,y4,y5,yl,zl⟩:=HCb.out w1 HB1.out
 go_wp2_with fail
 go_quiet (fail)
 obtain ⟨V2,hV2⟩:∃ V2,V2=w1.drewN nq:=⟨_,rfl⟩
 rw [← hV2]
 have HB2:Hid (Below w.heap.size w V2):=hide (HB1.out.trans ((bel_drew18 ⟨_,hV2⟩).mono HB1.out.size))
 clear hV2 y0 y1 y2 y3 y4 y5 yl zl
 obtain ⟨y0,y1,y2,y3,y4,y5,yl,zl⟩:=HCb.out V2 HB2.out
 go_wp2_with fail
 go_quiet (fail)
 obtain ⟨V3,hV3⟩:∃ V3,V3=V2.drewN nq:=⟨_,rfl⟩
 rw [← hV3]
 have HB3:Hid (Below w.heap.size w V3):=hide (HB2.out.trans ((bel_drew18 ⟨_,hV3⟩).mono HB2.out.size))
 clear hV3 y0 y1 y2 y3 y4 y5 yl zl
 obtain ⟨y0,y1,y2,y3,y4,y5,yl,zl⟩:=HCb.out V3 HB3.out
 have HC2:=hide (HD.out V3 HB3.out)
 go_wp2_with fail
 refine HC2.out.mono ?_
 rintro e w4 ⟨rfl,hw4⟩
 have HB4:=hide (HB3.out.trans ((bel_drew18 hw4).mono HB3.out.size))
 have E4:=HE.out w4 HB4.out
 have HC3:=hide (HI.out w4 HB4.out)
 clear HC2 hw4 y0 y1 y2 y3 y4 y5 yl zl
 go_wp2_with fail
 refine HC3.out.mono ?_
 rintro e w5 ⟨z1,t1,rfl,ht1,hj1,hb5⟩
 have HB5:Hid (Below w.heap.size w w5):=hide (HB4.out.trans (hb5.mono HB4.out.size))
 have HC4:=hide (HJH.out w5 t1 z1 HB5.out (TrAt.mono (Nz.up HB4.out.size) ht1) hj1)
 clear HC3 ht1 hj1 hb5 E4
 go_wp2_with fail
 refine HC4.out.mono ?_
 rintro e w7 hj
 have HJ:=hide hj
 obtain ⟨z,t,hz,_⟩:=hj
 subst hz
 clear HC4
 go_wp2
 go_ret
 exact HJ.out
theorem join_high {Z:Nat→Prop} {w:World} {k q:Nat} {la:Int} {al ah b:Tr} {pa pb pal pah:Nat} (ba:w.heap[pa]?=some (.cells (tC ((q * 2 ^ k:Nat):Int) ((2 ^ k - 1:Nat):Int) la (ptr pal) (ptr pah) (.pointer none)) 166 (0,0))) (ha:TrAt Z w (.node k q la al ah) pa) (hb:TrAt Z w b pb) (h1:TrAt Z w al pal) (h2:TrAt Z w ah pah) (oka:(Tr.node k q la al ah).ok) (okb:b.ok) (hne:¬ pa=pb) (hk:b.k < k) (hsp:b.q * 2 ^ b.k / 2 ^ k=q) (hbit:b.q * 2 ^ b.k / 2 ^ (k - 1) % 2=1)
  (IH:∀ X,Below w.heap.size w X→Calls Tryz.prog 47 #[.pointer (some ⟨pah,0,none⟩),.pointer (some ⟨pb,0,none⟩)] X fun e w'=>JnP Z X w' ah b e) :
  Calls Tryz.prog 47 #[.pointer (some ⟨pa,0,none⟩),.pointer (some ⟨pb,0,none⟩)] w fun e w'=>JnP Z w w' (.node k q la al ah) b e:=by
 obtain ⟨_,_,_,bb⟩:=hb.blk
 have E0:=peq ba bb
 rw [decide_eq_false hne] at E0
 obtain ⟨a0,a1,a2,a3,a4,a5,al_⟩:=tc_cells ba
 obtain ⟨b0,b1,b2,b3,b4,b5,bl_⟩:=tc_cells bb
 unfold ptr at a3 a4
 have hin:b.In (k - 1) (2 * q+1):=⟨by omega,by
  have h9:=half_of oka.1 hsp
  rw [hbit] at h9
  have h8:b.q / 2 ^ (k - 1 - b.k)=b.q * 2 ^ b.k / 2 ^ (k - 1):=by
   rw [show k - 1=b.k+(k - 1 - b.k) by omega,← div_div2,Tr.gg_div]
   congr 2
   omega
  rw [h8];exact h9⟩
 have hpp:¬ pah=pal:=fun e=>by
  subst e
  obtain rfl:=h1.uniq h2
  have:=oka.2.2.2.1.uniq oka.2.2.2.2.1
  omega
 have hlt:¬ ((2 ^ k - 1:Nat):Int) < b.fr:=fun e=>by have:=(Tr.fr_lt (a:=Tr.node k q la al ah) (b:=b)).1 e;have:k < b.k:=this;omega
 have hqe:(((2 ^ k - 1:Nat):Int) == b.fr)=false:=by
  rw [beq_eq_false_iff_ne]
  intro e
  have h9:=(Tr.fr_lt (a:=b) (b:=Tr.node k q la al ah)).2 hk
  have h8:(Tr.node k q la al ah).fr=((2 ^ k - 1:Nat):Int):=rfl
  rw [h8] at h9
  omega
 have HS:Hid (∀ X,Below w.heap.size w X→Calls Tryz.prog 75 #[.pointer (some ⟨pa,0,none⟩),.int .u16 b.gg] X fun e w'=>e=.returned (.bool true)∧∃ m,w'=X.drewN m):=hide (fun X hX=>by
  have h9:=spans_any (ha.bel hX) oka (Tr.gg_lt okb)
  rw [decide_eq_true (show b.q * 2 ^ b.k / 2 ^ (Tr.node k q la al ah).k=(Tr.node k q la al ah).q from hsp)] at h9
  exact h9)
 have HD:Hid (∀ X,Below w.heap.size w X→Calls Tryz.prog 76 #[.pointer (some ⟨pa,0,none⟩),.int .u16 b.gg] X fun e w'=>e=.returned (.pointer (some ⟨pah,0,none⟩))∧∃ m,w'=X.drewN m):=hide (fun X hX=>by
  have h9:=side_any (Z:=Z) (lo:=al) (hi:=ah) ((hX.block pa (lt_heap ba)).trans ba) oka (Tr.gg_lt okb)
  rw [if_neg (by omega)] at h9
  exact h9)
 have HE:Hid (∀ X,Below w.heap.size w X→(binOp .eql 73 (.pointer (some ⟨pah,0,none⟩)) (.pointer (some ⟨pal,0,none⟩))).run Tryz.prog X=.ok (.bool false) X):=hide (fun X hX=>by
  obtain ⟨_,_,_,m1⟩:=(h1.bel hX).blk
  obtain ⟨_,_,_,m2⟩:=(h2.bel hX).blk
  have h9:=peq m2 m1
  rw [decide_eq_false hpp] at h9
  exact h9)
 have HCb:Hid (∀ X,Below w.heap.size w X→X.cell? ⟨pb,0,none⟩=some (.int .u16 b.gg)∧X.cell? ⟨pa,1,none⟩=some (.int .u16 ((2 ^ k - 1:Nat):Int))∧X.cell? ⟨pb,1,none⟩=some (.int .u16 b.fr)∧X.cell? ⟨pa,3,none⟩=some (.pointer (some ⟨pal,0,none⟩))∧X.cell? ⟨pa,4,none⟩=some (.pointer (some ⟨pah,0,none⟩))∧X.cell? ⟨pa,5,none⟩=some (.pointer none)∧pb < X.heap.size∧pa < X.heap.size):=hide (fun X hX=>⟨(hX.cell (p:=⟨pb,0,none⟩) bl_).trans b0,(hX.cell (p:=⟨pa,1,none⟩) al_).trans a1,(hX.cell (p:=⟨pb,1,none⟩) bl_).trans b1,(hX.cell (p:=⟨pa,3,none⟩) al_).trans a3,(hX.cell (p:=⟨pa,4,none⟩) al_).trans a4,(hX.cell (p:=⟨pa,5,none⟩) al_).trans a5,Nat.lt_of_lt_of_le bl_ hX.size,Nat.lt_of_lt_of_le al_ hX.size⟩)
 have HJH:Hid (∀ (w2:World) (t1:Tr) (z1:Nat),Below w.heap.size w w2→TrAt (Nz Z w w2) w2 t1 z1→Jn ah b t1→Calls Tryz.prog 79 #[.pointer (some ⟨pa,0,none⟩),.pointer (some ⟨pb,0,none⟩),.pointer (some ⟨pal,0,none⟩),.pointer (some ⟨z1,0,none⟩)] w2 fun e w'=>JnP Z w w' (.node k q la al ah) b e):=hide (fun w2 t1 z1 hb2 g1 j1=>by
  obtain ⟨_,_,_,k1⟩:=g1.blk
  obtain ⟨_,_,_,m1⟩:=(h1.bel hb2).blk
  obtain ⟨_,_,_,m2⟩:=(h2.bel hb2).blk
  obtain ⟨ob1,ob2,blf,B3,B4,bb2,e3,e4,hno⟩:=halves_eq (hb.bel hb2) (TrAt.mono (Nz.old (w:=w) (w':=w2)) (h1.bel hb2)) g1
  refine (joinHalves_raw ((hb2.block pa (lt_heap ba)).trans ba) bb2 (tc_cells m1).2.2.1 (tc_cells k1).2.2.1
   (fun X hX=>peq ((hX.block pal (lt_heap m1)).trans m1) ((hX.block pal (lt_heap m1)).trans m1)) (fun X hX=>peq ((hX.block pah (lt_heap m2)).trans m2) ((hX.block z1 (lt_heap k1)).trans k1)) e3 e4).mono ?_
  intro e w3 hj
  exact fin_high oka hin ha h1 h2 hb2 g1 j1 (hno (k - 1) (2 * q+1) (2 * q) okb hin (.inl oka.2.2.2.1) (by omega)) hj)
 have HI:=hide IH
 generalize b.gg=G at HS HD HCb b0
 generalize b.fr=R2 at HCb b1 hlt hqe
 generalize ((2 ^ k - 1:Nat):Int)=R at HCb a1 hlt hqe
 clear ha hb oka okb hne h1 h2 ba bb a0 a2 a3 a4 a5 b2 b3 b4 b5 IH hin hpp hk hsp hbit
 go_enter Tryz.func47,Tryz.ntmps47
 go_wp2_with fail
 go_quiet (fail)
 obtain ⟨V,hV⟩:∃ V,V=w.drewN nq:=⟨_,rfl⟩
 rw [← hV]
 have HB:Hid (Below w.heap.size w V):=hide (bel_drew18 ⟨_,hV⟩)
 have HC:=hide (HS.out V HB.out)
 obtain ⟨y0,y1,y2,y3,y4,y5,yl,zl⟩:=HCb.out V HB.out
 clear hV a1 b1 al_ bl_ b0
 go_wp2_with fail
 refine HC.out.mono ?_
 rintro e w1 ⟨rfl,hw1⟩
 have HB1:=hide (HB.out.trans ((bel_drew18 hw1).mono HB.out.size))
 clear HC hw1 y0 y1 y2 y3 y4 y5 yl zl
 obtain ⟨y0,y1,y2,y3,y4,y5,yl,zl⟩:=HCb.out w1 HB1.out
 go_wp2_with fail
 go_quiet (fail)
 obtain ⟨V2,hV2⟩:∃ V2,V2=w1.drewN nq:=⟨_,rfl⟩
 rw [← hV2]
 have HB2:Hid (Below w.heap.size w V2):=hide (HB1.out.trans ((bel_drew18 ⟨_,hV2⟩).mono HB1.out.size))
 clear hV2 y0 y1 y2 y3 y4 y5 yl zl
 obtain ⟨y0,y1,y2,y3,y4,y5,yl,zl⟩:=HCb.out V2 HB2.out
 go_wp2_with fail
 go_quiet (fail)
 obtain ⟨V3,hV3⟩:∃ V3,V3=V2.drewN nq:=⟨_,rfl⟩
 rw [← hV3]
 have HB3:Hid (Below w.heap.size w V3):=hide (HB2.out.trans ((bel_drew18 ⟨_,hV3⟩).mono HB2.out.size))
 clear hV3 y0 y1 y2 y3 y4 y5 yl zl
 obtain ⟨y0,y1,y2,y3,y4,y5,yl,zl⟩:=HCb.out V3 HB3.out
 have HC2:=hide (HD.out V3 HB3.out)
 go_wp2_with fail
 refine HC2.out.mono ?_
 rintro e w4 ⟨rfl,hw4⟩
 have HB4:=hide (HB3.out.trans ((bel_drew18 hw4).mono HB3.out.size))
 have E4:=HE.out w4 HB4.out
 have HC3:=hide (HI.out w4 HB4.out)
 clear HC2 hw4 y0 y1 y2 y3 y4 y5 yl zl
 go_wp2_with fail
 refine HC3.out.mono ?_
 rintro e w5 ⟨z1,t1,rfl,ht1,hj1,hb5⟩
 have HB5:Hid (Below w.heap.size w w5):=hide (HB4.out.trans (hb5.mono HB4.out.size))
 have HC4:=hide (HJH.out w5 t1 z1 HB5.out (TrAt.mono (Nz.up HB4.out.size) ht1) hj1)
 clear HC3 ht1 hj1 hb5 E4
 go_wp2_with fail
 refine HC4.out.mono ?_
 rintro e w7 hj
 have HJ:=hide hj
 obtain ⟨z,t,hz,_⟩:=hj
 subst hz
 clear HC4
 go_wp2
 go_ret
 exact HJ.out
theorem Tr.sz_pos (t:Tr):1≤t.sz:=by
 cases t with
 | leaf q l xs=>exact Nat.le_refl _
 | node k q l lo hi=>show 1≤1+lo.sz+hi.sz;omega
theorem join_tr:∀ (n:Nat) (a b:Tr),2 * (a.sz+b.sz)+(if a.k < b.k then 1 else 0)≤n→∀ (Z:Nat→Prop) (w:World) (pa pb:Nat),TrAt Z w a pa→TrAt Z w b pb→a.ok→b.ok →
  Calls Tryz.prog 47 #[.pointer (some ⟨pa,0,none⟩),.pointer (some ⟨pb,0,none⟩)] w fun e w'=>JnP Z w w' a b e:=by
 intro n
 induction n with
 | zero=>intro a b h;have:=a.sz_pos;omega
 | succ n ih =>
  intro a b hn Z w pa pb ha hb oka okb
  by_cases hne:pa=pb
  ·subst hne;exact join_same ha hb oka
  by_cases hk:a.k < b.k
  ·rw [if_pos hk] at hn
   exact join_swap ha hb oka okb hne hk (fun X hX=>ih b a (by rw [if_neg (by omega)];omega) Z X pb pa (hb.bel hX) (ha.bel hX) okb oka)
  rw [if_neg hk] at hn
  by_cases hsp:b.q * 2 ^ b.k / 2 ^ a.k=a.q
  ·cases a with
   | leaf q la xs =>
    cases b with
    | leaf q' lb ys =>
     have hq:q'=q:=by
      have h9:q' * 2 ^ 4 / 2 ^ 4=q:=hsp
      rw [Nat.mul_div_cancel _ (by decide)] at h9
      exact h9
     subst hq
     exact join_leaf ha hb oka okb hne
    | node k' q' lb bl bh =>
     have h9:¬ 4 < k':=hk
     have:=okb.1
     omega
   | node k q la al ah =>
    obtain ⟨_,pal,pah,ba,h1,h2⟩:=id ha
    have hsz:(Tr.node k q la al ah).sz=1+al.sz+ah.sz:=rfl
    obtain ⟨k5,k16,hq,inl,inh,okl,okh,_⟩:=id oka
    have hsp':b.q * 2 ^ b.k / 2 ^ k=q:=hsp
    have hk':¬ k < b.k:=hk
    by_cases hbk:b.k=k
    ·cases b with
     | leaf q' lb ys=>have:4=k:=hbk;omega
     | node k' q' lb bl bh =>
      have e1:k'=k:=hbk
      subst e1
      have e2:q'=q:=by
       have h9:q' * 2 ^ k' / 2 ^ k'=q:=hsp
       rw [Nat.mul_div_cancel _ (pow_pos2 _)] at h9
       exact h9
      subst e2
      obtain ⟨_,pbl,pbh,bb,h3,h4⟩:=id hb
      obtain ⟨_,_,_,inl',inh',okl',okh',_⟩:=id okb
      have hsz':(Tr.node k' q' lb bl bh).sz=1+bl.sz+bh.sz:=rfl
      rw [hsz,hsz'] at hn
      have s1:=al.sz_pos
      have s2:=ah.sz_pos
      have s3:=bl.sz_pos
      have s4:=bh.sz_pos
      exact join_node ba bb ha hb h1 h2 h3 h4 oka okb hne
       (fun X hX=>ih al bl (by split <;> omega) Z X pal pbl (h1.bel hX) (h3.bel hX) okl okl')
       (fun X hX=>ih ah bh (by split <;> omega) Z X pah pbh (h2.bel hX) (h4.bel hX) okh okh')
    ·have hlt:b.k < k:=by omega
     rw [hsz] at hn
     have s1:=al.sz_pos
     have s2:=ah.sz_pos
     by_cases hbit:b.q * 2 ^ b.k / 2 ^ (k - 1) % 2=0
     ·exact join_low ba ha hb h1 h2 oka okb hne hlt hsp' hbit (fun X hX=>ih al b (by split <;> omega) Z X pal pb (h1.bel hX) (hb.bel hX) okl okb)
     ·exact join_high ba ha hb h1 h2 oka okb hne hlt hsp' (by omega) (fun X hX=>ih ah b (by split <;> omega) Z X pah pb (h2.bel hX) (hb.bel hX) okh okb)
  ·exact join_over ha hb oka okb hne (by omega) hsp
end Go.Proofs.YtimgkhdgliojgaaGreatDoor
