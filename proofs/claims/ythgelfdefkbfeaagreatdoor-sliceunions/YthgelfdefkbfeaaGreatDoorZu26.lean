import Derived.Test.YthgelfdefkbfeaaGreatDoorZu25
import Derived.Test.YthgelfdefkbfeaaGreatDoorZu19
import Derived.Deep.RegionHeld3
set_option maxRecDepth 8000
set_option maxHeartbeats 8000000
set_option linter.unusedVariables false
namespace Go.Proofs.YthgelfdefkbfeaaGreatDoor
section
variable {T : List Me} {M : CS} {e : Me} {r : Gor} {k o a x g : Int}
def gNext (M:CS) (e:Me) (r:Gor):Gor :=
 if e.k=3 then { r with held:=insE e.o 1 r.held }
 else if e.k=4 then { r with held:=delE e.o r.held }
 else if e.k=5 then { r with held:=insE e.o ((look e.o r.held).getD 0+1) r.held }
 else if e.k=6 then { r with held:=if (look e.o r.held).getD 0 - 1=0 then delE e.o r.held else insE e.o ((look e.o r.held).getD 0 - 1) r.held }
 else if e.k=10 then match M.chans e.o with
  | none=>r
  | some c=>if c.room=0 then { r with «to»:=e.o,as_:=c.sends+1 } else r
 else if e.k=11 then { r with «to»:=0,as_:=0 }
 else r
theorem setF_self {α:Type} (f:Int→α) (y:Int):setF f y (f y)=f:=by
 funext q
 by_cases h:q=y
 ·rw [h,setF_same]
 ·rw [setF_other _ _ h]
theorem doo_gs (hr:M.gs e.g=some r):(M.doo e r).tick.gs=if e.k=7 then setF M.gs e.a (some ⟨[],0,0⟩) else setF M.gs e.g (some (gNext M e r)):=by
 have hs:setF M.gs e.g (some r)=M.gs:=by rw [← hr];exact setF_self _ _
 show (M.doo e r).gs=_
 unfold CS.doo gNext
 by_cases h3:e.k=3
 ·simp [h3]
 by_cases h4:e.k=4
 ·simp [h4]
 by_cases h5:e.k=5
 ·simp [h5]
 by_cases h6:e.k=6
 ·simp [h6]
 by_cases h7:e.k=7
 ·simp [h7]
 by_cases h8:e.k=8
 ·simp [h8,hs]
 by_cases h9:e.k=9
 ·simp [h9,hs]
 by_cases h10:e.k=10
 ·cases hc:M.chans e.o with
  | none=>simp [h10,hs]
  | some c =>
   by_cases hz:c.room=0
   ·simp [h10,hz]
   ·simp [h10,hz,hs]
 by_cases h11:e.k=11
 ·simp [h11]
 by_cases h12:e.k=12
 ·cases hc:M.chans e.o <;> simp [h12,hs]
 by_cases h13:e.k=13
 ·cases hc:M.chans e.o <;> simp [h13,hs]
 by_cases h14:e.k=14
 ·simp [h14,hs]
 by_cases h16:e.k=16
 ·simp [h16,hs]
 by_cases h20:e.k=20
 ·simp [h20,hs]
 by_cases h21:e.k=21
 ·simp [h21,hs]
 simp [h3,h4,h5,h6,h7,h8,h9,h10,h11,h12,h13,h14,h16,h20,h21,hs]
theorem gNext_as:(gNext M e r).as_=if e.k=10 then (match M.chans e.o with
  | none=>r.as_
  | some c=>if c.room=0 then c.sends+1 else r.as_) else if e.k=11 then 0 else r.as_:=by
 unfold gNext
 by_cases h3:e.k=3
 ·simp [h3]
 by_cases h4:e.k=4
 ·simp [h4]
 by_cases h5:e.k=5
 ·simp [h5]
 by_cases h6:e.k=6
 ·simp [h6]
 by_cases h10:e.k=10
 ·cases hc:M.chans e.o with
  | none=>simp [h10]
  | some c =>
   by_cases hz:c.room=0
   ·simp [h10,hz]
   ·simp [h10,hz]
 by_cases h11:e.k=11
 ·simp [h11]
 simp [h3,h4,h5,h6,h10,h11]
theorem gNext_to:(gNext M e r).to=if e.k=10 then (match M.chans e.o with
  | none=>r.to
  | some c=>if c.room=0 then e.o else r.to) else if e.k=11 then 0 else r.to:=by
 unfold gNext
 by_cases h3:e.k=3
 ·simp [h3]
 by_cases h4:e.k=4
 ·simp [h4]
 by_cases h5:e.k=5
 ·simp [h5]
 by_cases h6:e.k=6
 ·simp [h6]
 by_cases h10:e.k=10
 ·cases hc:M.chans e.o with
  | none=>simp [h10]
  | some c =>
   by_cases hz:c.room=0
   ·simp [h10,hz]
   ·simp [h10,hz]
 by_cases h11:e.k=11
 ·simp [h11]
 simp [h3,h4,h5,h6,h10,h11]
theorem ask_fork (h:M.ask e r=0) (hk:e.k=7):M.gs e.a=none:=by
 unfold CS.ask CS.askGor at h
 simp [hk] at h
 exact h
def dueR:List Me→Int→Option (Int × Int)
 | [],_=>none
 | e :: R,g=>if e.g=g then (if e.k=10∧roomT R.reverse e.o=some 0 then some (e.o,(cnA R.reverse 10 e.o:Int)+1) else none) else dueR R g
def dueT (T:List Me) (g:Int):Option (Int × Int):=dueR T.reverse g
theorem dueT_snoc:dueT (T++[e]) g=if e.g=g then (if e.k=10∧roomT T e.o=some 0 then some (e.o,(cnA T 10 e.o:Int)+1) else none) else dueT T g:=by
 unfold dueT
 rw [List.reverse_append]
 simp [dueR]
structure LkD (T:List Me) (M:CS):Prop where
 du:∀ g r,M.gs g=some r→dueT T g=if 0 < r.as_ then some (r.to,r.as_) else none
 no:∀ g,M.gs g=none→dueT T g=none
 «as»:∀ g r,M.gs g=some r→0≤r.as_
theorem LkD.new:LkD [] CS.new:=by
 refine ⟨fun g r h=>?_,fun g _=>rfl,fun g r h=>?_⟩
 ·by_cases hg:g=0
  ·subst hg;cases h;rfl
  ·simp [CS.new,setF_other _ _ hg] at h
 ·by_cases hg:g=0
  ·subst hg;cases h;exact Int.le_refl _
  ·simp [CS.new,setF_other _ _ hg] at h
theorem LkD.own (h:LkD T M) (hC:LkC T M) (hc:Can M e r):dueT (T++[e]) e.g=(if 0 < (gNext M e r).as_ then some ((gNext M e r).to,(gNext M e r).as_) else none)∧0≤(gNext M e r).as_:=by
 have h0:=h.as _ _ hc.gs
 rw [dueT_snoc,if_pos rfl,gNext_as,gNext_to]
 by_cases h10:e.k=10
 ·rw [if_pos h10,if_pos h10]
  have hd:¬ 0 < r.as_:=fun e9=>by have:=(hc.du e9).1;omega
  have hq:=ask_chan hc.ask (by omega) (by omega)
  have hcc:=hC.ch e.o
  cases hr:roomT T e.o with
  | none =>
   rw [hr] at hcc
   have:=hq.2 hcc
   omega
  | some c =>
   rw [hr] at hcc
   rw [hcc]
   simp only [Option.map_some]
   by_cases hz:c=0
   ·subst hz
    rw [if_pos ⟨h10,rfl⟩,if_pos rfl,if_pos rfl,if_pos (by omega)]
    exact ⟨rfl,by omega⟩
   ·rw [if_neg (fun e9=>hz (by have:=e9.2;injection this)),if_neg hz,if_neg hz,if_neg hd]
    exact ⟨rfl,h0⟩
 ·rw [if_neg h10,if_neg h10,if_neg (fun e9=>h10 e9.1)]
  by_cases h11:e.k=11
  ·rw [if_pos h11,if_pos h11,if_neg (by omega)]
   exact ⟨rfl,by omega⟩
  ·rw [if_neg h11,if_neg h11,if_neg (fun e9=>h11 (hc.du e9).1)]
   exact ⟨rfl,h0⟩
theorem LkD.step (h:LkD T M) (hC:LkC T M) (hc:Can M e r):LkD (T++[e]) (M.next e):=by
 rw [hc.nx]
 have ho:=h.own hC hc
 have key:∀ g q,(M.doo e r).tick.gs g=some q→dueT (T++[e]) g=(if 0 < q.as_ then some (q.to,q.as_) else none)∧0≤q.as_:=fun g q hq=>by
  rw [doo_gs hc.gs] at hq
  by_cases h7:e.k=7
  ·rw [if_pos h7] at hq
   have hn:=ask_fork hc.ask h7
   by_cases hg:g=e.a
   ·subst hg
    rw [setF_same] at hq
    cases hq
    have hne:¬ e.g=e.a:=fun e9=>by rw [← e9,hc.gs] at hn;cases hn
    rw [dueT_snoc,if_neg hne,h.no _ hn,if_neg (Int.lt_irrefl 0)]
    exact ⟨rfl,Int.le_refl 0⟩
   ·rw [setF_other _ _ hg] at hq
    by_cases hg2:e.g=g
    ·subst hg2
     rw [hc.gs] at hq
     cases hq
     have hd:¬ 0 < r.as_:=fun e9=>by have:=(hc.du e9).1;omega
     rw [dueT_snoc,if_pos rfl,if_neg (fun e9=>by have:=e9.1;omega),if_neg hd]
     exact ⟨rfl,h.as _ _ hc.gs⟩
    ·rw [dueT_snoc,if_neg hg2,h.du _ _ hq]
     exact ⟨rfl,h.as _ _ hq⟩
  ·rw [if_neg h7] at hq
   by_cases hg:g=e.g
   ·subst hg
    rw [setF_same] at hq
    cases hq
    exact ho
   ·rw [setF_other _ _ hg] at hq
    rw [dueT_snoc,if_neg (fun e9=>hg e9.symm),h.du _ _ hq]
    exact ⟨rfl,h.as _ _ hq⟩
 refine ⟨fun g q hq=>(key g q hq).1,fun g hq=>?_,fun g q hq=>(key g q hq).2⟩
 rw [doo_gs hc.gs] at hq
 by_cases h7:e.k=7
 ·rw [if_pos h7] at hq
  by_cases hg:g=e.a
  ·subst hg;rw [setF_same] at hq;cases hq
  ·rw [setF_other _ _ hg] at hq
   have hg2:¬ e.g=g:=fun e9=>by rw [← e9,hc.gs] at hq;cases hq
   rw [dueT_snoc,if_neg hg2,h.no _ hq]
 ·rw [if_neg h7] at hq
  by_cases hg:g=e.g
  ·subst hg;rw [setF_same] at hq;cases hq
  ·rw [setF_other _ _ hg] at hq
   rw [dueT_snoc,if_neg (fun e9=>hg e9.symm),h.no _ hq]
theorem Rch.lkD (h:Rch T M):LkD T M:=by
 induction h with
 | new=>exact LkD.new
 | step h0 hg hw ih=>obtain ⟨r,hc⟩:=why_can hw;exact ih.step h0.lkC hc
end
end Go.Proofs.YthgelfdefkbfeaaGreatDoor
namespace Go.Proofs.YthgelfdefkbfeaaGreatDoor
def cnG (T:List Me) (g k o:Int):Nat:=T.countP fun e=>decide (e.g=g∧e.k=k∧e.o=o)
def wT (T:List Me) (g o:Int):Int:=(cnG T g 3 o:Int) - cnG T g 4 o
def rT (T:List Me) (g o:Int):Int:=(cnG T g 5 o:Int) - cnG T g 6 o
def hv (M:CS) (g o:Int):Int:=((M.gs g).map fun r=>(look o r.held).getD 0).getD 0
def sumG (f:Int→Int):Nat→Int
 | 0=>0
 | n+1=>sumG f n+f (n:Int)
theorem sumG_add (f h:Int→Int) (n:Nat):sumG (fun g=>f g+h g) n=sumG f n+sumG h n:=by
 induction n with
 | zero=>rfl
 | succ n ih=>simp only [sumG,ih];omega
theorem sumG_none {f:Int→Int} {n:Nat} (h:∀ g:Int,0≤g→g < n→f g=0):sumG f n=0:=by
 induction n with
 | zero=>rfl
 | succ n ih=>rw [sumG,ih (fun g h1 h2=>h g h1 (by omega)),h n (by omega) (by omega)];rfl
theorem sumG_one {x c:Int} {n:Nat} (h0:0≤x) (hx:x < n):sumG (fun g=>if x=g then c else 0) n=c:=by
 induction n with
 | zero=>omega
 | succ n ih =>
  rw [sumG]
  by_cases he:x=n
  ·rw [if_pos he,sumG_none (fun g h1 h2=>if_neg (by omega))];omega
  ·rw [if_neg he,ih (by omega)];omega
theorem sumG_pos {f:Int→Int} {n:Nat} (h:∀ g,0≤f g):0≤sumG f n∧∀ g:Int,0≤g→g < n→f g≤sumG f n:=by
 induction n with
 | zero=>exact ⟨Int.le_refl _,fun g h1 h2=>by omega⟩
 | succ n ih =>
  rw [sumG]
  have hn:=h n
  refine ⟨by omega,fun g h1 h2=>?_⟩
  by_cases he:g=n
  ·subst he;omega
  ·have:=ih.2 g h1 (by omega);omega
theorem sumG_two {f:Int→Int} {n:Nat} (h:∀ g,0≤f g) {x y:Int} (hx0:0≤x) (hx:x < n) (hy0:0≤y) (hy:y < n) (hne:x≠y):f x+f y≤sumG f n:=by
 induction n with
 | zero=>omega
 | succ n ih =>
  rw [sumG]
  have hn:=h n
  by_cases e1:x=n
  ·subst e1
   have:=(sumG_pos (n:=n) h).2 y hy0 (by omega)
   omega
  ·by_cases e2:y=n
   ·subst e2
    have:=(sumG_pos (n:=n) h).2 x hx0 (by omega)
    omega
   ·have:=ih (by omega) (by omega);omega
section
variable {T : List Me} {M : CS} {e : Me} {r : Gor} {k o a x g : Int}
theorem cnG_snoc:cnG (T++[e]) g k o=cnG T g k o+(if e.g=g∧e.k=k∧e.o=o then 1 else 0):=by
 unfold cnG
 rw [List.countP_append]
 congr 1
 by_cases h:e.g=g∧e.k=k∧e.o=o
 ·rw [if_pos h];simp [h]
 ·rw [if_neg h];simp [h]
theorem wT_snoc:wT (T++[e]) g o=wT T g o+(if e.g=g∧e.o=o then (if e.k=3 then 1 else if e.k=4 then -1 else 0) else 0):=by
 unfold wT
 rw [cnG_snoc,cnG_snoc]
 by_cases h:e.g=g∧e.o=o
 ·obtain ⟨h1,h2⟩:=h
  by_cases h3:e.k=3
  ·simp [h1,h2,h3];omega
  ·by_cases h4:e.k=4
   ·simp [h1,h2,h4];omega
   ·simp [h1,h2,h3,h4]
 ·rw [if_neg (fun q=>h ⟨q.1,q.2.2⟩),if_neg (fun q=>h ⟨q.1,q.2.2⟩),if_neg h];simp
theorem rT_snoc:rT (T++[e]) g o=rT T g o+(if e.g=g∧e.o=o then (if e.k=5 then 1 else if e.k=6 then -1 else 0) else 0):=by
 unfold rT
 rw [cnG_snoc,cnG_snoc]
 by_cases h:e.g=g∧e.o=o
 ·obtain ⟨h1,h2⟩:=h
  by_cases h3:e.k=5
  ·simp [h1,h2,h3];omega
  ·by_cases h4:e.k=6
   ·simp [h1,h2,h4];omega
   ·simp [h1,h2,h3,h4]
 ·rw [if_neg (fun q=>h ⟨q.1,q.2.2⟩),if_neg (fun q=>h ⟨q.1,q.2.2⟩),if_neg h];simp
theorem doo_locks:(M.doo e r).tick.locks=if e.k=3 then setF M.locks e.o (some (true,1)) else if e.k=4 then setF M.locks e.o none else if e.k=5 then setF M.locks e.o (some (false,M.times e.o+1)) else if e.k=6 then rdLocks M e.o (M.times e.o - 1) else M.locks:=by
 show (M.doo e r).locks=_
 unfold CS.doo
 by_cases h3:e.k=3
 ·simp [h3]
 by_cases h4:e.k=4
 ·simp [h4]
 by_cases h5:e.k=5
 ·simp [h5]
 by_cases h6:e.k=6
 ·simp [h6]
 by_cases h7:e.k=7
 ·simp [h7]
 by_cases h8:e.k=8
 ·simp [h8]
 by_cases h9:e.k=9
 ·simp [h9]
 by_cases h10:e.k=10
 ·cases hc:M.chans e.o <;> simp [h10]
 by_cases h11:e.k=11
 ·simp [h11]
 by_cases h12:e.k=12
 ·cases hc:M.chans e.o <;> simp [h12]
 by_cases h13:e.k=13
 ·cases hc:M.chans e.o <;> simp [h13]
 by_cases h14:e.k=14
 ·simp [h14]
 by_cases h16:e.k=16
 ·simp [h16]
 by_cases h20:e.k=20
 ·simp [h20]
 by_cases h21:e.k=21
 ·simp [h21]
 simp [h3,h4,h5,h6,h7,h8,h9,h10,h11,h12,h13,h14,h16,h20,h21]
def heldN (e:Me) (r:Gor):List Ent :=
 if e.k=3 then insE e.o 1 r.held
 else if e.k=4 then delE e.o r.held
 else if e.k=5 then insE e.o ((look e.o r.held).getD 0+1) r.held
 else if e.k=6 then (if (look e.o r.held).getD 0 - 1=0 then delE e.o r.held else insE e.o ((look e.o r.held).getD 0 - 1) r.held)
 else r.held
theorem gNext_held:(gNext M e r).held=heldN e r:=by
 unfold gNext heldN
 by_cases h3:e.k=3
 ·simp [h3]
 by_cases h4:e.k=4
 ·simp [h4]
 by_cases h5:e.k=5
 ·simp [h5]
 by_cases h6:e.k=6
 ·simp [h6]
 by_cases h10:e.k=10
 ·cases hc:M.chans e.o with
  | none=>simp [h10]
  | some c =>
   by_cases hz:c.room=0
   ·simp [h10,hz]
   ·simp [h10,hz]
 by_cases h11:e.k=11
 ·simp [h11]
 simp [h3,h4,h5,h6,h10,h11]
theorem heldN_look (hr:Ris r.held) (o:Int):(look o (heldN e r)).getD 0=if e.o=o then (if e.k=3 then 1 else if e.k=4 then 0 else if e.k=5 then (look o r.held).getD 0+1 else if e.k=6 then (look o r.held).getD 0 - 1 else (look o r.held).getD 0) else (look o r.held).getD 0:=by
 unfold heldN
 by_cases ho:e.o=o
 ·subst ho
  rw [if_pos rfl]
  by_cases h3:e.k=3
  ·rw [if_pos h3,if_pos h3,look_insE,if_pos rfl];rfl
  ·rw [if_neg h3,if_neg h3]
   by_cases h4:e.k=4
   ·rw [if_pos h4,if_pos h4,look_delE hr,if_pos rfl];rfl
   ·rw [if_neg h4,if_neg h4]
    by_cases h5:e.k=5
    ·rw [if_pos h5,if_pos h5,look_insE,if_pos rfl];rfl
    ·rw [if_neg h5,if_neg h5]
     by_cases h6:e.k=6
     ·rw [if_pos h6,if_pos h6]
      by_cases hz:(look e.o r.held).getD 0 - 1=0
      ·rw [if_pos hz,look_delE hr,if_pos rfl,hz];rfl
      ·rw [if_neg hz,look_insE,if_pos rfl];rfl
     ·rw [if_neg h6,if_neg h6]
 ·rw [if_neg ho]
  have ho2:¬ o=e.o:=fun q=>ho q.symm
  repeat' split
  all_goals first|rfl|rw [look_insE,if_neg ho2]|rw [look_delE hr,if_neg ho2]
theorem heldN_ris (hr:Ris r.held):Ris (heldN e r):=by
 unfold heldN
 repeat' split
 all_goals first|exact hr|exact hr.ins _ _|exact hr.del _
theorem heldN_ps (hr:Ris r.held) (hp:∀ o v,look o r.held=some v→1≤v) (hh:e.k=6→has e.o r.held=true) (o v:Int) (h:look o (heldN e r)=some v):1≤v:=by
 have h0:∀ o,0≤(look o r.held).getD 0:=fun o=>by
  cases hq:look o r.held with
  | none=>exact Int.le_refl _
  | some u=>have:=hp o u hq;simp;omega
 have h1:=h0 e.o
 unfold heldN at h
 have key:∀ u,1≤u→look o (insE e.o u r.held)=some v→1≤v:=fun u hu hq=>by
  rw [look_insE] at hq
  by_cases ho:o=e.o
  ·rw [if_pos ho] at hq;injection hq with hq;omega
  ·rw [if_neg ho] at hq;exact hp o v hq
 have key2:look o (delE e.o r.held)=some v→1≤v:=fun hq=>by
  rw [look_delE hr] at hq
  by_cases ho:o=e.o
  ·rw [if_pos ho] at hq;cases hq
  ·rw [if_neg ho] at hq;exact hp o v hq
 by_cases h3:e.k=3
 ·rw [if_pos h3] at h;exact key 1 (by omega) h
 rw [if_neg h3] at h
 by_cases h4:e.k=4
 ·rw [if_pos h4] at h;exact key2 h
 rw [if_neg h4] at h
 by_cases h5:e.k=5
 ·rw [if_pos h5] at h;exact key _ (by omega) h
 rw [if_neg h5] at h
 by_cases h6:e.k=6
 ·rw [if_pos h6] at h
  by_cases hz:(look e.o r.held).getD 0 - 1=0
  ·rw [if_pos hz] at h;exact key2 h
  ·rw [if_neg hz] at h
   cases hq:look e.o r.held with
   | none =>
    have:=hh h6
    unfold has at this
    rw [hq] at this
    cases this
   | some u =>
    have:=hp e.o u hq
    rw [hq] at h hz
    simp at h hz
    exact key _ (by omega) h
 rw [if_neg h6] at h
 exact hp o v h
def dl (e:Me):Int:=if e.k=3 then 1 else if e.k=4 then -1 else if e.k=5 then 1 else if e.k=6 then -1 else 0
structure LkL (T:List Me) (M:CS):Prop where
 ris:∀ g r,M.gs g=some r→Ris r.held
 ps:∀ g r,M.gs g=some r→∀ o v,look o r.held=some v→1≤v
 eq:∀ g o,hv M g o=wT T g o+rT T g o
 tm:∀ o,M.times o=sumG (fun g=>hv M g o) 65536
 fr:∀ o,M.toWrite o=false→∀ g,wT T g o=0
 wr:∀ o,M.toWrite o=true→M.times o=1∧∀ g,rT T g o=0
 rg:∀ g,¬ (0≤g∧g < 65536)→∀ o,wT T g o=0∧rT T g o=0
theorem hv_new (g o:Int):hv CS.new g o=0:=by
 unfold hv
 by_cases h:g=0
 ·subst h;rfl
 ·simp [CS.new,setF_other _ _ h]
theorem LkL.new:LkL [] CS.new:=by
 refine ⟨fun g r h=>?_,fun g r h=>?_,fun g o=>?_,fun o=>?_,fun _ _ _=>rfl,fun o h=>?_,fun _ _ _=>⟨rfl,rfl⟩⟩
 ·by_cases hg:g=0
  ·subst hg;cases h;exact List.Pairwise.nil
  ·simp [CS.new,setF_other _ _ hg] at h
 ·by_cases hg:g=0
  ·subst hg;cases h;intro o v hq;cases hq
  ·simp [CS.new,setF_other _ _ hg] at h
 ·rw [hv_new];rfl
 ·rw [sumG_none (fun g _ _=>hv_new g o)];rfl
 ·cases h
theorem LkL.nn (h:LkL T M) (g o:Int):0≤hv M g o:=by
 unfold hv
 cases hg:M.gs g with
 | none=>exact Int.le_refl _
 | some r =>
  cases hq:look o r.held with
  | none=>simp [hq]
  | some v=>have:=h.ps g r hg o v hq;simp [hq];omega
theorem hv_has (h:LkL T M) (hr:M.gs g=some r) (hh:has o r.held=true):1≤hv M g o:=by
 unfold has at hh
 unfold hv
 cases hq:look o r.held with
 | none=>rw [hq] at hh;cases hh
 | some v=>have:=h.ps g r hr o v hq;simp [hr,hq];omega
structure AskL (M:CS) (e:Me) (r:Gor):Prop where
 a3:e.k=3→¬ 0 < M.times e.o
 a4:e.k=4→M.toWrite e.o=true∧has e.o r.held=true
 a5:e.k=5→M.toWrite e.o=false
 a6:e.k=6→M.toWrite e.o=false∧has e.o r.held=true
theorem ask_lock (h:M.ask e r=0):AskL M e r:=by
 unfold CS.ask CS.askLock at h
 refine ⟨fun hk=>?_,fun hk=>?_,fun hk=>?_,fun hk=>?_⟩
 ·simp [hk] at h;omega
 ·simp [hk] at h
  exact h
 ·simp [hk] at h
  exact h
 ·simp [hk] at h
  cases hw:M.toWrite e.o with
  | true=>rw [hw] at h;simp at h
  | false =>
   rw [hw] at h
   simp at h
   exact ⟨rfl,h⟩
structure PreL (M:CS) (e:Me):Prop where
 p3:e.k=3→M.times e.o=0∧M.toWrite e.o=false∧∀ g,hv M g e.o=0
 p4:e.k=4→M.toWrite e.o=true∧M.times e.o=1∧hv M e.g e.o=1∧∀ g,g≠e.g→hv M g e.o=0
 p5:e.k=5→M.toWrite e.o=false
 p6:e.k=6→M.toWrite e.o=false
theorem LkL.pre (h:LkL T M) (hg:Gdm e) (hc:Can M e r):PreL M e:=by
 have ha:=ask_lock hc.ask
 have hsum:=sumG_pos (f:=fun g=>hv M g e.o) (n:=65536) (fun g=>h.nn g e.o)
 have hz:∀ g,¬ (0≤g∧g < 65536)→hv M g e.o=0:=fun g hq=>by
  rw [h.eq,(h.rg g hq e.o).1,(h.rg g hq e.o).2];rfl
 refine ⟨fun hk=>?_,fun hk=>?_,ha.a5,fun hk=>(ha.a6 hk).1⟩
 ·have h1:=ha.a3 hk
  have h2:=h.tm e.o
  have h0:M.times e.o=0:=by have:=hsum.1;omega
  refine ⟨h0,?_,fun g=>?_⟩
  ·cases hw:M.toWrite e.o with
   | false=>rfl
   | true=>have:=(h.wr _ hw).1;omega
  ·by_cases hq:0≤g∧g < 65536
   ·have h3:=hsum.2 g hq.1 hq.2
    have h4:=h.nn g e.o
    have h5:hv M g e.o≤sumG (fun g=>hv M g e.o) 65536:=h3
    omega
   ·exact hz g hq
 ·obtain ⟨h1,h2⟩:=ha.a4 hk
  have h3:=(h.wr _ h1).1
  have h4:=h.tm e.o
  have h5:=hv_has h hc.gs h2
  have g1:=hg.g
  have h6:hv M e.g e.o≤sumG (fun g=>hv M g e.o) 65536:=hsum.2 e.g g1.1 (by omega)
  refine ⟨h1,h3,by omega,fun g hne=>?_⟩
  by_cases hq:0≤g∧g < 65536
  ·have h7:hv M g e.o+hv M e.g e.o≤sumG (fun g=>hv M g e.o) 65536:=sumG_two (f:=fun g=>hv M g e.o) (fun g=>h.nn g e.o) hq.1 hq.2 g1.1 (by omega) hne
   have h8:=h.nn g e.o
   omega
  ·exact hz g hq
theorem hv_next (hc:Can M e r) (hr:Ris r.held) (hp:PreL M e):hv (M.doo e r).tick g o=hv M g o+(if e.g=g∧e.o=o then dl e else 0):=by
 have hown:hv M e.g o=(look o r.held).getD 0:=by unfold hv;rw [hc.gs];rfl
 by_cases h7:e.k=7
 ·have hd:dl e=0:=by unfold dl;simp [h7]
  have hn:=ask_fork hc.ask h7
  rw [hd]
  have e0:(if e.g=g∧e.o=o then (0:Int) else 0)=0:=by split <;> rfl
  rw [e0,Int.add_zero]
  unfold hv
  rw [doo_gs hc.gs,if_pos h7]
  by_cases hq:g=e.a
  ·subst hq;rw [setF_same,hn];rfl
  ·rw [setF_other _ _ hq]
 ·by_cases hq:e.g=g
  ·subst hq
   have e1:hv (M.doo e r).tick e.g o=(look o (heldN e r)).getD 0:=by
    unfold hv
    rw [doo_gs hc.gs,if_neg h7,setF_same]
    simp [gNext_held]
   rw [e1,heldN_look hr,hown]
   by_cases ho:e.o=o
   ·subst ho
    have q1:e.g=e.g∧e.o=e.o:=⟨rfl,rfl⟩
    rw [if_pos q1,if_pos (rfl:e.o=e.o)]
    unfold dl
    by_cases h3:e.k=3
    ·have:=(hp.p3 h3).2.2 e.g
     rw [hown] at this
     rw [if_pos h3,if_pos h3];omega
    rw [if_neg h3,if_neg h3]
    by_cases h4:e.k=4
    ·have:=(hp.p4 h4).2.2.1
     rw [hown] at this
     rw [if_pos h4,if_pos h4];omega
    rw [if_neg h4,if_neg h4]
    by_cases h5:e.k=5
    ·rw [if_pos h5,if_pos h5]
    rw [if_neg h5,if_neg h5]
    by_cases h6:e.k=6
    ·rw [if_pos h6,if_pos h6];omega
    rw [if_neg h6,if_neg h6,Int.add_zero]
   ·rw [if_neg ho,if_neg (fun q=>ho q.2),Int.add_zero]
  ·rw [if_neg (fun q=>hq q.1),Int.add_zero]
   unfold hv
   rw [doo_gs hc.gs,if_neg h7,setF_other _ _ (fun q=>hq q.symm)]
theorem times_next (hp:PreL M e):(M.doo e r).tick.times o=M.times o+(if e.o=o then dl e else 0):=by
 show (((M.doo e r).tick.locks o).map (·.2)).getD 0=_
 rw [doo_locks]
 unfold dl
 by_cases ho:e.o=o
 ·subst ho
  rw [if_pos rfl]
  by_cases h3:e.k=3
  ·have:=(hp.p3 h3).1
   rw [if_pos h3,if_pos h3,setF_same,this];rfl
  rw [if_neg h3,if_neg h3]
  by_cases h4:e.k=4
  ·have:=(hp.p4 h4).2.1
   rw [if_pos h4,if_pos h4,setF_same,this];rfl
  rw [if_neg h4,if_neg h4]
  by_cases h5:e.k=5
  ·rw [if_pos h5,if_pos h5,setF_same];rfl
  rw [if_neg h5,if_neg h5]
  by_cases h6:e.k=6
  ·rw [if_pos h6,if_pos h6]
   unfold rdLocks
   rw [setF_same]
   by_cases hz:M.times e.o - 1=0
   ·rw [if_pos hz];simp;omega
   ·rw [if_neg hz];simp;omega
  rw [if_neg h6,if_neg h6,Int.add_zero];rfl
 ·have ho2:o≠e.o:=fun q=>ho q.symm
  rw [if_neg ho,Int.add_zero]
  unfold rdLocks
  repeat' split
  all_goals first|(rw [setF_other _ _ ho2];rfl)|rfl
theorem toW_next:(M.doo e r).tick.toWrite o=if e.o=o then (if e.k=3 then true else if e.k=4 then false else if e.k=5 then false else if e.k=6 then false else M.toWrite o) else M.toWrite o:=by
 show (((M.doo e r).tick.locks o).map (·.1)).getD false=_
 rw [doo_locks]
 by_cases ho:e.o=o
 ·subst ho
  rw [if_pos rfl]
  by_cases h3:e.k=3
  ·rw [if_pos h3,if_pos h3,setF_same];rfl
  rw [if_neg h3,if_neg h3]
  by_cases h4:e.k=4
  ·rw [if_pos h4,if_pos h4,setF_same];rfl
  rw [if_neg h4,if_neg h4]
  by_cases h5:e.k=5
  ·rw [if_pos h5,if_pos h5,setF_same];rfl
  rw [if_neg h5,if_neg h5]
  by_cases h6:e.k=6
  ·rw [if_pos h6,if_pos h6]
   unfold rdLocks
   rw [setF_same]
   by_cases hz:M.times e.o - 1=0
   ·rw [if_pos hz];rfl
   ·rw [if_neg hz];rfl
  rw [if_neg h6,if_neg h6];rfl
 ·have ho2:o≠e.o:=fun q=>ho q.symm
  rw [if_neg ho]
  unfold rdLocks
  repeat' split
  all_goals first|(rw [setF_other _ _ ho2];rfl)|rfl
theorem LkL.step (h:LkL T M) (hg:Gdm e) (hc:Can M e r):LkL (T++[e]) (M.next e):=by
 rw [hc.nx]
 have hp:=h.pre hg hc
 have hris:=h.ris _ _ hc.gs
 have ha:=ask_lock hc.ask
 have hgs:∀ g q,(M.doo e r).tick.gs g=some q→Ris q.held∧∀ o v,look o q.held=some v→1≤v:=fun g q hq=>by
  rw [doo_gs hc.gs] at hq
  by_cases h7:e.k=7
  ·rw [if_pos h7] at hq
   by_cases h1:g=e.a
   ·subst h1
    rw [setF_same] at hq
    cases hq
    exact ⟨List.Pairwise.nil,fun o v hv=>by cases hv⟩
   ·rw [setF_other _ _ h1] at hq
    exact ⟨h.ris _ _ hq,h.ps _ _ hq⟩
  ·rw [if_neg h7] at hq
   by_cases h1:g=e.g
   ·subst h1
    rw [setF_same] at hq
    cases hq
    rw [gNext_held]
    exact ⟨heldN_ris hris,heldN_ps hris (h.ps _ _ hc.gs) (fun hk=>(ha.a6 hk).2)⟩
   ·rw [setF_other _ _ h1] at hq
    exact ⟨h.ris _ _ hq,h.ps _ _ hq⟩
 refine ⟨fun g q hq=>(hgs g q hq).1,fun g q hq=>(hgs g q hq).2,fun g o=>?_,fun o=>?_,fun o hw g=>?_,fun o hw=>?_,fun g hq o=>?_⟩
 ·rw [hv_next hc hris hp,wT_snoc,rT_snoc,h.eq]
  by_cases hq:e.g=g∧e.o=o
  ·rw [if_pos hq,if_pos hq,if_pos hq]
   unfold dl
   by_cases h3:e.k=3
   ·simp [h3];omega
   by_cases h4:e.k=4
   ·simp [h4];omega
   by_cases h5:e.k=5
   ·simp [h5];omega
   by_cases h6:e.k=6
   ·simp [h6];omega
   simp [h3,h4,h5,h6]
  ·rw [if_neg hq,if_neg hq,if_neg hq];omega
 ·have e1:(fun g=>hv (M.doo e r).tick g o)=fun g=>hv M g o+(if e.g=g then (if e.o=o then dl e else 0) else 0):=by
   funext g
   rw [hv_next hc hris hp]
   by_cases h1:e.g=g
   ·by_cases h2:e.o=o
    ·rw [if_pos ⟨h1,h2⟩,if_pos h1,if_pos h2]
    ·rw [if_neg (fun q=>h2 q.2),if_pos h1,if_neg h2]
   ·rw [if_neg (fun q=>h1 q.1),if_neg h1]
  rw [times_next hp,e1,sumG_add,sumG_one hg.g.1 (by have:=hg.g.2;omega),h.tm]
 ·rw [toW_next] at hw
  rw [wT_snoc]
  by_cases ho:e.o=o
  ·subst ho
   rw [if_pos rfl] at hw
   by_cases h3:e.k=3
   ·rw [if_pos h3] at hw;cases hw
   rw [if_neg h3] at hw
   by_cases h4:e.k=4
   ·obtain ⟨p1,p2,p3,p4⟩:=hp.p4 h4
    have hr0:=(h.wr _ p1).2 g
    have he:=h.eq g e.o
    by_cases h1:e.g=g
    ·subst h1
     rw [if_pos ⟨rfl,rfl⟩,if_neg h3,if_pos h4];omega
    ·have:=p4 g (fun q=>h1 q.symm)
     rw [if_neg (fun q=>h1 q.1)];omega
   rw [if_neg h4] at hw
   have hw0:M.toWrite e.o=false:=by
    by_cases h5:e.k=5
    ·exact hp.p5 h5
    ·rw [if_neg h5] at hw
     by_cases h6:e.k=6
     ·exact hp.p6 h6
     ·rw [if_neg h6] at hw;exact hw
   rw [h.fr _ hw0,if_neg h3,if_neg h4]
   split <;> rfl
  ·rw [if_neg ho] at hw
   rw [if_neg (fun q=>ho q.2),h.fr _ hw];rfl
 ·rw [toW_next] at hw
  by_cases ho:e.o=o
  ·subst ho
   rw [if_pos rfl] at hw
   by_cases h3:e.k=3
   ·obtain ⟨p1,p2,p3⟩:=hp.p3 h3
    refine ⟨by rw [times_next hp,p1,if_pos rfl,dl,if_pos h3];rfl,fun g=>?_⟩
    have he:=h.eq g e.o
    have:=h.fr _ p2 g
    have:=p3 g
    rw [rT_snoc]
    have e0:(if e.g=g∧e.o=e.o then (if e.k=5 then (1:Int) else if e.k=6 then -1 else 0) else 0)=0:=by simp [h3]
    rw [e0];omega
   rw [if_neg h3] at hw
   by_cases h4:e.k=4
   ·rw [if_pos h4] at hw;cases hw
   rw [if_neg h4] at hw
   by_cases h5:e.k=5
   ·rw [if_pos h5] at hw;cases hw
   rw [if_neg h5] at hw
   by_cases h6:e.k=6
   ·rw [if_pos h6] at hw;cases hw
   rw [if_neg h6] at hw
   obtain ⟨q1,q2⟩:=h.wr _ hw
   refine ⟨by rw [times_next hp,q1,if_pos rfl,dl,if_neg h3,if_neg h4,if_neg h5,if_neg h6];rfl,fun g=>?_⟩
   rw [rT_snoc,q2,if_neg h5,if_neg h6]
   split <;> rfl
  ·rw [if_neg ho] at hw
   obtain ⟨q1,q2⟩:=h.wr _ hw
   refine ⟨by rw [times_next hp,q1,if_neg ho];rfl,fun g=>?_⟩
   rw [rT_snoc,q2,if_neg (fun q=>ho q.2)];rfl
 ·have h1:¬ e.g=g:=fun q=>hq (by have:=hg.g;omega)
  rw [wT_snoc,rT_snoc,if_neg (fun q=>h1 q.1),if_neg (fun q=>h1 q.1),(h.rg g hq o).1,(h.rg g hq o).2]
  exact ⟨rfl,rfl⟩
theorem Rch.lkL (h:Rch T M):LkL T M:=by
 induction h with
 | new=>exact LkL.new
 | step _ hg hw ih=>obtain ⟨r,hc⟩:=why_can hw;exact ih.step hg hc
end
end Go.Proofs.YthgelfdefkbfeaaGreatDoor
namespace Go.Proofs.YthgelfdefkbfeaaGreatDoor
theorem nxt_out {k:Int} {L:List Ent} (h:nxt k L=none):∀ q ∈ L,q.1 < k:=by
 induction L with
 | nil=>intro q hq;cases hq
 | cons p L ih =>
  unfold nxt at h
  by_cases hp:p.1 < k
  ·rw [if_pos hp] at h
   intro q hq
   rcases List.mem_cons.1 hq with rfl|hq
   ·exact hp
   ·exact ih h q hq
  ·rw [if_neg hp] at h;cases h
theorem nxt_in {k:Int} {p:Ent} {L:List Ent} (hr:Ris L) (h:nxt k L=some p):p ∈ L∧k≤p.1∧∀ q ∈ L,k≤q.1→p.1≤q.1:=by
 induction L with
 | nil=>cases h
 | cons x L ih =>
  unfold nxt at h
  by_cases hp:x.1 < k
  ·rw [if_pos hp] at h
   obtain ⟨h1,h2,h3⟩:=ih hr.tail h
   refine ⟨List.mem_cons_of_mem _ h1,h2,fun q hq hk=>?_⟩
   rcases List.mem_cons.1 hq with rfl|hq
   ·omega
   ·exact h3 q hq hk
  ·rw [if_neg hp] at h
   injection h with h
   subst h
   refine ⟨List.mem_cons_self ..,by omega,fun q hq hk=>?_⟩
   rcases List.mem_cons.1 hq with rfl|hq
   ·exact Int.le_refl _
   ·have:=hr.head q hq;omega
def lvR:List Me→Int→Int→Bool
 | [],_,_=>false
 | e :: R,o,a=>if e.k=20∧e.o=o∧e.a=a then true else if e.k=21∧e.o=o∧e.a=a then false else lvR R o a
def lvT (T:List Me) (o a:Int):Bool:=lvR T.reverse o a
section
variable {T : List Me} {M : CS} {e : Me} {r : Gor} {k o a x g : Int}
theorem lvT_snoc:lvT (T++[e]) o a=if e.k=20∧e.o=o∧e.a=a then true else if e.k=21∧e.o=o∧e.a=a then false else lvT T o a:=by
 unfold lvT
 rw [List.reverse_append]
 simp [lvR]
theorem doo_mem:(M.doo e r).tick.mem=if e.k=20 then insE (e.o+(e.a - 1)) e.o M.mem else if e.k=21 then delE (e.o+(e.a - 1)) M.mem else M.mem:=by
 show (M.doo e r).mem=_
 unfold CS.doo
 by_cases h3:e.k=3
 ·simp [h3]
 by_cases h4:e.k=4
 ·simp [h4]
 by_cases h5:e.k=5
 ·simp [h5]
 by_cases h6:e.k=6
 ·simp [h6]
 by_cases h7:e.k=7
 ·simp [h7]
 by_cases h8:e.k=8
 ·simp [h8]
 by_cases h9:e.k=9
 ·simp [h9]
 by_cases h10:e.k=10
 ·cases hc:M.chans e.o <;> simp [h10]
 by_cases h11:e.k=11
 ·simp [h11]
 by_cases h12:e.k=12
 ·cases hc:M.chans e.o <;> simp [h12]
 by_cases h13:e.k=13
 ·cases hc:M.chans e.o <;> simp [h13]
 by_cases h14:e.k=14
 ·simp [h14]
 by_cases h16:e.k=16
 ·simp [h16]
 by_cases h20:e.k=20
 ·simp [h20]
 by_cases h21:e.k=21
 ·simp [h21]
 simp [h3,h4,h5,h6,h7,h8,h9,h10,h11,h12,h13,h14,h16,h20,h21]
theorem ask_alloc (h:M.ask e r=0) (hk:e.k=20):∀ p,nxt e.o M.mem=some p→e.o+(e.a - 1) < p.2:=by
 intro p hp
 unfold CS.ask CS.askOther at h
 simp [hk] at h
 rw [hp] at h
 simp at h
 exact h
theorem ask_free (h:M.ask e r=0) (hk:e.k=21):nxt (e.o+(e.a - 1)) M.mem=some (e.o+(e.a - 1),e.o):=by
 unfold CS.ask CS.askOther at h
 simp [hk] at h
 exact h
structure LkA (T:List Me) (M:CS):Prop where
 ris:Ris M.mem
 le:∀ p ∈ M.mem,p.2≤p.1
 dis:∀ p ∈ M.mem,∀ q ∈ M.mem,p.1 < q.1→p.1 < q.2
 lv:∀ o a,lvT T o a=true ↔ look (o+(a - 1)) M.mem=some o
theorem LkA.new:LkA [] CS.new:=⟨List.Pairwise.nil,fun p hp=>(by cases hp),fun p hp=>(by cases hp),fun o a=>⟨fun h=>(by cases h),fun h=>(by cases h)⟩⟩
theorem LkA.step (h:LkA T M) (hsz:e.k=20→1≤e.a) (hc:Can M e r):LkA (T++[e]) (M.next e):=by
 rw [hc.nx]
 by_cases h20:e.k=20
 ·have ha:=ask_alloc hc.ask h20
  have h1:=hsz h20
  have hfar:∀ q ∈ M.mem,e.o≤q.1→e.o+(e.a - 1) < q.2:=fun q hq hk=>by
   cases hn:nxt e.o M.mem with
   | none=>have:=nxt_out hn q hq;omega
   | some p =>
    obtain ⟨p1,p2,p3⟩:=nxt_in h.ris hn
    have h2:=ha p hn
    have h3:=p3 q hq hk
    by_cases e9:p.1=q.1
    ·have:=look_of_mem h.ris (x:=p.1) (v:=p.2) p1
     have h4:=look_of_mem h.ris (x:=q.1) (v:=q.2) hq
     rw [← e9,this] at h4
     injection h4 with h4
     omega
    ·have:=h.dis p p1 q hq (by omega)
     have:=h.le p p1
     omega
  have hnew:look (e.o+(e.a - 1)) M.mem=none:=by
   cases hl:look (e.o+(e.a - 1)) M.mem with
   | none=>rfl
   | some v =>
    have hm:=look_mem hl
    have h2:e.o+(e.a - 1) < v:=hfar _ hm (by simp only;omega)
    have h3:v≤e.o+(e.a - 1):=h.le _ hm
    omega
  have hmem:(M.doo e r).tick.mem=insE (e.o+(e.a - 1)) e.o M.mem:=by rw [doo_mem,if_pos h20]
  refine ⟨by rw [hmem];exact h.ris.ins _ _,fun p hp=>?_,fun p hp q hq hlt=>?_,fun o a=>?_⟩
  ·rw [hmem] at hp
   rcases insE_mem p hp with rfl|hp
   ·simp only;omega
   ·exact h.le p hp
  ·rw [hmem] at hp hq
   rcases insE_mem p hp with rfl|hp
   ·rcases insE_mem q hq with rfl|hq
    ·omega
    ·exact hfar q hq (by simp only at hlt;omega)
   ·rcases insE_mem q hq with rfl|hq
    ·simp only at hlt ⊢
     by_cases hk:e.o≤p.1
     ·have:=hfar p hp hk
      have:=h.le p hp
      omega
     ·omega
    ·exact h.dis p hp q hq hlt
  ·rw [hmem,lvT_snoc,look_insE]
   by_cases hs:e.o=o∧e.a=a
   ·obtain ⟨rfl,rfl⟩:=hs
    rw [if_pos ⟨h20,rfl,rfl⟩,if_pos rfl];simp
   ·rw [if_neg (fun q=>hs q.2),if_neg (fun q=>hs q.2)]
    by_cases hk:o+(a - 1)=e.o+(e.a - 1)
    ·rw [if_pos hk]
     constructor
     ·intro hl
      have:=(h.lv o a).1 hl
      rw [hk,hnew] at this
      cases this
     ·intro hl
      injection hl with hl
      exact absurd ⟨hl,by omega⟩ hs
    ·rw [if_neg hk];exact h.lv o a
 ·by_cases h21:e.k=21
  ·have hf:=ask_free hc.ask h21
   obtain ⟨f1,_,_⟩:=nxt_in h.ris hf
   have hl:=look_of_mem h.ris f1
   have hmem:(M.doo e r).tick.mem=delE (e.o+(e.a - 1)) M.mem:=by rw [doo_mem,if_neg h20,if_pos h21]
   have hsub:=delE_sub (e.o+(e.a - 1)) M.mem
   refine ⟨by rw [hmem];exact h.ris.del _,fun p hp=>?_,fun p hp q hq hlt=>?_,fun o a=>?_⟩
   ·rw [hmem] at hp;exact h.le p (hsub.subset hp)
   ·rw [hmem] at hp hq;exact h.dis p (hsub.subset hp) q (hsub.subset hq) hlt
   ·rw [hmem,lvT_snoc,look_delE h.ris,if_neg (fun q=>h20 q.1)]
    by_cases hs:e.o=o∧e.a=a
    ·obtain ⟨rfl,rfl⟩:=hs
     rw [if_pos ⟨h21,rfl,rfl⟩,if_pos rfl];simp
    ·rw [if_neg (fun q=>hs q.2)]
     by_cases hk:o+(a - 1)=e.o+(e.a - 1)
     ·rw [if_pos hk]
      constructor
      ·intro hv
       have h2:=(h.lv o a).1 hv
       rw [hk,hl] at h2
       injection h2 with h2
       exact absurd ⟨h2,by omega⟩ hs
      ·intro hv;cases hv
     ·rw [if_neg hk];exact h.lv o a
  ·have hmem:(M.doo e r).tick.mem=M.mem:=by rw [doo_mem,if_neg h20,if_neg h21]
   refine ⟨by rw [hmem];exact h.ris,by rw [hmem];exact h.le,by rw [hmem];exact h.dis,fun o a=>?_⟩
   rw [hmem,lvT_snoc,if_neg (fun q=>h20 q.1),if_neg (fun q=>h21 q.1)]
   exact h.lv o a
theorem Rch.lkA (h:Rch T M):LkA T M:=by
 induction h with
 | new=>exact LkA.new
 | step _ hg hw ih=>obtain ⟨r,hc⟩:=why_can hw;exact ih.step hg.al hc
theorem LkA.free (h:LkA T M) (o a:Int):nxt (o+(a - 1)) M.mem=some (o+(a - 1),o) ↔ lvT T o a=true:=by
 rw [h.lv]
 constructor
 ·intro hn
  exact look_of_mem h.ris (nxt_in h.ris hn).1
 ·intro hl
  have hm:=look_mem hl
  cases hn:nxt (o+(a - 1)) M.mem with
  | none=>have:o+(a - 1) < o+(a - 1):=nxt_out hn _ hm;omega
  | some p =>
   obtain ⟨p1,p2,p3⟩:=nxt_in h.ris hn
   have h3:p.1≤o+(a - 1):=p3 _ hm (Int.le_refl _)
   have e9:p.1=o+(a - 1):=by omega
   have h4:=look_of_mem h.ris (x:=p.1) (v:=p.2) p1
   rw [e9,hl] at h4
   injection h4 with h4
   rw [← e9,h4]
end
end Go.Proofs.YthgelfdefkbfeaaGreatDoor
namespace Go.Proofs.YthgelfdefkbfeaaGreatDoor
section
variable {T : List Me} {M : CS} {e : Me} {r : Gor} {k o a x g : Int}
end
end Go.Proofs.YthgelfdefkbfeaaGreatDoor
namespace Go.Proofs.YthgelfdefkbfeaaGreatDoor
set_option linter.unusedSimpArgs false
section
variable {T : List Me} {M : CS} {e : Me} {r : Gor} {k o a x g : Int}
end
end Go.Proofs.YthgelfdefkbfeaaGreatDoor
namespace Go.Proofs.YthgelfdefkbfeaaGreatDoor
theorem chk_arg {g k o a:Int} {ls:List ByteArray} (h:E6.chk g k o a ls=0):E6.argB k.toNat a=true:=by
 unfold E6.chk at h
 split at h
 ·split at h
  ·cases h
  ·split at h
   ·split at h
    ·assumption
    ·cases h
   ·cases h
 ·cases h
theorem gdm_of {e:E6.Ev} (h:e.chk=0) (hok:e.ok):Gdm (me e)∧Eb e.g e.k e.o e.a:=by
 have hb:Eb e.g e.k e.o e.a:=chk_eb (ls:=e.ls) h hok.ho.1 hok.ho.2 hok.ha.1 hok.ha.2
 refine ⟨⟨⟨hb.ok.g0,hb.ok.g1⟩,fun hk=>?_,fun hk=>?_,fun hk=>?_⟩,hb⟩
 ·have h1:=chk_arg (g:=e.g) (k:=e.k) (o:=e.o) (a:=e.a) (ls:=e.ls) h
  have h2:e.k=16:=hk
  rw [h2] at h1
  have h3:=of_decide_eq_true h1
  have h4:e.a≤1:=h3.2
  have:=hok.ha
  show e.a=0∨e.a=1
  omega
 ·have:=hb.rc hk;have:=hok.ha;show e.a=0∨e.a=1;omega
 ·exact (hb.al (.inl hk)).1
end Go.Proofs.YthgelfdefkbfeaaGreatDoor
namespace Go.Proofs.YthgelfdefkbfeaaGreatDoor
open Go.RowKit Go.Maps
end Go.Proofs.YthgelfdefkbfeaaGreatDoor
namespace Go.Proofs.YthgelfdefkbfeaaGreatDoor
open Go.RowKit Go.Maps
end Go.Proofs.YthgelfdefkbfeaaGreatDoor
namespace Go.Proofs.YthgelfdefkbfeaaGreatDoor
open Go.RowKit Go.Maps
end Go.Proofs.YthgelfdefkbfeaaGreatDoor
namespace Go.Proofs.YthgelfdefkbfeaaGreatDoor
open Go.RowKit Go.Maps
end Go.Proofs.YthgelfdefkbfeaaGreatDoor
namespace Go.Proofs.YthgelfdefkbfeaaGreatDoor
open Go.RowKit Go.Maps
end Go.Proofs.YthgelfdefkbfeaaGreatDoor
namespace Go.Proofs.YthgelfdefkbfeaaGreatDoor
open Go.RowKit Go.Maps
end Go.Proofs.YthgelfdefkbfeaaGreatDoor
namespace Go.Proofs.YthgelfdefkbfeaaGreatDoor
open Go.RowKit Go.Maps
set_option linter.unusedSimpArgs false
end Go.Proofs.YthgelfdefkbfeaaGreatDoor
namespace Go.Proofs.YthgelfdefkbfeaaGreatDoor
open Go.RowKit Go.Maps
set_option linter.unusedSimpArgs false
end Go.Proofs.YthgelfdefkbfeaaGreatDoor
