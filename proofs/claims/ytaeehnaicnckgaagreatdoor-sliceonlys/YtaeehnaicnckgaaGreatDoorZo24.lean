import Derived.Test.YtaeehnaicnckgaaGreatDoorZo20
import Derived.Test.YtaeehnaicnckgaaGreatDoorZo21
import Derived.Test.YtaeehnaicnckgaaGreatDoorZo22
import Derived.Test.YtaeehnaicnckgaaGreatDoorZo23
import Derived.Test.YtaeehnaicnckgaaGreatDoorZo02
set_option maxRecDepth 8000
set_option maxHeartbeats 8000000
set_option linter.unusedVariables false
namespace Go.Proofs.YtaeehnaicnckgaaGreatDoor
open Go.RowKit Go.Maps
section
variable {w w' : World} {cb : Nat} {B : Bl} {F : Nat → Option Lb} {M : CS} {N : Nat} {g k o a : Int} {s : Value}
structure Eb (g k o a:Int):Prop where
 ok:EOk g o a
 k1:1≤k
 k2:k≤22
 fj:k=7∨k=8→a≤65535
 mc:k=9→a≤65536
 rc:k=12→a≤1
 ct:k=14→a≤4294967295
 al:k=20∨k=21→1≤a∧o+(a - 1)≤18446744073709551615
theorem kcases {k:Int} (h1:1≤k) (h2:k≤22):k=1∨k=2∨k=3∨k=4∨k=5∨k=6∨k=7∨k=8∨k=9∨k=10∨k=11∨k=12∨k=13∨k=14∨k=15∨k=16∨k=17∨k=18∨k=19∨k=20∨k=21∨k=22:=by omega
theorem chk_eb {ls:List ByteArray} (h:E6.chk g k o a ls=0) (o0:0≤o) (o1:o≤18446744073709551615) (a0:0≤a) (a1:a≤18446744073709551615):Eb g k o a:=by
 unfold E6.chk at h
 by_cases hk:1≤k∧k≤22
 ·rw [if_pos hk] at h
  by_cases hg:g < 0∨65536≤g
  ·rw [if_pos hg] at h;cases h
  ·rw [if_neg hg] at h
   cases hob:E6.objB k.toNat o a with
   | false=>rw [hob] at h;cases h
   | true =>
    rw [hob,if_pos rfl] at h
    cases har:E6.argB k.toNat a with
    | false=>rw [har] at h;cases h
    | true =>
     clear h
     refine ⟨⟨by omega,by omega,o0,o1,a0,a1⟩,hk.1,hk.2,?_,?_,?_,?_,?_⟩
     ·rintro (rfl|rfl) <;> (have:=of_decide_eq_true har;exact this.2)
     ·rintro rfl;have:=of_decide_eq_true har;exact this.2
     ·rintro rfl;have:=of_decide_eq_true har;exact this.2
     ·rintro rfl
      have h9:=of_decide_eq_true har
      have h8:a≤4294967294:=h9.2
      omega
     ·rintro (rfl|rfl)
      all_goals
       have h9:=of_decide_eq_true har
       have h8:(1:Int)≤a:=h9.1
       unfold E6.objB at hob
       rw [if_neg (by decide),if_pos (by decide),har] at hob
       have h7:o≤18446744073709551615 - (a - 1):=by simpa using hob
       exact ⟨h8,by omega⟩
 ·rw [if_neg hk] at h;cases h
theorem ask_any (h:Ck w cb B F M N) (he:Eb g k o a) (hok:M.ok) {r:Gor} (hg:M.gs g=some r) :
  Calls Tryz.prog (asksOf k) #[gPtr cb,.agg (evC g k o a s)] w fun e w'=>e=.returned (.int .i64 (M.ask ⟨g,k,o,a⟩ r))∧Below w.heap.size w w':=by
 have ho:=he.ok
 rcases kcases he.k1 he.k2 with rfl|rfl|rfl|rfl|rfl|rfl|rfl|rfl|rfl|rfl|rfl|rfl|rfl|rfl|rfl|rfl|rfl|rfl|rfl|rfl|rfl|rfl
 ·exact always_any
 ·exact always_any
 ·exact mayAcquire_any h ho
 ·exact mayRelease_any h ho hg
 ·exact mayAcquireToRead_any h ho
 ·exact mayReleaseToRead_any h ho hg
 ·exact mayFork_any h ho (he.fj (.inl rfl))
 ·exact mayJoin_any h ho (he.fj (.inr rfl))
 ·have e9:M.ask ⟨g,9,o,a⟩ r=(if (M.chans o).isSome=true then 13 else 0):=by
   show M.askChan ⟨g,9,o,a⟩ r=_
   unfold CS.askChan
   dsimp only
   cases M.chans o <;> rfl
  rw [e9]
  exact mayMake_any h ho
 ·refine Calls.mono (maySend_any h ho hok) ?_
  rintro e w1 ⟨rfl,hb⟩
  refine ⟨?_,hb⟩
  show _=Ending.returned (Value.int .i64 (M.askChan ⟨g,10,o,a⟩ r))
  unfold CS.askChan
  dsimp only
  cases M.chans o <;> rfl
 ·refine Calls.mono (mayAck_any h ho hok hg) ?_
  rintro e w1 ⟨rfl,hb⟩
  refine ⟨?_,hb⟩
  show _=Ending.returned (Value.int .i64 (M.askChan ⟨g,11,o,a⟩ r))
  unfold CS.askChan
  dsimp only
  cases M.chans o <;> rfl
 ·refine Calls.mono (mayReceive_any h ho hok) ?_
  rintro e w1 ⟨rfl,hb⟩
  refine ⟨?_,hb⟩
  show _=Ending.returned (Value.int .i64 (M.askChan ⟨g,12,o,a⟩ r))
  unfold CS.askChan
  dsimp only
  cases M.chans o <;> rfl
 ·refine Calls.mono (mayClose_any h ho hok) ?_
  rintro e w1 ⟨rfl,hb⟩
  refine ⟨?_,hb⟩
  show _=Ending.returned (Value.int .i64 (M.askChan ⟨g,13,o,a⟩ r))
  unfold CS.askChan
  dsimp only
  cases M.chans o <;> rfl
 ·exact mayCount_any h ho hok (he.ct rfl)
 ·exact mayWait_any h ho
 ·exact mayRunOnce_any h ho
 ·exact always_any
 ·exact always_any
 ·exact always_any
 ·exact mayAllocate_any h ho (he.al (.inl rfl)).1 (he.al (.inl rfl)).2
 ·exact mayFree_any h ho (he.al (.inr rfl)).1 (he.al (.inr rfl)).2
 ·exact always_any
theorem CkR.up {M2:CS} {w2:World} {N':Nat} (h:CkR w cb F M2 N w2) (hN:N≤N'):CkR w cb F M2 N' w2:=by
 obtain ⟨B',F',h1,h2,h3⟩:=h
 exact ⟨B',F',h1.up hN,h2,h3⟩
theorem has_look {x:Int} {L:List Ent} (h:has x L=true):∃ u,look x L=some u:=Option.isSome_iff_exists.1 h
theorem does_any (h:Ck w cb B F M N) (hN:N≤2000000) (he:Eb g k o a) (hok:M.ok) {r:Gor} (hg:M.gs g=some r) (hask:M.ask ⟨g,k,o,a⟩ r=0) :
  Calls Tryz.prog (doesOf k) #[gPtr cb,.agg (evC g k o a s)] w fun e w'=>e=.returned (.tuple #[])∧CkR w cb F (M.doo ⟨g,k,o,a⟩ r) (N+1) w':=by
 have ho:=he.ok
 have hup:∀ {M2:CS},(∀ e w',e=Ending.returned (.tuple #[])∧CkR w cb F M2 N w'→e=Ending.returned (.tuple #[])∧CkR w cb F M2 (N+1) w'):=fun e w' ⟨h1,h2⟩=>⟨h1,h2.up (Nat.le_succ N)⟩
 rcases kcases he.k1 he.k2 with rfl|rfl|rfl|rfl|rfl|rfl|rfl|rfl|rfl|rfl|rfl|rfl|rfl|rfl|rfl|rfl|rfl|rfl|rfl|rfl|rfl|rfl
 ·exact (nothing_any h).mono hup
 ·exact (nothing_any h).mono hup
 ·exact acquire_any h ho hN hok hg
 ·have h4:M.toWrite o=true∧has o r.held=true:=by
   by_cases h5:M.toWrite o=true∧has o r.held=true
   ·exact h5
   ·have h6:M.ask ⟨g,4,o,a⟩ r=5:=by show (if M.toWrite o=true∧has o r.held=true then (0:Int) else 5)=5;rw [if_neg h5]
    rw [h6] at hask;cases hask
  obtain ⟨u,hu⟩:=has_look h4.2
  exact release_any h ho hN hok hg hu
 ·exact acquireToRead_any h ho hN hok hg
 ·have h4:has o r.held=true:=by
   by_cases h5:has o r.held=true
   ·exact h5
   ·have h6:M.ask ⟨g,6,o,a⟩ r=7:=by
     show (if M.toWrite o=true then (7:Int) else if has o r.held=true then 0 else 7)=7
     rw [if_neg h5]
     split <;> rfl
    rw [h6] at hask;cases hask
  obtain ⟨u,hu⟩:=has_look h4
  exact releaseToRead_any h ho hN hok hg hu
 ·have h4:M.gs a=none:=by
   have h6:(if (M.gs a).isSome=true then (8:Int) else 0)=0:=hask
   cases hq:M.gs a with
   | none=>rfl
   | some q=>rw [hq] at h6;cases h6
  exact fork_any h ho hN hok (he.fj (.inl rfl)) h4
 ·have h4:has a M.alive=true:=by
   have h6:M.askGor ⟨g,8,o,a⟩=0:=hask
   unfold CS.askGor at h6
   dsimp only at h6
   rw [if_neg (by decide)] at h6
   cases hq:M.gs a with
   | none=>rw [hq] at h6;cases h6
   | some q =>
    rw [hq] at h6
    by_cases h5:has a M.alive=true
    ·exact h5
    ·dsimp only at h6;rw [if_neg h5] at h6;cases h6
  obtain ⟨u,hu⟩:=has_look h4
  exact (join_any h ho hN hok hu).mono hup
 ·have h4:M.chans o=none:=by
   have h6:M.askChan ⟨g,9,o,a⟩ r=0:=hask
   unfold CS.askChan at h6
   cases hq:M.chans o with
   | none=>rfl
   | some q=>dsimp only at h6;rw [hq] at h6;cases h6
  exact makeChannel_any h ho hN (he.mc rfl) h4
 ·cases hq:M.chans o with
  | none =>
   have h6:M.askChan ⟨g,10,o,a⟩ r=0:=hask
   unfold CS.askChan at h6
   dsimp only at h6;rw [hq] at h6;cases h6
  | some c =>
   have e9:M.doo ⟨g,10,o,a⟩ r={ M with chans:=setF M.chans o (some { c with sends:=c.sends+1 }),gs:=if c.room=0 then setF M.gs g (some { r with «to»:=o,as_:=c.sends+1 }) else M.gs }:=by
    show (match M.chans o with|none=>M|some c=>{ M with chans:=setF M.chans o (some { c with sends:=c.sends+1 }),gs:=if c.room=0 then setF M.gs g (some { r with «to»:=o,as_:=c.sends+1 }) else M.gs })=_
    rw [hq]
   rw [e9]
   exact (send_any h ho hN hok hg hq).mono hup
 ·exact (ack_any h ho hN hg).mono hup
 ·cases hq:M.chans o with
  | none =>
   have h6:M.askChan ⟨g,12,o,a⟩ r=0:=hask
   unfold CS.askChan at h6
   dsimp only at h6;rw [hq] at h6;cases h6
  | some c =>
   have e9:M.doo ⟨g,12,o,a⟩ r={ M with chans:=setF M.chans o (some { c with recvs:=c.recvs+a }) }:=by
    show (match M.chans o with|none=>M|some c=>{ M with chans:=setF M.chans o (some { c with recvs:=c.recvs+a }) })=_
    rw [hq]
   rw [e9]
   exact (receive_any h ho hN hok (he.rc rfl) hq).mono hup
 ·cases hq:M.chans o with
  | none =>
   have h6:M.askChan ⟨g,13,o,a⟩ r=0:=hask
   unfold CS.askChan at h6
   dsimp only at h6;rw [hq] at h6;cases h6
  | some c =>
   have e9:M.doo ⟨g,13,o,a⟩ r={ M with chans:=setF M.chans o (some { c with closed:=true }) }:=by
    show (match M.chans o with|none=>M|some c=>{ M with chans:=setF M.chans o (some { c with closed:=true }) })=_
    rw [hq]
   rw [e9]
   exact (closeChannel_any h ho hN hq).mono hup
 ·have h6:(if M.cnt o+mzag a < 0∨2147483647 < M.cnt o+mzag a then (23:Int) else 0)=0:=hask
  by_cases h5:M.cnt o+mzag a < 0∨2147483647 < M.cnt o+mzag a
  ·rw [if_pos h5] at h6;cases h6
  ·exact count_any h ho hN (by omega) (by omega)
 ·exact (nothing_any h).mono hup
 ·exact runOnce_any h ho hN
 ·exact (nothing_any h).mono hup
 ·exact (nothing_any h).mono hup
 ·exact (nothing_any h).mono hup
 ·exact (allocate_any h ho hN hok (he.al (.inl rfl)).1 (he.al (.inl rfl)).2).mono hup
 ·have h6:(if nxt (o+(a - 1)) M.mem=some (o+(a - 1),o) then (0:Int) else 28)=0:=hask
  by_cases h5:nxt (o+(a - 1)) M.mem=some (o+(a - 1),o)
  ·exact (free_any h ho hN hok (he.al (.inr rfl)).1 (he.al (.inr rfl)).2 (look_of_mem (h.me nf).ris (nxt_mem h5).1)).mono hup
  ·rw [if_neg h5] at h6;cases h6
 ·exact (nothing_any h).mono hup
end
end Go.Proofs.YtaeehnaicnckgaaGreatDoor
namespace Go.Proofs.YtaeehnaicnckgaaGreatDoor
def GB (n:Nat) (r:Gor):Prop:=(0≤r.to∧r.to≤18446744073709551615)∧(0≤r.as_∧r.as_≤n)∧r.held.length≤n∧∀ p ∈ r.held,1≤p.2∧p.2≤n
def CB (n:Nat) (c:Chn):Prop:=(0≤c.room∧c.room≤65536)∧(0≤c.sends∧c.sends≤n)∧(0≤c.recvs∧c.recvs≤n)
def LBd (n:Nat) (p:Bool × Int):Prop:=-(n:Int)≤p.2∧p.2≤n
structure Inv (n:Nat) (M:CS):Prop where
 gor:∀ g r,M.gs g=some r→(0≤g∧g≤65535)∧GB n r
 al:M.alive.length≤n+1
 lk:∀ o p,M.locks o=some p→LBd n p
 ch:∀ o c,M.chans o=some c→CB n c
 ct:∀ o,0≤M.cnt o∧M.cnt o≤2147483647
 me:M.mem.length≤n
 g0:∃ r,M.gs 0=some r
def CS.inv (M:CS):Prop:=Inv M.taken M
section
variable {M : CS} {n : Nat} {g k o a : Int}
theorem CS.inv.ok (h:M.inv) (ht:M.taken≤1048576):M.ok:=by
 refine ⟨ht,fun g r hg=>?_,h.al,fun o b m hl=>?_,fun o c hc=>?_,h.ct,h.me⟩
 ·obtain ⟨h1,h2,h3,h4,h5⟩:=h.gor g r hg
  exact ⟨h1,h2,⟨h3.1,by have:=h3.2;omega⟩,h4,fun p hp=>⟨(h5 p hp).1,by have:=(h5 p hp).2;omega⟩⟩
 ·have h9:=h.lk o (b,m) hl
  unfold LBd at h9
  dsimp only at h9
  omega
 ·obtain ⟨h1,h2,h3⟩:=h.ch o c hc
  exact ⟨h1,⟨h2.1,by have:=h2.2;omega⟩,⟨h3.1,by have:=h3.2;omega⟩⟩
theorem GB.mono {m:Nat} {r:Gor} (h:GB n r) (hm:n≤m):GB m r:=by
 obtain ⟨h2,h3,h4,h5⟩:=h
 exact ⟨h2,⟨h3.1,by have:=h3.2;omega⟩,by omega,fun p hp=>⟨(h5 p hp).1,by have:=(h5 p hp).2;omega⟩⟩
theorem Inv.mono {m:Nat} (h:Inv n M) (hm:n≤m):Inv m M:=by
 refine ⟨fun g r hg=>⟨(h.gor g r hg).1,(h.gor g r hg).2.mono hm⟩,by have:=h.al;omega,fun o p hp=>?_,fun o c hc=>?_,h.ct,by have:=h.me;omega,h.g0⟩
 ·have:=h.lk o p hp;unfold LBd at this ⊢;omega
 ·obtain ⟨h1,h2,h3⟩:=h.ch o c hc
  exact ⟨h1,⟨h2.1,by have:=h2.2;omega⟩,⟨h3.1,by have:=h3.2;omega⟩⟩
theorem Inv.setG (h:Inv n M) (hg:0≤g∧g≤65535) {r:Gor} (hr:GB n r):Inv n { M with gs:=setF M.gs g (some r) }:=by
 refine ⟨fun g' r' h'=>?_,h.al,h.lk,h.ch,h.ct,h.me,?_⟩
 ·dsimp only at h'
  by_cases e:g'=g
  ·subst e;rw [setF_same] at h';cases h';exact ⟨hg,hr⟩
  ·rw [setF_other _ _ e] at h';exact h.gor g' r' h'
 ·dsimp only
  by_cases e:(0:Int)=g
  ·subst e;exact ⟨r,setF_same _ _ _⟩
  ·rw [setF_other _ _ e];exact h.g0
theorem Inv.setA (h:Inv n M) {L:List Ent} (hL:L.length≤n+1):Inv n { M with alive:=L }:=⟨h.gor,hL,h.lk,h.ch,h.ct,h.me,h.g0⟩
theorem Inv.setM (h:Inv n M) {L:List Ent} (hL:L.length≤n):Inv n { M with mem:=L }:=⟨h.gor,h.al,h.lk,h.ch,h.ct,hL,h.g0⟩
theorem Inv.setO (h:Inv n M) (f:Int→Bool):Inv n { M with once:=f }:=⟨h.gor,h.al,h.lk,h.ch,h.ct,h.me,h.g0⟩
theorem Inv.setK (h:Inv n M) {v:Int} (h0:0≤v) (h1:v≤2147483647):Inv n { M with cnt:=setF M.cnt o v }:=by
 refine ⟨h.gor,h.al,h.lk,h.ch,fun x=>?_,h.me,h.g0⟩
 dsimp only
 by_cases e:x=o
 ·subst e;rw [setF_same];exact ⟨h0,h1⟩
 ·rw [setF_other _ _ e];exact h.ct x
theorem Inv.setC (h:Inv n M) {c:Chn} (hc:CB n c):Inv n { M with chans:=setF M.chans o (some c) }:=by
 refine ⟨h.gor,h.al,h.lk,fun x c' hx=>?_,h.ct,h.me,h.g0⟩
 dsimp only at hx
 by_cases e:x=o
 ·subst e;rw [setF_same] at hx;cases hx;exact hc
 ·rw [setF_other _ _ e] at hx;exact h.ch x c' hx
theorem Inv.setL (h:Inv n M) {v:Option (Bool × Int)} (hv:∀ p,v=some p→LBd n p):Inv n { M with locks:=setF M.locks o v }:=by
 refine ⟨h.gor,h.al,fun x p hx=>?_,h.ch,h.ct,h.me,h.g0⟩
 dsimp only at hx
 by_cases e:x=o
 ·subst e;rw [setF_same] at hx;exact hv p hx
 ·rw [setF_other _ _ e] at hx;exact h.lk x p hx
theorem GB.ins {r:Gor} (h:GB n r) {v:Int} (h1:1≤v) (h2:v≤(n:Int)+1):GB (n+1) { r with held:=insE o v r.held }:=by
 obtain ⟨x1,x3,x4,x5⟩:=h
 have:=insE_len o v r.held
 refine ⟨x1,⟨x3.1,by have:=x3.2;dsimp only;omega⟩,by dsimp only;omega,fun p hp=>?_⟩
 rcases insE_mem p hp with rfl|hp
 ·dsimp only;omega
 ·have:=x5 p hp;omega
theorem GB.del {r:Gor} (h:GB n r):GB (n+1) { r with held:=delE o r.held }:=by
 obtain ⟨x1,x3,x4,x5⟩:=h
 have:=delE_len o r.held
 refine ⟨x1,⟨x3.1,by have:=x3.2;dsimp only;omega⟩,by dsimp only;omega,fun p hp=>?_⟩
 have:=x5 p ((delE_sub o r.held).subset hp)
 omega
theorem times_bd (h:Inv n M) (o:Int):-(n:Int)≤M.times o∧M.times o≤n:=by
 unfold CS.times
 cases hq:M.locks o with
 | none=>simp
 | some p=>have:=h.lk o p hq;unfold LBd at this;simpa using this
theorem look_bd {r:Gor} (h:GB n r) (o:Int):0≤(look o r.held).getD 0∧(look o r.held).getD 0≤n:=by
 cases hq:look o r.held with
 | none=>simp
 | some u=>have:=h.2.2.2 _ (look_mem hq);simp at this ⊢;omega
theorem doo_inv (h:Inv n M) (he:Eb g k o a) {r:Gor} (hg:M.gs g=some r) (hask:M.ask ⟨g,k,o,a⟩ r=0):Inv (n+1) (M.doo ⟨g,k,o,a⟩ r):=by
 have hm:=h.mono (Nat.le_succ n)
 have hgb:=(h.gor g r hg).2
 have hgr:=(h.gor g r hg).1
 have htm:=times_bd h o
 have hlb:=look_bd hgb o
 have ho:=he.ok
 rcases kcases he.k1 he.k2 with rfl|rfl|rfl|rfl|rfl|rfl|rfl|rfl|rfl|rfl|rfl|rfl|rfl|rfl|rfl|rfl|rfl|rfl|rfl|rfl|rfl|rfl
 ·exact hm
 ·exact hm
 ·exact (hm.setL (o:=o) (fun p hp=>by cases hp;unfold LBd;dsimp only;omega)).setG hgr (hgb.ins (by omega) (by omega))
 ·exact (hm.setL (o:=o) (fun p hp=>by cases hp)).setG hgr hgb.del
 ·exact (hm.setL (o:=o) (fun p hp=>by cases hp;unfold LBd;dsimp only;omega)).setG hgr (hgb.ins (o:=o) (v:=(look o r.held).getD 0+1) (by omega) (by omega))
 ·have h4:has o r.held=true:=by
   by_cases h5:has o r.held=true
   ·exact h5
   ·have h6:M.ask ⟨g,6,o,a⟩ r=7:=by
     show (if M.toWrite o=true then (7:Int) else if has o r.held=true then 0 else 7)=7
     rw [if_neg h5]
     split <;> rfl
    rw [h6] at hask;cases hask
  obtain ⟨u,hu⟩:=has_look h4
  have hu1:=hgb.2.2.2 _ (look_mem hu)
  dsimp only at hu1
  refine Inv.setG (M:={ M with locks:=rdLocks M o (M.times o - 1) }) (hm.setL (o:=o) (fun p hp=>?_)) hgr ?_
  ·by_cases hz:M.times o - 1=0
   ·rw [if_pos hz] at hp;cases hp
   ·rw [if_neg hz] at hp;cases hp;unfold LBd;dsimp only;omega
  ·rw [hu]
   dsimp only [Option.getD_some]
   by_cases hz:u - 1=0
   ·rw [if_pos hz];exact hgb.del
   ·rw [if_neg hz];exact hgb.ins (by omega) (by omega)
 ·have h9:=insE_len a 0 M.alive
  have h8:=h.al
  exact (hm.setG (g:=a) (r:=⟨[],0,0⟩) ⟨ho.a0,he.fj (.inl rfl)⟩ ⟨⟨by decide,by decide⟩,⟨by decide,by dsimp only;omega⟩,by simp,fun p hp=>by cases hp⟩).setA (L:=insE a 0 M.alive) (by omega)
 ·have h9:=delE_len a M.alive
  have h8:=h.al
  exact hm.setA (L:=delE a M.alive) (by omega)
 ·have h9:=he.mc rfl
  have h8:=ho.a0
  exact hm.setC (o:=o) (c:=⟨a,0,0,false⟩) ⟨⟨h8,h9⟩,⟨by dsimp only;omega,by dsimp only;omega⟩,⟨by dsimp only;omega,by dsimp only;omega⟩⟩
 ·have h6:M.askChan ⟨g,10,o,a⟩ r=0:=hask
  unfold CS.askChan at h6
  show Inv (n+1) (match M.chans o with|none=>M|some c=>{ M with chans:=setF M.chans o (some { c with sends:=c.sends+1 }),gs:=if c.room=0 then setF M.gs g (some { r with «to»:=o,as_:=c.sends+1 }) else M.gs })
  cases hq:M.chans o with
  | none=>exact hm
  | some c =>
   have hcb:=h.ch o c hq
   obtain ⟨c1,⟨c2,c3⟩,c4,c5⟩:=hcb
   have ha0:=ho.a0
   dsimp only
   have hc1:Inv (n+1) { M with chans:=setF M.chans o (some { c with sends:=c.sends+1 }) }:=hm.setC ⟨c1,⟨by dsimp only;omega,by dsimp only;omega⟩,⟨by dsimp only;omega,by dsimp only;omega⟩⟩
   by_cases hz:c.room=0
   ·rw [if_pos hz]
    obtain ⟨x1,x3,x4,x5⟩:=hgb
    exact hc1.setG hgr ⟨⟨ho.o0,ho.o1⟩,⟨by dsimp only;omega,by dsimp only;omega⟩,by dsimp only;omega,fun p hp=>by have:=x5 p hp;omega⟩
   ·rw [if_neg hz];exact hc1
 ·obtain ⟨x1,x3,x4,x5⟩:=hgb
  exact hm.setG hgr ⟨⟨by dsimp only;omega,by dsimp only;omega⟩,⟨by dsimp only;omega,by dsimp only;omega⟩,by dsimp only;omega,fun p hp=>by have:=x5 p hp;omega⟩
 ·have h6:M.askChan ⟨g,12,o,a⟩ r=0:=hask
  unfold CS.askChan at h6
  show Inv (n+1) (match M.chans o with|none=>M|some c=>{ M with chans:=setF M.chans o (some { c with recvs:=c.recvs+a }) })
  cases hq:M.chans o with
  | none=>exact hm
  | some c =>
   have hcb:=h.ch o c hq
   obtain ⟨c1,⟨c2,c3⟩,c4,c5⟩:=hcb
   have ha0:=ho.a0
   dsimp only
   have ha1:=he.rc rfl
   exact hm.setC ⟨c1,⟨by dsimp only;omega,by dsimp only;omega⟩,⟨by dsimp only;omega,by dsimp only;omega⟩⟩
 ·have h6:M.askChan ⟨g,13,o,a⟩ r=0:=hask
  unfold CS.askChan at h6
  show Inv (n+1) (match M.chans o with|none=>M|some c=>{ M with chans:=setF M.chans o (some { c with closed:=true }) })
  cases hq:M.chans o with
  | none=>exact hm
  | some c =>
   have hcb:=h.ch o c hq
   obtain ⟨c1,⟨c2,c3⟩,c4,c5⟩:=hcb
   have ha0:=ho.a0
   dsimp only
   exact hm.setC ⟨c1,⟨by dsimp only;omega,by dsimp only;omega⟩,⟨by dsimp only;omega,by dsimp only;omega⟩⟩
 ·have h6:(if M.cnt o+mzag a < 0∨2147483647 < M.cnt o+mzag a then (23:Int) else 0)=0:=hask
  by_cases h5:M.cnt o+mzag a < 0∨2147483647 < M.cnt o+mzag a
  ·rw [if_pos h5] at h6;cases h6
  ·exact hm.setK (o:=o) (v:=M.cnt o+mzag a) (by omega) (by omega)
 ·exact hm
 ·exact hm.setO _
 ·exact hm
 ·exact hm
 ·exact hm
 ·have h9:=insE_len (o+(a - 1)) o M.mem
  have h8:=h.me
  exact hm.setM (L:=insE (o+(a - 1)) o M.mem) (by omega)
 ·have h9:=delE_len (o+(a - 1)) M.mem
  have h8:=h.me
  exact hm.setM (L:=delE (o+(a - 1)) M.mem) (by omega)
 ·exact hm
theorem ite_taken {p:Prop} [Decidable p] (A B:CS):(if p then A else B).taken=if p then A.taken else B.taken:=by split <;> rfl
theorem doo_taken (M:CS) (e:Me) (r:Gor):(M.doo e r).taken=M.taken:=by
 unfold CS.doo
 cases M.chans e.o
 all_goals simp only [ite_taken,ite_self]
theorem next_inv (h:M.inv) (he:Eb g k o a) {r:Gor} (hg:M.gs g=some r) (hask:M.ask ⟨g,k,o,a⟩ r=0):(M.next ⟨g,k,o,a⟩).inv:=by
 have h9:=doo_inv h he hg hask
 unfold CS.next
 dsimp only
 rw [hg]
 dsimp only
 unfold CS.inv CS.tick
 dsimp only
 rw [doo_taken]
 exact ⟨h9.gor,h9.al,h9.lk,h9.ch,h9.ct,h9.me,h9.g0⟩
theorem new_inv:CS.new.inv:=by
 refine ⟨fun g r hg=>?_,by decide,fun o p hp=>(by cases hp),fun o c hc=>(by cases hc),fun o=>⟨by show (0:Int)≤0;decide,by show (0:Int)≤2147483647;decide⟩,by decide,⟨⟨[],0,0⟩,rfl⟩⟩
 have hg':setF (fun _=>none) 0 (some (⟨[],0,0⟩:Gor)) g=some r:=hg
 by_cases e:g=0
 ·subst e
  rw [setF_same] at hg'
  cases hg'
  exact ⟨⟨by decide,by decide⟩,⟨by decide,by decide⟩,⟨by decide,by decide⟩,by simp,fun p hp=>by cases hp⟩
 ·rw [setF_other _ _ e] at hg';cases hg'
end
end Go.Proofs.YtaeehnaicnckgaaGreatDoor
