import Derived.Test.YthgelfdefkbfeaaGreatDoorZu23
set_option maxRecDepth 8000
set_option maxHeartbeats 8000000
set_option linter.unusedVariables false
namespace Go.Proofs.YthgelfdefkbfeaaGreatDoor
def GB (n:Nat) (r:Gor):Prop:=(0≤r.to∧r.to≤18446744073709551615)∧(0≤r.as_∧r.as_≤n)∧r.held.length≤n∧∀ p ∈ r.held,1≤p.2∧p.2≤n
def CB (n:Nat) (c:Chn):Prop:=(0≤c.room∧c.room≤65536)∧(0≤c.sends∧c.sends≤n)∧(0≤c.recvs∧c.recvs≤n)
def LBd (n:Nat) (p:Bool × Int):Prop:=-(n:Int)≤p.2∧p.2≤n
structure Inv (n:Nat) (M:CS):Prop where
 gor:∀ g r,M.gs g=some r→(0≤g∧g≤65535)∧GB n r
 al:M.alive.length≤n+1
 lk:∀ o p,M.locks o=some p→LBd n p
 ch:∀ o c,M.chans o=some c→CB n c
 ct:∀ o,0≤M.cnt o∧M.cnt o≤2147483647
 me:M.mem.length≤n
 g0:∃ r,M.gs 0=some r
def CS.inv (M:CS):Prop:=Inv M.taken M
section
variable {M : CS} {n : Nat} {g k o a : Int}
theorem CS.inv.ok (h:M.inv) (ht:M.taken≤1048576):M.ok:=by
 refine ⟨ht,fun g r hg=>?_,h.al,fun o b m hl=>?_,fun o c hc=>?_,h.ct,h.me⟩
 ·obtain ⟨h1,h2,h3,h4,h5⟩:=h.gor g r hg
  exact ⟨h1,h2,⟨h3.1,by have:=h3.2;omega⟩,h4,fun p hp=>⟨(h5 p hp).1,by have:=(h5 p hp).2;omega⟩⟩
 ·have h9:=h.lk o (b,m) hl
  unfold LBd at h9
  dsimp only at h9
  omega
 ·obtain ⟨h1,h2,h3⟩:=h.ch o c hc
  exact ⟨h1,⟨h2.1,by have:=h2.2;omega⟩,⟨h3.1,by have:=h3.2;omega⟩⟩
theorem GB.mono {m:Nat} {r:Gor} (h:GB n r) (hm:n≤m):GB m r:=by
 obtain ⟨h2,h3,h4,h5⟩:=h
 exact ⟨h2,⟨h3.1,by have:=h3.2;omega⟩,by omega,fun p hp=>⟨(h5 p hp).1,by have:=(h5 p hp).2;omega⟩⟩
theorem Inv.mono {m:Nat} (h:Inv n M) (hm:n≤m):Inv m M:=by
 refine ⟨fun g r hg=>⟨(h.gor g r hg).1,(h.gor g r hg).2.mono hm⟩,by have:=h.al;omega,fun o p hp=>?_,fun o c hc=>?_,h.ct,by have:=h.me;omega,h.g0⟩
 ·have:=h.lk o p hp;unfold LBd at this ⊢;omega
 ·obtain ⟨h1,h2,h3⟩:=h.ch o c hc
  exact ⟨h1,⟨h2.1,by have:=h2.2;omega⟩,⟨h3.1,by have:=h3.2;omega⟩⟩
theorem Inv.setG (h:Inv n M) (hg:0≤g∧g≤65535) {r:Gor} (hr:GB n r):Inv n { M with gs:=setF M.gs g (some r) }:=by
 refine ⟨fun g' r' h'=>?_,h.al,h.lk,h.ch,h.ct,h.me,?_⟩
 ·dsimp only at h'
  by_cases e:g'=g
  ·subst e;rw [setF_same] at h';cases h';exact ⟨hg,hr⟩
  ·rw [setF_other _ _ e] at h';exact h.gor g' r' h'
 ·dsimp only
  by_cases e:(0:Int)=g
  ·subst e;exact ⟨r,setF_same _ _ _⟩
  ·rw [setF_other _ _ e];exact h.g0
theorem Inv.setA (h:Inv n M) {L:List Ent} (hL:L.length≤n+1):Inv n { M with alive:=L }:=⟨h.gor,hL,h.lk,h.ch,h.ct,h.me,h.g0⟩
theorem Inv.setM (h:Inv n M) {L:List Ent} (hL:L.length≤n):Inv n { M with mem:=L }:=⟨h.gor,h.al,h.lk,h.ch,h.ct,hL,h.g0⟩
theorem Inv.setO (h:Inv n M) (f:Int→Bool):Inv n { M with once:=f }:=⟨h.gor,h.al,h.lk,h.ch,h.ct,h.me,h.g0⟩
theorem Inv.setK (h:Inv n M) {v:Int} (h0:0≤v) (h1:v≤2147483647):Inv n { M with cnt:=setF M.cnt o v }:=by
 refine ⟨h.gor,h.al,h.lk,h.ch,fun x=>?_,h.me,h.g0⟩
 dsimp only
 by_cases e:x=o
 ·subst e;rw [setF_same];exact ⟨h0,h1⟩
 ·rw [setF_other _ _ e];exact h.ct x
theorem Inv.setC (h:Inv n M) {c:Chn} (hc:CB n c):Inv n { M with chans:=setF M.chans o (some c) }:=by
 refine ⟨h.gor,h.al,h.lk,fun x c' hx=>?_,h.ct,h.me,h.g0⟩
 dsimp only at hx
 by_cases e:x=o
 ·subst e;rw [setF_same] at hx;cases hx;exact hc
 ·rw [setF_other _ _ e] at hx;exact h.ch x c' hx
theorem Inv.setL (h:Inv n M) {v:Option (Bool × Int)} (hv:∀ p,v=some p→LBd n p):Inv n { M with locks:=setF M.locks o v }:=by
 refine ⟨h.gor,h.al,fun x p hx=>?_,h.ch,h.ct,h.me,h.g0⟩
 dsimp only at hx
 by_cases e:x=o
 ·subst e;rw [setF_same] at hx;exact hv p hx
 ·rw [setF_other _ _ e] at hx;exact h.lk x p hx
theorem GB.ins {r:Gor} (h:GB n r) {v:Int} (h1:1≤v) (h2:v≤(n:Int)+1):GB (n+1) { r with held:=insE o v r.held }:=by
 obtain ⟨x1,x3,x4,x5⟩:=h
 have:=insE_len o v r.held
 refine ⟨x1,⟨x3.1,by have:=x3.2;dsimp only;omega⟩,by dsimp only;omega,fun p hp=>?_⟩
 rcases insE_mem p hp with rfl|hp
 ·dsimp only;omega
 ·have:=x5 p hp;omega
theorem GB.del {r:Gor} (h:GB n r):GB (n+1) { r with held:=delE o r.held }:=by
 obtain ⟨x1,x3,x4,x5⟩:=h
 have:=delE_len o r.held
 refine ⟨x1,⟨x3.1,by have:=x3.2;dsimp only;omega⟩,by dsimp only;omega,fun p hp=>?_⟩
 have:=x5 p ((delE_sub o r.held).subset hp)
 omega
theorem times_bd (h:Inv n M) (o:Int):-(n:Int)≤M.times o∧M.times o≤n:=by
 unfold CS.times
 cases hq:M.locks o with
 | none=>simp
 | some p=>have:=h.lk o p hq;unfold LBd at this;simpa using this
theorem look_bd {r:Gor} (h:GB n r) (o:Int):0≤(look o r.held).getD 0∧(look o r.held).getD 0≤n:=by
 cases hq:look o r.held with
 | none=>simp
 | some u=>have:=h.2.2.2 _ (look_mem hq);simp at this ⊢;omega
theorem doo_inv (h:Inv n M) (he:Eb g k o a) {r:Gor} (hg:M.gs g=some r) (hask:M.ask ⟨g,k,o,a⟩ r=0):Inv (n+1) (M.doo ⟨g,k,o,a⟩ r):=by
 have hm:=h.mono (Nat.le_succ n)
 have hgb:=(h.gor g r hg).2
 have hgr:=(h.gor g r hg).1
 have htm:=times_bd h o
 have hlb:=look_bd hgb o
 have ho:=he.ok
 rcases kcases he.k1 he.k2 with rfl|rfl|rfl|rfl|rfl|rfl|rfl|rfl|rfl|rfl|rfl|rfl|rfl|rfl|rfl|rfl|rfl|rfl|rfl|rfl|rfl|rfl
 ·exact hm
 ·exact hm
 ·exact (hm.setL (o:=o) (fun p hp=>by cases hp;unfold LBd;dsimp only;omega)).setG hgr (hgb.ins (by omega) (by omega))
 ·exact (hm.setL (o:=o) (fun p hp=>by cases hp)).setG hgr hgb.del
 ·exact (hm.setL (o:=o) (fun p hp=>by cases hp;unfold LBd;dsimp only;omega)).setG hgr (hgb.ins (o:=o) (v:=(look o r.held).getD 0+1) (by omega) (by omega))
 ·have h4:has o r.held=true:=by
   by_cases h5:has o r.held=true
   ·exact h5
   ·have h6:M.ask ⟨g,6,o,a⟩ r=7:=by
     show (if M.toWrite o=true then (7:Int) else if has o r.held=true then 0 else 7)=7
     rw [if_neg h5]
     split <;> rfl
    rw [h6] at hask;cases hask
  obtain ⟨u,hu⟩:=has_look h4
  have hu1:=hgb.2.2.2 _ (look_mem hu)
  dsimp only at hu1
  refine Inv.setG (M:={ M with locks:=rdLocks M o (M.times o - 1) }) (hm.setL (o:=o) (fun p hp=>?_)) hgr ?_
  ·by_cases hz:M.times o - 1=0
   ·rw [if_pos hz] at hp;cases hp
   ·rw [if_neg hz] at hp;cases hp;unfold LBd;dsimp only;omega
  ·rw [hu]
   dsimp only [Option.getD_some]
   by_cases hz:u - 1=0
   ·rw [if_pos hz];exact hgb.del
   ·rw [if_neg hz];exact hgb.ins (by omega) (by omega)
 ·have h9:=insE_len a 0 M.alive
  have h8:=h.al
  exact (hm.setG (g:=a) (r:=⟨[],0,0⟩) ⟨ho.a0,he.fj (.inl rfl)⟩ ⟨⟨by decide,by decide⟩,⟨by decide,by dsimp only;omega⟩,by simp,fun p hp=>by cases hp⟩).setA (L:=insE a 0 M.alive) (by omega)
 ·have h9:=delE_len a M.alive
  have h8:=h.al
  exact hm.setA (L:=delE a M.alive) (by omega)
 ·have h9:=he.mc rfl
  have h8:=ho.a0
  exact hm.setC (o:=o) (c:=⟨a,0,0,false⟩) ⟨⟨h8,h9⟩,⟨by dsimp only;omega,by dsimp only;omega⟩,⟨by dsimp only;omega,by dsimp only;omega⟩⟩
 ·have h6:M.askChan ⟨g,10,o,a⟩ r=0:=hask
  unfold CS.askChan at h6
  show Inv (n+1) (match M.chans o with|none=>M|some c=>{ M with chans:=setF M.chans o (some { c with sends:=c.sends+1 }),gs:=if c.room=0 then setF M.gs g (some { r with «to»:=o,as_:=c.sends+1 }) else M.gs })
  cases hq:M.chans o with
  | none=>exact hm
  | some c =>
   have hcb:=h.ch o c hq
   obtain ⟨c1,⟨c2,c3⟩,c4,c5⟩:=hcb
   have ha0:=ho.a0
   dsimp only
   have hc1:Inv (n+1) { M with chans:=setF M.chans o (some { c with sends:=c.sends+1 }) }:=hm.setC ⟨c1,⟨by dsimp only;omega,by dsimp only;omega⟩,⟨by dsimp only;omega,by dsimp only;omega⟩⟩
   by_cases hz:c.room=0
   ·rw [if_pos hz]
    obtain ⟨x1,x3,x4,x5⟩:=hgb
    exact hc1.setG hgr ⟨⟨ho.o0,ho.o1⟩,⟨by dsimp only;omega,by dsimp only;omega⟩,by dsimp only;omega,fun p hp=>by have:=x5 p hp;omega⟩
   ·rw [if_neg hz];exact hc1
 ·obtain ⟨x1,x3,x4,x5⟩:=hgb
  exact hm.setG hgr ⟨⟨by dsimp only;omega,by dsimp only;omega⟩,⟨by dsimp only;omega,by dsimp only;omega⟩,by dsimp only;omega,fun p hp=>by have:=x5 p hp;omega⟩
 ·have h6:M.askChan ⟨g,12,o,a⟩ r=0:=hask
  unfold CS.askChan at h6
  show Inv (n+1) (match M.chans o with|none=>M|some c=>{ M with chans:=setF M.chans o (some { c with recvs:=c.recvs+a }) })
  cases hq:M.chans o with
  | none=>exact hm
  | some c =>
   have hcb:=h.ch o c hq
   obtain ⟨c1,⟨c2,c3⟩,c4,c5⟩:=hcb
   have ha0:=ho.a0
   dsimp only
   have ha1:=he.rc rfl
   exact hm.setC ⟨c1,⟨by dsimp only;omega,by dsimp only;omega⟩,⟨by dsimp only;omega,by dsimp only;omega⟩⟩
 ·have h6:M.askChan ⟨g,13,o,a⟩ r=0:=hask
  unfold CS.askChan at h6
  show Inv (n+1) (match M.chans o with|none=>M|some c=>{ M with chans:=setF M.chans o (some { c with closed:=true }) })
  cases hq:M.chans o with
  | none=>exact hm
  | some c =>
   have hcb:=h.ch o c hq
   obtain ⟨c1,⟨c2,c3⟩,c4,c5⟩:=hcb
   have ha0:=ho.a0
   dsimp only
   exact hm.setC ⟨c1,⟨by dsimp only;omega,by dsimp only;omega⟩,⟨by dsimp only;omega,by dsimp only;omega⟩⟩
 ·have h6:(if M.cnt o+mzag a < 0∨2147483647 < M.cnt o+mzag a then (23:Int) else 0)=0:=hask
  by_cases h5:M.cnt o+mzag a < 0∨2147483647 < M.cnt o+mzag a
  ·rw [if_pos h5] at h6;cases h6
  ·exact hm.setK (o:=o) (v:=M.cnt o+mzag a) (by omega) (by omega)
 ·exact hm
 ·exact hm.setO _
 ·exact hm
 ·exact hm
 ·exact hm
 ·have h9:=insE_len (o+(a - 1)) o M.mem
  have h8:=h.me
  exact hm.setM (L:=insE (o+(a - 1)) o M.mem) (by omega)
 ·have h9:=delE_len (o+(a - 1)) M.mem
  have h8:=h.me
  exact hm.setM (L:=delE (o+(a - 1)) M.mem) (by omega)
 ·exact hm
theorem ite_taken {p:Prop} [Decidable p] (A B:CS):(if p then A else B).taken=if p then A.taken else B.taken:=by split <;> rfl
theorem doo_taken (M:CS) (e:Me) (r:Gor):(M.doo e r).taken=M.taken:=by
 unfold CS.doo
 cases M.chans e.o
 all_goals simp only [ite_taken,ite_self]
theorem next_inv (h:M.inv) (he:Eb g k o a) {r:Gor} (hg:M.gs g=some r) (hask:M.ask ⟨g,k,o,a⟩ r=0):(M.next ⟨g,k,o,a⟩).inv:=by
 have h9:=doo_inv h he hg hask
 unfold CS.next
 dsimp only
 rw [hg]
 dsimp only
 unfold CS.inv CS.tick
 dsimp only
 rw [doo_taken]
 exact ⟨h9.gor,h9.al,h9.lk,h9.ch,h9.ct,h9.me,h9.g0⟩
theorem new_inv:CS.new.inv:=by
 refine ⟨fun g r hg=>?_,by decide,fun o p hp=>(by cases hp),fun o c hc=>(by cases hc),fun o=>⟨by show (0:Int)≤0;decide,by show (0:Int)≤2147483647;decide⟩,by decide,⟨⟨[],0,0⟩,rfl⟩⟩
 have hg':setF (fun _=>none) 0 (some (⟨[],0,0⟩:Gor)) g=some r:=hg
 by_cases e:g=0
 ·subst e
  rw [setF_same] at hg'
  cases hg'
  exact ⟨⟨by decide,by decide⟩,⟨by decide,by decide⟩,⟨by decide,by decide⟩,by simp,fun p hp=>by cases hp⟩
 ·rw [setF_other _ _ e] at hg';cases hg'
end
end Go.Proofs.YthgelfdefkbfeaaGreatDoor
namespace Go.Proofs.YthgelfdefkbfeaaGreatDoor
open Go.RowKit Go.Maps
section
variable {w w' : World} {cb : Nat} {B : Bl} {F : Nat → Option Lb} {M : CS} {N : Nat} {g k o a : Int} {s : Value}
def CS.addE (M:CS) (c:Int):Int:=if c≠0 then c else if M.taken=1048576 then 3 else 0
def CS.addY (M:CS) (c:Int) (e:Me):Int:=if c≠0 then 0 else if M.taken=1048576 then 0 else M.why e
def CS.addS (M:CS) (c:Int) (e:Me):CS:=if c≠0 then M else if M.taken=1048576 then M else if M.why e≠0 then M else M.next e
theorem run_enter {f : FuncId} {fn : Func} {c : Code} (hf : Tryz.prog.funcs[f]? = some fn) (hname : (fn.name == "runtime.NumGoroutine") = false) (hb : fn.body = some c) (args : Array Value) (w : World) :
  (callFunc f args).run Tryz.prog w=.ok (.enter f args) w:=by
 have h1 : fn.name ≠ "runtime.NumGoroutine" := by simpa using hname
 simp [callFunc,hf,h1,hb]
theorem asks_enter (h1:1≤k) (h2:k≤22) (args:Array Value) (w:World):(callFunc (asksOf k) args).run Tryz.prog w=.ok (.enter (asksOf k) args) w:=by
 rcases kcases h1 h2 with rfl|rfl|rfl|rfl|rfl|rfl|rfl|rfl|rfl|rfl|rfl|rfl|rfl|rfl|rfl|rfl|rfl|rfl|rfl|rfl|rfl|rfl
 ·exact run_enter Tryz.func66 (by kernel_rfl) rfl args w
 ·exact run_enter Tryz.func66 (by kernel_rfl) rfl args w
 ·exact run_enter Tryz.func68 (by kernel_rfl) rfl args w
 ·exact run_enter Tryz.func70 (by kernel_rfl) rfl args w
 ·exact run_enter Tryz.func72 (by kernel_rfl) rfl args w
 ·exact run_enter Tryz.func74 (by kernel_rfl) rfl args w
 ·exact run_enter Tryz.func76 (by kernel_rfl) rfl args w
 ·exact run_enter Tryz.func78 (by kernel_rfl) rfl args w
 ·exact run_enter Tryz.func80 (by kernel_rfl) rfl args w
 ·exact run_enter Tryz.func82 (by kernel_rfl) rfl args w
 ·exact run_enter Tryz.func84 (by kernel_rfl) rfl args w
 ·exact run_enter Tryz.func86 (by kernel_rfl) rfl args w
 ·exact run_enter Tryz.func88 (by kernel_rfl) rfl args w
 ·exact run_enter Tryz.func90 (by kernel_rfl) rfl args w
 ·exact run_enter Tryz.func92 (by kernel_rfl) rfl args w
 ·exact run_enter Tryz.func93 (by kernel_rfl) rfl args w
 ·exact run_enter Tryz.func66 (by kernel_rfl) rfl args w
 ·exact run_enter Tryz.func66 (by kernel_rfl) rfl args w
 ·exact run_enter Tryz.func66 (by kernel_rfl) rfl args w
 ·exact run_enter Tryz.func95 (by kernel_rfl) rfl args w
 ·exact run_enter Tryz.func97 (by kernel_rfl) rfl args w
 ·exact run_enter Tryz.func66 (by kernel_rfl) rfl args w
theorem does_enter (h1:1≤k) (h2:k≤22) (args:Array Value) (w:World):(callFunc (doesOf k) args).run Tryz.prog w=.ok (.enter (doesOf k) args) w:=by
 rcases kcases h1 h2 with rfl|rfl|rfl|rfl|rfl|rfl|rfl|rfl|rfl|rfl|rfl|rfl|rfl|rfl|rfl|rfl|rfl|rfl|rfl|rfl|rfl|rfl
 ·exact run_enter Tryz.func67 (by kernel_rfl) rfl args w
 ·exact run_enter Tryz.func67 (by kernel_rfl) rfl args w
 ·exact run_enter Tryz.func69 (by kernel_rfl) rfl args w
 ·exact run_enter Tryz.func71 (by kernel_rfl) rfl args w
 ·exact run_enter Tryz.func73 (by kernel_rfl) rfl args w
 ·exact run_enter Tryz.func75 (by kernel_rfl) rfl args w
 ·exact run_enter Tryz.func77 (by kernel_rfl) rfl args w
 ·exact run_enter Tryz.func79 (by kernel_rfl) rfl args w
 ·exact run_enter Tryz.func81 (by kernel_rfl) rfl args w
 ·exact run_enter Tryz.func83 (by kernel_rfl) rfl args w
 ·exact run_enter Tryz.func85 (by kernel_rfl) rfl args w
 ·exact run_enter Tryz.func87 (by kernel_rfl) rfl args w
 ·exact run_enter Tryz.func89 (by kernel_rfl) rfl args w
 ·exact run_enter Tryz.func91 (by kernel_rfl) rfl args w
 ·exact run_enter Tryz.func67 (by kernel_rfl) rfl args w
 ·exact run_enter Tryz.func94 (by kernel_rfl) rfl args w
 ·exact run_enter Tryz.func67 (by kernel_rfl) rfl args w
 ·exact run_enter Tryz.func67 (by kernel_rfl) rfl args w
 ·exact run_enter Tryz.func67 (by kernel_rfl) rfl args w
 ·exact run_enter Tryz.func96 (by kernel_rfl) rfl args w
 ·exact run_enter Tryz.func98 (by kernel_rfl) rfl args w
 ·exact run_enter Tryz.func67 (by kernel_rfl) rfl args w
theorem add_bad {c:Int} (h:c≠0) (e:Me):M.addY c e=0∧M.addE c=c∧M.addS c e=M:=⟨if_pos h,if_pos h,if_pos h⟩
theorem add_full (h:M.taken=1048576) (e:Me):M.addY 0 e=0∧M.addE 0=3∧M.addS 0 e=M:=by
 unfold CS.addY CS.addE CS.addS
 have h0:¬ ((0:Int)≠0):=fun e=>e rfl
 rw [if_neg h0,if_neg h0,if_neg h0,if_pos h,if_pos h,if_pos h]
 exact ⟨rfl,rfl,rfl⟩
theorem add_why (h:¬ M.taken=1048576) (e:Me):M.addY 0 e=M.why e∧M.addE 0=0∧M.addS 0 e=if M.why e≠0 then M else M.next e:=by
 unfold CS.addY CS.addE CS.addS
 have h0:¬ ((0:Int)≠0):=fun e=>e rfl
 rw [if_neg h0,if_neg h0,if_neg h0,if_neg h,if_neg h,if_neg h]
 exact ⟨rfl,rfl,rfl⟩
theorem Add_any {sa:Option Addr} {sn sc:Nat} {ls:List ByteArray} (h:Ck w cb B F M (M.taken+1)) (hi:M.inv) (ht:M.taken≤1048576) (hK:E6.Kr w) (hs:E6.SRow w sa sn ls) (hn:(sn:Int)≤9223372036854775806) (o0:0≤o) (o1:o≤18446744073709551615) (a0:0≤a) (a1:a≤18446744073709551615) :
  Calls Tryz.prog 30 #[gPtr cb,.agg (evC g k o a (.slice sa sn sc))] w fun e w'=>e=.returned (.tuple #[.int .i64 (M.addY (E6.chk g k o a ls) ⟨g,k,o,a⟩),.int .i64 (M.addE (E6.chk g k o a ls))])∧CkR w cb F (M.addS (E6.chk g k o a ls) ⟨g,k,o,a⟩) ((M.addS (E6.chk g k o a ls) ⟨g,k,o,a⟩).taken+1) w':=by
 obtain ⟨W,hW⟩:∃ W,W=w.alloc (.cells (evC g k o a (.slice sa sn sc)) 43):=⟨_,rfl⟩
 have hb:Below w.heap.size w W:=by rw [hW];exact below_alloc1 w _
 have hC:=h.below hb
 have hE:W.heap[w.heap.size]?=some (.cells (evC g k o a (.slice sa sn sc)) 43 (0,0)):=by rw [hW];exact heap_new _ _
 obtain ⟨p0,p1,p2,p3,p4⟩:=evc0 hE
 obtain ⟨r0,hg0⟩:=hi.g0
 have hsz:=hK.size
 have HMi:=hide (missing_any hC hg0)
 have HCh:=hide (E6.check_any g k o a sa sn sc ls W (hK.below hb (by omega)) (hs.bel hb) hn)
 have HB:=hide hb
 have HW:=hide hW
 have HC:=hide hC
 have HE:=hide hE
 have HI:=hide hi
 have HT:=hide ht
 have hFe:F w.heap.size=none:=by
  cases hq:F w.heap.size with
  | none=>rfl
  | some l=>have:=h.lt _ _ hq;omega
 have HFe:=hide hFe
 have hlt:=h.clt
 have hltW:cb < W.heap.size:=hC.clt
 have hleW:w.heap.size < W.heap.size:=(Array.getElem?_eq_some_iff.1 hE).1
 have HEb:Hid (E6.chk g k o a ls=0→Eb g k o a):=hide (fun e=>chk_eb e o0 o1 a0 a1)
 obtain ⟨c,hc⟩:∃ c,c=E6.chk g k o a ls:=⟨_,rfl⟩
 rw [← hc] at HCh HEb ⊢
 obtain ⟨Y,hY⟩:∃ Y,Y=M.addY c ⟨g,k,o,a⟩:=⟨_,rfl⟩
 obtain ⟨E,hE9⟩:∃ E,E=M.addE c:=⟨_,rfl⟩
 obtain ⟨S,hS⟩:∃ S,S=M.addS c ⟨g,k,o,a⟩:=⟨_,rfl⟩
 rw [← hY,← hE9,← hS]
 have HY:=hide hY
 have HEE:=hide hE9
 have HS:=hide hS
 unfold gPtr at HMi
 clear h hb hW hC hE hi ht hK hs hn o0 o1 a0 a1 hc hY hE9 hS hFe hg0 hsz
 unfold gPtr evC
 unfold evC at HW
 go_enter Tryz.func30,Tryz.ntmps30
 go_wp2_with fail
 rw [← HW.out]
 clear HW
 refine HMi.out.mono ?_
 rintro e w9 ⟨rfl,rfl⟩
 go_wp2_with fail
 refine HCh.out.mono ?_
 rintro e w1 ⟨rfl,hb1⟩
 have HB1:=hide (Below.on HB.out hb1)
 have HC1:=hide (HC.out.below hb1)
 have hE1:=(hb1.block _ hleW).trans HE.out
 obtain ⟨q0,q1,q2,q3,q4⟩:=evc0 hE1
 have HE1:=hide hE1
 have hl1:cb < w1.heap.size:=HC1.out.clt
 have hle1:w.heap.size < w1.heap.size:=(Array.getElem?_eq_some_iff.1 hE1).1
 have t0:=HC1.out.c0
 clear hb1 hE1 HMi HCh p0 p1 p2 p3 p4
 by_cases hc:c=0
 ·have HCc:=hide hc
  subst hc
  by_cases htk:M.taken=1048576
  ·have htb:((M.taken:Int) == 1048576)=true:=by rw [beq_iff_eq];omega
   have HTk:=hide htk
   clear htk
   go_wp2
   go_ret2
   obtain ⟨z1,z2,z3⟩:=add_full HTk.out ⟨g,k,o,a⟩
   rw [HY.out,HEE.out,HS.out,z1,z2,z3]
   exact ⟨rfl,CkR.below HB1.out (CkR.of HC1.out)⟩
  ·have htb:((M.taken:Int) == 1048576)=false:=by rw [beq_eq_false_iff_ne];omega
   have HTk:=hide htk
   clear htk
   have HEb1:=hide (HEb.out rfl)
   have HAct:=hide (mayAct_any (k:=k) (s:=.slice sa sn sc) HC1.out HEb1.out.ok)
   unfold evC gPtr at HAct
   have hact:∃ A,A=M.act ⟨g,k,o,a⟩:=⟨_,rfl⟩
   obtain ⟨A,hA⟩:=hact
   have HAct2:Hid (Calls Tryz.prog 46 #[.pointer (some ⟨cb,0,none⟩),.agg #[.int .i64 g,.int .i64 k,.int .u64 o,.int .u64 a,.slice sa sn sc]] w1 fun e w'=>e=.returned (.int .i64 A)∧Below w1.heap.size w1 w'):=hide (by rw [hA];exact HAct.out)
   have HA:=hide hA
   clear hA HAct
   go_wp2_with fail
   refine HAct2.out.mono ?_
   rintro e w2 ⟨rfl,hb2⟩
   have HB2:=hide (Below.on HB1.out hb2)
   have HC2:=hide (HC1.out.below hb2)
   have hE2:=(hb2.block _ hle1).trans HE1.out
   obtain ⟨s0,s1,s2,s3,s4⟩:=evc0 hE2
   have HE2:=hide hE2
   have hl2:cb < w2.heap.size:=HC2.out.clt
   have hle2:w.heap.size < w2.heap.size:=(Array.getElem?_eq_some_iff.1 hE2).1
   clear hb2 hE2 HAct2 q0 q1 q2 q3 q4
   by_cases hA0:A=0
   ·subst hA0
    obtain ⟨r,hg⟩:∃ r,M.gs g=some r:=by
     cases hq:M.gs g with
     | some r=>exact ⟨r,rfl⟩
     | none=>have h9:=HA.out;unfold CS.act at h9;dsimp only at h9;rw [hq] at h9;cases h9
    have HG:=hide hg
    have HRu:=hide (ruleOf_any (w:=w2) HEb1.out.k1 HEb1.out.k2)
    obtain ⟨fa,hfa⟩:∃ fa,fa=asksOf k:=⟨_,rfl⟩
    obtain ⟨fd,hfd⟩:∃ fd,fd=doesOf k:=⟨_,rfl⟩
    rw [← hfa,← hfd] at HRu
    have HFa:=hide hfa
    have HFd:=hide hfd
    clear hfa hfd hg
    go_wp2_with fail
    refine HRu.out.mono ?_
    rintro e w3 ⟨rfl,hb3⟩
    have HB3:=hide (Below.on HB2.out hb3)
    have HC3:=hide (HC2.out.below hb3)
    have hE3:=(hb3.block _ hle2).trans HE2.out
    have HE3:=hide hE3
    have hl3:cb < w3.heap.size:=HC3.out.clt
    have hle3:w.heap.size < w3.heap.size:=(Array.getElem?_eq_some_iff.1 hE3).1
    clear hb3 hE3 HRu s0 s1 s2 s3 s4
    obtain ⟨w4,hw4⟩:∃ w4,w4=w3.alloc (.cells #[.func (.func fa) #[] #[],.func (.func fd) #[] #[]] 86):=⟨_,rfl⟩
    have hb4:Below w3.heap.size w3 w4:=by rw [hw4];exact below_alloc1 w3 _
    have HB4:=hide (Below.on HB3.out hb4)
    have HC4:=hide (HC3.out.below hb4)
    have hE4:=(hb4.block _ hle3).trans HE3.out
    have HE4:=hide hE4
    obtain ⟨s0,s1,s2,s3,s4⟩:=evc0 hE4
    have hR4:w4.heap[w3.heap.size]?=some (.cells #[.func (.func fa) #[] #[],.func (.func fd) #[] #[]] 86 (0,0)):=by rw [hw4];exact heap_new _ _
    have HR4:=hide hR4
    have u0:w4.cell? ⟨w3.heap.size,0,none⟩=some (.func (.func fa) #[] #[]):=cell_at hR4 rfl
    have u1:w4.cell? ⟨w3.heap.size,1,none⟩=some (.func (.func fd) #[] #[]):=cell_at hR4 rfl
    have hl4:cb < w4.heap.size:=HC4.out.clt
    have hle4:w.heap.size < w4.heap.size:=(Array.getElem?_eq_some_iff.1 hE4).1
    have hlr4:w3.heap.size < w4.heap.size:=(Array.getElem?_eq_some_iff.1 hR4).1
    have HSr:Hid ((w3.alloc (.cells #[.nilFunc,.nilFunc] 86)).setRow w3.heap.size #[.func (.func fa) #[] #[],.func (.func fd) #[] #[]]=w4):=hide (by rw [hw4];exact World.setRow_alloc_new _ _ _ _)
    have hfr:F w3.heap.size=none:=by
     cases hq:F w3.heap.size with
     | none=>rfl
     | some l=>have:=HC3.out.lt _ _ hq;omega
    have HFr:=hide hfr
    clear hb4 hE4 hR4 hw4 hfr
    go_wp2_with (refine wpList_store_row rfl 86 (.tmp 8) (.tmp 30) rfl w3.heap.size #[.func (.func fa) #[] #[],.func (.func fd) #[] #[]] rfl rfl 86 #[.nilFunc,.nilFunc] (heap_new _ _) infoR1 rfl (fn_one _ _) ?_;rw [HSr.out])
    have HAsk:=hide (ask_any (s:=.slice sa sn sc) HC4.out HEb1.out (HI.out.ok HT.out) HG.out)
    unfold evC gPtr at HAsk
    obtain ⟨R,hR⟩:∃ R,R=M.ask ⟨g,k,o,a⟩ r:=⟨_,rfl⟩
    rw [← hR] at HAsk
    have HR:=hide hR
    clear hR
    rw [HFa.out,asks_enter HEb1.out.k1 HEb1.out.k2]
    go_simp
    refine HAsk.out.mono ?_
    rintro e w5 ⟨rfl,hb5⟩
    have HB5:=hide (Below.on HB4.out hb5)
    have HC5:=hide (HC4.out.below hb5)
    have hE5:=(hb5.block _ hle4).trans HE4.out
    have HE5:=hide hE5
    have hR5:=(hb5.block _ hlr4).trans HR4.out
    have v1:w5.cell? ⟨w3.heap.size,1,none⟩=some (.func (.func fd) #[] #[]):=cell_at hR5 rfl
    obtain ⟨x0,x1,x2,x3,x4⟩:=evc0 hE5
    have hl5:cb < w5.heap.size:=HC5.out.clt
    have hle5:w.heap.size < w5.heap.size:=(Array.getElem?_eq_some_iff.1 hE5).1
    have hlr5:w3.heap.size < w5.heap.size:=(Array.getElem?_eq_some_iff.1 hR5).1
    clear hb5 hE5 hR5 HAsk s0 s1 s2 s3 s4 u0 u1
    by_cases hR0:R=0
    ·subst hR0
     have HDo:=hide (does_any (s:=.slice sa sn sc) HC5.out (by have:=HT.out;omega) HEb1.out (HI.out.ok HT.out) HG.out HR.out.symm)
     unfold evC gPtr at HDo
     go_wp2_with fail
     rw [HFd.out,does_enter HEb1.out.k1 HEb1.out.k2]
     go_simp
     refine HDo.out.mono ?_
     rintro e w7 ⟨rfl,hr⟩
     obtain ⟨B7,F7,k1,k2,k3⟩:=hr
     have hb7:=k1.blk nf
     rw [doo_taken] at hb7
     have d0:w7.cell? ⟨cb,0,none⟩=some (.int .i64 (M.taken:Int)):=cell_at hb7 rfl
     have f0:w7.frozen? ⟨cb,0,none⟩=false:=frz hb7 0
     have hl7:cb < w7.heap.size:=k1.clt
     have HK1:=hide k1
     have HK2:=hide k2
     have HK3:=hide k3
     have HB7:=hide hb7
     have ht7:(M.taken:Int)≤1048576:=by have:=HT.out;omega
     clear k1 k2 k3 hb7 HDo
     go_wp2
     go_ret2
     obtain ⟨j1,j2⟩:=HK1.out.setT (w':=w7.setCell ⟨cb,0,none⟩ (.int .i64 ((M.taken:Int)+1))) (M.taken+1) (set1_heap _ HB7.out) ((But.refl (fun k=>k=cb) w7).setCell _ (fun _=>rfl) _)
     have hwhy:M.why ⟨g,k,o,a⟩=0:=by
      unfold CS.why
      dsimp only
      rw [HG.out]
      dsimp only
      rw [← HA.out,if_neg (fun e=>e rfl)]
      exact HR.out.symm
     obtain ⟨z1,z2,z3⟩:=add_why HTk.out ⟨g,k,o,a⟩
     rw [hwhy] at z1 z3
     rw [if_neg (fun e=>e rfl)] at z3
     have hnx:M.next ⟨g,k,o,a⟩={ M.doo ⟨g,k,o,a⟩ r with taken:=M.taken+1 }:=by
      unfold CS.next CS.tick
      dsimp only
      rw [HG.out]
      dsimp only
      rw [doo_taken]
     rw [HY.out,HEE.out,HS.out,z1,z2,z3,hnx]
     exact ⟨rfl,CkR.below HB5.out (CkR.trans HK2.out HK3.out ⟨_,_,j1,FEx.refl _ _,j2⟩)⟩
    ·have hRn:(R != 0)=true:=by rw [bne_iff_ne];exact hR0
     have HR0:=hide hR0
     clear hR0
     go_wp2
     go_ret2
     have hwhy:M.why ⟨g,k,o,a⟩=R:=by
      unfold CS.why
      dsimp only
      rw [HG.out]
      dsimp only
      rw [← HA.out,if_neg (fun e=>e rfl)]
      exact HR.out.symm
     obtain ⟨z1,z2,z3⟩:=add_why HTk.out ⟨g,k,o,a⟩
     rw [hwhy] at z1 z3
     rw [if_pos HR0.out] at z3
     rw [HY.out,HEE.out,HS.out,z1,z2,z3]
     exact ⟨rfl,CkR.below HB5.out (CkR.of HC5.out)⟩
   ·have hAb:(A == 0)=false:=by rw [beq_eq_false_iff_ne];exact hA0
    have hAn:(A != 0)=true:=by rw [bne_iff_ne];exact hA0
    have HA0:=hide hA0
    clear hA0
    go_wp2
    go_ret2
    have hwhy:M.why ⟨g,k,o,a⟩=A:=by
     rw [HA.out]
     unfold CS.why
     dsimp only
     cases hq:M.gs g with
     | none=>unfold CS.act;dsimp only;rw [hq]
     | some r=>dsimp only;rw [if_pos (by rw [← HA.out];exact HA0.out)]
    obtain ⟨z1,z2,z3⟩:=add_why HTk.out ⟨g,k,o,a⟩
    rw [hwhy] at z1 z3
    rw [if_pos HA0.out] at z3
    rw [HY.out,HEE.out,HS.out,z1,z2,z3]
    exact ⟨rfl,CkR.below HB2.out (CkR.of HC2.out)⟩
 ·have hcn:(c != 0)=true:=by rw [bne_iff_ne];exact hc
  have HCc:=hide hc
  clear hc
  go_wp2
  go_ret2
  obtain ⟨z1,z2,z3⟩:=add_bad (M:=M) HCc.out ⟨g,k,o,a⟩
  rw [HY.out,HEE.out,HS.out,z1,z2,z3]
  exact ⟨rfl,CkR.below HB1.out (CkR.of HC1.out)⟩
end
end Go.Proofs.YthgelfdefkbfeaaGreatDoor
