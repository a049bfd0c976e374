import Derived.Test.YtnfcemohjaiipaaGreatDoorZm26
set_option maxRecDepth 8000
set_option maxHeartbeats 8000000
set_option linter.unusedVariables false
namespace Go.Proofs.YtnfcemohjaiipaaGreatDoor
open Go.RowKit Go.Maps
structure KR (L:LF) (w w':World) (s o:Int) (P:LF→Prop):Prop where
 ex:∃ L',LEx L L' w∧Llt L' w'∧(∀ k l,w.heap.size≤k→L' k=some l→l.of s o)∧P L'
 bt:But (fun k=>∃ l,L k=some l∧l.of s o) w w'
section
variable {pl : Nat → Int → Int} {L L' : LF} {w W wm w' : World} {v u : Value} {S : Nat → Prop} {f : Int → Option Value} {r : Nat → Option Clk} {o s : Int} {m N N' ob g : Nat} {q q' : ChF} {rv cv sv ev cv' sv' ev' kv : Value} {xs ys xs' ys' : List Value} {P : LF → Prop} {c : Clk} {V : Vw} {em : List Clk} {fr : Int}
theorem KR.below (hW:Below w.heap.size w W) (hl:Llt L w) (h:KR L W w' s o P):KR L w w' s o P:=by
 obtain ⟨L',h1,h2,h3,h4⟩:=h.ex
 refine ⟨⟨L',fun k hk=>h1 k (Nat.lt_of_lt_of_le hk hW.size),h2,fun k l hk he=>?_,h4⟩,(But.of_below hW).trans h.bt (fun _ _ e=>e)⟩
 by_cases hq:W.heap.size≤k
 ·exact h3 k l hq he
 ·have:=h1 k (by omega)
  rw [he] at this
  have:=hl k l this.symm
  omega
theorem but_lab (hb:But S w w') (hS:∀ k,S k→k < w.heap.size→∃ l,L k=some l∧l.of s o):But (fun k=>∃ l,L k=some l∧l.of s o) w w' :=
 ⟨hb.os,hb.tape,hb.output,hb.size,fun k hk hn=>hb.block k hk (fun e=>hn (hS k e hk))⟩
theorem KR.same (hl:Llt L w) (hb:But S w w') (hS:∀ k,S k→k < w.heap.size→∃ l,L k=some l∧l.of s o) (hP:P L):KR L w w' s o P:=by
 refine ⟨⟨L,LEx.refl _ _,hl.on hb.size,fun k l hk he=>?_,hP⟩,but_lab hb hS⟩
 have:=hl k l he;omega
def labB (L:LF) (v:Value) (l:Lf):LF:=fun k=>if v.ownBlock=some k then some l else L k
theorem ch_put (hl:Llt L w) (h:ChX pl L w ob o N q sv ev rv cv xs ys) (hb:But (fun j=>j=ob) w w') (hh:w'.heap[ob]?=some (.cells #[.int .u64 q'.free,sv',ev',rv,cv'] 231 (0,0))) (f0:0≤q'.free) (f1:q'.free≤18446744073709551615)
  (hs:Win w 2 sv' q'.sent.length xs') (hso:∀ k,sv'.ownBlock=some k→L k=some (.sn o)) (hsl:SL pl L w q'.sent xs') (hsn:q'.sent.length≤N')
  (he:Win w 1 ev' q'.emp.length ys') (heo:∀ k,ev'.ownBlock=some k→L k=some (.em o)) (hel:EL pl L w q'.emp ys') (hen:q'.emp.length≤N')
  (hu:q'.unb=q.unb) (hr:q'.rcv=q.rcv) (hcv:CvM pl L w' q'.clo cv') (hN:N≤N'):KR L w w' 2 o (fun L'=>ChM pl L' w' ob o N' q'):=by
 have hS:∀ k,k=ob→k < w.heap.size→L k≠none:=fun k e _=>by rw [e,h.lb];exact fun e=>by cases e
 have no:∀ k l,L k=some l→l≠.ob 2 o→¬ k=ob:=fun k l hk hne e=>by rw [e,h.lb] at hk;exact hne (Option.some.inj hk).symm
 refine KR.same hl hb (fun k e _=>⟨.ob 2 o,by rw [e];exact h.lb,rfl,rfl⟩) ⟨sv',ev',rv,cv',xs',ys',h.lb,hh,f0,f1,hs.but hb (fun k hk=>no k _ (hso k hk) (by simp)),hso,SL.but hb hS (LEx.refl _ _) hsl,hsn,he.but hb (fun k hk=>no k _ (heo k hk) (by simp)),heo,EL.but hb hS (LEx.refl _ _) hel,hen,?_,hcv⟩
 have h9:=h.rc.but hb hS (fun k e hk=>no k _ hk (by simp) e) (LEx.refl _ _) hl hN
 unfold RcV at h9 ⊢
 rw [hu,hr];exact h9
theorem Win.size0 {g off:Nat} (hg:g < w.heap.size) (size:Nat):Win w size (.slice (some ⟨g,off,none⟩) 0 0) 0 []:=⟨by simp,.inr ⟨g,off,0,rfl,Nat.le_refl _,hg,fun j u hj=>(by simp at hj),fun j hj=>(by simp at hj)⟩⟩
theorem Win.lt {size n:Nat} (h:Win w size v n xs) {k:Nat} (hk:v.ownBlock=some k):k < w.heap.size:=by
 rcases h.2 with ⟨rfl,_⟩|⟨g,off,cap,rfl,_,hg,_⟩
 ·cases hk
 ·cases hk;exact hg
theorem ch_sent (hl:Llt L w) (h:ChX pl L w ob o N q sv ev rv cv xs ys) (hk:Ks pl (TW L w) w w' ob fr sv ev' rv cv q.sent.length g xs c) (hg:g < 65536) (f0:0≤fr) (f1:fr≤18446744073709551615)
  (he:Win w 1 ev' em.length ys') (heo:∀ k,ev'.ownBlock=some k→L k=some (.em o)) (hel:EL pl L w em ys') (hen:em.length≤N):KR L w w' 2 o (fun L'=>ChM pl L' w' ob o (N+1) { q with free:=fr,emp:=em,sent:=q.sent++[(g,c)] }):=by
 obtain ⟨⟨sv',u,h1,h2,wm,h3,h4,h5,h6⟩,hb⟩:=hk
 have hS:∀ k,(k=ob∨sv.ownBlock=some k)→k < w.heap.size→∃ l,L k=some l∧l.of 2 o:=fun k e _=>by
  rcases e with e|e
  ·exact ⟨.ob 2 o,by rw [e];exact h.lb,rfl,rfl⟩
  ·exact ⟨.sn o,h.so k e,rfl,rfl⟩
 have hS2:∀ k,(k=ob∨sv.ownBlock=some k)→k < w.heap.size→L k≠none:=fun k e hk e9=>by
  obtain ⟨l,hl9,_⟩:=hS k e hk
  rw [hl9] at e9;cases e9
 have no:∀ k l,L k=some l→l≠.ob 2 o→l≠.sn o→¬ (k=ob∨sv.ownBlock=some k):=fun k l hk n1 n2 e=>by
  rcases e with e|e
  ·rw [e,h.lb] at hk;exact n1 (Option.some.inj hk).symm
  ·rw [h.so k e] at hk;exact n2 (Option.some.inj hk).symm
 have hL:LEx L (labB L sv' (.sn o)) w:=fun k hk=>by
  unfold labB
  by_cases e:sv'.ownBlock=some k
  ·rw [if_pos e]
   rcases h6 k e with h9|h9
   ·exact (h.so k h9).symm
   ·omega
  ·rw [if_neg e]
 have lk:∀ k l,L k=some l→labB L sv' (.sn o) k=some l:=fun k l hk=>(hL k (hl k l hk)).trans hk
 have hnn:∀ k,w.heap.size≤k→L k=none:=fun k hk=>by
  cases hq:L k with
  | none=>rfl
  | some l=>have:=hl k l hq;omega
 refine ⟨⟨labB L sv' (.sn o),hL,fun k l hk=>?_,fun k l hk he9=>?_,sv',ev',rv,cv,xs++[.int .u16 (g:Int),u],ys',lk _ _ h.lb,h1,f0,f1,?_,fun k hk=>if_pos hk,?_,?_,he.but hb (fun k hk=>no k _ (heo k hk) (by simp) (by simp)),fun k hk=>lk _ _ (heo k hk),EL.but hb hS2 hL hel,by show em.length≤N+1;omega,?_,h.cv.but hb hS2 hL⟩,but_lab hb hS⟩
 ·unfold labB at hk
  by_cases e:sv'.ownBlock=some k
  ·exact h2.lt e
  ·rw [if_neg e] at hk;exact Nat.lt_of_lt_of_le (hl k l hk) hb.size
 ·unfold labB at he9
  by_cases e:sv'.ownBlock=some k
  ·rw [if_pos e] at he9;cases he9;exact ⟨rfl,rfl⟩
  ·rw [if_neg e,hnn k hk] at he9;cases he9
 ·show Win w' 2 sv' (q.sent++[(g,c)]).length _
  rw [List.length_append];exact h2
 ·refine SL.snoc hg (TL.nz h3 hL hb.size h5 (fun k hk hk2=>?_)) (SL.but hb hS2 hL h.sl)
  unfold labB
  rw [if_neg (fun e=>?_)]
  ·exact hnn k hk
  ·rcases h6 k e with h9|h9
   ·have:=h.sw.lt h9;omega
   ·omega
 ·show (q.sent++[(g,c)]).length≤N+1
  rw [List.length_append,List.length_singleton]
  have:=h.sn;omega
 ·exact h.rc.but (q:=q) hb hS2 (fun k e hk=>no k _ hk (by simp) (by simp) e) hL hl (Nat.le_succ N)
theorem ch_room (hl:Llt L w) (h:ChX pl L w ob o N q sv ev rv cv xs ys) {se:List (Nat × Clk)} (hk:Ke pl (TW L w) w w' ob q.free sv' ev rv cv q.emp.length ys c)
  (he:Win w 2 sv' se.length xs') (heo:∀ k,sv'.ownBlock=some k→L k=some (.sn o)) (hel:SL pl L w se xs') (hen:se.length≤N):KR L w w' 2 o (fun L'=>ChM pl L' w' ob o (N+1) { q with sent:=se,emp:=q.emp++[c] }):=by
 obtain ⟨⟨ev',u,h1,h2,wm,h3,h4,h5,h6⟩,hb⟩:=hk
 have hS:∀ k,(k=ob∨ev.ownBlock=some k)→k < w.heap.size→∃ l,L k=some l∧l.of 2 o:=fun k e _=>by
  rcases e with e|e
  ·exact ⟨.ob 2 o,by rw [e];exact h.lb,rfl,rfl⟩
  ·exact ⟨.em o,h.eo k e,rfl,rfl⟩
 have hS2:∀ k,(k=ob∨ev.ownBlock=some k)→k < w.heap.size→L k≠none:=fun k e hk e9=>by
  obtain ⟨l,hl9,_⟩:=hS k e hk
  rw [hl9] at e9;cases e9
 have no:∀ k l,L k=some l→l≠.ob 2 o→l≠.em o→¬ (k=ob∨ev.ownBlock=some k):=fun k l hk n1 n2 e=>by
  rcases e with e|e
  ·rw [e,h.lb] at hk;exact n1 (Option.some.inj hk).symm
  ·rw [h.eo k e] at hk;exact n2 (Option.some.inj hk).symm
 have hL:LEx L (labB L ev' (.em o)) w:=fun k hk=>by
  unfold labB
  by_cases e:ev'.ownBlock=some k
  ·rw [if_pos e]
   rcases h6 k e with h9|h9
   ·exact (h.eo k h9).symm
   ·omega
  ·rw [if_neg e]
 have lk:∀ k l,L k=some l→labB L ev' (.em o) k=some l:=fun k l hk=>(hL k (hl k l hk)).trans hk
 have hnn:∀ k,w.heap.size≤k→L k=none:=fun k hk=>by
  cases hq:L k with
  | none=>rfl
  | some l=>have:=hl k l hq;omega
 refine ⟨⟨labB L ev' (.em o),hL,fun k l hk=>?_,fun k l hk he9=>?_,sv',ev',rv,cv,xs',ys++[u],lk _ _ h.lb,h1,h.f0,h.f1,he.but hb (fun k hk=>no k _ (heo k hk) (by simp) (by simp)),fun k hk=>lk _ _ (heo k hk),SL.but hb hS2 hL hel,by show se.length≤N+1;omega,?_,fun k hk=>if_pos hk,?_,?_,?_,h.cv.but hb hS2 hL⟩,but_lab hb hS⟩
 ·unfold labB at hk
  by_cases e:ev'.ownBlock=some k
  ·exact h2.lt e
  ·rw [if_neg e] at hk;exact Nat.lt_of_lt_of_le (hl k l hk) hb.size
 ·unfold labB at he9
  by_cases e:ev'.ownBlock=some k
  ·rw [if_pos e] at he9;cases he9;exact ⟨rfl,rfl⟩
  ·rw [if_neg e,hnn k hk] at he9;cases he9
 ·show Win w' 1 ev' (q.emp++[c]).length _
  rw [List.length_append];exact h2
 ·refine EL.snoc (TL.nz h3 hL hb.size h5 (fun k hk hk2=>?_)) (EL.but hb hS2 hL h.el)
  unfold labB
  rw [if_neg (fun e=>?_)]
  ·exact hnn k hk
  ·rcases h6 k e with h9|h9
   ·have:=h.ew.lt h9;omega
   ·omega
 ·show (q.emp++[c]).length≤N+1
  rw [List.length_append,List.length_singleton]
  have:=h.en;omega
 ·exact h.rc.but (q:=q) hb hS2 (fun k e hk=>no k _ hk (by simp) (by simp) e) hL hl (Nat.le_succ N)
theorem ch_rcv (hl:Llt L w) (h:ChX pl L w ob o N q sv ev (.map (some m)) cv xs ys) (hr:RcM pl L w o m N f q.rcv) (hu:q.unb=true) {se:List (Nat × Clk)} {fm:Nat} (hk:Kr pl (TW L w) w w' ob m N q.free sv' ev cv (fm:Int) f c)
  (he:Win w 2 sv' se.length xs') (heo:∀ k,sv'.ownBlock=some k→L k=some (.sn o)) (hel:SL pl L w se xs') (hen:se.length≤N):KR L w w' 2 o (fun L'=>ChM pl L' w' ob o (N+1) { q with sent:=se,rcv:=setN q.rcv fm (some c) }):=by
 obtain ⟨⟨h1,u,h2,h3⟩,hb⟩:=hk
 have hS:∀ k,(k=ob∨k=m)→k < w.heap.size→∃ l,L k=some l∧l.of 2 o:=fun k e _=>by
  rcases e with e|e
  ·exact ⟨.ob 2 o,by rw [e];exact h.lb,rfl,rfl⟩
  ·exact ⟨.rc o,by rw [e];exact hr.lb,rfl,rfl⟩
 have hS2:∀ k,(k=ob∨k=m)→k < w.heap.size→L k≠none:=fun k e hk e9=>by
  obtain ⟨l,hl9,_⟩:=hS k e hk
  rw [hl9] at e9;cases e9
 have no:∀ k l,L k=some l→l≠.ob 2 o→l≠.rc o→¬ (k=ob∨k=m):=fun k l hk n1 n2 e=>by
  rcases e with e|e
  ·rw [e,h.lb] at hk;exact n1 (Option.some.inj hk).symm
  ·rw [e,hr.lb] at hk;exact n2 (Option.some.inj hk).symm
 have hL:=LEx.refl L w
 refine KR.same hl hb hS ⟨sv',ev,.map (some m),cv,xs',ys,h.lb,h1,h.f0,h.f1,he.but hb (fun k hk=>no k _ (heo k hk) (by simp) (by simp)),heo,SL.but hb hS2 hL hel,by show se.length≤N+1;omega,h.ew.but hb (fun k hk=>no k _ (h.eo k hk) (by simp) (by simp)),h.eo,EL.but hb hS2 hL h.el,Nat.le_succ_of_le h.en,.inr ⟨hu,m,_,rfl,hr.lb,h2,fun g hg=>?_⟩,h.cv.but hb hS2 hL⟩
 obtain ⟨r1,r2⟩:=(hr.rf.but hb hS2 hL) g hg
 have hT:=TL.new h3 hl hb.size
 by_cases e:g=fm
 ·subst e
  refine ⟨fun e9=>?_,fun c2 e9=>?_⟩
  ·have e9:setN q.rcv g (some c) g=none:=e9
   rw [setN_same] at e9;cases e9
  ·have e9:setN q.rcv g (some c) g=some c2:=e9
   rw [setN_same] at e9
   cases e9
   exact ⟨u,setF_same _ _ _,hT⟩
 ·have e2:¬ (g:Int)=(fm:Int):=by omega
  show (setN q.rcv fm (some c) g=none→_)∧∀ c2,setN q.rcv fm (some c) g=some c2→_
  rw [setN_other _ _ e,setF_other _ _ e2]
  exact ⟨r1,r2⟩
theorem ch_ack (hl:Llt L w) (h:ChX pl L w ob o N q sv ev (.map (some m)) cv xs ys) (hr:RcM pl L w o m N f q.rcv) (hu:q.unb=true) {g9:Nat} (hm:HM w' 74 .u16 m N (.pointer none) (setF f (g9:Int) none)) (hb:But (fun j=>j=m) w w'):KR L w w' 2 o (fun L'=>ChM pl L' w' ob o (N+1) { q with rcv:=setN q.rcv g9 none }):=by
 have hS:∀ k,k=m→k < w.heap.size→∃ l,L k=some l∧l.of 2 o:=fun k e _=>⟨.rc o,by rw [e];exact hr.lb,rfl,rfl⟩
 have hS2:∀ k,k=m→k < w.heap.size→L k≠none:=fun k e hk e9=>by rw [e,hr.lb] at e9;cases e9
 have no:∀ k l,L k=some l→l≠.rc o→¬ k=m:=fun k l hk n2 e=>by rw [e,hr.lb] at hk;exact n2 (Option.some.inj hk).symm
 have hL:=LEx.refl L w
 refine KR.same hl hb hS ⟨sv,ev,.map (some m),cv,xs,ys,h.lb,(hb.block ob (lt_heap h.hb) (no ob _ h.lb (by simp))).trans h.hb,h.f0,h.f1,h.sw.but hb (fun k hk=>no k _ (h.so k hk) (by simp)),h.so,SL.but hb hS2 hL h.sl,Nat.le_succ_of_le h.sn,h.ew.but hb (fun k hk=>no k _ (h.eo k hk) (by simp)),h.eo,EL.but hb hS2 hL h.el,Nat.le_succ_of_le h.en,.inr ⟨hu,m,_,rfl,hr.lb,hm.up (Nat.le_succ N),fun g hg=>?_⟩,h.cv.but hb hS2 hL⟩
 obtain ⟨r1,r2⟩:=(hr.rf.but hb hS2 hL) g hg
 by_cases e:g=g9
 ·subst e
  refine ⟨fun _=>setF_same _ _ _,fun c2 e9=>?_⟩
  have e9:setN q.rcv g none g=some c2:=e9
  rw [setN_same] at e9
  cases e9
 ·have e2:¬ (g:Int)=(g9:Int):=by omega
  show (setN q.rcv g9 none g=none→_)∧∀ c2,setN q.rcv g9 none g=some c2→_
  rw [setN_other _ _ e,setF_other _ _ e2]
  exact ⟨r1,r2⟩
theorem HM.lt {kt:TypeId} {kk:IntKind} {z:Value} (h:HM w kt kk m N z f):m < w.heap.size:=by
 obtain ⟨D,⟨es,cl,h1,_⟩,_⟩:=h
 exact lt_heap h1
theorem ch_mk0 (hl:Llt L w) (h:ChX pl L w ob o N ChF.new sv ev rv cv xs ys) (hmm:w.heap.size≤m) (hh:w'.heap[ob]?=some (.cells #[.int .u64 0,sv,ev,.map (some m),cv] 231 (0,0))) (hm:HM w' 74 .u16 m 0 (.pointer none) (fun _=>none)) (hb:But (fun j=>j=ob) w w'):KR L w w' 2 o (fun L'=>ChM pl L' w' ob o (N+1) { ChF.new with free:=0,unb:=true }):=by
 have hS:∀ k,k=ob→k < w.heap.size→∃ l,L k=some l∧l.of 2 o:=fun k e _=>⟨.ob 2 o,by rw [e];exact h.lb,rfl,rfl⟩
 have hS2:∀ k,k=ob→k < w.heap.size→L k≠none:=fun k e hk e9=>by rw [e,h.lb] at e9;cases e9
 have no:∀ k l,L k=some l→l≠.ob 2 o→¬ k=ob:=fun k l hk n2 e=>by rw [e,h.lb] at hk;exact n2 (Option.some.inj hk).symm
 have hL:LEx L (labB L (.slice (some ⟨m,0,none⟩) 0 0) (.rc o)) w:=fun k hk=>by
  unfold labB
  rw [if_neg (fun e=>?_)]
  have e9:m=k:=Option.some.inj e
  omega
 have lk:∀ k l,L k=some l→labB L (.slice (some ⟨m,0,none⟩) 0 0) (.rc o) k=some l:=fun k l hk=>(hL k (hl k l hk)).trans hk
 refine ⟨⟨labB L (.slice (some ⟨m,0,none⟩) 0 0) (.rc o),hL,fun k l hk=>?_,fun k l hk he9=>?_,sv,ev,.map (some m),cv,xs,ys,lk _ _ h.lb,hh,Int.le_refl 0,(by show (0:Int)≤18446744073709551615;omega),h.sw.but hb (fun k hk=>no k _ (h.so k hk) (by simp)),fun k hk=>lk _ _ (h.so k hk),SL.but hb hS2 hL h.sl,Nat.le_succ_of_le h.sn,h.ew.but hb (fun k hk=>no k _ (h.eo k hk) (by simp)),fun k hk=>lk _ _ (h.eo k hk),EL.but hb hS2 hL h.el,Nat.le_succ_of_le h.en,.inr ⟨rfl,m,_,rfl,if_pos rfl,hm.up (Nat.zero_le _),fun g hg=>⟨fun _=>rfl,fun c e9=>(by cases e9)⟩⟩,h.cv.but hb hS2 hL⟩,but_lab hb hS⟩
 ·unfold labB at hk
  by_cases e:(Value.slice (some ⟨m,0,none⟩) 0 0).ownBlock=some k
  ·cases e;exact hm.lt
  ·rw [if_neg e] at hk;exact Nat.lt_of_lt_of_le (hl k l hk) hb.size
 ·unfold labB at he9
  by_cases e:(Value.slice (some ⟨m,0,none⟩) 0 0).ownBlock=some k
  ·rw [if_pos e] at he9;cases he9;exact ⟨rfl,rfl⟩
  ·rw [if_neg e] at he9;have:=hl k l he9;omega
end
end Go.Proofs.YtnfcemohjaiipaaGreatDoor
namespace Go.Proofs.YtnfcemohjaiipaaGreatDoor
open Go.RowKit Go.Maps
section
variable {pl : Nat → Int → Int} {L L' : LF} {w W wm w' : World} {v u s : Value} {S : Nat → Prop} {o : Int} {m N ob : Nat} {q : ChF} {rv cv sv ev kv : Value} {xs ys : List Value} {V : Vw} {e : Me}
theorem EL.tail {l:List Clk} (h:EL pl L w l xs):EL pl L w l.tail (xs.drop 1):=by
 cases l with
 | nil=>have h:xs=[]:=h;subst h;rfl
 | cons c l =>
  obtain ⟨u,zs,h1,_,h2⟩:=h
  subst h1;exact h2
theorem SL.tail {l:List (Nat × Clk)} (h:SL pl L w l xs):SL pl L w l.tail (xs.drop 2):=by
 cases l with
 | nil=>have h:xs=[]:=h;subst h;rfl
 | cons c l =>
  obtain ⟨u,zs,h1,_,_,h2⟩:=h
  subst h1;exact h2
theorem tail_len {α:Type} (l:List α):l.tail.length=l.length - 1:=by cases l <;> rfl
theorem win_tail {size n:Nat} (hn:0 < n) (h:Win w size v n xs):∃ g off cap,v=.slice (some ⟨g,off,none⟩) n cap∧n≤cap∧g < w.heap.size∧(∀ j u,xs[j]?=some u→w.cell? ⟨g,off+j,none⟩=some u)∧(¬ cap=1→Win w size (.slice (some ⟨g,off+size,none⟩) (n - 1) (cap - 1)) (n - 1) (xs.drop size))∧(cap=1→n=1∧Win w size (.slice (some ⟨g,off,none⟩) 0 0) (n - 1) (xs.drop size)):=by
 obtain ⟨g,off,cap,rfl,h1,h2,h3⟩:=h.ex hn
 refine ⟨g,off,cap,rfl,h1,h2,h3,fun _=>h.cut hn,fun hc=>?_⟩
 have hn1:n=1:=by omega
 refine ⟨hn1,?_⟩
 have hd:xs.drop size=[]:=List.eq_nil_of_length_eq_zero (by rw [List.length_drop,h.1,hn1,Nat.one_mul,Nat.sub_self])
 rw [hd,hn1]
 exact Win.size0 h2 size
theorem ChX.nz (h:ChX pl L w ob o N q sv ev rv cv xs ys):¬ TW L w ob:=fun h9=>by have:=h9.1;rw [h.lb] at this;cases this
theorem ChX.nzs (h:ChX pl L w ob o N q sv ev rv cv xs ys):∀ k,sv.ownBlock=some k→¬ TW L w k:=fun k hk h9=>by have:=h9.1;rw [h.so k hk] at this;cases this
theorem ChX.nze (h:ChX pl L w ob o N q sv ev rv cv xs ys):∀ k,ev.ownBlock=some k→¬ TW L w k:=fun k hk h9=>by have:=h9.1;rw [h.eo k hk] at this;cases this
theorem ChX.nso (h:ChX pl L w ob o N q sv ev rv cv xs ys):sv.ownBlock≠some ob:=fun h9=>by have:=h.so ob h9;rw [h.lb] at this;cases this
theorem ChX.neo (h:ChX pl L w ob o N q sv ev rv cv xs ys):ev.ownBlock≠some ob:=fun h9=>by have:=h.eo ob h9;rw [h.lb] at this;cases this
theorem chs (hpl:Rise2 pl) (hl:Llt L w) (h:ChX pl L w ob o N q sv ev rv cv xs ys) (hk:TL pl L w kv V.kn) (hv:Vok pl V.g V.tm V.pl) (hN:N≤1048576) (H:ChOk q e) (h10:e.k=10) :
  Calls Tryz.prog 253 #[.pointer (some ⟨ob,0,none⟩),.agg #[kv,.int .i32 V.tm,.int .i32 V.pl,.int .u16 (V.g:Int)]] w fun x w'=>x=.returned (.tuple #[])∧KR L w w' 2 o (fun L'=>ChM pl L' w' ob o (N+1) (q.keep e V)):=by
 have hn:=Nat.le_trans h.sn hN
 have hq0:q.keep e V={ q with free:=if q.unb=true then q.free else if 0 < q.free then q.free - 1 else q.free,emp:=if q.unb=true then q.emp else if 0 < q.free then q.emp else q.emp.tail,sent:=q.sent++[(V.g,V.clk)] }:=by
  unfold ChF.keep
  rw [if_neg (by omega),if_pos h10]
 rcases h.rc with ⟨hu,hr⟩|⟨hu,m,f,hr,_⟩
 ·subst hr
  by_cases hf:0 < q.free
  ·rw [show q.keep e V={ q with free:=q.free - 1,emp:=q.emp,sent:=q.sent++[(V.g,V.clk)] } from by rw [hq0];simp [hu,hf]]
   refine (send_free hpl hf h.f1 h.hb h.nz hk hv h.sw h.nzs h.nso hn).mono ?_
   rintro x w' ⟨rfl,hks⟩
   have:=h.f1
   exact ⟨rfl,ch_sent hl h hks hv.fg (by omega) (by omega) h.ew h.eo h.el h.en⟩
  ·rw [show q.keep e V={ q with free:=q.free,emp:=q.emp.tail,sent:=q.sent++[(V.g,V.clk)] } from by rw [hq0];simp [hu,hf]]
   have hlen:0 < q.emp.length:=List.length_pos_iff.2 (H.snd h10 hu hf)
   obtain ⟨qb,qo,ec,rfl,h1,h2,_,h3,h4⟩:=win_tail hlen h.ew
   have hen:q.emp.tail.length≤N:=by rw [tail_len];have:=h.en;omega
   by_cases hc:ec=1
   ·obtain ⟨h5,h6⟩:=h4 hc
    have hob:=h.hb
    rw [h5,hc] at hob
    refine (send_cut1 hpl hf hob h.nz hk hv h.sw h.nzs h.nso hn).mono ?_
    rintro x w' ⟨rfl,hks⟩
    exact ⟨rfl,ch_sent hl h hks hv.fg h.f0 h.f1 (by rw [tail_len];exact h6) (fun k e9=>h.eo k e9) h.el.tail hen⟩
   ·refine (send_cut hpl hf hlen h1 hc h.hb h.nz hk hv h.sw h.nzs h.nso hn).mono ?_
    rintro x w' ⟨rfl,hks⟩
    exact ⟨rfl,ch_sent hl h hks hv.fg h.f0 h.f1 (by rw [tail_len];exact h3 hc) (fun k e9=>h.eo k e9) h.el.tail hen⟩
 ·subst hr
  rw [show q.keep e V={ q with free:=q.free,emp:=q.emp,sent:=q.sent++[(V.g,V.clk)] } from by rw [hq0];simp [hu]]
  refine (send_unb hpl h.hb h.nz hk hv h.sw h.nzs h.nso hn).mono ?_
  rintro x w' ⟨rfl,hks⟩
  exact ⟨rfl,ch_sent hl h hks hv.fg h.f0 h.f1 h.ew h.eo h.el h.en⟩
theorem chr (hpl:Rise2 pl) (hl:Llt L w) (h:ChX pl L w ob o N q sv ev rv cv xs ys) (hk:TL pl L w kv V.kn) (hv:Vok pl V.g V.tm V.pl) (hN:N≤1048576) (H:ChOk q e) (h12:e.k=12) (ha:e.a=1) {eg ek eo:Int} :
  Calls Tryz.prog 254 #[.pointer (some ⟨ob,0,none⟩),.agg #[.int .i64 eg,.int .i64 ek,.int .u64 eo,.int .u64 1,s],.agg #[kv,.int .i32 V.tm,.int .i32 V.pl,.int .u16 (V.g:Int)]] w fun x w'=>x=.returned (.tuple #[])∧KR L w w' 2 o (fun L'=>ChM pl L' w' ob o (N+1) (q.keep e V)):=by
 have hq0:q.keep e V={ q with sent:=q.sent.tail,rcv:=if q.unb=true then setN q.rcv ((q.sent.head?.map (·.1)).getD 0) (some V.clk) else q.rcv,emp:=if q.unb=true then q.emp else if q.clo.isNone then q.emp++[V.clk] else q.emp }:=by
  unfold ChF.keep
  rw [if_neg (by omega),if_neg (by omega),if_neg (by omega),if_pos h12,if_neg (by omega)]
 have hne:=H.rcv h12 ha
 have hlen:0 < q.sent.length:=List.length_pos_iff.2 hne
 obtain ⟨qb,qo,ec,rfl,h1,h2,hcells,h3,h4⟩:=win_tail hlen h.sw
 have hsn:q.sent.tail.length≤N:=by rw [tail_len];have:=h.sn;omega
 have hsl:=h.sl
 obtain ⟨fm,hfm1,hfm2,hfm3⟩:∃ fm:Nat,fm < 65536∧(q.sent.head?.map (·.1)).getD 0=fm∧w.cell? ⟨qb,qo,none⟩=some (.int .u16 (fm:Int)):=by
  cases hem:q.sent with
  | nil=>exact absurd hem hne
  | cons p l =>
   rw [hem] at hsl
   obtain ⟨u,zs,hz,hg,_,_⟩:=hsl
   exact ⟨p.1,hg,rfl,hcells 0 _ (by rw [hz];rfl)⟩
 rw [hfm2] at hq0
 have hE:Win w 2 (.slice (some ⟨qb,qo+2,none⟩) (q.sent.length - 1) (ec - 1)) q.sent.tail.length (xs.drop 2)∨ec=1:=by
  by_cases hc:ec=1
  ·exact .inr hc
  ·rw [tail_len];exact .inl (h3 hc)
 rcases h.rc with ⟨hu,hr⟩|⟨hu,m,f,hr,hrc⟩
 ·subst hr
  rcases h.cv with ⟨hcl,hcv⟩|⟨c9,p9,hcl,hcv,hT⟩
  ·subst hcv
   rw [show q.keep e V={ q with sent:=q.sent.tail,emp:=q.emp++[V.clk] } from by rw [hq0];simp [hu,hcl]]
   have hn:=Nat.le_trans h.en hN
   by_cases hc:ec=1
   ·obtain ⟨h5,h6⟩:=h4 hc
    have hob:=h.hb
    rw [h5,hc] at hob
    refine (recv_room1 hpl h.ew h.nze h.neo hn hob h.nz hk hv hfm3).mono ?_
    rintro x w' ⟨rfl,hks⟩
    exact ⟨rfl,ch_room hl h hks (se:=q.sent.tail) (by rw [tail_len];exact h6) (fun k e9=>h.so k e9) h.sl.tail hsn⟩
   ·refine (recv_room hpl hlen h1 hc h.ew h.nze h.neo hn h.hb h.nz hk hv hfm3).mono ?_
    rintro x w' ⟨rfl,hks⟩
    exact ⟨rfl,ch_room hl h hks (se:=q.sent.tail) (by rw [tail_len];exact h3 hc) (fun k e9=>h.so k e9) h.sl.tail hsn⟩
  ·subst hcv
   rw [show q.keep e V={ q with sent:=q.sent.tail,rcv:=q.rcv,emp:=q.emp } from by rw [hq0];simp [hu,hcl]]
   have fin:∀ w' sv',But (fun j=>j=ob) w w'→w'.heap[ob]?=some (.cells #[.int .u64 q.free,sv',ev,.map none,.pointer (some p9)] 231 (0,0))→Win w 2 sv' q.sent.tail.length (xs.drop 2)→(∀ k,sv'.ownBlock=some k→L k=some (.sn o))→KR L w w' 2 o (fun L'=>ChM pl L' w' ob o (N+1) { q with sent:=q.sent.tail,rcv:=q.rcv,emp:=q.emp }):=fun w' sv' hb hh hw hso=>by
    refine ch_put hl h hb hh h.f0 h.f1 hw hso h.sl.tail (by show q.sent.tail.length≤N+1;omega) h.ew h.eo h.el (by show q.emp.length≤N+1;have:=h.en;omega) rfl rfl ?_ (Nat.le_succ N)
    exact .inr ⟨c9,p9,hcl,rfl,hT.but hb (fun k e9 _ e8=>by rw [e9,h.lb] at e8;cases e8) (LEx.refl _ _)⟩
   by_cases hc:ec=1
   ·obtain ⟨h5,h6⟩:=h4 hc
    have hob:=h.hb
    rw [h5,hc] at hob
    refine (recv_closed1 hpl hob h.nz hk hv hfm3).mono ?_
    rintro x w' ⟨rfl,hh,hb⟩
    exact ⟨rfl,fin w' _ hb hh (by rw [tail_len];exact h6) (fun k e9=>h.so k e9)⟩
   ·refine (recv_closed hpl hlen h1 hc h.hb h.nz hk hv hfm3).mono ?_
    rintro x w' ⟨rfl,hh,hb⟩
    exact ⟨rfl,fin w' _ hb hh (by rw [tail_len];exact h3 hc) (fun k e9=>h.so k e9)⟩
 ·subst hr
  rw [show q.keep e V={ q with sent:=q.sent.tail,rcv:=setN q.rcv fm (some V.clk) } from by rw [hq0];simp [hu]]
  have hml:=hl _ _ hrc.lb
  have hmo:m≠ob:=fun e9=>by have:=hrc.lb;rw [e9,h.lb] at this;cases this
  have hZm:¬ TW L w m:=fun h9=>by have:=h9.1;rw [hrc.lb] at this;cases this
  by_cases hc:ec=1
  ·obtain ⟨h5,h6⟩:=h4 hc
   have hob:=h.hb
   rw [h5,hc] at hob
   refine (recv_unb1 hpl hrc.hm hml hmo hZm (by omega) (by omega) (by omega) hob h.nz hk hv hfm3).mono ?_
   rintro x w' ⟨rfl,hks⟩
   exact ⟨rfl,ch_rcv hl h hrc hu hks (se:=q.sent.tail) (by rw [tail_len];exact h6) (fun k e9=>h.so k e9) h.sl.tail hsn⟩
  ·refine (recv_unb hpl hlen h1 hc hrc.hm hml hmo hZm (by omega) (by omega) (by omega) h.hb h.nz hk hv hfm3).mono ?_
   rintro x w' ⟨rfl,hks⟩
   exact ⟨rfl,ch_rcv hl h hrc hu hks (se:=q.sent.tail) (by rw [tail_len];exact h3 hc) (fun k e9=>h.so k e9) h.sl.tail hsn⟩
theorem ChX.below (h:ChX pl L w ob o N q sv ev rv cv xs ys) (hl:Llt L w) (hb:Below w.heap.size w W):ChX pl L W ob o N q sv ev rv cv xs ys :=
 h.but (S:=fun _=>False) (But.of_below hb) (fun _ e=>e.elim) (fun _ _ e=>e.elim) (LEx.refl _ _) hl (Nat.le_refl _)
theorem ChX.up (h:ChX pl L w ob o N q sv ev rv cv xs ys) (hl:Llt L w):ChX pl L w ob o (N+1) q sv ev rv cv xs ys :=
 h.but (S:=fun _=>False) (But.refl _ _) (fun _ e=>e.elim) (fun _ _ e=>e.elim) (LEx.refl _ _) hl (Nat.le_succ _)
theorem ch_keeps (hpl:Rise2 pl) (hl:Llt L w) (h:ChM pl L w ob o N q) (hk:TL pl L w kv V.kn) (hv:Vok pl V.g V.tm V.pl) (h1:1≤V.tm) (hN:N≤1048576) (H:ChOk q e) (ha:0≤e.a∧e.a≤18446744073709551615) :
  Calls Tryz.prog 248 #[.pointer (some ⟨ob,0,none⟩),.agg #[.int .i64 e.g,.int .i64 e.k,.int .u64 e.o,.int .u64 e.a,s],.agg #[kv,.int .i32 V.tm,.int .i32 V.pl,.int .u16 (V.g:Int)]] w fun x w'=>x=.returned (.tuple #[])∧KR L w w' 2 o (fun L'=>ChM pl L' w' ob o (N+1) (q.keep e V)):=by
 obtain ⟨sv,ev,rv,cv,xs,ys,h⟩:=h
 obtain ⟨po,rfl⟩:=hk.form
 by_cases h9:e.k=9
 ·have hqn:=H.mak h9
  rw [h9]
  have hq0:q.keep e V={ q with free:=e.a,unb:=decide (e.a=0) }:=by
   unfold ChF.keep
   rw [if_pos h9]
  rw [hq0,hqn]
  rw [hqn] at h
  have hrv:rv=.map none:=by
   rcases h.rc with ⟨_,hr⟩|⟨hu,_⟩
   ·exact hr
   ·cases hu
  subst hrv
  refine keeps_make (fun W hW=>?_)
  have hX:=h.below hl hW
  by_cases ha0:e.a=0
  ·rw [ha0]
   refine (km_unb hX.hb).mono ?_
   rintro x w' ⟨rfl,⟨mm,hmm,hh,hm⟩,hb⟩
   exact ⟨rfl,KR.below hW hl (ch_mk0 (hl.on hW.size) hX hmm hh hm hb)⟩
  ·refine (km_buf hX.hb ha0).mono ?_
   rintro x w' ⟨rfl,hh,hb⟩
   refine ⟨rfl,KR.below hW hl (ch_put (hl.on hW.size) hX hb hh ha.1 ha.2 hX.sw hX.so hX.sl (Nat.zero_le _) hX.ew hX.eo hX.el (Nat.zero_le _) (decide_eq_false ha0) rfl ?_ (Nat.le_succ N))⟩
   exact hX.cv.but hb (fun k e9 _ e8=>by rw [e9,hX.lb] at e8;cases e8) (LEx.refl _ _)
 by_cases h10:e.k=10
 ·rw [h10]
  refine keeps_send (fun W hW=>?_)
  refine (chs hpl (hl.on hW.size) (h.below hl hW) (hk.bel hW) hv hN H h10).mono ?_
  rintro x w' ⟨rfl,hK⟩
  exact ⟨rfl,hK.below hW hl⟩
 by_cases h11:e.k=11
 ·rw [h11]
  have hu:=H.ack h11
  have hq0:q.keep e V={ q with rcv:=setN q.rcv V.g none }:=by
   unfold ChF.keep
   rw [if_neg h9,if_neg h10,if_pos h11]
  rw [hq0]
  rcases h.rc with ⟨hu2,_⟩|⟨_,m,f,hr,hrc⟩
  ·rw [hu2] at hu;cases hu
  subst hr
  have hml:=hl _ _ hrc.lb
  have hmo:m≠ob:=fun e9=>by have:=hrc.lb;rw [e9,h.lb] at this;cases this
  have:=hv.fg
  refine (keeps_ack h.hb hrc.hm hml hmo (by omega) (by omega)).mono ?_
  rintro x w' ⟨rfl,hm,hb⟩
  exact ⟨rfl,ch_ack hl h hrc hu hm hb⟩
 by_cases h12:e.k=12
 ·rw [h12]
  refine keeps_recv (fun W hW=>?_)
  rcases H.bit h12 with ha0|ha1
  ·have hq0:q.keep e V=q:=by
    unfold ChF.keep
    rw [if_neg h9,if_neg h10,if_neg h11,if_pos h12,if_pos ha0]
   rw [hq0,ha0]
   refine recv_zero.mono ?_
   rintro x w' ⟨rfl,hb⟩
   have hb2:Below w.heap.size w w':=hW.trans (hb.mono hW.size)
   exact ⟨rfl,KR.same (S:=fun _=>False) hl (But.of_below hb2) (fun _ e9=>e9.elim) ⟨sv,ev,rv,cv,xs,ys,(h.below hl hb2).up (hl.on hb2.size)⟩⟩
  ·rw [ha1]
   refine (chr hpl (hl.on hW.size) (h.below hl hW) (hk.bel hW) hv hN H h12 ha1).mono ?_
   rintro x w' ⟨rfl,hK⟩
   exact ⟨rfl,hK.below hW hl⟩
 by_cases h13:e.k=13
 ·rw [h13]
  have hq0:q.keep e V={ q with clo:=some V.clk,emp:=[] }:=by
   unfold ChF.keep
   rw [if_neg h9,if_neg h10,if_neg h11,if_neg h12,if_pos h13]
  rw [hq0]
  refine (kc_close hpl h.hb h.nz hk hv).mono ?_
  rintro x w' ⟨rfl,⟨u,hh,hq⟩,hb⟩
  refine ⟨rfl,ch_put hl h hb hh h.f0 h.f1 h.sw h.so h.sl (by show q.sent.length≤N+1;have:=h.sn;omega) (Win.nil w 1) (fun k e9=>by cases e9) rfl (Nat.zero_le _) rfl rfl ?_ (Nat.le_succ N)⟩
  have hT:=TL.new hq hl hb.size
  have hc1:1≤vclk V.kn V.g V.tm V.g:=by
   unfold vclk sgl
   rw [if_pos rfl]
   omega
  obtain ⟨p,rfl⟩:=hT.ptr hc1
  exact .inr ⟨_,p,rfl,rfl,hT⟩
 have hq0:q.keep e V=q:=by
  unfold ChF.keep
  rw [if_neg h9,if_neg h10,if_neg h11,if_neg h12,if_neg h13]
 rw [hq0]
 refine (keeps_other h9 h10 h11 h12 h13).mono ?_
 rintro x w' ⟨rfl,hb⟩
 exact ⟨rfl,KR.same (S:=fun _=>False) hl (But.of_below hb) (fun _ e9=>e9.elim) ⟨sv,ev,rv,cv,xs,ys,(h.below hl hb).up (hl.on hb.size)⟩⟩
end
end Go.Proofs.YtnfcemohjaiipaaGreatDoor
