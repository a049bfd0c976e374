import Derived.Test.YtimgkhdgliojgaaGreatDoorOg06
import Derived.Test.YtimgkhdgliojgaaGreatDoorOg14
set_option maxRecDepth 8000
set_option maxHeartbeats 8000000
set_option linter.unusedVariables false
namespace Go.Proofs.YtimgkhdgliojgaaGreatDoor
abbrev Clk:=Nat→Int
structure Vw where
 kn:Clk
 tm:Int
 pl:Int
 g:Nat
def Vw.clk (v:Vw):Clk:=vclk v.kn v.g v.tm
theorem Vw.clk_own (v:Vw) (h:v.kn v.g≤v.tm):v.clk v.g=v.tm:=by
 unfold Vw.clk vclk sgl
 rw [if_pos rfl]
 omega
theorem Vw.clk_other (v:Vw) {x:Nat} (hx:x≠v.g) (h:0≤v.kn x):v.clk x=v.kn x:=by
 unfold Vw.clk vclk sgl
 rw [if_neg hx]
 omega
def Cl (H:List Vw) (c:Clk):Prop:=∀ x,0≤c x∧(1≤c x→∃ v ∈ H,v.g=x∧v.tm=c x∧∀ y,v.clk y≤c y)
theorem Cl.zero (H:List Vw):Cl H (fun _=>0):=fun x=>⟨Int.le_refl _,fun h=>absurd (show (1:Int)≤0 from h) (by decide)⟩
theorem Cl.eq {H:List Vw} {c d:Clk} (h:Cl H c) (he:∀ x,d x=c x):Cl H d:=by
 have:d=c:=funext he
 rw [this];exact h
theorem Cl.max {H:List Vw} {c d:Clk} (h:Cl H c) (k:Cl H d):Cl H (fun x=>max (c x) (d x)):=by
 intro x
 have h1:=h x
 have k1:=k x
 show 0≤Max.max (c x) (d x)∧(1≤Max.max (c x) (d x)→∃ v ∈ H,v.g=x∧v.tm=Max.max (c x) (d x)∧∀ y,v.clk y≤Max.max (c y) (d y))
 refine ⟨by omega,fun hx=>?_⟩
 by_cases e:d x≤c x
 ·obtain ⟨v,hv,a,b,r⟩:=h1.2 (by omega)
  exact ⟨v,hv,a,by omega,fun y=>by have:=r y;omega⟩
 ·obtain ⟨v,hv,a,b,r⟩:=k1.2 (by omega)
  exact ⟨v,hv,a,by omega,fun y=>by have:=r y;omega⟩
theorem Cl.more {H:List Vw} {c:Clk} (h:Cl H c) (v:Vw):Cl (H++[v]) c:=fun x=>⟨(h x).1,fun hx=>by
 obtain ⟨u,hu,r⟩:=(h x).2 hx
 exact ⟨u,List.mem_append.2 (.inl hu),r⟩⟩
structure Hs (H:List Vw):Prop where
 one:∀ v ∈ H,1≤v.tm
 ris:∀ (i j:Nat) (u v:Vw),H[i]?=some u→H[j]?=some v→u.g=v.g→i < j→u.tm < v.tm
 mono:∀ u ∈ H,∀ v ∈ H,u.g=v.g→u.tm≤v.tm→∀ x,u.clk x≤v.clk x
 cl:∀ v ∈ H,Cl H v.clk
 own:∀ v ∈ H,v.kn v.g≤v.tm∧∀ x,0≤v.kn x
 pre:∀ (j:Nat) (v:Vw),H[j]?=some v→Cl (H.take (j+1)) v.clk
theorem Hs.nil:Hs []:=⟨fun v h=>(by cases h),fun i j u v h=>(by cases h),fun u h=>(by cases h),fun v h=>(by cases h),fun v h=>(by cases h),fun j v h=>(by cases h)⟩
theorem Hs.uq {H:List Vw} (h:Hs H) {u v:Vw} (hu:u ∈ H) (hv:v ∈ H) (hg:u.g=v.g) (ht:u.tm=v.tm):u=v:=by
 obtain ⟨i,hi,he⟩:=List.getElem_of_mem hu
 obtain ⟨j,hj,hf⟩:=List.getElem_of_mem hv
 have h1:H[i]?=some u:=by rw [List.getElem?_eq_getElem hi,he]
 have h2:H[j]?=some v:=by rw [List.getElem?_eq_getElem hj,hf]
 by_cases e:i=j
 ·subst e;rw [h1] at h2;exact Option.some.inj h2
 ·by_cases l:i < j
  ·have:=h.ris i j u v h1 h2 hg l;omega
  ·have:=h.ris j i v u h2 h1 hg.symm (by omega);omega
structure Gv (H:List Vw) (v:Vw):Prop where
 cl:Cl H v.kn
 kn:v.kn v.g≤v.tm
 nn:0≤v.tm
 mem:1≤v.tm→v ∈ H
 top:∀ u ∈ H,u.g=v.g→u.tm≤v.tm
def Vw.next (v:Vw) (c:Clk) (place:Int):Vw:=⟨lrn v.kn c v.g v.tm,v.tm+1,place,v.g⟩
section
variable {H : List Vw} {v : Vw} {c : Clk} {p : Int}
theorem Gv.given (hH:Hs H) (h:Gv H v) (hc:Cl H c):c v.g≤v.tm:=by
 by_cases e:1≤c v.g
 ·obtain ⟨u,hu,a,b,_⟩:=(hc v.g).2 e
  rw [← b]
  exact h.top u hu a
 ·have:=h.nn;omega
theorem lrn_cl (h:Gv H v) (hc:Cl H c):Cl H (lrn v.kn c v.g v.tm):=by
 unfold lrn
 split
 ·exact hc
 ·exact h.cl.max hc
theorem lrn_own (hH:Hs H) (h:Gv H v) (hc:Cl H c):lrn v.kn c v.g v.tm v.g≤v.tm:=by
 have h1:=h.given hH hc
 have h2:=h.kn
 unfold lrn
 split
 ·exact h1
 ·show max (v.kn v.g) (c v.g)≤v.tm
  omega
theorem lrn_kn (hH:Hs H) (h:Gv H v) (hc:Cl H c):∀ x,v.kn x≤lrn v.kn c v.g v.tm x∧c x≤lrn v.kn c v.g v.tm x:=by
 intro x
 unfold lrn
 by_cases e:0 < v.tm∧c v.g=v.tm
 ·rw [if_pos e]
  obtain ⟨u,hu,a,b,r⟩:=(hc v.g).2 (by omega)
  have hv:=h.mem (by omega)
  have huv:=hH.uq hu hv a (by omega)
  subst huv
  have h1:=r x
  have h2:u.kn x≤u.clk x:=by unfold Vw.clk vclk;omega
  omega
 ·rw [if_neg e]
  show v.kn x≤max (v.kn x) (c x)∧c x≤max (v.kn x) (c x)
  omega
theorem next_own (hH:Hs H) (h:Gv H v) (hc:Cl H c):(v.next c p).clk v.g=v.tm+1:=by
 have:=lrn_own hH h hc
 exact (v.next c p).clk_own (show lrn v.kn c v.g v.tm v.g≤v.tm+1 by omega)
theorem next_ge (hH:Hs H) (h:Gv H v) (hc:Cl H c):∀ x,v.clk x≤(v.next c p).clk x∧c x≤(v.next c p).clk x:=by
 intro x
 have h1:=lrn_kn hH h hc x
 have h2:lrn v.kn c v.g v.tm x≤(v.next c p).clk x:=by unfold Vw.clk vclk;show _≤max (lrn v.kn c v.g v.tm x) _;omega
 refine ⟨?_,by omega⟩
 by_cases e:x=v.g
 ·subst e
  rw [next_own hH h hc,v.clk_own h.kn]
  omega
 ·rw [v.clk_other e (h.cl x).1]
  omega
theorem next_cl (hH:Hs H) (h:Gv H v) (hc:Cl H c):Cl (H++[v.next c p]) (v.next c p).clk:=by
 intro x
 have hl:=lrn_cl h hc
 by_cases e:x=v.g
 ·subst e
  have h1:=next_own (p:=p) hH h hc
  have h2:=h.nn
  exact ⟨by omega,fun _=>⟨v.next c p,List.mem_append.2 (.inr (List.mem_singleton.2 rfl)),rfl,h1.symm,fun y=>Int.le_refl _⟩⟩
 ·have h1:(v.next c p).clk x=lrn v.kn c v.g v.tm x:=(v.next c p).clk_other e (hl x).1
  rw [h1]
  refine ⟨(hl x).1,fun hx=>?_⟩
  obtain ⟨u,hu,a,b,r⟩:=(hl x).2 hx
  refine ⟨u,List.mem_append.2 (.inl hu),a,b,fun y=>?_⟩
  have h3:=r y
  have h4:lrn v.kn c v.g v.tm y≤(v.next c p).clk y:=by unfold Vw.clk vclk;show _≤max (lrn v.kn c v.g v.tm y) _;omega
  omega
theorem Hs.step (hH:Hs H) (h:Gv H v) (hc:Cl H c):Hs (H++[v.next c p]):=by
 have hnew:∀ u ∈ H,u.g=v.g→∀ x,u.clk x≤(v.next c p).clk x:=fun u hu hg x=>by
  have h1:=h.top u hu hg
  have h2:=hH.one u hu
  have h3:=hH.mono u hu v (h.mem (by omega)) hg h1 x
  have h4:=(next_ge (p:=p) hH h hc x).1
  omega
 refine ⟨fun u hu=>?_,fun i j u w hi hj hg hij=>?_,fun u hu w hw hg ht x=>?_,fun u hu=>?_,fun u hu=>?_,fun j u hj=>?_⟩
 ·rcases List.mem_append.1 hu with hu|hu
  ·exact hH.one u hu
  ·cases List.mem_singleton.1 hu
   have:=h.nn
   show 1≤v.tm+1
   omega
 ·have hjl:j < (H++[v.next c p]).length:=(List.getElem?_eq_some_iff.1 hj).1
  rw [List.length_append] at hjl
  have hjl2:j < H.length+1:=hjl
  rw [List.getElem?_append_left (by omega)] at hi
  by_cases e:j < H.length
  ·rw [List.getElem?_append_left e] at hj
   exact hH.ris i j u w hi hj hg hij
  ·rw [List.getElem?_append_right (by omega),show j - H.length=0 by omega] at hj
   cases hj
   have:=h.top u (List.mem_of_getElem? hi) hg
   show u.tm < v.tm+1
   omega
 ·rcases List.mem_append.1 hu with hu|hu
  ·rcases List.mem_append.1 hw with hw|hw
   ·exact hH.mono u hu w hw hg ht x
   ·cases List.mem_singleton.1 hw
    exact hnew u hu hg x
  ·cases List.mem_singleton.1 hu
   rcases List.mem_append.1 hw with hw|hw
   ·have h1:=h.top w hw hg.symm
    have h2:v.tm+1≤w.tm:=ht
    omega
   ·cases List.mem_singleton.1 hw
    exact Int.le_refl _
 ·rcases List.mem_append.1 hu with hu|hu
  ·exact (hH.cl u hu).more _
  ·cases List.mem_singleton.1 hu
   exact next_cl hH h hc
 ·rcases List.mem_append.1 hu with hu|hu
  ·exact hH.own u hu
  ·cases List.mem_singleton.1 hu
   have h1:=lrn_own hH h hc
   exact ⟨show lrn v.kn c v.g v.tm v.g≤v.tm+1 by omega,fun x=>(lrn_cl h hc x).1⟩
 ·have hjl:j < (H++[v.next c p]).length:=(List.getElem?_eq_some_iff.1 hj).1
  rw [List.length_append] at hjl
  have hjl2:j < H.length+1:=hjl
  by_cases e:j < H.length
  ·rw [List.getElem?_append_left e] at hj
   rw [List.take_append_of_le_length (by omega)]
   exact hH.pre j u hj
  ·rw [List.getElem?_append_right (by omega),show j - H.length=0 by omega] at hj
   cases hj
   rw [List.take_of_length_le (by rw [List.length_append];show H.length+1≤j+1;omega)]
   exact next_cl hH h hc
theorem Gv.step (hH:Hs H) (h:Gv H v) (hc:Cl H c):Gv (H++[v.next c p]) (v.next c p):=by
 refine ⟨(lrn_cl h hc).more _,?_,?_,fun _=>List.mem_append.2 (.inr (List.mem_singleton.2 rfl)),fun u hu hg=>?_⟩
 ·have:=lrn_own hH h hc
  show lrn v.kn c v.g v.tm v.g≤v.tm+1
  omega
 ·have:=h.nn
  show 0≤v.tm+1
  omega
 ·rcases List.mem_append.1 hu with hu|hu
  ·have:=h.top u hu hg
   show u.tm≤v.tm+1
   omega
  ·cases List.mem_singleton.1 hu
   exact Int.le_refl _
theorem Gv.other {u n:Vw} (h:Gv H u) (hne:n.g≠u.g):Gv (H++[n]) u:=by
 refine ⟨h.cl.more _,h.kn,h.nn,fun ht=>List.mem_append.2 (.inl (h.mem ht)),fun z hz hg=>?_⟩
 rcases List.mem_append.1 hz with hz|hz
 ·exact h.top z hz hg
 ·cases List.mem_singleton.1 hz;exact absurd hg hne
theorem Gv.begun {d:Clk} {a:Nat} (hd:Cl H d) (ha:∀ u ∈ H,u.g≠a):Gv H ⟨d,0,0,a⟩:=by
 refine ⟨hd,?_,Int.le_refl _,fun h=>absurd (show (1:Int)≤0 from h) (by decide),fun u hu hg=>absurd hg (ha u hu)⟩
 show d a≤0
 by_cases e:1≤d a
 ·obtain ⟨u,hu,g,_⟩:=(hd a).2 e
  exact absurd g (ha u hu)
 ·omega
theorem Gv.clk_cl (hH:Hs H) (h:Gv H v):Cl H v.clk:=by
 by_cases e:1≤v.tm
 ·exact hH.cl v (h.mem e)
 ·have h0:v.tm=0:=by have:=h.nn;omega
  refine h.cl.eq (fun x=>?_)
  unfold Vw.clk vclk sgl
  have:=(h.cl x).1
  split <;> omega
end
def bef (H:List Vw) (i j:Nat):Prop:=i≠j∧∃ u v,H[i]?=some u∧H[j]?=some v∧u.tm≤v.clk u.g
theorem knows_clk {H:List Vw} (hH:Hs H) {v:Vw} (hv:v ∈ H) (x:Nat) (t:Int) (ht:1≤t):knows v.kn v.g v.tm x t=decide (t≤v.clk x):=by
 have h1:=hH.own v hv
 unfold knows
 by_cases e:x=v.g
 ·subst e;rw [if_pos rfl,v.clk_own h1.1]
 ·rw [if_neg e,v.clk_other e (h1.2 x)]
section
variable {H : List Vw} {i j k : Nat} {u v n : Vw}
theorem bef_lt (hH:Hs H) (h:bef H i j):i < j:=by
 obtain ⟨hne,u,v,hi,hj,ht⟩:=h
 have h1:=hH.one u (List.mem_of_getElem? hi)
 obtain ⟨u',hu',hg,htm,_⟩:=(hH.pre j v hj u.g).2 (by omega)
 obtain ⟨i',hi',he⟩:=List.getElem_of_mem hu'
 have hle:i'≤j:=by rw [List.length_take] at hi';omega
 have hi2:H[i']?=some u':=by
  have h9:(H.take (j+1))[i']?=some u':=by rw [List.getElem?_eq_getElem hi',he]
  rw [List.getElem?_take,if_pos (by omega)] at h9
  exact h9
 by_cases e:i≤i'
 ·omega
 ·have:=hH.ris i' i u' u hi2 hi hg (by omega)
  omega
end
end Go.Proofs.YtimgkhdgliojgaaGreatDoor
namespace Go.Proofs.YtimgkhdgliojgaaGreatDoor
structure ChF where
 free:Int
 sent:List (Nat × Clk)
 emp:List Clk
 unb:Bool
 rcv:Nat→Option Clk
 clo:Option Clk
structure FS where
 taken:Nat
 gs:Nat→Option Vw
 lr:Int→Clk
 lw:Int→Clk
 ch:Int→ChF
 wg:Int→Clk
 on:Int→Clk
 ato:Int→Clk
def zc:Clk:=fun _=>0
def ChF.new:ChF:=⟨0,[],[],false,fun _=>none,none⟩
def setN {α:Type} (f:Nat→α) (x:Nat) (v:α):Nat→α:=fun y=>if y=x then v else f y
theorem setN_same {α:Type} (f:Nat→α) (x:Nat) (v:α):setN f x v x=v:=if_pos rfl
theorem setN_other {α:Type} (f:Nat→α) {x y:Nat} (v:α) (h:y≠x):setN f x v y=f y:=if_neg h
def FS.new:FS:=⟨0,setN (fun _=>none) 0 (some ⟨zc,0,0,0⟩),fun _=>zc,fun _=>zc,fun _=>ChF.new,fun _=>zc,fun _=>zc,fun _=>zc⟩
def ChF.give (c:ChF) (e:Me):Clk :=
 if e.k=10 then if c.unb=true∨0 < c.free then zc else (c.emp.head?).getD zc
 else if e.k=11 then (c.rcv e.g.toNat).getD zc
 else if e.k=12 then if e.a=0 then c.clo.getD zc else ((c.sent.head?).map (·.2)).getD zc
 else zc
def FS.give (F:FS) (e:Me):Clk :=
 if e.k=3 then F.lw e.o
 else if e.k=5 then F.lr e.o
 else if e.k=8 then ((F.gs e.a.toNat).map Vw.clk).getD zc
 else if 9≤e.k∧e.k≤13 then (F.ch e.o).give e
 else if e.k=15 then F.wg e.o
 else if e.k=16 then F.on e.o
 else if e.k=17∨e.k=19 then F.ato e.o
 else zc
def cmax (c d:Clk):Clk:=fun x=>max (c x) (d x)
def ChF.keep (c:ChF) (e:Me) (v:Vw):ChF :=
 if e.k=9 then { c with free:=e.a,unb:=decide (e.a=0) }
 else if e.k=10 then { c with free:=if c.unb=true then c.free else if 0 < c.free then c.free - 1 else c.free,emp:=if c.unb=true then c.emp else if 0 < c.free then c.emp else c.emp.tail,sent:=c.sent++[(v.g,v.clk)] }
 else if e.k=11 then { c with rcv:=setN c.rcv v.g none }
 else if e.k=12 then if e.a=0 then c else { c with sent:=c.sent.tail,rcv:=if c.unb=true then setN c.rcv ((c.sent.head?.map (·.1)).getD 0) (some v.clk) else c.rcv,emp:=if c.unb=true then c.emp else if c.clo.isNone then c.emp++[v.clk] else c.emp }
 else if e.k=13 then { c with clo:=some v.clk,emp:=[] }
 else c
def FS.keep (F:FS) (e:Me) (v:Vw):FS :=
 if e.k=4 then { F with lr:=setF F.lr e.o v.clk,lw:=setF F.lw e.o v.clk }
 else if e.k=6 then { F with lw:=setF F.lw e.o (cmax (F.lw e.o) v.clk) }
 else if 9≤e.k∧e.k≤13 then { F with ch:=setF F.ch e.o ((F.ch e.o).keep e v) }
 else if e.k=14∨e.k=15 then if mzag e.a < 0 then { F with wg:=setF F.wg e.o (cmax (F.wg e.o) v.clk) } else F
 else if e.k=16 then if e.a=1 then { F with on:=setF F.on e.o v.clk } else F
 else if e.k=18∨e.k=19 then { F with ato:=setF F.ato e.o (cmax (F.ato e.o) v.clk) }
 else F
def FS.gor (F:FS) (e:Me) (v:Vw):Nat→Option Vw :=
 if e.k=7 then setN (setN F.gs v.g (some v)) e.a.toNat (some ⟨v.clk,0,0,e.a.toNat⟩)
 else if e.k=8 then setN (setN F.gs v.g (some v)) e.a.toNat none
 else setN F.gs v.g (some v)
def FS.next (F:FS) (e:Me) (v:Vw):FS:={ F.keep e v with taken:=F.taken+1,gs:=F.gor e v }
structure ChI (H:List Vw) (c:ChF):Prop where
 sent:∀ p ∈ c.sent,Cl H p.2
 emp:∀ d ∈ c.emp,Cl H d
 rcv:∀ g d,c.rcv g=some d→Cl H d
 clo:∀ d,c.clo=some d→Cl H d
structure FI (H:List Vw) (F:FS):Prop where
 hs:Hs H
 tk:F.taken=H.length
 gs:∀ g v,F.gs g=some v→v.g=g∧Gv H v
 lr:∀ o,Cl H (F.lr o)
 lw:∀ o,Cl H (F.lw o)
 wg:∀ o,Cl H (F.wg o)
 on:∀ o,Cl H (F.on o)
 ato:∀ o,Cl H (F.ato o)
 ch:∀ o,ChI H (F.ch o)
section
variable {H : List Vw} {F : FS} {e : Me} {v n : Vw} {c d : Clk} {q : ChF}
theorem cl_zc (H:List Vw):Cl H zc:=Cl.zero H
theorem Cl.cmax (h:Cl H c) (k:Cl H d):Cl H (cmax c d):=h.max k
theorem ChI.more (h:ChI H q) (n:Vw):ChI (H++[n]) q:=⟨fun p hp=>(h.sent p hp).more n,fun d hd=>(h.emp d hd).more n,fun g d hd=>(h.rcv g d hd).more n,fun d hd=>(h.clo d hd).more n⟩
theorem ChI.new (H:List Vw):ChI H ChF.new:=⟨fun p hp=>(by cases hp),fun d hd=>(by cases hd),fun g d hd=>(by cases hd),fun d hd=>(by cases hd)⟩
theorem FI.new:FI [] FS.new:=by
 refine ⟨Hs.nil,rfl,fun g v h=>?_,fun o=>cl_zc _,fun o=>cl_zc _,fun o=>cl_zc _,fun o=>cl_zc _,fun o=>cl_zc _,fun o=>ChI.new _⟩
 have h':setN (fun _=>none) 0 (some (⟨zc,0,0,0⟩:Vw)) g=some v:=h
 by_cases e:g=0
 ·subst e
  rw [setN_same] at h'
  cases h'
  exact ⟨rfl,Gv.begun (cl_zc _) (fun u hu=>(by cases hu))⟩
 ·rw [setN_other _ _ e] at h';cases h'
theorem ChI.give (h:ChI H q) (e:Me):Cl H (q.give e):=by
 unfold ChF.give
 split
 ·split
  ·exact cl_zc _
  ·cases hq:q.emp with
   | nil=>exact cl_zc _
   | cons d l=>exact h.emp d (by rw [hq];exact List.mem_cons.2 (.inl rfl))
 ·split
  ·cases hq:q.rcv e.g.toNat with
   | none=>exact cl_zc _
   | some d=>exact h.rcv _ d hq
  ·split
   ·split
    ·cases hq:q.clo with
     | none=>exact cl_zc _
     | some d=>exact h.clo d hq
    ·cases hq:q.sent with
     | nil=>exact cl_zc _
     | cons d l=>exact h.sent d (by rw [hq];exact List.mem_cons.2 (.inl rfl))
   ·exact cl_zc _
theorem FI.give (h:FI H F) (e:Me):Cl H (F.give e):=by
 unfold FS.give
 split
 ·exact h.lw _
 split
 ·exact h.lr _
 split
 ·cases hq:F.gs e.a.toNat with
  | none=>exact cl_zc _
  | some u=>exact (h.gs _ u hq).2.clk_cl h.hs
 split
 ·exact (h.ch _).give e
 split
 ·exact h.wg _
 split
 ·exact h.on _
 split
 ·exact h.ato _
 ·exact cl_zc _
theorem mem_tail {α:Type} {l:List α} {x:α} (h:x ∈ l.tail):x ∈ l:=by
 cases l with
 | nil=>cases h
 | cons y l=>exact List.mem_cons.2 (.inr h)
theorem ChI.keep (h:ChI H q) (e:Me) (hn:Cl H n.clk):ChI H (q.keep e n):=by
 unfold ChF.keep
 split
 ·exact ⟨h.sent,h.emp,h.rcv,h.clo⟩
 split
 ·refine ⟨fun p hp=>?_,fun d hd=>?_,h.rcv,h.clo⟩
  ·rcases List.mem_append.1 hp with hp|hp
   ·exact h.sent p hp
   ·cases List.mem_singleton.1 hp;exact hn
  ·dsimp only at hd
   split at hd
   ·exact h.emp d hd
   ·split at hd
    ·exact h.emp d hd
    ·exact h.emp d (mem_tail hd)
 split
 ·refine ⟨h.sent,h.emp,fun g d hd=>?_,h.clo⟩
  dsimp only at hd
  by_cases e:g=n.g
  ·subst e;rw [setN_same] at hd;cases hd
  ·rw [setN_other _ _ e] at hd;exact h.rcv g d hd
 split
 ·split
  ·exact h
  ·refine ⟨fun p hp=>h.sent p (mem_tail hp),fun d hd=>?_,fun g d hd=>?_,h.clo⟩
   ·dsimp only at hd
    split at hd
    ·exact h.emp d hd
    ·split at hd
     ·rcases List.mem_append.1 hd with hd|hd
      ·exact h.emp d hd
      ·cases List.mem_singleton.1 hd;exact hn
     ·exact h.emp d hd
   ·dsimp only at hd
    split at hd
    ·by_cases e:g=(q.sent.head?.map (·.1)).getD 0
     ·subst e;rw [setN_same] at hd;cases hd;exact hn
     ·rw [setN_other _ _ e] at hd;exact h.rcv g d hd
    ·exact h.rcv g d hd
 split
 ·exact ⟨h.sent,fun d hd=>(by cases hd),h.rcv,fun d hd=>by cases hd;exact hn⟩
 ·exact h
theorem setF_all {α:Type} {P:α→Prop} {f:Int→α} {x:Int} {u:α} (h:∀ o,P (f o)) (hu:P u) (o:Int):P (setF f x u o):=by
 by_cases e:o=x
 ·subst e;rw [setF_same];exact hu
 ·rw [setF_other _ _ e];exact h o
theorem FI.step (h:FI H F) (hv:F.gs v.g=some v) (hF:e.k=7→(∀ u ∈ H,u.g≠e.a.toNat)∧e.a.toNat≠v.g) (hJ:e.k=8→e.a.toNat≠v.g):FI (H++[v.next (F.give e) F.taken]) (F.next e (v.next (F.give e) F.taken)):=by
 obtain ⟨n,hn⟩:∃ n,n=v.next (F.give e) F.taken:=⟨_,rfl⟩
 have hg:=(h.gs _ v hv).2
 have hc:=h.give e
 have h1:Hs (H++[n]):=by rw [hn];exact h.hs.step hg hc
 have h2:Gv (H++[n]) n:=by rw [hn];exact hg.step h.hs hc
 have h3:Cl (H++[n]) n.clk:=by rw [hn];exact next_cl h.hs hg hc
 have hng:n.g=v.g:=by rw [hn];rfl
 rw [← hn]
 have hgs0:∀ g u,setN F.gs n.g (some n) g=some u→u.g=g∧Gv (H++[n]) u:=fun g u hu=>by
  by_cases e:g=n.g
  ·subst e;rw [setN_same] at hu;cases hu;exact ⟨rfl,h2⟩
  ·rw [setN_other _ _ e] at hu
   obtain ⟨a,b⟩:=h.gs g u hu
   exact ⟨a,b.other (by rw [a];exact fun q=>e q.symm)⟩
 have hgs:∀ g u,F.gor e n g=some u→u.g=g∧Gv (H++[n]) u:=fun g u hu=>by
  unfold FS.gor at hu
  split at hu
  ·rename_i hk
   obtain ⟨f1,f2⟩:=hF hk
   by_cases ea:g=e.a.toNat
   ·subst ea
    rw [setN_same] at hu
    cases hu
    refine ⟨rfl,Gv.begun h3 (fun z hz=>?_)⟩
    rcases List.mem_append.1 hz with hz|hz
    ·exact f1 z hz
    ·cases List.mem_singleton.1 hz;rw [hng];exact fun q=>f2 q.symm
   ·rw [setN_other _ _ ea] at hu;exact hgs0 g u hu
  ·split at hu
   ·by_cases ea:g=e.a.toNat
    ·subst ea;rw [setN_same] at hu;cases hu
    ·rw [setN_other _ _ ea] at hu;exact hgs0 g u hu
   ·exact hgs0 g u hu
 have m:∀ {c:Clk},Cl H c→Cl (H++[n]) c:=fun q=>q.more n
 have base:∀ G:FS,(∀ o,Cl (H++[n]) (G.lr o))→(∀ o,Cl (H++[n]) (G.lw o))→(∀ o,Cl (H++[n]) (G.wg o))→(∀ o,Cl (H++[n]) (G.on o))→(∀ o,Cl (H++[n]) (G.ato o))→(∀ o,ChI (H++[n]) (G.ch o))→FI (H++[n]) { G with taken:=F.taken+1,gs:=F.gor e n } :=
  fun G a1 a2 a3 a4 a5 a6=>⟨h1,by show F.taken+1=_;rw [List.length_append,h.tk];rfl,hgs,a1,a2,a3,a4,a5,a6⟩
 have lr:=fun o=>m (h.lr o)
 have lw:=fun o=>m (h.lw o)
 have wg:=fun o=>m (h.wg o)
 have on:=fun o=>m (h.on o)
 have ato:=fun o=>m (h.ato o)
 have ch:=fun o=>(h.ch o).more n
 unfold FS.next FS.keep
 split
 ·exact base _ (setF_all lr h3) (setF_all lw h3) wg on ato ch
 split
 ·exact base _ lr (setF_all lw ((lw _).cmax h3)) wg on ato ch
 split
 ·exact base _ lr lw wg on ato (setF_all ch ((ch _).keep e h3))
 split
 ·split
  ·exact base _ lr lw (setF_all wg ((wg _).cmax h3)) on ato ch
  ·exact base _ lr lw wg on ato ch
 split
 ·split
  ·exact base _ lr lw wg (setF_all on h3) ato ch
  ·exact base _ lr lw wg on ato ch
 split
 ·exact base _ lr lw wg on (setF_all ato ((ato _).cmax h3)) ch
 ·exact base _ lr lw wg on ato ch
end
end Go.Proofs.YtimgkhdgliojgaaGreatDoor
namespace Go.Proofs.YtimgkhdgliojgaaGreatDoor
def nmd (T:List Me) (k x:Int):Bool:=T.any fun e=>decide (e.k=k∧e.a=x)
structure Gdm (e:Me):Prop where
 g:0≤e.g∧e.g≤65535
 on:e.k=16→e.a=0∨e.a=1
 rc:e.k=12→e.a=0∨e.a=1
 al:e.k=20→1≤e.a
inductive Rch:List Me→CS→Prop
 | new:Rch [] CS.new
 | step {T:List Me} {M:CS} {e:Me}:Rch T M→Gdm e→M.why e=0→Rch (T++[e]) (M.next e)
section
variable {T : List Me} {M : CS} {e : Me} {r : Gor} {k o a x g : Int}
theorem nmd_snoc:nmd (T++[e]) k x=(nmd T k x || decide (e.k=k∧e.a=x)):=by
 unfold nmd;simp [List.any_append]
structure Can (M:CS) (e:Me) (r:Gor):Prop where
 gs:M.gs e.g=some r
 al:has e.g M.alive=true
 du:0 < r.as_→e.k=11∧e.o=r.to
 ask:M.ask e r=0
 nx:M.next e=(M.doo e r).tick
theorem why_can (h:M.why e=0):∃ r,Can M e r:=by
 unfold CS.why at h
 cases hg:M.gs e.g with
 | none=>rw [hg] at h;simp at h
 | some r =>
  rw [hg] at h
  simp only at h
  have h0:M.act e=0:=by
   by_cases h0:M.act e=0
   ·exact h0
   ·rw [if_pos h0] at h;exact h
  rw [if_neg (by simp [h0])] at h
  unfold CS.act at h0
  rw [hg] at h0
  simp only at h0
  by_cases ha:has e.g M.alive=true
  ·rw [if_pos ha] at h0
   refine ⟨r,hg,ha,fun h1=>?_,h,?_⟩
   ·by_cases h2:e.k≠11∨e.o≠r.to
    ·rw [if_pos ⟨h1,h2⟩] at h0;simp at h0
    ·omega
   ·unfold CS.next;rw [hg]
  ·rw [if_neg ha] at h0;simp at h0
def chNext (M:CS) (e:Me):Int→Option Chn :=
 if e.k=9 then setF M.chans e.o (some ⟨e.a,0,0,false⟩)
 else match M.chans e.o with
  | none=>M.chans
  | some c=>if e.k=10 then setF M.chans e.o (some { c with sends:=c.sends+1 }) else if e.k=12 then setF M.chans e.o (some { c with recvs:=c.recvs+e.a }) else if e.k=13 then setF M.chans e.o (some { c with closed:=true }) else M.chans
theorem doo_chans:(M.doo e r).tick.chans=chNext M e:=by
 show (M.doo e r).chans=_
 unfold CS.doo chNext
 by_cases h3:e.k=3
 ·cases hc:M.chans e.o <;> simp [h3]
 by_cases h4:e.k=4
 ·cases hc:M.chans e.o <;> simp [h4]
 by_cases h5:e.k=5
 ·cases hc:M.chans e.o <;> simp [h5]
 by_cases h6:e.k=6
 ·cases hc:M.chans e.o <;> simp [h6]
 by_cases h7:e.k=7
 ·cases hc:M.chans e.o <;> simp [h7]
 by_cases h8:e.k=8
 ·cases hc:M.chans e.o <;> simp [h8]
 by_cases h9:e.k=9
 ·simp [h9]
 by_cases h10:e.k=10
 ·cases hc:M.chans e.o <;> simp [h10]
 by_cases h11:e.k=11
 ·cases hc:M.chans e.o <;> simp [h11]
 by_cases h12:e.k=12
 ·cases hc:M.chans e.o <;> simp [h12]
 by_cases h13:e.k=13
 ·cases hc:M.chans e.o <;> simp [h13]
 by_cases h14:e.k=14
 ·cases hc:M.chans e.o <;> simp [h14]
 by_cases h16:e.k=16
 ·cases hc:M.chans e.o <;> simp [h16]
 by_cases h20:e.k=20
 ·cases hc:M.chans e.o <;> simp [h20]
 by_cases h21:e.k=21
 ·cases hc:M.chans e.o <;> simp [h21]
 cases hc:M.chans e.o <;> simp [h3,h4,h5,h6,h7,h8,h9,h10,h11,h12,h13,h14,h16,h20,h21]
theorem ask_chan (h:M.ask e r=0) (h1:9≤e.k) (h2:e.k≤13):e.k=9 ↔ M.chans e.o=none:=by
 unfold CS.ask CS.askChan at h
 rw [if_neg (by omega),if_neg (by omega),if_pos ⟨h1,h2⟩] at h
 cases hc:M.chans e.o with
 | none =>
  rw [hc] at h
  simp only at h
  by_cases hk:e.k=9
  ·exact ⟨fun _=>rfl,fun _=>hk⟩
  ·rw [if_neg hk] at h;simp at h
 | some c =>
  rw [hc] at h
  simp only at h
  refine ⟨fun hk=>?_,fun e9=>by cases e9⟩
  rw [if_pos hk] at h
  simp at h
end
end Go.Proofs.YtimgkhdgliojgaaGreatDoor
namespace Go.Proofs.YtimgkhdgliojgaaGreatDoor
def bgT (T:List Me) (g:Int):Bool:=decide (g=0) || nmd T 7 g
section
variable {T : List Me} {M : CS} {e : Me} {r : Gor} {k o a x g : Int}
theorem doo_alive:(M.doo e r).tick.alive=if e.k=7 then insE e.a 0 M.alive else if e.k=8 then delE e.a M.alive else M.alive:=by
 show (M.doo e r).alive=_
 unfold CS.doo
 by_cases h3:e.k=3
 ·simp [h3]
 by_cases h4:e.k=4
 ·simp [h4]
 by_cases h5:e.k=5
 ·simp [h5]
 by_cases h6:e.k=6
 ·simp [h6]
 by_cases h7:e.k=7
 ·simp [h7]
 by_cases h8:e.k=8
 ·simp [h8]
 by_cases h9:e.k=9
 ·simp [h9]
 by_cases h10:e.k=10
 ·cases hc:M.chans e.o <;> simp [h10]
 by_cases h11:e.k=11
 ·simp [h11]
 by_cases h12:e.k=12
 ·cases hc:M.chans e.o <;> simp [h12]
 by_cases h13:e.k=13
 ·cases hc:M.chans e.o <;> simp [h13]
 by_cases h14:e.k=14
 ·simp [h14]
 by_cases h16:e.k=16
 ·simp [h16]
 by_cases h20:e.k=20
 ·simp [h20]
 by_cases h21:e.k=21
 ·simp [h21]
 simp [h3,h4,h5,h6,h7,h8,h9,h10,h11,h12,h13,h14,h16,h20,h21]
def gNext (M:CS) (e:Me) (r:Gor):Gor :=
 if e.k=3 then { r with held:=insE e.o 1 r.held }
 else if e.k=4 then { r with held:=delE e.o r.held }
 else if e.k=5 then { r with held:=insE e.o ((look e.o r.held).getD 0+1) r.held }
 else if e.k=6 then { r with held:=if (look e.o r.held).getD 0 - 1=0 then delE e.o r.held else insE e.o ((look e.o r.held).getD 0 - 1) r.held }
 else if e.k=10 then match M.chans e.o with
  | none=>r
  | some c=>if c.room=0 then { r with «to»:=e.o,as_:=c.sends+1 } else r
 else if e.k=11 then { r with «to»:=0,as_:=0 }
 else r
theorem setF_self {α:Type} (f:Int→α) (y:Int):setF f y (f y)=f:=by
 funext q
 by_cases h:q=y
 ·rw [h,setF_same]
 ·rw [setF_other _ _ h]
theorem doo_gs (hr:M.gs e.g=some r):(M.doo e r).tick.gs=if e.k=7 then setF M.gs e.a (some ⟨[],0,0⟩) else setF M.gs e.g (some (gNext M e r)):=by
 have hs:setF M.gs e.g (some r)=M.gs:=by rw [← hr];exact setF_self _ _
 show (M.doo e r).gs=_
 unfold CS.doo gNext
 by_cases h3:e.k=3
 ·simp [h3]
 by_cases h4:e.k=4
 ·simp [h4]
 by_cases h5:e.k=5
 ·simp [h5]
 by_cases h6:e.k=6
 ·simp [h6]
 by_cases h7:e.k=7
 ·simp [h7]
 by_cases h8:e.k=8
 ·simp [h8,hs]
 by_cases h9:e.k=9
 ·simp [h9,hs]
 by_cases h10:e.k=10
 ·cases hc:M.chans e.o with
  | none=>simp [h10,hs]
  | some c =>
   by_cases hz:c.room=0
   ·simp [h10,hz]
   ·simp [h10,hz,hs]
 by_cases h11:e.k=11
 ·simp [h11]
 by_cases h12:e.k=12
 ·cases hc:M.chans e.o <;> simp [h12,hs]
 by_cases h13:e.k=13
 ·cases hc:M.chans e.o <;> simp [h13,hs]
 by_cases h14:e.k=14
 ·simp [h14,hs]
 by_cases h16:e.k=16
 ·simp [h16,hs]
 by_cases h20:e.k=20
 ·simp [h20,hs]
 by_cases h21:e.k=21
 ·simp [h21,hs]
 simp [h3,h4,h5,h6,h7,h8,h9,h10,h11,h12,h13,h14,h16,h20,h21,hs]
theorem gNext_as:(gNext M e r).as_=if e.k=10 then (match M.chans e.o with
  | none=>r.as_
  | some c=>if c.room=0 then c.sends+1 else r.as_) else if e.k=11 then 0 else r.as_:=by
 unfold gNext
 by_cases h3:e.k=3
 ·simp [h3]
 by_cases h4:e.k=4
 ·simp [h4]
 by_cases h5:e.k=5
 ·simp [h5]
 by_cases h6:e.k=6
 ·simp [h6]
 by_cases h10:e.k=10
 ·cases hc:M.chans e.o with
  | none=>simp [h10]
  | some c =>
   by_cases hz:c.room=0
   ·simp [h10,hz]
   ·simp [h10,hz]
 by_cases h11:e.k=11
 ·simp [h11]
 simp [h3,h4,h5,h6,h10,h11]
theorem gNext_to:(gNext M e r).to=if e.k=10 then (match M.chans e.o with
  | none=>r.to
  | some c=>if c.room=0 then e.o else r.to) else if e.k=11 then 0 else r.to:=by
 unfold gNext
 by_cases h3:e.k=3
 ·simp [h3]
 by_cases h4:e.k=4
 ·simp [h4]
 by_cases h5:e.k=5
 ·simp [h5]
 by_cases h6:e.k=6
 ·simp [h6]
 by_cases h10:e.k=10
 ·cases hc:M.chans e.o with
  | none=>simp [h10]
  | some c =>
   by_cases hz:c.room=0
   ·simp [h10,hz]
   ·simp [h10,hz]
 by_cases h11:e.k=11
 ·simp [h11]
 simp [h3,h4,h5,h6,h10,h11]
structure LkG (T:List Me) (M:CS):Prop where
 bg:∀ g,(M.gs g).isSome=bgT T g
 al:∀ g,has g M.alive=(bgT T g && !nmd T 8 g)
 ris:Ris M.alive
 own:∀ e ∈ T,bgT T e.g=true
 jn:∀ g,nmd T 8 g=true→bgT T g=true
theorem LkG.new:LkG [] CS.new:=by
 refine ⟨fun g=>?_,fun g=>?_,List.pairwise_singleton ..,fun e he=>(by cases he),fun g hg=>(by cases hg)⟩
 ·by_cases h:g=0
  ·subst h;rfl
  ·simp [CS.new,setF_other _ _ h,bgT,nmd,h]
 ·by_cases h:g=0
  ·subst h;rfl
  ·have h2:¬ (0:Int)=g:=fun e=>h e.symm
   simp [CS.new,has,look,bgT,nmd,h,h2]
theorem bgT_snoc:bgT (T++[e]) g=(bgT T g || decide (e.k=7∧e.a=g)):=by
 unfold bgT;rw [nmd_snoc,Bool.or_assoc]
theorem ask_fork (h:M.ask e r=0) (hk:e.k=7):M.gs e.a=none:=by
 unfold CS.ask CS.askGor at h
 simp [hk] at h
 exact h
theorem ask_join (h:M.ask e r=0) (hk:e.k=8):∃ q,M.gs e.a=some q∧has e.a M.alive=true∧e.a≠e.g∧¬ 0 < q.as_:=by
 unfold CS.ask CS.askGor at h
 simp only [hk] at h
 cases hq:M.gs e.a with
 | none=>rw [hq] at h;simp at h
 | some q =>
  rw [hq] at h
  simp at h
  refine ⟨q,rfl,?_⟩
  by_cases h1:has e.a M.alive=true
  ·rw [if_pos h1] at h
   by_cases h2:e.a=e.g
   ·rw [if_pos h2] at h;simp at h
   ·rw [if_neg h2] at h
    by_cases h3:0 < q.as_
    ·rw [if_pos h3] at h;simp at h
    ·exact ⟨h1,h2,h3⟩
  ·rw [if_neg h1] at h;simp at h
theorem LkG.step (h:LkG T M) (hc:Can M e r):LkG (T++[e]) (M.next e):=by
 rw [hc.nx]
 have he:bgT T e.g=true:=by rw [← h.bg,hc.gs];rfl
 refine ⟨fun g=>?_,fun g=>?_,?_,fun x hx=>?_,fun g hg=>?_⟩
 ·rw [doo_gs hc.gs,bgT_snoc]
  by_cases hk:e.k=7
  ·rw [if_pos hk]
   by_cases hg:e.a=g
   ·subst hg;rw [setF_same];simp [hk]
   ·rw [setF_other _ _ (fun e9=>hg e9.symm),h.bg];simp [hg]
  ·rw [if_neg hk]
   by_cases hg:g=e.g
   ·subst hg;rw [setF_same,he];rfl
   ·rw [setF_other _ _ hg,h.bg];simp [hk]
 ·rw [doo_alive,bgT_snoc,nmd_snoc]
  by_cases h7:e.k=7
  ·have hn:=ask_fork hc.ask h7
   have hb:bgT T e.a=false:=by rw [← h.bg,hn];rfl
   rw [if_pos h7]
   unfold has
   rw [look_insE]
   by_cases hg:g=e.a
   ·subst hg
    rw [if_pos rfl]
    have h8:nmd T 8 e.a=false:=by
     cases h9:nmd T 8 e.a with
     | false=>rfl
     | true=>rw [h.jn _ h9] at hb;cases hb
    simp [h7,h8]
   ·rw [if_neg hg]
    have:=h.al g
    unfold has at this
    rw [this]
    have hg2:¬ e.a=g:=fun e9=>hg e9.symm
    simp [h7,hg2]
  ·rw [if_neg h7]
   by_cases h8:e.k=8
   ·rw [if_pos h8]
    unfold has
    rw [look_delE h.ris]
    by_cases hg:g=e.a
    ·subst hg;rw [if_pos rfl];simp [h8]
    ·rw [if_neg hg]
     have:=h.al g
     unfold has at this
     rw [this]
     have hg2:¬ e.a=g:=fun e9=>hg e9.symm
     simp [h8,hg2]
   ·rw [if_neg h8,h.al];simp [h7,h8]
 ·rw [doo_alive]
  by_cases h7:e.k=7
  ·rw [if_pos h7];exact h.ris.ins _ _
  ·rw [if_neg h7]
   by_cases h8:e.k=8
   ·rw [if_pos h8];exact h.ris.del _
   ·rw [if_neg h8];exact h.ris
 ·rw [bgT_snoc]
  rcases List.mem_append.1 hx with hx|hx
  ·rw [h.own x hx];rfl
  ·simp at hx;subst hx;rw [he];rfl
 ·rw [nmd_snoc,Bool.or_eq_true] at hg
  rw [bgT_snoc]
  rcases hg with hg|hg
  ·rw [h.jn g hg];rfl
  ·have h1:=of_decide_eq_true hg
   obtain ⟨q,hq,_⟩:=ask_join hc.ask h1.1
   have:bgT T e.a=true:=by rw [← h.bg,hq];rfl
   rw [← h1.2,this];rfl
theorem Rch.lkG (h:Rch T M):LkG T M:=by
 induction h with
 | new=>exact LkG.new
 | step _ hg hw ih=>obtain ⟨r,hc⟩:=why_can hw;exact ih.step hc
end
end Go.Proofs.YtimgkhdgliojgaaGreatDoor
namespace Go.Proofs.YtimgkhdgliojgaaGreatDoor
section
variable {T : List Me} {M : CS} {e : Me} {r : Gor} {k o a x g : Int}
end
end Go.Proofs.YtimgkhdgliojgaaGreatDoor
namespace Go.Proofs.YtimgkhdgliojgaaGreatDoor
section
variable {T : List Me} {M : CS} {e : Me} {r : Gor} {k o a x g : Int}
end
end Go.Proofs.YtimgkhdgliojgaaGreatDoor
namespace Go.Proofs.YtimgkhdgliojgaaGreatDoor
section
variable {T : List Me} {M : CS} {e : Me} {r : Gor} {k o a x g : Int}
end
end Go.Proofs.YtimgkhdgliojgaaGreatDoor
namespace Go.Proofs.YtimgkhdgliojgaaGreatDoor
set_option linter.unusedSimpArgs false
section
variable {T : List Me} {M : CS} {e : Me} {r : Gor} {k o a x g : Int}
end
end Go.Proofs.YtimgkhdgliojgaaGreatDoor
