import Derived.Test.YtnfcemohjaiipaaGreatDoorZm00
import Derived.Test.YtnfcemohjaiipaaGreatDoorZm01
import Derived.Test.YtnfcemohjaiipaaGreatDoorZm02
import Derived.Test.YtnfcemohjaiipaaGreatDoorZm03
import Derived.Test.YtnfcemohjaiipaaGreatDoorZm04
import Derived.Test.YtnfcemohjaiipaaGreatDoorZm05
import Derived.Test.YtnfcemohjaiipaaGreatDoorZm06
import Derived.Test.YtnfcemohjaiipaaGreatDoorZm07
import Derived.Test.YtnfcemohjaiipaaGreatDoorZm08
import Derived.Test.YtnfcemohjaiipaaGreatDoorZm09
import Derived.Test.YtnfcemohjaiipaaGreatDoorZm10
import Derived.Test.YtnfcemohjaiipaaGreatDoorZm11
import Derived.Test.YtnfcemohjaiipaaGreatDoorZm12
import Derived.Test.YtnfcemohjaiipaaGreatDoorZm13
import Derived.Test.YtnfcemohjaiipaaGreatDoorZm14
import Derived.Test.YtnfcemohjaiipaaGreatDoorZm15
import Derived.Test.YtnfcemohjaiipaaGreatDoorZm16
import Derived.Test.YtnfcemohjaiipaaGreatDoorZm17
import Derived.Test.YtnfcemohjaiipaaGreatDoorZm18
import Derived.Test.YtnfcemohjaiipaaGreatDoorZm19
import Derived.Test.YtnfcemohjaiipaaGreatDoorZm20
import Derived.Test.YtnfcemohjaiipaaGreatDoorZm21
import Derived.Test.YtnfcemohjaiipaaGreatDoorZm22
import Derived.Test.YtnfcemohjaiipaaGreatDoorZm23
import Derived.Test.YtnfcemohjaiipaaGreatDoorZm24
import Derived.Test.YtnfcemohjaiipaaGreatDoorZm25
import Derived.Test.YtnfcemohjaiipaaGreatDoorZm26
import Derived.Test.YtnfcemohjaiipaaGreatDoorZm27
import Derived.Test.YtnfcemohjaiipaaGreatDoorZm28
import Derived.Test.YtnfcemohjaiipaaGreatDoorZm29
import Derived.Test.YtnfcemohjaiipaaGreatDoorZm30
import Derived.Test.YtnfcemohjaiipaaGreatDoorZm31
import Derived.Test.YtnfcemohjaiipaaGreatDoorZm32
import Derived.Test.YtnfcemohjaiipaaGreatDoorZm33
import Derived.Test.YtnfcemohjaiipaaGreatDoorZm34
import Derived.Test.YtnfcemohjaiipaaGreatDoorZm35
import Derived.Test.YtnfcemohjaiipaaGreatDoorZm36
import Derived.Test.YtnfcemohjaiipaaGreatDoorZm37
import Derived.Test.YtnfcemohjaiipaaGreatDoorZm38
import Derived.Test.YtnfcemohjaiipaaGreatDoorZm39
import Derived.Test.YtnfcemohjaiipaaGreatDoorZm40
import Derived.Test.YtnfcemohjaiipaaGreatDoorZm41
import Derived.Test.YtnfcemohjaiipaaGreatDoorZm42
import Derived.Test.YtnfcemohjaiipaaGreatDoorZm43
import Derived.Test.YtnfcemohjaiipaaGreatDoorZm44
import Derived.Test.YtnfcemohjaiipaaGreatDoorZm45
import Derived.Test.YtnfcemohjaiipaaGreatDoorZm46
import Derived.Test.YtnfcemohjaiipaaGreatDoorZm47
import Derived.Test.YtnfcemohjaiipaaGreatDoorZm48
import Derived.Test.YtnfcemohjaiipaaGreatDoorZm49
import Derived.Test.YtnfcemohjaiipaaGreatDoorZm50
import Derived.WalkKit
import Derived.WalkLawsBesides
import Derived.BigQuiet
import Derived.BigRegion
import Derived.Deep.QuietTactic
import Derived.Deep.RegionHeld3
import Derived.Deep.DeepCutAuto
import Derived.Deep.AppendLies
import Derived.WalkSpells
import Derived.WalkSmall
import Derived.Laws.AppendOwnNone
import Derived.Laws.OwnMore
import Derived.Lib.Tables
import Derived.Maps.OwnSet
import Derived.Maps.OwnOps
import Derived.KernelRfl
import Derived.Lib.MinMax
import Derived.RangeFuncNested
import Derived.RangeFuncBound
import Derived.RangeFuncCalls
import Derived.RangeFuncLeaves
import Derived.Shelf.Abstract
import Derived.Shelf.RegionOpen
import Derived.OwnWalkIn
import Derived.TacticsInMore
import Derived.LoopNIn
import Derived.LoopIn
set_option maxRecDepth 8000
set_option maxHeartbeats 8000000
set_option linter.unusedVariables false
namespace Go.Proofs.YtnfcemohjaiipaaGreatDoor
open Go.RowKit
theorem heap_new2 (w:World) (o p:Obj):((w.alloc o).alloc p).heap[w.heap.size+1]?=some p:=heap_newS (by simp)
end Go.Proofs.YtnfcemohjaiipaaGreatDoor
namespace Go.Proofs.YtnfcemohjaiipaaGreatDoor
open Go.RowKit Go.Maps
section
variable {w : World} {es : List E6.Ev} {ob : Nat}
theorem Len_nil:Calls Tryz.prog 18 #[.pointer none] w fun x w'=>x=.returned (.int .i64 0)∧w'=w:=by
 go_enter Tryz.func18,Tryz.ntmps18
 go_wp2
 go_ret
 exact ⟨rfl,rfl⟩
end
end Go.Proofs.YtnfcemohjaiipaaGreatDoor
namespace Go.Proofs.YtnfcemohjaiipaaGreatDoor
section
variable {H : List Vw} {i j : Nat} {u v : Vw}
theorem bef_leq (hH:Hs H) (hi:H[i]?=some u) (hj:H[j]?=some v):bef H i j ↔ i≠j∧∀ x,u.clk x≤v.clk x:=by
 have mu:=List.mem_of_getElem? hi
 have mv:=List.mem_of_getElem? hj
 have u1:=hH.one u mu
 constructor
 ·rintro ⟨hne,u',v',a,b,c⟩
  rw [hi] at a
  rw [hj] at b
  cases a
  cases b
  refine ⟨hne,fun x=>?_⟩
  obtain ⟨z,hz,zg,zt,zc⟩:=(hH.cl v mv u.g).2 (by omega)
  have h1:=hH.mono u mu z hz zg.symm (by omega) x
  have h2:=zc x
  omega
 ·rintro ⟨hne,h⟩
  have h1:=h u.g
  rw [u.clk_own (hH.own u mu).1] at h1
  exact ⟨hne,u,v,hi,hj,h1⟩
theorem bef_or (hH:Hs H) (hi:H[i]?=some u) (hj:H[j]?=some v):(befB H i j=true∨i=j) ↔ u.tm≤v.clk u.g:=by
 constructor
 ·rintro (h|rfl)
  ·unfold befB at h
   obtain ⟨_,u',v',a,b,c⟩:=@of_decide_eq_true _ (Classical.propDecidable _) h
   rw [hi] at a
   rw [hj] at b
   cases a
   cases b
   exact c
  ·rw [hi] at hj
   cases hj
   rw [u.clk_own (hH.own u (List.mem_of_getElem? hi)).1]
   omega
 ·intro h
  by_cases e:i=j
  ·exact .inr e
  ·refine .inl ?_
   unfold befB
   exact @decide_eq_true _ (Classical.propDecidable _) ⟨e,u,v,hi,hj,h⟩
structure Mx (H:List Vw) (g:Nat) (c:Int) (q:Nat) (m:Int):Prop where
 m0:0≤m
 le:∀ (y:Nat) z,y < q→H[y]?=some z→z.g=g→z.tm≤c→z.tm≤m
 ex:m=0∨∃ (y:Nat) (z:Vw),y < q∧H[y]?=some z∧z.g=g∧z.tm=m∧m≤c
theorem Mx.zero (H:List Vw) (g:Nat) (c:Int):Mx H g c 0 0:=⟨Int.le_refl _,fun y z h=>absurd h (Nat.not_lt_zero _),.inl rfl⟩
theorem Mx.skip {g:Nat} {c m:Int} {q:Nat} (h:Mx H g c q m) (hv:H[q]?=some v) (hn:v.g=g→¬ v.tm≤c):Mx H g c (q+1) m:=by
 refine ⟨h.m0,fun y z hy hz hg hc=>?_,h.ex.imp id ?_⟩
 ·by_cases e:y=q
  ·subst e
   rw [hv] at hz
   cases hz
   exact absurd hc (hn hg)
  ·exact h.le y z (by omega) hz hg hc
 ·rintro ⟨y,z,a,b⟩
  exact ⟨y,z,by omega,b⟩
theorem Mx.take {F:FS} {g:Nat} {c m:Int} {q:Nat} (hH:Hs H) (hD:RcD F H) (h:Mx H g c q m) (hv:H[q]?=some v) (hg:v.g=g) (hc:v.tm≤c):Mx H g c (q+1) (m+1)∧v.tm=m+1:=by
 have mv:=List.mem_of_getElem? hv
 have v1:=hH.one v mv
 have m0:=h.m0
 have hgt:m < v.tm:=by
  rcases h.ex with e|⟨y,z,a,b,zg,zt,_⟩
  ·omega
  ·have:=hH.ris y q z v b hv (zg.trans hg.symm) a;omega
 have heq:v.tm=m+1:=by
  by_cases e:v.tm=m+1
  ·exact e
  ·obtain ⟨z,hz,zg,zt⟩:=hD.dh v mv (v.tm - 1) (by omega) (by omega)
   obtain ⟨p,hp,hpe⟩:=List.getElem_of_mem hz
   have hp2:H[p]?=some z:=by rw [List.getElem?_eq_getElem hp,hpe]
   have hpq:p < q:=by
    by_cases e1:p < q
    ·exact e1
    ·by_cases e2:p=q
     ·subst e2
      rw [hv] at hp2
      cases hp2
      omega
     ·have:=hH.ris q p v z hv hp2 zg.symm (by omega);omega
   have:=h.le p z hpq hp2 (zg.trans hg) (by omega)
   omega
 refine ⟨⟨by omega,fun y z hy hz zg zc=>?_,.inr ⟨q,v,by omega,hv,hg,heq,by omega⟩⟩,heq⟩
 by_cases e:y=q
 ·subst e
  rw [hv] at hz
  cases hz
  omega
 ·have:=h.le y z (by omega) hz zg zc;omega
theorem Mx.done {g:Nat} {m:Int} (hH:Hs H) (hj:H[j]?=some v) (h:Mx H g (v.clk g) (j+1) m):m=v.clk g:=by
 have c0:=(hH.cl v (List.mem_of_getElem? hj) g).1
 have m0:=h.m0
 have hle:m≤v.clk g:=by
  rcases h.ex with e|⟨_,_,_,_,_,_,e⟩
  ·omega
  ·exact e
 by_cases e:1≤v.clk g
 ·obtain ⟨z,hz,zg,zt,_⟩:=(hH.pre j v hj g).2 e
  obtain ⟨p,hp,hpe⟩:=List.getElem_of_mem hz
  have hp2:(H.take (j+1))[p]?=some z:=by rw [List.getElem?_eq_getElem hp,hpe]
  rw [List.getElem?_take] at hp2
  split at hp2
  ·rename_i hl
   have:=h.le p z hl hp2 zg (by omega)
   omega
  ·cases hp2
 ·omega
end
section
variable {es : List E6.Ev} {i : Nat} {e : E6.Ev} {v : Vw}
theorem IsRun.rcd (h:IsRun es):∃ F,RcD F (vws es):=⟨_,(rs_rcf h.run h.gdf es.length (Nat.le_refl _)).1.more⟩
end
end Go.Proofs.YtnfcemohjaiipaaGreatDoor
namespace Go.Proofs.YtnfcemohjaiipaaGreatDoor.K17
open Go.RowKit
structure Tk where
 g:Int
 t:Int
deriving DecidableEq
def gd:Int→List Tk→Bool
 | _,[]=>true
 | m,x :: c=>decide (m≤x.g) && (decide (x.g < 65536) && (decide (1≤x.t) && gd (x.g+1) c))
def tm (g:Int):List Tk→Int
 | []=>0
 | x :: c=>if x.g=g then x.t else tm g c
theorem gd_cons {m:Int} {x:Tk} {c:List Tk}:gd m (x :: c)=true ↔ m≤x.g∧x.g < 65536∧1≤x.t∧gd (x.g+1) c=true:=by
 rw [gd];simp
theorem gd_mono {m k:Int} {c:List Tk} (h:gd m c=true) (hk:k≤m):gd k c=true:=by
 cases c with
 | nil=>rfl
 | cons x c =>
  obtain ⟨h1,h2⟩:=gd_cons.1 h
  exact gd_cons.2 ⟨by omega,h2⟩
theorem tm_low {m g:Int} {c:List Tk} (h:gd m c=true) (hg:g < m):tm g c=0:=by
 induction c generalizing m with
 | nil=>rfl
 | cons x c ih =>
  obtain ⟨h1,_,_,h4⟩:=gd_cons.1 h
  rw [tm,if_neg (by omega)]
  exact ih h4 (by omega)
theorem tm_high {m g:Int} {c:List Tk} (h:gd m c=true) (hg:65536≤g):tm g c=0:=by
 induction c generalizing m with
 | nil=>rfl
 | cons x c ih =>
  obtain ⟨_,h2,_,h4⟩:=gd_cons.1 h
  rw [tm,if_neg (by omega)]
  exact ih h4
theorem tm_pos {m g:Int} {c:List Tk} (h:gd m c=true):0≤tm g c:=by
 induction c generalizing m with
 | nil=>exact Int.le_refl 0
 | cons x c ih =>
  obtain ⟨_,_,h3,h4⟩:=gd_cons.1 h
  rw [tm]
  split
  ·omega
  ·exact ih h4
theorem tm_mem {m:Int} {c:List Tk} (h:gd m c=true) {x:Tk} (hx:x ∈ c):tm x.g c=x.t∧m≤x.g∧x.g < 65536∧1≤x.t:=by
 induction c generalizing m with
 | nil=>cases hx
 | cons y c ih =>
  obtain ⟨h1,h2,h3,h4⟩:=gd_cons.1 h
  rcases List.mem_cons.1 hx with rfl|hx
  ·exact ⟨by rw [tm,if_pos rfl],h1,h2,h3⟩
  ·obtain ⟨e1,e2,e3⟩:=ih h4 hx
   exact ⟨by rw [tm,if_neg (by omega)];exact e1,by omega,e3⟩
theorem tm_some {m g:Int} {c:List Tk} (h:gd m c=true) (hg:tm g c≠0):∃ x ∈ c,x.g=g∧x.t=tm g c:=by
 induction c generalizing m with
 | nil=>exact absurd rfl hg
 | cons y c ih =>
  obtain ⟨_,_,_,h4⟩:=gd_cons.1 h
  rw [tm] at hg ⊢
  split at hg
  ·rename_i e
   rw [if_pos e]
   exact ⟨y,by simp,e,rfl⟩
  ·rename_i e
   rw [if_neg e]
   obtain ⟨x,hx,h1⟩:=ih h4 hg
   exact ⟨x,by simp [hx],h1⟩
theorem gd_len {m:Int} {c:List Tk} (h:gd m c=true) (hm:m≤65536):(c.length:Int)≤65536 - m:=by
 induction c generalizing m with
 | nil=>simp;omega
 | cons x c ih =>
  obtain ⟨h1,h2,_,h4⟩:=gd_cons.1 h
  have:=ih h4 (by omega)
  simp only [List.length_cons]
  omega
theorem gd_len0 {c:List Tk} (h:gd 0 c=true):(c.length:Int)≤65536:=by have:=gd_len h (by omega);omega
def blw (m:Int) (c:List Tk):Prop:=∀ x ∈ c,x.g < m
theorem gd_app {m k:Int} {a b:List Tk} (ha:gd m a=true) (hl:blw k a) (hb:gd k b=true) (hk:m≤k):gd m (a++b)=true:=by
 induction a generalizing m with
 | nil=>exact gd_mono hb hk
 | cons x a ih =>
  obtain ⟨h1,h2,h3,h4⟩:=gd_cons.1 ha
  have hx:=hl x (by simp)
  exact gd_cons.2 ⟨h1,h2,h3,ih h4 (fun y hy=>hl y (by simp [hy])) (by omega)⟩
theorem tm_app {k:Int} {a b:List Tk} (hl:blw k a) (hb:gd k b=true) (g:Int):tm g (a++b)=if g < k then tm g a else tm g b:=by
 induction a with
 | nil =>
  rw [List.nil_append]
  split
  ·rename_i h;rw [tm_low hb h];rfl
  ·rfl
 | cons x a ih =>
  have hx:=hl x (by simp)
  have ih:=ih (fun y hy=>hl y (by simp [hy]))
  rw [List.cons_append,tm,tm,ih]
  by_cases e:x.g=g
  ·rw [if_pos e,if_pos e,if_pos (by omega)]
  ·rw [if_neg e,if_neg e]
theorem blw_mono {m k:Int} {c:List Tk} (h:blw m c) (hk:m≤k):blw k c:=fun x hx=>by have:=h x hx;omega
theorem blw_app {m:Int} {a b:List Tk} (h:blw m a) (k:blw m b):blw m (a++b):=fun x hx=>by
 rcases List.mem_append.1 hx with hx|hx
 ·exact h x hx
 ·exact k x hx
theorem gd_one {m g t:Int} (h1:m≤g) (h2:g < 65536) (h3:1≤t):gd m [⟨g,t⟩]=true:=gd_cons.2 ⟨h1,h2,h3,rfl⟩
def leB (a b:List Tk):Bool:=a.all fun x=>decide (x.t≤tm x.g b)
theorem leB_iff {m k:Int} {a b:List Tk} (ha:gd m a=true) (hb:gd k b=true):leB a b=true ↔ ∀ g,tm g a≤tm g b:=by
 unfold leB
 rw [List.all_eq_true]
 constructor
 ·intro h g
  by_cases h0:tm g a=0
  ·rw [h0];exact tm_pos hb
  ·obtain ⟨x,hx,e1,e2⟩:=tm_some ha h0
   have:=h x hx
   simp only [decide_eq_true_eq] at this
   rw [← e2,← e1];exact this
 ·intro h x hx
  have:=h x.g
  rw [(tm_mem ha hx).1] at this
  simpa using this
theorem leB_false {m k:Int} {a b:List Tk} (ha:gd m a=true) (hb:gd k b=true) {g:Int} (h:tm g b < tm g a):leB a b=false:=by
 cases e:leB a b with
 | false=>rfl
 | true=>have:=(leB_iff ha hb).1 e g;omega
def lo:List Tk→Int
 | []=>65536
 | x :: _=>x.g
def tk1 (g:Int):List Tk→Int
 | []=>0
 | x :: _=>if x.g=g then x.t else 0
def tk2 (g:Int):List Tk→List Tk
 | []=>[]
 | x :: c=>if x.g=g then c else x :: c
theorem lo_ge {m:Int} {c:List Tk} (h:gd m c=true) (hm:m≤65536):m≤lo c∧lo c≤65536:=by
 cases c with
 | nil=>exact ⟨hm,Int.le_refl _⟩
 | cons x c=>obtain ⟨h1,h2,_⟩:=gd_cons.1 h;exact ⟨h1,by show x.g≤_;omega⟩
theorem lo_lt {m:Int} {c:List Tk} (h:gd m c=true) (hc:c≠[]):lo c < 65536:=by
 cases c with
 | nil=>exact absurd rfl hc
 | cons x c=>obtain ⟨_,h2,_⟩:=gd_cons.1 h;exact h2
theorem gd_lo {m:Int} {c:List Tk} (h:gd m c=true):gd (lo c) c=true:=by
 cases c with
 | nil=>rfl
 | cons x c=>obtain ⟨_,h2⟩:=gd_cons.1 h;exact gd_cons.2 ⟨Int.le_refl _,h2⟩
theorem tk_step {m g:Int} {c:List Tk} (h:gd m c=true) (hg:g≤lo c):tk1 g c=tm g c∧gd (g+1) (tk2 g c)=true∧(∀ k,g < k→tm k (tk2 g c)=tm k c):=by
 cases c with
 | nil=>exact ⟨rfl,rfl,fun _ _=>rfl⟩
 | cons x c =>
  obtain ⟨_,h2,h3,h4⟩:=gd_cons.1 h
  have hg2:g≤x.g:=hg
  by_cases e:x.g=g
  ·refine ⟨by rw [tk1,tm,if_pos e,if_pos e],by rw [tk2,if_pos e,← e];exact h4,fun k hk=>by rw [tk2,if_pos e,tm,if_neg (by omega)]⟩
  ·have h5:gd (g+1) (x :: c)=true:=gd_cons.2 ⟨by omega,h2,h3,h4⟩
   exact ⟨by rw [tk1,if_neg e,tm_low h5 (by omega)],by rw [tk2,if_neg e];exact h5,fun k _=>by rw [tk2,if_neg e]⟩
structure Rst (a b:List Tk) (m:Int) (ra rb:List Tk):Prop where
 ga:gd m ra=true
 gb:gd m rb=true
 la:∀ g,m≤g→tm g ra=tm g a
 lb:∀ g,m≤g→tm g rb=tm g b
 m0:0≤m
 m1:m≤65536
theorem Rst.start {a b:List Tk} (ha:gd 0 a=true) (hb:gd 0 b=true):Rst a b 0 a b:=⟨ha,hb,fun _ _=>rfl,fun _ _=>rfl,by omega,by omega⟩
def nx (ra rb:List Tk):Int:=min (lo ra) (lo rb)
theorem Rst.step {a b:List Tk} {m:Int} {ra rb:List Tk} (h:Rst a b m ra rb) (hn:ra≠[]∨rb≠[]) :
  m≤nx ra rb∧nx ra rb < 65536∧tk1 (nx ra rb) ra=tm (nx ra rb) a∧tk1 (nx ra rb) rb=tm (nx ra rb) b∧(∀ g,m≤g→g < nx ra rb→tm g a=0∧tm g b=0)∧Rst a b (nx ra rb+1) (tk2 (nx ra rb) ra) (tk2 (nx ra rb) rb):=by
 have l1:=lo_ge h.ga h.m1
 have l2:=lo_ge h.gb h.m1
 have e1:nx ra rb≤lo ra:=by unfold nx;omega
 have e2:nx ra rb≤lo rb:=by unfold nx;omega
 have e3:m≤nx ra rb:=by unfold nx;omega
 have e4:nx ra rb < 65536:=by
  rcases hn with hn|hn
  ·have:=lo_lt h.ga hn;omega
  ·have:=lo_lt h.gb hn;omega
 obtain ⟨a1,a2,a3⟩:=tk_step h.ga e1
 obtain ⟨b1,b2,b3⟩:=tk_step h.gb e2
 refine ⟨e3,e4,by rw [a1,h.la _ e3],by rw [b1,h.lb _ e3],fun g hg hg2=>⟨?_,?_⟩,⟨a2,b2,fun g hg=>?_,fun g hg=>?_,by have:=h.m0;omega,by omega⟩⟩
 ·rw [← h.la g hg];exact tm_low (gd_lo h.ga) (by omega)
 ·rw [← h.lb g hg];exact tm_low (gd_lo h.gb) (by omega)
 ·rw [a3 g (by omega),h.la g (by omega)]
 ·rw [b3 g (by omega),h.lb g (by omega)]
theorem Rst.done {a b:List Tk} {m:Int} (h:Rst a b m [] []):∀ g,m≤g→tm g a=0∧tm g b=0:=fun g hg=>⟨(h.la g hg).symm,(h.lb g hg).symm⟩
def lft (ra rb:List Tk):Nat:=ra.length+rb.length
theorem tk2_len (g:Int) (c:List Tk):(tk2 g c).length≤c.length:=by
 cases c with
 | nil=>exact Nat.le_refl _
 | cons x c=>rw [tk2];split <;> simp
theorem nx_less {ra rb:List Tk} (h1:lo ra≤65536) (h2:lo rb≤65536) (h3:ra≠[]→lo ra < 65536) (h4:rb≠[]→lo rb < 65536) (hn:ra≠[]∨rb≠[]):lft (tk2 (nx ra rb) ra) (tk2 (nx ra rb) rb) < lft ra rb:=by
 have la:=tk2_len (nx ra rb) ra
 have lb:=tk2_len (nx ra rb) rb
 unfold lft
 by_cases e:lo ra≤lo rb
 ·have e1:nx ra rb=lo ra:=by unfold nx;omega
  cases ra with
  | nil =>
   have e9:lo ([]:List Tk)=65536:=rfl
   have:rb≠[]:=by simpa using hn
   have:=h4 this
   omega
  | cons x c =>
   have:(tk2 (nx (x :: c) rb) (x :: c)).length=c.length:=by rw [tk2,if_pos (by rw [e1];rfl)]
   rw [this]
   simp only [List.length_cons]
   omega
 ·have e1:nx ra rb=lo rb:=by unfold nx;omega
  cases rb with
  | nil =>
   have e9:lo ([]:List Tk)=65536:=rfl
   omega
  | cons x c =>
   have:(tk2 (nx ra (x :: c)) (x :: c)).length=c.length:=by rw [tk2,if_pos (by rw [e1];rfl)]
   rw [this]
   simp only [List.length_cons]
   omega
end Go.Proofs.YtnfcemohjaiipaaGreatDoor.K17
namespace Go.Proofs.YtnfcemohjaiipaaGreatDoor.K17
open Go.RowKit
def layT:Lay Tk:=⟨fun e=>[.int .i64 e.g,.int .i64 e.t],2,by decide,fun _=>rfl,by intro a u hu;simp at hu;rcases hu with rfl|rfl <;> rfl⟩
theorem Tryz.infoT:(Tryz.prog.info? 58).map (fun i=>(i.zero,i.size,i.bytes))=some (some (.agg #[.int .i64 0,.int .i64 0]),2,16):=by kernel_rfl
theorem get_ex {α:Type} {L:List α} {i:Nat} (h:i < L.length):∃ x,L[i]?=some x:=⟨_,List.getElem?_eq_getElem h⟩
theorem drop_at {α:Type} {L:List α} {i:Nat} {x:α} (h:L[i]?=some x):L.drop i=x :: L.drop (i+1):=by
 have hl:=get_lt h
 rw [List.drop_eq_getElem_cons hl]
 rw [List.getElem?_eq_getElem hl] at h
 cases h
 rfl
theorem _root_.Go.Proofs.YtnfcemohjaiipaaGreatDoor.TRow.some {w:World} {a:Option Addr} {n:Nat} {L:List Tk} (h:TRow layT w a n L) {i:Nat} (hi:i < n):∃ b off x,a=some ⟨b,off,none⟩∧L[i]?=some x∧b < w.heap.size∧w.cell? ⟨b,off+i * 2,none⟩=some (.int .i64 x.g)∧w.cell? ⟨b,off+i * 2+1,none⟩=some (.int .i64 x.t):=by
 obtain ⟨b,off,rfl,hb,hc⟩:=h.at (by omega)
 obtain ⟨x,hx⟩:=get_ex (L:=L) (i:=i) (by rw [h.len];exact hi)
 exact ⟨b,off,x,rfl,hx,hb,hc i x hx 0 _ rfl,hc i x hx 1 _ rfl⟩
theorem good_any (a:Option Addr) (n c:Nat) (L:List Tk) (w:World) (h:TRow layT w a n L) (hn:(n:Int)≤8796093022208) :
  Calls Tryz.prog 42 #[.slice a n c] w fun e w'=>e=.returned (.bool (gd 0 L))∧Below w.heap.size w w':=by
 have HT:=hide h
 obtain ⟨G,hG⟩:∃ G,gd 0 L=G:=⟨_,rfl⟩
 rw [hG]
 have HG:=hide hG
 clear h hG
 go_enter Tryz.func42,Tryz.ntmps42
 go_wp2
 go_loopw [3,8] (fun l i wr=>∃ (k:Nat) (m:Int),k≤n∧i=.int .i64 k∧l=.int .i64 m∧0≤m∧m≤65536∧Hid (gd m (L.drop k)=G∧Below w.heap.size w wr)) (fun _ i _=>n - (intOf i).toNat)
 case atStart=>exact ⟨0,0,Nat.zero_le _,rfl,rfl,by omega,by omega,hide ⟨by rw [List.drop_zero];exact HG.out,Below.refl _ _⟩⟩
 case round =>
  obtain ⟨k,m,hk,rfl,rfl,hm0,hm1,HR⟩:=hrel
  by_cases hlt:k < n
  ·have hltI:(k:Int) < n:=by omega
   obtain ⟨b,off,x,rfl,hx,hb,c0,c1⟩:=(HT.out.below HR.out.2).some hlt
   have HX:=hide (drop_at hx)
   have HB:=hide ((HR.out.2.alloc HR.out.2.size (.cells #[.int .i64 x.g,.int .i64 x.t] 58)))
   obtain ⟨xg,xt⟩:=x
   dsimp only at c0 c1 HB
   clear hx
   by_cases h1:xg < m
   ·have d1:decide (xg < m)=true:=decide_eq_true h1
    have HE:Hid (G=false):=hide (by rw [← HR.out.1,HX.out,gd];dsimp only;rw [decide_eq_false (by omega:¬ m≤xg)];rfl)
    go_wp2
    go_ret
    exact ⟨by rw [HE.out];rfl,HB.out⟩
   ·have d1:decide (xg < m)=false:=decide_eq_false h1
    by_cases h2:65536≤xg
    ·have d2:decide (65536≤xg)=true:=decide_eq_true h2
     have HE:Hid (G=false):=hide (by rw [← HR.out.1,HX.out,gd];dsimp only;rw [decide_eq_false (by omega:¬ xg < 65536)];simp)
     go_wp2
     go_ret
     exact ⟨by rw [HE.out];rfl,HB.out⟩
    ·have d2:decide (65536≤xg)=false:=decide_eq_false h2
     by_cases h3:xt < 1
     ·have d3:decide (xt < 1)=true:=decide_eq_true h3
      have HE:Hid (G=false):=hide (by rw [← HR.out.1,HX.out,gd];dsimp only;rw [decide_eq_false (by omega:¬ 1≤xt)];simp)
      go_wp2
      go_ret
      exact ⟨by rw [HE.out];rfl,HB.out⟩
     ·have d3:decide (xt < 1)=false:=decide_eq_false h3
      have HE:Hid (gd (xg+1) (L.drop (k+1))=G):=hide (by rw [← HR.out.1,HX.out,gd];dsimp only;rw [decide_eq_true (by omega:m≤xg),decide_eq_true (by omega:xg < 65536),decide_eq_true (by omega:1≤xt)];rfl)
      have hw:wrap64 (xg+1)=xg+1:=by unfold wrap64;omega
      have hm2:0≤xg+1:=by omega
      have hm3:xg+1≤65536:=by omega
      go_wp2
      exact ⟨⟨k+1,xg+1,by omega,by go_num,rfl,hm2,hm3,hide ⟨HE.out,HB.out⟩⟩,by simp [intOf];omega⟩
  ·have hkn:k=n:=by omega
   subst hkn
   have HE:Hid (G=true):=hide (by rw [← HR.out.1,List.drop_eq_nil_of_le (by rw [HT.out.len];exact Nat.le_refl _)];rfl)
   have hd:decide ((k:Int) < (k:Int))=false:=by simp
   go_wp2
   go_ret
   exact ⟨by rw [HE.out];rfl,HR.out.2⟩
def cmpI (a b:Int):Int:=if a < b then -1 else if b < a then 1 else 0
theorem nan_any (a:Int) (w:World):Calls Tryz.prog 137 #[.int .i64 a] w fun e w'=>e=.returned (.bool false)∧w'=w:=by
 go_enter Tryz.func137,Tryz.ntmps137
 go_wp2
 go_ret
 exact ⟨by simp,rfl⟩
theorem cmp_any (a b:Int) (w:World):Calls Tryz.prog 71 #[.int .i64 a,.int .i64 b] w fun e w'=>e=.returned (.int .i64 (cmpI a b))∧w'=w:=by
 have H1:=hide (nan_any a w)
 have H2:=hide (nan_any b w)
 obtain ⟨R,hR⟩:∃ R,R=cmpI a b:=⟨_,rfl⟩
 rw [← hR]
 unfold cmpI at hR
 have HR:=hide hR
 clear hR
 go_enter Tryz.func71,Tryz.ntmps71
 go_wp2_with fail
 refine H1.out.mono ?_
 rintro e w1 ⟨rfl,hw⟩
 rw [hw];clear hw w1
 go_wp2_with fail
 refine H2.out.mono ?_
 rintro e w1 ⟨rfl,hw⟩
 rw [hw];clear hw w1
 by_cases h1:a < b
 ·have hN:R=-1:=by rw [HR.out,if_pos h1]
  clear HR
  go_wp2
  go_ret
  exact ⟨by rw [hN];rfl,rfl⟩
 ·have d1:decide (a < b)=false:=decide_eq_false h1
  by_cases h2:b < a
  ·have hN:R=1:=by rw [HR.out,if_neg h1,if_pos h2]
   clear HR
   go_wp2
   go_ret
   exact ⟨by rw [hN];rfl,rfl⟩
  ·have d2:decide (b < a)=false:=decide_eq_false h2
   have hN:R=0:=by rw [HR.out,if_neg h1,if_neg h2]
   clear HR
   go_wp2
   go_ret
   exact ⟨by rw [hN];rfl,rfl⟩
theorem find1_any (a v k:Int) (w:World):Calls Tryz.prog 70 #[.agg #[.int .i64 a,.int .i64 v],.int .i64 k] w fun e w'=>e=.returned (.int .i64 (cmpI a k))∧Below w.heap.size w w':=by
 have H1:=hide (cmp_any a k (w.alloc (.cells #[.int .i64 a,.int .i64 v] 58)))
 have HB:=hide (below_alloc1 w (.cells #[.int .i64 a,.int .i64 v] 58))
 go_enter Tryz.func70,Tryz.ntmps70
 go_wp2_with fail
 refine H1.out.mono ?_
 rintro e w1 ⟨rfl,hw⟩
 rw [hw];clear hw w1
 go_wp2
 go_ret
 exact ⟨rfl,HB.out⟩
structure LB (L:List Tk) (k:Int) (j:Nat) (is:Bool):Prop where
 le:j≤L.length
 low:∀ e ∈ L.take j,e.g < k
 high:∀ e ∈ L.drop j,k≤e.g
 is:is=true ↔ ∃ v,L[j]?=some ⟨k,v⟩
def Ris (L:List Tk):Prop:=L.Pairwise fun x y=>x.g < y.g
theorem ris_of {m:Int} {L:List Tk} (h:gd m L=true):Ris L:=by
 induction L generalizing m with
 | nil=>exact List.Pairwise.nil
 | cons x L ih =>
  obtain ⟨_,_,_,h4⟩:=gd_cons.1 h
  exact List.Pairwise.cons (fun y hy=>by have:=(tm_mem h4 hy).2.1;omega) (ih h4)
theorem take_low {L:List Tk} (hR:Ris L) {h:Nat} {x:Tk} (hx:L[h]?=some x) {k:Int} (hk:x.g < k):∀ e ∈ L.take (h+1),e.g < k:=by
 intro e he
 have hl:=get_lt hx
 obtain ⟨i,hi,rfl⟩:=List.mem_iff_getElem.1 he
 rw [List.length_take] at hi
 rw [List.getElem_take]
 have hxe:L[h]=x:=(List.getElem?_eq_some_iff.1 hx).2
 by_cases e1:i=h
 ·subst e1;rw [hxe];exact hk
 ·have:=List.pairwise_iff_getElem.1 hR i h (by omega) hl (by omega)
  rw [hxe] at this
  omega
theorem drop_high {L:List Tk} (hR:Ris L) {h:Nat} {x:Tk} (hx:L[h]?=some x) {k:Int} (hk:k≤x.g):∀ e ∈ L.drop h,k≤e.g:=by
 intro e he
 have hl:=get_lt hx
 obtain ⟨i,hi,rfl⟩:=List.mem_iff_getElem.1 he
 rw [List.length_drop] at hi
 rw [List.getElem_drop]
 have hxe:L[h]=x:=(List.getElem?_eq_some_iff.1 hx).2
 by_cases e1:i=0
 ·subst e1
  simp only [Nat.add_zero]
  rw [hxe];exact hk
 ·have:=List.pairwise_iff_getElem.1 hR h (h+i) hl (by omega) (by omega)
  rw [hxe] at this
  omega
theorem cmpI_lt {a b:Int}:decide (cmpI a b < 0)=decide (a < b):=by
 unfold cmpI
 by_cases h:a < b
 ·rw [if_pos h];simp [h]
 ·rw [if_neg h]
  by_cases h2:b < a
  ·rw [if_pos h2];simp [h]
  ·rw [if_neg h2];simp [h]
theorem cmpI_eq {a b:Int}:(cmpI a b == 0)=decide (a=b):=by
 unfold cmpI
 by_cases h:a < b
 ·rw [if_pos h];rw [decide_eq_false (by omega)];rfl
 ·rw [if_neg h]
  by_cases h2:b < a
  ·rw [if_pos h2];rw [decide_eq_false (by omega)];rfl
  ·rw [if_neg h2];rw [decide_eq_true (by omega)];rfl
theorem bsT_any (a:Option Addr) (n c:Nat) (L:List Tk) (k:Int) (w:World) (h:TRow layT w a n L) (hR:Ris L) (hn:(n:Int)≤4000000) :
  Calls Tryz.prog 69 #[.slice a n c,.int .i64 k,.func (.func 70) #[] #[]] w fun e w'=>∃ (j:Nat) (is:Bool),e=.returned (.tuple #[.int .i64 (j:Int),.bool is])∧LB L k j is∧Below w.heap.size w w':=by
 have HT:=hide h
 have HR:=hide hR
 clear h hR
 go_enter Tryz.func69,Tryz.ntmps69
 go_wp2
 go_loopw [9,10] (fun i j wr=>∃ p q:Nat,p≤q∧q≤n∧i=.int .i64 p∧j=.int .i64 q∧(∀ e ∈ L.take p,e.g < k)∧(∀ e ∈ L.drop q,k≤e.g)∧Below w.heap.size w wr) (fun i j _=>(intOf j).toNat - (intOf i).toNat)
 case atStart=>exact ⟨0,n,Nat.zero_le _,Nat.le_refl _,rfl,rfl,by simp,by rw [← HT.out.len];simp,Below.refl _ _⟩
 case round =>
  obtain ⟨p,q,hpq,hqn,rfl,rfl,hlow,hhigh,hb⟩:=hrel
  have HL:=hide hlow
  have HH:=hide hhigh
  have HB:=hide hb
  clear hlow hhigh hb
  by_cases hlt:p < q
  ·obtain ⟨m,hm⟩:∃ m,m=(p+q) / 2:=⟨_,rfl⟩
   have e1:((p:Int)+(q:Int)) / 2=(m:Int):=by omega
   have hm1:p≤m:=by omega
   have hm2:m < q:=by omega
   have hmn:m < n:=by omega
   have hmI:(m:Int) < n:=by omega
   clear hm
   obtain ⟨b,off,x,rfl,hx,_,c0,c1⟩:=(HT.out.below HB.out).some hmn
   have HX:=hide hx
   have HC:=hide (fun W=>find1_any x.g x.t k W)
   clear hx
   go_wp2_with fail
   refine (HC.out _).mono ?_
   rintro e w2 ⟨rfl,hb2⟩
   have HB2:=hide (Below.on HB.out hb2)
   clear hb2 c0 c1
   by_cases hk:x.g < k
   ·have hd:decide (cmpI x.g k < 0)=true:=by rw [cmpI_lt];exact decide_eq_true hk
    have HN:=hide (take_low HR.out HX.out hk)
    generalize cmpI x.g k=z at hd ⊢
    have hz:z < 0:=of_decide_eq_true hd
    clear hk HX HC hd
    go_wp2
    exact ⟨⟨m+1,q,by omega,by omega,by go_num,rfl,HN.out,HH.out,HB2.out⟩,by simp [intOf];omega⟩
   ·have hd:decide (cmpI x.g k < 0)=false:=by rw [cmpI_lt];exact decide_eq_false hk
    have HN:=hide (drop_high HR.out HX.out (by omega:k≤x.g))
    generalize cmpI x.g k=z at hd ⊢
    have hz:¬ z < 0:=of_decide_eq_false hd
    clear hk HX HC
    go_wp2
    exact ⟨⟨p,m,by omega,by omega,rfl,rfl,HL.out,HN.out,HB2.out⟩,by simp [intOf];omega⟩
  ·obtain rfl:p=q:=by omega
   by_cases hpn:p < n
   ·have hpI:(p:Int) < n:=by omega
    obtain ⟨b,off,x,rfl,hx,_,c0,c1⟩:=(HT.out.below HB.out).some hpn
    have HX:=hide hx
    have HC:=hide (fun W=>find1_any x.g x.t k W)
    have HE:=hide (cmpI_eq (a:=x.g) (b:=k))
    clear hx
    go_wp2_with fail
    refine (HC.out _).mono ?_
    rintro e w2 ⟨rfl,hb2⟩
    have HB2:=hide (Below.on HB.out hb2)
    clear hb2 c0 c1
    have HN:Hid (LB L k p (cmpI x.g k == 0)):=hide ⟨by rw [HT.out.len];omega,HL.out,HH.out,by
     rw [HE.out,HX.out]
     simp only [decide_eq_true_eq]
     constructor
     ·intro e;exact ⟨x.t,by rw [← e]⟩
     ·rintro ⟨v,e⟩;cases e;rfl⟩
    generalize cmpI x.g k=z at HN ⊢
    clear HX HC HE
    go_wp2
    go_ret2
    exact ⟨p,_,rfl,HN.out,HB2.out⟩
   ·have hpI:decide ((p:Int) < n)=false:=decide_eq_false (by omega)
    have hpN:¬ (p < n):=hpn
    have HN:Hid (LB L k p false):=hide ⟨by rw [HT.out.len];omega,HL.out,HH.out,by
     rw [List.getElem?_eq_none (by rw [HT.out.len];omega)];simp⟩
    go_wp2
    go_ret2
    exact ⟨p,_,rfl,HN.out,HB.out⟩
theorem find_any (a:Option Addr) (n c:Nat) (L:List Tk) (k:Int) (w:World) (h:TRow layT w a n L) (hR:Ris L) (hn:(n:Int)≤4000000) :
  Calls Tryz.prog 44 #[.slice a n c,.int .i64 k] w fun e w'=>∃ (j:Nat) (is:Bool),e=.returned (.tuple #[.int .i64 (j:Int),.bool is])∧LB L k j is∧Below w.heap.size w w':=by
 have H:=hide (bsT_any a n c L k w h hR hn)
 clear h hR hn
 go_enter Tryz.func44,Tryz.ntmps44
 go_wp2_with fail
 refine H.out.mono ?_
 rintro e w1 ⟨j,is,rfl,hl,hb⟩
 have HL:=hide hl
 have HB:=hide hb
 clear hl hb H
 go_wp2
 go_ret2
 exact ⟨j,is,rfl,HL.out,HB.out⟩
theorem LB.tm {L:List Tk} {m k:Int} {j:Nat} {is:Bool} (h:LB L k j is) (hg:gd m L=true):(is=true→∃ x,L[j]?=some x∧x.g=k∧x.t=tm k L)∧(is=false→tm k L=0):=by
 constructor
 ·intro e
  obtain ⟨v,hv⟩:=h.is.1 e
  refine ⟨⟨k,v⟩,hv,rfl,?_⟩
  exact (tm_mem hg (List.mem_of_getElem? hv)).1.symm
 ·intro e
  by_cases h0:Go.Proofs.YtnfcemohjaiipaaGreatDoor.K17.tm k L=0
  ·exact h0
  ·obtain ⟨x,hx,e1,_⟩:=tm_some hg h0
   exfalso
   have hd:=List.take_append_drop j L
   rw [← hd] at hx
   rcases List.mem_append.1 hx with hx|hx
   ·have:=h.low x hx;omega
   ·obtain ⟨i,hi⟩:=List.mem_iff_getElem?.1 hx
    rw [List.getElem?_drop] at hi
    by_cases hi0:i=0
    ·subst hi0
     have:is=true:=h.is.2 ⟨x.t,by rw [Nat.add_zero] at hi;rw [hi,← e1]⟩
     rw [e] at this
     cases this
    ·have hlt:=get_lt hi
     obtain ⟨y,hy⟩:=get_ex (L:=L) (i:=j) (by omega)
     have h1:=h.high y (by
      rw [drop_at hy];simp)
     have h2:=List.pairwise_iff_getElem.1 (ris_of hg) j (j+i) (by omega) hlt (by omega)
     rw [(List.getElem?_eq_some_iff.1 hy).2,(List.getElem?_eq_some_iff.1 hi).2] at h2
     omega
theorem get_any (a:Option Addr) (n c:Nat) (L:List Tk) (k:Int) (w:World) (h:TRow layT w a n L) (hn:(n:Int)≤8796093022208) :
  Calls Tryz.prog 22 #[.slice a n c,.int .i64 k] w fun e w'=>e=.returned (.int .i64 (if gd 0 L then tm k L else 0))∧Below w.heap.size w w':=by
 have HG:=hide (good_any a n c L w h hn)
 have HT:=hide h
 clear h hn
 by_cases hg:gd 0 L=true
 ·have HGd:=hide hg
  rw [hg]
  rw [hg] at HG
  clear hg
  obtain ⟨R,hR⟩:∃ R,(if true=true then tm k L else 0)=R:=⟨_,rfl⟩
  rw [hR]
  have HR:Hid (tm k L=R):=hide (by rw [← hR,if_pos rfl])
  clear hR
  go_enter Tryz.func22,Tryz.ntmps22
  go_wp2_with fail
  refine HG.out.mono ?_
  rintro e w1 ⟨rfl,hb1⟩
  have HB1:=hide hb1
  have HF:=hide (find_any a n c L k w1 (HT.out.below hb1) (ris_of HGd.out) (by have:=gd_len0 HGd.out;rw [HT.out.len] at this;omega))
  clear hb1 HG
  go_wp2_with fail
  refine HF.out.mono ?_
  rintro e w2 ⟨j,is,rfl,hl,hb2⟩
  have HL:=hide (hl.tm HGd.out)
  have HB2:=hide (Below.on HB1.out hb2)
  have hjl:=hl.le
  clear hl hb2 HF
  cases is with
  | true =>
   obtain ⟨x,hx,e1,e2⟩:=HL.out.1 rfl
   have hjn:j < n:=by have:=get_lt hx;rw [HT.out.len] at this;exact this
   have hjI:(j:Int) < n:=by omega
   obtain ⟨b,off,y,rfl,hy,_,c0,c1⟩:=(HT.out.below HB2.out).some hjn
   rw [hx] at hy
   cases hy
   rw [e2,HR.out] at c1
   clear hx e1 e2 HR HL c0 hjl hjn
   go_wp2
   go_ret
   exact ⟨rfl,HB2.out⟩
  | false =>
   have e0:=HL.out.2 rfl
   rw [HR.out] at e0
   subst e0
   clear HL HR hjl
   go_wp2
   go_ret
   exact ⟨rfl,HB2.out⟩
 ·have hf:gd 0 L=false:=by simpa using hg
  rw [hf] at HG ⊢
  clear hg
  go_enter Tryz.func22,Tryz.ntmps22
  go_wp2_with fail
  refine HG.out.mono ?_
  rintro e w1 ⟨rfl,hb1⟩
  have HB1:=hide hb1
  clear hb1 HG
  go_wp2
  go_ret
  exact ⟨rfl,HB1.out⟩
end Go.Proofs.YtnfcemohjaiipaaGreatDoor.K17
namespace Go.Proofs.YtnfcemohjaiipaaGreatDoor
def kt (x:Tc):K17.Tk:=⟨x.g,x.t⟩
theorem trow_kt {w:World} {a:Option Addr} {n:Nat} {T:List Tc} (h:TRow layK w a n T):TRow K17.layT w a n (T.map kt):=by
 refine ⟨by rw [List.length_map];exact h.len,h.cells.imp id ?_⟩
 rintro ⟨b,off,e,hc⟩
 refine ⟨b,off,e,fun i x hx t u hu=>?_⟩
 rw [List.getElem?_map] at hx
 cases hq:T[i]? with
 | none=>rw [hq] at hx;cases hx
 | some y =>
  rw [hq] at hx
  cases hx
  exact hc i y hq t u hu
theorem gd_tkl (c:Nat→Int) (a:Nat):∀ n,a+n≤65536→K17.gd (a:Int) ((tkl c a n).map kt)=true∧K17.blw ((a+n:Nat):Int) ((tkl c a n).map kt)
 | 0,_=>⟨rfl,fun x hx=>by cases hx⟩
 | n+1,h=>by
  obtain ⟨h1,h2⟩:=gd_tkl c a n (by omega)
  rw [tkl]
  split
  ·rename_i hp
   rw [List.map_append]
   refine ⟨K17.gd_app h1 h2 (K17.gd_one (m:=((a+n:Nat):Int)) (g:=((a+n:Nat):Int)) (t:=c (a+n)) (Int.le_refl _) (by omega) (by omega)) (by omega),K17.blw_app (K17.blw_mono h2 (by omega)) (fun x hx=>?_)⟩
   cases List.mem_singleton.1 hx
   show ((a+n:Nat):Int) < _
   omega
  ·rw [List.append_nil]
   exact ⟨h1,K17.blw_mono h2 (by omega)⟩
theorem tm_tkl (c:Nat→Int) (a:Nat) (x:Nat):∀ n,a+n≤65536→K17.tm (x:Int) ((tkl c a n).map kt)=if a≤x∧x < a+n∧0 < c x then c x else 0
 | 0,_=>by rw [if_neg (by omega)];rfl
 | n+1,h=>by
  have ih:=tm_tkl c a x n (by omega)
  obtain ⟨h1,h2⟩:=gd_tkl c a n (by omega)
  rw [tkl]
  split
  ·rename_i hp
   have hg:K17.gd ((a+n:Nat):Int) [(⟨((a+n:Nat):Int),c (a+n)⟩:K17.Tk)]=true:=K17.gd_one (Int.le_refl _) (by omega) (by omega)
   rw [List.map_append]
   show K17.tm (x:Int) (_++[(⟨((a+n:Nat):Int),c (a+n)⟩:K17.Tk)])=_
   rw [K17.tm_app h2 hg]
   by_cases hx:x < a+n
   ·rw [if_pos (by omega),ih]
    by_cases hq:a≤x∧x < a+n∧0 < c x
    ·rw [if_pos hq,if_pos ⟨hq.1,by omega,hq.2.2⟩]
    ·rw [if_neg hq,if_neg (fun e=>hq ⟨e.1,hx,e.2.2⟩)]
   ·rw [if_neg (by omega),K17.tm,K17.tm]
    by_cases hq:x=a+n
    ·subst hq
     rw [if_pos rfl,if_pos ⟨by omega,by omega,hp⟩]
    ·rw [if_neg (by show ¬ ((a+n:Nat):Int)=(x:Int);omega),if_neg (fun e=>by omega)]
  ·rename_i hp
   rw [List.append_nil,ih]
   by_cases hq:a≤x∧x < a+n∧0 < c x
   ·rw [if_pos hq,if_pos ⟨hq.1,by omega,hq.2.2⟩]
   ·rw [if_neg hq,if_neg (fun e=>by
     by_cases hx:x=a+n
     ·subst hx;exact hp e.2.2
     ·exact hq ⟨e.1,by omega,e.2.2⟩)]
theorem gd_tks (c:Nat→Int):K17.gd 0 ((tks c).map kt)=true:=(gd_tkl c 0 65536 (by omega)).1
theorem tm_tks {c:Nat→Int} (h0:∀ x,0≤c x) {x:Nat} (hx:x < 65536):K17.tm (x:Int) ((tks c).map kt)=c x:=by
 unfold tks
 rw [tm_tkl c 0 x 65536 (by omega)]
 have:=h0 x
 split
 ·rfl
 ·omega
theorem tks_len (c:Nat→Int):((tks c).length:Int)≤65536:=by
 have h:=K17.gd_len0 (gd_tks c)
 rw [List.length_map] at h
 exact h
theorem leB_tks {c d:Nat→Int} (hc:∀ x,0≤c x) (hd:∀ x,0≤d x):K17.leB ((tks c).map kt) ((tks d).map kt)=true ↔ ∀ x,x < 65536→c x≤d x:=by
 rw [K17.leB_iff (gd_tks c) (gd_tks d)]
 constructor
 ·intro h x hx
  have:=h (x:Int)
  rw [tm_tks hc hx,tm_tks hd hx] at this
  exact this
 ·intro h g
  by_cases h0:g < 0
  ·rw [K17.tm_low (gd_tks c) h0,K17.tm_low (gd_tks d) h0];omega
  ·by_cases h1:65536≤g
   ·rw [K17.tm_high (gd_tks c) h1,K17.tm_high (gd_tks d) h1];omega
   ·obtain ⟨x,rfl⟩:∃ x:Nat,g=(x:Int):=⟨g.toNat,by omega⟩
    rw [tm_tks hc (by omega),tm_tks hd (by omega)]
    exact h x (by omega)
end Go.Proofs.YtnfcemohjaiipaaGreatDoor
namespace Go.Proofs.YtnfcemohjaiipaaGreatDoor.K17
open Go.RowKit Go.Maps Go.Shelf
attribute [local go_sem] Oper.semAt_some
theorem lowest_any (a:Option Addr) (n c:Nat) (L:List Tk) (w:World) (h:TRow layT w a n L) :
  Calls Tryz.prog 67 #[.slice a n c] w fun e w'=>e=.returned (.int .i64 (lo L))∧w'=w:=by
 cases L with
 | nil =>
  have h0:n=0:=by have:=h.len;simpa using this.symm
  subst h0
  clear h
  go_enter Tryz.func67,Tryz.ntmps67
  go_wp2
  go_ret
  exact ⟨rfl,rfl⟩
 | cons x L =>
  obtain ⟨m,rfl⟩:∃ m,n=m+1:=⟨L.length,by have:=h.len;simpa using this.symm⟩
  obtain ⟨b,off,y,rfl,hy,_,c0,_⟩:=h.some (i:=0) (by omega)
  cases hy
  rw [Nat.zero_mul,Nat.add_zero] at c0
  clear h
  go_enter Tryz.func67,Tryz.ntmps67
  go_wp2
  go_ret
  exact ⟨rfl,rfl⟩
theorem take_any (a:Option Addr) (n c:Nat) (L:List Tk) (g:Int) (w:World) (h:TRow layT w a n L) (hc:n≤c) (hg:g < 65536) :
  Calls Tryz.prog 68 #[.slice a n c,.int .i64 g] w fun e w'=>∃ a' n' c',e=.returned (.tuple #[.int .i64 (tk1 g L),.slice a' n' c'])∧n'≤c'∧(∀ W,TRow layT W a n L→TRow layT W a' n' (tk2 g L))∧∃ q,w'=w.drewN q:=by
 have HL:=hide (lowest_any a n c L w h)
 by_cases he:lo L=g
 ·cases L with
  | nil=>have e9:lo ([]:List Tk)=65536:=rfl;omega
  | cons x L =>
   obtain ⟨m,rfl⟩:∃ m,n=m+1:=⟨L.length,by have:=h.len;simpa using this.symm⟩
   obtain ⟨b,off,y,rfl,hy,_,c0,c1⟩:=h.some (i:=0) (by omega)
   cases hy
   rw [Nat.zero_mul,Nat.add_zero] at c0 c1
   have hx:x.g=g:=he
   have e1:tk1 g (x :: L)=x.t:=by rw [tk1,if_pos hx]
   have e2:tk2 g (x :: L)=L:=by rw [tk2,if_pos hx]
   rw [e1,e2,show lo (x :: L)=g from hx] at *
   clear e1 e2 he hx h c0
   by_cases hc1:c=1
   ·subst hc1
    have hm:m=0:=by omega
    subst hm
    clear hc
    go_enter Tryz.func68,Tryz.ntmps68
    go_wp2_with fail
    refine HL.out.mono ?_
    rintro e w1 ⟨rfl,hw⟩
    rw [hw];clear hw w1 HL
    go_wp2_with fail
    go_quiet (fail)
    go_wp2
    go_ret2
    refine ⟨_,_,_,rfl,by simp,fun W hW=>?_,_,rfl⟩
    have:=hW.drop 1 (by omega)
    exact ⟨this.len,.inl (by simp)⟩
   ·have hcn:¬ c=1:=hc1
    go_enter Tryz.func68,Tryz.ntmps68
    go_wp2_with fail
    refine HL.out.mono ?_
    rintro e w1 ⟨rfl,hw⟩
    rw [hw];clear hw w1 HL
    go_wp2_with fail
    go_quiet (fail)
    go_wp2
    go_ret2
    refine ⟨_,_,_,rfl,by omega,fun W hW=>?_,_,rfl⟩
    exact hW.drop 1 (by omega)
 ·have e1:tk1 g L=0:=by
   cases L with
   | nil=>rfl
   | cons x L=>have he2:¬ x.g=g:=he;rw [tk1,if_neg he2]
  have e2:tk2 g L=L:=by
   cases L with
   | nil=>rfl
   | cons x L=>have he2:¬ x.g=g:=he;rw [tk2,if_neg he2]
  rw [e1,e2]
  have hne:(lo L != g)=true:=by simp [he]
  generalize lo L=z at HL hne
  clear h he e1 e2
  go_enter Tryz.func68,Tryz.ntmps68
  go_wp2_with fail
  refine HL.out.mono ?_
  rintro e w1 ⟨rfl,hw⟩
  rw [hw];clear hw w1 HL
  go_wp2
  go_ret2
  exact ⟨_,_,_,rfl,hc,fun W hW=>hW,0,rfl⟩
theorem both_any (aa ab:Option Addr) (na ca nb cb:Nat) (w:World) :
  Calls Tryz.prog 43 #[.slice aa na ca,.slice ab nb cb] w fun e w'=>e=.returned (.func (.func 66) #[] #[.pointer (some ⟨w.heap.size,0,none⟩),.pointer (some ⟨w.heap.size+1,0,none⟩)])∧w'=(w.alloc (.cells #[.slice aa na ca] 28)).alloc (.cells #[.slice ab nb cb] 28):=by
 go_enter Tryz.func43,Tryz.ntmps43
 go_wp2
 go_ret
 exact ⟨rfl,rfl⟩
structure Stp (s:List Tk × List Tk) (x:Int × Int × Int) (W W2:World) (s2:List Tk × List Tk):Prop where
 ne:s.1≠[]∨s.2≠[]
 x1:x.1=nx s.1 s.2
 x2:x.2.1=tk1 (nx s.1 s.2) s.1
 x3:x.2.2=tk1 (nx s.1 s.2) s.2
 s1:s2.1=tk2 (nx s.1 s.2) s.1
 s3:s2.2=tk2 (nx s.1 s.2) s.2
 bel:Below W.heap.size W W2
def lenV:Value→Nat
 | .slice _ n _=>n
 | _=>0
theorem below_drewN {w W:World} (h:Below w.heap.size w W) (q:Nat):Below w.heap.size w (W.drewN q):=⟨h.os,h.tape,h.output,h.size,h.block⟩
set_option maxRecDepth 100000 in
theorem both1_in (n:Nat) (hn:1≤n) (l Ba Bb:Nat) (aa ab:Option Addr) (na ca nb cb:Nat) (A B:List Tk) (J:List Tk × List Tk→World→Prop) (Jx:World→Prop)
  (hJ:∀ s W,J s W→W.cell? ⟨Ba,0,none⟩=some (.slice aa na ca)∧W.cell? ⟨Bb,0,none⟩=some (.slice ab nb cb)∧TRow layT W aa na A∧TRow layT W ab nb B)
  (hJb:∀ s W W',J s W→Below W.heap.size W W'→J s W') (hA:gd 0 A=true) (hB:gd 0 B=true) (hca:na≤ca) (hcb:nb≤cb)
  (hY:∀ s x W1 W2 s2,J s W1→Stp s x W1 W2 s2→YieldAt Fence.wide (n - 1) Tryz.prog l #[.int .i64 x.1,.agg #[.int .i64 x.2.1,.int .i64 x.2.2]] W2 fun e W'=>(e=.returned (.bool true)∧J s2 W')∨(e=.returned (.bool false)∧Jx W'))
  (W:World) (h0:J (A,B) W) :
  CallsIn Fence.wide n Tryz.prog 66 #[.func (.yield l) #[] #[],.pointer (some ⟨Ba,0,none⟩),.pointer (some ⟨Bb,0,none⟩)] W fun e W'=>(∃ v,e=.returned v)∧((∃ s,s=(([],[]):List Tk × List Tk)∧J s W')∨Jx W'):=by
 obtain ⟨k0,k1,-,-⟩:=hJ _ _ h0
 have HJ:=hide hJ
 have HJb:=hide hJb
 have HY:=hide hY
 have HA:=hide hA
 have HB:=hide hB
 have HC:=hide (And.intro hca hcb)
 have H0:=hide h0
 clear hJ hJb hY hA hB hca hcb h0
 refine callsIn_wide.2 ?_
 go_enter Tryz.func66,Tryz.ntmps66
 go_wp2_with fail
 go_quiet (fail)
 generalize hwd:W.drewN _=W1
 have H1:Hid (J (A,B) W1):=hide (HJb.out _ _ _ H0.out (by rw [← hwd];exact below_drewN (Below.refl _ _) _))
 clear hwd k0 k1
 go_wp2_with fail
 go_loopw [4,5] (fun va vb wr=>∃ (ra rb:List Tk) (m:Int) (xa xb:Option Addr) (ma da mb db:Nat),va=.slice xa ma da∧vb=.slice xb mb db∧Hid (J (ra,rb) wr)∧Hid (Rst A B m ra rb)∧Hid (ma≤da∧mb≤db)∧Hid ((∀ V,TRow layT V aa na A→TRow layT V xa ma ra)∧(∀ V,TRow layT V ab nb B→TRow layT V xb mb rb))) (fun va vb _=>lenV va+lenV vb)
 case atStart=>exact ⟨A,B,0,aa,ab,na,ca,nb,cb,rfl,rfl,H1,hide (Rst.start HA.out HB.out),HC,hide ⟨fun _ h=>h,fun _ h=>h⟩⟩
 case round =>
  obtain ⟨ra,rb,m,xa,xb,ma,da,mb,db,rfl,rfl,HJs,HR,HD,HS⟩:=hrel
  obtain ⟨-,-,tA,tB⟩:=HJ.out _ _ HJs.out
  have ra0:=HS.out.1 _ tA
  have rb0:=HS.out.2 _ tB
  by_cases hz:ma=0∧mb=0
  ·obtain ⟨rfl,rfl⟩:=hz
   have ea:=List.length_eq_zero_iff.1 ra0.len
   have eb:=List.length_eq_zero_iff.1 rb0.len
   subst ea;subst eb
   clear ra0 rb0 tA tB
   go_wp2
   go_end0
   exact ⟨⟨_,rfl⟩,.inl ⟨_,rfl,HJs.out⟩⟩
  ·have hne:ra≠[]∨rb≠[]:=by
    by_cases e:ra=[]
    ·right
     intro e2
     rw [e] at ra0
     rw [e2] at rb0
     have l1:=ra0.len
     have l2:=rb0.len
     simp at l1 l2
     exact hz ⟨l1.symm,l2.symm⟩
    ·exact .inl e
   obtain ⟨s1,s2,-,-,-,s6⟩:=HR.out.step hne
   have l1:=lo_ge HR.out.ga HR.out.m1
   have l2:=lo_ge HR.out.gb HR.out.m1
   have hless:lft (tk2 (nx ra rb) ra) (tk2 (nx ra rb) rb) < lft ra rb:=nx_less l1.2 l2.2 (fun h=>lo_lt HR.out.ga h) (fun h=>lo_lt HR.out.gb h) hne
   have HLa:=hide (lowest_any xa ma da ra wr ra0)
   have HLb:=hide (lowest_any xb mb db rb wr rb0)
   obtain ⟨g,hg⟩:∃ g,nx ra rb=g:=⟨_,rfl⟩
   rw [hg] at s1 s2 s6 hless
   have hmin:min (lo ra) (lo rb)=g:=hg
   have HNe:=hide hne
   have HG:=hide hg
   have HR2:=hide s6
   have HLs:=hide hless
   obtain ⟨W2,hW2⟩:∃ W2,W2=wr.alloc (.cells #[.int .i64 0,.int .i64 0] 101):=⟨_,rfl⟩
   have b2:Below wr.heap.size wr W2:=by rw [hW2];exact below_alloc1 _ _
   have hp:W2.heap[wr.heap.size]?=some (.cells #[.int .i64 0,.int .i64 0] 101 (0,0)):=by rw [hW2];exact heap_new _ _
   have HTa:=hide (fun (V:World) (hV:Below wr.heap.size wr V)=>take_any xa ma da ra g V (ra0.below hV) HD.out.1 s2)
   have HTb:=hide (fun (V:World) (hV:Below wr.heap.size wr V)=>take_any xb mb db rb g V (rb0.below hV) HD.out.2 s2)
   have HB2:=hide b2
   have hfz:=frz hp
   have hlt:wr.heap.size < W2.heap.size:=(Array.getElem?_eq_some_iff.1 hp).1
   have HP:=hide hp
   have HLn:=hide (And.intro ra0.len rb0.len)
   have hp0:W2.cell? ⟨wr.heap.size,0,none⟩=some (.int .i64 0):=cell_at hp rfl
   have hz2:0 < ma∨(ma=0∧0 < mb):=by omega
   have fz0:=hfz 0
   clear hne s1 s2 s6 l1 l2 hless hg tA tB b2 hp ra0 rb0 hz hfz
   rcases hz2 with hma|⟨rfl,hmb⟩
   all_goals
    go_wp2_with fail
    refine HLa.out.mono ?_
    rintro e w1 ⟨rfl,hw⟩
    rw [hw]
    clear hw w1 HLa
    go_wp2_with fail
    refine HLb.out.mono ?_
    rintro e w1 ⟨rfl,hw⟩
    rw [hw]
    clear hw w1 HLb
    go_wp2_with fail
    rw [← hW2]
    refine (HTa.out W2 HB2.out).mono ?_
    rintro e w3 ⟨a2,n2,c2,rfl,hc2,hs2,q2,hw3⟩
    have b3:Below wr.heap.size wr w3:=by rw [hw3];exact below_drewN HB2.out _
    have hp3:w3.heap[wr.heap.size]?=some (.cells #[.int .i64 0,.int .i64 0] 101 (0,0)):=by rw [hw3];exact HP.out
    obtain ⟨t1,ht1⟩:∃ t1,tk1 g ra=t1:=⟨_,rfl⟩
    rw [ht1]
    have HT1:=hide ht1
    have HS2:=hide hs2
    have HC2:=hide hc2
    have p0:w3.cell? ⟨wr.heap.size,0,none⟩=some (.int .i64 0):=cell_at hp3 rfl
    have f0:=frz hp3 0
    obtain ⟨V,hV⟩:∃ V,V=w3.setCell ⟨wr.heap.size,0,none⟩ (.int .i64 t1):=⟨_,rfl⟩
    have bV:Below wr.heap.size wr V:=by rw [hV];exact b3.setCell (Nat.le_refl _) _
    have hpV:V.heap[wr.heap.size]?=some (.cells #[.int .i64 t1,.int .i64 0] 101 (0,0)):=by rw [hV];exact set1_heap _ hp3
    have HBV:=hide bV
    have HPV:=hide hpV
    clear hw3 b3 hp3 ht1 hs2 hc2 bV hpV hp0 fz0 hW2
    go_wp2_with fail
    rw [← hV]
    refine (HTb.out V HBV.out).mono ?_
    rintro e w4 ⟨a3,n3,c3,rfl,hc3,hs3,q3,hw4⟩
    have b4:Below wr.heap.size wr w4:=by rw [hw4];exact below_drewN HBV.out _
    have hp4:w4.heap[wr.heap.size]?=some (.cells #[.int .i64 t1,.int .i64 0] 101 (0,0)):=by rw [hw4];exact HPV.out
    obtain ⟨t2,ht2⟩:∃ t2,tk1 g rb=t2:=⟨_,rfl⟩
    rw [ht2]
    have HT2:=hide ht2
    have HS3:=hide hs3
    have HC3:=hide hc3
    have r1:w4.cell? ⟨wr.heap.size,1,none⟩=some (.int .i64 0):=cell_at hp4 rfl
    have f1:=frz hp4 1
    obtain ⟨U,hU⟩:∃ U,U=w4.setCell ⟨wr.heap.size,1,none⟩ (.int .i64 t2):=⟨_,rfl⟩
    have bU:Below wr.heap.size wr U:=by rw [hU];exact b4.setCell (Nat.le_refl _) _
    have hpU:U.heap[wr.heap.size]?=some (.cells #[.int .i64 t1,.int .i64 t2] 101 (0,0)):=by rw [hU];exact set1_heap _ hp4
    have u0:U.cell? ⟨wr.heap.size,0,none⟩=some (.int .i64 t1):=cell_at hpU rfl
    have u1:U.cell? ⟨wr.heap.size,1,none⟩=some (.int .i64 t2):=cell_at hpU rfl
    have HBU:=hide bU
    clear hw4 b4 hp4 ht2 hs3 hc3 bU hpU hV p0 f0
    go_upto_region 6 with fail
    rw [← hU]
    clear r1 f1 hU
    refine (wpIn_wide (n:=n)).1 ?_
    obtain ⟨fn,tmx,asg,bd,hy,hR⟩:=HY.out (ra,rb) (g,t1,t2) wr U (tk2 g ra,tk2 g rb) HJs.out ⟨HNe.out,HG.out.symm,by rw [HG.out];exact HT1.out.symm,by rw [HG.out];exact HT2.out.symm,by rw [HG.out],by rw [HG.out],HBU.out⟩
    gi_wp2
    refine hR.mono ?_
    rintro e W9 h9
    rcases h9 with ⟨rfl,h9⟩|⟨rfl,h9⟩
    ·have H9:=hide h9
     clear h9 hy hR
     gi_wp2
     go_wp2
     refine ⟨⟨tk2 g ra,tk2 g rb,g+1,a2,a3,n2,c2,n3,c3,rfl,rfl,H9,HR2,hide ⟨HC2.out,HC3.out⟩,hide ⟨fun V hV=>HS2.out V (HS.out.1 V hV),fun V hV=>HS3.out V (HS.out.2 V hV)⟩⟩,?_⟩
     have hh:=HLs.out
     have hla:=(HS2.out _ (HS.out.1 _ (HJ.out _ _ HJs.out).2.2.1)).len
     have hlb:=(HS3.out _ (HS.out.2 _ (HJ.out _ _ HJs.out).2.2.2)).len
     have hl2:=HLn.out
     unfold lft at hh
     simp only [lenV]
     omega
    ·have H9:=hide h9
     clear h9 hy hR
     gi_wp2
     go_wp2
     refine bodyPost_ret (results_none rfl _ _ _) rfl ?_
     exact ⟨⟨_,rfl⟩,.inr H9.out⟩
end Go.Proofs.YtnfcemohjaiipaaGreatDoor.K17
namespace Go.Proofs.YtnfcemohjaiipaaGreatDoor.K17
open Go.RowKit Go.Maps Go.Shelf
attribute [local go_sem] Oper.semAt_some
theorem but_put (W:World) (l:Nat) (o:Obj):But (fun k=>k=l) W (W.putObj l o) :=
 ⟨rfl,rfl,rfl,by simp,fun k _ hk=>World.putObj_heap_other hk⟩
theorem range_turn {P:Program} {g:Operand} {ps:Array Tmp} {assign body:Code} {Q:Exit→Act→World→Prop} {a:Act} {w:World} {n:Nat} (h1:1≤n) {gf:Nat} {lb:Array Value}
  (hg:a.eval g=.func (.func gf) #[] lb) (eg:∀ args w,(callFunc gf args).run P w=.ok (.enter gf args) w)
  {σ ε:Type} (encs:ε→Array Value) (hps:∀ x,(encs x).size=ps.size) (I:σ→World→Prop) (Ix:World→Prop) (Fin:σ→Prop) (s0:σ) (Tk:σ→ε→World→World→σ→Prop)
  (hI:∀ (s:σ) (W:World) (o:Loop) (o':Obj),I s W→W.heap[w.heap.size+1]?=some (.loop o)→I s (W.putObj (w.heap.size+1) o'))
  (hIx:∀ (W:World) (o:Loop) (o':Obj),Ix W→W.heap[w.heap.size+1]?=some (.loop o)→Ix (W.putObj (w.heap.size+1) o'))
  (hIb:∀ (s:σ) (W W':World),I s W→Below W.heap.size W W'→I s W')
  (hTk:∀ s x W W2 s2,I s W→Tk s x W W2 s2→(∀ o:Loop,W.heap[w.heap.size+1]?=some (.loop o)→W2.heap[w.heap.size+1]?=some (.loop o))∧(W.heap[w.heap.size]?=some (.deferred (some []))→W2.heap[w.heap.size]?=some (.deferred (some []))))
  (h0:I s0 w)
  (hseq:∀ (l:Nat) (J:σ→World→Prop) (Jx:World→Prop) (W:World),(∀ s W,J s W→I s W)→(∀ s W W',J s W→Below W.heap.size W W'→J s W') →
   (∀ s x W1 W2 s2,J s W1→Tk s x W1 W2 s2→YieldAt Fence.wide (n - 1 - 1) P l (encs x) W2 fun e W'=>(e=.returned (.bool true)∧J s2 W')∨(e=.returned (.bool false)∧Jx W'))→J s0 W →
   CallsIn Fence.wide (n - 1) P gf (#[.func (.yield l) #[] #[]]++lb) W fun e W'=>(∃ v,e=.returned v)∧((∃ s,Fin s∧J s W')∨Jx W'))
  (A:ε→World→Act→World→Prop) (hA:∀ x W a1 W3,A x W a1 W3→Below W.heap.size W W3)
  (hassign:∀ (l:Nat) (s:σ) (x:ε) (s2:σ) (W W2:World) (K:Act→World→Prop),I s W→Tk s x W W2 s2→(∀ a1 W3,A x W2 a1 W3→K a1 W3) →
   assign.wpIn (Fence.wide.inRound l) (n - 1 - 1) P (Exit.then K (fun _ _ _=>False)) { tmps:=(ps.zip (encs x)).foldl (fun t (p,v)=>t.setIfInBounds p v) a.tmps,defers:=[] } W2)
  (hbody:∀ (l:Nat) (s:σ) (x:ε) (s2:σ) (W W2:World) (a1:Act) (W3:World) (o o':Loop),I s W→Tk s x W W2 s2→A x W2 a1 W3→w.heap.size+1 < W3.heap.size→W3.heap[w.heap.size+1]?=some (.loop o)→W3.heap[w.heap.size]?=some (.deferred (some [])) →
   body.wpIn (Fence.wide.inRound l) (n - 1 - 1) P (fun e _ W'=>((e=.normal∧I s2 W')∨(e=.ret∧Ix W'))∧W'.heap[w.heap.size]?=some (.deferred (some []))∧W'.heap[w.heap.size+1]?=some (.loop o')) a1 (W3.putObj (w.heap.size+1) (.loop o')))
  (hdone:∀ (s:σ) (W:World),Fin s→I s W→W.heap[w.heap.size]?=some (.deferred (some []))→Q .normal { a with defers:={ target:=.collected w.heap.size,args:=#[] } :: a.defers } W)
  (hstop:∀ W:World,Ix W→W.heap[w.heap.size]?=some (.deferred (some []))→Code.ret.wpIn Fence.wide n P Q { a with defers:={ target:=.collected w.heap.size,args:=#[] } :: a.defers } W) :
  (Code.rangeFunc g ps assign body).wpIn Fence.wide n P Q a w:=by
 refine wpIn_rangeFunc fun fn _=>?_
 obtain ⟨B,hB⟩:∃ B,B=w.heap.size:=⟨_,rfl⟩
 obtain ⟨R,hR⟩:∃ R:LoopState→Option Code→Loop,R=fun st pe=>{ state:=st,pending:=pe,fn,tmps:=a.tmps,params:=ps,assign,body,defers:=B }:=⟨_,rfl⟩
 obtain ⟨V,hV⟩:∃ V,V=(w.alloc (.deferred (some []))).alloc (.loop (R .ready none)):=⟨_,rfl⟩
 have v1:V.heap[B+1]?=some (.loop (R .ready none)):=by
  have h:=World.alloc_heap_new (w.alloc (.deferred (some []))) (.loop (R .ready none))
  rw [World.size_alloc,← hB] at h;rw [hV];exact h
 have v0:V.heap[B]?=some (.deferred (some [])):=by
  rw [hV,hB];exact (Below.heap_alloc _ _ _ (by simp)).trans (World.alloc_heap_new w _)
 have hIV:I s0 V:=hIb s0 w V h0 (by rw [hV];exact below_alloc2 _ _ _)
 rw [← hB] at hI hIx hbody hdone hstop hTk
 let J:σ→World→Prop:=fun s W=>I s W∧W.heap[B+1]?=some (.loop (R .ready none))∧W.heap[B]?=some (.deferred (some []))
 let Jx:World→Prop:=fun W=>Ix W∧W.heap[B+1]?=some (.loop (R .done (some .ret)))∧W.heap[B]?=some (.deferred (some []))
 have hS:=hseq (B+1) J Jx V (fun _ _ h=>h.1) (fun s W W' h hb=>⟨hIb s W W' h.1 hb,(hb.block _ (Array.getElem?_eq_some_iff.1 h.2.1).1).trans h.2.1,(hb.block _ (Array.getElem?_eq_some_iff.1 h.2.2).1).trans h.2.2⟩) ?_ ⟨hIV,v1,v0⟩
 ·refine ⟨B+1,[{ target:=.collected B,args:=#[] }],V,{ target:=.fn (.func gf) lb,args:=#[.func (.yield (B+1)) #[] #[]] },V,gf,#[.func (.yield (B+1)) #[] #[]]++lb,V,?_,?_,fun _ _=>trivial,?_,fun _=>h1,?_⟩
  ·rw [hV,hR,hB];exact run_enterLoop_outer _ _ _ _ _
  ·simp only [resolve,hg]
   simp [go_sem]
  ·simp [invoke,go_sem,eg]
  ·refine CallsIn.mono hS ?_
   rintro e W ⟨⟨v,rfl⟩,(⟨s,hf,hi,hl,hk⟩|⟨hi,hl,hk⟩)⟩
   ·refine ⟨none,_,?_,hdone s _ hf (hI _ _ _ (.loop { R .ready none with state:=.exhausted }) hi hl) ((World.putObj_heap_other (by omega)).trans hk)⟩
    have h:=run_endLoop (P:=P) hl (by rw [hR];simp)
    rw [hR] at h ⊢;exact h
   ·refine ⟨some .ret,_,?_,hstop _ (hIx _ _ (.loop { R .done (some .ret) with state:=.exhausted }) hi hl) ((World.putObj_heap_other (by omega)).trans hk)⟩
    have h:=run_endLoop (P:=P) hl (by rw [hR];simp)
    rw [hR] at h ⊢;exact h
 ·rintro s x W W2 s2 ⟨hi,hl,hd⟩ htk
  obtain ⟨k1,k2⟩:=hTk s x W W2 s2 hi htk
  have hl2:=k1 _ hl
  have hd2:=k2 hd
  have hy:=run_yield (P:=P) (args:=encs x) hl2 (by rw [hR];exact hps x)
  rw [hR] at hy
  refine ⟨fn,_,assign,body,hy,roundIn_of_wpIn trivial (hassign (B+1) s x s2 W W2 _ hi htk (fun a1 W3 ha=>?_))⟩
  have b3:=hA x W2 a1 W3 ha
  have hl3:=(b3.block _ (Array.getElem?_eq_some_iff.1 hl2).1).trans hl2
  have hd3:=(b3.block _ (Array.getElem?_eq_some_iff.1 hd2).1).trans hd2
  have hlt3:=(Array.getElem?_eq_some_iff.1 hl3).1
  refine ⟨_,run_beginRound hl3 (by rw [hR]),?_⟩
  refine wpIn_mono (hbody (B+1) s x s2 W W2 a1 W3 _ _ hi htk ha hlt3 hl3 hd3) ?_
  rintro e a' W' ⟨he,hd4,hl4⟩
  rcases he with ⟨rfl,hi'⟩|⟨rfl,hi'⟩
  ·have hE:=run_endRound (P:=P) none hl4
   refine ⟨_,_,hE,.inl ⟨rfl,hI _ _ _ _ hi' hl4,?_,(World.putObj_heap_other (by omega)).trans hd4⟩⟩
   rw [World.putObj_heap_same (Array.getElem?_eq_some_iff.1 hl4).1,hR];rfl
  ·have hE:=run_endRound (P:=P) (some .ret) hl4
   refine ⟨_,_,hE,.inr ⟨rfl,hIx _ _ _ hi' hl4,?_,(World.putObj_heap_other (by omega)).trans hd4⟩⟩
   rw [World.putObj_heap_same (Array.getElem?_eq_some_iff.1 hl4).1,hR];rfl
end Go.Proofs.YtnfcemohjaiipaaGreatDoor.K17
namespace Go.Proofs.YtnfcemohjaiipaaGreatDoor.K17
open Go.RowKit Go.Maps Go.Shelf
attribute [local go_sem] Oper.semAt_some
theorem get_lt' {w:World} {q:Nat} {o:Obj} (h:w.heap[q]?=some o):q < w.heap.size:=(Array.getElem?_eq_some_iff.1 h).1
theorem heap_old {w:World} {q:Nat} {o ob:Obj} (h:w.heap[q]?=some ob):(w.alloc o).heap[q]?=some ob:=(Below.heap_alloc _ _ _ (get_lt' h)).trans h
theorem but_setC (W:World) (p:Addr) (v:Value):But (fun q=>q=p.block) W (W.setCell p v):=(But.refl (fun q=>q=p.block) W).setCell p (fun _=>rfl) v
theorem load_bool {w:World} {g:Nat} {v:Value} {t:TypeId} (h:w.heap[g]?=some (.cells #[v] t (0,0))):(loadVar 4 ⟨g,0,none⟩).run Tryz.prog w=.ok v w:=by
 have c:w.cell? ⟨g,0,none⟩=some v:=cell_at h rfl
 go_simp
theorem load_err {w:World} {g:Nat} {v:Value} {t:TypeId} (h:w.heap[g]?=some (.cells #[v] t (0,0))):(loadVar 29 ⟨g,0,none⟩).run Tryz.prog w=.ok v w:=by
 have c:w.cell? ⟨g,0,none⟩=some v:=cell_at h rfl
 go_simp
theorem results_cc {P:Program} {fn:Func} {t u:Tmp} {ti te:TypeId} (h:fn.results=#[.cell t ti,.cell u te]) (tmps:Array Value) (w:World) (g1 g2:Nat) (v1 v2:Value)
  (hp1:tmps.getD t undef=.pointer (some ⟨g1,0,none⟩)) (hr1:(loadVar ti ⟨g1,0,none⟩).run P w=.ok v1 w) (hp2:tmps.getD u undef=.pointer (some ⟨g2,0,none⟩)) (hr2:(loadVar te ⟨g2,0,none⟩).run P w=.ok v2 w) :
  (results fn tmps).run P w=.ok (.tuple #[v1,v2]) w:=by
 have hp1':tmps[t]?.getD undef=.pointer (some ⟨g1,0,none⟩):=by simpa using hp1
 have hp2':tmps[u]?.getD undef=.pointer (some ⟨g2,0,none⟩):=by simpa using hp2
 simp [results,h,hp1',hp2',asAddr,hr1,hr2]
theorem two_set {W:World} {p:Nat} {u v:Value} {T S:TypeId} (h0:W.heap[p]?=some (.cells #[u] T (0,0))) (h1:W.heap[p+1]?=some (.cells #[v] S (0,0))) (x y:Value) :
  ((W.setCell ⟨p,0,none⟩ x).setCell ⟨p+1,0,none⟩ y).heap[p]?=some (.cells #[x] T (0,0))∧((W.setCell ⟨p,0,none⟩ x).setCell ⟨p+1,0,none⟩ y).heap[p+1]?=some (.cells #[y] S (0,0))∧But (fun q=>q=p∨q=p+1) W ((W.setCell ⟨p,0,none⟩ x).setCell ⟨p+1,0,none⟩ y):=by
 have a0:=set1_heap (i:=0) x h0
 have a1:=((but_setC W ⟨p,0,none⟩ x).block (p+1) (get_lt' h1) (by simp)).trans h1
 have b0:=((but_setC (W.setCell ⟨p,0,none⟩ x) ⟨p+1,0,none⟩ y).block p (get_lt' a0) (by simp)).trans a0
 have b1:=set1_heap (i:=0) y a1
 exact ⟨b0,b1,((But.refl (fun q=>q=p∨q=p+1) W).setCell ⟨p,0,none⟩ (fun _=>.inl rfl) x).setCell ⟨p+1,0,none⟩ (fun _=>.inr rfl) y⟩
structure Lsq (a b:List Tk) (s:List Tk × List Tk):Prop where
 ex:∃ m,Rst a b m s.1 s.2∧∀ g,g < m→tm g a≤tm g b
theorem Lsq.start {a b:List Tk} (ha:gd 0 a=true) (hb:gd 0 b=true):Lsq a b (a,b):=⟨0,Rst.start ha hb,fun g hg=>by rw [tm_low ha hg,tm_low hb hg];exact Int.le_refl _⟩
theorem Lsq.step {a b:List Tk} {s s2:List Tk × List Tk} {x:Int × Int × Int} {W W2:World} (h:Lsq a b s) (t:Stp s x W W2 s2):(x.2.1≤x.2.2→Lsq a b s2)∧(¬ x.2.1≤x.2.2→∃ g,tm g b < tm g a):=by
 obtain ⟨m,hr,hl⟩:=h.ex
 obtain ⟨s1,s3,s4,s5,s6,s7⟩:=hr.step t.ne
 rw [t.x2,t.x3,s4,s5]
 constructor
 ·intro hx
  refine ⟨nx s.1 s.2+1,by rw [t.s1,t.s3];exact s7,fun g hg=>?_⟩
  by_cases e:g < m
  ·exact hl g e
  ·by_cases e2:g=nx s.1 s.2
   ·rw [e2];exact hx
   ·obtain ⟨z1,z2⟩:=s6 g (by omega) (by omega)
    rw [z1,z2];exact Int.le_refl _
 ·intro hx
  exact ⟨nx s.1 s.2,by omega⟩
theorem Lsq.done {a b:List Tk} (ha:gd 0 a=true) (hb:gd 0 b=true) (h:Lsq a b ([],[])):leB a b=true:=by
 obtain ⟨m,hr,hl⟩:=h.ex
 refine (leB_iff ha hb).2 (fun g=>?_)
 by_cases e:g < m
 ·exact hl g e
 ·obtain ⟨z1,z2⟩:=hr.done g (by omega)
  rw [z1,z2];exact Int.le_refl _
set_option maxRecDepth 100000 in
theorem leq_bad (aa ab : Option Addr) (na ca nb cb : Nat) (A B : List Tk) (w : World) (hA : TRow layT w aa na A) (hB : TRow layT w ab nb B) (hna : (na : Int) ≤ 8796093022208) (hnb : (nb : Int) ≤ 8796093022208) (h : gd 0 A = false ∨ gd 0 B = false) :
    Calls Tryz.prog 21 #[.slice aa na ca, .slice ab nb cb] w fun e w' => e = .returned (.tuple #[.bool false, .int .i64 170]) ∧ Below w.heap.size w w' := by
  obtain ⟨W0, hW0⟩ : ∃ W0, W0 = (w.alloc (.cells #[.bool false] 4)).alloc (.cells #[.int .i64 0] 29) := ⟨_, rfl⟩
  have b0 : Below w.heap.size w W0 := by rw [hW0]; exact below_alloc2 _ _ _
  have z0 : W0.heap[w.heap.size]? = some (.cells #[.bool false] 4 (0, 0)) := by rw [hW0]; exact heap_old (heap_new _ _)
  have z1 : W0.heap[w.heap.size + 1]? = some (.cells #[.int .i64 0] 29 (0, 0)) := by rw [hW0]; exact heap_new2 _ _ _
  have HGa := hide (fun V (hV : Below w.heap.size w V) => good_any aa na ca A V (hA.below hV) hna)
  have HGb := hide (fun V (hV : Below w.heap.size w V) => good_any ab nb cb B V (hB.below hV) hnb)
  have Z0 := hide z0
  have Z1 := hide z1
  have B0 := hide b0
  have hend : ∀ V, Below W0.heap.size W0 V → ∃ r0 r1, V.heap[w.heap.size]? = some (.cells #[r0] 4 (0, 0)) ∧ V.heap[w.heap.size + 1]? = some (.cells #[r1] 29 (0, 0)) ∧ Below w.heap.size w V := fun V hV => ⟨_, _, (hV.block _ (get_lt' z0)).trans z0, (hV.block _ (get_lt' z1)).trans z1, Below.on b0 hV⟩
  have HE := hide hend
  clear z0 z1 b0 hend hA hB
  have hfin : ∀ V, Below W0.heap.size W0 V → ∀ X, X = (V.setCell ⟨w.heap.size, 0, none⟩ (.bool false)).setCell ⟨w.heap.size + 1, 0, none⟩ (.int .i64 170) → X.heap[w.heap.size]? = some (.cells #[.bool false] 4 (0, 0)) ∧ X.heap[w.heap.size + 1]? = some (.cells #[.int .i64 170] 29 (0, 0)) ∧ Below w.heap.size w X := fun V hV X hX => by
    obtain ⟨r0, r1, e0, e1, eb⟩ := HE.out V hV
    obtain ⟨q0, q1, q2⟩ := two_set e0 e1 (.bool false) (.int .i64 170)
    rw [hX]
    exact ⟨q0, q1, Below.trans eb (q2.below eb.size (fun k hk => by rcases hk with e | e <;> omega))⟩
  have HF := hide hfin
  clear hfin
  cases hga : gd 0 A with
  | false =>
    rw [hga] at HGa
    clear hga h
    go_enter Tryz.func21, Tryz.ntmps21
    go_wp2_with fail
    rw [← hW0]
    refine (HGa.out W0 B0.out).mono ?_
    rintro e w1 ⟨rfl, hb1⟩
    obtain ⟨r0, r1, e0, e1, eb⟩ := HE.out w1 hb1
    have c0 : w1.cell? ⟨w.heap.size, 0, none⟩ = some r0 := cell_at e0 rfl
    have c1 : w1.cell? ⟨w.heap.size + 1, 0, none⟩ = some r1 := cell_at e1 rfl
    have f0 := frz e0 0
    have f1 := frz e1 0
    have HB1 := hide hb1
    clear hb1 e0 e1 eb hW0
    go_wp2
    obtain ⟨q0, q1, q2⟩ := HF.out w1 HB1.out _ rfl
    refine bodyPost_ret (results_cc Tryz.results21 _ _ w.heap.size (w.heap.size + 1) _ _ rfl (load_bool q0) rfl (load_err q1)) rfl ?_
    exact ⟨rfl, q2⟩
  | true =>
    have hgb : gd 0 B = false := by rcases h with h | h; · rw [hga] at h; cases h
                                    · exact h
    rw [hga] at HGa
    rw [hgb] at HGb
    clear hga hgb h
    go_enter Tryz.func21, Tryz.ntmps21
    go_wp2_with fail
    rw [← hW0]
    refine (HGa.out W0 B0.out).mono ?_
    rintro e w1 ⟨rfl, hb1⟩
    have HB1 := hide hb1
    clear hb1 hW0
    go_wp2_with fail
    refine (HGb.out w1 (Below.on B0.out HB1.out)).mono ?_
    rintro e w2 ⟨rfl, hb2⟩
    have hb12 := Below.on HB1.out hb2
    obtain ⟨r0, r1, e0, e1, eb⟩ := HE.out w2 hb12
    have c0 : w2.cell? ⟨w.heap.size, 0, none⟩ = some r0 := cell_at e0 rfl
    have c1 : w2.cell? ⟨w.heap.size + 1, 0, none⟩ = some r1 := cell_at e1 rfl
    have f0 := frz e0 0
    have f1 := frz e1 0
    have HB2 := hide hb12
    clear hb2 hb12 e0 e1 eb
    go_wp2
    obtain ⟨q0, q1, q2⟩ := HF.out w2 HB2.out _ rfl
    refine bodyPost_ret (results_cc Tryz.results21 _ _ w.heap.size (w.heap.size + 1) _ _ rfl (load_bool q0) rfl (load_err q1)) rfl ?_
    exact ⟨rfl, q2⟩
set_option maxRecDepth 100000 in
theorem leq_ok (aa ab:Option Addr) (na ca nb cb:Nat) (A B:List Tk) (w:World) (hA:TRow layT w aa na A) (hB:TRow layT w ab nb B) (hca:na≤ca) (hcb:nb≤cb) (ha:gd 0 A=true) (hb:gd 0 B=true) :
  Calls Tryz.prog 21 #[.slice aa na ca,.slice ab nb cb] w fun e w'=>e=.returned (.tuple #[.bool (leB A B),.int .i64 0])∧Below w.heap.size w w':=by
 obtain ⟨W0,hW0⟩:∃ W0,W0=(w.alloc (.cells #[.bool false] 4)).alloc (.cells #[.int .i64 0] 29):=⟨_,rfl⟩
 have b0:Below w.heap.size w W0:=by rw [hW0];exact below_alloc2 _ _ _
 have s0:W0.heap.size=w.heap.size+2:=by rw [hW0];simp
 have z0:W0.heap[w.heap.size]?=some (.cells #[.bool false] 4 (0,0)):=by rw [hW0];exact heap_old (heap_new _ _)
 have z1:W0.heap[w.heap.size+1]?=some (.cells #[.int .i64 0] 29 (0,0)):=by rw [hW0];exact heap_new2 _ _ _
 have hna:(na:Int)≤8796093022208:=by have:=gd_len0 ha;rw [hA.len] at this;omega
 have hnb:(nb:Int)≤8796093022208:=by have:=gd_len0 hb;rw [hB.len] at this;omega
 have HGa:=hide (fun V (hV:Below w.heap.size w V)=>good_any aa na ca A V (hA.below hV) hna)
 have HGb:=hide (fun V (hV:Below w.heap.size w V)=>good_any ab nb cb B V (hB.below hV) hnb)
 rw [ha] at HGa
 rw [hb] at HGb
 have Z0:=hide z0
 have Z1:=hide z1
 have B0:=hide b0
 have S0:=hide s0
 have HA:=hide ha
 have HB:=hide hb
 have TA:=hide (hA.below b0)
 have TB:=hide (hB.below b0)
 have HC:=hide (And.intro hca hcb)
 clear z0 z1 b0 s0 hA hB ha hb hca hcb hna hnb
 refine (callsIn_wide (n:=4)).1 ?_
 refine callsIn_of_wp_marks Tryz.func21 rfl trivial ?_ rfl
 simp only [Tryz.ntmps21,List.size_toArray,List.length_cons,List.length_nil,Nat.reduceAdd,Nat.reduceSub,Array.replicate_succ,Array.replicate_zero,List.push_toArray,List.append_toArray,List.nil_append,List.cons_append]
 gi_wp2_with fail
 rw [← hW0]
 clear hW0
 refine ⟨trivial,CallsIn.mono (callsIn_wide.2 (HGa.out W0 B0.out)) ?_⟩
 rintro e w1 ⟨rfl,hb1⟩
 have HB1:=hide hb1
 clear hb1
 gi_wp2_with fail
 refine ⟨trivial,CallsIn.mono (callsIn_wide.2 (HGb.out w1 (Below.on B0.out HB1.out))) ?_⟩
 rintro e w2 ⟨rfl,hb2⟩
 have HB2:=hide (Below.on HB1.out hb2)
 clear hb2 HB1
 gi_wp2_with fail
 refine ⟨trivial,CallsIn.mono (callsIn_wide.2 (both_any aa ab na ca nb cb w2)) ?_⟩
 rintro e w4 ⟨rfl,hw4⟩
 have HB4:=hide (Below.on HB2.out (by rw [hw4];exact below_alloc2 _ _ _:Below w2.heap.size w2 w4))
 have HS4:Hid (w4.heap.size=w2.heap.size+2):=hide (by rw [hw4];simp)
 have HX1:Hid (w4.heap[w2.heap.size]?=some (.cells #[.slice aa na ca] 28 (0,0))):=hide (by rw [hw4];exact heap_old (heap_new _ _))
 have HX2:Hid (w4.heap[w2.heap.size+1]?=some (.cells #[.slice ab nb cb] 28 (0,0))):=hide (by rw [hw4];exact heap_new2 _ _ _)
 have HS2:Hid (w.heap.size+2≤w2.heap.size):=hide (by have h1:=HB2.out.size;rw [S0.out] at h1;exact h1)
 clear hw4
 gi_wp2_with fail
 refine range_turn (n:=4) (by omega) (gf:=66) (lb:=#[.pointer (some ⟨w2.heap.size,0,none⟩),.pointer (some ⟨w2.heap.size+1,0,none⟩)]) rfl (enters_of Tryz.func66 (by kernel_rfl) rfl) (σ:=List Tk × List Tk) (ε:=Int × Int × Int)
  (fun x=>#[.int .i64 x.1,.agg #[.int .i64 x.2.1,.int .i64 x.2.2]]) (fun _=>rfl) (fun s W=>Lsq A B s∧Below w4.heap.size w4 W) (fun W=>leB A B=false∧W.heap[w.heap.size]?=some (.cells #[.bool false] 4 (0,0))∧W.heap[w.heap.size+1]?=some (.cells #[.int .i64 0] 29 (0,0))∧But (fun q=>q=w.heap.size∨q=w.heap.size+1) w4 W) (fun s=>s=([],[])) (A,B) Stp ?hI ?hIx ?hIb ?hTk ?h0 ?hseq
  (fun x W a1 W3=>W3=W.alloc (.cells #[.int .i64 x.2.1,.int .i64 x.2.2] 101)∧a1={ tmps:=#[.slice aa na ca,.slice ab nb cb,undef,undef,.pointer (some ⟨w.heap.size,0,none⟩),.pointer (some ⟨w.heap.size+1,0,none⟩),undef,.pointer (some ⟨W.heap.size,0,none⟩),.slice aa na ca,.bool true,.bool false,.bool false,.slice ab nb cb,.bool true,.bool false,.bool false,.slice aa na ca,.slice ab nb cb,
   .func (.func 66) #[] #[.pointer (some ⟨w2.heap.size,0,none⟩),.pointer (some ⟨w2.heap.size+1,0,none⟩)],.int .i64 x.1,.agg #[.int .i64 x.2.1,.int .i64 x.2.2],undef,undef,undef,undef,undef],defers:=[] }) ?hA ?hassign ?hbody ?hdone ?hstop
 case hI =>
  rintro s W o o' ⟨h1,h2⟩ hl
  exact ⟨h1,h2.trans ((but_put W _ o').below h2.size (fun k hk=>by have e:k=w4.heap.size+1:=hk;omega))⟩
 case hIx =>
  rintro W o o' ⟨h1,h2,h3,h4⟩ hl
  have z4:=HS4.out
  have z2:=HS2.out
  exact ⟨h1,(World.putObj_heap_other (by omega)).trans h2,(World.putObj_heap_other (by omega)).trans h3,h4.trans (but_put W _ o') (fun k hk e=>by have e9:k=w4.heap.size+1:=e;omega)⟩
 case hIb =>
  rintro s W W' ⟨h1,h2⟩ hb
  exact ⟨h1,h2.trans (hb.mono h2.size)⟩
 case hTk =>
  rintro s x W W2 s2 ⟨h1,hb⟩ tk
  exact ⟨fun o ho=>(tk.bel.block _ (get_lt' ho)).trans ho,fun ho=>(tk.bel.block _ (get_lt' ho)).trans ho⟩
 case h0=>exact ⟨Lsq.start HA.out HB.out,Below.refl _ _⟩
 case hseq =>
  intro l J Jx W hJI hJb hY hJ0
  refine both1_in 3 (by omega) l w2.heap.size (w2.heap.size+1) aa ab na ca nb cb A B J Jx (fun s W1 hj=>?_) hJb HA.out HB.out HC.out.1 HC.out.2 hY W hJ0
  obtain ⟨_,hb⟩:=hJI s W1 hj
  have b01:=Below.on HB4.out hb
  exact ⟨cell_at ((hb.block _ (get_lt' HX1.out)).trans HX1.out) rfl,cell_at ((hb.block _ (get_lt' HX2.out)).trans HX2.out) rfl,TA.out.below b01,TB.out.below b01⟩
 case hA =>
  rintro x W a1 W3 ⟨rfl,_⟩
  exact below_alloc1 _ _
 case hassign =>
  intro l s x s2 W W2 K hI tk hK
  gi_wp2
 case hbody =>
  intro l s x s2 W W2 a1 W3 o o' hI tk hA hlt hl hd
  obtain ⟨hls,hb⟩:=hI
  obtain ⟨rfl,rfl⟩:=hA
  obtain ⟨st1,st2⟩:=hls.step tk
  have b02:Below w4.heap.size w4 W2:=hb.trans (tk.bel.mono hb.size)
  have z4:=HS4.out
  have z2:=HS2.out
  have zb:=b02.size
  obtain ⟨U,hU⟩:∃ U,U=(W2.alloc (.cells #[.int .i64 x.2.1,.int .i64 x.2.2] 101)).putObj (w4.heap.size+1) (.loop o'):=⟨_,rfl⟩
  rw [← hU]
  have hne:¬ W2.heap.size=w4.heap.size+1:=fun e=>by
   rw [← e,World.alloc_heap_new] at hl
   cases hl
  have bU:But (fun q=>q=w4.heap.size+1) w4 U:=by
   rw [hU]
   exact ((But.of_below (S:=fun q=>q=w4.heap.size+1) b02).alloc _).trans (but_put _ _ _) (fun _ _ e=>e)
  have BU:Below w4.heap.size w4 U:=bU.below (Nat.le_refl _) (fun k hk=>by omega)
  have t0:U.heap[W2.heap.size]?=some (.cells #[.int .i64 x.2.1,.int .i64 x.2.2] 101 (0,0)):=by rw [hU];exact (World.putObj_heap_other hne).trans (heap_new _ _)
  have c0:U.cell? ⟨W2.heap.size,0,none⟩=some (.int .i64 x.2.1):=cell_at t0 rfl
  have c1:U.cell? ⟨W2.heap.size,1,none⟩=some (.int .i64 x.2.2):=cell_at t0 rfl
  have r0:U.heap[w.heap.size]?=some (.cells #[.bool false] 4 (0,0)):=(BU.block _ (by omega)).trans ((HB4.out.block _ (get_lt' Z0.out)).trans Z0.out)
  have r1:U.heap[w.heap.size+1]?=some (.cells #[.int .i64 0] 29 (0,0)):=(BU.block _ (by omega)).trans ((HB4.out.block _ (get_lt' Z1.out)).trans Z1.out)
  have HL:Hid (U.heap[w4.heap.size+1]?=some (.loop o')):=hide (by rw [hU];exact World.putObj_heap_same (get_lt' hl))
  have HD:Hid (U.heap[w4.heap.size]?=some (.deferred (some []))):=hide (by rw [hU];exact (World.putObj_heap_other (by omega)).trans hd)
  have g0:U.cell? ⟨w.heap.size,0,none⟩=some (.bool false):=cell_at r0 rfl
  have g1:U.cell? ⟨w.heap.size+1,0,none⟩=some (.int .i64 0):=cell_at r1 rfl
  have f0:=frz r0 0
  have f1:=frz r1 0
  have HR:=hide (two_set r0 r1 (.bool false) (.int .i64 0))
  have HBU:=hide BU
  have HS1:=hide st1
  have HSt2:=hide st2
  have HZ:Hid (w.heap.size+4≤w4.heap.size):=hide (by omega)
  obtain ⟨xg,x1,x2⟩:=x
  dsimp only at c0 c1 HS1 HSt2 ⊢
  clear st1 st2 hls hb tk hU hne bU BU t0 r0 r1 z4 z2 zb b02 hl hd hlt
  by_cases hx:x1≤x2
  ·have d1:decide (x2 < x1)=false:=decide_eq_false (by omega)
   gi_wp2
   exact ⟨⟨HS1.out hx,HBU.out⟩,HD.out,HL.out⟩
  ·have d1:decide (x2 < x1)=true:=decide_eq_true (by omega)
   gi_wp2
   obtain ⟨q0,q1,q2⟩:=HR.out
   have hz:=HZ.out
   obtain ⟨g,hg⟩:=HSt2.out hx
   exact ⟨⟨leB_false HA.out HB.out hg,q0,q1,(But.of_below (S:=fun q=>q=w.heap.size∨q=w.heap.size+1) HBU.out).trans q2 (fun _ _ e=>e)⟩,(q2.block _ (get_lt' HD.out) (by omega)).trans HD.out,(q2.block _ (get_lt' HL.out) (by omega)).trans HL.out⟩
 case hdone =>
  rintro s W rfl ⟨hls,hb⟩ hd
  have HLe:=hide (hls.done HA.out HB.out)
  have z4:=HS4.out
  have z2:=HS2.out
  have r0:W.heap[w.heap.size]?=some (.cells #[.bool false] 4 (0,0)):=(hb.block _ (by omega)).trans ((HB4.out.block _ (get_lt' Z0.out)).trans Z0.out)
  have r1:W.heap[w.heap.size+1]?=some (.cells #[.int .i64 0] 29 (0,0)):=(hb.block _ (by omega)).trans ((HB4.out.block _ (get_lt' Z1.out)).trans Z1.out)
  have g0:W.cell? ⟨w.heap.size,0,none⟩=some (.bool false):=cell_at r0 rfl
  have g1:W.cell? ⟨w.heap.size+1,0,none⟩=some (.int .i64 0):=cell_at r1 rfl
  have f0:=frz r0 0
  have f1:=frz r1 0
  have HR:=hide (two_set r0 r1 (.bool true) (.int .i64 0))
  have HBW:=hide (Below.on B0.out (Below.on HB4.out hb))
  have HD:=hide hd
  have HZ:Hid (w.heap.size+4≤w4.heap.size):=hide (by omega)
  clear hls hb hd r0 r1 z4 z2
  gi_wp2_with fail
  obtain ⟨q0,q1,q2⟩:=HR.out
  generalize hX:(W.setCell ⟨w.heap.size,0,none⟩ (.bool true)).setCell ⟨w.heap.size+1,0,none⟩ (.int .i64 0)=X at q0 q1 q2 ⊢
  have hz:=HZ.out
  have dX:=(q2.block _ (get_lt' HD.out) (by omega)).trans HD.out
  have bX:Below w.heap.size w X:=HBW.out.trans (q2.below HBW.out.size (fun k hk=>by rcases hk with e|e <;> omega))
  refine ⟨by simp,.inl ⟨_,_,rfl,run_takeDeferred dX,?_⟩⟩
  have a0:=(World.putObj_heap_other (w:=X) (o:=.deferred none) (show w.heap.size≠w4.heap.size by omega)).trans q0
  have a1:=(World.putObj_heap_other (w:=X) (o:=.deferred none) (show w.heap.size+1≠w4.heap.size by omega)).trans q1
  refine ⟨_,results_cc Tryz.results21 _ _ w.heap.size (w.heap.size+1) _ _ rfl (load_bool a0) rfl (load_err a1),by rw [HLe.out],bX.trans ((but_put X _ _).below bX.size (fun k hk=>by have e:k=w4.heap.size:=hk;omega))⟩
 case hstop =>
  rintro X ⟨hle,q0,q1,q2⟩ hd
  have HLe:=hide hle
  have z4:=HS4.out
  have z2:=HS2.out
  have b4:=Below.on B0.out HB4.out
  have bX:Below w.heap.size w X:=b4.trans (q2.below b4.size (fun k hk=>by rcases hk with e|e <;> omega))
  have HD:=hide hd
  have HQ:=hide (And.intro q0 (And.intro q1 bX))
  clear hle q0 q1 q2 hd b4 bX z4 z2
  gi_wp2_with fail
  obtain ⟨q0,q1,bX⟩:=HQ.out
  have z4:=HS4.out
  have z2:=HS2.out
  refine ⟨by simp,.inl ⟨_,_,rfl,run_takeDeferred HD.out,?_⟩⟩
  have a0:=(World.putObj_heap_other (w:=X) (o:=.deferred none) (show w.heap.size≠w4.heap.size by omega)).trans q0
  have a1:=(World.putObj_heap_other (w:=X) (o:=.deferred none) (show w.heap.size+1≠w4.heap.size by omega)).trans q1
  refine ⟨_,results_cc Tryz.results21 _ _ w.heap.size (w.heap.size+1) _ _ rfl (load_bool a0) rfl (load_err a1),by rw [HLe.out],bX.trans ((but_put X _ _).below bX.size (fun k hk=>by have e:k=w4.heap.size:=hk;omega))⟩
end Go.Proofs.YtnfcemohjaiipaaGreatDoor.K17
namespace Go.Proofs.YtnfcemohjaiipaaGreatDoor
open Go.RowKit Go.Maps
section
variable {es : List E6.Ev} {i j : Nat} {u v : Vw}
theorem IsRun.c0 (h:IsRun es) (hv:(vws es)[j]?=some v) (x:Nat):0≤v.clk x:=(h.hs.cl v (List.mem_of_getElem? hv) x).1
theorem IsRun.cz (h:IsRun es) (hv:(vws es)[j]?=some v) {x:Nat} (hx:65536≤x):v.clk x=0:=by
 obtain ⟨a,b⟩:=h.hs.cl v (List.mem_of_getElem? hv) x
 by_cases e:1≤v.clk x
 ·obtain ⟨z,hz,zg,_⟩:=b e
  have:=h.gb z hz
  omega
 ·omega
theorem tells_leq (hR:IsRun es) (hu:(vws es)[i]?=some u) (hv:(vws es)[j]?=some v):befB (vws es) i j=(K17.leB ((tks u.clk).map kt) ((tks v.clk).map kt) && decide (i≠j)):=by
 apply Bool.eq_iff_iff.2
 rw [befB_iff,bef_leq hR.hs hu hv,Bool.and_eq_true,leB_tks (hR.c0 hu) (hR.c0 hv),decide_eq_true_iff]
 refine ⟨fun h=>⟨fun x _=>h.2 x,h.1⟩,fun h=>⟨h.2,fun x=>?_⟩⟩
 by_cases hx:x < 65536
 ·exact h.1 x hx
 ·rw [hR.cz hu (by omega),hR.cz hv (by omega)];omega
theorem Clock_of {w:World} {ob:Nat} (hR:IsRun es) (h:OA es w ob) (hi:(vws es)[i]?=some v):Calls Tryz.prog 20 #[.pointer (some ⟨ob,0,none⟩),.int .i64 (i:Int)] w fun x w'=>∃ a n c,x=.returned (.tuple #[.slice a n c,.int .i64 0])∧TRow layK w' a n (tks v.clk)∧n≤c∧Below w.heap.size w w':=by
 refine (Clock_in hR h hi).mono ?_
 rintro x w' ⟨lv,T,rfl,h1,h2⟩
 obtain ⟨a,n,c,rfl⟩:=h1.frm
 obtain ⟨h3,h4⟩:=own_ln h1.own
 exact ⟨a,n,c,rfl,by rw [← h2.eq];exact h1.own.row h3,h4,h1.bel⟩
end
theorem tells_any (a:Option Addr) (n c:Nat) (es:List E6.Ev) (i j:Int) (w:World) (hK:E6.Kr w) (hr:E6.ERow w a n es) (hok:∀ e ∈ es,e.ok) (hn:n * 56≤140737488355328) :
  Calls Tryz.prog 5 #[.slice a n c,.int .i64 i,.int .i64 j] w fun e w'=>e=.returned (.bool true)∧Below w.heap.size w w':=by
 have hsz:=hK.size
 have HAl:=hide (alive_any w hK)
 have HK:=hide hK
 have HR:=hide hr
 have HOk:=hide hok
 have hnI:(n:Int)≤9223372036854775806:=by omega
 have HN:=hide hn
 clear hK hr hok hn
 go_enter Tryz.func5,Tryz.ntmps5
 go_wp2_with fail
 refine HAl.out.mono ?_
 rintro e1 w1 ⟨rfl,hb1⟩
 have HB1:=hide hb1
 have HBd:=hide (Build_any a n c (HK.out.below hb1 (by omega)) (HR.out.bel hb1) HOk.out hnI)
 clear hb1 HAl
 go_wp2_with fail
 refine HBd.out.mono ?_
 rintro e2 w2 hBO
 rcases hBO with ⟨ob,rfl,hRun,hOA,hb2⟩|⟨p,f,rfl,hf,hb2⟩
 ·have HB2:=hide (bw_call HB1.out hb2)
  have HO:=hide hOA
  have HRun:=hide hRun
  have HLn:=hide HR.out.len
  have HL:Hid (Calls Tryz.prog 18 #[.pointer (some ⟨ob,0,none⟩)] w2 fun x w'=>x=.returned (.int .i64 (n:Int))∧w'=w2):=hide (by have h9:=Len_any hOA;rw [HR.out.len] at h9;exact h9)
  unfold gPtr
  clear hb2 hOA hRun HBd HB1
  go_wp2_with fail
  refine HL.out.mono ?_
  rintro e3 w3 ⟨rfl,hw3⟩
  obtain rfl:w2=w3:=hw3.symm
  clear hw3 HL
  by_cases h1:i < 0
  ·have d1:decide (i < 0)=true:=decide_eq_true h1
   go_wp2
   go_ret
   exact ⟨rfl,HB2.out⟩
  have d1:decide (i < 0)=false:=decide_eq_false h1
  by_cases h2:(n:Int)≤i
  ·have d2:decide ((n:Int)≤i)=true:=decide_eq_true h2
   go_wp2
   go_ret
   exact ⟨rfl,HB2.out⟩
  have d2:decide ((n:Int)≤i)=false:=decide_eq_false h2
  by_cases h3:j < 0
  ·have d3:decide (j < 0)=true:=decide_eq_true h3
   go_wp2
   go_ret
   exact ⟨rfl,HB2.out⟩
  have d3:decide (j < 0)=false:=decide_eq_false h3
  by_cases h4:(n:Int)≤j
  ·have d4:decide ((n:Int)≤j)=true:=decide_eq_true h4
   go_wp2
   go_ret
   exact ⟨rfl,HB2.out⟩
  have d4:decide ((n:Int)≤j)=false:=decide_eq_false h4
  obtain ⟨i,rfl⟩:∃ i':Nat,i=(i':Int):=⟨i.toNat,by omega⟩
  obtain ⟨j,rfl⟩:∃ j':Nat,j=(j':Int):=⟨j.toNat,by omega⟩
  have HI:Hid (i < n∧j < n):=hide ⟨by omega,by omega⟩
  have c2:decide (n≤i)=false:=decide_eq_false (by omega)
  have c4:decide (n≤j)=false:=decide_eq_false (by omega)
  obtain ⟨u,hu⟩:=vw_ex (es:=es) (i:=i) (by rw [HLn.out];exact HI.out.1)
  obtain ⟨v,hv⟩:=vw_ex (es:=es) (i:=j) (by rw [HLn.out];exact HI.out.2)
  have HU:=hide hu
  have HV:=hide hv
  have HC:=hide (Clock_of HRun.out HO.out hu)
  clear hu hv h1 h2 h3 h4
  go_wp2_with fail
  refine HC.out.mono ?_
  rintro e4 w4 ⟨la,ln,lc,rfl,hT4,hlc,hb4⟩
  have HB4:=hide (bw_call HB2.out hb4)
  have HO4:=hide (HO.out.on hb4)
  have HT4:=hide (And.intro hT4 hlc)
  have HC5:=hide (Clock_of HRun.out HO4.out HV.out)
  clear hb4 hT4 hlc HC HB2 HO
  go_wp2_with fail
  refine HC5.out.mono ?_
  rintro e5 w5 ⟨ka,kn,kc,rfl,hT5,hkc,hb5⟩
  have HB5:=hide (bw_call HB4.out hb5)
  have HO5:=hide (HO4.out.on hb5)
  have HLq:=hide (K17.leq_ok la ka ln lc kn kc _ _ w5 (trow_kt (HT4.out.1.below hb5)) (trow_kt hT5) HT4.out.2 hkc (gd_tks _) (gd_tks _))
  have HT5:=hide hT5
  obtain ⟨Bl,hBl⟩:∃ Bl,K17.leB ((tks u.clk).map kt) ((tks v.clk).map kt)=Bl:=⟨_,rfl⟩
  rw [hBl] at HLq
  obtain ⟨I,hI⟩:∃ I,befB (vws es) i j=I:=⟨_,rfl⟩
  have HIB:Hid (I=(Bl && decide (i≠j))):=hide (by rw [← hI,← hBl];exact tells_leq HRun.out HU.out HV.out)
  clear hb5 hT5 hkc HC5 HB4 HO4 HT4 hBl
  go_wp2_with fail
  refine HLq.out.mono ?_
  rintro e6 w6 ⟨rfl,hb6⟩
  have HB6:=hide (bw_call HB5.out hb6)
  have HO6:=hide (HO5.out.on hb6)
  have HT6:=hide (HT5.out.below hb6)
  have HBf:Hid (∀ X (p q:Nat),OA es X ob→p < n→q < n→Calls Tryz.prog 19 #[.pointer (some ⟨ob,0,none⟩),.int .i64 (p:Int),.int .i64 (q:Int)] X fun r w'=>r=.returned (.tuple #[.bool (befB (vws es) p q),.int .i64 0])∧Below X.heap.size X w'):=hide (fun X p q hX hp hq=>Before_in HRun.out hX (by rw [HLn.out];exact hp) (by rw [HLn.out];exact hq))
  have HC7:=hide (HBf.out w6 i j HO6.out HI.out.1 HI.out.2)
  rw [hI] at HC7
  clear hb6 HLq HB5 HO5 HT5 hI
  go_wp2_with fail
  refine HC7.out.mono ?_
  rintro e7 w7 ⟨rfl,hb7⟩
  have HB7:=hide (bw_call HB6.out hb7)
  have HO7:=hide (HO6.out.on hb7)
  have HT7:=hide (HT6.out.below hb7)
  have HR7:=hide (HR.out.bel HB7.out)
  clear hb7 HC7 HB6 HO6 HT6 HR
  have hcase:(I=Bl∧((i:Int) != (j:Int))=true)∨(I=false∧((i:Int) != (j:Int))=false):=by
   rw [HIB.out]
   by_cases hij:i=j
   ·refine .inr ⟨by simp [hij],by simp [hij]⟩
   ·refine .inl ⟨by simp [hij],by simp;omega⟩
  clear HIB
  rcases hcase with ⟨h9,hne⟩|⟨h9,hne⟩ <;> cases I <;> cases Bl <;> first|exact absurd h9 (by decide)|clear h9
  all_goals
   go_wp2
   go_loopw [20] (fun s20 wr=>∃ q:Nat,q≤n∧s20=.int .i64 q∧Hid (Below w7.heap.size w7 wr)) (fun s _=>n - (intOf s).toNat)
   case atStart=>exact ⟨0,Nat.zero_le _,rfl,hide (Below.refl _ _)⟩
   case round =>
    obtain ⟨q,hq,rfl,HX⟩:=hrel
    by_cases hlt:q < n
    ·have hqI:(q:Int) < n:=by omega
     have hq0:(0:Int)≤(q:Int):=by omega
     obtain ⟨b,off,x,ha,hx,_⟩:=HR7.out.at hlt
     subst ha
     obtain ⟨z,hz⟩:=vw_ex (es:=es) (i:=q) (by rw [HLn.out];exact hlt)
     have HZg:=hide (HRun.out.vg hx hz)
     have HZb:Hid (z.g < 65536):=hide (HRun.out.gb z (List.mem_of_getElem? hz))
     have HXq:=hide hx
     clear hx hz
     rename World=>Wk
     go_wp2
     go_loopw [21,22] (fun s21 s22 wr=>∃ (p m:Nat),p≤j+1∧s21=.int .i64 m∧s22=.int .i64 p∧Hid (Mx (vws es) z.g (v.clk z.g) p m∧(m:Int)≤1048576∧Below w7.heap.size w7 wr)) (fun _ s _=>j+1 - (intOf s).toNat)
     case atStart=>exact ⟨0,0,Nat.zero_le _,rfl,rfl,hide ⟨Mx.zero _ _ _,by omega,HX.out⟩⟩
     case round =>
      obtain ⟨p,m,hp,rfl,rfl,HM⟩:=hrel
      have hrr:=HR7.out.bel HM.out.2.2
      obtain ⟨b1,off1,x1,ha1,hx1,x0,_⟩:=hrr.at hlt
      obtain ⟨rfl,rfl⟩:b=b1∧off=off1:=by cases ha1;exact ⟨rfl,rfl⟩
      obtain rfl:x=x1:=by have h9:=HXq.out;rw [hx1] at h9;exact (Option.some.inj h9).symm
      clear ha1 hx1
      have bl:b < wr.heap.size:=World.block_lt_of_cell? wr _ x0
      by_cases hpj:p≤j
      ·have hpI:(p:Int)≤(j:Int):=by omega
       have hpn:(p:Int) < (n:Int):=by have:=HI.out.2;omega
       have hp0:(0:Int)≤(p:Int):=by omega
       have hpN:p < n:=by omega
       obtain ⟨b1,off1,y,ha1,hy,y0,_⟩:=hrr.at hpN
       obtain ⟨rfl,rfl⟩:b=b1∧off=off1:=by cases ha1;exact ⟨rfl,rfl⟩
       obtain ⟨zy,hzy⟩:=vw_ex (es:=es) (i:=p) (by rw [HLn.out];exact hpN)
       have hyg:=HRun.out.vg hy hzy
       clear ha1 hrr hy
       by_cases hg:y.g=x.g
       ·have gb:(y.g != x.g)=false:=by simp [hg]
        have hzz:zy.g=z.g:=by have:=HZg.out;omega
        have HBo:=hide (bef_or HRun.out.hs hzy HV.out)
        by_cases hcn:zy.tm≤v.clk zy.g
        ·obtain ⟨F,hF⟩:=HRun.out.rcd
         obtain ⟨t1,t2⟩:=HM.out.1.take HRun.out.hs hF hzy hzz (by rw [← hzz];exact hcn)
         have hvb:=(HRun.out.vok hzy).1.ft.2
         have HM2:Hid (Mx (vws es) z.g (v.clk z.g) (p+1) ((m+1:Nat):Int)∧((m+1:Nat):Int)≤1048576):=hide ⟨by rw [show ((m+1:Nat):Int)=(m:Int)+1 by omega];exact t1,by omega⟩
         have HOr:=hide (HBo.out.2 hcn)
         have hmb:(m:Int)≤1048576:=HM.out.2.1
         clear t1 t2 hF hvb hcn hzy hyg hg hzz HBo
         rcases HOr.out with hB|hpe
         ·have HC8:Hid (∀ X,OA es X ob→Calls Tryz.prog 19 #[.pointer (some ⟨ob,0,none⟩),.int .i64 (p:Int),.int .i64 (j:Int)] X fun r w'=>r=.returned (.tuple #[.bool true,.int .i64 0])∧Below X.heap.size X w'):=hide (fun X hX=>by have h9:=HBf.out X p j hX hpN HI.out.2;rw [hB] at h9;exact h9)
          clear hB HOr
          go_wp2_with fail
          go_quiet (fail)
          go_wp2_with fail
          refine (HC8.out _ ((HO7.out.on HM.out.2.2).on (below_drewN (Below.refl _ _) _))).mono ?_
          rintro e8 w8 ⟨rfl,hb8⟩
          have HB8:=hide (bw_call (below_drewN HM.out.2.2 _) hb8)
          clear hb8 HC8 HM x0 y0 bl
          go_wp2
          exact ⟨⟨p+1,m+1,by omega,by go_num,by go_num,hide ⟨HM2.out.1,HM2.out.2,HB8.out⟩⟩,by simp [intOf];omega⟩
         ·subst hpe
          have HC8:Hid (∀ X,OA es X ob→Calls Tryz.prog 19 #[.pointer (some ⟨ob,0,none⟩),.int .i64 (p:Int),.int .i64 (p:Int)] X fun r w'=>r=.returned (.tuple #[.bool false,.int .i64 0])∧Below X.heap.size X w'):=hide (fun X hX=>by have h9:=HBf.out X p p hX hpN HI.out.2;rw [befB_self] at h9;exact h9)
          have hpp:((p:Int) == (p:Int))=true:=by simp
          clear HOr
          go_wp2_with fail
          go_quiet (fail)
          go_wp2_with fail
          refine (HC8.out _ ((HO7.out.on HM.out.2.2).on (below_drewN (Below.refl _ _) _))).mono ?_
          rintro e8 w8 ⟨rfl,hb8⟩
          have HB8:=hide (bw_call (below_drewN HM.out.2.2 _) hb8)
          clear hb8 HC8 HM x0 y0 bl
          go_wp2
          exact ⟨⟨p+1,m+1,by omega,by go_num,by go_num,hide ⟨HM2.out.1,HM2.out.2,HB8.out⟩⟩,by simp [intOf] <;> omega⟩
        ·have hB:befB (vws es) p j=false:=by
          cases h9:befB (vws es) p j with
          | false=>rfl
          | true=>exact absurd (HBo.out.1 (.inl h9)) hcn
         have hpe:((p:Int) == (j:Int))=false:=by
          rw [beq_eq_false_iff_ne]
          intro e9
          exact hcn (HBo.out.1 (.inr (by omega)))
         have HM2:Hid (Mx (vws es) z.g (v.clk z.g) (p+1) (m:Int)):=hide (HM.out.1.skip hzy (fun e=>by rw [← hzz];exact hcn))
         have HC8:Hid (∀ X,OA es X ob→Calls Tryz.prog 19 #[.pointer (some ⟨ob,0,none⟩),.int .i64 (p:Int),.int .i64 (j:Int)] X fun r w'=>r=.returned (.tuple #[.bool false,.int .i64 0])∧Below X.heap.size X w'):=hide (fun X hX=>by have h9:=HBf.out X p j hX hpN HI.out.2;rw [hB] at h9;exact h9)
         clear hB hcn hzy hyg hg hzz HBo
         go_wp2_with fail
         go_quiet (fail)
         go_wp2_with fail
         refine (HC8.out _ ((HO7.out.on HM.out.2.2).on (below_drewN (Below.refl _ _) _))).mono ?_
         rintro e8 w8 ⟨rfl,hb8⟩
         have HB8:=hide (bw_call (below_drewN HM.out.2.2 _) hb8)
         have HMb:=hide HM.out.2.1
         clear hb8 HC8 HM x0 y0 bl
         go_wp2
         exact ⟨⟨p+1,m,by omega,rfl,by go_num,hide ⟨HM2.out,HMb.out,HB8.out⟩⟩,by simp [intOf];omega⟩
       ·have gb:(y.g != x.g)=true:=by simp [hg]
        have HM2:Hid (Mx (vws es) z.g (v.clk z.g) (p+1) (m:Int)):=hide (HM.out.1.skip hzy (fun e=>by have:=HZg.out;omega))
        clear hzy hyg hg
        go_wp2_with fail
        go_quiet (fail)
        go_wp2
        exact ⟨⟨p+1,m,by omega,rfl,by go_num,hide ⟨HM2.out,HM.out.2.1,below_drewN HM.out.2.2 _⟩⟩,by simp [intOf];omega⟩
      ·have hpI:¬ (p:Int)≤(j:Int):=by omega
       obtain rfl:p=j+1:=by omega
       have HGt:Hid (Calls Tryz.prog 22 #[.slice ka kn kc,.int .i64 x.g] wr fun e w'=>e=.returned (.int .i64 (m:Int))∧Below wr.heap.size wr w'):=hide (by
        have h9:=K17.get_any ka kn kc _ x.g wr (trow_kt (HT7.out.below HM.out.2.2)) (by have h8:=HT7.out.len;have h7:=tks_len v.clk;omega)
        rw [gd_tks,← HZg.out,if_pos rfl,tm_tks (HRun.out.c0 HV.out) HZb.out,← HM.out.1.done HRun.out.hs HV.out] at h9
        rw [← HZg.out]
        exact h9)
       have hmm:((m:Int) != (m:Int))=false:=by simp
       clear hrr
       go_wp2_with fail
       refine HGt.out.mono ?_
       rintro e8 w8 ⟨rfl,hb8⟩
       have HB8:=hide (bw_call HM.out.2.2 hb8)
       clear hb8 HGt HM x0 bl
       go_wp2
       exact ⟨⟨q+1,by omega,by go_num,hide HB8.out⟩,by simp [intOf];omega⟩
    ·have hqI:¬ (q:Int) < n:=by omega
     go_wp2
     go_ret
     exact ⟨rfl,bw_call HB7.out HX.out⟩
 ·have HB2:=hide (bw_call HB1.out hb2)
  have bf:(f != 0)=true:=by simp [hf]
  have HL:=hide (Len_nil (w:=w2))
  clear hb2 hf HBd HB1
  go_wp2_with fail
  refine HL.out.mono ?_
  rintro e3 w3 ⟨rfl,hw3⟩
  obtain rfl:w2=w3:=hw3.symm
  clear hw3 HL
  go_wp2
  go_ret
  exact ⟨rfl,HB2.out⟩
end Go.Proofs.YtnfcemohjaiipaaGreatDoor
