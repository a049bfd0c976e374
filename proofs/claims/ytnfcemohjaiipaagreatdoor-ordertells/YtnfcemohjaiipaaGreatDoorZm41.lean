import Derived.Test.YtnfcemohjaiipaaGreatDoorZm40
import Derived.DeepKeys4
set_option maxRecDepth 8000
set_option maxHeartbeats 8000000
set_option linter.unusedVariables false
namespace Go.Proofs.YtnfcemohjaiipaaGreatDoor
open Go.RowKit Go.Maps
def Ob1 (pl:Nat→Int→Int) (L:LF) (w:World) (ob:Nat) (ty:TypeId) (c:Clk):Prop:=∃ v,w.heap[ob]?=some (.cells #[v] ty (0,0))∧TL pl L w v c
def Ob2 (pl:Nat→Int→Int) (L:LF) (w:World) (ob:Nat) (c d:Clk):Prop:=∃ r v,w.heap[ob]?=some (.cells #[r,v] 226 (0,0))∧TL pl L w r c∧TL pl L w v d
structure ObM (pl:Nat→Int→Int) (L:LF) (w:World) (ob:Nat) (s o:Int) (N:Nat) (F:FS):Prop where
 lb:L ob=some (.ob s o)
 s1:s=1→Ob2 pl L w ob (F.lr o) (F.lw o)
 s2:s=2→ChM pl L w ob o N (F.ch o)
 s3:s=3→Ob1 pl L w ob 234 (F.wg o)
 s4:s=4→Ob1 pl L w ob 237 (F.on o)
 s5:s=5→Ob1 pl L w ob 240 (F.ato o)
def gvF (s:Int):Nat:=if s=1 then 245 else if s=2 then 247 else if s=3 then 255 else if s=4 then 257 else 259
def kpF (s:Int):Nat:=if s=1 then 246 else if s=2 then 248 else if s=3 then 256 else if s=4 then 258 else 260
section
variable {pl : Nat → Int → Int} {L L' : LF} {w W wm w' : World} {v u sk : Value} {S : Nat → Prop} {o s : Int} {m N N' ob : Nat} {F F' : FS} {e : Me} {c d : Clk} {ty : TypeId}
theorem Ob1.but (h:Ob1 pl L w ob ty c) (hb:But S w w') (ho:¬ S ob) (hS:∀ k,S k→k < w.heap.size→L k≠none) (hL:LEx L L' w):Ob1 pl L' w' ob ty c:=by
 obtain ⟨v,h1,h2⟩:=h
 exact ⟨v,(hb.block ob (lt_heap h1) ho).trans h1,h2.but hb hS hL⟩
theorem Ob2.but (h:Ob2 pl L w ob c d) (hb:But S w w') (ho:¬ S ob) (hS:∀ k,S k→k < w.heap.size→L k≠none) (hL:LEx L L' w):Ob2 pl L' w' ob c d:=by
 obtain ⟨r,v,h1,h2,h3⟩:=h
 exact ⟨r,v,(hb.block ob (lt_heap h1) ho).trans h1,h2.but hb hS hL,h3.but hb hS hL⟩
structure Sm (s o:Int) (F F':FS):Prop where
 s1:s=1→F'.lr o=F.lr o∧F'.lw o=F.lw o
 s2:s=2→F'.ch o=F.ch o
 s3:s=3→F'.wg o=F.wg o
 s4:s=4→F'.on o=F.on o
 s5:s=5→F'.ato o=F.ato o
theorem Sm.refl (s o:Int) (F:FS):Sm s o F F:=⟨fun _=>⟨rfl,rfl⟩,fun _=>rfl,fun _=>rfl,fun _=>rfl,fun _=>rfl⟩
theorem ObM.but (h:ObM pl L w ob s o N F) (hb:But S w w') (hS:∀ k,S k→k < w.heap.size→L k≠none) (ho:∀ k l,S k→L k=some l→¬ l.of s o) (hL:LEx L L' w) (hl:Llt L w) (hN:N≤N') (hF:Sm s o F F'):ObM pl L' w' ob s o N' F':=by
 have hob:¬ S ob:=fun e=>ho ob _ e h.lb ⟨rfl,rfl⟩
 refine ⟨(hL ob (hl _ _ h.lb)).trans h.lb,fun e=>?_,fun e=>?_,fun e=>?_,fun e=>?_,fun e=>?_⟩
 ·rw [(hF.s1 e).1,(hF.s1 e).2];exact (h.s1 e).but hb hob hS hL
 ·rw [hF.s2 e];exact (h.s2 e).but hb hS (by subst e;exact ho) hL hl hN
 ·rw [hF.s3 e];exact (h.s3 e).but hb hob hS hL
 ·rw [hF.s4 e];exact (h.s4 e).but hb hob hS hL
 ·rw [hF.s5 e];exact (h.s5 e).but hb hob hS hL
theorem srt_1 (h:srt e.k=1):3≤e.k∧e.k≤6:=by unfold srt at h;repeat' split at h;all_goals omega
theorem srt_2 (h:srt e.k=2):9≤e.k∧e.k≤13:=by unfold srt at h;repeat' split at h;all_goals omega
theorem srt_3 (h:srt e.k=3):14≤e.k∧e.k≤15:=by unfold srt at h;repeat' split at h;all_goals omega
theorem srt_4 (h:srt e.k=4):e.k=16:=by unfold srt at h;repeat' split at h;all_goals omega
theorem srt_5 (h:srt e.k=5):17≤e.k∧e.k≤19:=by unfold srt at h;repeat' split at h;all_goals omega
theorem srt_bd (k:Int):0≤srt k∧srt k≤5:=by unfold srt;repeat' split;all_goals omega
theorem ob_gives (h:ObM pl L w ob (srt e.k) e.o N F) (h0:srt e.k≠0) (H:ChOk (F.ch e.o) e) (hg:0≤e.g∧e.g≤65535) :
  Calls Tryz.prog (gvF (srt e.k)) #[.pointer (some ⟨ob,0,none⟩),.agg #[.int .i64 e.g,.int .i64 e.k,.int .u64 e.o,.int .u64 e.a,sk]] w fun x w'=>∃ v,x=.returned v∧TL pl L w' v (F.give e)∧Below w.heap.size w w':=by
 have hb5:=srt_bd e.k
 by_cases e1:srt e.k=1
 ·have hk:=srt_1 e1
  rw [e1]
  show Calls Tryz.prog 245 _ _ _
  obtain ⟨r,v,h1,h2,h3⟩:=h.s1 e1
  obtain ⟨p1,rfl⟩:=h2.form
  obtain ⟨p2,rfl⟩:=h3.form
  unfold FS.give
  by_cases k3:e.k=3
  ·rw [if_pos k3,k3]
   refine (lock_acq h1).mono ?_
   rintro x w' ⟨rfl,hb⟩
   exact ⟨_,rfl,h3.bel hb,hb⟩
  ·rw [if_neg k3]
   by_cases k5:e.k=5
   ·rw [if_pos k5,k5]
    refine (lock_racq h1).mono ?_
    rintro x w' ⟨rfl,hb⟩
    exact ⟨_,rfl,h2.bel hb,hb⟩
   ·rw [if_neg k5,if_neg (by omega),if_neg (by omega),if_neg (by omega),if_neg (by omega),if_neg (by omega)]
    refine (lock_none k3 k5).mono ?_
    rintro x w' ⟨rfl,hb⟩
    exact ⟨_,rfl,TL.nil _ _ _,hb⟩
 by_cases e2:srt e.k=2
 ·have hk:=srt_2 e2
  rw [e2]
  show Calls Tryz.prog 247 _ _ _
  have hG:F.give e=(F.ch e.o).give e:=by
   unfold FS.give
   rw [if_neg (by omega),if_neg (by omega),if_neg (by omega),if_pos hk]
  rw [hG]
  exact ch_gives (h.s2 e2) H hg
 by_cases e3:srt e.k=3
 ·have hk:=srt_3 e3
  rw [e3]
  show Calls Tryz.prog 255 _ _ _
  obtain ⟨v,h1,h2⟩:=h.s3 e3
  obtain ⟨p1,rfl⟩:=h2.form
  unfold FS.give
  rw [if_neg (by omega),if_neg (by omega),if_neg (by omega),if_neg (by omega)]
  by_cases k15:e.k=15
  ·rw [if_pos k15,k15]
   refine (group_wait h1).mono ?_
   rintro x w' ⟨rfl,hb⟩
   exact ⟨_,rfl,h2.bel hb,hb⟩
  ·rw [if_neg k15,if_neg (by omega),if_neg (by omega)]
   refine (group_none k15).mono ?_
   rintro x w' ⟨rfl,hb⟩
   exact ⟨_,rfl,TL.nil _ _ _,hb⟩
 by_cases e4:srt e.k=4
 ·have hk:=srt_4 e4
  rw [e4]
  show Calls Tryz.prog 257 _ _ _
  obtain ⟨v,h1,h2⟩:=h.s4 e4
  obtain ⟨p1,rfl⟩:=h2.form
  unfold FS.give
  rw [if_neg (by omega),if_neg (by omega),if_neg (by omega),if_neg (by omega),if_neg (by omega),if_pos hk]
  refine (once_gives h1).mono ?_
  rintro x w' ⟨rfl,hb⟩
  exact ⟨_,rfl,h2.bel hb,hb⟩
 have e5:srt e.k=5:=by omega
 have hk:=srt_5 e5
 rw [e5]
 show Calls Tryz.prog 259 _ _ _
 obtain ⟨v,h1,h2⟩:=h.s5 e5
 obtain ⟨p1,rfl⟩:=h2.form
 unfold FS.give
 rw [if_neg (by omega),if_neg (by omega),if_neg (by omega),if_neg (by omega),if_neg (by omega),if_neg (by omega)]
 by_cases k18:e.k=18
 ·rw [if_neg (by omega),k18]
  refine atomic_store.mono ?_
  rintro x w' ⟨rfl,hb⟩
  exact ⟨_,rfl,TL.nil _ _ _,hb⟩
 ·rw [if_pos (by omega)]
  refine (atomic_gives k18 h1).mono ?_
  rintro x w' ⟨rfl,hb⟩
  exact ⟨_,rfl,h2.bel hb,hb⟩
end
end Go.Proofs.YtnfcemohjaiipaaGreatDoor
namespace Go.Proofs.YtnfcemohjaiipaaGreatDoor
open Go.RowKit Go.Maps
section
variable {pl : Nat → Int → Int} {L L' : LF} {w W wm w' : World} {v u sk kv : Value} {S : Nat → Prop} {o s : Int} {m N N' ob : Nat} {F F' : FS} {e : Me} {c d : Clk} {ty : TypeId} {V : Vw}
theorem keep_sm (h:¬ (s=srt e.k∧o=e.o)):Sm s o F (F.keep e V):=by
 have hs:∀ (f:Int→Clk) (u:Clk),o≠e.o→setF f e.o u o=f o:=fun f u ho=>setF_other _ _ ho
 unfold FS.keep
 by_cases h4:e.k=4
 ·rw [if_pos h4]
  refine ⟨fun e1=>?_,fun _=>rfl,fun _=>rfl,fun _=>rfl,fun _=>rfl⟩
  have ho:o≠e.o:=fun e9=>h ⟨by rw [e1,h4];rfl,e9⟩
  exact ⟨hs _ _ ho,hs _ _ ho⟩
 rw [if_neg h4]
 by_cases h6:e.k=6
 ·rw [if_pos h6]
  refine ⟨fun e1=>?_,fun _=>rfl,fun _=>rfl,fun _=>rfl,fun _=>rfl⟩
  have ho:o≠e.o:=fun e9=>h ⟨by rw [e1,h6];rfl,e9⟩
  exact ⟨rfl,hs _ _ ho⟩
 rw [if_neg h6]
 by_cases hc:9≤e.k∧e.k≤13
 ·rw [if_pos hc]
  refine ⟨fun _=>⟨rfl,rfl⟩,fun e1=>?_,fun _=>rfl,fun _=>rfl,fun _=>rfl⟩
  have ho:o≠e.o:=fun e9=>h ⟨by rw [e1];unfold srt;rw [if_neg (by omega),if_pos hc],e9⟩
  exact setF_other _ _ ho
 rw [if_neg hc]
 by_cases hw:e.k=14∨e.k=15
 ·rw [if_pos hw]
  split
  ·refine ⟨fun _=>⟨rfl,rfl⟩,fun _=>rfl,fun e1=>?_,fun _=>rfl,fun _=>rfl⟩
   have ho:o≠e.o:=fun e9=>h ⟨by rw [e1];unfold srt;rw [if_neg (by omega),if_neg (by omega),if_pos (by omega)],e9⟩
   exact hs _ _ ho
  ·exact Sm.refl _ _ _
 rw [if_neg hw]
 by_cases h16:e.k=16
 ·rw [if_pos h16]
  split
  ·refine ⟨fun _=>⟨rfl,rfl⟩,fun _=>rfl,fun _=>rfl,fun e1=>?_,fun _=>rfl⟩
   have ho:o≠e.o:=fun e9=>h ⟨by rw [e1,h16];rfl,e9⟩
   exact hs _ _ ho
  ·exact Sm.refl _ _ _
 rw [if_neg h16]
 by_cases ha:e.k=18∨e.k=19
 ·rw [if_pos ha]
  refine ⟨fun _=>⟨rfl,rfl⟩,fun _=>rfl,fun _=>rfl,fun _=>rfl,fun e1=>?_⟩
  have ho:o≠e.o:=fun e9=>h ⟨by rw [e1];unfold srt;rw [if_neg (by omega),if_neg (by omega),if_neg (by omega),if_neg (by omega),if_pos (by omega)],e9⟩
  exact hs _ _ ho
 ·rw [if_neg ha];exact Sm.refl _ _ _
theorem ObM.still (hl:Llt L w) (h:ObM pl L w ob s o N F) (hb:Below w.heap.size w w') (hF:Sm s o F F'):KR L w w' s o (fun L'=>ObM pl L' w' ob s o (N+1) F') :=
 KR.same (S:=fun _=>False) hl (But.of_below hb) (fun _ e=>e.elim) (h.but (S:=fun _=>False) (But.of_below hb) (fun _ e=>e.elim) (fun _ _ e=>e.elim) (LEx.refl _ _) hl (Nat.le_succ N) hF)
theorem ob1_kept (hl:Llt L w) (hL:L ob=some (.ob s o)) (hk:Kp pl (TW L w) w w' ob (fun x=>#[x]) ty c):KR L w w' s o (fun L'=>L' ob=some (.ob s o)∧Ob1 pl L' w' ob ty c):=by
 obtain ⟨⟨u,h1,h2⟩,hb⟩:=hk
 exact KR.same hl hb (fun k e _=>⟨.ob s o,by rw [e];exact hL,rfl,rfl⟩) ⟨hL,u,h1,TL.new h2 hl hb.size⟩
theorem KR.mono {P Q:LF→Prop} (h:KR L w w' s o P) (hPQ:∀ L',P L'→Q L'):KR L w w' s o Q:=by
 obtain ⟨⟨L',h1,h2,h3,h4⟩,hb⟩:=h
 exact ⟨⟨L',h1,h2,h3,hPQ L' h4⟩,hb⟩
theorem nzo (hL:L ob=some (.ob s o)):¬ TW L w ob:=fun h9=>by have:=h9.1;rw [hL] at this;cases this
theorem ob_keeps (hpl:Rise2 pl) (hl:Llt L w) (h:ObM pl L w ob (srt e.k) e.o N F) (h0:srt e.k≠0) (H:ChOk (F.ch e.o) e) (hk:TL pl L w kv V.kn) (hv:Vok pl V.g V.tm V.pl) (h1:1≤V.tm) (hN:N≤1048576) (ha:0≤e.a∧e.a≤18446744073709551615) :
  Calls Tryz.prog (kpF (srt e.k)) #[.pointer (some ⟨ob,0,none⟩),.agg #[.int .i64 e.g,.int .i64 e.k,.int .u64 e.o,.int .u64 e.a,sk],.agg #[kv,.int .i32 V.tm,.int .i32 V.pl,.int .u16 (V.g:Int)]] w fun x w'=>x=.returned (.tuple #[])∧KR L w w' (srt e.k) e.o (fun L'=>ObM pl L' w' ob (srt e.k) e.o (N+1) (F.keep e V)):=by
 have hb5:=srt_bd e.k
 by_cases e1:srt e.k=1
 ·have hkk:=srt_1 e1
  have hlb:=h.lb
  rw [e1] at hlb ⊢
  show Calls Tryz.prog 246 _ _ _
  obtain ⟨r,v,g1,g2,g3⟩:=h.s1 e1
  unfold FS.keep
  by_cases k4:e.k=4
  ·rw [if_pos k4,k4]
   refine (lock_release hpl g1 (nzo hlb) hk hv).mono ?_
   rintro x w' ⟨rfl,⟨u,q1,q2⟩,hb⟩
   have hT:=TL.new q2 hl hb.size
   refine ⟨rfl,KR.same hl hb (fun k e9 _=>⟨.ob 1 e.o,by rw [e9];exact hlb,rfl,rfl⟩) ⟨hlb,fun _=>⟨u,u,q1,?_,?_⟩,fun e9=>absurd e9 (by decide),fun e9=>absurd e9 (by decide),fun e9=>absurd e9 (by decide),fun e9=>absurd e9 (by decide)⟩⟩
   ·show TL pl L w' u (setF F.lr e.o V.clk e.o)
    rw [setF_same];exact hT
   ·show TL pl L w' u (setF F.lw e.o V.clk e.o)
    rw [setF_same];exact hT
  rw [if_neg k4]
  by_cases k6:e.k=6
  ·rw [if_pos k6,k6]
   refine (lock_rrelease hpl g1 (nzo hlb) hk g3 hv).mono ?_
   rintro x w' ⟨rfl,⟨u,q1,q2⟩,hb⟩
   have hT:=TL.new q2 hl hb.size
   refine ⟨rfl,KR.same hl hb (fun k e9 _=>⟨.ob 1 e.o,by rw [e9];exact hlb,rfl,rfl⟩) ⟨hlb,fun _=>⟨r,u,q1,?_,?_⟩,fun e9=>absurd e9 (by decide),fun e9=>absurd e9 (by decide),fun e9=>absurd e9 (by decide),fun e9=>absurd e9 (by decide)⟩⟩
   ·exact g2.but hb (fun k e9 _ e8=>by rw [e9,hlb] at e8;cases e8) (LEx.refl _ _)
   ·show TL pl L w' u (setF F.lw e.o (cmax (F.lw e.o) V.clk) e.o)
    rw [setF_same];exact hT
  rw [if_neg k6,if_neg (by omega),if_neg (by omega),if_neg (by omega),if_neg (by omega)]
  refine (lock_still k4 k6).mono ?_
  rintro x w' ⟨rfl,hb⟩
  rw [e1] at h
  exact ⟨rfl,h.still hl hb (Sm.refl _ _ _)⟩
 by_cases e2:srt e.k=2
 ·have hkk:=srt_2 e2
  have hlb:=h.lb
  rw [e2] at hlb ⊢
  show Calls Tryz.prog 248 _ _ _
  have hG:F.keep e V={ F with ch:=setF F.ch e.o ((F.ch e.o).keep e V) }:=by
   unfold FS.keep
   rw [if_neg (by omega),if_neg (by omega),if_pos hkk]
  rw [hG]
  refine (ch_keeps hpl hl (h.s2 e2) hk hv h1 hN H ha).mono ?_
  rintro x w' ⟨rfl,hK⟩
  refine ⟨rfl,hK.mono (fun L' hC=>?_)⟩
  have hlb2:L' ob=some (.ob 2 e.o):=by obtain ⟨_,_,_,_,_,_,hX⟩:=hC;exact hX.lb
  refine ⟨hlb2,fun e9=>absurd e9 (by decide),fun _=>?_,fun e9=>absurd e9 (by decide),fun e9=>absurd e9 (by decide),fun e9=>absurd e9 (by decide)⟩
  show ChM pl L' w' ob e.o (N+1) (setF F.ch e.o ((F.ch e.o).keep e V) e.o)
  rw [setF_same];exact hC
 by_cases e3:srt e.k=3
 ·have hkk:=srt_3 e3
  have hlb:=h.lb
  rw [e3] at hlb ⊢
  show Calls Tryz.prog 256 _ _ _
  obtain ⟨v,g1,g2⟩:=h.s3 e3
  unfold FS.keep
  rw [if_neg (by omega),if_neg (by omega),if_neg (by omega),if_pos (by omega)]
  by_cases hz:mzag e.a < 0
  ·rw [if_pos hz]
   refine (group_lowers hpl ha.1 ha.2 hz g1 (nzo hlb) hk g2 hv).mono ?_
   rintro x w' ⟨rfl,hK⟩
   refine ⟨rfl,(ob1_kept hl hlb hK).mono (fun L' hC=>⟨hC.1,fun e9=>absurd e9 (by decide),fun e9=>absurd e9 (by decide),fun _=>?_,fun e9=>absurd e9 (by decide),fun e9=>absurd e9 (by decide)⟩)⟩
   show Ob1 pl L' w' ob 234 (setF F.wg e.o (cmax (F.wg e.o) V.clk) e.o)
   rw [setF_same];exact hC.2
  ·rw [if_neg hz]
   refine (group_still ha.1 ha.2 hz).mono ?_
   rintro x w' ⟨rfl,hb⟩
   rw [e3] at h
   exact ⟨rfl,h.still hl hb (Sm.refl _ _ _)⟩
 by_cases e4:srt e.k=4
 ·have hkk:=srt_4 e4
  have hlb:=h.lb
  rw [e4] at hlb ⊢
  show Calls Tryz.prog 258 _ _ _
  obtain ⟨v,g1,g2⟩:=h.s4 e4
  unfold FS.keep
  rw [if_neg (by omega),if_neg (by omega),if_neg (by omega),if_neg (by omega),if_pos (by omega)]
  by_cases hz:e.a=1
  ·rw [if_pos hz,hz]
   refine (once_ran hpl g1 (nzo hlb) hk hv).mono ?_
   rintro x w' ⟨rfl,hK⟩
   refine ⟨rfl,(ob1_kept hl hlb hK).mono (fun L' hC=>⟨hC.1,fun e9=>absurd e9 (by decide),fun e9=>absurd e9 (by decide),fun e9=>absurd e9 (by decide),fun _=>?_,fun e9=>absurd e9 (by decide)⟩)⟩
   show Ob1 pl L' w' ob 237 (setF F.on e.o V.clk e.o)
   rw [setF_same];exact hC.2
  ·rw [if_neg hz]
   refine (once_still hz).mono ?_
   rintro x w' ⟨rfl,hb⟩
   rw [e4] at h
   exact ⟨rfl,h.still hl hb (Sm.refl _ _ _)⟩
 have e5:srt e.k=5:=by omega
 have hkk:=srt_5 e5
 have hlb:=h.lb
 rw [e5] at hlb ⊢
 show Calls Tryz.prog 260 _ _ _
 obtain ⟨v,g1,g2⟩:=h.s5 e5
 unfold FS.keep
 rw [if_neg (by omega),if_neg (by omega),if_neg (by omega),if_neg (by omega),if_neg (by omega)]
 by_cases hz:e.k=17
 ·rw [if_neg (by omega),hz]
  refine atomic_still.mono ?_
  rintro x w' ⟨rfl,hb⟩
  rw [e5] at h
  exact ⟨rfl,h.still hl hb (Sm.refl _ _ _)⟩
 ·rw [if_pos (by omega)]
  refine (atomic_gathers hpl hz g1 (nzo hlb) hk g2 hv).mono ?_
  rintro x w' ⟨rfl,hK⟩
  refine ⟨rfl,(ob1_kept hl hlb hK).mono (fun L' hC=>⟨hC.1,fun e9=>absurd e9 (by decide),fun e9=>absurd e9 (by decide),fun e9=>absurd e9 (by decide),fun e9=>absurd e9 (by decide),fun _=>?_⟩)⟩
  show Ob1 pl L' w' ob 240 (setF F.ato e.o (cmax (F.ato e.o) V.clk) e.o)
  rw [setF_same];exact hC.2
end
end Go.Proofs.YtnfcemohjaiipaaGreatDoor
namespace Go.Proofs.YtnfcemohjaiipaaGreatDoor
open Go.RowKit Go.Maps
theorem laidOutN:laidOutB Tryz.prog=true:=by kernel_rfl
theorem rowName:(179:TypeId) < Tryz.prog.types.size:=of_decide_eq_true (by kernel_rfl)
theorem cellsName:Tryz.prog.cellsOf 179=2:=by kernel_rfl
theorem lawName:Keyed Tryz.prog 179:=by
 refine Keyed.of_law (deep_law_laid laidOutN (m:=2) ?_ rowName ?_ ?_)
 ·omega
 ·kernel_rfl
 ·rw [Tryz.underlying179]
def nameV (s o:Int):Value:=.agg #[.int .i64 s,.int .u64 o]
def okey (s o:Int):Lit:=.string (keyBytes [.int .i64 s,.int .u64 o])
def Rng (s o:Int):Prop:=0≤s∧s≤5∧0≤o∧o≤18446744073709551615
theorem typeName:Tryz.prog.keyType 179=true:=by kernel_rfl
theorem cellsN3:Tryz.prog.cellsOf 3=1:=by kernel_rfl
theorem cellsN64:Tryz.prog.cellsOf 32=1:=by kernel_rfl
theorem litsName (d:Nat) {a b:Int} (w1:(Lit.int .i64 a).wf=true) (w2:(Lit.int .u64 b).wf=true):Tryz.prog.keyLits (d+2) 179 [.int .i64 a,.int .u64 b]=some [.int .i64 a,.int .u64 b]:=by
 simp [Program.keyLits,Tryz.underlying179,Tryz.underlying3,Tryz.underlying32,cellsName,cellsN3,cellsN64,w1,w2]
theorem keyName {s o:Int} (h:Rng s o):keyOf Tryz.prog 179 (nameV s o)=some (okey s o):=by
 obtain ⟨h1,h2,h3,h4⟩:=h
 have w1:(Lit.int .i64 s).wf=true:=WalkArith.wf_i64 (by omega)
 have w2:(Lit.int .u64 o).wf=true:=WalkArith.wf_u64 ⟨h3,h4⟩
 have hf:(nameV s o).formed Tryz.prog 179=true:=by simp [nameV,Value.formed,Tryz.underlying179,cellsName]
 have hk:Tryz.prog.keyLits (Tryz.prog.types.size+1) 179 (nameV s o).cells.toList=some [.int .i64 s,.int .u64 o]:=by
  have hs:Tryz.prog.types.size+1=(Tryz.prog.types.size - 1)+2:=by have:0 < Tryz.prog.types.size:=Nat.lt_of_le_of_lt (Nat.zero_le _) rowName;omega
  rw [hs]
  exact litsName _ w1 w2
 unfold keyOf
 rw [Tryz.underlying179,typeName,hf,hk]
 rfl
theorem okey_inj {s o s' o':Int} (h:Rng s o) (h':Rng s' o') (he:okey s o=okey s' o'):s=s'∧o=o':=by
 have:=lawName.inj (keyName h) (by rw [he];exact keyName h')
 simp [nameV] at this
 exact this
theorem okey_key (s o:Int):WideAt.IsKeyLit (okey s o):=by simp [okey,WideAt.IsKeyLit]
def setO (f:Int→Int→Option Value) (s o:Int) (v:Option Value):Int→Int→Option Value:=fun s' o'=>if s'=s∧o'=o then v else f s' o'
theorem setO_same (f:Int→Int→Option Value) (s o:Int) (v:Option Value):setO f s o v s o=v:=if_pos ⟨rfl,rfl⟩
theorem setO_other (f:Int→Int→Option Value) {s o s' o':Int} (v:Option Value) (h:¬ (s'=s∧o'=o)):setO f s o v s' o'=f s' o':=if_neg h
def SM (w:World) (b n:Nat) (f:Int→Int→Option Value):Prop :=
 ∃ D,w.ownsMap Tryz.prog 179 heldR b n D∧(∀ s o,Rng s o→D.atKey (okey s o) (.held .nilIface)=.held ((f s o).getD .nilIface))∧(∀ s o,Rng s o→Maps.has D (okey s o)=(f s o).isSome)
section
variable {w w' : World} {b n : Nat} {f : Int → Int → Option Value} {s o : Int}
theorem SM.but {S:Nat→Prop} (h:SM w b n f) (hb:But S w w') (hS:¬ S b):SM w' b n f:=by
 obtain ⟨D,h1,h2⟩:=h
 exact ⟨D,map_but h1 hb hS,h2⟩
theorem SM.up {m:Nat} (h:SM w b n f) (hm:n≤m):SM w b m f:=by
 obtain ⟨D,⟨es,cl,h1,h2,h3,h4⟩,h5⟩:=h
 exact ⟨D,⟨es,cl,h1,h2,Nat.le_trans h3 hm,h4⟩,h5⟩
theorem SM.lt (h:SM w b n f):b < w.heap.size:=by
 obtain ⟨D,⟨es,cl,h1,_⟩,_⟩:=h
 exact lt_heap h1
theorem SM.made (w:World):SM (w.alloc (.map #[] 0)) w.heap.size 0 (fun _ _=>none) :=
 ⟨.map [],World.ownsMap_made w Tryz.prog 179 heldR,fun s o _=>by rw [Maps.atKey_of_not_has rfl];rfl,fun s o _=>rfl⟩
theorem SM.look (h:SM w b n f) (hr:Rng s o):(Instr.lookup 121 (.map (some b)) (nameV s o) false).run Tryz.prog w=.ok ((f s o).getD .nilIface) w:=by
 obtain ⟨D,h1,h2,_⟩:=h
 have hz:(zeroValue 133).run Tryz.prog w=.ok .nilIface w:=by kernel_rfl
 obtain ⟨v,ps,hrun,hv⟩:=h1.lookup lawName Tryz.underlying121 hz (zd:=.held .nilIface) (zp:=[]) rfl (keyName hr)
 rw [h2 s o hr] at hv
 simp [heldR] at hv
 rw [hrun,hv.1]
theorem SM.put (h:SM w b n f) (hr:Rng s o) (hn:n < maxLen) (v:Value) :
  ∃ w',(Instr.mapUpdate 121 (.map (some b)) (nameV s o) v).run Tryz.prog w=.ok () w'∧SM w' b (n+1) (setO f s o (some v))∧But (fun k=>k=b) w w':=by
 obtain ⟨D,h1,h2,h3⟩:=h
 obtain ⟨w',hrun,r1,r2⟩:=h1.update (val:=v) lawName Tryz.underlying121 hn (keyName hr) (d:=.held v) (ps:=[]) (show heldR v=some (.held v,[]) from rfl)
 refine ⟨w',hrun,⟨_,r1,fun s' o' hr'=>?_,fun s' o' hr'=>?_⟩,But.of_grown r2 (fun k e=>(Option.some.inj e).symm)⟩
 ·by_cases hy:s'=s∧o'=o
  ·obtain ⟨rfl,rfl⟩:=hy;rw [Maps.atKey_put_same h1.isMap (okey_key _ _),setO_same];rfl
  ·rw [Maps.atKey_put_other (fun c=>hy (okey_inj hr' hr c)),setO_other f _ hy,h2 s' o' hr']
 ·by_cases hy:s'=s∧o'=o
  ·obtain ⟨rfl,rfl⟩:=hy;rw [Maps.has_put_same h1.isMap (okey_key _ _),setO_same];rfl
  ·rw [Maps.has_put_other (fun c=>hy (okey_inj hr' hr c)),setO_other f _ hy,h3 s' o' hr']
end
end Go.Proofs.YtnfcemohjaiipaaGreatDoor
namespace Go.Proofs.YtnfcemohjaiipaaGreatDoor
open Go.RowKit Go.Maps
def dyT (s:Int):TypeId:=if s=1 then 224 else if s=2 then 227 else if s=3 then 232 else if s=4 then 235 else 238
def newO (s:Int):Obj:=if s=1 then .cells #[.pointer none,.pointer none] 226 else if s=2 then .cells #[.int .u64 0,.slice none 0 0,.slice none 0 0,.map none,.pointer none] 231 else if s=3 then .cells #[.pointer none] 234 else if s=4 then .cells #[.pointer none] 237 else .cells #[.pointer none] 240
section
variable {w : World} {s : Int}
theorem new_1:Calls Tryz.prog 121 #[.int .i64 1] w fun e w'=>e=.returned (.iface 224 (gPtr w.heap.size))∧w'=w.alloc (newO 1):=by
 go_enter Tryz.func121,Tryz.ntmps121
 go_wp2
 go_ret
 exact ⟨rfl,rfl⟩
theorem new_2:Calls Tryz.prog 121 #[.int .i64 2] w fun e w'=>e=.returned (.iface 227 (gPtr w.heap.size))∧w'=w.alloc (newO 2):=by
 go_enter Tryz.func121,Tryz.ntmps121
 go_wp2
 go_ret
 exact ⟨rfl,rfl⟩
theorem new_3:Calls Tryz.prog 121 #[.int .i64 3] w fun e w'=>e=.returned (.iface 232 (gPtr w.heap.size))∧w'=w.alloc (newO 3):=by
 go_enter Tryz.func121,Tryz.ntmps121
 go_wp2
 go_ret
 exact ⟨rfl,rfl⟩
theorem new_4:Calls Tryz.prog 121 #[.int .i64 4] w fun e w'=>e=.returned (.iface 235 (gPtr w.heap.size))∧w'=w.alloc (newO 4):=by
 go_enter Tryz.func121,Tryz.ntmps121
 go_wp2
 go_ret
 exact ⟨rfl,rfl⟩
theorem new_5:Calls Tryz.prog 121 #[.int .i64 5] w fun e w'=>e=.returned (.iface 238 (gPtr w.heap.size))∧w'=w.alloc (newO 5):=by
 go_enter Tryz.func121,Tryz.ntmps121
 go_wp2
 go_ret
 exact ⟨rfl,rfl⟩
theorem new_any (h1:1≤s) (h5:s≤5):Calls Tryz.prog 121 #[.int .i64 s] w fun e w'=>e=.returned (.iface (dyT s) (gPtr w.heap.size))∧w'=w.alloc (newO s):=by
 have hc:s=1∨s=2∨s=3∨s=4∨s=5:=by omega
 rcases hc with rfl|rfl|rfl|rfl|rfl
 ·exact new_1
 ·exact new_2
 ·exact new_3
 ·exact new_4
 ·exact new_5
end
def VwC (pl:Nat→Int→Int) (L:LF) (w:World) (vb:Nat) (v:Vw):Prop:=∃ kv ty,w.heap[vb]?=some (.cells (vC kv v.tm v.pl (v.g:Int)) ty (0,0))∧TL pl L w kv v.kn
structure Zr (s o:Int) (F:FS):Prop where
 s1:s=1→F.lr o=zc∧F.lw o=zc
 s2:s=2→F.ch o=ChF.new
 s3:s=3→F.wg o=zc
 s4:s=4→F.on o=zc
 s5:s=5→F.ato o=zc
structure FX (X:Lf→Prop) (pl:Nat→Int→Int) (L:LF) (w:World) (fb gm om N K:Nat) (F:FS) (fg:Int→Option Value) (fo:Int→Int→Option Value):Prop where
 lt:Llt L w
 lf:L fb=some .top
 lg:L gm=some .gm
 lo:L om=some .om
 top:¬ X .top→w.heap[fb]?=some (.cells #[.int .i32 (F.taken:Int),.map (some gm),.map (some om)] 123 (0,0))
 hg:¬ X .gm→HM w 74 .u16 gm N (.pointer none) fg
 ho:¬ X .om→SM w om N fo
 gn:∀ g:Nat,g < 65536→F.gs g=none→fg (g:Int)=none
 vw:∀ g v,F.gs g=some v→g < 65536∧v.g=g∧∃ vb,fg (g:Int)=some (gPtr vb)∧L vb=some (.vw g)∧(¬ X (.vw g)→VwC pl L w vb v)
 on:∀ s o,Rng s o→fo s o=none→Zr s o F
 ob:∀ s o x,Rng s o→fo s o=some x→∃ ob,x=.iface (dyT s) (gPtr ob)∧L ob=some (.ob s o)∧(¬ X (.ob s o)→ObM pl L w ob s o K F)
abbrev FM:=FX (fun _=>False)
section
variable {X Y : Lf → Prop} {pl : Nat → Int → Int} {L L' : LF} {w w' : World} {fb gm om N N' K K' : Nat} {F F' : FS} {fg : Int → Option Value} {fo : Int → Int → Option Value} {S : Nat → Prop} {vb : Nat} {v : Vw} {s o : Int}
theorem VwC.but (h:VwC pl L w vb v) (hb:But S w w') (ho:¬ S vb) (hS:∀ k,S k→k < w.heap.size→L k≠none) (hL:LEx L L' w):VwC pl L' w' vb v:=by
 obtain ⟨kv,ty,h1,h2⟩:=h
 exact ⟨kv,ty,(hb.block vb (lt_heap h1) ho).trans h1,h2.but hb hS hL⟩
theorem FX.but (h:FX X pl L w fb gm om N K F fg fo) (hXY:∀ l,X l→Y l) (hb:But S w w') (hS:∀ k,S k→k < w.heap.size→∃ l,L k=some l∧Y l) (hY:∀ s o l,Y l→l.of s o→Y (.ob s o)) (hL:LEx L L' w) (hl:Llt L' w') (hN:N≤N') (hK:K≤K'):FX Y pl L' w' fb gm om N' K' F fg fo:=by
 have lk:∀ k l,L k=some l→L' k=some l:=fun k l hk=>(hL k (h.lt k l hk)).trans hk
 have no:∀ k l,L k=some l→¬ Y l→¬ S k:=fun k l hk hy hs=>by
  obtain ⟨l2,h1,h2⟩:=hS k hs (h.lt k l hk)
  rw [hk] at h1
  cases h1
  exact hy h2
 have hS2:∀ k,S k→k < w.heap.size→L k≠none:=fun k hs hk e=>by
  obtain ⟨l2,h1,_⟩:=hS k hs hk
  rw [e] at h1;cases h1
 refine ⟨hl,lk _ _ h.lf,lk _ _ h.lg,lk _ _ h.lo,fun hy=>?_,fun hy=>?_,fun hy=>?_,h.gn,fun g v hv=>?_,h.on,fun s o x hr hx=>?_⟩
 ·exact (hb.block fb (h.lt _ _ h.lf) (no _ _ h.lf hy)).trans (h.top (fun e=>hy (hXY _ e)))
 ·exact ((h.hg (fun e=>hy (hXY _ e))).but hb (no _ _ h.lg hy)).up hN
 ·exact ((h.ho (fun e=>hy (hXY _ e))).but hb (no _ _ h.lo hy)).up hN
 ·obtain ⟨h1,h2,vb,h3,h4,h5⟩:=h.vw g v hv
  exact ⟨h1,h2,vb,h3,lk _ _ h4,fun hy=>(h5 (fun e=>hy (hXY _ e))).but hb (no _ _ h4 hy) hS2 hL⟩
 ·obtain ⟨ob,h1,h2,h3⟩:=h.ob s o x hr hx
  refine ⟨ob,h1,lk _ _ h2,fun hy=>(h3 (fun e=>hy (hXY _ e))).but hb hS2 (fun k l hs hk hof=>?_) hL h.lt hK (Sm.refl _ _ _)⟩
  obtain ⟨l2,h8,h9⟩:=hS k hs (h.lt k l hk)
  rw [hk] at h8
  cases h8
  exact hy (hY s o l h9 hof)
theorem FX.below (h:FX X pl L w fb gm om N K F fg fo) (hX:∀ s o l,X l→l.of s o→X (.ob s o)) (hb:Below w.heap.size w w'):FX X pl L w' fb gm om N K F fg fo :=
 h.but (S:=fun _=>False) (fun _ e=>e) (But.of_below hb) (fun _ e=>e.elim) hX (LEx.refl _ _) (h.lt.on hb.size) (Nat.le_refl _) (Nat.le_refl _)
theorem newO_ob (hz:Zr s o F) (h1:1≤s) (h5:s≤5) {ob:Nat} (hL:L ob=some (.ob s o)) {W:World} (hh:∀ c t,newO s=.cells c t→W.heap[ob]?=some (.cells c t (0,0))):ObM pl L W ob s o N F:=by
 refine ⟨hL,fun e=>?_,fun e=>?_,fun e=>?_,fun e=>?_,fun e=>?_⟩
 ·subst e
  rw [(hz.s1 rfl).1,(hz.s1 rfl).2]
  exact ⟨_,_,hh _ _ rfl,TL.nil _ _ _,TL.nil _ _ _⟩
 ·subst e
  rw [hz.s2 rfl]
  exact ⟨.slice none 0 0,.slice none 0 0,.map none,.pointer none,[],[],hL,hh _ _ rfl,Int.le_refl 0,(by show (0:Int)≤18446744073709551615;omega),Win.nil _ _,fun k e=>(by cases e),rfl,Nat.zero_le _,Win.nil _ _,fun k e=>(by cases e),rfl,Nat.zero_le _,.inl ⟨rfl,rfl⟩,.inl ⟨rfl,rfl⟩⟩
 ·subst e;rw [hz.s3 rfl];exact ⟨_,hh _ _ rfl,TL.nil _ _ _⟩
 ·subst e;rw [hz.s4 rfl];exact ⟨_,hh _ _ rfl,TL.nil _ _ _⟩
 ·subst e;rw [hz.s5 rfl];exact ⟨_,hh _ _ rfl,TL.nil _ _ _⟩
end
end Go.Proofs.YtnfcemohjaiipaaGreatDoor
