import Derived.Test.YthgelfdefkbfeaaGreatDoorZu17
import Derived.WalkKit
set_option maxRecDepth 8000
set_option maxHeartbeats 8000000
set_option linter.unusedVariables false
namespace Go.Proofs.YthgelfdefkbfeaaGreatDoor
open Go.RowKit Go.Maps
section
variable {w w' : World} {cb : Nat} {B : Bl} {F : Nat → Option Lb} {M : CS} {N : Nat} {g k o a : Int} {s : Value}
theorem inside_any {b:Nat} {r:Chn} (h:w.heap[b]?=some (.cells (chnC r) 157 (0,0))) (h1:0≤r.sends∧r.sends≤1048576) (h2:0≤r.recvs∧r.recvs≤1048576):Calls Tryz.prog 133 #[.pointer (some ⟨b,0,none⟩)] w fun e w'=>e=.returned (.int .i64 r.inside)∧∃ q,w'=w.drewN q:=by
 have c1:w.cell? ⟨b,1,none⟩=some (.int .i64 r.sends):=cell_at h rfl
 have c2:w.cell? ⟨b,2,none⟩=some (.int .i64 r.recvs):=cell_at h rfl
 obtain ⟨a1,a2⟩:=h1
 obtain ⟨b1,b2⟩:=h2
 have HI:Hid (r.inside=r.sends - r.recvs):=hide rfl
 generalize r.inside=ii at *
 generalize r.sends=ss at *
 generalize r.recvs=rr at *
 have hw:IntKind.i64.wrap (ss - rr)=ss - rr:=by rw [IntKind.wrap_i64];omega
 clear h
 go_enter Tryz.func133,Tryz.ntmps133
 go_wp2_with fail
 go_quiet (fail)
 go_wp2
 go_ret
 exact ⟨by rw [HI.out];rfl,_,rfl⟩
theorem mayGive_any {b:Nat} {r:Chn} (h:w.heap[b]?=some (.cells (chnC r) 157 (0,0))) (h1:0≤r.sends∧r.sends≤1048576) (h2:0≤r.recvs∧r.recvs≤1048576):Calls Tryz.prog 134 #[.pointer (some ⟨b,0,none⟩)] w fun e w'=>e=.returned (.int .i64 (if r.inside=0 then 17 else 0))∧∃ q,w'=w.drewN q:=by
 have HI:=hide (inside_any h h1 h2)
 obtain ⟨R,hR⟩:∃ R:Int,R=(if r.inside=0 then 17 else 0:Int):=⟨_,rfl⟩
 rw [← hR]
 generalize r.inside=ii at *
 have HR:=hide hR
 clear h h1 h2 hR
 go_enter Tryz.func134,Tryz.ntmps134
 go_wp2_with fail
 refine HI.out.mono ?_
 rintro e w1 ⟨rfl,q,hw1⟩
 rw [hw1]
 clear hw1 w1 HI
 by_cases hz:ii=0
 ·have HN:Hid (R=17):=hide (by rw [HR.out,if_pos hz])
  subst hz
  go_wp2
  go_ret
  exact ⟨by rw [HN.out];rfl,_,rfl⟩
 ·have hd:(ii == 0)=false:=by rw [beq_eq_false_iff_ne];exact hz
  have HN:Hid (R=0):=hide (by rw [HR.out,if_neg hz])
  go_wp2
  go_ret
  exact ⟨by rw [HN.out];rfl,_,rfl⟩
theorem mayBeAtEnd_any {b:Nat} {r:Chn} (h:w.heap[b]?=some (.cells (chnC r) 157 (0,0))) (h1:0≤r.sends∧r.sends≤1048576) (h2:0≤r.recvs∧r.recvs≤1048576):Calls Tryz.prog 135 #[.pointer (some ⟨b,0,none⟩)] w fun e w'=>e=.returned (.int .i64 (if r.closed=true then if 0 < r.inside then 19 else 0 else 18))∧∃ q,w'=w.drewN q:=by
 have c3:w.cell? ⟨b,3,none⟩=some (.bool r.closed):=cell_at h rfl
 have HI:=hide (inside_any h h1 h2)
 obtain ⟨R,hR⟩:∃ R:Int,R=(if r.closed=true then if 0 < r.inside then 19 else 0 else 18:Int):=⟨_,rfl⟩
 rw [← hR]
 generalize r.inside=ii at *
 generalize r.closed=cl at *
 have HR:=hide hR
 clear h h1 h2 hR
 cases cl with
 | false =>
  have HN:Hid (R=18):=hide (by rw [HR.out];simp)
  go_enter Tryz.func135,Tryz.ntmps135
  go_wp2
  go_ret
  exact ⟨by rw [HN.out];rfl,0,rfl⟩
 | true =>
  go_enter Tryz.func135,Tryz.ntmps135
  go_wp2_with fail
  refine HI.out.mono ?_
  rintro e w1 ⟨rfl,q,hw1⟩
  rw [hw1]
  clear hw1 w1 HI
  by_cases hz:0 < ii
  ·have HN:Hid (R=19):=hide (by rw [HR.out];simp [hz])
   go_wp2
   go_ret
   exact ⟨by rw [HN.out];rfl,_,rfl⟩
  ·have hd:decide (0 < ii)=false:=decide_eq_false hz
   have HN:Hid (R=0):=hide (by rw [HR.out];simp [hz])
   go_wp2
   go_ret
   exact ⟨by rw [HN.out];rfl,_,rfl⟩
theorem maySend_any (h:Ck w cb B F M N) (ho:EOk g o a) (hok:M.ok) :
  Calls Tryz.prog 82 #[gPtr cb,.agg (evC g k o a s)] w fun e w'=>e=.returned (.int .i64 (match M.chans o with|none=>14|some c=>if c.closed=true then 15 else if 0 < c.room∧c.room≤c.inside then 16 else 0))∧Below w.heap.size w w':=by
 obtain ⟨W,hW⟩:∃ W,W=w.alloc (.cells (evC g k o a s) 43):=⟨_,rfl⟩
 have hb:Below w.heap.size w W:=by rw [hW];exact below_alloc1 w _
 have hC:=h.below hb
 have hE:W.heap[w.heap.size]?=some (.cells (evC g k o a s) 43 (0,0)):=by rw [hW];exact heap_new _ _
 obtain ⟨p0,p1,p2,p3,p4⟩:=evc0 hE
 obtain ⟨R,hR⟩:∃ R:Int,R=(match M.chans o with|none=>14|some c=>if c.closed=true then 15 else if 0 < c.room∧c.room≤c.inside then 16 else 0:Int):=⟨_,rfl⟩
 rw [← hR]
 have HR:=hide hR
 have HB:=hide hb
 have HW:=hide hW
 have HC:=hide hC
 have HE:=hide hE
 have hlt:=h.clt
 have hltW:cb < W.heap.size:=hC.clt
 have hleW:w.heap.size < W.heap.size:=(Array.getElem?_eq_some_iff.1 hE).1
 have HO:=hide ho
 have t4:=hC.c4
 have hl:=fun q=>(hC.drew q).lkC ho
 have HOk:=hide hok
 unfold cAd at hl
 clear h hC hb hW hR hE ho hok
 unfold gPtr evC
 unfold evC at HW
 go_enter Tryz.func82,Tryz.ntmps82
 go_wp2_with fail
 rw [← HW.out]
 clear HW
 cases hg:M.chans o with
 | none =>
  rw [hg] at hl HR
  dsimp only at hl HR
  go_quiet (fail)
  have HN:Hid (R=14):=hide (by rw [HR.out])
  clear HR
  go_wp2
  go_ret
  exact ⟨by rw [HN.out];rfl,below_drewN HB.out _⟩
 | some r =>
  rw [hg] at hl HR
  dsimp only at hl HR
  obtain ⟨⟨rm0,rm1⟩,hs01,hr01⟩:=HOk.out.ch o r hg
  obtain ⟨s0,s1⟩:=hs01
  obtain ⟨v0,v1⟩:=hr01
  go_quiet (fail)
  obtain ⟨W2,hW2⟩:∃ W2,W2=W.drewN nq:=⟨_,rfl⟩
  rw [← hW2]
  have hb2:Below W.heap.size W W2:=by rw [hW2];exact below_drewN (Below.refl _ _) _
  have HB2:=hide hb2
  have HC2:=hide (HC.out.below hb2)
  have q0:W2.cell? ⟨w.heap.size,0,none⟩=some (.int .i64 g):=(hb2.cell (p:=⟨w.heap.size,0,none⟩) hleW).trans p0
  have q1:W2.cell? ⟨w.heap.size,1,none⟩=some (.int .i64 k):=(hb2.cell (p:=⟨w.heap.size,1,none⟩) hleW).trans p1
  have q2:W2.cell? ⟨w.heap.size,2,none⟩=some (.int .u64 o):=(hb2.cell (p:=⟨w.heap.size,2,none⟩) hleW).trans p2
  have q3:W2.cell? ⟨w.heap.size,3,none⟩=some (.int .u64 a):=(hb2.cell (p:=⟨w.heap.size,3,none⟩) hleW).trans p3
  have hle2:w.heap.size < W2.heap.size:=Nat.lt_of_lt_of_le hleW hb2.size
  clear hW2 hb2 p0 p1 p2 p3 p4
  have hch:=(HC2.out.chn o r hg nf).2
  have d0:W2.cell? ⟨B.cb o,0,none⟩=some (.int .i64 r.room):=cell_at hch rfl
  have d2:W2.cell? ⟨B.cb o,2,none⟩=some (.int .i64 r.recvs):=cell_at hch rfl
  have d3:W2.cell? ⟨B.cb o,3,none⟩=some (.bool r.closed):=cell_at hch rfl
  have hchd:∀ q,(W2.drewN q).heap[B.cb o]?=some (.cells (chnC r) 157 (0,0)):=fun _=>hch
  have HB4:=hide (Below.on HB.out HB2.out)
  have HI:=hide (fun q=>inside_any (hchd q) ⟨s0,s1⟩ ⟨v0,v1⟩)
  generalize r.inside=ii at *
  generalize hcl:r.closed=cl at *
  generalize r.room=rm at *
  clear hch hchd hl
  cases cl with
  | true =>
   have HN:Hid (R=15):=hide (by rw [HR.out];simp)
   clear HR
   go_wp2
   go_ret
   exact ⟨by rw [HN.out];rfl,HB4.out⟩
  | false =>
   go_wp2_with fail
   by_cases hr:0 < rm
   ·go_quiet ((go_at_call 133;exact Calls.quiet_of (HI.out _)))
    by_cases hz:rm≤ii
    ·have hd:decide (rm≤ii)=true:=decide_eq_true hz
     have HN:Hid (R=16):=hide (by rw [HR.out];simp [hr,hz])
     clear HR
     go_wp2
     go_ret
     exact ⟨by rw [HN.out];rfl,below_drewN HB4.out _⟩
    ·have hd:decide (rm≤ii)=false:=decide_eq_false hz
     have HN:Hid (R=0):=hide (by rw [HR.out];simp [hz])
     clear HR
     go_wp2
     go_ret
     exact ⟨by rw [HN.out];rfl,below_drewN HB4.out _⟩
   ·have hd:decide (0 < rm)=false:=decide_eq_false hr
    go_quiet (fail)
    have HN:Hid (R=0):=hide (by rw [HR.out];simp [hr])
    clear HR
    go_wp2
    go_ret
    exact ⟨by rw [HN.out];rfl,below_drewN HB4.out _⟩
theorem mayClose_any (h:Ck w cb B F M N) (ho:EOk g o a) (hok:M.ok) :
  Calls Tryz.prog 88 #[gPtr cb,.agg (evC g k o a s)] w fun e w'=>e=.returned (.int .i64 (match M.chans o with|none=>14|some c=>if c.closed=true then 15 else if c.room=0∧0 < c.inside then 20 else 0))∧Below w.heap.size w w':=by
 obtain ⟨W,hW⟩:∃ W,W=w.alloc (.cells (evC g k o a s) 43):=⟨_,rfl⟩
 have hb:Below w.heap.size w W:=by rw [hW];exact below_alloc1 w _
 have hC:=h.below hb
 have hE:W.heap[w.heap.size]?=some (.cells (evC g k o a s) 43 (0,0)):=by rw [hW];exact heap_new _ _
 obtain ⟨p0,p1,p2,p3,p4⟩:=evc0 hE
 obtain ⟨R,hR⟩:∃ R:Int,R=(match M.chans o with|none=>14|some c=>if c.closed=true then 15 else if c.room=0∧0 < c.inside then 20 else 0:Int):=⟨_,rfl⟩
 rw [← hR]
 have HR:=hide hR
 have HB:=hide hb
 have HW:=hide hW
 have HC:=hide hC
 have HE:=hide hE
 have hlt:=h.clt
 have hltW:cb < W.heap.size:=hC.clt
 have hleW:w.heap.size < W.heap.size:=(Array.getElem?_eq_some_iff.1 hE).1
 have HO:=hide ho
 have t4:=hC.c4
 have hl:=fun q=>(hC.drew q).lkC ho
 have HOk:=hide hok
 unfold cAd at hl
 clear h hC hb hW hR hE ho hok
 unfold gPtr evC
 unfold evC at HW
 go_enter Tryz.func88,Tryz.ntmps88
 go_wp2_with fail
 rw [← HW.out]
 clear HW
 cases hg:M.chans o with
 | none =>
  rw [hg] at hl HR
  dsimp only at hl HR
  go_quiet (fail)
  have HN:Hid (R=14):=hide (by rw [HR.out])
  clear HR
  go_wp2
  go_ret
  exact ⟨by rw [HN.out];rfl,below_drewN HB.out _⟩
 | some r =>
  rw [hg] at hl HR
  dsimp only at hl HR
  obtain ⟨⟨rm0,rm1⟩,hs01,hr01⟩:=HOk.out.ch o r hg
  obtain ⟨s0,s1⟩:=hs01
  obtain ⟨v0,v1⟩:=hr01
  go_quiet (fail)
  obtain ⟨W2,hW2⟩:∃ W2,W2=W.drewN nq:=⟨_,rfl⟩
  rw [← hW2]
  have hb2:Below W.heap.size W W2:=by rw [hW2];exact below_drewN (Below.refl _ _) _
  have HB2:=hide hb2
  have HC2:=hide (HC.out.below hb2)
  have q0:W2.cell? ⟨w.heap.size,0,none⟩=some (.int .i64 g):=(hb2.cell (p:=⟨w.heap.size,0,none⟩) hleW).trans p0
  have q1:W2.cell? ⟨w.heap.size,1,none⟩=some (.int .i64 k):=(hb2.cell (p:=⟨w.heap.size,1,none⟩) hleW).trans p1
  have q2:W2.cell? ⟨w.heap.size,2,none⟩=some (.int .u64 o):=(hb2.cell (p:=⟨w.heap.size,2,none⟩) hleW).trans p2
  have q3:W2.cell? ⟨w.heap.size,3,none⟩=some (.int .u64 a):=(hb2.cell (p:=⟨w.heap.size,3,none⟩) hleW).trans p3
  have hle2:w.heap.size < W2.heap.size:=Nat.lt_of_lt_of_le hleW hb2.size
  clear hW2 hb2 p0 p1 p2 p3 p4
  have hch:=(HC2.out.chn o r hg nf).2
  have d0:W2.cell? ⟨B.cb o,0,none⟩=some (.int .i64 r.room):=cell_at hch rfl
  have d2:W2.cell? ⟨B.cb o,2,none⟩=some (.int .i64 r.recvs):=cell_at hch rfl
  have d3:W2.cell? ⟨B.cb o,3,none⟩=some (.bool r.closed):=cell_at hch rfl
  have hchd:∀ q,(W2.drewN q).heap[B.cb o]?=some (.cells (chnC r) 157 (0,0)):=fun _=>hch
  have HB4:=hide (Below.on HB.out HB2.out)
  have HI:=hide (inside_any hch ⟨s0,s1⟩ ⟨v0,v1⟩)
  generalize r.inside=ii at *
  generalize hcl:r.closed=cl at *
  generalize r.room=rm at *
  clear hch hchd hl
  cases cl with
  | true =>
   have HN:Hid (R=15):=hide (by rw [HR.out];simp)
   clear HR
   go_wp2
   go_ret
   exact ⟨by rw [HN.out];rfl,HB4.out⟩
  | false =>
   by_cases hr:rm=0
   ·have hd1:(rm == 0)=true:=by rw [beq_iff_eq];exact hr
    subst hr
    go_wp2_with fail
    refine HI.out.mono ?_
    rintro e w5 ⟨rfl,q,hw5⟩
    rw [hw5]
    clear hw5 w5 HI
    by_cases hz:0 < ii
    ·have hd:decide (0 < ii)=true:=decide_eq_true hz
     have HN:Hid (R=20):=hide (by rw [HR.out];simp [hz])
     clear HR
     go_wp2
     go_ret
     exact ⟨by rw [HN.out];rfl,below_drewN HB4.out _⟩
    ·have hd:decide (0 < ii)=false:=decide_eq_false hz
     have HN:Hid (R=0):=hide (by rw [HR.out];simp [hz])
     clear HR
     go_wp2
     go_ret
     exact ⟨by rw [HN.out];rfl,below_drewN HB4.out _⟩
   ·have hd1:(rm == 0)=false:=by rw [beq_eq_false_iff_ne];exact hr
    have HN:Hid (R=0):=hide (by rw [HR.out];simp [hr])
    clear HR
    go_wp2
    go_ret
    exact ⟨by rw [HN.out];rfl,HB4.out⟩
theorem mayReceive_any (h:Ck w cb B F M N) (ho:EOk g o a) (hok:M.ok) :
  Calls Tryz.prog 86 #[gPtr cb,.agg (evC g k o a s)] w fun e w'=>e=.returned (.int .i64 (match M.chans o with|none=>14|some c=>if a=1 then if c.inside=0 then 17 else 0 else if c.closed=true then if 0 < c.inside then 19 else 0 else 18))∧Below w.heap.size w w':=by
 obtain ⟨W,hW⟩:∃ W,W=w.alloc (.cells (evC g k o a s) 43):=⟨_,rfl⟩
 have hb:Below w.heap.size w W:=by rw [hW];exact below_alloc1 w _
 have hC:=h.below hb
 have hE:W.heap[w.heap.size]?=some (.cells (evC g k o a s) 43 (0,0)):=by rw [hW];exact heap_new _ _
 obtain ⟨p0,p1,p2,p3,p4⟩:=evc0 hE
 obtain ⟨R,hR⟩:∃ R:Int,R=(match M.chans o with|none=>14|some c=>if a=1 then if c.inside=0 then 17 else 0 else if c.closed=true then if 0 < c.inside then 19 else 0 else 18:Int):=⟨_,rfl⟩
 rw [← hR]
 have HR:=hide hR
 have HB:=hide hb
 have HW:=hide hW
 have HC:=hide hC
 have HE:=hide hE
 have hlt:=h.clt
 have hltW:cb < W.heap.size:=hC.clt
 have hleW:w.heap.size < W.heap.size:=(Array.getElem?_eq_some_iff.1 hE).1
 have HO:=hide ho
 have t4:=hC.c4
 have hl:=fun q=>(hC.drew q).lkC ho
 have HOk:=hide hok
 unfold cAd at hl
 clear h hC hb hW hR hE ho hok
 unfold gPtr evC
 unfold evC at HW
 go_enter Tryz.func86,Tryz.ntmps86
 go_wp2_with fail
 rw [← HW.out]
 clear HW
 cases hg:M.chans o with
 | none =>
  rw [hg] at hl HR
  dsimp only at hl HR
  go_quiet (fail)
  have HN:Hid (R=14):=hide (by rw [HR.out])
  clear HR
  go_wp2
  go_ret
  exact ⟨by rw [HN.out];rfl,below_drewN HB.out _⟩
 | some r =>
  rw [hg] at hl HR
  dsimp only at hl HR
  obtain ⟨⟨rm0,rm1⟩,hs01,hr01⟩:=HOk.out.ch o r hg
  obtain ⟨s0,s1⟩:=hs01
  obtain ⟨v0,v1⟩:=hr01
  go_quiet (fail)
  obtain ⟨W2,hW2⟩:∃ W2,W2=W.drewN nq:=⟨_,rfl⟩
  rw [← hW2]
  have hb2:Below W.heap.size W W2:=by rw [hW2];exact below_drewN (Below.refl _ _) _
  have HB2:=hide hb2
  have HC2:=hide (HC.out.below hb2)
  have q0:W2.cell? ⟨w.heap.size,0,none⟩=some (.int .i64 g):=(hb2.cell (p:=⟨w.heap.size,0,none⟩) hleW).trans p0
  have q1:W2.cell? ⟨w.heap.size,1,none⟩=some (.int .i64 k):=(hb2.cell (p:=⟨w.heap.size,1,none⟩) hleW).trans p1
  have q2:W2.cell? ⟨w.heap.size,2,none⟩=some (.int .u64 o):=(hb2.cell (p:=⟨w.heap.size,2,none⟩) hleW).trans p2
  have q3:W2.cell? ⟨w.heap.size,3,none⟩=some (.int .u64 a):=(hb2.cell (p:=⟨w.heap.size,3,none⟩) hleW).trans p3
  have hle2:w.heap.size < W2.heap.size:=Nat.lt_of_lt_of_le hleW hb2.size
  clear hW2 hb2 p0 p1 p2 p3 p4
  have hch:=(HC2.out.chn o r hg nf).2
  have d0:W2.cell? ⟨B.cb o,0,none⟩=some (.int .i64 r.room):=cell_at hch rfl
  have d2:W2.cell? ⟨B.cb o,2,none⟩=some (.int .i64 r.recvs):=cell_at hch rfl
  have d3:W2.cell? ⟨B.cb o,3,none⟩=some (.bool r.closed):=cell_at hch rfl
  have hchd:∀ q,(W2.drewN q).heap[B.cb o]?=some (.cells (chnC r) 157 (0,0)):=fun _=>hch
  have HB4:=hide (Below.on HB.out HB2.out)
  have HI:=hide (mayGive_any hch ⟨s0,s1⟩ ⟨v0,v1⟩)
  have HJ:=hide (mayBeAtEnd_any hch ⟨s0,s1⟩ ⟨v0,v1⟩)
  generalize hxx:(if r.inside=0 then (17:Int) else 0)=xx at *
  generalize hyy:(if r.closed=true then if 0 < r.inside then (19:Int) else 0 else 18)=yy at *
  clear hch hchd hl hxx hyy
  by_cases ha:a=1
  ·have hd1:(a == 1)=true:=by rw [beq_iff_eq];exact ha
   rw [if_pos ha] at HR
   clear ha
   go_wp2_with fail
   refine HI.out.mono ?_
   rintro e w5 ⟨rfl,q,hw5⟩
   rw [hw5]
   clear hw5 w5 HI
   have HN:Hid (R=xx):=hide (by rw [HR.out])
   clear HR
   go_wp2
   go_ret
   exact ⟨by rw [HN.out];rfl,below_drewN HB4.out _⟩
  ·have hd1:(a == 1)=false:=by rw [beq_eq_false_iff_ne];exact ha
   rw [if_neg ha] at HR
   clear ha
   go_wp2_with fail
   refine HJ.out.mono ?_
   rintro e w5 ⟨rfl,q,hw5⟩
   rw [hw5]
   clear hw5 w5 HJ
   have HN:Hid (R=yy):=hide (by rw [HR.out])
   clear HR
   go_wp2
   go_ret
   exact ⟨by rw [HN.out];rfl,below_drewN HB4.out _⟩
theorem mayAck_any (h:Ck w cb B F M N) (ho:EOk g o a) (hok:M.ok) {r:Gor} (hgr:M.gs g=some r) :
  Calls Tryz.prog 84 #[gPtr cb,.agg (evC g k o a s)] w fun e w'=>e=.returned (.int .i64 (match M.chans o with|none=>14|some c=>if 0 < r.as_ then if c.recvs < r.as_ then 22 else 0 else 21))∧Below w.heap.size w w':=by
 obtain ⟨W,hW⟩:∃ W,W=w.alloc (.cells (evC g k o a s) 43):=⟨_,rfl⟩
 have hb:Below w.heap.size w W:=by rw [hW];exact below_alloc1 w _
 have hC:=h.below hb
 have hE:W.heap[w.heap.size]?=some (.cells (evC g k o a s) 43 (0,0)):=by rw [hW];exact heap_new _ _
 obtain ⟨p0,p1,p2,p3,p4⟩:=evc0 hE
 obtain ⟨R,hR⟩:∃ R:Int,R=(match M.chans o with|none=>14|some c=>if 0 < r.as_ then if c.recvs < r.as_ then 22 else 0 else 21:Int):=⟨_,rfl⟩
 rw [← hR]
 have HR:=hide hR
 have HB:=hide hb
 have HW:=hide hW
 have HC:=hide hC
 have HE:=hide hE
 have hlt:=h.clt
 have hltW:cb < W.heap.size:=hC.clt
 have hleW:w.heap.size < W.heap.size:=(Array.getElem?_eq_some_iff.1 hE).1
 have HO:=hide ho
 have t4:=hC.c4
 have hl:=fun q=>(hC.drew q).lkC ho
 have HOk:=hide hok
 unfold cAd at hl
 have t1:=hC.c1
 have hlg:=fun q=>(hC.drew q).lkG (x:=g) (by have:=ho.g0;omega) (by have:=ho.g1;omega)
 unfold gAd at hlg
 rw [hgr] at hlg
 dsimp only at hlg
 clear h hC hb hW hR hE ho hok
 unfold gPtr evC
 unfold evC at HW
 go_enter Tryz.func84,Tryz.ntmps84
 go_wp2_with fail
 rw [← HW.out]
 clear HW
 cases hg:M.chans o with
 | none =>
  rw [hg] at hl HR
  dsimp only at hl HR
  go_quiet (fail)
  have HN:Hid (R=14):=hide (by rw [HR.out])
  clear HR
  go_wp2
  go_ret
  exact ⟨by rw [HN.out];rfl,below_drewN HB.out _⟩
 | some c =>
  rw [hg] at hl HR
  dsimp only at hl HR
  obtain ⟨⟨rm0,rm1⟩,hs01,hr01⟩:=HOk.out.ch o c hg
  obtain ⟨s0,s1⟩:=hs01
  obtain ⟨v0,v1⟩:=hr01
  go_quiet (fail)
  obtain ⟨W2,hW2⟩:∃ W2,W2=W.drewN nq:=⟨_,rfl⟩
  rw [← hW2]
  have hb2:Below W.heap.size W W2:=by rw [hW2];exact below_drewN (Below.refl _ _) _
  have HB2:=hide hb2
  have HC2:=hide (HC.out.below hb2)
  have q0:W2.cell? ⟨w.heap.size,0,none⟩=some (.int .i64 g):=(hb2.cell (p:=⟨w.heap.size,0,none⟩) hleW).trans p0
  have q1:W2.cell? ⟨w.heap.size,1,none⟩=some (.int .i64 k):=(hb2.cell (p:=⟨w.heap.size,1,none⟩) hleW).trans p1
  have q2:W2.cell? ⟨w.heap.size,2,none⟩=some (.int .u64 o):=(hb2.cell (p:=⟨w.heap.size,2,none⟩) hleW).trans p2
  have q3:W2.cell? ⟨w.heap.size,3,none⟩=some (.int .u64 a):=(hb2.cell (p:=⟨w.heap.size,3,none⟩) hleW).trans p3
  have hle2:w.heap.size < W2.heap.size:=Nat.lt_of_lt_of_le hleW hb2.size
  clear hW2 hb2 p0 p1 p2 p3 p4
  have hch:=(HC2.out.chn o c hg nf).2
  have d0:W2.cell? ⟨B.cb o,0,none⟩=some (.int .i64 c.room):=cell_at hch rfl
  have d2:W2.cell? ⟨B.cb o,2,none⟩=some (.int .i64 c.recvs):=cell_at hch rfl
  have d3:W2.cell? ⟨B.cb o,3,none⟩=some (.bool c.closed):=cell_at hch rfl
  have hchd:∀ q,(W2.drewN q).heap[B.cb o]?=some (.cells (chnC c) 157 (0,0)):=fun _=>hch
  have HB4:=hide (Below.on HB.out HB2.out)
  have hgo:=(HC2.out.gor g r hgr nf).2
  have g2:W2.cell? ⟨B.gb g,2,none⟩=some (.int .i64 r.as_):=cell_at hgo rfl
  have HWt:=hide (waits_any hgo)
  generalize c.recvs=rv at *
  clear hch hchd hl hlg hgo
  go_wp2_with fail
  refine HWt.out.mono ?_
  rintro e w5 ⟨rfl,hw5⟩
  rw [hw5]
  clear hw5 w5 HWt
  by_cases hw:0 < r.as_
  ·rw [decide_eq_true hw]
   go_wp2_with fail
   go_quiet (fail)
   by_cases hz:rv < r.as_
   ·have hd:decide (rv < r.as_)=true:=decide_eq_true hz
    have HN:Hid (R=22):=hide (by rw [HR.out];simp [hw,hz])
    clear HR
    go_wp2
    go_ret
    exact ⟨by rw [HN.out];rfl,below_drewN HB4.out _⟩
   ·have hd:decide (rv < r.as_)=false:=decide_eq_false hz
    have HN:Hid (R=0):=hide (by rw [HR.out];simp [hw,hz])
    clear HR
    go_wp2
    go_ret
    exact ⟨by rw [HN.out];rfl,below_drewN HB4.out _⟩
  ·rw [decide_eq_false hw]
   have HN:Hid (R=21):=hide (by rw [HR.out];simp [hw])
   clear HR
   go_wp2
   go_ret
   exact ⟨by rw [HN.out];rfl,HB4.out⟩
end
end Go.Proofs.YthgelfdefkbfeaaGreatDoor
namespace Go.Proofs.YthgelfdefkbfeaaGreatDoor
open Go.RowKit
def zag (u:Int):Int:=if u % 2=0 then u / 2 else -(u / 2) - 1
theorem wrapU (n:Int):IntKind.u64.wrap n=n % 18446744073709551616:=by simp [IntKind.wrap,IntKind.bits,IntKind.signed]
theorem xor_zero_i64 (a:Int) (h1:0≤a) (h2:a≤9223372036854775807):bits .xor .i64 a 0=a:=by
 have e:BitVec.ofInt 64 0=0#64:=by decide
 show IntKind.i64.wrap ((BitVec.ofInt 64 a ^^^ BitVec.ofInt 64 0).toNat:Int)=_
 rw [e,BitVec.xor_zero,IntKind.wrap_i64,BitVec.toNat_ofInt]
 have:((2 ^ 64:Nat):Int)=18446744073709551616:=by decide
 rw [this];omega
theorem xor_ones_i64 (a:Int) (h1:0≤a) (h2:a≤9223372036854775807):bits .xor .i64 a (-1)=-a - 1:=by
 have e:BitVec.ofInt 64 (-1)=BitVec.allOnes 64:=by decide
 show IntKind.i64.wrap ((BitVec.ofInt 64 a ^^^ BitVec.ofInt 64 (-1)).toNat:Int)=_
 rw [e,BitVec.xor_allOnes,IntKind.wrap_i64,BitVec.toNat_not,BitVec.toNat_ofInt]
 have:((2 ^ 64:Nat):Int)=18446744073709551616:=by decide
 rw [this];omega
theorem wraps_u64 (n:Int) (h₀:0≤n) (h₁:n < 2 ^ 64):IntKind.u64.wrap n=n:=by rw [wrapU];omega
theorem and_one (n:Int) (h1:0≤n) (h2:n≤18446744073709551615):bits .and .u64 n 1=n % 2 :=
 bits_mask .u64 64 (by decide) wraps_u64 1 (by decide) n h1 (by omega)
theorem zag_val (n:Int) (h1:0≤n) (h2:n≤18446744073709551615) :
  bits .xor .i64 (n / 2) (wrap64 (-wrap64 (bits .and .u64 n 1)))=zag n:=by
 rw [and_one n h1 h2]
 by_cases h:n % 2=0
 ·rw [h]
  have e:wrap64 (-wrap64 0)=0:=by unfold wrap64;omega
  rw [e,xor_zero_i64 _ (by omega) (by omega)];unfold zag;rw [if_pos h]
 ·have h':n % 2=1:=by omega
  rw [h']
  have e:wrap64 (-wrap64 1)=-1:=by unfold wrap64;omega
  rw [e,xor_ones_i64 _ (by omega) (by omega)];unfold zag;rw [if_neg h]
end Go.Proofs.YthgelfdefkbfeaaGreatDoor
