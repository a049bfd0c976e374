import Derived.Test.YtaeehnaicnckgaaGreatDoorZo32
set_option maxRecDepth 8000
set_option maxHeartbeats 8000000
set_option linter.unusedVariables false
namespace Go.Proofs.YtaeehnaicnckgaaGreatDoor
open Go.RowKit Go.Maps
set_option linter.unusedSimpArgs false
def chI (c q s v k a:Int) (d:Int × Int × Bool):Int :=
 if k=9 then 13 else if 0 < q∧(k=10∨k=13) then 15 else if k=10∧1≤c∧c≤s - v then 16 else if k=12∧a=1∧s≤v then 17 else if k=12∧a=0∧¬ 0 < q then 18 else if k=12∧a=0∧v < s then 19 else if k=13∧c=0∧v < s then 20 else if k=11 then (if d.2.2=false then 21 else if v < d.2.1 then 22 else 0) else 0
theorem roomT_bd {T:List Me} (h:∀ e ∈ T,e.k=9→0≤e.a∧e.a≤65536) {o c:Int} (hc:roomT T o=some c):0≤c∧c≤65536:=by
 induction T with
 | nil=>cases hc
 | cons x T ih =>
  rw [roomT] at hc
  by_cases hk:x.k=9∧x.o=o
  ·rw [if_pos hk] at hc
   cases hc
   exact h x (List.mem_cons_self ..) hk.1
  ·rw [if_neg hk] at hc
   exact ih (fun e he=>h e (List.mem_cons_of_mem _ he)) hc
theorem ofCh_int (T:List Me) (e:Me):ofCh T e=match roomT T e.o with
  | none=>if e.k=9 then 0 else 14
  | some c=>chI c (cnA T 13 e.o:Int) (cnA T 10 e.o:Int) (cnT T 12 e.o 1:Int) e.k e.a (dueV T e.g):=by
 unfold ofCh
 cases roomT T e.o with
 | none=>rfl
 | some c =>
  dsimp only
  have e1:(0 < cnA T 13 e.o)=((0:Int) < (cnA T 13 e.o:Int)):=propext (by omega)
  have e2:(cnA T 10 e.o≤cnT T 12 e.o 1)=((cnA T 10 e.o:Int)≤(cnT T 12 e.o 1:Int)):=propext (by omega)
  have e3:(cnT T 12 e.o 1 < cnA T 10 e.o)=((cnT T 12 e.o 1:Int) < (cnA T 10 e.o:Int)):=propext (by omega)
  simp only [e1,e2,e3]
  unfold chI dueV
  cases dueT T e.g <;> rfl
theorem room_cases (T:List Me) (h:∀ e ∈ T,e.k=9→0≤e.a∧e.a≤65536) (e:Me):(roomI T e.o=-1∧ofCh T e=if e.k=9 then 0 else 14)∨((0≤roomI T e.o∧roomI T e.o≤65536)∧ofCh T e=chI (roomI T e.o) (cnA T 13 e.o:Int) (cnA T 10 e.o:Int) (cnT T 12 e.o 1:Int) e.k e.a (dueV T e.g)):=by
 rw [ofCh_int]
 unfold roomI
 cases hc:roomT T e.o with
 | none=>exact .inl ⟨rfl,rfl⟩
 | some c=>exact .inr ⟨roomT_bd h hc,rfl⟩
theorem rchan_9 (ad:Option Addr) (n c:Nat) (es:List E6.Ev) (w:World) (hr:E6.ERow w ad n es) (hn:(n:Int)≤1048576) (hg:∀ e ∈ es,Eb e.g e.k e.o e.a) (hcap:(n:Int)≤c) (hm:Mde (es.map me)) (g o a:Int) (s:Value) (he:Eb g 9 o a) :
  Calls Tryz.prog 113 #[.slice ad n c,.agg (evC g 9 o a s)] w fun e w'=>e=.returned (.int .i64 (ofCh (es.map me) ⟨g,9,o,a⟩))∧Below w.heap.size w w':=by
 obtain ⟨W,hW⟩:∃ W,W=w.alloc (.cells (evC g 9 o a s) 43):=⟨_,rfl⟩
 have hb:Below w.heap.size w W:=by rw [hW];exact below_alloc1 w _
 have hE:W.heap[w.heap.size]?=some (.cells (evC g 9 o a s) 43 (0,0)):=by rw [hW];exact heap_new _ _
 obtain ⟨p0,p1,p2,p3,p4⟩:=evc0 hE
 obtain ⟨R,hR⟩:∃ R:Int,R=ofCh (es.map me) ⟨g,9,o,a⟩:=⟨_,rfl⟩
 rw [← hR]
 have HR:=hide hR
 have HB:=hide hb
 have HW:=hide hW
 have HE:=hide (hr.bel hb)
 have HG:=hide hg
 have HO:=hide he
 have HM:=hide hm
 have hleW:w.heap.size < W.heap.size:=(Array.getElem?_eq_some_iff.1 hE).1
 clear hr hb hW hR hE hg he hm
 unfold evC
 unfold evC at HW
 have hRC:=room_cases (es.map me) (fun e he hk=>by
  obtain ⟨x,hx,rfl⟩:=List.mem_map.1 he
  have h2:=HG.out x hx
  exact ⟨h2.ok.a0,h2.mc hk⟩) ⟨g,9,o,a⟩
 rw [← HR.out] at hRC
 dsimp only at hRC
 have HRC:=hide hRC
 have HQ0:=hide (rroom_any ad n c es W HE.out hn HG.out o)
 have HQ1:=hide (rcount_any ad n c es W HE.out hn (-1) 13 o)
 have HQ2:=hide (rsends_any ad n c es W HE.out hn o)
 have HQ3:=hide (rrecvs_any ad n c es W HE.out hn o)
 have HQ4:=hide (rdue_any ad n c es W HE.out hn hcap HG.out HM.out g)
 rw [cnX_all] at HQ1
 have hle:(es.map me).length=n:=by rw [List.length_map,HE.out.len]
 have i1:cnA (es.map me) 13 o≤n:=by rw [← hle];exact List.countP_le_length
 have i2:cnA (es.map me) 10 o≤n:=by rw [← hle];exact List.countP_le_length
 have i3:cnT (es.map me) 12 o 1≤n:=by rw [← hle];exact List.countP_le_length
 have j1:(0:Int)≤(cnA (es.map me) 13 o:Int)∧(cnA (es.map me) 13 o:Int)≤1048576:=by omega
 have j2:(0:Int)≤(cnA (es.map me) 10 o:Int)∧(cnA (es.map me) 10 o:Int)≤1048576:=by omega
 have j3:(0:Int)≤(cnT (es.map me) 12 o 1:Int)∧(cnT (es.map me) 12 o 1:Int)≤1048576:=by omega
 clear HR hRC hle i1 i2 i3
 generalize roomI (es.map me) o=C at HQ0 HRC
 generalize (cnA (es.map me) 13 o:Int)=Q at HQ1 HRC j1
 generalize (cnA (es.map me) 10 o:Int)=S at HQ2 HRC j2
 generalize (cnT (es.map me) 12 o 1:Int)=V at HQ3 HRC j3
 generalize dueV (es.map me) g=D at HQ4 HRC
 obtain ⟨d1,d2,d3⟩:=D
 obtain ⟨s0,s1⟩:=j2
 obtain ⟨v0,v1⟩:=j3
 have hwsv:IntKind.i64.wrap (S - V)=S - V:=by rw [IntKind.wrap_i64];omega
 have HSV:=hide (And.intro (And.intro s0 s1) (And.intro v0 v1))
 clear j1 s0 s1 v0 v1
 clear HQ4
 go_enter Tryz.func113,Tryz.ntmps113
 go_wp2_with fail
 rw [← HW.out]
 clear HW
 go_wp2_with fail
 refine HQ0.out.mono ?_
 rintro r w1 ⟨rfl,hw9⟩
 obtain rfl:W=w1:=hw9.symm
 clear HQ0
 rcases HRC.out with ⟨hC,hR9⟩|⟨⟨hC0,hC1⟩,hR9⟩
 ·subst hC
  have H9:Hid (R=0):=hide (by rw [hR9];rfl)
  clear HRC hR9 HQ1 HQ2 HQ3
  go_wp2
  go_ret
  exact ⟨by rw [H9.out];rfl,HB.out⟩
 ·have c1:decide (0≤C)=true:=decide_eq_true hC0
  have H9:Hid (R=13):=hide (by rw [hR9];rfl)
  clear HRC hR9 HQ1 HQ2 HQ3
  go_wp2
  go_ret
  exact ⟨by rw [H9.out];rfl,HB.out⟩
theorem rchan_10 (ad:Option Addr) (n c:Nat) (es:List E6.Ev) (w:World) (hr:E6.ERow w ad n es) (hn:(n:Int)≤1048576) (hg:∀ e ∈ es,Eb e.g e.k e.o e.a) (hcap:(n:Int)≤c) (hm:Mde (es.map me)) (g o a:Int) (s:Value) (he:Eb g 10 o a) :
  Calls Tryz.prog 113 #[.slice ad n c,.agg (evC g 10 o a s)] w fun e w'=>e=.returned (.int .i64 (ofCh (es.map me) ⟨g,10,o,a⟩))∧Below w.heap.size w w':=by
 obtain ⟨W,hW⟩:∃ W,W=w.alloc (.cells (evC g 10 o a s) 43):=⟨_,rfl⟩
 have hb:Below w.heap.size w W:=by rw [hW];exact below_alloc1 w _
 have hE:W.heap[w.heap.size]?=some (.cells (evC g 10 o a s) 43 (0,0)):=by rw [hW];exact heap_new _ _
 obtain ⟨p0,p1,p2,p3,p4⟩:=evc0 hE
 obtain ⟨R,hR⟩:∃ R:Int,R=ofCh (es.map me) ⟨g,10,o,a⟩:=⟨_,rfl⟩
 rw [← hR]
 have HR:=hide hR
 have HB:=hide hb
 have HW:=hide hW
 have HE:=hide (hr.bel hb)
 have HG:=hide hg
 have HO:=hide he
 have HM:=hide hm
 have hleW:w.heap.size < W.heap.size:=(Array.getElem?_eq_some_iff.1 hE).1
 clear hr hb hW hR hE hg he hm
 unfold evC
 unfold evC at HW
 have hRC:=room_cases (es.map me) (fun e he hk=>by
  obtain ⟨x,hx,rfl⟩:=List.mem_map.1 he
  have h2:=HG.out x hx
  exact ⟨h2.ok.a0,h2.mc hk⟩) ⟨g,10,o,a⟩
 rw [← HR.out] at hRC
 dsimp only at hRC
 have HRC:=hide hRC
 have HQ0:=hide (rroom_any ad n c es W HE.out hn HG.out o)
 have HQ1:=hide (rcount_any ad n c es W HE.out hn (-1) 13 o)
 have HQ2:=hide (rsends_any ad n c es W HE.out hn o)
 have HQ3:=hide (rrecvs_any ad n c es W HE.out hn o)
 have HQ4:=hide (rdue_any ad n c es W HE.out hn hcap HG.out HM.out g)
 rw [cnX_all] at HQ1
 have hle:(es.map me).length=n:=by rw [List.length_map,HE.out.len]
 have i1:cnA (es.map me) 13 o≤n:=by rw [← hle];exact List.countP_le_length
 have i2:cnA (es.map me) 10 o≤n:=by rw [← hle];exact List.countP_le_length
 have i3:cnT (es.map me) 12 o 1≤n:=by rw [← hle];exact List.countP_le_length
 have j1:(0:Int)≤(cnA (es.map me) 13 o:Int)∧(cnA (es.map me) 13 o:Int)≤1048576:=by omega
 have j2:(0:Int)≤(cnA (es.map me) 10 o:Int)∧(cnA (es.map me) 10 o:Int)≤1048576:=by omega
 have j3:(0:Int)≤(cnT (es.map me) 12 o 1:Int)∧(cnT (es.map me) 12 o 1:Int)≤1048576:=by omega
 clear HR hRC hle i1 i2 i3
 generalize roomI (es.map me) o=C at HQ0 HRC
 generalize (cnA (es.map me) 13 o:Int)=Q at HQ1 HRC j1
 generalize (cnA (es.map me) 10 o:Int)=S at HQ2 HRC j2
 generalize (cnT (es.map me) 12 o 1:Int)=V at HQ3 HRC j3
 generalize dueV (es.map me) g=D at HQ4 HRC
 obtain ⟨d1,d2,d3⟩:=D
 obtain ⟨s0,s1⟩:=j2
 obtain ⟨v0,v1⟩:=j3
 have hwsv:IntKind.i64.wrap (S - V)=S - V:=by rw [IntKind.wrap_i64];omega
 have HSV:=hide (And.intro (And.intro s0 s1) (And.intro v0 v1))
 clear j1 s0 s1 v0 v1
 clear HQ4
 go_enter Tryz.func113,Tryz.ntmps113
 go_wp2_with fail
 rw [← HW.out]
 clear HW
 go_wp2_with fail
 refine HQ0.out.mono ?_
 rintro r w1 ⟨rfl,hw9⟩
 obtain rfl:W=w1:=hw9.symm
 clear HQ0
 rcases HRC.out with ⟨hC,hR9⟩|⟨⟨hC0,hC1⟩,hR9⟩
 ·subst hC
  have H9:Hid (R=14):=hide (by rw [hR9];rfl)
  clear HRC hR9 HQ1 HQ2 HQ3
  go_wp2
  go_ret
  exact ⟨by rw [H9.out];rfl,HB.out⟩
 ·have c1:decide (0≤C)=true:=decide_eq_true hC0
  have c2:decide (C < 0)=false:=decide_eq_false (by omega)
  have HR9:=hide hR9
  clear HRC hR9
  unfold chI at HR9
  dsimp only at HR9
  go_wp2_with fail
  refine HQ1.out.mono ?_
  rintro r w1 ⟨rfl,hw9⟩
  obtain rfl:W=w1:=hw9.symm
  clear HQ1
  go_wp2_with fail
  refine HQ2.out.mono ?_
  rintro r w1 ⟨rfl,hw9⟩
  obtain rfl:W=w1:=hw9.symm
  clear HQ2
  go_wp2_with fail
  refine HQ3.out.mono ?_
  rintro r w1 ⟨rfl,hw9⟩
  obtain rfl:W=w1:=hw9.symm
  clear HQ3
  by_cases hQ:0 < Q
  ·have q1:decide (0 < Q)=true:=decide_eq_true hQ
   have H9:Hid (R=15):=hide (by rw [HR9.out];simp [hQ])
   clear HR9
   go_wp2
   go_ret
   exact ⟨by rw [H9.out];rfl,HB.out⟩
  ·have q1:decide (0 < Q)=false:=decide_eq_false hQ
   by_cases hc1:1≤C
   ·have q2:decide (1≤C)=true:=decide_eq_true hc1
    by_cases hc2:C≤S - V
    ·have q3:decide (C≤S - V)=true:=decide_eq_true hc2
     have H9:Hid (R=16):=hide (by rw [HR9.out];simp [hQ,hc1,hc2])
     clear HR9
     go_wp2
     go_ret
     exact ⟨by rw [H9.out];rfl,HB.out⟩
    ·have q3:decide (C≤S - V)=false:=decide_eq_false hc2
     have H9:Hid (R=0):=hide (by rw [HR9.out];rw [if_neg (by decide),if_neg (fun q=>hQ q.1),if_neg (fun q=>hc2 q.2.2)];simp)
     clear HR9
     go_wp2
     go_ret
     exact ⟨by rw [H9.out];rfl,HB.out⟩
   ·have q2:decide (1≤C)=false:=decide_eq_false hc1
    have H9:Hid (R=0):=hide (by rw [HR9.out];rw [if_neg (by decide),if_neg (fun q=>hQ q.1),if_neg (fun q=>hc1 q.2.1)];simp)
    clear HR9
    go_wp2
    go_ret
    exact ⟨by rw [H9.out];rfl,HB.out⟩
theorem rchan_11 (ad:Option Addr) (n c:Nat) (es:List E6.Ev) (w:World) (hr:E6.ERow w ad n es) (hn:(n:Int)≤1048576) (hg:∀ e ∈ es,Eb e.g e.k e.o e.a) (hcap:(n:Int)≤c) (hm:Mde (es.map me)) (g o a:Int) (s:Value) (he:Eb g 11 o a) :
  Calls Tryz.prog 113 #[.slice ad n c,.agg (evC g 11 o a s)] w fun e w'=>e=.returned (.int .i64 (ofCh (es.map me) ⟨g,11,o,a⟩))∧Below w.heap.size w w':=by
 obtain ⟨W,hW⟩:∃ W,W=w.alloc (.cells (evC g 11 o a s) 43):=⟨_,rfl⟩
 have hb:Below w.heap.size w W:=by rw [hW];exact below_alloc1 w _
 have hE:W.heap[w.heap.size]?=some (.cells (evC g 11 o a s) 43 (0,0)):=by rw [hW];exact heap_new _ _
 obtain ⟨p0,p1,p2,p3,p4⟩:=evc0 hE
 obtain ⟨R,hR⟩:∃ R:Int,R=ofCh (es.map me) ⟨g,11,o,a⟩:=⟨_,rfl⟩
 rw [← hR]
 have HR:=hide hR
 have HB:=hide hb
 have HW:=hide hW
 have HE:=hide (hr.bel hb)
 have HG:=hide hg
 have HO:=hide he
 have HM:=hide hm
 have hleW:w.heap.size < W.heap.size:=(Array.getElem?_eq_some_iff.1 hE).1
 clear hr hb hW hR hE hg he hm
 unfold evC
 unfold evC at HW
 have hRC:=room_cases (es.map me) (fun e he hk=>by
  obtain ⟨x,hx,rfl⟩:=List.mem_map.1 he
  have h2:=HG.out x hx
  exact ⟨h2.ok.a0,h2.mc hk⟩) ⟨g,11,o,a⟩
 rw [← HR.out] at hRC
 dsimp only at hRC
 have HRC:=hide hRC
 have HQ0:=hide (rroom_any ad n c es W HE.out hn HG.out o)
 have HQ1:=hide (rcount_any ad n c es W HE.out hn (-1) 13 o)
 have HQ2:=hide (rsends_any ad n c es W HE.out hn o)
 have HQ3:=hide (rrecvs_any ad n c es W HE.out hn o)
 have HQ4:=hide (rdue_any ad n c es W HE.out hn hcap HG.out HM.out g)
 rw [cnX_all] at HQ1
 have hle:(es.map me).length=n:=by rw [List.length_map,HE.out.len]
 have i1:cnA (es.map me) 13 o≤n:=by rw [← hle];exact List.countP_le_length
 have i2:cnA (es.map me) 10 o≤n:=by rw [← hle];exact List.countP_le_length
 have i3:cnT (es.map me) 12 o 1≤n:=by rw [← hle];exact List.countP_le_length
 have j1:(0:Int)≤(cnA (es.map me) 13 o:Int)∧(cnA (es.map me) 13 o:Int)≤1048576:=by omega
 have j2:(0:Int)≤(cnA (es.map me) 10 o:Int)∧(cnA (es.map me) 10 o:Int)≤1048576:=by omega
 have j3:(0:Int)≤(cnT (es.map me) 12 o 1:Int)∧(cnT (es.map me) 12 o 1:Int)≤1048576:=by omega
 clear HR hRC hle i1 i2 i3
 generalize roomI (es.map me) o=C at HQ0 HRC
 generalize (cnA (es.map me) 13 o:Int)=Q at HQ1 HRC j1
 generalize (cnA (es.map me) 10 o:Int)=S at HQ2 HRC j2
 generalize (cnT (es.map me) 12 o 1:Int)=V at HQ3 HRC j3
 generalize dueV (es.map me) g=D at HQ4 HRC
 obtain ⟨d1,d2,d3⟩:=D
 obtain ⟨s0,s1⟩:=j2
 obtain ⟨v0,v1⟩:=j3
 have hwsv:IntKind.i64.wrap (S - V)=S - V:=by rw [IntKind.wrap_i64];omega
 have HSV:=hide (And.intro (And.intro s0 s1) (And.intro v0 v1))
 clear j1 s0 s1 v0 v1
 go_enter Tryz.func113,Tryz.ntmps113
 go_wp2_with fail
 rw [← HW.out]
 clear HW
 go_wp2_with fail
 refine HQ0.out.mono ?_
 rintro r w1 ⟨rfl,hw9⟩
 obtain rfl:W=w1:=hw9.symm
 clear HQ0
 rcases HRC.out with ⟨hC,hR9⟩|⟨⟨hC0,hC1⟩,hR9⟩
 ·subst hC
  have H9:Hid (R=14):=hide (by rw [hR9];rfl)
  clear HRC hR9 HQ1 HQ2 HQ3
  go_wp2
  go_ret
  exact ⟨by rw [H9.out];rfl,HB.out⟩
 ·have c1:decide (0≤C)=true:=decide_eq_true hC0
  have c2:decide (C < 0)=false:=decide_eq_false (by omega)
  have HR9:=hide hR9
  clear HRC hR9
  unfold chI at HR9
  dsimp only at HR9
  go_wp2_with fail
  refine HQ1.out.mono ?_
  rintro r w1 ⟨rfl,hw9⟩
  obtain rfl:W=w1:=hw9.symm
  clear HQ1
  go_wp2_with fail
  refine HQ2.out.mono ?_
  rintro r w1 ⟨rfl,hw9⟩
  obtain rfl:W=w1:=hw9.symm
  clear HQ2
  go_wp2_with fail
  refine HQ3.out.mono ?_
  rintro r w1 ⟨rfl,hw9⟩
  obtain rfl:W=w1:=hw9.symm
  clear HQ3
  by_cases hQ:0 < Q
  ·have q1:decide (0 < Q)=true:=decide_eq_true hQ
   have HRs:Hid (R=if d3=false then 21 else if V < d2 then 22 else 0):=hide (by rw [HR9.out];simp)
   clear HR9
   go_wp2_with fail
   refine HQ4.out.mono ?_
   rintro r w2 ⟨rfl,hb2⟩
   have HB2:=hide (HB.out.trans (hb2.mono HB.out.size))
   clear HQ4 hb2
   dsimp only
   cases d3 with
   | false =>
    have H9:Hid (R=21):=hide (by rw [HRs.out];rfl)
    clear HRs
    go_wp2
    go_ret
    exact ⟨by rw [H9.out];rfl,HB2.out⟩
   | true =>
    by_cases hv:V < d2
    ·have q5:decide (V < d2)=true:=decide_eq_true hv
     have H9:Hid (R=22):=hide (by rw [HRs.out,if_neg (by decide),if_pos hv])
     clear HRs
     go_wp2
     go_ret
     exact ⟨by rw [H9.out];rfl,HB2.out⟩
    ·have q5:decide (V < d2)=false:=decide_eq_false hv
     have H9:Hid (R=0):=hide (by rw [HRs.out,if_neg (by decide),if_neg hv])
     clear HRs
     go_wp2
     go_ret
     exact ⟨by rw [H9.out];rfl,HB2.out⟩
  ·have q1:decide (0 < Q)=false:=decide_eq_false hQ
   have HRs:Hid (R=if d3=false then 21 else if V < d2 then 22 else 0):=hide (by rw [HR9.out];simp)
   clear HR9
   go_wp2_with fail
   refine HQ4.out.mono ?_
   rintro r w2 ⟨rfl,hb2⟩
   have HB2:=hide (HB.out.trans (hb2.mono HB.out.size))
   clear HQ4 hb2
   dsimp only
   cases d3 with
   | false =>
    have H9:Hid (R=21):=hide (by rw [HRs.out];rfl)
    clear HRs
    go_wp2
    go_ret
    exact ⟨by rw [H9.out];rfl,HB2.out⟩
   | true =>
    by_cases hv:V < d2
    ·have q5:decide (V < d2)=true:=decide_eq_true hv
     have H9:Hid (R=22):=hide (by rw [HRs.out,if_neg (by decide),if_pos hv])
     clear HRs
     go_wp2
     go_ret
     exact ⟨by rw [H9.out];rfl,HB2.out⟩
    ·have q5:decide (V < d2)=false:=decide_eq_false hv
     have H9:Hid (R=0):=hide (by rw [HRs.out,if_neg (by decide),if_neg hv])
     clear HRs
     go_wp2
     go_ret
     exact ⟨by rw [H9.out];rfl,HB2.out⟩
theorem rchan_12 (ad:Option Addr) (n c:Nat) (es:List E6.Ev) (w:World) (hr:E6.ERow w ad n es) (hn:(n:Int)≤1048576) (hg:∀ e ∈ es,Eb e.g e.k e.o e.a) (hcap:(n:Int)≤c) (hm:Mde (es.map me)) (g o a:Int) (s:Value) (he:Eb g 12 o a) :
  Calls Tryz.prog 113 #[.slice ad n c,.agg (evC g 12 o a s)] w fun e w'=>e=.returned (.int .i64 (ofCh (es.map me) ⟨g,12,o,a⟩))∧Below w.heap.size w w':=by
 obtain ⟨W,hW⟩:∃ W,W=w.alloc (.cells (evC g 12 o a s) 43):=⟨_,rfl⟩
 have hb:Below w.heap.size w W:=by rw [hW];exact below_alloc1 w _
 have hE:W.heap[w.heap.size]?=some (.cells (evC g 12 o a s) 43 (0,0)):=by rw [hW];exact heap_new _ _
 obtain ⟨p0,p1,p2,p3,p4⟩:=evc0 hE
 obtain ⟨R,hR⟩:∃ R:Int,R=ofCh (es.map me) ⟨g,12,o,a⟩:=⟨_,rfl⟩
 rw [← hR]
 have HR:=hide hR
 have HB:=hide hb
 have HW:=hide hW
 have HE:=hide (hr.bel hb)
 have HG:=hide hg
 have HO:=hide he
 have HM:=hide hm
 have hleW:w.heap.size < W.heap.size:=(Array.getElem?_eq_some_iff.1 hE).1
 clear hr hb hW hR hE hg he hm
 unfold evC
 unfold evC at HW
 have hRC:=room_cases (es.map me) (fun e he hk=>by
  obtain ⟨x,hx,rfl⟩:=List.mem_map.1 he
  have h2:=HG.out x hx
  exact ⟨h2.ok.a0,h2.mc hk⟩) ⟨g,12,o,a⟩
 rw [← HR.out] at hRC
 dsimp only at hRC
 have HRC:=hide hRC
 have HQ0:=hide (rroom_any ad n c es W HE.out hn HG.out o)
 have HQ1:=hide (rcount_any ad n c es W HE.out hn (-1) 13 o)
 have HQ2:=hide (rsends_any ad n c es W HE.out hn o)
 have HQ3:=hide (rrecvs_any ad n c es W HE.out hn o)
 have HQ4:=hide (rdue_any ad n c es W HE.out hn hcap HG.out HM.out g)
 rw [cnX_all] at HQ1
 have hle:(es.map me).length=n:=by rw [List.length_map,HE.out.len]
 have i1:cnA (es.map me) 13 o≤n:=by rw [← hle];exact List.countP_le_length
 have i2:cnA (es.map me) 10 o≤n:=by rw [← hle];exact List.countP_le_length
 have i3:cnT (es.map me) 12 o 1≤n:=by rw [← hle];exact List.countP_le_length
 have j1:(0:Int)≤(cnA (es.map me) 13 o:Int)∧(cnA (es.map me) 13 o:Int)≤1048576:=by omega
 have j2:(0:Int)≤(cnA (es.map me) 10 o:Int)∧(cnA (es.map me) 10 o:Int)≤1048576:=by omega
 have j3:(0:Int)≤(cnT (es.map me) 12 o 1:Int)∧(cnT (es.map me) 12 o 1:Int)≤1048576:=by omega
 clear HR hRC hle i1 i2 i3
 generalize roomI (es.map me) o=C at HQ0 HRC
 generalize (cnA (es.map me) 13 o:Int)=Q at HQ1 HRC j1
 generalize (cnA (es.map me) 10 o:Int)=S at HQ2 HRC j2
 generalize (cnT (es.map me) 12 o 1:Int)=V at HQ3 HRC j3
 generalize dueV (es.map me) g=D at HQ4 HRC
 obtain ⟨d1,d2,d3⟩:=D
 obtain ⟨s0,s1⟩:=j2
 obtain ⟨v0,v1⟩:=j3
 have hwsv:IntKind.i64.wrap (S - V)=S - V:=by rw [IntKind.wrap_i64];omega
 have HSV:=hide (And.intro (And.intro s0 s1) (And.intro v0 v1))
 clear j1 s0 s1 v0 v1
 clear HQ4
 go_enter Tryz.func113,Tryz.ntmps113
 go_wp2_with fail
 rw [← HW.out]
 clear HW
 go_wp2_with fail
 refine HQ0.out.mono ?_
 rintro r w1 ⟨rfl,hw9⟩
 obtain rfl:W=w1:=hw9.symm
 clear HQ0
 rcases HRC.out with ⟨hC,hR9⟩|⟨⟨hC0,hC1⟩,hR9⟩
 ·subst hC
  have H9:Hid (R=14):=hide (by rw [hR9];rfl)
  clear HRC hR9 HQ1 HQ2 HQ3
  go_wp2
  go_ret
  exact ⟨by rw [H9.out];rfl,HB.out⟩
 ·have c1:decide (0≤C)=true:=decide_eq_true hC0
  have c2:decide (C < 0)=false:=decide_eq_false (by omega)
  have HR9:=hide hR9
  clear HRC hR9
  unfold chI at HR9
  dsimp only at HR9
  go_wp2_with fail
  refine HQ1.out.mono ?_
  rintro r w1 ⟨rfl,hw9⟩
  obtain rfl:W=w1:=hw9.symm
  clear HQ1
  go_wp2_with fail
  refine HQ2.out.mono ?_
  rintro r w1 ⟨rfl,hw9⟩
  obtain rfl:W=w1:=hw9.symm
  clear HQ2
  go_wp2_with fail
  refine HQ3.out.mono ?_
  rintro r w1 ⟨rfl,hw9⟩
  obtain rfl:W=w1:=hw9.symm
  clear HQ3
  by_cases hQ:0 < Q
  ·have q1:decide (0 < Q)=true:=decide_eq_true hQ
   by_cases ha1:a=1
   ·have q2:=beq_t ha1
    have q4:(a == 0)=false:=beq_f (by omega)
    by_cases hc2:S≤V
    ·have q3:decide (S≤V)=true:=decide_eq_true hc2
     have H9:Hid (R=17):=hide (by rw [HR9.out];simp [ha1,hc2])
     clear HR9
     go_wp2
     go_ret
     exact ⟨by rw [H9.out];rfl,HB.out⟩
    ·have q3:decide (S≤V)=false:=decide_eq_false hc2
     have H9:Hid (R=0):=hide (by rw [HR9.out];simp [ha1,hc2])
     clear HR9
     go_wp2
     go_ret
     exact ⟨by rw [H9.out];rfl,HB.out⟩
   ·have q2:=beq_f ha1
    have ha0:a=0:=by have h1:=HO.out.rc rfl;have h2:=HO.out.ok.a0;omega
    have q4:=beq_t ha0
    by_cases hc2:V < S
    ·have q3:decide (V < S)=true:=decide_eq_true hc2
     have H9:Hid (R=19):=hide (by rw [HR9.out];simp [ha0,hc2,hQ])
     clear HR9
     go_wp2
     go_ret
     exact ⟨by rw [H9.out];rfl,HB.out⟩
    ·have q3:decide (V < S)=false:=decide_eq_false hc2
     have H9:Hid (R=0):=hide (by rw [HR9.out];simp [ha0,hc2,hQ])
     clear HR9
     go_wp2
     go_ret
     exact ⟨by rw [H9.out];rfl,HB.out⟩
  ·have q1:decide (0 < Q)=false:=decide_eq_false hQ
   by_cases ha1:a=1
   ·have q2:=beq_t ha1
    have q4:(a == 0)=false:=beq_f (by omega)
    by_cases hc2:S≤V
    ·have q3:decide (S≤V)=true:=decide_eq_true hc2
     have H9:Hid (R=17):=hide (by rw [HR9.out];simp [ha1,hc2])
     clear HR9
     go_wp2
     go_ret
     exact ⟨by rw [H9.out];rfl,HB.out⟩
    ·have q3:decide (S≤V)=false:=decide_eq_false hc2
     have H9:Hid (R=0):=hide (by rw [HR9.out];simp [ha1,hc2])
     clear HR9
     go_wp2
     go_ret
     exact ⟨by rw [H9.out];rfl,HB.out⟩
   ·have q2:=beq_f ha1
    have ha0:a=0:=by have h1:=HO.out.rc rfl;have h2:=HO.out.ok.a0;omega
    have q4:=beq_t ha0
    have H9:Hid (R=18):=hide (by rw [HR9.out];simp [ha0,hQ])
    clear HR9
    go_wp2
    go_ret
    exact ⟨by rw [H9.out];rfl,HB.out⟩
theorem rchan_13 (ad:Option Addr) (n c:Nat) (es:List E6.Ev) (w:World) (hr:E6.ERow w ad n es) (hn:(n:Int)≤1048576) (hg:∀ e ∈ es,Eb e.g e.k e.o e.a) (hcap:(n:Int)≤c) (hm:Mde (es.map me)) (g o a:Int) (s:Value) (he:Eb g 13 o a) :
  Calls Tryz.prog 113 #[.slice ad n c,.agg (evC g 13 o a s)] w fun e w'=>e=.returned (.int .i64 (ofCh (es.map me) ⟨g,13,o,a⟩))∧Below w.heap.size w w':=by
 obtain ⟨W,hW⟩:∃ W,W=w.alloc (.cells (evC g 13 o a s) 43):=⟨_,rfl⟩
 have hb:Below w.heap.size w W:=by rw [hW];exact below_alloc1 w _
 have hE:W.heap[w.heap.size]?=some (.cells (evC g 13 o a s) 43 (0,0)):=by rw [hW];exact heap_new _ _
 obtain ⟨p0,p1,p2,p3,p4⟩:=evc0 hE
 obtain ⟨R,hR⟩:∃ R:Int,R=ofCh (es.map me) ⟨g,13,o,a⟩:=⟨_,rfl⟩
 rw [← hR]
 have HR:=hide hR
 have HB:=hide hb
 have HW:=hide hW
 have HE:=hide (hr.bel hb)
 have HG:=hide hg
 have HO:=hide he
 have HM:=hide hm
 have hleW:w.heap.size < W.heap.size:=(Array.getElem?_eq_some_iff.1 hE).1
 clear hr hb hW hR hE hg he hm
 unfold evC
 unfold evC at HW
 have hRC:=room_cases (es.map me) (fun e he hk=>by
  obtain ⟨x,hx,rfl⟩:=List.mem_map.1 he
  have h2:=HG.out x hx
  exact ⟨h2.ok.a0,h2.mc hk⟩) ⟨g,13,o,a⟩
 rw [← HR.out] at hRC
 dsimp only at hRC
 have HRC:=hide hRC
 have HQ0:=hide (rroom_any ad n c es W HE.out hn HG.out o)
 have HQ1:=hide (rcount_any ad n c es W HE.out hn (-1) 13 o)
 have HQ2:=hide (rsends_any ad n c es W HE.out hn o)
 have HQ3:=hide (rrecvs_any ad n c es W HE.out hn o)
 have HQ4:=hide (rdue_any ad n c es W HE.out hn hcap HG.out HM.out g)
 rw [cnX_all] at HQ1
 have hle:(es.map me).length=n:=by rw [List.length_map,HE.out.len]
 have i1:cnA (es.map me) 13 o≤n:=by rw [← hle];exact List.countP_le_length
 have i2:cnA (es.map me) 10 o≤n:=by rw [← hle];exact List.countP_le_length
 have i3:cnT (es.map me) 12 o 1≤n:=by rw [← hle];exact List.countP_le_length
 have j1:(0:Int)≤(cnA (es.map me) 13 o:Int)∧(cnA (es.map me) 13 o:Int)≤1048576:=by omega
 have j2:(0:Int)≤(cnA (es.map me) 10 o:Int)∧(cnA (es.map me) 10 o:Int)≤1048576:=by omega
 have j3:(0:Int)≤(cnT (es.map me) 12 o 1:Int)∧(cnT (es.map me) 12 o 1:Int)≤1048576:=by omega
 clear HR hRC hle i1 i2 i3
 generalize roomI (es.map me) o=C at HQ0 HRC
 generalize (cnA (es.map me) 13 o:Int)=Q at HQ1 HRC j1
 generalize (cnA (es.map me) 10 o:Int)=S at HQ2 HRC j2
 generalize (cnT (es.map me) 12 o 1:Int)=V at HQ3 HRC j3
 generalize dueV (es.map me) g=D at HQ4 HRC
 obtain ⟨d1,d2,d3⟩:=D
 obtain ⟨s0,s1⟩:=j2
 obtain ⟨v0,v1⟩:=j3
 have hwsv:IntKind.i64.wrap (S - V)=S - V:=by rw [IntKind.wrap_i64];omega
 have HSV:=hide (And.intro (And.intro s0 s1) (And.intro v0 v1))
 clear j1 s0 s1 v0 v1
 clear HQ4
 go_enter Tryz.func113,Tryz.ntmps113
 go_wp2_with fail
 rw [← HW.out]
 clear HW
 go_wp2_with fail
 refine HQ0.out.mono ?_
 rintro r w1 ⟨rfl,hw9⟩
 obtain rfl:W=w1:=hw9.symm
 clear HQ0
 rcases HRC.out with ⟨hC,hR9⟩|⟨⟨hC0,hC1⟩,hR9⟩
 ·subst hC
  have H9:Hid (R=14):=hide (by rw [hR9];rfl)
  clear HRC hR9 HQ1 HQ2 HQ3
  go_wp2
  go_ret
  exact ⟨by rw [H9.out];rfl,HB.out⟩
 ·have c1:decide (0≤C)=true:=decide_eq_true hC0
  have c2:decide (C < 0)=false:=decide_eq_false (by omega)
  have HR9:=hide hR9
  clear HRC hR9
  unfold chI at HR9
  dsimp only at HR9
  go_wp2_with fail
  refine HQ1.out.mono ?_
  rintro r w1 ⟨rfl,hw9⟩
  obtain rfl:W=w1:=hw9.symm
  clear HQ1
  go_wp2_with fail
  refine HQ2.out.mono ?_
  rintro r w1 ⟨rfl,hw9⟩
  obtain rfl:W=w1:=hw9.symm
  clear HQ2
  go_wp2_with fail
  refine HQ3.out.mono ?_
  rintro r w1 ⟨rfl,hw9⟩
  obtain rfl:W=w1:=hw9.symm
  clear HQ3
  by_cases hQ:0 < Q
  ·have q1:decide (0 < Q)=true:=decide_eq_true hQ
   have H9:Hid (R=15):=hide (by rw [HR9.out];simp [hQ])
   clear HR9
   go_wp2
   go_ret
   exact ⟨by rw [H9.out];rfl,HB.out⟩
  ·have q1:decide (0 < Q)=false:=decide_eq_false hQ
   by_cases hc1:C=0
   ·have q2:=beq_t hc1
    by_cases hc2:V < S
    ·have q3:decide (V < S)=true:=decide_eq_true hc2
     have H9:Hid (R=20):=hide (by rw [HR9.out];rw [if_neg (by decide),if_neg (fun q=>hQ q.1)];simp [hc1,hc2])
     clear HR9
     go_wp2
     go_ret
     exact ⟨by rw [H9.out];rfl,HB.out⟩
    ·have q3:decide (V < S)=false:=decide_eq_false hc2
     have H9:Hid (R=0):=hide (by rw [HR9.out];rw [if_neg (by decide),if_neg (fun q=>hQ q.1)];simp [hc2])
     clear HR9
     go_wp2
     go_ret
     exact ⟨by rw [H9.out];rfl,HB.out⟩
   ·have q2:=beq_f hc1
    have H9:Hid (R=0):=hide (by rw [HR9.out];rw [if_neg (by decide),if_neg (fun q=>hQ q.1)];simp [hc1])
    clear HR9
    go_wp2
    go_ret
    exact ⟨by rw [H9.out];rfl,HB.out⟩
end Go.Proofs.YtaeehnaicnckgaaGreatDoor
