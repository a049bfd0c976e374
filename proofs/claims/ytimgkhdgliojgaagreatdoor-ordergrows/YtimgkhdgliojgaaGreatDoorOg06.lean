import Derived.Test.YtimgkhdgliojgaaGreatDoorOg05
set_option maxRecDepth 8000
set_option maxHeartbeats 8000000
set_option linter.unusedVariables false
namespace Go.Proofs.YtimgkhdgliojgaaGreatDoor
open Go.RowKit Go.Maps
def lrn (c d:Nat→Int) (g:Nat) (tm:Int):Nat→Int:=if 0 < tm∧d g=tm then d else fun x=>max (c x) (d x)
structure Lrn (ty:TypeId) (pl:Nat→Int→Int) (Z:Nat→Prop) (w w':World) (vb:Nat) (tm l:Int) (g:Int) (f:Nat→Int):Prop where
 ex:∃ k',w'.heap[vb]?=some (.cells (vC k' tm l g) ty (0,0))∧TQ pl (Nz Z w w') w' k' f
 bt:But (fun i=>i=vb) w w'
theorem learn_any {pl:Nat→Int→Int} (hpl:Rise2 pl) {Z:Nat→Prop} {w:World} {vb:Nat} {k v:Value} {c d:Nat→Int} {g:Nat} {tm l:Int} {ty:TypeId} (hv:w.heap[vb]?=some (.cells (vC k tm l (g:Int)) ty (0,0))) (hZ:¬ Z vb) (h:TQ pl Z w k c) (hd:TQ pl Z w v d) (hg:g < 65536) :
  Calls Tryz.prog 55 #[.pointer (some ⟨vb,0,none⟩),v] w fun e w'=>e=.returned (.tuple #[])∧Lrn ty pl Z w w' vb tm l (g:Int) (lrn c d g tm):=by
 obtain ⟨ok,hok⟩:=h.form
 obtain ⟨ov,hov⟩:=hd.form
 subst hok
 subst hov
 obtain ⟨q0,q1,q2,q3,ql⟩:=vc_cells hv
 have HG:Hid (∀ n,Calls Tryz.prog 46 #[.pointer ov,.int .u16 (g:Int)] (w.drewN n) fun e w'=>e=.returned (.int .i32 (d g))∧∃ m,w'=(w.drewN n).drewN m):=hide (fun n=>get_any (hd.bel (below_drewN (Below.refl _ _) n)).tp hg)
 have HJ:Hid (∀ X,Below w.heap.size w X→Calls Tryz.prog 47 #[.pointer ok,.pointer ov] X fun e w'=>∃ v,e=.returned v∧TQ pl (Nz Z X w') w' v (fun x=>max (c x) (d x))∧Below X.heap.size X w'):=hide (fun X hX=>tjn_any hpl (h.bel hX) (hd.bel hX))
 have HV:=hide hv
 have HD:=hide hd
 have hZk:∀ i,Z i→¬ i=vb:=fun i hi e=>hZ (e ▸ hi)
 have HZk:=hide hZk
 by_cases ht:0 < tm
 ·by_cases he:d g=tm
  ·have HL:Hid (lrn c d g tm=d):=hide (by unfold lrn;rw [if_pos ⟨ht,he⟩])
   rw [HL.out]
   have heb:(d g == tm)=true:=by rw [he];simp
   have HR:Hid (∀ m,Lrn ty pl Z w ((w.drewN m).setCell ⟨vb,0,none⟩ (.pointer ov)) vb tm l (g:Int) d):=hide (fun m=>by
    have hB:But (fun i=>i=vb) w ((w.drewN m).setCell ⟨vb,0,none⟩ (.pointer ov)):=(But.of_below (S:=fun i=>i=vb) (below_drewN (Below.refl w.heap.size w) m)).setCell ⟨vb,0,none⟩ (fun _=>rfl) _
    exact ⟨⟨_,set1_heap (w:=w.drewN m) (i:=0) (.pointer ov) hv,(hd.but hB hZk).mono Nz.old⟩,hB⟩)
   have qf:w.frozen? ⟨vb,0,none⟩=false:=frz hv 0
   generalize d g=DG at HG heb
   generalize (g:Int)=G at HG q3 HR ⊢
   clear he h hd hg hv hZ hZk HJ HV HD
   go_enter Tryz.func55,Tryz.ntmps55
   go_wp2_with fail
   go_quiet ((go_at_call 46;exact Calls.quiet_of (HG.out _)))
   go_wp2
   (try simp only [Exit.inBlock,Exit.then]);refine bodyPost_ret (results_none rfl _ _ _) rfl ?_
   exact ⟨rfl,HR.out _⟩
  ·have HL:Hid (lrn c d g tm=fun x=>max (c x) (d x)):=hide (by unfold lrn;rw [if_neg (fun q=>he q.2)])
   rw [HL.out]
   have heb:(d g == tm)=false:=by rw [beq_eq_false_iff_ne];exact he
   generalize d g=DG at HG heb
   generalize (g:Int)=G at HG q3 HV ⊢
   clear he h hd hg hv hZ hZk HD
   go_enter Tryz.func55,Tryz.ntmps55
   go_wp2_with fail
   go_quiet ((go_at_call 46;exact Calls.quiet_of (HG.out _)))
   obtain ⟨V,hV⟩:∃ V,V=w.drewN nq:=⟨_,rfl⟩
   rw [← hV]
   have HB:Hid (Below w.heap.size w V):=hide (bel_drew18 ⟨_,hV⟩)
   have HC:=hide (HJ.out V HB.out)
   have y0:V.cell? ⟨vb,0,none⟩=some (.pointer ok):=by rw [hV];exact q0
   have yl:vb < V.heap.size:=by rw [hV];exact ql
   clear hV q0 q1 q2 q3 ql HG
   go_wp2_with fail
   refine HC.out.mono ?_
   rintro e w1 ⟨v9,rfl,hq9,hb9⟩
   obtain ⟨o9,ho9⟩:=hq9.form
   subst ho9
   have hbw:=HB.out.trans (hb9.mono HB.out.size)
   have hv1:w1.heap[vb]?=some (.cells (vC (.pointer ok) tm l G) ty (0,0)):=(hbw.block vb (lt_heap HV.out)).trans HV.out
   have z0:w1.cell? ⟨vb,0,none⟩=some (.pointer ok):=cell_at hv1 rfl
   have zf:w1.frozen? ⟨vb,0,none⟩=false:=frz hv1 0
   have zl:=lt_heap hv1
   have HR:Hid (Lrn ty pl Z w (w1.setCell ⟨vb,0,none⟩ (.pointer o9)) vb tm l G (fun x=>max (c x) (d x))):=hide (by
    have hB:But (fun i=>i=vb) w (w1.setCell ⟨vb,0,none⟩ (.pointer o9)):=(But.of_below (S:=fun i=>i=vb) hbw).setCell ⟨vb,0,none⟩ (fun _=>rfl) _
    have hlt:=lt_heap HV.out
    have hs:=HB.out.size
    have hB1:But (fun i=>i=vb) w1 (w1.setCell ⟨vb,0,none⟩ (.pointer o9)):=(But.refl (fun i=>i=vb) w1).setCell ⟨vb,0,none⟩ (fun _=>rfl) _
    refine ⟨⟨_,set1_heap (i:=0) (.pointer o9) hv1,?_⟩,hB⟩
    have h8:=hq9.but hB1 (fun i hi e=>by
     rcases hi with hi|hi
     ·exact HZk.out i hi e
     ·have e9:i=vb:=e
      omega)
    exact h8.mono (fun i hi=>by
     rcases hi with hi|hi
     ·exact .inl hi
     ·exact .inr ⟨by omega,Nat.lt_of_lt_of_le hi.2 hB1.size⟩))
   clear hq9 hb9 hbw hv1 HC HJ y0 yl
   go_wp2
   go_end0
   exact ⟨rfl,HR.out⟩
 ·have HL:Hid (lrn c d g tm=fun x=>max (c x) (d x)):=hide (by unfold lrn;rw [if_neg (fun q=>ht q.1)])
  have htd:decide (0 < tm)=false:=decide_eq_false ht
  rw [HL.out]
  generalize (g:Int)=G at HG q3 HV ⊢
  clear h hd hg hv hZ hZk HD
  go_enter Tryz.func55,Tryz.ntmps55
  go_wp2_with fail
  go_quiet ((go_at_call 46;exact Calls.quiet_of (HG.out _)))
  obtain ⟨V,hV⟩:∃ V,V=w.drewN nq:=⟨_,rfl⟩
  rw [← hV]
  have HB:Hid (Below w.heap.size w V):=hide (bel_drew18 ⟨_,hV⟩)
  have HC:=hide (HJ.out V HB.out)
  have y0:V.cell? ⟨vb,0,none⟩=some (.pointer ok):=by rw [hV];exact q0
  have yl:vb < V.heap.size:=by rw [hV];exact ql
  clear hV q0 q1 q2 q3 ql HG
  go_wp2_with fail
  refine HC.out.mono ?_
  rintro e w1 ⟨v9,rfl,hq9,hb9⟩
  obtain ⟨o9,ho9⟩:=hq9.form
  subst ho9
  have hbw:=HB.out.trans (hb9.mono HB.out.size)
  have hv1:w1.heap[vb]?=some (.cells (vC (.pointer ok) tm l G) ty (0,0)):=(hbw.block vb (lt_heap HV.out)).trans HV.out
  have z0:w1.cell? ⟨vb,0,none⟩=some (.pointer ok):=cell_at hv1 rfl
  have zf:w1.frozen? ⟨vb,0,none⟩=false:=frz hv1 0
  have zl:=lt_heap hv1
  have HR:Hid (Lrn ty pl Z w (w1.setCell ⟨vb,0,none⟩ (.pointer o9)) vb tm l G (fun x=>max (c x) (d x))):=hide (by
   have hB:But (fun i=>i=vb) w (w1.setCell ⟨vb,0,none⟩ (.pointer o9)):=(But.of_below (S:=fun i=>i=vb) hbw).setCell ⟨vb,0,none⟩ (fun _=>rfl) _
   have hlt:=lt_heap HV.out
   have hs:=HB.out.size
   have hB1:But (fun i=>i=vb) w1 (w1.setCell ⟨vb,0,none⟩ (.pointer o9)):=(But.refl (fun i=>i=vb) w1).setCell ⟨vb,0,none⟩ (fun _=>rfl) _
   refine ⟨⟨_,set1_heap (i:=0) (.pointer o9) hv1,?_⟩,hB⟩
   have h8:=hq9.but hB1 (fun i hi e=>by
    rcases hi with hi|hi
    ·exact HZk.out i hi e
    ·have e9:i=vb:=e
     omega)
   exact h8.mono (fun i hi=>by
    rcases hi with hi|hi
    ·exact .inl hi
    ·exact .inr ⟨by omega,Nat.lt_of_lt_of_le hi.2 hB1.size⟩))
  clear hq9 hb9 hbw hv1 HC HJ y0 yl
  go_wp2
  go_end0
  exact ⟨rfl,HR.out⟩
end Go.Proofs.YtimgkhdgliojgaaGreatDoor
namespace Go.Proofs.YtimgkhdgliojgaaGreatDoor
open Go.RowKit Go.Maps
section
variable {pl : Nat → Int → Int} {Z : Nat → Prop} {w w1 w' : World} {ob : Nat} {cs : Array Value} {ty : TypeId} {v : Value} {f : Nat → Int}
theorem kp_set (hob:w.heap[ob]?=some (.cells cs ty (0,0))) (hZ:¬ Z ob) (hb:Below w.heap.size w w1) (hq:TQ pl (Nz Z w w1) w1 v f) (i:Nat) (u:Value) :
  (w1.setCell ⟨ob,i,none⟩ u).heap[ob]?=some (.cells (cs.setIfInBounds i u) ty (0,0))∧TQ pl (Nz Z w (w1.setCell ⟨ob,i,none⟩ u)) (w1.setCell ⟨ob,i,none⟩ u) v f∧But (fun j=>j=ob) w (w1.setCell ⟨ob,i,none⟩ u):=by
 have h1:w1.heap[ob]?=some (.cells cs ty (0,0)):=(hb.block ob (lt_heap hob)).trans hob
 have hB1:But (fun j=>j=ob) w1 (w1.setCell ⟨ob,i,none⟩ u):=(But.refl (fun j=>j=ob) w1).setCell ⟨ob,i,none⟩ (fun _=>rfl) u
 have hlt:=lt_heap hob
 refine ⟨set1_heap u h1,(hq.but hB1 (fun j hj e=>?_)).mono (Nz.on hB1.size),(But.of_below (S:=fun j=>j=ob) hb).trans hB1 (fun _ _ e=>e)⟩
 have e9:j=ob:=e
 rcases hj with hj|hj
 ·exact hZ (e9 ▸ hj)
 ·omega
end
structure Kp (pl:Nat→Int→Int) (Z:Nat→Prop) (w w':World) (ob:Nat) (mk:Value→Array Value) (ty:TypeId) (f:Nat→Int):Prop where
 ex:∃ v,w'.heap[ob]?=some (.cells (mk v) ty (0,0))∧TQ pl (Nz Z w w') w' v f
 bt:But (fun j=>j=ob) w w'
structure Vok (pl:Nat→Int→Int) (g:Nat) (tm l:Int):Prop where
 fg:g < 65536
 ft:0≤tm∧tm≤1048576
 fl:0≤l∧l≤1048576
 fp:1≤tm→pl g tm=l
 fz:¬ 1≤tm→l=0
section
variable {pl : Nat → Int → Int} {Z : Nat → Prop} {w : World} {ob : Nat} {k v r : Value} {c d : Nat → Int} {g : Nat} {tm l : Int} {eg ek eo ea : Int} {s : Value}
theorem lock_release (hpl:Rise2 pl) (hob:w.heap[ob]?=some (.cells #[r,v] 226 (0,0))) (hZ:¬ Z ob) (h:TQ pl Z w k c) (hv:Vok pl g tm l) :
  Calls Tryz.prog 246 #[.pointer (some ⟨ob,0,none⟩),.agg #[.int .i64 eg,.int .i64 4,.int .u64 eo,.int .u64 ea,s],.agg #[k,.int .i32 tm,.int .i32 l,.int .u16 (g:Int)]] w fun e w'=>e=.returned (.tuple #[])∧Kp pl Z w w' ob (fun x=>#[x,x]) 226 (vclk c g tm):=by
 obtain ⟨o,rfl⟩:=h.form
 obtain ⟨W,hW⟩:∃ W,W=(w.alloc (.cells #[.int .i64 eg,.int .i64 4,.int .u64 eo,.int .u64 ea,s] 35)).alloc (.cells #[.pointer o,.int .i32 tm,.int .i32 l,.int .u16 (g:Int)] 76):=⟨_,rfl⟩
 have hb:Below w.heap.size w W:=by rw [hW];exact below_alloc2 w _ _
 have HC:=hide (clock_any hpl (h.bel hb) hv.fg hv.ft hv.fl hv.fp hv.fz)
 have HB:=hide hb
 have HW:=hide hW
 have HOb:=hide hob
 have HZ:=hide hZ
 clear h hb hW hv hpl hob hZ
 go_enter Tryz.func246,Tryz.ntmps246
 go_wp2_with fail
 rw [← HW.out]
 clear HW
 refine HC.out.mono ?_
 rintro e w1 ⟨v1,rfl,hq,hb1⟩
 obtain ⟨o1,ho1⟩:=hq.form
 subst ho1
 have hbw:=HB.out.trans (hb1.mono HB.out.size)
 have hq2:TQ pl (Nz Z w w1) w1 (.pointer o1) (vclk c g tm):=hq.mono (Nz.up HB.out.size)
 obtain ⟨s1,s2,s3⟩:=kp_set HOb.out HZ.out hbw hq2 0 (.pointer o1)
 have h1:w1.heap[ob]?=some (.cells #[r,v] 226 (0,0)):=(hbw.block ob (lt_heap HOb.out)).trans HOb.out
 have z0:w1.cell? ⟨ob,0,none⟩=some r:=cell_at h1 rfl
 have zf:w1.frozen? ⟨ob,0,none⟩=false:=frz h1 0
 have zl:=lt_heap h1
 obtain ⟨w2,hw2⟩:∃ w2,w2=w1.setCell ⟨ob,0,none⟩ (.pointer o1):=⟨_,rfl⟩
 have HW2:=hide hw2
 rw [← hw2] at s1 s2 s3
 have y0:w2.cell? ⟨ob,0,none⟩=some (.pointer o1):=cell_at s1 rfl
 have y1:w2.cell? ⟨ob,1,none⟩=some v:=cell_at s1 rfl
 have yf:w2.frozen? ⟨ob,1,none⟩=false:=frz s1 1
 have yl:=lt_heap s1
 have HR:Hid (Kp pl Z w (w2.setCell ⟨ob,1,none⟩ (.pointer o1)) ob (fun x=>#[x,x]) 226 (vclk c g tm)):=hide (by
  have hB2:But (fun j=>j=ob) w2 (w2.setCell ⟨ob,1,none⟩ (.pointer o1)):=(But.refl (fun j=>j=ob) w2).setCell ⟨ob,1,none⟩ (fun _=>rfl) _
  have hlt:=lt_heap HOb.out
  refine ⟨⟨_,set1_heap (i:=1) (.pointer o1) s1,(s2.but hB2 (fun j hj e=>?_)).mono (Nz.on hB2.size)⟩,s3.trans hB2 (fun _ _ e=>e)⟩
  have e9:j=ob:=e
  rcases hj with hj|hj
  ·exact HZ.out (e9 ▸ hj)
  ·omega)
 rw [HW2.out] at y0 y1 yf yl HR
 clear HW2 hq hb1 hbw hq2 s1 s2 s3 h1 HC hw2
 go_wp2
 go_end0
 exact ⟨rfl,HR.out⟩
theorem once_ran (hpl:Rise2 pl) (hob:w.heap[ob]?=some (.cells #[r] 237 (0,0))) (hZ:¬ Z ob) (h:TQ pl Z w k c) (hv:Vok pl g tm l) :
  Calls Tryz.prog 258 #[.pointer (some ⟨ob,0,none⟩),.agg #[.int .i64 eg,.int .i64 ek,.int .u64 eo,.int .u64 1,s],.agg #[k,.int .i32 tm,.int .i32 l,.int .u16 (g:Int)]] w fun e w'=>e=.returned (.tuple #[])∧Kp pl Z w w' ob (fun x=>#[x]) 237 (vclk c g tm):=by
 obtain ⟨o,rfl⟩:=h.form
 obtain ⟨W,hW⟩:∃ W,W=(w.alloc (.cells #[.int .i64 eg,.int .i64 ek,.int .u64 eo,.int .u64 1,s] 35)).alloc (.cells #[.pointer o,.int .i32 tm,.int .i32 l,.int .u16 (g:Int)] 76):=⟨_,rfl⟩
 have hb:Below w.heap.size w W:=by rw [hW];exact below_alloc2 w _ _
 have HC:=hide (clock_any hpl (h.bel hb) hv.fg hv.ft hv.fl hv.fp hv.fz)
 have HB:=hide hb
 have HW:=hide hW
 have HOb:=hide hob
 have HZ:=hide hZ
 clear h hb hW hv hpl hob hZ
 go_enter Tryz.func258,Tryz.ntmps258
 go_wp2_with fail
 rw [← HW.out]
 clear HW
 refine HC.out.mono ?_
 rintro e w1 ⟨v1,rfl,hq,hb1⟩
 obtain ⟨o1,ho1⟩:=hq.form
 subst ho1
 have hbw:=HB.out.trans (hb1.mono HB.out.size)
 have hq2:TQ pl (Nz Z w w1) w1 (.pointer o1) (vclk c g tm):=hq.mono (Nz.up HB.out.size)
 obtain ⟨s1,s2,s3⟩:=kp_set HOb.out HZ.out hbw hq2 0 (.pointer o1)
 have h1:w1.heap[ob]?=some (.cells #[r] 237 (0,0)):=(hbw.block ob (lt_heap HOb.out)).trans HOb.out
 have z0:w1.cell? ⟨ob,0,none⟩=some r:=cell_at h1 rfl
 have zf:w1.frozen? ⟨ob,0,none⟩=false:=frz h1 0
 have zl:=lt_heap h1
 have HR:Hid (Kp pl Z w (w1.setCell ⟨ob,0,none⟩ (.pointer o1)) ob (fun x=>#[x]) 237 (vclk c g tm)):=hide ⟨⟨_,s1,s2⟩,s3⟩
 clear hq hb1 hbw hq2 s1 s2 s3 h1 HC
 go_wp2
 go_end0
 exact ⟨rfl,HR.out⟩
theorem begun_keeps (hpl:Rise2 pl) {eb:Int} (hob:w.heap[ob]?=some (.cells #[r,.int .i32 0,.int .i32 0,.int .u16 eb] 140 (0,0))) (hZ:¬ Z ob) (h:TQ pl Z w k c) (hv:Vok pl g tm l) :
  Calls Tryz.prog 239 #[.pointer (some ⟨ob,0,none⟩),.agg #[.int .i64 eg,.int .i64 ek,.int .u64 eo,.int .u64 ea,s],.agg #[k,.int .i32 tm,.int .i32 l,.int .u16 (g:Int)]] w fun e w'=>e=.returned (.tuple #[])∧Kp pl Z w w' ob (fun x=>#[x,.int .i32 0,.int .i32 0,.int .u16 eb]) 140 (vclk c g tm):=by
 obtain ⟨o,rfl⟩:=h.form
 obtain ⟨W,hW⟩:∃ W,W=(w.alloc (.cells #[.int .i64 eg,.int .i64 ek,.int .u64 eo,.int .u64 ea,s] 35)).alloc (.cells #[.pointer o,.int .i32 tm,.int .i32 l,.int .u16 (g:Int)] 76):=⟨_,rfl⟩
 have hb:Below w.heap.size w W:=by rw [hW];exact below_alloc2 w _ _
 have HC:=hide (clock_any hpl (h.bel hb) hv.fg hv.ft hv.fl hv.fp hv.fz)
 have HB:=hide hb
 have HW:=hide hW
 have HOb:=hide hob
 have HZ:=hide hZ
 clear h hb hW hv hpl hob hZ
 go_enter Tryz.func239,Tryz.ntmps239
 go_wp2_with fail
 rw [← HW.out]
 clear HW
 refine HC.out.mono ?_
 rintro e w1 ⟨v1,rfl,hq,hb1⟩
 obtain ⟨o1,ho1⟩:=hq.form
 subst ho1
 have hbw:=HB.out.trans (hb1.mono HB.out.size)
 have hq2:TQ pl (Nz Z w w1) w1 (.pointer o1) (vclk c g tm):=hq.mono (Nz.up HB.out.size)
 obtain ⟨s1,s2,s3⟩:=kp_set HOb.out HZ.out hbw hq2 0 (.pointer o1)
 have h1:w1.heap[ob]?=some (.cells #[r,.int .i32 0,.int .i32 0,.int .u16 eb] 140 (0,0)):=(hbw.block ob (lt_heap HOb.out)).trans HOb.out
 have z0:w1.cell? ⟨ob,0,none⟩=some r:=cell_at h1 rfl
 have zf:w1.frozen? ⟨ob,0,none⟩=false:=frz h1 0
 have zl:=lt_heap h1
 have HR:Hid (Kp pl Z w (w1.setCell ⟨ob,0,none⟩ (.pointer o1)) ob (fun x=>#[x,.int .i32 0,.int .i32 0,.int .u16 eb]) 140 (vclk c g tm)):=hide ⟨⟨_,s1,s2⟩,s3⟩
 clear hq hb1 hbw hq2 s1 s2 s3 h1 HC
 go_wp2
 go_end0
 exact ⟨rfl,HR.out⟩
theorem lock_still (h4:ek≠4) (h6:ek≠6) :
  Calls Tryz.prog 246 #[.pointer (some ⟨ob,0,none⟩),.agg #[.int .i64 eg,.int .i64 ek,.int .u64 eo,.int .u64 ea,s],.agg #[k,.int .i32 tm,.int .i32 l,.int .u16 (g:Int)]] w fun e w'=>e=.returned (.tuple #[])∧Below w.heap.size w w':=by
 have b4:(ek == 4)=false:=by rw [beq_eq_false_iff_ne];exact h4
 have b6:(ek == 6)=false:=by rw [beq_eq_false_iff_ne];exact h6
 clear h4 h6
 have HB:Hid (∀ x y,Below w.heap.size w ((w.alloc x).alloc y)):=hide (fun x y=>below_alloc2 w x y)
 go_enter Tryz.func246,Tryz.ntmps246
 go_wp2
 go_end0
 exact ⟨rfl,HB.out _ _⟩
theorem once_still (h1:ea≠1) :
  Calls Tryz.prog 258 #[.pointer (some ⟨ob,0,none⟩),.agg #[.int .i64 eg,.int .i64 ek,.int .u64 eo,.int .u64 ea,s],.agg #[k,.int .i32 tm,.int .i32 l,.int .u16 (g:Int)]] w fun e w'=>e=.returned (.tuple #[])∧Below w.heap.size w w':=by
 have b1:(ea == 1)=false:=by rw [beq_eq_false_iff_ne];exact h1
 clear h1
 have HB:Hid (∀ x y,Below w.heap.size w ((w.alloc x).alloc y)):=hide (fun x y=>below_alloc2 w x y)
 go_enter Tryz.func258,Tryz.ntmps258
 go_wp2
 go_end0
 exact ⟨rfl,HB.out _ _⟩
theorem atomic_still :
  Calls Tryz.prog 260 #[.pointer (some ⟨ob,0,none⟩),.agg #[.int .i64 eg,.int .i64 17,.int .u64 eo,.int .u64 ea,s],.agg #[k,.int .i32 tm,.int .i32 l,.int .u16 (g:Int)]] w fun e w'=>e=.returned (.tuple #[])∧Below w.heap.size w w':=by
 have HB:Hid (∀ x y,Below w.heap.size w ((w.alloc x).alloc y)):=hide (fun x y=>below_alloc2 w x y)
 go_enter Tryz.func260,Tryz.ntmps260
 go_wp2
 go_end0
 exact ⟨rfl,HB.out _ _⟩
theorem ended_still :
  Calls Tryz.prog 241 #[.pointer (some ⟨ob,0,none⟩),.agg #[.int .i64 eg,.int .i64 ek,.int .u64 eo,.int .u64 ea,s],.agg #[k,.int .i32 tm,.int .i32 l,.int .u16 (g:Int)]] w fun e w'=>e=.returned (.tuple #[])∧Below w.heap.size w w':=by
 have HB:Hid (∀ x y,Below w.heap.size w ((w.alloc x).alloc y)):=hide (fun x y=>below_alloc2 w x y)
 go_enter Tryz.func241,Tryz.ntmps241
 go_wp2
 go_end0
 exact ⟨rfl,HB.out _ _⟩
theorem lock_acq {o:Option Addr} (hob:w.heap[ob]?=some (.cells #[r,.pointer o] 226 (0,0))) :
  Calls Tryz.prog 245 #[.pointer (some ⟨ob,0,none⟩),.agg #[.int .i64 eg,.int .i64 3,.int .u64 eo,.int .u64 ea,s]] w fun e w'=>e=.returned (.pointer o)∧Below w.heap.size w w':=by
 have q1:w.cell? ⟨ob,1,none⟩=some (.pointer o):=cell_at hob rfl
 have ql:=lt_heap hob
 clear hob
 have HB:Hid (∀ x,Below w.heap.size w (w.alloc x)):=hide (fun x=>below_alloc1 w x)
 go_enter Tryz.func245,Tryz.ntmps245
 go_wp2
 go_ret
 exact ⟨rfl,HB.out _⟩
theorem lock_racq {o:Option Addr} (hob:w.heap[ob]?=some (.cells #[.pointer o,r] 226 (0,0))) :
  Calls Tryz.prog 245 #[.pointer (some ⟨ob,0,none⟩),.agg #[.int .i64 eg,.int .i64 5,.int .u64 eo,.int .u64 ea,s]] w fun e w'=>e=.returned (.pointer o)∧Below w.heap.size w w':=by
 have q0:w.cell? ⟨ob,0,none⟩=some (.pointer o):=cell_at hob rfl
 have ql:=lt_heap hob
 clear hob
 have HB:Hid (∀ x,Below w.heap.size w (w.alloc x)):=hide (fun x=>below_alloc1 w x)
 go_enter Tryz.func245,Tryz.ntmps245
 go_wp2
 go_ret
 exact ⟨rfl,HB.out _⟩
theorem lock_none (h3:ek≠3) (h5:ek≠5) :
  Calls Tryz.prog 245 #[.pointer (some ⟨ob,0,none⟩),.agg #[.int .i64 eg,.int .i64 ek,.int .u64 eo,.int .u64 ea,s]] w fun e w'=>e=.returned (.pointer none)∧Below w.heap.size w w':=by
 have b3:(ek == 3)=false:=by rw [beq_eq_false_iff_ne];exact h3
 have b5:(ek == 5)=false:=by rw [beq_eq_false_iff_ne];exact h5
 clear h3 h5
 have HB:Hid (∀ x,Below w.heap.size w (w.alloc x)):=hide (fun x=>below_alloc1 w x)
 go_enter Tryz.func245,Tryz.ntmps245
 go_wp2
 go_ret
 exact ⟨rfl,HB.out _⟩
theorem group_wait {o:Option Addr} (hob:w.heap[ob]?=some (.cells #[.pointer o] 234 (0,0))) :
  Calls Tryz.prog 255 #[.pointer (some ⟨ob,0,none⟩),.agg #[.int .i64 eg,.int .i64 15,.int .u64 eo,.int .u64 ea,s]] w fun e w'=>e=.returned (.pointer o)∧Below w.heap.size w w':=by
 have q0:w.cell? ⟨ob,0,none⟩=some (.pointer o):=cell_at hob rfl
 have ql:=lt_heap hob
 clear hob
 have HB:Hid (∀ x,Below w.heap.size w (w.alloc x)):=hide (fun x=>below_alloc1 w x)
 go_enter Tryz.func255,Tryz.ntmps255
 go_wp2
 go_ret
 exact ⟨rfl,HB.out _⟩
theorem group_none (h:ek≠15) :
  Calls Tryz.prog 255 #[.pointer (some ⟨ob,0,none⟩),.agg #[.int .i64 eg,.int .i64 ek,.int .u64 eo,.int .u64 ea,s]] w fun e w'=>e=.returned (.pointer none)∧Below w.heap.size w w':=by
 have b:(ek == 15)=false:=by rw [beq_eq_false_iff_ne];exact h
 clear h
 have HB:Hid (∀ x,Below w.heap.size w (w.alloc x)):=hide (fun x=>below_alloc1 w x)
 go_enter Tryz.func255,Tryz.ntmps255
 go_wp2
 go_ret
 exact ⟨rfl,HB.out _⟩
theorem once_gives {o:Option Addr} (hob:w.heap[ob]?=some (.cells #[.pointer o] 237 (0,0))) :
  Calls Tryz.prog 257 #[.pointer (some ⟨ob,0,none⟩),.agg #[.int .i64 eg,.int .i64 ek,.int .u64 eo,.int .u64 ea,s]] w fun e w'=>e=.returned (.pointer o)∧Below w.heap.size w w':=by
 have q0:w.cell? ⟨ob,0,none⟩=some (.pointer o):=cell_at hob rfl
 have ql:=lt_heap hob
 clear hob
 have HB:Hid (∀ x,Below w.heap.size w (w.alloc x)):=hide (fun x=>below_alloc1 w x)
 go_enter Tryz.func257,Tryz.ntmps257
 go_wp2
 go_ret
 exact ⟨rfl,HB.out _⟩
theorem atomic_store :
  Calls Tryz.prog 259 #[.pointer (some ⟨ob,0,none⟩),.agg #[.int .i64 eg,.int .i64 18,.int .u64 eo,.int .u64 ea,s]] w fun e w'=>e=.returned (.pointer none)∧Below w.heap.size w w':=by
 have HB:Hid (∀ x,Below w.heap.size w (w.alloc x)):=hide (fun x=>below_alloc1 w x)
 go_enter Tryz.func259,Tryz.ntmps259
 go_wp2
 go_ret
 exact ⟨rfl,HB.out _⟩
theorem atomic_gives {o:Option Addr} (h:ek≠18) (hob:w.heap[ob]?=some (.cells #[.pointer o] 240 (0,0))) :
  Calls Tryz.prog 259 #[.pointer (some ⟨ob,0,none⟩),.agg #[.int .i64 eg,.int .i64 ek,.int .u64 eo,.int .u64 ea,s]] w fun e w'=>e=.returned (.pointer o)∧Below w.heap.size w w':=by
 have q0:w.cell? ⟨ob,0,none⟩=some (.pointer o):=cell_at hob rfl
 have ql:=lt_heap hob
 clear hob
 have b:(ek == 18)=false:=by rw [beq_eq_false_iff_ne];exact h
 clear h
 have HB:Hid (∀ x,Below w.heap.size w (w.alloc x)):=hide (fun x=>below_alloc1 w x)
 go_enter Tryz.func259,Tryz.ntmps259
 go_wp2
 go_ret
 exact ⟨rfl,HB.out _⟩
theorem begun_none :
  Calls Tryz.prog 238 #[.pointer (some ⟨ob,0,none⟩),.agg #[.int .i64 eg,.int .i64 ek,.int .u64 eo,.int .u64 ea,s]] w fun e w'=>e=.returned (.pointer none)∧Below w.heap.size w w':=by
 have HB:Hid (∀ x,Below w.heap.size w (w.alloc x)):=hide (fun x=>below_alloc1 w x)
 go_enter Tryz.func238,Tryz.ntmps238
 go_wp2
 go_ret
 exact ⟨rfl,HB.out _⟩
theorem ended_gives (hpl:Rise2 pl) {vb:Nat} {ty:TypeId} (hob:w.heap[ob]?=some (.cells #[.pointer (some ⟨vb,0,none⟩)] 143 (0,0))) (hvb:w.heap[vb]?=some (.cells #[k,.int .i32 tm,.int .i32 l,.int .u16 (g:Int)] ty (0,0))) (h:TQ pl Z w k c) (hv:Vok pl g tm l) :
  Calls Tryz.prog 240 #[.pointer (some ⟨ob,0,none⟩),.agg #[.int .i64 eg,.int .i64 ek,.int .u64 eo,.int .u64 ea,s]] w fun e w'=>∃ x,e=.returned x∧TQ pl (Nz Z w w') w' x (vclk c g tm)∧Below w.heap.size w w':=by
 obtain ⟨o,rfl⟩:=h.form
 obtain ⟨W,hW⟩:∃ W,W=w.alloc (.cells #[.int .i64 eg,.int .i64 ek,.int .u64 eo,.int .u64 ea,s] 35):=⟨_,rfl⟩
 have hb:Below w.heap.size w W:=by rw [hW];exact below_alloc1 w _
 have HC:=hide (clock_any hpl (h.bel hb) hv.fg hv.ft hv.fl hv.fp hv.fz)
 have q0:w.cell? ⟨ob,0,none⟩=some (.pointer (some ⟨vb,0,none⟩)):=cell_at hob rfl
 have ql:=lt_heap hob
 have r0:w.cell? ⟨vb,0,none⟩=some (.pointer o):=cell_at hvb rfl
 have r1:w.cell? ⟨vb,1,none⟩=some (.int .i32 tm):=cell_at hvb rfl
 have r2:w.cell? ⟨vb,2,none⟩=some (.int .i32 l):=cell_at hvb rfl
 have r3:w.cell? ⟨vb,3,none⟩=some (.int .u16 (g:Int)):=cell_at hvb rfl
 have rl:=lt_heap hvb
 have HB:=hide hb
 have HW:=hide hW
 generalize (g:Int)=G at r3 HC
 clear h hb hW hv hpl hob hvb
 go_enter Tryz.func240,Tryz.ntmps240
 go_wp2_with fail
 rw [← HW.out]
 clear HW
 refine HC.out.mono ?_
 rintro e w1 ⟨v1,rfl,hq,hb1⟩
 obtain ⟨o1,ho1⟩:=hq.form
 subst ho1
 have HBf:=hide (HB.out.trans (hb1.mono HB.out.size))
 have HQ:Hid (TQ pl (Nz Z w w1) w1 (.pointer o1) (vclk c g tm)):=hide (hq.mono (Nz.up HB.out.size))
 clear hq hb1 HC
 go_wp2
 go_ret
 exact ⟨_,rfl,HQ.out,HBf.out⟩
end
end Go.Proofs.YtimgkhdgliojgaaGreatDoor
