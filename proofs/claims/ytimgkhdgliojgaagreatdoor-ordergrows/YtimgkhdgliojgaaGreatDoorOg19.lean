import Derived.Test.YtimgkhdgliojgaaGreatDoorOg06
import Derived.Test.YtimgkhdgliojgaaGreatDoorOg18
set_option maxRecDepth 8000
set_option maxHeartbeats 8000000
set_option linter.unusedVariables false
namespace Go.Proofs.YtimgkhdgliojgaaGreatDoor
open Go.RowKit Go.Maps
section
variable {pl : Nat → Int → Int} {Z : Nat → Prop} {w : World} {ob : Nat} {k v r : Value} {c d : Nat → Int} {g : Nat} {tm l : Int} {eg ek eo ea : Int} {s : Value}
theorem lock_rrelease (hpl:Rise2 pl) (hob:w.heap[ob]?=some (.cells #[r,v] 226 (0,0))) (hZ:¬ Z ob) (h:TQ pl Z w k c) (hd:TQ pl Z w v d) (hv:Vok pl g tm l) :
  Calls Tryz.prog 246 #[.pointer (some ⟨ob,0,none⟩),.agg #[.int .i64 eg,.int .i64 6,.int .u64 eo,.int .u64 ea,s],.agg #[k,.int .i32 tm,.int .i32 l,.int .u16 (g:Int)]] w fun e w'=>e=.returned (.tuple #[])∧Kp pl Z w w' ob (fun x=>#[r,x]) 226 (fun x=>max (d x) (vclk c g tm x)):=by
 obtain ⟨o,rfl⟩:=h.form
 obtain ⟨od,rfl⟩:=hd.form
 obtain ⟨W,hW⟩:∃ W,W=(w.alloc (.cells #[.int .i64 eg,.int .i64 6,.int .u64 eo,.int .u64 ea,s] 35)).alloc (.cells (vC (.pointer o) tm l (g:Int)) 76):=⟨_,rfl⟩
 have hb:Below w.heap.size w W:=by rw [hW];exact below_alloc2 w _ _
 have hE:W.heap[w.heap.size+1]?=some (.cells (vC (.pointer o) tm l (g:Int)) 76 (0,0)):=by rw [hW];exact heap_newS (by simp)
 have hE0:W.heap[w.heap.size]?=some (.cells #[.int .i64 eg,.int .i64 6,.int .u64 eo,.int .u64 ea,s] 35 (0,0)):=by rw [hW,Below.heap_alloc _ _ _ (by simp)];exact heap_new _ _
 have HSx:Hid (∀ X,Below W.heap.size W X→X.cell? ⟨w.heap.size+1,0,none⟩=some (.pointer o)∧X.cell? ⟨w.heap.size+1,1,none⟩=some (.int .i32 tm)∧X.cell? ⟨w.heap.size+1,2,none⟩=some (.int .i32 l)∧X.cell? ⟨w.heap.size+1,3,none⟩=some (.int .u16 (g:Int))):=hide (fun X hX=>by
  obtain ⟨q0,q1,q2,q3,_⟩:=vc_cells ((hX.block _ (lt_heap hE)).trans hE)
  exact ⟨q0,q1,q2,q3⟩)
 have HE1:=hide hE
 have H1:=hide ((Below.refl W.heap.size W).drew)
 have HC:=hide (clock_any hpl ((h.bel hb).bel H1.out) hv.fg hv.ft hv.fl hv.fp hv.fz)
 have HPl:=hide hpl
 have HD:=hide hd
 have HB:=hide hb
 have HW:=hide hW
 unfold vC at HW
 have HOb:=hide hob
 have HZ:=hide hZ
 have hlt:=lt_heap hob
 have HOc:Hid (∀ X,Below w.heap.size w X→X.cell? ⟨ob,1,none⟩=some (.pointer od)∧X.frozen? ⟨ob,1,none⟩=false∧ob < X.heap.size):=hide (fun X hX=>by
  have h9:=(hX.block ob hlt).trans hob
  exact ⟨cell_at h9 rfl,frz h9 1,lt_heap h9⟩)
 have k0:=cell_at (i:=0) (v:=.int .i64 eg) hE0 rfl
 have k1:=cell_at (i:=1) hE0 rfl
 have k3:=cell_at (i:=3) hE0 rfl
 have kl:=lt_heap hE0
 have kl2:=lt_heap hE
 obtain ⟨y0,yf,yl⟩:=HOc.out W hb
 have HGI:=hide (show (g:Int)=(g:Int) from rfl)
 generalize (g:Int)=G at HSx HC HW HE1 ⊢
 clear h hd hb hE hE0 hW hv hpl hob hZ hlt HGI
 go_enter Tryz.func246,Tryz.ntmps246
 go_wp2_with fail
 rw [← HW.out]
 clear HW
 refine wp_region_noPanic ?_
 refine wp_region_held_drew (S:=fun X=>X.cell? ⟨w.heap.size+1,0,none⟩=some (.pointer o)∧X.cell? ⟨w.heap.size+1,1,none⟩=some (.int .i32 tm)∧X.cell? ⟨w.heap.size+1,2,none⟩=some (.int .i32 l)∧X.cell? ⟨w.heap.size+1,3,none⟩=some (.int .u16 G)) (by kernel_rfl) (HSx.out _ H1.out) (fun hHeld=>?_)
 refine wpAnyH_take (i:=0) (oi:=_) (v:=?v0_1) rfl (by kernel_rfl) (by kernel_rfl) (by kernel_rfl) (fun _ _ _ h=>h) (Or.inl ⟨by rfl,?y0_1⟩) (by assumption) ?r0_1
 case y0_1=>(intro w' hSw;(try dsimp only at hSw);go_simp;try with_reducible rfl)
 refine wpAnyH_take (i:=1) (oi:=_) (v:=?v1_2) rfl (by kernel_rfl) (by kernel_rfl) (by kernel_rfl) (fun _ _ _ h=>h) (Or.inl ⟨by rfl,?y1_2⟩) (by assumption) ?r1_2
 case y1_2=>(intro w' hSw;(try dsimp only at hSw);go_simp;try with_reducible rfl)
 refine wpAnyH_take (i:=2) (oi:=_) (v:=?v2_3) rfl (by kernel_rfl) (by kernel_rfl) (by kernel_rfl) (fun _ _ _ h=>h) (Or.inl ⟨by rfl,?y2_3⟩) (by assumption) ?r2_3
 case y2_3=>(intro w' hSw;(try dsimp only at hSw);go_simp;try with_reducible rfl)
 refine wpAnyH_take (i:=3) (oi:=_) (v:=?v3_4) rfl (by kernel_rfl) (by kernel_rfl) (by kernel_rfl) (fun _ _ _ h=>h) (Or.inl ⟨by rfl,?y3_4⟩) (by assumption) ?r3_4
 case y3_4=>(intro w' hSw;(try dsimp only at hSw);go_simp;try with_reducible rfl)
 refine wpAnyH_take (i:=5) (oi:=_) (v:=?v5_5) rfl (by kernel_rfl) (by kernel_rfl) (by kernel_rfl) (fun _ _ _ h=>h) (Or.inl ⟨by rfl,?y5_5⟩) (by assumption) ?r5_5
 case y5_5=>(intro w' hSw;(try dsimp only at hSw);go_simp;try with_reducible rfl)
 refine wpAnyH_ready (rs:=[4,6]) (by kernel_rfl) (by simp) ?_
 refine AllReadyH.cons (o:=_) rfl (fun KK hKK=>?_) (AllReadyH.cons (o:=_) rfl (fun KK hKK=>?_) AllReadyH.nil)
 ·go_simp
  refine hKK.out _ _ (HSx.out _ H1.out) (fun hHeld4=>?_)
  clear hKK KK
  refine wpAnyH_ready (rs:=[6]) (by kernel_rfl) (by simp) ?_
  refine AllReadyH.cons (o:=_) rfl (fun KK hKK=>?_) AllReadyH.nil
  go_simp
  refine HC.out.mono ?_
  rintro e1 w1 ⟨v1,rfl,hq1,hb1⟩
  obtain ⟨o1,ho1⟩:=hq1.form
  subst ho1
  have HX1:Hid (Below W.heap.size W w1):=hide (H1.out.trans (hb1.mono H1.out.size))
  have HBw1:Hid (Below w.heap.size w w1):=hide (HB.out.trans (HX1.out.mono HB.out.size))
  have HQ1:Hid (TQ pl (Nz Z w w1) w1 (.pointer o1) (vclk c g tm)):=hide (hq1.mono (Nz.up (show w.heap.size≤W.drew.heap.size from HB.out.size)))
  have HC2:=hide (tjn_any HPl.out ((HD.out.bel HBw1.out).mono (Nz.old (w:=w) (w':=w1))) HQ1.out)
  clear hq1 hb1
  refine hKK.out _ _ (HSx.out _ HX1.out) (fun hHeld6=>?_)
  clear hKK KK
  refine wpAnyH_ready (rs:=[7]) (by kernel_rfl) (by simp) ?_
  refine AllReadyH.cons (o:=_) rfl (fun KK hKK=>?_) AllReadyH.nil
  go_simp
  refine HC2.out.mono ?_
  rintro e2 w2 ⟨v2,rfl,hq2,hb2⟩
  obtain ⟨o2,ho2⟩:=hq2.form
  subst ho2
  have HX2:Hid (Below W.heap.size W w2):=hide (HX1.out.trans (hb2.mono HX1.out.size))
  have HBw2:Hid (Below w.heap.size w w2):=hide (HBw1.out.trans (hb2.mono HBw1.out.size))
  obtain ⟨s1,s2,s3⟩:=kp_set HOb.out HZ.out HBw2.out (hq2.mono (Nz.trans HBw1.out.size hb2.size)) 1 (.pointer o2)
  obtain ⟨x0,xf,xl⟩:=HOc.out w2 HBw2.out
  have HR:Hid (Kp pl Z w (w2.setCell ⟨ob,1,none⟩ (.pointer o2)) ob (fun x=>#[r,x]) 226 (fun x=>max (d x) (vclk c g tm x))):=hide ⟨⟨_,s1,s2⟩,s3⟩
  have HS2:Hid ((fun X=>X.cell? ⟨w.heap.size+1,0,none⟩=some (.pointer o)∧X.cell? ⟨w.heap.size+1,1,none⟩=some (.int .i32 tm)∧X.cell? ⟨w.heap.size+1,2,none⟩=some (.int .i32 l)∧X.cell? ⟨w.heap.size+1,3,none⟩=some (.int .u16 G)) (w2.setCell ⟨ob,1,none⟩ (.pointer o2))):=hide (by
   have hB:But (fun j=>j=ob) w2 (w2.setCell ⟨ob,1,none⟩ (.pointer o2)):=(But.refl (fun j=>j=ob) w2).setCell ⟨ob,1,none⟩ (fun _=>rfl) _
   obtain ⟨a0,a1,a2,a3⟩:=HSx.out w2 HX2.out
   have hne:¬ w.heap.size+1=ob:=fun e=>by have:=lt_heap HOb.out;omega
   exact ⟨cell_but a0 hB hne,cell_but a1 hB hne,cell_but a2 hB hne,cell_but a3 hB hne⟩)
  clear hq2 hb2 s1 s2 s3
  refine hKK.out _ _ (HSx.out _ HX2.out) (fun hHeld7=>?_)
  clear hKK KK
  refine wpAnyH_take (i:=8) (oi:=_) (v:=?v8_6) rfl (by kernel_rfl) (by kernel_rfl) (by kernel_rfl) (fun _ _ _ h=>h) (Or.inl ⟨by rfl,?y8_6⟩) (by assumption) ?r8_6
  case y8_6=>(intro w' hSw;(try dsimp only at hSw);go_simp;try with_reducible rfl)
  refine wpAnyH_take (i:=9) (oi:=_) (v:=?v9_7) rfl (by kernel_rfl) (by kernel_rfl) (by kernel_rfl) (fun _ _ _ h=>h) (Or.inl ⟨by rfl,?y9_7⟩) (by assumption) ?r9_7
  case y9_7=>(intro w' hSw;(try dsimp only at hSw);go_simp;try with_reducible rfl)
  refine wpAnyH_ready (rs:=[10]) (by kernel_rfl) (by simp) ?_
  refine AllReadyH.cons (o:=_) rfl (fun KK hKK=>?_) AllReadyH.nil
  go_simp
  refine hKK.out _ _ (HS2.out) (fun hHeld10=>?_)
  clear hKK KK
  refine wpAnyH_done (by kernel_rfl) ?_ _
  refine NoPanic.normal ?_
  clear hHeld
  go_wp2
  go_end0
  exact ⟨rfl,HR.out⟩
 ·go_simp
  refine HC.out.mono ?_
  rintro e1 w1 ⟨v1,rfl,hq1,hb1⟩
  obtain ⟨o1,ho1⟩:=hq1.form
  subst ho1
  have HX1:Hid (Below W.heap.size W w1):=hide (H1.out.trans (hb1.mono H1.out.size))
  have HBw1:Hid (Below w.heap.size w w1):=hide (HB.out.trans (HX1.out.mono HB.out.size))
  have HQ1:Hid (TQ pl (Nz Z w w1) w1 (.pointer o1) (vclk c g tm)):=hide (hq1.mono (Nz.up (show w.heap.size≤W.drew.heap.size from HB.out.size)))
  have HC2:=hide (tjn_any HPl.out ((HD.out.bel HBw1.out).mono (Nz.old (w:=w) (w':=w1))) HQ1.out)
  clear hq1 hb1
  refine hKK.out _ _ (HSx.out _ HX1.out) (fun hHeld6=>?_)
  clear hKK KK
  refine wpAnyH_ready (rs:=[4]) (by kernel_rfl) (by simp) ?_
  refine AllReadyH.cons (o:=_) rfl (fun KK hKK=>?_) AllReadyH.nil
  obtain ⟨u0,uf,ul⟩:=HOc.out w1 HBw1.out
  go_simp
  refine hKK.out _ _ (HSx.out _ HX1.out) (fun hHeld4=>?_)
  clear hKK KK
  refine wpAnyH_ready (rs:=[7]) (by kernel_rfl) (by simp) ?_
  refine AllReadyH.cons (o:=_) rfl (fun KK hKK=>?_) AllReadyH.nil
  go_simp
  refine HC2.out.mono ?_
  rintro e2 w2 ⟨v2,rfl,hq2,hb2⟩
  obtain ⟨o2,ho2⟩:=hq2.form
  subst ho2
  have HX2:Hid (Below W.heap.size W w2):=hide (HX1.out.trans (hb2.mono HX1.out.size))
  have HBw2:Hid (Below w.heap.size w w2):=hide (HBw1.out.trans (hb2.mono HBw1.out.size))
  obtain ⟨s1,s2,s3⟩:=kp_set HOb.out HZ.out HBw2.out (hq2.mono (Nz.trans HBw1.out.size hb2.size)) 1 (.pointer o2)
  obtain ⟨x0,xf,xl⟩:=HOc.out w2 HBw2.out
  have HR:Hid (Kp pl Z w (w2.setCell ⟨ob,1,none⟩ (.pointer o2)) ob (fun x=>#[r,x]) 226 (fun x=>max (d x) (vclk c g tm x))):=hide ⟨⟨_,s1,s2⟩,s3⟩
  have HS2:Hid ((fun X=>X.cell? ⟨w.heap.size+1,0,none⟩=some (.pointer o)∧X.cell? ⟨w.heap.size+1,1,none⟩=some (.int .i32 tm)∧X.cell? ⟨w.heap.size+1,2,none⟩=some (.int .i32 l)∧X.cell? ⟨w.heap.size+1,3,none⟩=some (.int .u16 G)) (w2.setCell ⟨ob,1,none⟩ (.pointer o2))):=hide (by
   have hB:But (fun j=>j=ob) w2 (w2.setCell ⟨ob,1,none⟩ (.pointer o2)):=(But.refl (fun j=>j=ob) w2).setCell ⟨ob,1,none⟩ (fun _=>rfl) _
   obtain ⟨a0,a1,a2,a3⟩:=HSx.out w2 HX2.out
   have hne:¬ w.heap.size+1=ob:=fun e=>by have:=lt_heap HOb.out;omega
   exact ⟨cell_but a0 hB hne,cell_but a1 hB hne,cell_but a2 hB hne,cell_but a3 hB hne⟩)
  clear hq2 hb2 s1 s2 s3
  refine hKK.out _ _ (HSx.out _ HX2.out) (fun hHeld7=>?_)
  clear hKK KK
  refine wpAnyH_take (i:=8) (oi:=_) (v:=?v8_8) rfl (by kernel_rfl) (by kernel_rfl) (by kernel_rfl) (fun _ _ _ h=>h) (Or.inl ⟨by rfl,?y8_8⟩) (by assumption) ?r8_8
  case y8_8=>(intro w' hSw;(try dsimp only at hSw);go_simp;try with_reducible rfl)
  refine wpAnyH_take (i:=9) (oi:=_) (v:=?v9_9) rfl (by kernel_rfl) (by kernel_rfl) (by kernel_rfl) (fun _ _ _ h=>h) (Or.inl ⟨by rfl,?y9_9⟩) (by assumption) ?r9_9
  case y9_9=>(intro w' hSw;(try dsimp only at hSw);go_simp;try with_reducible rfl)
  refine wpAnyH_ready (rs:=[10]) (by kernel_rfl) (by simp) ?_
  refine AllReadyH.cons (o:=_) rfl (fun KK hKK=>?_) AllReadyH.nil
  go_simp
  refine hKK.out _ _ (HS2.out) (fun hHeld10=>?_)
  clear hKK KK
  refine wpAnyH_done (by kernel_rfl) ?_ _
  refine NoPanic.normal ?_
  clear hHeld
  go_wp2
  go_end0
  exact ⟨rfl,HR.out⟩
theorem atomic_gathers (hpl:Rise2 pl) (h17:ek≠17) (hob:w.heap[ob]?=some (.cells #[v] 240 (0,0))) (hZ:¬ Z ob) (h:TQ pl Z w k c) (hd:TQ pl Z w v d) (hv:Vok pl g tm l) :
  Calls Tryz.prog 260 #[.pointer (some ⟨ob,0,none⟩),.agg #[.int .i64 eg,.int .i64 ek,.int .u64 eo,.int .u64 ea,s],.agg #[k,.int .i32 tm,.int .i32 l,.int .u16 (g:Int)]] w fun e w'=>e=.returned (.tuple #[])∧Kp pl Z w w' ob (fun x=>#[x]) 240 (fun x=>max (d x) (vclk c g tm x)):=by
 obtain ⟨o,rfl⟩:=h.form
 obtain ⟨od,rfl⟩:=hd.form
 obtain ⟨W,hW⟩:∃ W,W=(w.alloc (.cells #[.int .i64 eg,.int .i64 ek,.int .u64 eo,.int .u64 ea,s] 35)).alloc (.cells (vC (.pointer o) tm l (g:Int)) 76):=⟨_,rfl⟩
 have hb:Below w.heap.size w W:=by rw [hW];exact below_alloc2 w _ _
 have hE:W.heap[w.heap.size+1]?=some (.cells (vC (.pointer o) tm l (g:Int)) 76 (0,0)):=by rw [hW];exact heap_newS (by simp)
 have hE0:W.heap[w.heap.size]?=some (.cells #[.int .i64 eg,.int .i64 ek,.int .u64 eo,.int .u64 ea,s] 35 (0,0)):=by rw [hW,Below.heap_alloc _ _ _ (by simp)];exact heap_new _ _
 have HSx:Hid (∀ X,Below W.heap.size W X→X.cell? ⟨w.heap.size+1,0,none⟩=some (.pointer o)∧X.cell? ⟨w.heap.size+1,1,none⟩=some (.int .i32 tm)∧X.cell? ⟨w.heap.size+1,2,none⟩=some (.int .i32 l)∧X.cell? ⟨w.heap.size+1,3,none⟩=some (.int .u16 (g:Int))):=hide (fun X hX=>by
  obtain ⟨q0,q1,q2,q3,_⟩:=vc_cells ((hX.block _ (lt_heap hE)).trans hE)
  exact ⟨q0,q1,q2,q3⟩)
 have HE1:=hide hE
 have H1:=hide ((Below.refl W.heap.size W).drew)
 have HC:=hide (clock_any hpl ((h.bel hb).bel H1.out) hv.fg hv.ft hv.fl hv.fp hv.fz)
 have HPl:=hide hpl
 have HD:=hide hd
 have HB:=hide hb
 have HW:=hide hW
 unfold vC at HW
 have HOb:=hide hob
 have HZ:=hide hZ
 have hlt:=lt_heap hob
 have HOc:Hid (∀ X,Below w.heap.size w X→X.cell? ⟨ob,0,none⟩=some (.pointer od)∧X.frozen? ⟨ob,0,none⟩=false∧ob < X.heap.size):=hide (fun X hX=>by
  have h9:=(hX.block ob hlt).trans hob
  exact ⟨cell_at h9 rfl,frz h9 0,lt_heap h9⟩)
 have k0:=cell_at (i:=0) (v:=.int .i64 eg) hE0 rfl
 have k1:=cell_at (i:=1) hE0 rfl
 have k3:=cell_at (i:=3) hE0 rfl
 have kl:=lt_heap hE0
 have kl2:=lt_heap hE
 obtain ⟨y0,yf,yl⟩:=HOc.out W hb
 have HGI:=hide (show (g:Int)=(g:Int) from rfl)
 generalize (g:Int)=G at HSx HC HW HE1 ⊢
 have b17:(ek != 17)=true:=by rw [bne_iff_ne];exact h17
 clear h17
 clear h hd hb hE hE0 hW hv hpl hob hZ hlt HGI
 go_enter Tryz.func260,Tryz.ntmps260
 go_wp2_with fail
 rw [← HW.out]
 clear HW
 refine wp_region_noPanic ?_
 refine wp_region_held_drew (S:=fun X=>X.cell? ⟨w.heap.size+1,0,none⟩=some (.pointer o)∧X.cell? ⟨w.heap.size+1,1,none⟩=some (.int .i32 tm)∧X.cell? ⟨w.heap.size+1,2,none⟩=some (.int .i32 l)∧X.cell? ⟨w.heap.size+1,3,none⟩=some (.int .u16 G)) (by kernel_rfl) (HSx.out _ H1.out) (fun hHeld=>?_)
 refine wpAnyH_take (i:=0) (oi:=_) (v:=?v0_10) rfl (by kernel_rfl) (by kernel_rfl) (by kernel_rfl) (fun _ _ _ h=>h) (Or.inl ⟨by rfl,?y0_10⟩) (by assumption) ?r0_10
 case y0_10=>(intro w' hSw;(try dsimp only at hSw);go_simp;try with_reducible rfl)
 refine wpAnyH_take (i:=1) (oi:=_) (v:=?v1_11) rfl (by kernel_rfl) (by kernel_rfl) (by kernel_rfl) (fun _ _ _ h=>h) (Or.inl ⟨by rfl,?y1_11⟩) (by assumption) ?r1_11
 case y1_11=>(intro w' hSw;(try dsimp only at hSw);go_simp;try with_reducible rfl)
 refine wpAnyH_take (i:=2) (oi:=_) (v:=?v2_12) rfl (by kernel_rfl) (by kernel_rfl) (by kernel_rfl) (fun _ _ _ h=>h) (Or.inl ⟨by rfl,?y2_12⟩) (by assumption) ?r2_12
 case y2_12=>(intro w' hSw;(try dsimp only at hSw);go_simp;try with_reducible rfl)
 refine wpAnyH_take (i:=3) (oi:=_) (v:=?v3_13) rfl (by kernel_rfl) (by kernel_rfl) (by kernel_rfl) (fun _ _ _ h=>h) (Or.inl ⟨by rfl,?y3_13⟩) (by assumption) ?r3_13
 case y3_13=>(intro w' hSw;(try dsimp only at hSw);go_simp;try with_reducible rfl)
 refine wpAnyH_take (i:=5) (oi:=_) (v:=?v5_14) rfl (by kernel_rfl) (by kernel_rfl) (by kernel_rfl) (fun _ _ _ h=>h) (Or.inl ⟨by rfl,?y5_14⟩) (by assumption) ?r5_14
 case y5_14=>(intro w' hSw;(try dsimp only at hSw);go_simp;try with_reducible rfl)
 refine wpAnyH_ready (rs:=[4,6]) (by kernel_rfl) (by simp) ?_
 refine AllReadyH.cons (o:=_) rfl (fun KK hKK=>?_) (AllReadyH.cons (o:=_) rfl (fun KK hKK=>?_) AllReadyH.nil)
 ·go_simp
  refine hKK.out _ _ (HSx.out _ H1.out) (fun hHeld4=>?_)
  clear hKK KK
  refine wpAnyH_ready (rs:=[6]) (by kernel_rfl) (by simp) ?_
  refine AllReadyH.cons (o:=_) rfl (fun KK hKK=>?_) AllReadyH.nil
  go_simp
  refine HC.out.mono ?_
  rintro e1 w1 ⟨v1,rfl,hq1,hb1⟩
  obtain ⟨o1,ho1⟩:=hq1.form
  subst ho1
  have HX1:Hid (Below W.heap.size W w1):=hide (H1.out.trans (hb1.mono H1.out.size))
  have HBw1:Hid (Below w.heap.size w w1):=hide (HB.out.trans (HX1.out.mono HB.out.size))
  have HQ1:Hid (TQ pl (Nz Z w w1) w1 (.pointer o1) (vclk c g tm)):=hide (hq1.mono (Nz.up (show w.heap.size≤W.drew.heap.size from HB.out.size)))
  have HC2:=hide (tjn_any HPl.out ((HD.out.bel HBw1.out).mono (Nz.old (w:=w) (w':=w1))) HQ1.out)
  clear hq1 hb1
  refine hKK.out _ _ (HSx.out _ HX1.out) (fun hHeld6=>?_)
  clear hKK KK
  refine wpAnyH_ready (rs:=[7]) (by kernel_rfl) (by simp) ?_
  refine AllReadyH.cons (o:=_) rfl (fun KK hKK=>?_) AllReadyH.nil
  go_simp
  refine HC2.out.mono ?_
  rintro e2 w2 ⟨v2,rfl,hq2,hb2⟩
  obtain ⟨o2,ho2⟩:=hq2.form
  subst ho2
  have HX2:Hid (Below W.heap.size W w2):=hide (HX1.out.trans (hb2.mono HX1.out.size))
  have HBw2:Hid (Below w.heap.size w w2):=hide (HBw1.out.trans (hb2.mono HBw1.out.size))
  obtain ⟨s1,s2,s3⟩:=kp_set HOb.out HZ.out HBw2.out (hq2.mono (Nz.trans HBw1.out.size hb2.size)) 0 (.pointer o2)
  obtain ⟨x0,xf,xl⟩:=HOc.out w2 HBw2.out
  have HR:Hid (Kp pl Z w (w2.setCell ⟨ob,0,none⟩ (.pointer o2)) ob (fun x=>#[x]) 240 (fun x=>max (d x) (vclk c g tm x))):=hide ⟨⟨_,s1,s2⟩,s3⟩
  have HS2:Hid ((fun X=>X.cell? ⟨w.heap.size+1,0,none⟩=some (.pointer o)∧X.cell? ⟨w.heap.size+1,1,none⟩=some (.int .i32 tm)∧X.cell? ⟨w.heap.size+1,2,none⟩=some (.int .i32 l)∧X.cell? ⟨w.heap.size+1,3,none⟩=some (.int .u16 G)) (w2.setCell ⟨ob,0,none⟩ (.pointer o2))):=hide (by
   have hB:But (fun j=>j=ob) w2 (w2.setCell ⟨ob,0,none⟩ (.pointer o2)):=(But.refl (fun j=>j=ob) w2).setCell ⟨ob,0,none⟩ (fun _=>rfl) _
   obtain ⟨a0,a1,a2,a3⟩:=HSx.out w2 HX2.out
   have hne:¬ w.heap.size+1=ob:=fun e=>by have:=lt_heap HOb.out;omega
   exact ⟨cell_but a0 hB hne,cell_but a1 hB hne,cell_but a2 hB hne,cell_but a3 hB hne⟩)
  clear hq2 hb2 s1 s2 s3
  refine hKK.out _ _ (HSx.out _ HX2.out) (fun hHeld7=>?_)
  clear hKK KK
  refine wpAnyH_take (i:=8) (oi:=_) (v:=?v8_15) rfl (by kernel_rfl) (by kernel_rfl) (by kernel_rfl) (fun _ _ _ h=>h) (Or.inl ⟨by rfl,?y8_15⟩) (by assumption) ?r8_15
  case y8_15=>(intro w' hSw;(try dsimp only at hSw);go_simp;try with_reducible rfl)
  refine wpAnyH_take (i:=9) (oi:=_) (v:=?v9_16) rfl (by kernel_rfl) (by kernel_rfl) (by kernel_rfl) (fun _ _ _ h=>h) (Or.inl ⟨by rfl,?y9_16⟩) (by assumption) ?r9_16
  case y9_16=>(intro w' hSw;(try dsimp only at hSw);go_simp;try with_reducible rfl)
  refine wpAnyH_ready (rs:=[10]) (by kernel_rfl) (by simp) ?_
  refine AllReadyH.cons (o:=_) rfl (fun KK hKK=>?_) AllReadyH.nil
  go_simp
  refine hKK.out _ _ (HS2.out) (fun hHeld10=>?_)
  clear hKK KK
  refine wpAnyH_done (by kernel_rfl) ?_ _
  refine NoPanic.normal ?_
  clear hHeld
  go_wp2
  go_end0
  exact ⟨rfl,HR.out⟩
 ·go_simp
  refine HC.out.mono ?_
  rintro e1 w1 ⟨v1,rfl,hq1,hb1⟩
  obtain ⟨o1,ho1⟩:=hq1.form
  subst ho1
  have HX1:Hid (Below W.heap.size W w1):=hide (H1.out.trans (hb1.mono H1.out.size))
  have HBw1:Hid (Below w.heap.size w w1):=hide (HB.out.trans (HX1.out.mono HB.out.size))
  have HQ1:Hid (TQ pl (Nz Z w w1) w1 (.pointer o1) (vclk c g tm)):=hide (hq1.mono (Nz.up (show w.heap.size≤W.drew.heap.size from HB.out.size)))
  have HC2:=hide (tjn_any HPl.out ((HD.out.bel HBw1.out).mono (Nz.old (w:=w) (w':=w1))) HQ1.out)
  clear hq1 hb1
  refine hKK.out _ _ (HSx.out _ HX1.out) (fun hHeld6=>?_)
  clear hKK KK
  refine wpAnyH_ready (rs:=[4]) (by kernel_rfl) (by simp) ?_
  refine AllReadyH.cons (o:=_) rfl (fun KK hKK=>?_) AllReadyH.nil
  obtain ⟨u0,uf,ul⟩:=HOc.out w1 HBw1.out
  go_simp
  refine hKK.out _ _ (HSx.out _ HX1.out) (fun hHeld4=>?_)
  clear hKK KK
  refine wpAnyH_ready (rs:=[7]) (by kernel_rfl) (by simp) ?_
  refine AllReadyH.cons (o:=_) rfl (fun KK hKK=>?_) AllReadyH.nil
  go_simp
  refine HC2.out.mono ?_
  rintro e2 w2 ⟨v2,rfl,hq2,hb2⟩
  obtain ⟨o2,ho2⟩:=hq2.form
  subst ho2
  have HX2:Hid (Below W.heap.size W w2):=hide (HX1.out.trans (hb2.mono HX1.out.size))
  have HBw2:Hid (Below w.heap.size w w2):=hide (HBw1.out.trans (hb2.mono HBw1.out.size))
  obtain ⟨s1,s2,s3⟩:=kp_set HOb.out HZ.out HBw2.out (hq2.mono (Nz.trans HBw1.out.size hb2.size)) 0 (.pointer o2)
  obtain ⟨x0,xf,xl⟩:=HOc.out w2 HBw2.out
  have HR:Hid (Kp pl Z w (w2.setCell ⟨ob,0,none⟩ (.pointer o2)) ob (fun x=>#[x]) 240 (fun x=>max (d x) (vclk c g tm x))):=hide ⟨⟨_,s1,s2⟩,s3⟩
  have HS2:Hid ((fun X=>X.cell? ⟨w.heap.size+1,0,none⟩=some (.pointer o)∧X.cell? ⟨w.heap.size+1,1,none⟩=some (.int .i32 tm)∧X.cell? ⟨w.heap.size+1,2,none⟩=some (.int .i32 l)∧X.cell? ⟨w.heap.size+1,3,none⟩=some (.int .u16 G)) (w2.setCell ⟨ob,0,none⟩ (.pointer o2))):=hide (by
   have hB:But (fun j=>j=ob) w2 (w2.setCell ⟨ob,0,none⟩ (.pointer o2)):=(But.refl (fun j=>j=ob) w2).setCell ⟨ob,0,none⟩ (fun _=>rfl) _
   obtain ⟨a0,a1,a2,a3⟩:=HSx.out w2 HX2.out
   have hne:¬ w.heap.size+1=ob:=fun e=>by have:=lt_heap HOb.out;omega
   exact ⟨cell_but a0 hB hne,cell_but a1 hB hne,cell_but a2 hB hne,cell_but a3 hB hne⟩)
  clear hq2 hb2 s1 s2 s3
  refine hKK.out _ _ (HSx.out _ HX2.out) (fun hHeld7=>?_)
  clear hKK KK
  refine wpAnyH_take (i:=8) (oi:=_) (v:=?v8_17) rfl (by kernel_rfl) (by kernel_rfl) (by kernel_rfl) (fun _ _ _ h=>h) (Or.inl ⟨by rfl,?y8_17⟩) (by assumption) ?r8_17
  case y8_17=>(intro w' hSw;(try dsimp only at hSw);go_simp;try with_reducible rfl)
  refine wpAnyH_take (i:=9) (oi:=_) (v:=?v9_18) rfl (by kernel_rfl) (by kernel_rfl) (by kernel_rfl) (fun _ _ _ h=>h) (Or.inl ⟨by rfl,?y9_18⟩) (by assumption) ?r9_18
  case y9_18=>(intro w' hSw;(try dsimp only at hSw);go_simp;try with_reducible rfl)
  refine wpAnyH_ready (rs:=[10]) (by kernel_rfl) (by simp) ?_
  refine AllReadyH.cons (o:=_) rfl (fun KK hKK=>?_) AllReadyH.nil
  go_simp
  refine hKK.out _ _ (HS2.out) (fun hHeld10=>?_)
  clear hKK KK
  refine wpAnyH_done (by kernel_rfl) ?_ _
  refine NoPanic.normal ?_
  clear hHeld
  go_wp2
  go_end0
  exact ⟨rfl,HR.out⟩
theorem group_lowers (hpl:Rise2 pl) (a0:0≤ea) (a1:ea≤18446744073709551615) (hm:mzag ea < 0) (hob:w.heap[ob]?=some (.cells #[v] 234 (0,0))) (hZ:¬ Z ob) (h:TQ pl Z w k c) (hd:TQ pl Z w v d) (hv:Vok pl g tm l) :
  Calls Tryz.prog 256 #[.pointer (some ⟨ob,0,none⟩),.agg #[.int .i64 eg,.int .i64 ek,.int .u64 eo,.int .u64 ea,s],.agg #[k,.int .i32 tm,.int .i32 l,.int .u16 (g:Int)]] w fun e w'=>e=.returned (.tuple #[])∧Kp pl Z w w' ob (fun x=>#[x]) 234 (fun x=>max (d x) (vclk c g tm x)):=by
 obtain ⟨o,rfl⟩:=h.form
 obtain ⟨od,rfl⟩:=hd.form
 obtain ⟨W,hW⟩:∃ W,W=(w.alloc (.cells #[.int .i64 eg,.int .i64 ek,.int .u64 eo,.int .u64 ea,s] 35)).alloc (.cells (vC (.pointer o) tm l (g:Int)) 76):=⟨_,rfl⟩
 have hb:Below w.heap.size w W:=by rw [hW];exact below_alloc2 w _ _
 have hE:W.heap[w.heap.size+1]?=some (.cells (vC (.pointer o) tm l (g:Int)) 76 (0,0)):=by rw [hW];exact heap_newS (by simp)
 have hE0:W.heap[w.heap.size]?=some (.cells #[.int .i64 eg,.int .i64 ek,.int .u64 eo,.int .u64 ea,s] 35 (0,0)):=by rw [hW,Below.heap_alloc _ _ _ (by simp)];exact heap_new _ _
 have HSx:Hid (∀ X,Below W.heap.size W X→X.cell? ⟨w.heap.size+1,0,none⟩=some (.pointer o)∧X.cell? ⟨w.heap.size+1,1,none⟩=some (.int .i32 tm)∧X.cell? ⟨w.heap.size+1,2,none⟩=some (.int .i32 l)∧X.cell? ⟨w.heap.size+1,3,none⟩=some (.int .u16 (g:Int))):=hide (fun X hX=>by
  obtain ⟨q0,q1,q2,q3,_⟩:=vc_cells ((hX.block _ (lt_heap hE)).trans hE)
  exact ⟨q0,q1,q2,q3⟩)
 have HE1:=hide hE
 have H1:=hide ((Below.refl W.heap.size W).drew)
 have HC:=hide (clock_any hpl ((h.bel hb).bel H1.out) hv.fg hv.ft hv.fl hv.fp hv.fz)
 have HPl:=hide hpl
 have HD:=hide hd
 have HB:=hide hb
 have HW:=hide hW
 unfold vC at HW
 have HOb:=hide hob
 have HZ:=hide hZ
 have hlt:=lt_heap hob
 have HOc:Hid (∀ X,Below w.heap.size w X→X.cell? ⟨ob,0,none⟩=some (.pointer od)∧X.frozen? ⟨ob,0,none⟩=false∧ob < X.heap.size):=hide (fun X hX=>by
  have h9:=(hX.block ob hlt).trans hob
  exact ⟨cell_at h9 rfl,frz h9 0,lt_heap h9⟩)
 have k0:=cell_at (i:=0) (v:=.int .i64 eg) hE0 rfl
 have k1:=cell_at (i:=1) hE0 rfl
 have k3:=cell_at (i:=3) hE0 rfl
 have kl:=lt_heap hE0
 have kl2:=lt_heap hE
 obtain ⟨y0,yf,yl⟩:=HOc.out W hb
 have HGI:=hide (show (g:Int)=(g:Int) from rfl)
 generalize (g:Int)=G at HSx HC HW HE1 ⊢
 have HZg:=hide (fun X=>zag_any ea X a0 a1)
 generalize mzag ea=M at hm HZg
 clear a0 a1
 clear h hd hb hE hE0 hW hv hpl hob hZ hlt HGI
 go_enter Tryz.func256,Tryz.ntmps256
 go_wp2_with fail
 rw [← HW.out]
 clear HW
 refine (HZg.out W).mono ?_
 rintro e0 w0 ⟨rfl,hw0⟩
 obtain rfl:W=w0:=hw0.symm
 clear HZg hw0
 go_wp2_with fail
 refine wp_region_noPanic ?_
 refine wp_region_held_drew (S:=fun X=>X.cell? ⟨w.heap.size+1,0,none⟩=some (.pointer o)∧X.cell? ⟨w.heap.size+1,1,none⟩=some (.int .i32 tm)∧X.cell? ⟨w.heap.size+1,2,none⟩=some (.int .i32 l)∧X.cell? ⟨w.heap.size+1,3,none⟩=some (.int .u16 G)) (by kernel_rfl) (HSx.out _ H1.out) (fun hHeld=>?_)
 refine wpAnyH_take (i:=0) (oi:=_) (v:=?v0_19) rfl (by kernel_rfl) (by kernel_rfl) (by kernel_rfl) (fun _ _ _ h=>h) (Or.inl ⟨by rfl,?y0_19⟩) (by assumption) ?r0_19
 case y0_19=>(intro w' hSw;(try dsimp only at hSw);go_simp;try with_reducible rfl)
 refine wpAnyH_take (i:=1) (oi:=_) (v:=?v1_20) rfl (by kernel_rfl) (by kernel_rfl) (by kernel_rfl) (fun _ _ _ h=>h) (Or.inl ⟨by rfl,?y1_20⟩) (by assumption) ?r1_20
 case y1_20=>(intro w' hSw;(try dsimp only at hSw);go_simp;try with_reducible rfl)
 refine wpAnyH_take (i:=2) (oi:=_) (v:=?v2_21) rfl (by kernel_rfl) (by kernel_rfl) (by kernel_rfl) (fun _ _ _ h=>h) (Or.inl ⟨by rfl,?y2_21⟩) (by assumption) ?r2_21
 case y2_21=>(intro w' hSw;(try dsimp only at hSw);go_simp;try with_reducible rfl)
 refine wpAnyH_take (i:=3) (oi:=_) (v:=?v3_22) rfl (by kernel_rfl) (by kernel_rfl) (by kernel_rfl) (fun _ _ _ h=>h) (Or.inl ⟨by rfl,?y3_22⟩) (by assumption) ?r3_22
 case y3_22=>(intro w' hSw;(try dsimp only at hSw);go_simp;try with_reducible rfl)
 refine wpAnyH_take (i:=5) (oi:=_) (v:=?v5_23) rfl (by kernel_rfl) (by kernel_rfl) (by kernel_rfl) (fun _ _ _ h=>h) (Or.inl ⟨by rfl,?y5_23⟩) (by assumption) ?r5_23
 case y5_23=>(intro w' hSw;(try dsimp only at hSw);go_simp;try with_reducible rfl)
 refine wpAnyH_ready (rs:=[4,6]) (by kernel_rfl) (by simp) ?_
 refine AllReadyH.cons (o:=_) rfl (fun KK hKK=>?_) (AllReadyH.cons (o:=_) rfl (fun KK hKK=>?_) AllReadyH.nil)
 ·go_simp
  refine hKK.out _ _ (HSx.out _ H1.out) (fun hHeld4=>?_)
  clear hKK KK
  refine wpAnyH_ready (rs:=[6]) (by kernel_rfl) (by simp) ?_
  refine AllReadyH.cons (o:=_) rfl (fun KK hKK=>?_) AllReadyH.nil
  go_simp
  refine HC.out.mono ?_
  rintro e1 w1 ⟨v1,rfl,hq1,hb1⟩
  obtain ⟨o1,ho1⟩:=hq1.form
  subst ho1
  have HX1:Hid (Below W.heap.size W w1):=hide (H1.out.trans (hb1.mono H1.out.size))
  have HBw1:Hid (Below w.heap.size w w1):=hide (HB.out.trans (HX1.out.mono HB.out.size))
  have HQ1:Hid (TQ pl (Nz Z w w1) w1 (.pointer o1) (vclk c g tm)):=hide (hq1.mono (Nz.up (show w.heap.size≤W.drew.heap.size from HB.out.size)))
  have HC2:=hide (tjn_any HPl.out ((HD.out.bel HBw1.out).mono (Nz.old (w:=w) (w':=w1))) HQ1.out)
  clear hq1 hb1
  refine hKK.out _ _ (HSx.out _ HX1.out) (fun hHeld6=>?_)
  clear hKK KK
  refine wpAnyH_ready (rs:=[7]) (by kernel_rfl) (by simp) ?_
  refine AllReadyH.cons (o:=_) rfl (fun KK hKK=>?_) AllReadyH.nil
  go_simp
  refine HC2.out.mono ?_
  rintro e2 w2 ⟨v2,rfl,hq2,hb2⟩
  obtain ⟨o2,ho2⟩:=hq2.form
  subst ho2
  have HX2:Hid (Below W.heap.size W w2):=hide (HX1.out.trans (hb2.mono HX1.out.size))
  have HBw2:Hid (Below w.heap.size w w2):=hide (HBw1.out.trans (hb2.mono HBw1.out.size))
  obtain ⟨s1,s2,s3⟩:=kp_set HOb.out HZ.out HBw2.out (hq2.mono (Nz.trans HBw1.out.size hb2.size)) 0 (.pointer o2)
  obtain ⟨x0,xf,xl⟩:=HOc.out w2 HBw2.out
  have HR:Hid (Kp pl Z w (w2.setCell ⟨ob,0,none⟩ (.pointer o2)) ob (fun x=>#[x]) 234 (fun x=>max (d x) (vclk c g tm x))):=hide ⟨⟨_,s1,s2⟩,s3⟩
  have HS2:Hid ((fun X=>X.cell? ⟨w.heap.size+1,0,none⟩=some (.pointer o)∧X.cell? ⟨w.heap.size+1,1,none⟩=some (.int .i32 tm)∧X.cell? ⟨w.heap.size+1,2,none⟩=some (.int .i32 l)∧X.cell? ⟨w.heap.size+1,3,none⟩=some (.int .u16 G)) (w2.setCell ⟨ob,0,none⟩ (.pointer o2))):=hide (by
   have hB:But (fun j=>j=ob) w2 (w2.setCell ⟨ob,0,none⟩ (.pointer o2)):=(But.refl (fun j=>j=ob) w2).setCell ⟨ob,0,none⟩ (fun _=>rfl) _
   obtain ⟨a0,a1,a2,a3⟩:=HSx.out w2 HX2.out
   have hne:¬ w.heap.size+1=ob:=fun e=>by have:=lt_heap HOb.out;omega
   exact ⟨cell_but a0 hB hne,cell_but a1 hB hne,cell_but a2 hB hne,cell_but a3 hB hne⟩)
  clear hq2 hb2 s1 s2 s3
  refine hKK.out _ _ (HSx.out _ HX2.out) (fun hHeld7=>?_)
  clear hKK KK
  refine wpAnyH_take (i:=8) (oi:=_) (v:=?v8_24) rfl (by kernel_rfl) (by kernel_rfl) (by kernel_rfl) (fun _ _ _ h=>h) (Or.inl ⟨by rfl,?y8_24⟩) (by assumption) ?r8_24
  case y8_24=>(intro w' hSw;(try dsimp only at hSw);go_simp;try with_reducible rfl)
  refine wpAnyH_take (i:=9) (oi:=_) (v:=?v9_25) rfl (by kernel_rfl) (by kernel_rfl) (by kernel_rfl) (fun _ _ _ h=>h) (Or.inl ⟨by rfl,?y9_25⟩) (by assumption) ?r9_25
  case y9_25=>(intro w' hSw;(try dsimp only at hSw);go_simp;try with_reducible rfl)
  refine wpAnyH_ready (rs:=[10]) (by kernel_rfl) (by simp) ?_
  refine AllReadyH.cons (o:=_) rfl (fun KK hKK=>?_) AllReadyH.nil
  go_simp
  refine hKK.out _ _ (HS2.out) (fun hHeld10=>?_)
  clear hKK KK
  refine wpAnyH_done (by kernel_rfl) ?_ _
  refine NoPanic.normal ?_
  clear hHeld
  go_wp2
  go_end0
  exact ⟨rfl,HR.out⟩
 ·go_simp
  refine HC.out.mono ?_
  rintro e1 w1 ⟨v1,rfl,hq1,hb1⟩
  obtain ⟨o1,ho1⟩:=hq1.form
  subst ho1
  have HX1:Hid (Below W.heap.size W w1):=hide (H1.out.trans (hb1.mono H1.out.size))
  have HBw1:Hid (Below w.heap.size w w1):=hide (HB.out.trans (HX1.out.mono HB.out.size))
  have HQ1:Hid (TQ pl (Nz Z w w1) w1 (.pointer o1) (vclk c g tm)):=hide (hq1.mono (Nz.up (show w.heap.size≤W.drew.heap.size from HB.out.size)))
  have HC2:=hide (tjn_any HPl.out ((HD.out.bel HBw1.out).mono (Nz.old (w:=w) (w':=w1))) HQ1.out)
  clear hq1 hb1
  refine hKK.out _ _ (HSx.out _ HX1.out) (fun hHeld6=>?_)
  clear hKK KK
  refine wpAnyH_ready (rs:=[4]) (by kernel_rfl) (by simp) ?_
  refine AllReadyH.cons (o:=_) rfl (fun KK hKK=>?_) AllReadyH.nil
  obtain ⟨u0,uf,ul⟩:=HOc.out w1 HBw1.out
  go_simp
  refine hKK.out _ _ (HSx.out _ HX1.out) (fun hHeld4=>?_)
  clear hKK KK
  refine wpAnyH_ready (rs:=[7]) (by kernel_rfl) (by simp) ?_
  refine AllReadyH.cons (o:=_) rfl (fun KK hKK=>?_) AllReadyH.nil
  go_simp
  refine HC2.out.mono ?_
  rintro e2 w2 ⟨v2,rfl,hq2,hb2⟩
  obtain ⟨o2,ho2⟩:=hq2.form
  subst ho2
  have HX2:Hid (Below W.heap.size W w2):=hide (HX1.out.trans (hb2.mono HX1.out.size))
  have HBw2:Hid (Below w.heap.size w w2):=hide (HBw1.out.trans (hb2.mono HBw1.out.size))
  obtain ⟨s1,s2,s3⟩:=kp_set HOb.out HZ.out HBw2.out (hq2.mono (Nz.trans HBw1.out.size hb2.size)) 0 (.pointer o2)
  obtain ⟨x0,xf,xl⟩:=HOc.out w2 HBw2.out
  have HR:Hid (Kp pl Z w (w2.setCell ⟨ob,0,none⟩ (.pointer o2)) ob (fun x=>#[x]) 234 (fun x=>max (d x) (vclk c g tm x))):=hide ⟨⟨_,s1,s2⟩,s3⟩
  have HS2:Hid ((fun X=>X.cell? ⟨w.heap.size+1,0,none⟩=some (.pointer o)∧X.cell? ⟨w.heap.size+1,1,none⟩=some (.int .i32 tm)∧X.cell? ⟨w.heap.size+1,2,none⟩=some (.int .i32 l)∧X.cell? ⟨w.heap.size+1,3,none⟩=some (.int .u16 G)) (w2.setCell ⟨ob,0,none⟩ (.pointer o2))):=hide (by
   have hB:But (fun j=>j=ob) w2 (w2.setCell ⟨ob,0,none⟩ (.pointer o2)):=(But.refl (fun j=>j=ob) w2).setCell ⟨ob,0,none⟩ (fun _=>rfl) _
   obtain ⟨a0,a1,a2,a3⟩:=HSx.out w2 HX2.out
   have hne:¬ w.heap.size+1=ob:=fun e=>by have:=lt_heap HOb.out;omega
   exact ⟨cell_but a0 hB hne,cell_but a1 hB hne,cell_but a2 hB hne,cell_but a3 hB hne⟩)
  clear hq2 hb2 s1 s2 s3
  refine hKK.out _ _ (HSx.out _ HX2.out) (fun hHeld7=>?_)
  clear hKK KK
  refine wpAnyH_take (i:=8) (oi:=_) (v:=?v8_26) rfl (by kernel_rfl) (by kernel_rfl) (by kernel_rfl) (fun _ _ _ h=>h) (Or.inl ⟨by rfl,?y8_26⟩) (by assumption) ?r8_26
  case y8_26=>(intro w' hSw;(try dsimp only at hSw);go_simp;try with_reducible rfl)
  refine wpAnyH_take (i:=9) (oi:=_) (v:=?v9_27) rfl (by kernel_rfl) (by kernel_rfl) (by kernel_rfl) (fun _ _ _ h=>h) (Or.inl ⟨by rfl,?y9_27⟩) (by assumption) ?r9_27
  case y9_27=>(intro w' hSw;(try dsimp only at hSw);go_simp;try with_reducible rfl)
  refine wpAnyH_ready (rs:=[10]) (by kernel_rfl) (by simp) ?_
  refine AllReadyH.cons (o:=_) rfl (fun KK hKK=>?_) AllReadyH.nil
  go_simp
  refine hKK.out _ _ (HS2.out) (fun hHeld10=>?_)
  clear hKK KK
  refine wpAnyH_done (by kernel_rfl) ?_ _
  refine NoPanic.normal ?_
  clear hHeld
  go_wp2
  go_end0
  exact ⟨rfl,HR.out⟩
theorem group_still (a0:0≤ea) (a1:ea≤18446744073709551615) (hm:¬ mzag ea < 0) :
  Calls Tryz.prog 256 #[.pointer (some ⟨ob,0,none⟩),.agg #[.int .i64 eg,.int .i64 ek,.int .u64 eo,.int .u64 ea,s],.agg #[k,.int .i32 tm,.int .i32 l,.int .u16 (g:Int)]] w fun e w'=>e=.returned (.tuple #[])∧Below w.heap.size w w':=by
 obtain ⟨W,hW⟩:∃ W,W=(w.alloc (.cells #[.int .i64 eg,.int .i64 ek,.int .u64 eo,.int .u64 ea,s] 35)).alloc (.cells #[k,.int .i32 tm,.int .i32 l,.int .u16 (g:Int)] 76):=⟨_,rfl⟩
 have HB:Hid (Below w.heap.size w W):=hide (by rw [hW];exact below_alloc2 w _ _)
 have HW:=hide hW
 have HZg:=hide (fun X=>zag_any ea X a0 a1)
 generalize mzag ea=M at hm HZg
 clear a0 a1 hW
 go_enter Tryz.func256,Tryz.ntmps256
 go_wp2_with fail
 rw [← HW.out]
 clear HW
 refine (HZg.out W).mono ?_
 rintro e0 w0 ⟨rfl,hw0⟩
 obtain rfl:W=w0:=hw0.symm
 clear HZg hw0
 go_wp2
 go_end0
 exact ⟨rfl,HB.out⟩
end
end Go.Proofs.YtimgkhdgliojgaaGreatDoor
