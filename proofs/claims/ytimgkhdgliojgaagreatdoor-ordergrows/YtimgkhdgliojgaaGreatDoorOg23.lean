import Derived.Test.YtimgkhdgliojgaaGreatDoorOg22
set_option maxRecDepth 8000
set_option maxHeartbeats 8000000
set_option linter.unusedVariables false
namespace Go.Proofs.YtimgkhdgliojgaaGreatDoor
open Go.RowKit Go.Maps
structure Kr (pl:Nat→Int→Int) (Z:Nat→Prop) (w w':World) (ob m n:Nat) (fr:Int) (sv x2 x4:Value) (fm:Int) (q:Int→Option Value) (f:Nat→Int):Prop where
 ex:w'.heap[ob]?=some (.cells #[.int .u64 fr,sv,x2,.map (some m),x4] 231 (0,0))∧∃ u,HM w' 74 .u16 m (n+1) (.pointer none) (setF q fm (some u))∧TQ pl (Nz Z w w') w' u f
 bt:But (fun j=>j=ob∨j=m) w w'
section
variable {pl : Nat → Int → Int} {Z : Nat → Prop} {w W w1 : World} {ob n m g : Nat} {k sv x2 x3 x4 : Value} {fr tm l fm : Int} {c f : Nat → Int} {q : Int → Option Value} {cs : Array Value} {o1 : Option Addr} {eg ek eo : Int} {s : Value}
theorem kr_end (hob:w.heap[ob]?=some (.cells cs 231 (0,0))) (hW:But (fun j=>j=ob) w W) (hWo:W.heap[ob]?=some (.cells #[.int .u64 fr,sv,x2,.map (some m),x4] 231 (0,0))) (h1:Below W.heap.size W w1) (hq:TQ pl (Nz Z w w1) w1 (.pointer o1) f) (hm:HM w 74 .u16 m n (.pointer none) q) (hml:m < w.heap.size) (hmo:m≠ob) (hZ:¬ Z ob) (hZm:¬ Z m) (h0:0≤fm) (hf:fm≤65535) (hn:n < 1048577) :
  ∃ w2,(Instr.mapUpdate 229 (.map (some m)) (.int .u16 fm) (.pointer o1)).run Tryz.prog w1=.ok () w2∧But (fun k=>k=m) w1 w2∧w2.cell? ⟨ob,3,none⟩=some (.map (some m))∧Kr pl Z w w2 ob m n fr sv x2 x4 fm q f:=by
 have hlt:=lt_heap hob
 have hb1:But (fun j=>j=ob) w w1:=hW.on h1
 have hm1:=hm.but hb1 (fun e=>hmo e)
 obtain ⟨w2,r1,r2,r3⟩:=hm1.put law16 Tryz.underlying229 (by unfold maxLen;omega) (key16 h0 hf) (.pointer o1)
 have hl1:=Nat.lt_of_lt_of_le hlt hb1.size
 have ho1:w1.heap[ob]?=some (.cells #[.int .u64 fr,sv,x2,.map (some m),x4] 231 (0,0)):=(h1.block ob (lt_heap hWo)).trans hWo
 have ho2:w2.heap[ob]?=some (.cells #[.int .u64 fr,sv,x2,.map (some m),x4] 231 (0,0)):=(r3.block ob hl1 (fun e=>hmo e.symm)).trans ho1
 refine ⟨w2,r1,r3,cell_at ho2 rfl,⟨ho2,.pointer o1,r2,(hq.but r3 (fun k hk e=>?_)).mono (Nz.on r3.size)⟩,(hb1.mono (fun k e=>.inl e)).trans r3 (fun _ _ e=>.inr e)⟩
 have e9:k=m:=e
 rcases hk with hk|hk
 ·exact hZm (e9 ▸ hk)
 ·omega
theorem recv_unb (hpl:Rise2 pl) {qb qo en ec:Nat} (he1:1≤en) (he2:en≤ec) (he3:¬ ec=1) (hm:HM w 74 .u16 m n (.pointer none) q) (hml:m < w.heap.size) (hmo:m≠ob) (hZm:¬ Z m) (h0:0≤fm) (hf:fm≤65535) (hn:n < 1048577) (hob:w.heap[ob]?=some (.cells #[.int .u64 fr,.slice (some ⟨qb,qo,none⟩) en ec,x2,.map (some m),x4] 231 (0,0))) (hZ:¬ Z ob) (h:TQ pl Z w k c) (hv:Vok pl g tm l) (hfm:w.cell? ⟨qb,qo,none⟩=some (.int .u16 fm)) :
  Calls Tryz.prog 254 #[.pointer (some ⟨ob,0,none⟩),.agg #[.int .i64 eg,.int .i64 ek,.int .u64 eo,.int .u64 1,s],.agg #[k,.int .i32 tm,.int .i32 l,.int .u16 (g:Int)]] w fun e w'=>e=.returned (.tuple #[])∧Kr pl Z w w' ob m n fr (.slice (some ⟨qb,qo+2,none⟩) (en - 1) (ec - 1)) x2 x4 fm q (vclk c g tm):=by
 obtain ⟨o,rfl⟩:=h.form
 obtain ⟨s1,s2⟩:=but_set hob (But.refl _ w) hob 1 (.slice (some ⟨qb,qo+2,none⟩) (en - 1) (ec - 1))
 obtain ⟨W,hW⟩:∃ W,W=((w.setCell ⟨ob,1,none⟩ (.slice (some ⟨qb,qo+2,none⟩) (en - 1) (ec - 1))).alloc (.cells #[.int .i64 eg,.int .i64 ek,.int .u64 eo,.int .u64 1,s] 35)).alloc (.cells (vC (.pointer o) tm l (g:Int)) 76):=⟨_,rfl⟩
 have hb:Below (w.setCell ⟨ob,1,none⟩ (.slice (some ⟨qb,qo+2,none⟩) (en - 1) (ec - 1))).heap.size (w.setCell ⟨ob,1,none⟩ (.slice (some ⟨qb,qo+2,none⟩) (en - 1) (ec - 1))) W:=by rw [hW];exact below_alloc2 _ _ _
 have hBt:But (fun j=>j=ob) w W:=s2.on hb
 have hWo:=(hb.block ob (lt_heap s1)).trans s1
 have hWo:W.heap[ob]?=some (.cells #[.int .u64 fr,.slice (some ⟨qb,qo+2,none⟩) (en - 1) (ec - 1),x2,.map (some m),x4] 231 (0,0)):=hWo
 have hlt:=lt_heap hob
 have hE:W.heap[w.heap.size+1]?=some (.cells (vC (.pointer o) tm l (g:Int)) 76 (0,0)):=by rw [hW];exact heap_newS (by simp [World.setCell,World.alloc])
 have HW:=hide hW
 unfold vC at HW
 have i1:=cell_at (i:=1) hob rfl
 have if1:w.frozen? ⟨ob,1,none⟩=false:=frz hob 1
 have qq:=hfm
 have ql:=World.block_lt_of_cell? w _ qq
 have il:=lt_heap hob
 have H1:=hide ((Below.refl W.heap.size W).drew)
 have HU:=hide (ch_unb hWo)
 have HSx:Hid (∀ X,Below W.heap.size W X→X.cell? ⟨ob,3,none⟩=some (.map (some m))∧X.cell? ⟨w.heap.size+1,0,none⟩=some (.pointer o)∧X.cell? ⟨w.heap.size+1,1,none⟩=some (.int .i32 tm)∧X.cell? ⟨w.heap.size+1,2,none⟩=some (.int .i32 l)∧X.cell? ⟨w.heap.size+1,3,none⟩=some (.int .u16 (g:Int))):=hide (fun X hX=>by
  obtain ⟨q0,q1,q2,q3,_⟩:=vc_cells ((hX.block _ (lt_heap hE)).trans hE)
  exact ⟨cell_at ((hX.block _ (lt_heap hWo)).trans hWo) rfl,q0,q1,q2,q3⟩)
 have hTW:TQ pl Z W (.pointer o) c:=h.but hBt (fun k hk e=>by have e9:k=ob:=e;exact hZ (e9 ▸ hk))
 have HC:=hide (clock_any hpl (hTW.bel H1.out) hv.fg hv.ft hv.fl hv.fp hv.fz)
 have HEnd:Hid (∀ w1 o1,Below W.heap.size W w1→TQ pl (Nz Z w w1) w1 (.pointer o1) (vclk c g tm)→_):=hide (fun w1 o1 a1 a2=>kr_end hob hBt hWo a1 a2 hm hml hmo hZ hZm h0 hf hn)
 have HSz:=hide hBt.size
 have HLt:Hid (¬ w.heap.size+1=m):=hide (fun e=>by omega)
 have kl2:=lt_heap hE
 generalize (g:Int)=G at HSx HC HW ⊢
 clear h hE hW hv hpl hob hZ hm hml hmo hZm h0 hf hn hTW hBt hWo hb s1 s2 hlt hfm
 go_enter Tryz.func254,Tryz.ntmps254
 go_wp2_with fail
 rw [← HW.out]
 clear HW
 refine HU.out.mono ?_
 rintro e0 w0 ⟨rfl,hw0⟩
 obtain rfl:W=w0:=hw0.symm
 clear HU hw0
 go_wp2_with fail
 refine wp_region_noPanic ?_
 refine wp_region_held_drew (S:=fun X=>X.cell? ⟨ob,3,none⟩=some (.map (some m))∧X.cell? ⟨w.heap.size+1,0,none⟩=some (.pointer o)∧X.cell? ⟨w.heap.size+1,1,none⟩=some (.int .i32 tm)∧X.cell? ⟨w.heap.size+1,2,none⟩=some (.int .i32 l)∧X.cell? ⟨w.heap.size+1,3,none⟩=some (.int .u16 G)) (by kernel_rfl) (HSx.out _ H1.out) (fun hHeld=>?_)
 refine wpAnyH_take (i:=0) (oi:=_) (v:=?v0_1) rfl (by kernel_rfl) (by kernel_rfl) (by kernel_rfl) (fun _ _ _ h=>h) (Or.inl ⟨by rfl,?y0_1⟩) (by assumption) ?r0_1
 case y0_1=>(intro w' hSw;(try dsimp only at hSw);go_simp;try with_reducible rfl)
 refine wpAnyH_take (i:=1) (oi:=_) (v:=?v1_2) rfl (by kernel_rfl) (by kernel_rfl) (by kernel_rfl) (fun _ _ _ h=>h) (Or.inl ⟨by rfl,?y1_2⟩) (by assumption) ?r1_2
 case y1_2=>(intro w' hSw;(try dsimp only at hSw);go_simp;try with_reducible rfl)
 refine wpAnyH_take (i:=2) (oi:=_) (v:=?v2_3) rfl (by kernel_rfl) (by kernel_rfl) (by kernel_rfl) (fun _ _ _ h=>h) (Or.inl ⟨by rfl,?y2_3⟩) (by assumption) ?r2_3
 case y2_3=>(intro w' hSw;(try dsimp only at hSw);go_simp;try with_reducible rfl)
 refine wpAnyH_take (i:=3) (oi:=_) (v:=?v3_4) rfl (by kernel_rfl) (by kernel_rfl) (by kernel_rfl) (fun _ _ _ h=>h) (Or.inl ⟨by rfl,?y3_4⟩) (by assumption) ?r3_4
 case y3_4=>(intro w' hSw;(try dsimp only at hSw);go_simp;try with_reducible rfl)
 refine wpAnyH_take (i:=4) (oi:=_) (v:=?v4_5) rfl (by kernel_rfl) (by kernel_rfl) (by kernel_rfl) (fun _ _ _ h=>h) (Or.inl ⟨by rfl,?y4_5⟩) (by assumption) ?r4_5
 case y4_5=>(intro w' hSw;(try dsimp only at hSw);go_simp;try with_reducible rfl)
 refine wpAnyH_take (i:=5) (oi:=_) (v:=?v5_6) rfl (by kernel_rfl) (by kernel_rfl) (by kernel_rfl) (fun _ _ _ h=>h) (Or.inl ⟨by rfl,?y5_6⟩) (by assumption) ?r5_6
 case y5_6=>(intro w' hSw;(try dsimp only at hSw);go_simp;try with_reducible rfl)
 refine wpAnyH_ready (rs:=[6]) (by kernel_rfl) (by simp) ?_
 refine AllReadyH.cons (o:=_) rfl (fun KK hKK=>?_) AllReadyH.nil
 go_simp
 refine HC.out.mono ?_
 rintro e1 w1 ⟨v1,rfl,hq1,hb1⟩
 obtain ⟨o1,ho1⟩:=hq1.form
 subst ho1
 have HX1:Hid (Below W.heap.size W w1):=hide (H1.out.trans (hb1.mono H1.out.size))
 obtain ⟨w2,E1,hB,z1,hKr⟩:=HEnd.out w1 o1 HX1.out (hq1.mono (Nz.up (show w.heap.size≤W.drew.heap.size from HSz.out)))
 have HKr:=hide hKr
 have HS2:Hid ((fun X=>X.cell? ⟨ob,3,none⟩=some (.map (some m))∧X.cell? ⟨w.heap.size+1,0,none⟩=some (.pointer o)∧X.cell? ⟨w.heap.size+1,1,none⟩=some (.int .i32 tm)∧X.cell? ⟨w.heap.size+1,2,none⟩=some (.int .i32 l)∧X.cell? ⟨w.heap.size+1,3,none⟩=some (.int .u16 G)) w2):=hide (by
  obtain ⟨_,a0,a1,a2,a3⟩:=HSx.out w1 HX1.out
  exact ⟨z1,cell_but a0 hB HLt.out,cell_but a1 hB HLt.out,cell_but a2 hB HLt.out,cell_but a3 hB HLt.out⟩)
 clear hq1 hb1 hB hKr
 refine hKK.out _ _ (HSx.out _ HX1.out) (fun hHeld6=>?_)
 clear hKK KK
 refine wpAnyH_ready (rs:=[7]) (by kernel_rfl) (by simp) ?_
 refine AllReadyH.cons (o:=_) rfl (fun KK hKK=>?_) AllReadyH.nil
 go_simp
 refine hKK.out _ _ (HS2.out) (fun hHeld7=>?_)
 clear hKK KK
 refine wpAnyH_done (by kernel_rfl) ?_ _
 refine NoPanic.normal ?_
 clear hHeld
 go_wp2
 go_end0
 exact ⟨rfl,HKr.out⟩
theorem recv_unb1 (hpl:Rise2 pl) {qb qo:Nat} (hm:HM w 74 .u16 m n (.pointer none) q) (hml:m < w.heap.size) (hmo:m≠ob) (hZm:¬ Z m) (h0:0≤fm) (hf:fm≤65535) (hn:n < 1048577) (hob:w.heap[ob]?=some (.cells #[.int .u64 fr,.slice (some ⟨qb,qo,none⟩) 1 1,x2,.map (some m),x4] 231 (0,0))) (hZ:¬ Z ob) (h:TQ pl Z w k c) (hv:Vok pl g tm l) (hfm:w.cell? ⟨qb,qo,none⟩=some (.int .u16 fm)) :
  Calls Tryz.prog 254 #[.pointer (some ⟨ob,0,none⟩),.agg #[.int .i64 eg,.int .i64 ek,.int .u64 eo,.int .u64 1,s],.agg #[k,.int .i32 tm,.int .i32 l,.int .u16 (g:Int)]] w fun e w'=>e=.returned (.tuple #[])∧Kr pl Z w w' ob m n fr (.slice (some ⟨qb,qo,none⟩) 0 0) x2 x4 fm q (vclk c g tm):=by
 obtain ⟨o,rfl⟩:=h.form
 obtain ⟨s1,s2⟩:=but_set hob (But.refl _ w) hob 1 (.slice (some ⟨qb,qo,none⟩) 0 0)
 obtain ⟨W,hW⟩:∃ W,W=((w.setCell ⟨ob,1,none⟩ (.slice (some ⟨qb,qo,none⟩) 0 0)).alloc (.cells #[.int .i64 eg,.int .i64 ek,.int .u64 eo,.int .u64 1,s] 35)).alloc (.cells (vC (.pointer o) tm l (g:Int)) 76):=⟨_,rfl⟩
 have hb:Below (w.setCell ⟨ob,1,none⟩ (.slice (some ⟨qb,qo,none⟩) 0 0)).heap.size (w.setCell ⟨ob,1,none⟩ (.slice (some ⟨qb,qo,none⟩) 0 0)) W:=by rw [hW];exact below_alloc2 _ _ _
 have hBt:But (fun j=>j=ob) w W:=s2.on hb
 have hWo:=(hb.block ob (lt_heap s1)).trans s1
 have hWo:W.heap[ob]?=some (.cells #[.int .u64 fr,.slice (some ⟨qb,qo,none⟩) 0 0,x2,.map (some m),x4] 231 (0,0)):=hWo
 have hlt:=lt_heap hob
 have hE:W.heap[w.heap.size+1]?=some (.cells (vC (.pointer o) tm l (g:Int)) 76 (0,0)):=by rw [hW];exact heap_newS (by simp [World.setCell,World.alloc])
 have HW:=hide hW
 unfold vC at HW
 have i1:=cell_at (i:=1) hob rfl
 have if1:w.frozen? ⟨ob,1,none⟩=false:=frz hob 1
 have qq:=hfm
 have ql:=World.block_lt_of_cell? w _ qq
 have il:=lt_heap hob
 have H1:=hide ((Below.refl W.heap.size W).drew)
 have HU:=hide (ch_unb hWo)
 have HSx:Hid (∀ X,Below W.heap.size W X→X.cell? ⟨ob,3,none⟩=some (.map (some m))∧X.cell? ⟨w.heap.size+1,0,none⟩=some (.pointer o)∧X.cell? ⟨w.heap.size+1,1,none⟩=some (.int .i32 tm)∧X.cell? ⟨w.heap.size+1,2,none⟩=some (.int .i32 l)∧X.cell? ⟨w.heap.size+1,3,none⟩=some (.int .u16 (g:Int))):=hide (fun X hX=>by
  obtain ⟨q0,q1,q2,q3,_⟩:=vc_cells ((hX.block _ (lt_heap hE)).trans hE)
  exact ⟨cell_at ((hX.block _ (lt_heap hWo)).trans hWo) rfl,q0,q1,q2,q3⟩)
 have hTW:TQ pl Z W (.pointer o) c:=h.but hBt (fun k hk e=>by have e9:k=ob:=e;exact hZ (e9 ▸ hk))
 have HC:=hide (clock_any hpl (hTW.bel H1.out) hv.fg hv.ft hv.fl hv.fp hv.fz)
 have HEnd:Hid (∀ w1 o1,Below W.heap.size W w1→TQ pl (Nz Z w w1) w1 (.pointer o1) (vclk c g tm)→_):=hide (fun w1 o1 a1 a2=>kr_end hob hBt hWo a1 a2 hm hml hmo hZ hZm h0 hf hn)
 have HSz:=hide hBt.size
 have HLt:Hid (¬ w.heap.size+1=m):=hide (fun e=>by omega)
 have kl2:=lt_heap hE
 generalize (g:Int)=G at HSx HC HW ⊢
 clear h hE hW hv hpl hob hZ hm hml hmo hZm h0 hf hn hTW hBt hWo hb s1 s2 hlt hfm
 go_enter Tryz.func254,Tryz.ntmps254
 go_wp2_with fail
 rw [← HW.out]
 clear HW
 refine HU.out.mono ?_
 rintro e0 w0 ⟨rfl,hw0⟩
 obtain rfl:W=w0:=hw0.symm
 clear HU hw0
 go_wp2_with fail
 refine wp_region_noPanic ?_
 refine wp_region_held_drew (S:=fun X=>X.cell? ⟨ob,3,none⟩=some (.map (some m))∧X.cell? ⟨w.heap.size+1,0,none⟩=some (.pointer o)∧X.cell? ⟨w.heap.size+1,1,none⟩=some (.int .i32 tm)∧X.cell? ⟨w.heap.size+1,2,none⟩=some (.int .i32 l)∧X.cell? ⟨w.heap.size+1,3,none⟩=some (.int .u16 G)) (by kernel_rfl) (HSx.out _ H1.out) (fun hHeld=>?_)
 refine wpAnyH_take (i:=0) (oi:=_) (v:=?v0_7) rfl (by kernel_rfl) (by kernel_rfl) (by kernel_rfl) (fun _ _ _ h=>h) (Or.inl ⟨by rfl,?y0_7⟩) (by assumption) ?r0_7
 case y0_7=>(intro w' hSw;(try dsimp only at hSw);go_simp;try with_reducible rfl)
 refine wpAnyH_take (i:=1) (oi:=_) (v:=?v1_8) rfl (by kernel_rfl) (by kernel_rfl) (by kernel_rfl) (fun _ _ _ h=>h) (Or.inl ⟨by rfl,?y1_8⟩) (by assumption) ?r1_8
 case y1_8=>(intro w' hSw;(try dsimp only at hSw);go_simp;try with_reducible rfl)
 refine wpAnyH_take (i:=2) (oi:=_) (v:=?v2_9) rfl (by kernel_rfl) (by kernel_rfl) (by kernel_rfl) (fun _ _ _ h=>h) (Or.inl ⟨by rfl,?y2_9⟩) (by assumption) ?r2_9
 case y2_9=>(intro w' hSw;(try dsimp only at hSw);go_simp;try with_reducible rfl)
 refine wpAnyH_take (i:=3) (oi:=_) (v:=?v3_10) rfl (by kernel_rfl) (by kernel_rfl) (by kernel_rfl) (fun _ _ _ h=>h) (Or.inl ⟨by rfl,?y3_10⟩) (by assumption) ?r3_10
 case y3_10=>(intro w' hSw;(try dsimp only at hSw);go_simp;try with_reducible rfl)
 refine wpAnyH_take (i:=4) (oi:=_) (v:=?v4_11) rfl (by kernel_rfl) (by kernel_rfl) (by kernel_rfl) (fun _ _ _ h=>h) (Or.inl ⟨by rfl,?y4_11⟩) (by assumption) ?r4_11
 case y4_11=>(intro w' hSw;(try dsimp only at hSw);go_simp;try with_reducible rfl)
 refine wpAnyH_take (i:=5) (oi:=_) (v:=?v5_12) rfl (by kernel_rfl) (by kernel_rfl) (by kernel_rfl) (fun _ _ _ h=>h) (Or.inl ⟨by rfl,?y5_12⟩) (by assumption) ?r5_12
 case y5_12=>(intro w' hSw;(try dsimp only at hSw);go_simp;try with_reducible rfl)
 refine wpAnyH_ready (rs:=[6]) (by kernel_rfl) (by simp) ?_
 refine AllReadyH.cons (o:=_) rfl (fun KK hKK=>?_) AllReadyH.nil
 go_simp
 refine HC.out.mono ?_
 rintro e1 w1 ⟨v1,rfl,hq1,hb1⟩
 obtain ⟨o1,ho1⟩:=hq1.form
 subst ho1
 have HX1:Hid (Below W.heap.size W w1):=hide (H1.out.trans (hb1.mono H1.out.size))
 obtain ⟨w2,E1,hB,z1,hKr⟩:=HEnd.out w1 o1 HX1.out (hq1.mono (Nz.up (show w.heap.size≤W.drew.heap.size from HSz.out)))
 have HKr:=hide hKr
 have HS2:Hid ((fun X=>X.cell? ⟨ob,3,none⟩=some (.map (some m))∧X.cell? ⟨w.heap.size+1,0,none⟩=some (.pointer o)∧X.cell? ⟨w.heap.size+1,1,none⟩=some (.int .i32 tm)∧X.cell? ⟨w.heap.size+1,2,none⟩=some (.int .i32 l)∧X.cell? ⟨w.heap.size+1,3,none⟩=some (.int .u16 G)) w2):=hide (by
  obtain ⟨_,a0,a1,a2,a3⟩:=HSx.out w1 HX1.out
  exact ⟨z1,cell_but a0 hB HLt.out,cell_but a1 hB HLt.out,cell_but a2 hB HLt.out,cell_but a3 hB HLt.out⟩)
 clear hq1 hb1 hB hKr
 refine hKK.out _ _ (HSx.out _ HX1.out) (fun hHeld6=>?_)
 clear hKK KK
 refine wpAnyH_ready (rs:=[7]) (by kernel_rfl) (by simp) ?_
 refine AllReadyH.cons (o:=_) rfl (fun KK hKK=>?_) AllReadyH.nil
 go_simp
 refine hKK.out _ _ (HS2.out) (fun hHeld7=>?_)
 clear hKK KK
 refine wpAnyH_done (by kernel_rfl) ?_ _
 refine NoPanic.normal ?_
 clear hHeld
 go_wp2
 go_end0
 exact ⟨rfl,HKr.out⟩
end
end Go.Proofs.YtimgkhdgliojgaaGreatDoor
