import Derived.Test.YtimgkhdgliojgaaGreatDoorOg21
set_option maxRecDepth 8000
set_option maxHeartbeats 8000000
set_option linter.unusedVariables false
namespace Go.Proofs.YtimgkhdgliojgaaGreatDoor
open Go.RowKit Go.Maps
theorem info_lt:∃ i,Tryz.prog.info? 322=some i∧i.zero=some (.agg #[.int .u16 0,.pointer none])∧i.size=2∧i.bytes=16:=by
 have h:(Tryz.prog.info? 322).map (fun i=>(i.zero,i.size,i.bytes))=some (some (.agg #[.int .u16 0,.pointer none]),2,16):=by kernel_rfl
 cases hq:Tryz.prog.info? 322 with
 | none=>rw [hq] at h;cases h
 | some j=>rw [hq] at h;simp at h;exact ⟨j,rfl,h.1,h.2.1,h.2.2⟩
theorem wp_append_run {P:Program} {o:Oper} {a:Act} {K:Act→World→Prop} {Q:Exit→Act→World→Prop} {w w2:World} {s x:Operand} {t:TypeId} {v u v':Value} (ho:o.op=.call { callee:=.builtin .append,args:=#[s,x],argTypes:=#[t,t] }) (hs:a.eval s=v) (hx:a.eval x=u) (hr:(Builtin.append_ #[t,t] o.type #[v,u]).run P w=.ok v' w2) (h:K (a.put o.dst v') w2):Oper.wp P o a w K Q:=by
 unfold Oper.wp execOp
 simp only [ho,resolve,invoke,builtin,Sem.run_bind,Sem.run_pure,Result.andThen_ok,List.map_toArray,List.map_cons,List.map_nil,hs,hx,hr]
 exact h
structure Ks (pl:Nat→Int→Int) (Z:Nat→Prop) (w w':World) (ob:Nat) (fr:Int) (sv x2 x3 x4:Value) (n g:Nat) (xs:List Value) (f:Nat→Int):Prop where
 ex:∃ sv' u,w'.heap[ob]?=some (.cells #[.int .u64 fr,sv',x2,x3,x4] 231 (0,0))∧Win w' 2 sv' (n+1) (xs++[.int .u16 (g:Int),u])∧∃ wm:World,TQ pl (Nz Z w wm) w' u f∧w.heap.size≤wm.heap.size∧wm.heap.size≤w'.heap.size∧(∀ k,sv'.ownBlock=some k→sv.ownBlock=some k∨wm.heap.size≤k)
 bt:But (fun j=>j=ob∨sv.ownBlock=some j) w w'
section
variable {pl : Nat → Int → Int} {Z : Nat → Prop} {w W w1 : World} {ob n g : Nat} {k sv x2 x3 x4 y2 : Value} {fr f2 tm l : Int} {c f : Nat → Int} {xs : List Value} {cs : Array Value} {ad : Addr} {o1 : Option Addr}
theorem ks_end (hob:w.heap[ob]?=some (.cells cs 231 (0,0))) (hW:But (fun j=>j=ob) w W) (hWo:W.heap[ob]?=some (.cells #[.int .u64 fr,sv,x2,x3,x4] 231 (0,0))) (h1:Below W.heap.size W w1) (hq:TQ pl (Nz Z w w1) w1 (.pointer o1) f) (hx:Win w 2 sv n xs) (hZ:¬ Z ob) (hZs:∀ k,sv.ownBlock=some k→¬ Z k) (hso:sv.ownBlock≠some ob) (hn:n≤1048576) :
  ∃ va vn vc w2,(Builtin.append_ #[228,228] 228 #[sv,.slice (some ⟨w1.heap.size,0,none⟩) 1 1]).run Tryz.prog (w1.alloc (.cells #[.int .u16 (g:Int),.pointer o1] 322))=.ok (.slice va vn vc) w2∧But (fun k=>sv.ownBlock=some k) w1 w2∧w2.cell? ⟨ob,1,none⟩=some sv∧w2.frozen? ⟨ob,1,none⟩=false∧ob < w2.heap.size∧Ks pl Z w (w2.setCell ⟨ob,1,none⟩ (.slice va vn vc)) ob fr sv x2 x3 x4 n g xs f:=by
 obtain ⟨i,hi,hz,hs,hby⟩:=info_lt
 have hlt:=lt_heap hob
 have hsb:∀ k,sv.ownBlock=some k→k < w.heap.size:=fun k hk=>by
  rcases hx.2 with ⟨e,_⟩|⟨g9,off,cap,e,_,hg,_⟩
  ·rw [e] at hk;cases hk
  ·rw [e] at hk;cases hk;exact hg
 have hb1:But (fun j=>j=ob) w w1:=hW.on h1
 have hb2:But (fun j=>j=ob) w (w1.alloc (.cells #[.int .u16 (g:Int),.pointer o1] 322)):=hb1.alloc _
 have hx2:=hx.but hb2 (fun k hk e=>hso (by have e9:k=ob:=e;rw [← e9];exact hk))
 have hnw:∀ j u,[Value.int .u16 (g:Int),.pointer o1][j]?=some u→(w1.alloc (.cells #[.int .u16 (g:Int),.pointer o1] 322)).cell? ((⟨w1.heap.size,0,none⟩:Addr).add j)=some u:=fun j u hj=>by
  have hh:=heap_new w1 (.cells #[.int .u16 (g:Int),.pointer o1] 322)
  match j,hj with
  | 0,hj=>simp at hj;subst hj;rw [Addr.add_lit];exact cell_at hh rfl
  | 1,hj=>simp at hj;subst hj;rw [Addr.add_lit];exact cell_at hh rfl
 obtain ⟨v',w2,r1,r2,r3,r4⟩:=run_append_win (P:=Tryz.prog) 228 228 322 i _ 16 Tryz.underlying228 hi hz hs hby rfl (by omega) hx2 ⟨w1.heap.size,0,none⟩ 1 1 [.int .u16 (g:Int),.pointer o1] rfl hnw (by intro u hu;simp at hu;rcases hu with rfl|rfl <;> rfl) (by unfold maxLen;omega) (by omega)
 obtain ⟨va,vn,vc,hva⟩:∃ a n c,v'=.slice a n c:=by
  rcases r2.2 with ⟨e9,_⟩|⟨g9,off,cap,e9,_⟩
  ·exact ⟨_,_,_,e9⟩
  ·exact ⟨_,_,_,e9⟩
 subst hva
 have hA:But (fun k=>sv.ownBlock=some k) w1 (w1.alloc (.cells #[.int .u16 (g:Int),.pointer o1] 322)):=(But.refl _ w1).alloc _
 have hB:But (fun k=>sv.ownBlock=some k) w1 w2:=hA.trans r3 (fun _ _ e=>e)
 have hl1:=Nat.lt_of_lt_of_le hlt hb1.size
 have ho1:w1.heap[ob]?=some (.cells #[.int .u64 fr,sv,x2,x3,x4] 231 (0,0)):=(h1.block ob (lt_heap hWo)).trans hWo
 have ho2:w2.heap[ob]?=some (.cells #[.int .u64 fr,sv,x2,x3,x4] 231 (0,0)):=(hB.block ob hl1 hso).trans ho1
 have hT:But (fun j=>j=ob∨sv.ownBlock=some j) w w2:=(hb1.mono (fun k e=>.inl e)).trans hB (fun _ _ e=>.inr e)
 have hset:But (fun j=>j=ob) w2 (w2.setCell ⟨ob,1,none⟩ (.slice va vn vc)):=(But.refl (fun j=>j=ob) w2).setCell ⟨ob,1,none⟩ (fun _=>rfl) _
 have hw12:w.heap.size≤w1.heap.size:=hb1.size
 refine ⟨va,vn,vc,w2,r1,hB,cell_at ho2 rfl,frz ho2 1,lt_heap ho2,⟨⟨.slice va vn vc,.pointer o1,set1_heap (i:=1) (.slice va vn vc) ho2,r2.but hset (fun k hk e=>?_),w1,?_,hw12,Nat.le_trans hB.size hset.size,fun k hk=>?_⟩,hT.trans hset (fun _ _ e=>.inl e)⟩⟩
 ·have e9:k=ob:=e
  rcases r4 k hk with h9|h9
  ·exact hso (by rw [← e9];exact h9)
  ·have:=hb2.size;omega
 ·refine ((hq.but hB (fun k hk e=>?_)).but hset (fun k hk e=>?_))
  ·rcases hk with hk|hk
   ·exact hZs k e hk
   ·have:=hsb k e;omega
  ·have e9:k=ob:=e
   rcases hk with hk|hk
   ·exact hZ (e9 ▸ hk)
   ·omega
 ·rcases r4 k hk with h9|h9
  ·exact .inl h9
  ·have h8:w1.heap.size≤(w1.alloc (.cells #[.int .u16 (g:Int),.pointer o1] 322)).heap.size:=((But.refl (fun _=>False) w1).alloc _).size
   exact .inr (Nat.le_trans h8 h9)
theorem send_unb (hpl:Rise2 pl) {m:Nat} (hob:w.heap[ob]?=some (.cells #[.int .u64 fr,sv,x2,.map (some m),x4] 231 (0,0))) (hZ:¬ Z ob) (h:TQ pl Z w k c) (hv:Vok pl g tm l) (hx:Win w 2 sv n xs) (hZs:∀ k,sv.ownBlock=some k→¬ Z k) (hso:sv.ownBlock≠some ob) (hn:n≤1048576) :
  Calls Tryz.prog 253 #[.pointer (some ⟨ob,0,none⟩),.agg #[k,.int .i32 tm,.int .i32 l,.int .u16 (g:Int)]] w fun e w'=>e=.returned (.tuple #[])∧Ks pl Z w w' ob (fr) sv x2 (.map (some m)) x4 n g xs (vclk c g tm):=by
 obtain ⟨o,rfl⟩:=h.form
 obtain ⟨W,hW⟩:∃ W,W=w.alloc (.cells (vC (.pointer o) tm l (g:Int)) 76):=⟨_,rfl⟩
 have hb:Below w.heap.size w W:=by rw [hW];exact below_alloc1 w _
 have hBt:But (fun j=>j=ob) w W:=But.of_below hb
 have hWo:W.heap[ob]?=some (.cells #[.int .u64 fr,sv,x2,.map (some m),x4] 231 (0,0)):=(hb.block ob (lt_heap hob)).trans hob
 have HU:=hide (ch_unb hWo)
 clear hb
 have hE:W.heap[w.heap.size]?=some (.cells (vC (.pointer o) tm l (g:Int)) 76 (0,0)):=by rw [hW];exact heap_newS (by rfl)
 have HSx:Hid (∀ X,Below W.heap.size W X→X.cell? ⟨w.heap.size,0,none⟩=some (.pointer o)∧X.cell? ⟨w.heap.size,1,none⟩=some (.int .i32 tm)∧X.cell? ⟨w.heap.size,2,none⟩=some (.int .i32 l)∧X.cell? ⟨w.heap.size,3,none⟩=some (.int .u16 (g:Int))):=hide (fun X hX=>by
  obtain ⟨q0,q1,q2,q3,_⟩:=vc_cells ((hX.block _ (lt_heap hE)).trans hE)
  exact ⟨q0,q1,q2,q3⟩)
 have H1:=hide ((Below.refl W.heap.size W).drew)
 have hTW:TQ pl Z W (.pointer o) c:=h.but hBt (fun k hk e=>by have e9:k=ob:=e;exact hZ (e9 ▸ hk))
 have HC:=hide (clock_any hpl (hTW.bel H1.out) hv.fg hv.ft hv.fl hv.fp hv.fz)
 have HEnd:Hid (∀ w1 o1,Below W.heap.size W w1→TQ pl (Nz Z w w1) w1 (.pointer o1) (vclk c g tm)→_):=hide (fun w1 o1 a1 a2=>ks_end (g:=g) hob hBt hWo a1 a2 hx hZ hZs hso hn)
 have HSz:=hide hBt.size
 have HW:=hide hW
 unfold vC at HW
 have HOc:Hid (∀ X,Below W.heap.size W X→X.cell? ⟨ob,1,none⟩=some sv∧ob < X.heap.size):=hide (fun X hX=>by
  have h9:=(hX.block ob (lt_heap hWo)).trans hWo
  exact ⟨cell_at h9 rfl,lt_heap h9⟩)
 have HNe:Hid (∀ X Y,But (fun k=>sv.ownBlock=some k) X Y→Y.cell? ⟨w.heap.size,0,none⟩=Y.cell? ⟨w.heap.size,0,none⟩):=hide (fun _ _ _=>rfl)
 have HLt:Hid (¬ sv.ownBlock=some w.heap.size∧¬ w.heap.size=ob):=hide ⟨fun e=>by
  rcases hx.2 with ⟨e9,_⟩|⟨g9,off,cap,e9,_,hg,_⟩
  ·rw [e9] at e;cases e
  ·rw [e9] at e;have e7:g9=w.heap.size:=Option.some.inj e;omega,fun e=>by have:=lt_heap hob;omega⟩
 have kl2:=lt_heap hE
 obtain ⟨y1,yl⟩:=HOc.out W (Below.refl _ _)
 obtain ⟨sa,sn,sc,hsv⟩:∃ a n c,sv=.slice a n c:=by
  rcases hx.2 with ⟨e9,_⟩|⟨g9,off,cap,e9,_⟩
  ·exact ⟨_,_,_,e9⟩
  ·exact ⟨_,_,_,e9⟩
 subst hsv
 generalize (g:Int)=G at HSx HC HW HEnd ⊢
 clear h hE hW hv hpl hob hZ hx hZs hso hn hTW hBt hWo HNe
 go_enter Tryz.func253,Tryz.ntmps253
 go_wp2_with fail
 rw [← HW.out]
 clear HW
 refine HU.out.mono ?_
 rintro e0 w0 ⟨rfl,hw0⟩
 obtain rfl:W=w0:=hw0.symm
 clear HU hw0
 go_wp2_with fail
 refine wp_region_noPanic ?_
 refine wp_region_held_drew (S:=fun X=>X.cell? ⟨w.heap.size,0,none⟩=some (.pointer o)∧X.cell? ⟨w.heap.size,1,none⟩=some (.int .i32 tm)∧X.cell? ⟨w.heap.size,2,none⟩=some (.int .i32 l)∧X.cell? ⟨w.heap.size,3,none⟩=some (.int .u16 G)) (by kernel_rfl) (HSx.out _ H1.out) (fun hHeld=>?_)
 refine wpAnyH_take (i:=0) (oi:=_) (v:=?v0_1) rfl (by kernel_rfl) (by kernel_rfl) (by kernel_rfl) (fun _ _ _ h=>h) (Or.inl ⟨by rfl,?y0_1⟩) (by assumption) ?r0_1
 case y0_1=>(intro w' hSw;(try dsimp only at hSw);go_simp;try with_reducible rfl)
 refine wpAnyH_take (i:=1) (oi:=_) (v:=?v1_2) rfl (by kernel_rfl) (by kernel_rfl) (by kernel_rfl) (fun _ _ _ h=>h) (Or.inl ⟨by rfl,?y1_2⟩) (by assumption) ?r1_2
 case y1_2=>(intro w' hSw;(try dsimp only at hSw);go_simp;try with_reducible rfl)
 refine wpAnyH_take (i:=2) (oi:=_) (v:=?v2_3) rfl (by kernel_rfl) (by kernel_rfl) (by kernel_rfl) (fun _ _ _ h=>h) (Or.inl ⟨by rfl,?y2_3⟩) (by assumption) ?r2_3
 case y2_3=>(intro w' hSw;(try dsimp only at hSw);go_simp;try with_reducible rfl)
 refine wpAnyH_take (i:=3) (oi:=_) (v:=?v3_4) rfl (by kernel_rfl) (by kernel_rfl) (by kernel_rfl) (fun _ _ _ h=>h) (Or.inl ⟨by rfl,?y3_4⟩) (by assumption) ?r3_4
 case y3_4=>(intro w' hSw;(try dsimp only at hSw);go_simp;try with_reducible rfl)
 refine wpAnyH_take (i:=5) (oi:=_) (v:=?v5_5) rfl (by kernel_rfl) (by kernel_rfl) (by kernel_rfl) (fun _ _ _ h=>h) (Or.inl ⟨by rfl,?y5_5⟩) (by assumption) ?r5_5
 case y5_5=>(intro w' hSw;(try dsimp only at hSw);go_simp;try with_reducible rfl)
 refine wpAnyH_take (i:=6) (oi:=_) (v:=?v6_6) rfl (by kernel_rfl) (by kernel_rfl) (by kernel_rfl) (fun _ _ _ h=>h) (Or.inl ⟨by rfl,?y6_6⟩) (by assumption) ?r6_6
 case y6_6=>(intro w' hSw;(try dsimp only at hSw);go_simp;try with_reducible rfl)
 refine wpAnyH_take (i:=7) (oi:=_) (v:=?v7_7) rfl (by kernel_rfl) (by kernel_rfl) (by kernel_rfl) (fun _ _ _ h=>h) (Or.inl ⟨by rfl,?y7_7⟩) (by assumption) ?r7_7
 case y7_7=>(intro w' hSw;(try dsimp only at hSw);go_simp;try with_reducible rfl)
 refine wpAnyH_ready (rs:=[4,8]) (by kernel_rfl) (by simp) ?_
 refine AllReadyH.cons (o:=_) rfl (fun KK hKK=>?_) (AllReadyH.cons (o:=_) rfl (fun KK hKK=>?_) AllReadyH.nil)
 ·go_simp
  refine hKK.out _ _ (HSx.out _ H1.out) (fun hHeld4=>?_)
  clear hKK KK
  refine wpAnyH_ready (rs:=[8]) (by kernel_rfl) (by simp) ?_
  refine AllReadyH.cons (o:=_) rfl (fun KK hKK=>?_) AllReadyH.nil
  go_simp
  refine HC.out.mono ?_
  rintro e1 w1 ⟨v1,rfl,hq1,hb1⟩
  obtain ⟨o1,ho1⟩:=hq1.form
  subst ho1
  have HX1:Hid (Below W.heap.size W w1):=hide (H1.out.trans (hb1.mono H1.out.size))
  have HX2:Hid (Below W.heap.size W (w1.alloc (.cells #[.int .u16 G,.pointer o1] 322))):=hide (HX1.out.trans ((below_alloc1 w1 _).mono HX1.out.size))
  obtain ⟨va,vn,vc,w2,E1,hB,z1,zf,zl,hKs⟩:=HEnd.out w1 o1 HX1.out (hq1.mono (Nz.up (show w.heap.size≤W.drew.heap.size from HSz.out)))
  have HKs:=hide hKs
  have HS2:Hid ((fun X=>X.cell? ⟨w.heap.size,0,none⟩=some (.pointer o)∧X.cell? ⟨w.heap.size,1,none⟩=some (.int .i32 tm)∧X.cell? ⟨w.heap.size,2,none⟩=some (.int .i32 l)∧X.cell? ⟨w.heap.size,3,none⟩=some (.int .u16 G)) w2):=hide (by
   obtain ⟨a0,a1,a2,a3⟩:=HSx.out w1 HX1.out
   exact ⟨cell_but a0 hB HLt.out.1,cell_but a1 hB HLt.out.1,cell_but a2 hB HLt.out.1,cell_but a3 hB HLt.out.1⟩)
  have HS3:Hid ((fun X=>X.cell? ⟨w.heap.size,0,none⟩=some (.pointer o)∧X.cell? ⟨w.heap.size,1,none⟩=some (.int .i32 tm)∧X.cell? ⟨w.heap.size,2,none⟩=some (.int .i32 l)∧X.cell? ⟨w.heap.size,3,none⟩=some (.int .u16 G)) (w2.setCell ⟨ob,1,none⟩ (.slice va vn vc))):=hide (by
   have hB:But (fun j=>j=ob) w2 (w2.setCell ⟨ob,1,none⟩ (.slice va vn vc)):=(But.refl (fun j=>j=ob) w2).setCell ⟨ob,1,none⟩ (fun _=>rfl) _
   obtain ⟨a0,a1,a2,a3⟩:=HS2.out
   exact ⟨cell_but a0 hB HLt.out.2,cell_but a1 hB HLt.out.2,cell_but a2 hB HLt.out.2,cell_but a3 hB HLt.out.2⟩)
  clear hq1 hb1 hB hKs
  refine hKK.out _ _ (HSx.out _ HX1.out) (fun hHeld8=>?_)
  clear hKK KK
  refine wpAnyH_take (i:=9) (oi:=_) (v:=?v9_8) rfl (by kernel_rfl) (by kernel_rfl) (by kernel_rfl) (fun _ _ _ h=>h) (Or.inl ⟨by rfl,?y9_8⟩) (by assumption) ?r9_8
  case y9_8=>(intro w' hSw;(try dsimp only at hSw);go_simp;try with_reducible rfl)
  refine wpAnyH_ready (rs:=[10]) (by kernel_rfl) (by simp) ?_
  refine AllReadyH.cons (o:=_) rfl (fun KK hKK=>?_) AllReadyH.nil
  go_simp
  refine hKK.out _ _ (HSx.out _ HX2.out) (fun hHeld10=>?_)
  clear hKK KK
  refine wpAnyH_ready (rs:=[11]) (by kernel_rfl) (by simp) ?_
  refine AllReadyH.cons (o:=_) rfl (fun KK hKK=>?_) AllReadyH.nil
  refine wp_append_run (s:=.tmp 32) (x:=.tmp 38) rfl rfl rfl E1 ?_
  refine hKK.out _ _ (HS2.out) (fun hHeld11=>?_)
  clear hKK KK
  refine wpAnyH_take (i:=12) (oi:=_) (v:=?v12_9) rfl (by kernel_rfl) (by kernel_rfl) (by kernel_rfl) (fun _ _ _ h=>h) (Or.inl ⟨by rfl,?y12_9⟩) (by assumption) ?r12_9
  case y12_9=>(intro w' hSw;(try dsimp only at hSw);go_simp;try with_reducible rfl)
  refine wpAnyH_take (i:=13) (oi:=_) (v:=?v13_10) rfl (by kernel_rfl) (by kernel_rfl) (by kernel_rfl) (fun _ _ _ h=>h) (Or.inl ⟨by rfl,?y13_10⟩) (by assumption) ?r13_10
  case y13_10=>(intro w' hSw;(try dsimp only at hSw);go_simp;try with_reducible rfl)
  refine wpAnyH_ready (rs:=[14]) (by kernel_rfl) (by simp) ?_
  refine AllReadyH.cons (o:=_) rfl (fun KK hKK=>?_) AllReadyH.nil
  go_simp
  refine hKK.out _ _ (HS3.out) (fun hHeld14=>?_)
  clear hKK KK
  refine wpAnyH_done (by kernel_rfl) ?_ _
  refine NoPanic.normal ?_
  clear hHeld
  go_wp2
  go_end0
  exact ⟨rfl,HKs.out⟩
 ·go_simp
  refine HC.out.mono ?_
  rintro e1 w1 ⟨v1,rfl,hq1,hb1⟩
  obtain ⟨o1,ho1⟩:=hq1.form
  subst ho1
  have HX1:Hid (Below W.heap.size W w1):=hide (H1.out.trans (hb1.mono H1.out.size))
  have HX2:Hid (Below W.heap.size W (w1.alloc (.cells #[.int .u16 G,.pointer o1] 322))):=hide (HX1.out.trans ((below_alloc1 w1 _).mono HX1.out.size))
  obtain ⟨va,vn,vc,w2,E1,hB,z1,zf,zl,hKs⟩:=HEnd.out w1 o1 HX1.out (hq1.mono (Nz.up (show w.heap.size≤W.drew.heap.size from HSz.out)))
  have HKs:=hide hKs
  have HS2:Hid ((fun X=>X.cell? ⟨w.heap.size,0,none⟩=some (.pointer o)∧X.cell? ⟨w.heap.size,1,none⟩=some (.int .i32 tm)∧X.cell? ⟨w.heap.size,2,none⟩=some (.int .i32 l)∧X.cell? ⟨w.heap.size,3,none⟩=some (.int .u16 G)) w2):=hide (by
   obtain ⟨a0,a1,a2,a3⟩:=HSx.out w1 HX1.out
   exact ⟨cell_but a0 hB HLt.out.1,cell_but a1 hB HLt.out.1,cell_but a2 hB HLt.out.1,cell_but a3 hB HLt.out.1⟩)
  have HS3:Hid ((fun X=>X.cell? ⟨w.heap.size,0,none⟩=some (.pointer o)∧X.cell? ⟨w.heap.size,1,none⟩=some (.int .i32 tm)∧X.cell? ⟨w.heap.size,2,none⟩=some (.int .i32 l)∧X.cell? ⟨w.heap.size,3,none⟩=some (.int .u16 G)) (w2.setCell ⟨ob,1,none⟩ (.slice va vn vc))):=hide (by
   have hB:But (fun j=>j=ob) w2 (w2.setCell ⟨ob,1,none⟩ (.slice va vn vc)):=(But.refl (fun j=>j=ob) w2).setCell ⟨ob,1,none⟩ (fun _=>rfl) _
   obtain ⟨a0,a1,a2,a3⟩:=HS2.out
   exact ⟨cell_but a0 hB HLt.out.2,cell_but a1 hB HLt.out.2,cell_but a2 hB HLt.out.2,cell_but a3 hB HLt.out.2⟩)
  clear hq1 hb1 hB hKs
  refine hKK.out _ _ (HSx.out _ HX1.out) (fun hHeld8=>?_)
  clear hKK KK
  refine wpAnyH_take (i:=9) (oi:=_) (v:=?v9_11) rfl (by kernel_rfl) (by kernel_rfl) (by kernel_rfl) (fun _ _ _ h=>h) (Or.inl ⟨by rfl,?y9_11⟩) (by assumption) ?r9_11
  case y9_11=>(intro w' hSw;(try dsimp only at hSw);go_simp;try with_reducible rfl)
  refine wpAnyH_ready (rs:=[4,10]) (by kernel_rfl) (by simp) ?_
  refine AllReadyH.cons (o:=_) rfl (fun KK hKK=>?_) (AllReadyH.cons (o:=_) rfl (fun KK hKK=>?_) AllReadyH.nil)
  ·obtain ⟨u1,ul⟩:=HOc.out w1 HX1.out
   go_simp
   refine hKK.out _ _ (HSx.out _ HX1.out) (fun hHeld4=>?_)
   clear hKK KK
   refine wpAnyH_ready (rs:=[10]) (by kernel_rfl) (by simp) ?_
   refine AllReadyH.cons (o:=_) rfl (fun KK hKK=>?_) AllReadyH.nil
   go_simp
   refine hKK.out _ _ (HSx.out _ HX2.out) (fun hHeld10=>?_)
   clear hKK KK
   refine wpAnyH_ready (rs:=[11]) (by kernel_rfl) (by simp) ?_
   refine AllReadyH.cons (o:=_) rfl (fun KK hKK=>?_) AllReadyH.nil
   refine wp_append_run (s:=.tmp 32) (x:=.tmp 38) rfl rfl rfl E1 ?_
   refine hKK.out _ _ (HS2.out) (fun hHeld11=>?_)
   clear hKK KK
   refine wpAnyH_take (i:=12) (oi:=_) (v:=?v12_12) rfl (by kernel_rfl) (by kernel_rfl) (by kernel_rfl) (fun _ _ _ h=>h) (Or.inl ⟨by rfl,?y12_12⟩) (by assumption) ?r12_12
   case y12_12=>(intro w' hSw;(try dsimp only at hSw);go_simp;try with_reducible rfl)
   refine wpAnyH_take (i:=13) (oi:=_) (v:=?v13_13) rfl (by kernel_rfl) (by kernel_rfl) (by kernel_rfl) (fun _ _ _ h=>h) (Or.inl ⟨by rfl,?y13_13⟩) (by assumption) ?r13_13
   case y13_13=>(intro w' hSw;(try dsimp only at hSw);go_simp;try with_reducible rfl)
   refine wpAnyH_ready (rs:=[14]) (by kernel_rfl) (by simp) ?_
   refine AllReadyH.cons (o:=_) rfl (fun KK hKK=>?_) AllReadyH.nil
   go_simp
   refine hKK.out _ _ (HS3.out) (fun hHeld14=>?_)
   clear hKK KK
   refine wpAnyH_done (by kernel_rfl) ?_ _
   refine NoPanic.normal ?_
   clear hHeld
   go_wp2
   go_end0
   exact ⟨rfl,HKs.out⟩
  ·go_simp
   refine hKK.out _ _ (HSx.out _ HX2.out) (fun hHeld10=>?_)
   clear hKK KK
   refine wpAnyH_ready (rs:=[4]) (by kernel_rfl) (by simp) ?_
   refine AllReadyH.cons (o:=_) rfl (fun KK hKK=>?_) AllReadyH.nil
   obtain ⟨u1,ul⟩:=HOc.out _ HX2.out
   go_simp
   refine hKK.out _ _ (HSx.out _ HX2.out) (fun hHeld4=>?_)
   clear hKK KK
   refine wpAnyH_ready (rs:=[11]) (by kernel_rfl) (by simp) ?_
   refine AllReadyH.cons (o:=_) rfl (fun KK hKK=>?_) AllReadyH.nil
   refine wp_append_run (s:=.tmp 32) (x:=.tmp 38) rfl rfl rfl E1 ?_
   refine hKK.out _ _ (HS2.out) (fun hHeld11=>?_)
   clear hKK KK
   refine wpAnyH_take (i:=12) (oi:=_) (v:=?v12_14) rfl (by kernel_rfl) (by kernel_rfl) (by kernel_rfl) (fun _ _ _ h=>h) (Or.inl ⟨by rfl,?y12_14⟩) (by assumption) ?r12_14
   case y12_14=>(intro w' hSw;(try dsimp only at hSw);go_simp;try with_reducible rfl)
   refine wpAnyH_take (i:=13) (oi:=_) (v:=?v13_15) rfl (by kernel_rfl) (by kernel_rfl) (by kernel_rfl) (fun _ _ _ h=>h) (Or.inl ⟨by rfl,?y13_15⟩) (by assumption) ?r13_15
   case y13_15=>(intro w' hSw;(try dsimp only at hSw);go_simp;try with_reducible rfl)
   refine wpAnyH_ready (rs:=[14]) (by kernel_rfl) (by simp) ?_
   refine AllReadyH.cons (o:=_) rfl (fun KK hKK=>?_) AllReadyH.nil
   go_simp
   refine hKK.out _ _ (HS3.out) (fun hHeld14=>?_)
   clear hKK KK
   refine wpAnyH_done (by kernel_rfl) ?_ _
   refine NoPanic.normal ?_
   clear hHeld
   go_wp2
   go_end0
   exact ⟨rfl,HKs.out⟩
theorem send_free (hpl:Rise2 pl) (hf:0 < fr) (hf2:fr≤18446744073709551615) (hob:w.heap[ob]?=some (.cells #[.int .u64 fr,sv,x2,.map none,x4] 231 (0,0))) (hZ:¬ Z ob) (h:TQ pl Z w k c) (hv:Vok pl g tm l) (hx:Win w 2 sv n xs) (hZs:∀ k,sv.ownBlock=some k→¬ Z k) (hso:sv.ownBlock≠some ob) (hn:n≤1048576) :
  Calls Tryz.prog 253 #[.pointer (some ⟨ob,0,none⟩),.agg #[k,.int .i32 tm,.int .i32 l,.int .u16 (g:Int)]] w fun e w'=>e=.returned (.tuple #[])∧Ks pl Z w w' ob (fr - 1) sv x2 (.map none) x4 n g xs (vclk c g tm):=by
 obtain ⟨o,rfl⟩:=h.form
 obtain ⟨W0,hW0⟩:∃ W0,W0=w.alloc (.cells (vC (.pointer o) tm l (g:Int)) 76):=⟨_,rfl⟩
 have hb:Below w.heap.size w W0:=by rw [hW0];exact below_alloc1 w _
 have hWo0:W0.heap[ob]?=some (.cells #[.int .u64 fr,sv,x2,.map none,x4] 231 (0,0)):=(hb.block ob (lt_heap hob)).trans hob
 have HU:=hide (ch_buf hWo0)
 obtain ⟨W,hW⟩:∃ W,W=W0.setCell ⟨ob,0,none⟩ (.int .u64 (fr - 1)):=⟨_,rfl⟩
 obtain ⟨hWo,hBt⟩:=but_set hob (But.of_below (S:=fun j=>j=ob) hb) hWo0 0 (.int .u64 (fr - 1))
 rw [← hW] at hWo hBt
 have HW0:=hide hW0
 unfold vC at HW0
 have i0:W0.cell? ⟨ob,0,none⟩=some (.int .u64 fr):=cell_at hWo0 rfl
 have if0:W0.frozen? ⟨ob,0,none⟩=false:=frz hWo0 0
 have i2:W0.cell? ⟨ob,2,none⟩=some x2:=cell_at hWo0 rfl
 have il:=lt_heap hWo0
 have HVw:=hide (heap_new w (.cells (vC (.pointer o) tm l (g:Int)) 76))
 rw [← hW0] at HVw
 have hE:W.heap[w.heap.size]?=some (.cells (vC (.pointer o) tm l (g:Int)) 76 (0,0)):=by rw [hW,Below.heap_setCell _ _ _ _ (fun e=>by have:=lt_heap hob;have e9:w.heap.size=ob:=e;omega)];exact HVw.out
 have HSx:Hid (∀ X,Below W.heap.size W X→X.cell? ⟨w.heap.size,0,none⟩=some (.pointer o)∧X.cell? ⟨w.heap.size,1,none⟩=some (.int .i32 tm)∧X.cell? ⟨w.heap.size,2,none⟩=some (.int .i32 l)∧X.cell? ⟨w.heap.size,3,none⟩=some (.int .u16 (g:Int))):=hide (fun X hX=>by
  obtain ⟨q0,q1,q2,q3,_⟩:=vc_cells ((hX.block _ (lt_heap hE)).trans hE)
  exact ⟨q0,q1,q2,q3⟩)
 have H1:=hide ((Below.refl W.heap.size W).drew)
 have hTW:TQ pl Z W (.pointer o) c:=h.but hBt (fun k hk e=>by have e9:k=ob:=e;exact hZ (e9 ▸ hk))
 have HC:=hide (clock_any hpl (hTW.bel H1.out) hv.fg hv.ft hv.fl hv.fp hv.fz)
 have HEnd:Hid (∀ w1 o1,Below W.heap.size W w1→TQ pl (Nz Z w w1) w1 (.pointer o1) (vclk c g tm)→_):=hide (fun w1 o1 a1 a2=>ks_end (g:=g) hob hBt hWo a1 a2 hx hZ hZs hso hn)
 have HSz:=hide hBt.size
 have HW:=hide hW
 have HOc:Hid (∀ X,Below W.heap.size W X→X.cell? ⟨ob,1,none⟩=some sv∧ob < X.heap.size):=hide (fun X hX=>by
  have h9:=(hX.block ob (lt_heap hWo)).trans hWo
  exact ⟨cell_at h9 rfl,lt_heap h9⟩)
 have HNe:Hid (∀ X Y,But (fun k=>sv.ownBlock=some k) X Y→Y.cell? ⟨w.heap.size,0,none⟩=Y.cell? ⟨w.heap.size,0,none⟩):=hide (fun _ _ _=>rfl)
 have HLt:Hid (¬ sv.ownBlock=some w.heap.size∧¬ w.heap.size=ob):=hide ⟨fun e=>by
  rcases hx.2 with ⟨e9,_⟩|⟨g9,off,cap,e9,_,hg,_⟩
  ·rw [e9] at e;cases e
  ·rw [e9] at e;have e7:g9=w.heap.size:=Option.some.inj e;omega,fun e=>by have:=lt_heap hob;omega⟩
 have kl2:=lt_heap hE
 obtain ⟨y1,yl⟩:=HOc.out W (Below.refl _ _)
 obtain ⟨sa,sn,sc,hsv⟩:∃ a n c,sv=.slice a n c:=by
  rcases hx.2 with ⟨e9,_⟩|⟨g9,off,cap,e9,_⟩
  ·exact ⟨_,_,_,e9⟩
  ·exact ⟨_,_,_,e9⟩
 subst hsv
 generalize (g:Int)=G at HSx HC HW0 HEnd ⊢
 clear h hE hW hv hpl hob hZ hx hZs hso hn hTW hBt hWo HNe hb hWo0 hW0 HVw
 go_enter Tryz.func253,Tryz.ntmps253
 go_wp2_with fail
 rw [← HW0.out]
 clear HW0
 refine HU.out.mono ?_
 rintro e0 w0 ⟨rfl,hw0⟩
 obtain rfl:W0=w0:=hw0.symm
 clear HU hw0
 go_wp2_with fail
 rw [← HW.out]
 clear HW
 refine wp_region_noPanic ?_
 refine wp_region_held_drew (S:=fun X=>X.cell? ⟨w.heap.size,0,none⟩=some (.pointer o)∧X.cell? ⟨w.heap.size,1,none⟩=some (.int .i32 tm)∧X.cell? ⟨w.heap.size,2,none⟩=some (.int .i32 l)∧X.cell? ⟨w.heap.size,3,none⟩=some (.int .u16 G)) (by kernel_rfl) (HSx.out _ H1.out) (fun hHeld=>?_)
 refine wpAnyH_take (i:=0) (oi:=_) (v:=?v0_16) rfl (by kernel_rfl) (by kernel_rfl) (by kernel_rfl) (fun _ _ _ h=>h) (Or.inl ⟨by rfl,?y0_16⟩) (by assumption) ?r0_16
 case y0_16=>(intro w' hSw;(try dsimp only at hSw);go_simp;try with_reducible rfl)
 refine wpAnyH_take (i:=1) (oi:=_) (v:=?v1_17) rfl (by kernel_rfl) (by kernel_rfl) (by kernel_rfl) (fun _ _ _ h=>h) (Or.inl ⟨by rfl,?y1_17⟩) (by assumption) ?r1_17
 case y1_17=>(intro w' hSw;(try dsimp only at hSw);go_simp;try with_reducible rfl)
 refine wpAnyH_take (i:=2) (oi:=_) (v:=?v2_18) rfl (by kernel_rfl) (by kernel_rfl) (by kernel_rfl) (fun _ _ _ h=>h) (Or.inl ⟨by rfl,?y2_18⟩) (by assumption) ?r2_18
 case y2_18=>(intro w' hSw;(try dsimp only at hSw);go_simp;try with_reducible rfl)
 refine wpAnyH_take (i:=3) (oi:=_) (v:=?v3_19) rfl (by kernel_rfl) (by kernel_rfl) (by kernel_rfl) (fun _ _ _ h=>h) (Or.inl ⟨by rfl,?y3_19⟩) (by assumption) ?r3_19
 case y3_19=>(intro w' hSw;(try dsimp only at hSw);go_simp;try with_reducible rfl)
 refine wpAnyH_take (i:=5) (oi:=_) (v:=?v5_20) rfl (by kernel_rfl) (by kernel_rfl) (by kernel_rfl) (fun _ _ _ h=>h) (Or.inl ⟨by rfl,?y5_20⟩) (by assumption) ?r5_20
 case y5_20=>(intro w' hSw;(try dsimp only at hSw);go_simp;try with_reducible rfl)
 refine wpAnyH_take (i:=6) (oi:=_) (v:=?v6_21) rfl (by kernel_rfl) (by kernel_rfl) (by kernel_rfl) (fun _ _ _ h=>h) (Or.inl ⟨by rfl,?y6_21⟩) (by assumption) ?r6_21
 case y6_21=>(intro w' hSw;(try dsimp only at hSw);go_simp;try with_reducible rfl)
 refine wpAnyH_take (i:=7) (oi:=_) (v:=?v7_22) rfl (by kernel_rfl) (by kernel_rfl) (by kernel_rfl) (fun _ _ _ h=>h) (Or.inl ⟨by rfl,?y7_22⟩) (by assumption) ?r7_22
 case y7_22=>(intro w' hSw;(try dsimp only at hSw);go_simp;try with_reducible rfl)
 refine wpAnyH_ready (rs:=[4,8]) (by kernel_rfl) (by simp) ?_
 refine AllReadyH.cons (o:=_) rfl (fun KK hKK=>?_) (AllReadyH.cons (o:=_) rfl (fun KK hKK=>?_) AllReadyH.nil)
 ·go_simp
  refine hKK.out _ _ (HSx.out _ H1.out) (fun hHeld4=>?_)
  clear hKK KK
  refine wpAnyH_ready (rs:=[8]) (by kernel_rfl) (by simp) ?_
  refine AllReadyH.cons (o:=_) rfl (fun KK hKK=>?_) AllReadyH.nil
  go_simp
  refine HC.out.mono ?_
  rintro e1 w1 ⟨v1,rfl,hq1,hb1⟩
  obtain ⟨o1,ho1⟩:=hq1.form
  subst ho1
  have HX1:Hid (Below W.heap.size W w1):=hide (H1.out.trans (hb1.mono H1.out.size))
  have HX2:Hid (Below W.heap.size W (w1.alloc (.cells #[.int .u16 G,.pointer o1] 322))):=hide (HX1.out.trans ((below_alloc1 w1 _).mono HX1.out.size))
  obtain ⟨va,vn,vc,w2,E1,hB,z1,zf,zl,hKs⟩:=HEnd.out w1 o1 HX1.out (hq1.mono (Nz.up (show w.heap.size≤W.drew.heap.size from HSz.out)))
  have HKs:=hide hKs
  have HS2:Hid ((fun X=>X.cell? ⟨w.heap.size,0,none⟩=some (.pointer o)∧X.cell? ⟨w.heap.size,1,none⟩=some (.int .i32 tm)∧X.cell? ⟨w.heap.size,2,none⟩=some (.int .i32 l)∧X.cell? ⟨w.heap.size,3,none⟩=some (.int .u16 G)) w2):=hide (by
   obtain ⟨a0,a1,a2,a3⟩:=HSx.out w1 HX1.out
   exact ⟨cell_but a0 hB HLt.out.1,cell_but a1 hB HLt.out.1,cell_but a2 hB HLt.out.1,cell_but a3 hB HLt.out.1⟩)
  have HS3:Hid ((fun X=>X.cell? ⟨w.heap.size,0,none⟩=some (.pointer o)∧X.cell? ⟨w.heap.size,1,none⟩=some (.int .i32 tm)∧X.cell? ⟨w.heap.size,2,none⟩=some (.int .i32 l)∧X.cell? ⟨w.heap.size,3,none⟩=some (.int .u16 G)) (w2.setCell ⟨ob,1,none⟩ (.slice va vn vc))):=hide (by
   have hB:But (fun j=>j=ob) w2 (w2.setCell ⟨ob,1,none⟩ (.slice va vn vc)):=(But.refl (fun j=>j=ob) w2).setCell ⟨ob,1,none⟩ (fun _=>rfl) _
   obtain ⟨a0,a1,a2,a3⟩:=HS2.out
   exact ⟨cell_but a0 hB HLt.out.2,cell_but a1 hB HLt.out.2,cell_but a2 hB HLt.out.2,cell_but a3 hB HLt.out.2⟩)
  clear hq1 hb1 hB hKs
  refine hKK.out _ _ (HSx.out _ HX1.out) (fun hHeld8=>?_)
  clear hKK KK
  refine wpAnyH_take (i:=9) (oi:=_) (v:=?v9_23) rfl (by kernel_rfl) (by kernel_rfl) (by kernel_rfl) (fun _ _ _ h=>h) (Or.inl ⟨by rfl,?y9_23⟩) (by assumption) ?r9_23
  case y9_23=>(intro w' hSw;(try dsimp only at hSw);go_simp;try with_reducible rfl)
  refine wpAnyH_ready (rs:=[10]) (by kernel_rfl) (by simp) ?_
  refine AllReadyH.cons (o:=_) rfl (fun KK hKK=>?_) AllReadyH.nil
  go_simp
  refine hKK.out _ _ (HSx.out _ HX2.out) (fun hHeld10=>?_)
  clear hKK KK
  refine wpAnyH_ready (rs:=[11]) (by kernel_rfl) (by simp) ?_
  refine AllReadyH.cons (o:=_) rfl (fun KK hKK=>?_) AllReadyH.nil
  refine wp_append_run (s:=.tmp 32) (x:=.tmp 38) rfl rfl rfl E1 ?_
  refine hKK.out _ _ (HS2.out) (fun hHeld11=>?_)
  clear hKK KK
  refine wpAnyH_take (i:=12) (oi:=_) (v:=?v12_24) rfl (by kernel_rfl) (by kernel_rfl) (by kernel_rfl) (fun _ _ _ h=>h) (Or.inl ⟨by rfl,?y12_24⟩) (by assumption) ?r12_24
  case y12_24=>(intro w' hSw;(try dsimp only at hSw);go_simp;try with_reducible rfl)
  refine wpAnyH_take (i:=13) (oi:=_) (v:=?v13_25) rfl (by kernel_rfl) (by kernel_rfl) (by kernel_rfl) (fun _ _ _ h=>h) (Or.inl ⟨by rfl,?y13_25⟩) (by assumption) ?r13_25
  case y13_25=>(intro w' hSw;(try dsimp only at hSw);go_simp;try with_reducible rfl)
  refine wpAnyH_ready (rs:=[14]) (by kernel_rfl) (by simp) ?_
  refine AllReadyH.cons (o:=_) rfl (fun KK hKK=>?_) AllReadyH.nil
  go_simp
  refine hKK.out _ _ (HS3.out) (fun hHeld14=>?_)
  clear hKK KK
  refine wpAnyH_done (by kernel_rfl) ?_ _
  refine NoPanic.normal ?_
  clear hHeld
  go_wp2
  go_end0
  exact ⟨rfl,HKs.out⟩
 ·go_simp
  refine HC.out.mono ?_
  rintro e1 w1 ⟨v1,rfl,hq1,hb1⟩
  obtain ⟨o1,ho1⟩:=hq1.form
  subst ho1
  have HX1:Hid (Below W.heap.size W w1):=hide (H1.out.trans (hb1.mono H1.out.size))
  have HX2:Hid (Below W.heap.size W (w1.alloc (.cells #[.int .u16 G,.pointer o1] 322))):=hide (HX1.out.trans ((below_alloc1 w1 _).mono HX1.out.size))
  obtain ⟨va,vn,vc,w2,E1,hB,z1,zf,zl,hKs⟩:=HEnd.out w1 o1 HX1.out (hq1.mono (Nz.up (show w.heap.size≤W.drew.heap.size from HSz.out)))
  have HKs:=hide hKs
  have HS2:Hid ((fun X=>X.cell? ⟨w.heap.size,0,none⟩=some (.pointer o)∧X.cell? ⟨w.heap.size,1,none⟩=some (.int .i32 tm)∧X.cell? ⟨w.heap.size,2,none⟩=some (.int .i32 l)∧X.cell? ⟨w.heap.size,3,none⟩=some (.int .u16 G)) w2):=hide (by
   obtain ⟨a0,a1,a2,a3⟩:=HSx.out w1 HX1.out
   exact ⟨cell_but a0 hB HLt.out.1,cell_but a1 hB HLt.out.1,cell_but a2 hB HLt.out.1,cell_but a3 hB HLt.out.1⟩)
  have HS3:Hid ((fun X=>X.cell? ⟨w.heap.size,0,none⟩=some (.pointer o)∧X.cell? ⟨w.heap.size,1,none⟩=some (.int .i32 tm)∧X.cell? ⟨w.heap.size,2,none⟩=some (.int .i32 l)∧X.cell? ⟨w.heap.size,3,none⟩=some (.int .u16 G)) (w2.setCell ⟨ob,1,none⟩ (.slice va vn vc))):=hide (by
   have hB:But (fun j=>j=ob) w2 (w2.setCell ⟨ob,1,none⟩ (.slice va vn vc)):=(But.refl (fun j=>j=ob) w2).setCell ⟨ob,1,none⟩ (fun _=>rfl) _
   obtain ⟨a0,a1,a2,a3⟩:=HS2.out
   exact ⟨cell_but a0 hB HLt.out.2,cell_but a1 hB HLt.out.2,cell_but a2 hB HLt.out.2,cell_but a3 hB HLt.out.2⟩)
  clear hq1 hb1 hB hKs
  refine hKK.out _ _ (HSx.out _ HX1.out) (fun hHeld8=>?_)
  clear hKK KK
  refine wpAnyH_take (i:=9) (oi:=_) (v:=?v9_26) rfl (by kernel_rfl) (by kernel_rfl) (by kernel_rfl) (fun _ _ _ h=>h) (Or.inl ⟨by rfl,?y9_26⟩) (by assumption) ?r9_26
  case y9_26=>(intro w' hSw;(try dsimp only at hSw);go_simp;try with_reducible rfl)
  refine wpAnyH_ready (rs:=[4,10]) (by kernel_rfl) (by simp) ?_
  refine AllReadyH.cons (o:=_) rfl (fun KK hKK=>?_) (AllReadyH.cons (o:=_) rfl (fun KK hKK=>?_) AllReadyH.nil)
  ·obtain ⟨u1,ul⟩:=HOc.out w1 HX1.out
   go_simp
   refine hKK.out _ _ (HSx.out _ HX1.out) (fun hHeld4=>?_)
   clear hKK KK
   refine wpAnyH_ready (rs:=[10]) (by kernel_rfl) (by simp) ?_
   refine AllReadyH.cons (o:=_) rfl (fun KK hKK=>?_) AllReadyH.nil
   go_simp
   refine hKK.out _ _ (HSx.out _ HX2.out) (fun hHeld10=>?_)
   clear hKK KK
   refine wpAnyH_ready (rs:=[11]) (by kernel_rfl) (by simp) ?_
   refine AllReadyH.cons (o:=_) rfl (fun KK hKK=>?_) AllReadyH.nil
   refine wp_append_run (s:=.tmp 32) (x:=.tmp 38) rfl rfl rfl E1 ?_
   refine hKK.out _ _ (HS2.out) (fun hHeld11=>?_)
   clear hKK KK
   refine wpAnyH_take (i:=12) (oi:=_) (v:=?v12_27) rfl (by kernel_rfl) (by kernel_rfl) (by kernel_rfl) (fun _ _ _ h=>h) (Or.inl ⟨by rfl,?y12_27⟩) (by assumption) ?r12_27
   case y12_27=>(intro w' hSw;(try dsimp only at hSw);go_simp;try with_reducible rfl)
   refine wpAnyH_take (i:=13) (oi:=_) (v:=?v13_28) rfl (by kernel_rfl) (by kernel_rfl) (by kernel_rfl) (fun _ _ _ h=>h) (Or.inl ⟨by rfl,?y13_28⟩) (by assumption) ?r13_28
   case y13_28=>(intro w' hSw;(try dsimp only at hSw);go_simp;try with_reducible rfl)
   refine wpAnyH_ready (rs:=[14]) (by kernel_rfl) (by simp) ?_
   refine AllReadyH.cons (o:=_) rfl (fun KK hKK=>?_) AllReadyH.nil
   go_simp
   refine hKK.out _ _ (HS3.out) (fun hHeld14=>?_)
   clear hKK KK
   refine wpAnyH_done (by kernel_rfl) ?_ _
   refine NoPanic.normal ?_
   clear hHeld
   go_wp2
   go_end0
   exact ⟨rfl,HKs.out⟩
  ·go_simp
   refine hKK.out _ _ (HSx.out _ HX2.out) (fun hHeld10=>?_)
   clear hKK KK
   refine wpAnyH_ready (rs:=[4]) (by kernel_rfl) (by simp) ?_
   refine AllReadyH.cons (o:=_) rfl (fun KK hKK=>?_) AllReadyH.nil
   obtain ⟨u1,ul⟩:=HOc.out _ HX2.out
   go_simp
   refine hKK.out _ _ (HSx.out _ HX2.out) (fun hHeld4=>?_)
   clear hKK KK
   refine wpAnyH_ready (rs:=[11]) (by kernel_rfl) (by simp) ?_
   refine AllReadyH.cons (o:=_) rfl (fun KK hKK=>?_) AllReadyH.nil
   refine wp_append_run (s:=.tmp 32) (x:=.tmp 38) rfl rfl rfl E1 ?_
   refine hKK.out _ _ (HS2.out) (fun hHeld11=>?_)
   clear hKK KK
   refine wpAnyH_take (i:=12) (oi:=_) (v:=?v12_29) rfl (by kernel_rfl) (by kernel_rfl) (by kernel_rfl) (fun _ _ _ h=>h) (Or.inl ⟨by rfl,?y12_29⟩) (by assumption) ?r12_29
   case y12_29=>(intro w' hSw;(try dsimp only at hSw);go_simp;try with_reducible rfl)
   refine wpAnyH_take (i:=13) (oi:=_) (v:=?v13_30) rfl (by kernel_rfl) (by kernel_rfl) (by kernel_rfl) (fun _ _ _ h=>h) (Or.inl ⟨by rfl,?y13_30⟩) (by assumption) ?r13_30
   case y13_30=>(intro w' hSw;(try dsimp only at hSw);go_simp;try with_reducible rfl)
   refine wpAnyH_ready (rs:=[14]) (by kernel_rfl) (by simp) ?_
   refine AllReadyH.cons (o:=_) rfl (fun KK hKK=>?_) AllReadyH.nil
   go_simp
   refine hKK.out _ _ (HS3.out) (fun hHeld14=>?_)
   clear hKK KK
   refine wpAnyH_done (by kernel_rfl) ?_ _
   refine NoPanic.normal ?_
   clear hHeld
   go_wp2
   go_end0
   exact ⟨rfl,HKs.out⟩
theorem send_cut (hpl:Rise2 pl) {qb qo en ec:Nat} (hf:¬ 0 < fr) (he1:1≤en) (he2:en≤ec) (he3:¬ ec=1) (hob:w.heap[ob]?=some (.cells #[.int .u64 fr,sv,.slice (some ⟨qb,qo,none⟩) en ec,.map none,x4] 231 (0,0))) (hZ:¬ Z ob) (h:TQ pl Z w k c) (hv:Vok pl g tm l) (hx:Win w 2 sv n xs) (hZs:∀ k,sv.ownBlock=some k→¬ Z k) (hso:sv.ownBlock≠some ob) (hn:n≤1048576) :
  Calls Tryz.prog 253 #[.pointer (some ⟨ob,0,none⟩),.agg #[k,.int .i32 tm,.int .i32 l,.int .u16 (g:Int)]] w fun e w'=>e=.returned (.tuple #[])∧Ks pl Z w w' ob (fr) sv (.slice (some ⟨qb,qo+1,none⟩) (en - 1) (ec - 1)) (.map none) x4 n g xs (vclk c g tm):=by
 obtain ⟨o,rfl⟩:=h.form
 obtain ⟨W0,hW0⟩:∃ W0,W0=w.alloc (.cells (vC (.pointer o) tm l (g:Int)) 76):=⟨_,rfl⟩
 have hb:Below w.heap.size w W0:=by rw [hW0];exact below_alloc1 w _
 have hWo0:W0.heap[ob]?=some (.cells #[.int .u64 fr,sv,.slice (some ⟨qb,qo,none⟩) en ec,.map none,x4] 231 (0,0)):=(hb.block ob (lt_heap hob)).trans hob
 have HU:=hide (ch_buf hWo0)
 obtain ⟨W,hW⟩:∃ W,W=W0.setCell ⟨ob,2,none⟩ (.slice (some ⟨qb,qo+1,none⟩) (en - 1) (ec - 1)):=⟨_,rfl⟩
 obtain ⟨hWo,hBt⟩:=but_set hob (But.of_below (S:=fun j=>j=ob) hb) hWo0 2 (.slice (some ⟨qb,qo+1,none⟩) (en - 1) (ec - 1))
 rw [← hW] at hWo hBt
 have HW0:=hide hW0
 unfold vC at HW0
 have i0:W0.cell? ⟨ob,0,none⟩=some (.int .u64 fr):=cell_at hWo0 rfl
 have if0:W0.frozen? ⟨ob,2,none⟩=false:=frz hWo0 2
 have i2:W0.cell? ⟨ob,2,none⟩=some (.slice (some ⟨qb,qo,none⟩) en ec):=cell_at hWo0 rfl
 have il:=lt_heap hWo0
 have HVw:=hide (heap_new w (.cells (vC (.pointer o) tm l (g:Int)) 76))
 rw [← hW0] at HVw
 have hE:W.heap[w.heap.size]?=some (.cells (vC (.pointer o) tm l (g:Int)) 76 (0,0)):=by rw [hW,Below.heap_setCell _ _ _ _ (fun e=>by have:=lt_heap hob;have e9:w.heap.size=ob:=e;omega)];exact HVw.out
 have HSx:Hid (∀ X,Below W.heap.size W X→X.cell? ⟨w.heap.size,0,none⟩=some (.pointer o)∧X.cell? ⟨w.heap.size,1,none⟩=some (.int .i32 tm)∧X.cell? ⟨w.heap.size,2,none⟩=some (.int .i32 l)∧X.cell? ⟨w.heap.size,3,none⟩=some (.int .u16 (g:Int))):=hide (fun X hX=>by
  obtain ⟨q0,q1,q2,q3,_⟩:=vc_cells ((hX.block _ (lt_heap hE)).trans hE)
  exact ⟨q0,q1,q2,q3⟩)
 have H1:=hide ((Below.refl W.heap.size W).drew)
 have hTW:TQ pl Z W (.pointer o) c:=h.but hBt (fun k hk e=>by have e9:k=ob:=e;exact hZ (e9 ▸ hk))
 have HC:=hide (clock_any hpl (hTW.bel H1.out) hv.fg hv.ft hv.fl hv.fp hv.fz)
 have HEnd:Hid (∀ w1 o1,Below W.heap.size W w1→TQ pl (Nz Z w w1) w1 (.pointer o1) (vclk c g tm)→_):=hide (fun w1 o1 a1 a2=>ks_end (g:=g) hob hBt hWo a1 a2 hx hZ hZs hso hn)
 have HSz:=hide hBt.size
 have HW:=hide hW
 have HOc:Hid (∀ X,Below W.heap.size W X→X.cell? ⟨ob,1,none⟩=some sv∧ob < X.heap.size):=hide (fun X hX=>by
  have h9:=(hX.block ob (lt_heap hWo)).trans hWo
  exact ⟨cell_at h9 rfl,lt_heap h9⟩)
 have HNe:Hid (∀ X Y,But (fun k=>sv.ownBlock=some k) X Y→Y.cell? ⟨w.heap.size,0,none⟩=Y.cell? ⟨w.heap.size,0,none⟩):=hide (fun _ _ _=>rfl)
 have HLt:Hid (¬ sv.ownBlock=some w.heap.size∧¬ w.heap.size=ob):=hide ⟨fun e=>by
  rcases hx.2 with ⟨e9,_⟩|⟨g9,off,cap,e9,_,hg,_⟩
  ·rw [e9] at e;cases e
  ·rw [e9] at e;have e7:g9=w.heap.size:=Option.some.inj e;omega,fun e=>by have:=lt_heap hob;omega⟩
 have kl2:=lt_heap hE
 obtain ⟨y1,yl⟩:=HOc.out W (Below.refl _ _)
 obtain ⟨sa,sn,sc,hsv⟩:∃ a n c,sv=.slice a n c:=by
  rcases hx.2 with ⟨e9,_⟩|⟨g9,off,cap,e9,_⟩
  ·exact ⟨_,_,_,e9⟩
  ·exact ⟨_,_,_,e9⟩
 subst hsv
 generalize (g:Int)=G at HSx HC HW0 HEnd ⊢
 clear h hE hW hv hpl hob hZ hx hZs hso hn hTW hBt hWo HNe hb hWo0 hW0 HVw
 go_enter Tryz.func253,Tryz.ntmps253
 go_wp2_with fail
 rw [← HW0.out]
 clear HW0
 refine HU.out.mono ?_
 rintro e0 w0 ⟨rfl,hw0⟩
 obtain rfl:W0=w0:=hw0.symm
 clear HU hw0
 go_wp2_with fail
 rw [← HW.out]
 clear HW
 refine wp_region_noPanic ?_
 refine wp_region_held_drew (S:=fun X=>X.cell? ⟨w.heap.size,0,none⟩=some (.pointer o)∧X.cell? ⟨w.heap.size,1,none⟩=some (.int .i32 tm)∧X.cell? ⟨w.heap.size,2,none⟩=some (.int .i32 l)∧X.cell? ⟨w.heap.size,3,none⟩=some (.int .u16 G)) (by kernel_rfl) (HSx.out _ H1.out) (fun hHeld=>?_)
 refine wpAnyH_take (i:=0) (oi:=_) (v:=?v0_31) rfl (by kernel_rfl) (by kernel_rfl) (by kernel_rfl) (fun _ _ _ h=>h) (Or.inl ⟨by rfl,?y0_31⟩) (by assumption) ?r0_31
 case y0_31=>(intro w' hSw;(try dsimp only at hSw);go_simp;try with_reducible rfl)
 refine wpAnyH_take (i:=1) (oi:=_) (v:=?v1_32) rfl (by kernel_rfl) (by kernel_rfl) (by kernel_rfl) (fun _ _ _ h=>h) (Or.inl ⟨by rfl,?y1_32⟩) (by assumption) ?r1_32
 case y1_32=>(intro w' hSw;(try dsimp only at hSw);go_simp;try with_reducible rfl)
 refine wpAnyH_take (i:=2) (oi:=_) (v:=?v2_33) rfl (by kernel_rfl) (by kernel_rfl) (by kernel_rfl) (fun _ _ _ h=>h) (Or.inl ⟨by rfl,?y2_33⟩) (by assumption) ?r2_33
 case y2_33=>(intro w' hSw;(try dsimp only at hSw);go_simp;try with_reducible rfl)
 refine wpAnyH_take (i:=3) (oi:=_) (v:=?v3_34) rfl (by kernel_rfl) (by kernel_rfl) (by kernel_rfl) (fun _ _ _ h=>h) (Or.inl ⟨by rfl,?y3_34⟩) (by assumption) ?r3_34
 case y3_34=>(intro w' hSw;(try dsimp only at hSw);go_simp;try with_reducible rfl)
 refine wpAnyH_take (i:=5) (oi:=_) (v:=?v5_35) rfl (by kernel_rfl) (by kernel_rfl) (by kernel_rfl) (fun _ _ _ h=>h) (Or.inl ⟨by rfl,?y5_35⟩) (by assumption) ?r5_35
 case y5_35=>(intro w' hSw;(try dsimp only at hSw);go_simp;try with_reducible rfl)
 refine wpAnyH_take (i:=6) (oi:=_) (v:=?v6_36) rfl (by kernel_rfl) (by kernel_rfl) (by kernel_rfl) (fun _ _ _ h=>h) (Or.inl ⟨by rfl,?y6_36⟩) (by assumption) ?r6_36
 case y6_36=>(intro w' hSw;(try dsimp only at hSw);go_simp;try with_reducible rfl)
 refine wpAnyH_take (i:=7) (oi:=_) (v:=?v7_37) rfl (by kernel_rfl) (by kernel_rfl) (by kernel_rfl) (fun _ _ _ h=>h) (Or.inl ⟨by rfl,?y7_37⟩) (by assumption) ?r7_37
 case y7_37=>(intro w' hSw;(try dsimp only at hSw);go_simp;try with_reducible rfl)
 refine wpAnyH_ready (rs:=[4,8]) (by kernel_rfl) (by simp) ?_
 refine AllReadyH.cons (o:=_) rfl (fun KK hKK=>?_) (AllReadyH.cons (o:=_) rfl (fun KK hKK=>?_) AllReadyH.nil)
 ·go_simp
  refine hKK.out _ _ (HSx.out _ H1.out) (fun hHeld4=>?_)
  clear hKK KK
  refine wpAnyH_ready (rs:=[8]) (by kernel_rfl) (by simp) ?_
  refine AllReadyH.cons (o:=_) rfl (fun KK hKK=>?_) AllReadyH.nil
  go_simp
  refine HC.out.mono ?_
  rintro e1 w1 ⟨v1,rfl,hq1,hb1⟩
  obtain ⟨o1,ho1⟩:=hq1.form
  subst ho1
  have HX1:Hid (Below W.heap.size W w1):=hide (H1.out.trans (hb1.mono H1.out.size))
  have HX2:Hid (Below W.heap.size W (w1.alloc (.cells #[.int .u16 G,.pointer o1] 322))):=hide (HX1.out.trans ((below_alloc1 w1 _).mono HX1.out.size))
  obtain ⟨va,vn,vc,w2,E1,hB,z1,zf,zl,hKs⟩:=HEnd.out w1 o1 HX1.out (hq1.mono (Nz.up (show w.heap.size≤W.drew.heap.size from HSz.out)))
  have HKs:=hide hKs
  have HS2:Hid ((fun X=>X.cell? ⟨w.heap.size,0,none⟩=some (.pointer o)∧X.cell? ⟨w.heap.size,1,none⟩=some (.int .i32 tm)∧X.cell? ⟨w.heap.size,2,none⟩=some (.int .i32 l)∧X.cell? ⟨w.heap.size,3,none⟩=some (.int .u16 G)) w2):=hide (by
   obtain ⟨a0,a1,a2,a3⟩:=HSx.out w1 HX1.out
   exact ⟨cell_but a0 hB HLt.out.1,cell_but a1 hB HLt.out.1,cell_but a2 hB HLt.out.1,cell_but a3 hB HLt.out.1⟩)
  have HS3:Hid ((fun X=>X.cell? ⟨w.heap.size,0,none⟩=some (.pointer o)∧X.cell? ⟨w.heap.size,1,none⟩=some (.int .i32 tm)∧X.cell? ⟨w.heap.size,2,none⟩=some (.int .i32 l)∧X.cell? ⟨w.heap.size,3,none⟩=some (.int .u16 G)) (w2.setCell ⟨ob,1,none⟩ (.slice va vn vc))):=hide (by
   have hB:But (fun j=>j=ob) w2 (w2.setCell ⟨ob,1,none⟩ (.slice va vn vc)):=(But.refl (fun j=>j=ob) w2).setCell ⟨ob,1,none⟩ (fun _=>rfl) _
   obtain ⟨a0,a1,a2,a3⟩:=HS2.out
   exact ⟨cell_but a0 hB HLt.out.2,cell_but a1 hB HLt.out.2,cell_but a2 hB HLt.out.2,cell_but a3 hB HLt.out.2⟩)
  clear hq1 hb1 hB hKs
  refine hKK.out _ _ (HSx.out _ HX1.out) (fun hHeld8=>?_)
  clear hKK KK
  refine wpAnyH_take (i:=9) (oi:=_) (v:=?v9_38) rfl (by kernel_rfl) (by kernel_rfl) (by kernel_rfl) (fun _ _ _ h=>h) (Or.inl ⟨by rfl,?y9_38⟩) (by assumption) ?r9_38
  case y9_38=>(intro w' hSw;(try dsimp only at hSw);go_simp;try with_reducible rfl)
  refine wpAnyH_ready (rs:=[10]) (by kernel_rfl) (by simp) ?_
  refine AllReadyH.cons (o:=_) rfl (fun KK hKK=>?_) AllReadyH.nil
  go_simp
  refine hKK.out _ _ (HSx.out _ HX2.out) (fun hHeld10=>?_)
  clear hKK KK
  refine wpAnyH_ready (rs:=[11]) (by kernel_rfl) (by simp) ?_
  refine AllReadyH.cons (o:=_) rfl (fun KK hKK=>?_) AllReadyH.nil
  refine wp_append_run (s:=.tmp 32) (x:=.tmp 38) rfl rfl rfl E1 ?_
  refine hKK.out _ _ (HS2.out) (fun hHeld11=>?_)
  clear hKK KK
  refine wpAnyH_take (i:=12) (oi:=_) (v:=?v12_39) rfl (by kernel_rfl) (by kernel_rfl) (by kernel_rfl) (fun _ _ _ h=>h) (Or.inl ⟨by rfl,?y12_39⟩) (by assumption) ?r12_39
  case y12_39=>(intro w' hSw;(try dsimp only at hSw);go_simp;try with_reducible rfl)
  refine wpAnyH_take (i:=13) (oi:=_) (v:=?v13_40) rfl (by kernel_rfl) (by kernel_rfl) (by kernel_rfl) (fun _ _ _ h=>h) (Or.inl ⟨by rfl,?y13_40⟩) (by assumption) ?r13_40
  case y13_40=>(intro w' hSw;(try dsimp only at hSw);go_simp;try with_reducible rfl)
  refine wpAnyH_ready (rs:=[14]) (by kernel_rfl) (by simp) ?_
  refine AllReadyH.cons (o:=_) rfl (fun KK hKK=>?_) AllReadyH.nil
  go_simp
  refine hKK.out _ _ (HS3.out) (fun hHeld14=>?_)
  clear hKK KK
  refine wpAnyH_done (by kernel_rfl) ?_ _
  refine NoPanic.normal ?_
  clear hHeld
  go_wp2
  go_end0
  exact ⟨rfl,HKs.out⟩
 ·go_simp
  refine HC.out.mono ?_
  rintro e1 w1 ⟨v1,rfl,hq1,hb1⟩
  obtain ⟨o1,ho1⟩:=hq1.form
  subst ho1
  have HX1:Hid (Below W.heap.size W w1):=hide (H1.out.trans (hb1.mono H1.out.size))
  have HX2:Hid (Below W.heap.size W (w1.alloc (.cells #[.int .u16 G,.pointer o1] 322))):=hide (HX1.out.trans ((below_alloc1 w1 _).mono HX1.out.size))
  obtain ⟨va,vn,vc,w2,E1,hB,z1,zf,zl,hKs⟩:=HEnd.out w1 o1 HX1.out (hq1.mono (Nz.up (show w.heap.size≤W.drew.heap.size from HSz.out)))
  have HKs:=hide hKs
  have HS2:Hid ((fun X=>X.cell? ⟨w.heap.size,0,none⟩=some (.pointer o)∧X.cell? ⟨w.heap.size,1,none⟩=some (.int .i32 tm)∧X.cell? ⟨w.heap.size,2,none⟩=some (.int .i32 l)∧X.cell? ⟨w.heap.size,3,none⟩=some (.int .u16 G)) w2):=hide (by
   obtain ⟨a0,a1,a2,a3⟩:=HSx.out w1 HX1.out
   exact ⟨cell_but a0 hB HLt.out.1,cell_but a1 hB HLt.out.1,cell_but a2 hB HLt.out.1,cell_but a3 hB HLt.out.1⟩)
  have HS3:Hid ((fun X=>X.cell? ⟨w.heap.size,0,none⟩=some (.pointer o)∧X.cell? ⟨w.heap.size,1,none⟩=some (.int .i32 tm)∧X.cell? ⟨w.heap.size,2,none⟩=some (.int .i32 l)∧X.cell? ⟨w.heap.size,3,none⟩=some (.int .u16 G)) (w2.setCell ⟨ob,1,none⟩ (.slice va vn vc))):=hide (by
   have hB:But (fun j=>j=ob) w2 (w2.setCell ⟨ob,1,none⟩ (.slice va vn vc)):=(But.refl (fun j=>j=ob) w2).setCell ⟨ob,1,none⟩ (fun _=>rfl) _
   obtain ⟨a0,a1,a2,a3⟩:=HS2.out
   exact ⟨cell_but a0 hB HLt.out.2,cell_but a1 hB HLt.out.2,cell_but a2 hB HLt.out.2,cell_but a3 hB HLt.out.2⟩)
  clear hq1 hb1 hB hKs
  refine hKK.out _ _ (HSx.out _ HX1.out) (fun hHeld8=>?_)
  clear hKK KK
  refine wpAnyH_take (i:=9) (oi:=_) (v:=?v9_41) rfl (by kernel_rfl) (by kernel_rfl) (by kernel_rfl) (fun _ _ _ h=>h) (Or.inl ⟨by rfl,?y9_41⟩) (by assumption) ?r9_41
  case y9_41=>(intro w' hSw;(try dsimp only at hSw);go_simp;try with_reducible rfl)
  refine wpAnyH_ready (rs:=[4,10]) (by kernel_rfl) (by simp) ?_
  refine AllReadyH.cons (o:=_) rfl (fun KK hKK=>?_) (AllReadyH.cons (o:=_) rfl (fun KK hKK=>?_) AllReadyH.nil)
  ·obtain ⟨u1,ul⟩:=HOc.out w1 HX1.out
   go_simp
   refine hKK.out _ _ (HSx.out _ HX1.out) (fun hHeld4=>?_)
   clear hKK KK
   refine wpAnyH_ready (rs:=[10]) (by kernel_rfl) (by simp) ?_
   refine AllReadyH.cons (o:=_) rfl (fun KK hKK=>?_) AllReadyH.nil
   go_simp
   refine hKK.out _ _ (HSx.out _ HX2.out) (fun hHeld10=>?_)
   clear hKK KK
   refine wpAnyH_ready (rs:=[11]) (by kernel_rfl) (by simp) ?_
   refine AllReadyH.cons (o:=_) rfl (fun KK hKK=>?_) AllReadyH.nil
   refine wp_append_run (s:=.tmp 32) (x:=.tmp 38) rfl rfl rfl E1 ?_
   refine hKK.out _ _ (HS2.out) (fun hHeld11=>?_)
   clear hKK KK
   refine wpAnyH_take (i:=12) (oi:=_) (v:=?v12_42) rfl (by kernel_rfl) (by kernel_rfl) (by kernel_rfl) (fun _ _ _ h=>h) (Or.inl ⟨by rfl,?y12_42⟩) (by assumption) ?r12_42
   case y12_42=>(intro w' hSw;(try dsimp only at hSw);go_simp;try with_reducible rfl)
   refine wpAnyH_take (i:=13) (oi:=_) (v:=?v13_43) rfl (by kernel_rfl) (by kernel_rfl) (by kernel_rfl) (fun _ _ _ h=>h) (Or.inl ⟨by rfl,?y13_43⟩) (by assumption) ?r13_43
   case y13_43=>(intro w' hSw;(try dsimp only at hSw);go_simp;try with_reducible rfl)
   refine wpAnyH_ready (rs:=[14]) (by kernel_rfl) (by simp) ?_
   refine AllReadyH.cons (o:=_) rfl (fun KK hKK=>?_) AllReadyH.nil
   go_simp
   refine hKK.out _ _ (HS3.out) (fun hHeld14=>?_)
   clear hKK KK
   refine wpAnyH_done (by kernel_rfl) ?_ _
   refine NoPanic.normal ?_
   clear hHeld
   go_wp2
   go_end0
   exact ⟨rfl,HKs.out⟩
  ·go_simp
   refine hKK.out _ _ (HSx.out _ HX2.out) (fun hHeld10=>?_)
   clear hKK KK
   refine wpAnyH_ready (rs:=[4]) (by kernel_rfl) (by simp) ?_
   refine AllReadyH.cons (o:=_) rfl (fun KK hKK=>?_) AllReadyH.nil
   obtain ⟨u1,ul⟩:=HOc.out _ HX2.out
   go_simp
   refine hKK.out _ _ (HSx.out _ HX2.out) (fun hHeld4=>?_)
   clear hKK KK
   refine wpAnyH_ready (rs:=[11]) (by kernel_rfl) (by simp) ?_
   refine AllReadyH.cons (o:=_) rfl (fun KK hKK=>?_) AllReadyH.nil
   refine wp_append_run (s:=.tmp 32) (x:=.tmp 38) rfl rfl rfl E1 ?_
   refine hKK.out _ _ (HS2.out) (fun hHeld11=>?_)
   clear hKK KK
   refine wpAnyH_take (i:=12) (oi:=_) (v:=?v12_44) rfl (by kernel_rfl) (by kernel_rfl) (by kernel_rfl) (fun _ _ _ h=>h) (Or.inl ⟨by rfl,?y12_44⟩) (by assumption) ?r12_44
   case y12_44=>(intro w' hSw;(try dsimp only at hSw);go_simp;try with_reducible rfl)
   refine wpAnyH_take (i:=13) (oi:=_) (v:=?v13_45) rfl (by kernel_rfl) (by kernel_rfl) (by kernel_rfl) (fun _ _ _ h=>h) (Or.inl ⟨by rfl,?y13_45⟩) (by assumption) ?r13_45
   case y13_45=>(intro w' hSw;(try dsimp only at hSw);go_simp;try with_reducible rfl)
   refine wpAnyH_ready (rs:=[14]) (by kernel_rfl) (by simp) ?_
   refine AllReadyH.cons (o:=_) rfl (fun KK hKK=>?_) AllReadyH.nil
   go_simp
   refine hKK.out _ _ (HS3.out) (fun hHeld14=>?_)
   clear hKK KK
   refine wpAnyH_done (by kernel_rfl) ?_ _
   refine NoPanic.normal ?_
   clear hHeld
   go_wp2
   go_end0
   exact ⟨rfl,HKs.out⟩
theorem send_cut1 (hpl:Rise2 pl) {qb qo:Nat} (hf:¬ 0 < fr) (hob:w.heap[ob]?=some (.cells #[.int .u64 fr,sv,.slice (some ⟨qb,qo,none⟩) 1 1,.map none,x4] 231 (0,0))) (hZ:¬ Z ob) (h:TQ pl Z w k c) (hv:Vok pl g tm l) (hx:Win w 2 sv n xs) (hZs:∀ k,sv.ownBlock=some k→¬ Z k) (hso:sv.ownBlock≠some ob) (hn:n≤1048576) :
  Calls Tryz.prog 253 #[.pointer (some ⟨ob,0,none⟩),.agg #[k,.int .i32 tm,.int .i32 l,.int .u16 (g:Int)]] w fun e w'=>e=.returned (.tuple #[])∧Ks pl Z w w' ob (fr) sv (.slice (some ⟨qb,qo,none⟩) 0 0) (.map none) x4 n g xs (vclk c g tm):=by
 obtain ⟨o,rfl⟩:=h.form
 obtain ⟨W0,hW0⟩:∃ W0,W0=w.alloc (.cells (vC (.pointer o) tm l (g:Int)) 76):=⟨_,rfl⟩
 have hb:Below w.heap.size w W0:=by rw [hW0];exact below_alloc1 w _
 have hWo0:W0.heap[ob]?=some (.cells #[.int .u64 fr,sv,.slice (some ⟨qb,qo,none⟩) 1 1,.map none,x4] 231 (0,0)):=(hb.block ob (lt_heap hob)).trans hob
 have HU:=hide (ch_buf hWo0)
 obtain ⟨W,hW⟩:∃ W,W=W0.setCell ⟨ob,2,none⟩ (.slice (some ⟨qb,qo,none⟩) 0 0):=⟨_,rfl⟩
 obtain ⟨hWo,hBt⟩:=but_set hob (But.of_below (S:=fun j=>j=ob) hb) hWo0 2 (.slice (some ⟨qb,qo,none⟩) 0 0)
 rw [← hW] at hWo hBt
 have HW0:=hide hW0
 unfold vC at HW0
 have i0:W0.cell? ⟨ob,0,none⟩=some (.int .u64 fr):=cell_at hWo0 rfl
 have if0:W0.frozen? ⟨ob,2,none⟩=false:=frz hWo0 2
 have i2:W0.cell? ⟨ob,2,none⟩=some (.slice (some ⟨qb,qo,none⟩) 1 1):=cell_at hWo0 rfl
 have il:=lt_heap hWo0
 have HVw:=hide (heap_new w (.cells (vC (.pointer o) tm l (g:Int)) 76))
 rw [← hW0] at HVw
 have hE:W.heap[w.heap.size]?=some (.cells (vC (.pointer o) tm l (g:Int)) 76 (0,0)):=by rw [hW,Below.heap_setCell _ _ _ _ (fun e=>by have:=lt_heap hob;have e9:w.heap.size=ob:=e;omega)];exact HVw.out
 have HSx:Hid (∀ X,Below W.heap.size W X→X.cell? ⟨w.heap.size,0,none⟩=some (.pointer o)∧X.cell? ⟨w.heap.size,1,none⟩=some (.int .i32 tm)∧X.cell? ⟨w.heap.size,2,none⟩=some (.int .i32 l)∧X.cell? ⟨w.heap.size,3,none⟩=some (.int .u16 (g:Int))):=hide (fun X hX=>by
  obtain ⟨q0,q1,q2,q3,_⟩:=vc_cells ((hX.block _ (lt_heap hE)).trans hE)
  exact ⟨q0,q1,q2,q3⟩)
 have H1:=hide ((Below.refl W.heap.size W).drew)
 have hTW:TQ pl Z W (.pointer o) c:=h.but hBt (fun k hk e=>by have e9:k=ob:=e;exact hZ (e9 ▸ hk))
 have HC:=hide (clock_any hpl (hTW.bel H1.out) hv.fg hv.ft hv.fl hv.fp hv.fz)
 have HEnd:Hid (∀ w1 o1,Below W.heap.size W w1→TQ pl (Nz Z w w1) w1 (.pointer o1) (vclk c g tm)→_):=hide (fun w1 o1 a1 a2=>ks_end (g:=g) hob hBt hWo a1 a2 hx hZ hZs hso hn)
 have HSz:=hide hBt.size
 have HW:=hide hW
 have HOc:Hid (∀ X,Below W.heap.size W X→X.cell? ⟨ob,1,none⟩=some sv∧ob < X.heap.size):=hide (fun X hX=>by
  have h9:=(hX.block ob (lt_heap hWo)).trans hWo
  exact ⟨cell_at h9 rfl,lt_heap h9⟩)
 have HNe:Hid (∀ X Y,But (fun k=>sv.ownBlock=some k) X Y→Y.cell? ⟨w.heap.size,0,none⟩=Y.cell? ⟨w.heap.size,0,none⟩):=hide (fun _ _ _=>rfl)
 have HLt:Hid (¬ sv.ownBlock=some w.heap.size∧¬ w.heap.size=ob):=hide ⟨fun e=>by
  rcases hx.2 with ⟨e9,_⟩|⟨g9,off,cap,e9,_,hg,_⟩
  ·rw [e9] at e;cases e
  ·rw [e9] at e;have e7:g9=w.heap.size:=Option.some.inj e;omega,fun e=>by have:=lt_heap hob;omega⟩
 have kl2:=lt_heap hE
 obtain ⟨y1,yl⟩:=HOc.out W (Below.refl _ _)
 obtain ⟨sa,sn,sc,hsv⟩:∃ a n c,sv=.slice a n c:=by
  rcases hx.2 with ⟨e9,_⟩|⟨g9,off,cap,e9,_⟩
  ·exact ⟨_,_,_,e9⟩
  ·exact ⟨_,_,_,e9⟩
 subst hsv
 generalize (g:Int)=G at HSx HC HW0 HEnd ⊢
 clear h hE hW hv hpl hob hZ hx hZs hso hn hTW hBt hWo HNe hb hWo0 hW0 HVw
 go_enter Tryz.func253,Tryz.ntmps253
 go_wp2_with fail
 rw [← HW0.out]
 clear HW0
 refine HU.out.mono ?_
 rintro e0 w0 ⟨rfl,hw0⟩
 obtain rfl:W0=w0:=hw0.symm
 clear HU hw0
 go_wp2_with fail
 rw [← HW.out]
 clear HW
 refine wp_region_noPanic ?_
 refine wp_region_held_drew (S:=fun X=>X.cell? ⟨w.heap.size,0,none⟩=some (.pointer o)∧X.cell? ⟨w.heap.size,1,none⟩=some (.int .i32 tm)∧X.cell? ⟨w.heap.size,2,none⟩=some (.int .i32 l)∧X.cell? ⟨w.heap.size,3,none⟩=some (.int .u16 G)) (by kernel_rfl) (HSx.out _ H1.out) (fun hHeld=>?_)
 refine wpAnyH_take (i:=0) (oi:=_) (v:=?v0_46) rfl (by kernel_rfl) (by kernel_rfl) (by kernel_rfl) (fun _ _ _ h=>h) (Or.inl ⟨by rfl,?y0_46⟩) (by assumption) ?r0_46
 case y0_46=>(intro w' hSw;(try dsimp only at hSw);go_simp;try with_reducible rfl)
 refine wpAnyH_take (i:=1) (oi:=_) (v:=?v1_47) rfl (by kernel_rfl) (by kernel_rfl) (by kernel_rfl) (fun _ _ _ h=>h) (Or.inl ⟨by rfl,?y1_47⟩) (by assumption) ?r1_47
 case y1_47=>(intro w' hSw;(try dsimp only at hSw);go_simp;try with_reducible rfl)
 refine wpAnyH_take (i:=2) (oi:=_) (v:=?v2_48) rfl (by kernel_rfl) (by kernel_rfl) (by kernel_rfl) (fun _ _ _ h=>h) (Or.inl ⟨by rfl,?y2_48⟩) (by assumption) ?r2_48
 case y2_48=>(intro w' hSw;(try dsimp only at hSw);go_simp;try with_reducible rfl)
 refine wpAnyH_take (i:=3) (oi:=_) (v:=?v3_49) rfl (by kernel_rfl) (by kernel_rfl) (by kernel_rfl) (fun _ _ _ h=>h) (Or.inl ⟨by rfl,?y3_49⟩) (by assumption) ?r3_49
 case y3_49=>(intro w' hSw;(try dsimp only at hSw);go_simp;try with_reducible rfl)
 refine wpAnyH_take (i:=5) (oi:=_) (v:=?v5_50) rfl (by kernel_rfl) (by kernel_rfl) (by kernel_rfl) (fun _ _ _ h=>h) (Or.inl ⟨by rfl,?y5_50⟩) (by assumption) ?r5_50
 case y5_50=>(intro w' hSw;(try dsimp only at hSw);go_simp;try with_reducible rfl)
 refine wpAnyH_take (i:=6) (oi:=_) (v:=?v6_51) rfl (by kernel_rfl) (by kernel_rfl) (by kernel_rfl) (fun _ _ _ h=>h) (Or.inl ⟨by rfl,?y6_51⟩) (by assumption) ?r6_51
 case y6_51=>(intro w' hSw;(try dsimp only at hSw);go_simp;try with_reducible rfl)
 refine wpAnyH_take (i:=7) (oi:=_) (v:=?v7_52) rfl (by kernel_rfl) (by kernel_rfl) (by kernel_rfl) (fun _ _ _ h=>h) (Or.inl ⟨by rfl,?y7_52⟩) (by assumption) ?r7_52
 case y7_52=>(intro w' hSw;(try dsimp only at hSw);go_simp;try with_reducible rfl)
 refine wpAnyH_ready (rs:=[4,8]) (by kernel_rfl) (by simp) ?_
 refine AllReadyH.cons (o:=_) rfl (fun KK hKK=>?_) (AllReadyH.cons (o:=_) rfl (fun KK hKK=>?_) AllReadyH.nil)
 ·go_simp
  refine hKK.out _ _ (HSx.out _ H1.out) (fun hHeld4=>?_)
  clear hKK KK
  refine wpAnyH_ready (rs:=[8]) (by kernel_rfl) (by simp) ?_
  refine AllReadyH.cons (o:=_) rfl (fun KK hKK=>?_) AllReadyH.nil
  go_simp
  refine HC.out.mono ?_
  rintro e1 w1 ⟨v1,rfl,hq1,hb1⟩
  obtain ⟨o1,ho1⟩:=hq1.form
  subst ho1
  have HX1:Hid (Below W.heap.size W w1):=hide (H1.out.trans (hb1.mono H1.out.size))
  have HX2:Hid (Below W.heap.size W (w1.alloc (.cells #[.int .u16 G,.pointer o1] 322))):=hide (HX1.out.trans ((below_alloc1 w1 _).mono HX1.out.size))
  obtain ⟨va,vn,vc,w2,E1,hB,z1,zf,zl,hKs⟩:=HEnd.out w1 o1 HX1.out (hq1.mono (Nz.up (show w.heap.size≤W.drew.heap.size from HSz.out)))
  have HKs:=hide hKs
  have HS2:Hid ((fun X=>X.cell? ⟨w.heap.size,0,none⟩=some (.pointer o)∧X.cell? ⟨w.heap.size,1,none⟩=some (.int .i32 tm)∧X.cell? ⟨w.heap.size,2,none⟩=some (.int .i32 l)∧X.cell? ⟨w.heap.size,3,none⟩=some (.int .u16 G)) w2):=hide (by
   obtain ⟨a0,a1,a2,a3⟩:=HSx.out w1 HX1.out
   exact ⟨cell_but a0 hB HLt.out.1,cell_but a1 hB HLt.out.1,cell_but a2 hB HLt.out.1,cell_but a3 hB HLt.out.1⟩)
  have HS3:Hid ((fun X=>X.cell? ⟨w.heap.size,0,none⟩=some (.pointer o)∧X.cell? ⟨w.heap.size,1,none⟩=some (.int .i32 tm)∧X.cell? ⟨w.heap.size,2,none⟩=some (.int .i32 l)∧X.cell? ⟨w.heap.size,3,none⟩=some (.int .u16 G)) (w2.setCell ⟨ob,1,none⟩ (.slice va vn vc))):=hide (by
   have hB:But (fun j=>j=ob) w2 (w2.setCell ⟨ob,1,none⟩ (.slice va vn vc)):=(But.refl (fun j=>j=ob) w2).setCell ⟨ob,1,none⟩ (fun _=>rfl) _
   obtain ⟨a0,a1,a2,a3⟩:=HS2.out
   exact ⟨cell_but a0 hB HLt.out.2,cell_but a1 hB HLt.out.2,cell_but a2 hB HLt.out.2,cell_but a3 hB HLt.out.2⟩)
  clear hq1 hb1 hB hKs
  refine hKK.out _ _ (HSx.out _ HX1.out) (fun hHeld8=>?_)
  clear hKK KK
  refine wpAnyH_take (i:=9) (oi:=_) (v:=?v9_53) rfl (by kernel_rfl) (by kernel_rfl) (by kernel_rfl) (fun _ _ _ h=>h) (Or.inl ⟨by rfl,?y9_53⟩) (by assumption) ?r9_53
  case y9_53=>(intro w' hSw;(try dsimp only at hSw);go_simp;try with_reducible rfl)
  refine wpAnyH_ready (rs:=[10]) (by kernel_rfl) (by simp) ?_
  refine AllReadyH.cons (o:=_) rfl (fun KK hKK=>?_) AllReadyH.nil
  go_simp
  refine hKK.out _ _ (HSx.out _ HX2.out) (fun hHeld10=>?_)
  clear hKK KK
  refine wpAnyH_ready (rs:=[11]) (by kernel_rfl) (by simp) ?_
  refine AllReadyH.cons (o:=_) rfl (fun KK hKK=>?_) AllReadyH.nil
  refine wp_append_run (s:=.tmp 32) (x:=.tmp 38) rfl rfl rfl E1 ?_
  refine hKK.out _ _ (HS2.out) (fun hHeld11=>?_)
  clear hKK KK
  refine wpAnyH_take (i:=12) (oi:=_) (v:=?v12_54) rfl (by kernel_rfl) (by kernel_rfl) (by kernel_rfl) (fun _ _ _ h=>h) (Or.inl ⟨by rfl,?y12_54⟩) (by assumption) ?r12_54
  case y12_54=>(intro w' hSw;(try dsimp only at hSw);go_simp;try with_reducible rfl)
  refine wpAnyH_take (i:=13) (oi:=_) (v:=?v13_55) rfl (by kernel_rfl) (by kernel_rfl) (by kernel_rfl) (fun _ _ _ h=>h) (Or.inl ⟨by rfl,?y13_55⟩) (by assumption) ?r13_55
  case y13_55=>(intro w' hSw;(try dsimp only at hSw);go_simp;try with_reducible rfl)
  refine wpAnyH_ready (rs:=[14]) (by kernel_rfl) (by simp) ?_
  refine AllReadyH.cons (o:=_) rfl (fun KK hKK=>?_) AllReadyH.nil
  go_simp
  refine hKK.out _ _ (HS3.out) (fun hHeld14=>?_)
  clear hKK KK
  refine wpAnyH_done (by kernel_rfl) ?_ _
  refine NoPanic.normal ?_
  clear hHeld
  go_wp2
  go_end0
  exact ⟨rfl,HKs.out⟩
 ·go_simp
  refine HC.out.mono ?_
  rintro e1 w1 ⟨v1,rfl,hq1,hb1⟩
  obtain ⟨o1,ho1⟩:=hq1.form
  subst ho1
  have HX1:Hid (Below W.heap.size W w1):=hide (H1.out.trans (hb1.mono H1.out.size))
  have HX2:Hid (Below W.heap.size W (w1.alloc (.cells #[.int .u16 G,.pointer o1] 322))):=hide (HX1.out.trans ((below_alloc1 w1 _).mono HX1.out.size))
  obtain ⟨va,vn,vc,w2,E1,hB,z1,zf,zl,hKs⟩:=HEnd.out w1 o1 HX1.out (hq1.mono (Nz.up (show w.heap.size≤W.drew.heap.size from HSz.out)))
  have HKs:=hide hKs
  have HS2:Hid ((fun X=>X.cell? ⟨w.heap.size,0,none⟩=some (.pointer o)∧X.cell? ⟨w.heap.size,1,none⟩=some (.int .i32 tm)∧X.cell? ⟨w.heap.size,2,none⟩=some (.int .i32 l)∧X.cell? ⟨w.heap.size,3,none⟩=some (.int .u16 G)) w2):=hide (by
   obtain ⟨a0,a1,a2,a3⟩:=HSx.out w1 HX1.out
   exact ⟨cell_but a0 hB HLt.out.1,cell_but a1 hB HLt.out.1,cell_but a2 hB HLt.out.1,cell_but a3 hB HLt.out.1⟩)
  have HS3:Hid ((fun X=>X.cell? ⟨w.heap.size,0,none⟩=some (.pointer o)∧X.cell? ⟨w.heap.size,1,none⟩=some (.int .i32 tm)∧X.cell? ⟨w.heap.size,2,none⟩=some (.int .i32 l)∧X.cell? ⟨w.heap.size,3,none⟩=some (.int .u16 G)) (w2.setCell ⟨ob,1,none⟩ (.slice va vn vc))):=hide (by
   have hB:But (fun j=>j=ob) w2 (w2.setCell ⟨ob,1,none⟩ (.slice va vn vc)):=(But.refl (fun j=>j=ob) w2).setCell ⟨ob,1,none⟩ (fun _=>rfl) _
   obtain ⟨a0,a1,a2,a3⟩:=HS2.out
   exact ⟨cell_but a0 hB HLt.out.2,cell_but a1 hB HLt.out.2,cell_but a2 hB HLt.out.2,cell_but a3 hB HLt.out.2⟩)
  clear hq1 hb1 hB hKs
  refine hKK.out _ _ (HSx.out _ HX1.out) (fun hHeld8=>?_)
  clear hKK KK
  refine wpAnyH_take (i:=9) (oi:=_) (v:=?v9_56) rfl (by kernel_rfl) (by kernel_rfl) (by kernel_rfl) (fun _ _ _ h=>h) (Or.inl ⟨by rfl,?y9_56⟩) (by assumption) ?r9_56
  case y9_56=>(intro w' hSw;(try dsimp only at hSw);go_simp;try with_reducible rfl)
  refine wpAnyH_ready (rs:=[4,10]) (by kernel_rfl) (by simp) ?_
  refine AllReadyH.cons (o:=_) rfl (fun KK hKK=>?_) (AllReadyH.cons (o:=_) rfl (fun KK hKK=>?_) AllReadyH.nil)
  ·obtain ⟨u1,ul⟩:=HOc.out w1 HX1.out
   go_simp
   refine hKK.out _ _ (HSx.out _ HX1.out) (fun hHeld4=>?_)
   clear hKK KK
   refine wpAnyH_ready (rs:=[10]) (by kernel_rfl) (by simp) ?_
   refine AllReadyH.cons (o:=_) rfl (fun KK hKK=>?_) AllReadyH.nil
   go_simp
   refine hKK.out _ _ (HSx.out _ HX2.out) (fun hHeld10=>?_)
   clear hKK KK
   refine wpAnyH_ready (rs:=[11]) (by kernel_rfl) (by simp) ?_
   refine AllReadyH.cons (o:=_) rfl (fun KK hKK=>?_) AllReadyH.nil
   refine wp_append_run (s:=.tmp 32) (x:=.tmp 38) rfl rfl rfl E1 ?_
   refine hKK.out _ _ (HS2.out) (fun hHeld11=>?_)
   clear hKK KK
   refine wpAnyH_take (i:=12) (oi:=_) (v:=?v12_57) rfl (by kernel_rfl) (by kernel_rfl) (by kernel_rfl) (fun _ _ _ h=>h) (Or.inl ⟨by rfl,?y12_57⟩) (by assumption) ?r12_57
   case y12_57=>(intro w' hSw;(try dsimp only at hSw);go_simp;try with_reducible rfl)
   refine wpAnyH_take (i:=13) (oi:=_) (v:=?v13_58) rfl (by kernel_rfl) (by kernel_rfl) (by kernel_rfl) (fun _ _ _ h=>h) (Or.inl ⟨by rfl,?y13_58⟩) (by assumption) ?r13_58
   case y13_58=>(intro w' hSw;(try dsimp only at hSw);go_simp;try with_reducible rfl)
   refine wpAnyH_ready (rs:=[14]) (by kernel_rfl) (by simp) ?_
   refine AllReadyH.cons (o:=_) rfl (fun KK hKK=>?_) AllReadyH.nil
   go_simp
   refine hKK.out _ _ (HS3.out) (fun hHeld14=>?_)
   clear hKK KK
   refine wpAnyH_done (by kernel_rfl) ?_ _
   refine NoPanic.normal ?_
   clear hHeld
   go_wp2
   go_end0
   exact ⟨rfl,HKs.out⟩
  ·go_simp
   refine hKK.out _ _ (HSx.out _ HX2.out) (fun hHeld10=>?_)
   clear hKK KK
   refine wpAnyH_ready (rs:=[4]) (by kernel_rfl) (by simp) ?_
   refine AllReadyH.cons (o:=_) rfl (fun KK hKK=>?_) AllReadyH.nil
   obtain ⟨u1,ul⟩:=HOc.out _ HX2.out
   go_simp
   refine hKK.out _ _ (HSx.out _ HX2.out) (fun hHeld4=>?_)
   clear hKK KK
   refine wpAnyH_ready (rs:=[11]) (by kernel_rfl) (by simp) ?_
   refine AllReadyH.cons (o:=_) rfl (fun KK hKK=>?_) AllReadyH.nil
   refine wp_append_run (s:=.tmp 32) (x:=.tmp 38) rfl rfl rfl E1 ?_
   refine hKK.out _ _ (HS2.out) (fun hHeld11=>?_)
   clear hKK KK
   refine wpAnyH_take (i:=12) (oi:=_) (v:=?v12_59) rfl (by kernel_rfl) (by kernel_rfl) (by kernel_rfl) (fun _ _ _ h=>h) (Or.inl ⟨by rfl,?y12_59⟩) (by assumption) ?r12_59
   case y12_59=>(intro w' hSw;(try dsimp only at hSw);go_simp;try with_reducible rfl)
   refine wpAnyH_take (i:=13) (oi:=_) (v:=?v13_60) rfl (by kernel_rfl) (by kernel_rfl) (by kernel_rfl) (fun _ _ _ h=>h) (Or.inl ⟨by rfl,?y13_60⟩) (by assumption) ?r13_60
   case y13_60=>(intro w' hSw;(try dsimp only at hSw);go_simp;try with_reducible rfl)
   refine wpAnyH_ready (rs:=[14]) (by kernel_rfl) (by simp) ?_
   refine AllReadyH.cons (o:=_) rfl (fun KK hKK=>?_) AllReadyH.nil
   go_simp
   refine hKK.out _ _ (HS3.out) (fun hHeld14=>?_)
   clear hKK KK
   refine wpAnyH_done (by kernel_rfl) ?_ _
   refine NoPanic.normal ?_
   clear hHeld
   go_wp2
   go_end0
   exact ⟨rfl,HKs.out⟩
end
end Go.Proofs.YtimgkhdgliojgaaGreatDoor
