import Derived.Test.YtimgkhdgliojgaaGreatDoorOg23
set_option maxRecDepth 8000
set_option maxHeartbeats 8000000
set_option linter.unusedVariables false
namespace Go.Proofs.YtimgkhdgliojgaaGreatDoor
open Go.RowKit Go.Maps
theorem info_pt:∃ i,Tryz.prog.info? 73=some i∧i.zero=some (.pointer none)∧i.size=1∧i.bytes=8:=by
 have h:(Tryz.prog.info? 73).map (fun i=>(i.zero,i.size,i.bytes))=some (some (.pointer none),1,8):=by kernel_rfl
 cases hq:Tryz.prog.info? 73 with
 | none=>rw [hq] at h;cases h
 | some j=>rw [hq] at h;simp at h;exact ⟨j,rfl,h.1,h.2.1,h.2.2⟩
structure Ke (pl:Nat→Int→Int) (Z:Nat→Prop) (w w':World) (ob:Nat) (fr:Int) (x1 sv x3 x4:Value) (n:Nat) (xs:List Value) (f:Nat→Int):Prop where
 ex:∃ sv' u,w'.heap[ob]?=some (.cells #[.int .u64 fr,x1,sv',x3,x4] 231 (0,0))∧Win w' 1 sv' (n+1) (xs++[u])∧∃ wm:World,TQ pl (Nz Z w wm) w' u f∧w.heap.size≤wm.heap.size∧wm.heap.size≤w'.heap.size∧(∀ k,sv'.ownBlock=some k→sv.ownBlock=some k∨wm.heap.size≤k)
 bt:But (fun j=>j=ob∨sv.ownBlock=some j) w w'
section
variable {pl : Nat → Int → Int} {Z : Nat → Prop} {w W w1 : World} {ob n g : Nat} {k sv x1 x2 x3 x4 : Value} {fr tm l fm : Int} {c f : Nat → Int} {xs : List Value} {cs : Array Value} {o1 : Option Addr} {eg ek eo : Int} {s : Value}
theorem ke_end (hob:w.heap[ob]?=some (.cells cs 231 (0,0))) (hW:But (fun j=>j=ob) w W) (hWo:W.heap[ob]?=some (.cells #[.int .u64 fr,x1,sv,x3,x4] 231 (0,0))) (h1:Below W.heap.size W w1) (hq:TQ pl (Nz Z w w1) w1 (.pointer o1) f) (hx:Win w 1 sv n xs) (hZ:¬ Z ob) (hZs:∀ k,sv.ownBlock=some k→¬ Z k) (hso:sv.ownBlock≠some ob) (hn:n≤1048576) :
  ∃ va vn vc w2,(Builtin.append_ #[201,201] 201 #[sv,.slice (some ⟨w1.heap.size,0,none⟩) 1 1]).run Tryz.prog (w1.alloc (.cells #[.pointer o1] 73))=.ok (.slice va vn vc) w2∧But (fun k=>sv.ownBlock=some k) w1 w2∧w2.cell? ⟨ob,2,none⟩=some sv∧w2.frozen? ⟨ob,2,none⟩=false∧ob < w2.heap.size∧Ke pl Z w (w2.setCell ⟨ob,2,none⟩ (.slice va vn vc)) ob fr x1 sv x3 x4 n xs f:=by
 obtain ⟨i,hi,hz,hs,hby⟩:=info_pt
 have hlt:=lt_heap hob
 have hsb:∀ k,sv.ownBlock=some k→k < w.heap.size:=fun k hk=>by
  rcases hx.2 with ⟨e,_⟩|⟨g9,off,cap,e,_,hg,_⟩
  ·rw [e] at hk;cases hk
  ·rw [e] at hk;cases hk;exact hg
 have hb1:But (fun j=>j=ob) w w1:=hW.on h1
 have hb2:But (fun j=>j=ob) w (w1.alloc (.cells #[.pointer o1] 73)):=hb1.alloc _
 have hx2:=hx.but hb2 (fun k hk e=>hso (by have e9:k=ob:=e;rw [← e9];exact hk))
 have hnw:∀ j u,[Value.pointer o1][j]?=some u→(w1.alloc (.cells #[.pointer o1] 73)).cell? ((⟨w1.heap.size,0,none⟩:Addr).add j)=some u:=fun j u hj=>by
  have hh:=heap_new w1 (.cells #[.pointer o1] 73)
  match j,hj with
  | 0,hj=>simp at hj;subst hj;rw [Addr.add_lit];exact cell_at hh rfl
 obtain ⟨v',w2,r1,r2,r3,r4⟩:=run_append_win (P:=Tryz.prog) 201 201 73 i _ 8 Tryz.underlying201 hi hz hs hby rfl (by omega) hx2 ⟨w1.heap.size,0,none⟩ 1 1 [.pointer o1] rfl hnw (by intro u hu;simp at hu;subst hu;rfl) (by unfold maxLen;omega) (by omega)
 obtain ⟨va,vn,vc,hva⟩:∃ a n c,v'=.slice a n c:=by
  rcases r2.2 with ⟨e9,_⟩|⟨g9,off,cap,e9,_⟩
  ·exact ⟨_,_,_,e9⟩
  ·exact ⟨_,_,_,e9⟩
 subst hva
 have hA:But (fun k=>sv.ownBlock=some k) w1 (w1.alloc (.cells #[.pointer o1] 73)):=(But.refl _ w1).alloc _
 have hB:But (fun k=>sv.ownBlock=some k) w1 w2:=hA.trans r3 (fun _ _ e=>e)
 have hl1:=Nat.lt_of_lt_of_le hlt hb1.size
 have ho1:w1.heap[ob]?=some (.cells #[.int .u64 fr,x1,sv,x3,x4] 231 (0,0)):=(h1.block ob (lt_heap hWo)).trans hWo
 have ho2:w2.heap[ob]?=some (.cells #[.int .u64 fr,x1,sv,x3,x4] 231 (0,0)):=(hB.block ob hl1 hso).trans ho1
 have hT:But (fun j=>j=ob∨sv.ownBlock=some j) w w2:=(hb1.mono (fun k e=>.inl e)).trans hB (fun _ _ e=>.inr e)
 have hset:But (fun j=>j=ob) w2 (w2.setCell ⟨ob,2,none⟩ (.slice va vn vc)):=(But.refl (fun j=>j=ob) w2).setCell ⟨ob,2,none⟩ (fun _=>rfl) _
 have hw12:w.heap.size≤w1.heap.size:=hb1.size
 refine ⟨va,vn,vc,w2,r1,hB,cell_at ho2 rfl,frz ho2 2,lt_heap ho2,⟨⟨.slice va vn vc,.pointer o1,set1_heap (i:=2) (.slice va vn vc) ho2,r2.but hset (fun k hk e=>?_),w1,?_,hw12,Nat.le_trans hB.size hset.size,fun k hk=>?_⟩,hT.trans hset (fun _ _ e=>.inl e)⟩⟩
 ·have e9:k=ob:=e
  rcases r4 k hk with h9|h9
  ·exact hso (by rw [← e9];exact h9)
  ·have:=hb2.size;omega
 ·refine ((hq.but hB (fun k hk e=>?_)).but hset (fun k hk e=>?_))
  ·rcases hk with hk|hk
   ·exact hZs k e hk
   ·have:=hsb k e;omega
  ·have e9:k=ob:=e
   rcases hk with hk|hk
   ·exact hZ (e9 ▸ hk)
   ·omega
 ·rcases r4 k hk with h9|h9
  ·exact .inl h9
  ·have h8:w1.heap.size≤(w1.alloc (.cells #[.pointer o1] 73)).heap.size:=((But.refl (fun _=>False) w1).alloc _).size
   exact .inr (Nat.le_trans h8 h9)
theorem recv_closed (hpl:Rise2 pl) {qb qo en ec:Nat} (he1:1≤en) (he2:en≤ec) (he3:¬ ec=1) {pc:Addr} (hob:w.heap[ob]?=some (.cells #[.int .u64 fr,.slice (some ⟨qb,qo,none⟩) en ec,x2,.map none,.pointer (some pc)] 231 (0,0))) (hZ:¬ Z ob) (h:TQ pl Z w k c) (hv:Vok pl g tm l) (hfm:w.cell? ⟨qb,qo,none⟩=some (.int .u16 fm)) :
  Calls Tryz.prog 254 #[.pointer (some ⟨ob,0,none⟩),.agg #[.int .i64 eg,.int .i64 ek,.int .u64 eo,.int .u64 1,s],.agg #[k,.int .i32 tm,.int .i32 l,.int .u16 (g:Int)]] w fun e w'=>e=.returned (.tuple #[])∧w'.heap[ob]?=some (.cells #[.int .u64 fr,.slice (some ⟨qb,qo+2,none⟩) (en - 1) (ec - 1),x2,.map none,.pointer (some pc)] 231 (0,0))∧But (fun j=>j=ob) w w':=by
 obtain ⟨o,rfl⟩:=h.form
 obtain ⟨s1,s2⟩:=but_set hob (But.refl _ w) hob 1 (.slice (some ⟨qb,qo+2,none⟩) (en - 1) (ec - 1))
 obtain ⟨W,hW⟩:∃ W,W=((w.setCell ⟨ob,1,none⟩ (.slice (some ⟨qb,qo+2,none⟩) (en - 1) (ec - 1))).alloc (.cells #[.int .i64 eg,.int .i64 ek,.int .u64 eo,.int .u64 1,s] 35)).alloc (.cells (vC (.pointer o) tm l (g:Int)) 76):=⟨_,rfl⟩
 have hb:Below (w.setCell ⟨ob,1,none⟩ (.slice (some ⟨qb,qo+2,none⟩) (en - 1) (ec - 1))).heap.size (w.setCell ⟨ob,1,none⟩ (.slice (some ⟨qb,qo+2,none⟩) (en - 1) (ec - 1))) W:=by rw [hW];exact below_alloc2 _ _ _
 have hBt:But (fun j=>j=ob) w W:=s2.on hb
 have hWo:=(hb.block ob (lt_heap s1)).trans s1
 have hWo:W.heap[ob]?=some (.cells #[.int .u64 fr,.slice (some ⟨qb,qo+2,none⟩) (en - 1) (ec - 1),x2,.map none,.pointer (some pc)] 231 (0,0)):=hWo
 have hlt:=lt_heap hob
 have hE:W.heap[w.heap.size+1]?=some (.cells (vC (.pointer o) tm l (g:Int)) 76 (0,0)):=by rw [hW];exact heap_newS (by simp [World.setCell,World.alloc])
 have HW:=hide hW
 unfold vC at HW
 have i1:=cell_at (i:=1) hob rfl
 have if1:w.frozen? ⟨ob,1,none⟩=false:=frz hob 1
 have qq:=hfm
 have ql:=World.block_lt_of_cell? w _ qq
 have il:=lt_heap hob
 have H1:=hide ((Below.refl W.heap.size W).drew)
 have HU:=hide (ch_buf hWo)
 have y4:W.cell? ⟨ob,4,none⟩=some (.pointer (some pc)):=cell_at hWo rfl
 have yl:=lt_heap hWo
 have HR:=hide (And.intro hWo hBt)
 generalize (g:Int)=G at HW ⊢
 clear h hE hW hv hpl hob hZ hBt hWo hb s1 s2 hlt hfm H1
 go_enter Tryz.func254,Tryz.ntmps254
 go_wp2_with fail
 rw [← HW.out]
 clear HW
 refine HU.out.mono ?_
 rintro e0 w0 ⟨rfl,hw0⟩
 obtain rfl:W=w0:=hw0.symm
 clear HU hw0
 go_wp2
 go_end0
 exact ⟨rfl,HR.out⟩
theorem recv_closed1 (hpl:Rise2 pl) {qb qo:Nat} {pc:Addr} (hob:w.heap[ob]?=some (.cells #[.int .u64 fr,.slice (some ⟨qb,qo,none⟩) 1 1,x2,.map none,.pointer (some pc)] 231 (0,0))) (hZ:¬ Z ob) (h:TQ pl Z w k c) (hv:Vok pl g tm l) (hfm:w.cell? ⟨qb,qo,none⟩=some (.int .u16 fm)) :
  Calls Tryz.prog 254 #[.pointer (some ⟨ob,0,none⟩),.agg #[.int .i64 eg,.int .i64 ek,.int .u64 eo,.int .u64 1,s],.agg #[k,.int .i32 tm,.int .i32 l,.int .u16 (g:Int)]] w fun e w'=>e=.returned (.tuple #[])∧w'.heap[ob]?=some (.cells #[.int .u64 fr,.slice (some ⟨qb,qo,none⟩) 0 0,x2,.map none,.pointer (some pc)] 231 (0,0))∧But (fun j=>j=ob) w w':=by
 obtain ⟨o,rfl⟩:=h.form
 obtain ⟨s1,s2⟩:=but_set hob (But.refl _ w) hob 1 (.slice (some ⟨qb,qo,none⟩) 0 0)
 obtain ⟨W,hW⟩:∃ W,W=((w.setCell ⟨ob,1,none⟩ (.slice (some ⟨qb,qo,none⟩) 0 0)).alloc (.cells #[.int .i64 eg,.int .i64 ek,.int .u64 eo,.int .u64 1,s] 35)).alloc (.cells (vC (.pointer o) tm l (g:Int)) 76):=⟨_,rfl⟩
 have hb:Below (w.setCell ⟨ob,1,none⟩ (.slice (some ⟨qb,qo,none⟩) 0 0)).heap.size (w.setCell ⟨ob,1,none⟩ (.slice (some ⟨qb,qo,none⟩) 0 0)) W:=by rw [hW];exact below_alloc2 _ _ _
 have hBt:But (fun j=>j=ob) w W:=s2.on hb
 have hWo:=(hb.block ob (lt_heap s1)).trans s1
 have hWo:W.heap[ob]?=some (.cells #[.int .u64 fr,.slice (some ⟨qb,qo,none⟩) 0 0,x2,.map none,.pointer (some pc)] 231 (0,0)):=hWo
 have hlt:=lt_heap hob
 have hE:W.heap[w.heap.size+1]?=some (.cells (vC (.pointer o) tm l (g:Int)) 76 (0,0)):=by rw [hW];exact heap_newS (by simp [World.setCell,World.alloc])
 have HW:=hide hW
 unfold vC at HW
 have i1:=cell_at (i:=1) hob rfl
 have if1:w.frozen? ⟨ob,1,none⟩=false:=frz hob 1
 have qq:=hfm
 have ql:=World.block_lt_of_cell? w _ qq
 have il:=lt_heap hob
 have H1:=hide ((Below.refl W.heap.size W).drew)
 have HU:=hide (ch_buf hWo)
 have y4:W.cell? ⟨ob,4,none⟩=some (.pointer (some pc)):=cell_at hWo rfl
 have yl:=lt_heap hWo
 have HR:=hide (And.intro hWo hBt)
 generalize (g:Int)=G at HW ⊢
 clear h hE hW hv hpl hob hZ hBt hWo hb s1 s2 hlt hfm H1
 go_enter Tryz.func254,Tryz.ntmps254
 go_wp2_with fail
 rw [← HW.out]
 clear HW
 refine HU.out.mono ?_
 rintro e0 w0 ⟨rfl,hw0⟩
 obtain rfl:W=w0:=hw0.symm
 clear HU hw0
 go_wp2
 go_end0
 exact ⟨rfl,HR.out⟩
theorem recv_room (hpl:Rise2 pl) {qb qo en ec:Nat} (he1:1≤en) (he2:en≤ec) (he3:¬ ec=1) (hx:Win w 1 sv n xs) (hZs:∀ k,sv.ownBlock=some k→¬ Z k) (hso:sv.ownBlock≠some ob) (hn:n≤1048576) (hob:w.heap[ob]?=some (.cells #[.int .u64 fr,.slice (some ⟨qb,qo,none⟩) en ec,sv,.map none,.pointer none] 231 (0,0))) (hZ:¬ Z ob) (h:TQ pl Z w k c) (hv:Vok pl g tm l) (hfm:w.cell? ⟨qb,qo,none⟩=some (.int .u16 fm)) :
  Calls Tryz.prog 254 #[.pointer (some ⟨ob,0,none⟩),.agg #[.int .i64 eg,.int .i64 ek,.int .u64 eo,.int .u64 1,s],.agg #[k,.int .i32 tm,.int .i32 l,.int .u16 (g:Int)]] w fun e w'=>e=.returned (.tuple #[])∧Ke pl Z w w' ob fr (.slice (some ⟨qb,qo+2,none⟩) (en - 1) (ec - 1)) sv (.map none) (.pointer none) n xs (vclk c g tm):=by
 obtain ⟨o,rfl⟩:=h.form
 obtain ⟨s1,s2⟩:=but_set hob (But.refl _ w) hob 1 (.slice (some ⟨qb,qo+2,none⟩) (en - 1) (ec - 1))
 obtain ⟨W,hW⟩:∃ W,W=((w.setCell ⟨ob,1,none⟩ (.slice (some ⟨qb,qo+2,none⟩) (en - 1) (ec - 1))).alloc (.cells #[.int .i64 eg,.int .i64 ek,.int .u64 eo,.int .u64 1,s] 35)).alloc (.cells (vC (.pointer o) tm l (g:Int)) 76):=⟨_,rfl⟩
 have hb:Below (w.setCell ⟨ob,1,none⟩ (.slice (some ⟨qb,qo+2,none⟩) (en - 1) (ec - 1))).heap.size (w.setCell ⟨ob,1,none⟩ (.slice (some ⟨qb,qo+2,none⟩) (en - 1) (ec - 1))) W:=by rw [hW];exact below_alloc2 _ _ _
 have hBt:But (fun j=>j=ob) w W:=s2.on hb
 have hWo:=(hb.block ob (lt_heap s1)).trans s1
 have hWo:W.heap[ob]?=some (.cells #[.int .u64 fr,.slice (some ⟨qb,qo+2,none⟩) (en - 1) (ec - 1),sv,.map none,.pointer none] 231 (0,0)):=hWo
 have hlt:=lt_heap hob
 have hE:W.heap[w.heap.size+1]?=some (.cells (vC (.pointer o) tm l (g:Int)) 76 (0,0)):=by rw [hW];exact heap_newS (by simp [World.setCell,World.alloc])
 have HW:=hide hW
 unfold vC at HW
 have i1:=cell_at (i:=1) hob rfl
 have if1:w.frozen? ⟨ob,1,none⟩=false:=frz hob 1
 have qq:=hfm
 have ql:=World.block_lt_of_cell? w _ qq
 have il:=lt_heap hob
 have H1:=hide ((Below.refl W.heap.size W).drew)
 have HU:=hide (ch_buf hWo)
 have HSx:Hid (∀ X,Below W.heap.size W X→X.cell? ⟨w.heap.size+1,0,none⟩=some (.pointer o)∧X.cell? ⟨w.heap.size+1,1,none⟩=some (.int .i32 tm)∧X.cell? ⟨w.heap.size+1,2,none⟩=some (.int .i32 l)∧X.cell? ⟨w.heap.size+1,3,none⟩=some (.int .u16 (g:Int))):=hide (fun X hX=>by
  obtain ⟨q0,q1,q2,q3,_⟩:=vc_cells ((hX.block _ (lt_heap hE)).trans hE)
  exact ⟨q0,q1,q2,q3⟩)
 have hTW:TQ pl Z W (.pointer o) c:=h.but hBt (fun k hk e=>by have e9:k=ob:=e;exact hZ (e9 ▸ hk))
 have HC:=hide (clock_any hpl (hTW.bel H1.out) hv.fg hv.ft hv.fl hv.fp hv.fz)
 have HEnd:Hid (∀ w1 o1,Below W.heap.size W w1→TQ pl (Nz Z w w1) w1 (.pointer o1) (vclk c g tm)→_):=hide (fun w1 o1 a1 a2=>ke_end hob hBt hWo a1 a2 hx hZ hZs hso hn)
 have HSz:=hide hBt.size
 have HOc:Hid (∀ X,Below W.heap.size W X→X.cell? ⟨ob,2,none⟩=some sv∧ob < X.heap.size):=hide (fun X hX=>by
  have h9:=(hX.block ob (lt_heap hWo)).trans hWo
  exact ⟨cell_at h9 rfl,lt_heap h9⟩)
 have HLt:Hid (¬ sv.ownBlock=some (w.heap.size+1)∧¬ w.heap.size+1=ob):=hide ⟨fun e=>by
  rcases hx.2 with ⟨e9,_⟩|⟨g9,off,cap,e9,_,hg,_⟩
  ·rw [e9] at e;cases e
  ·rw [e9] at e;have e7:g9=w.heap.size+1:=Option.some.inj e;omega,fun e=>by omega⟩
 have kl2:=lt_heap hE
 obtain ⟨y1,yl⟩:=HOc.out W (Below.refl _ _)
 have y4:W.cell? ⟨ob,4,none⟩=some (.pointer none):=cell_at hWo rfl
 obtain ⟨sa,sn,sc,hsv⟩:∃ a n c,sv=.slice a n c:=by
  rcases hx.2 with ⟨e9,_⟩|⟨g9,off,cap,e9,_⟩
  ·exact ⟨_,_,_,e9⟩
  ·exact ⟨_,_,_,e9⟩
 subst hsv
 generalize (g:Int)=G at HSx HC HW ⊢
 clear h hE hW hv hpl hob hZ hx hZs hso hn hTW hBt hWo hb s1 s2 hlt hfm
 go_enter Tryz.func254,Tryz.ntmps254
 go_wp2_with fail
 rw [← HW.out]
 clear HW
 refine HU.out.mono ?_
 rintro e0 w0 ⟨rfl,hw0⟩
 obtain rfl:W=w0:=hw0.symm
 clear HU hw0
 go_wp2_with fail
 refine wp_region_noPanic ?_
 refine wp_region_held_drew (S:=fun X=>X.cell? ⟨w.heap.size+1,0,none⟩=some (.pointer o)∧X.cell? ⟨w.heap.size+1,1,none⟩=some (.int .i32 tm)∧X.cell? ⟨w.heap.size+1,2,none⟩=some (.int .i32 l)∧X.cell? ⟨w.heap.size+1,3,none⟩=some (.int .u16 G)) (by kernel_rfl) (HSx.out _ H1.out) (fun hHeld=>?_)
 refine wpAnyH_take (i:=0) (oi:=_) (v:=?v0_1) rfl (by kernel_rfl) (by kernel_rfl) (by kernel_rfl) (fun _ _ _ h=>h) (Or.inl ⟨by rfl,?y0_1⟩) (by assumption) ?r0_1
 case y0_1=>(intro w' hSw;(try dsimp only at hSw);go_simp;try with_reducible rfl)
 refine wpAnyH_take (i:=1) (oi:=_) (v:=?v1_2) rfl (by kernel_rfl) (by kernel_rfl) (by kernel_rfl) (fun _ _ _ h=>h) (Or.inl ⟨by rfl,?y1_2⟩) (by assumption) ?r1_2
 case y1_2=>(intro w' hSw;(try dsimp only at hSw);go_simp;try with_reducible rfl)
 refine wpAnyH_take (i:=2) (oi:=_) (v:=?v2_3) rfl (by kernel_rfl) (by kernel_rfl) (by kernel_rfl) (fun _ _ _ h=>h) (Or.inl ⟨by rfl,?y2_3⟩) (by assumption) ?r2_3
 case y2_3=>(intro w' hSw;(try dsimp only at hSw);go_simp;try with_reducible rfl)
 refine wpAnyH_take (i:=3) (oi:=_) (v:=?v3_4) rfl (by kernel_rfl) (by kernel_rfl) (by kernel_rfl) (fun _ _ _ h=>h) (Or.inl ⟨by rfl,?y3_4⟩) (by assumption) ?r3_4
 case y3_4=>(intro w' hSw;(try dsimp only at hSw);go_simp;try with_reducible rfl)
 refine wpAnyH_take (i:=5) (oi:=_) (v:=?v5_5) rfl (by kernel_rfl) (by kernel_rfl) (by kernel_rfl) (fun _ _ _ h=>h) (Or.inl ⟨by rfl,?y5_5⟩) (by assumption) ?r5_5
 case y5_5=>(intro w' hSw;(try dsimp only at hSw);go_simp;try with_reducible rfl)
 refine wpAnyH_ready (rs:=[4,6]) (by kernel_rfl) (by simp) ?_
 refine AllReadyH.cons (o:=_) rfl (fun KK hKK=>?_) (AllReadyH.cons (o:=_) rfl (fun KK hKK=>?_) AllReadyH.nil)
 ·go_simp
  refine hKK.out _ _ (HSx.out _ H1.out) (fun hHeld4=>?_)
  clear hKK KK
  refine wpAnyH_ready (rs:=[6]) (by kernel_rfl) (by simp) ?_
  refine AllReadyH.cons (o:=_) rfl (fun KK hKK=>?_) AllReadyH.nil
  go_simp
  refine HC.out.mono ?_
  rintro e1 w1 ⟨v1,rfl,hq1,hb1⟩
  obtain ⟨o1,ho1⟩:=hq1.form
  subst ho1
  have HX1:Hid (Below W.heap.size W w1):=hide (H1.out.trans (hb1.mono H1.out.size))
  have HX2:Hid (Below W.heap.size W (w1.alloc (.cells #[.pointer o1] 73))):=hide (HX1.out.trans ((below_alloc1 w1 _).mono HX1.out.size))
  obtain ⟨va,vn,vc,w2,E1,hB,z1,zf,zl,hKs⟩:=HEnd.out w1 o1 HX1.out (hq1.mono (Nz.up (show w.heap.size≤W.drew.heap.size from HSz.out)))
  have HKs:=hide hKs
  have HS2:Hid ((fun X=>X.cell? ⟨w.heap.size+1,0,none⟩=some (.pointer o)∧X.cell? ⟨w.heap.size+1,1,none⟩=some (.int .i32 tm)∧X.cell? ⟨w.heap.size+1,2,none⟩=some (.int .i32 l)∧X.cell? ⟨w.heap.size+1,3,none⟩=some (.int .u16 G)) w2):=hide (by
   obtain ⟨a0,a1,a2,a3⟩:=HSx.out w1 HX1.out
   exact ⟨cell_but a0 hB HLt.out.1,cell_but a1 hB HLt.out.1,cell_but a2 hB HLt.out.1,cell_but a3 hB HLt.out.1⟩)
  have HS3:Hid ((fun X=>X.cell? ⟨w.heap.size+1,0,none⟩=some (.pointer o)∧X.cell? ⟨w.heap.size+1,1,none⟩=some (.int .i32 tm)∧X.cell? ⟨w.heap.size+1,2,none⟩=some (.int .i32 l)∧X.cell? ⟨w.heap.size+1,3,none⟩=some (.int .u16 G)) (w2.setCell ⟨ob,2,none⟩ (.slice va vn vc))):=hide (by
   have hB:But (fun j=>j=ob) w2 (w2.setCell ⟨ob,2,none⟩ (.slice va vn vc)):=(But.refl (fun j=>j=ob) w2).setCell ⟨ob,2,none⟩ (fun _=>rfl) _
   obtain ⟨a0,a1,a2,a3⟩:=HS2.out
   exact ⟨cell_but a0 hB HLt.out.2,cell_but a1 hB HLt.out.2,cell_but a2 hB HLt.out.2,cell_but a3 hB HLt.out.2⟩)
  clear hq1 hb1 hB hKs
  refine hKK.out _ _ (HSx.out _ HX1.out) (fun hHeld6=>?_)
  clear hKK KK
  refine wpAnyH_ready (rs:=[7]) (by kernel_rfl) (by simp) ?_
  refine AllReadyH.cons (o:=_) rfl (fun KK hKK=>?_) AllReadyH.nil
  go_simp
  refine hKK.out _ _ (HSx.out _ HX2.out) (fun hHeld7=>?_)
  clear hKK KK
  refine wpAnyH_ready (rs:=[8]) (by kernel_rfl) (by simp) ?_
  refine AllReadyH.cons (o:=_) rfl (fun KK hKK=>?_) AllReadyH.nil
  refine wp_append_run (s:=.tmp 45) (x:=.tmp 48) rfl rfl rfl E1 ?_
  refine hKK.out _ _ (HS2.out) (fun hHeld8=>?_)
  clear hKK KK
  refine wpAnyH_take (i:=9) (oi:=_) (v:=?v9_6) rfl (by kernel_rfl) (by kernel_rfl) (by kernel_rfl) (fun _ _ _ h=>h) (Or.inl ⟨by rfl,?y9_6⟩) (by assumption) ?r9_6
  case y9_6=>(intro w' hSw;(try dsimp only at hSw);go_simp;try with_reducible rfl)
  refine wpAnyH_take (i:=10) (oi:=_) (v:=?v10_7) rfl (by kernel_rfl) (by kernel_rfl) (by kernel_rfl) (fun _ _ _ h=>h) (Or.inl ⟨by rfl,?y10_7⟩) (by assumption) ?r10_7
  case y10_7=>(intro w' hSw;(try dsimp only at hSw);go_simp;try with_reducible rfl)
  refine wpAnyH_ready (rs:=[11]) (by kernel_rfl) (by simp) ?_
  refine AllReadyH.cons (o:=_) rfl (fun KK hKK=>?_) AllReadyH.nil
  go_simp
  refine hKK.out _ _ (HS3.out) (fun hHeld11=>?_)
  clear hKK KK
  refine wpAnyH_done (by kernel_rfl) ?_ _
  refine NoPanic.normal ?_
  clear hHeld
  go_wp2
  go_end0
  exact ⟨rfl,HKs.out⟩
 ·go_simp
  refine HC.out.mono ?_
  rintro e1 w1 ⟨v1,rfl,hq1,hb1⟩
  obtain ⟨o1,ho1⟩:=hq1.form
  subst ho1
  have HX1:Hid (Below W.heap.size W w1):=hide (H1.out.trans (hb1.mono H1.out.size))
  have HX2:Hid (Below W.heap.size W (w1.alloc (.cells #[.pointer o1] 73))):=hide (HX1.out.trans ((below_alloc1 w1 _).mono HX1.out.size))
  obtain ⟨va,vn,vc,w2,E1,hB,z1,zf,zl,hKs⟩:=HEnd.out w1 o1 HX1.out (hq1.mono (Nz.up (show w.heap.size≤W.drew.heap.size from HSz.out)))
  have HKs:=hide hKs
  have HS2:Hid ((fun X=>X.cell? ⟨w.heap.size+1,0,none⟩=some (.pointer o)∧X.cell? ⟨w.heap.size+1,1,none⟩=some (.int .i32 tm)∧X.cell? ⟨w.heap.size+1,2,none⟩=some (.int .i32 l)∧X.cell? ⟨w.heap.size+1,3,none⟩=some (.int .u16 G)) w2):=hide (by
   obtain ⟨a0,a1,a2,a3⟩:=HSx.out w1 HX1.out
   exact ⟨cell_but a0 hB HLt.out.1,cell_but a1 hB HLt.out.1,cell_but a2 hB HLt.out.1,cell_but a3 hB HLt.out.1⟩)
  have HS3:Hid ((fun X=>X.cell? ⟨w.heap.size+1,0,none⟩=some (.pointer o)∧X.cell? ⟨w.heap.size+1,1,none⟩=some (.int .i32 tm)∧X.cell? ⟨w.heap.size+1,2,none⟩=some (.int .i32 l)∧X.cell? ⟨w.heap.size+1,3,none⟩=some (.int .u16 G)) (w2.setCell ⟨ob,2,none⟩ (.slice va vn vc))):=hide (by
   have hB:But (fun j=>j=ob) w2 (w2.setCell ⟨ob,2,none⟩ (.slice va vn vc)):=(But.refl (fun j=>j=ob) w2).setCell ⟨ob,2,none⟩ (fun _=>rfl) _
   obtain ⟨a0,a1,a2,a3⟩:=HS2.out
   exact ⟨cell_but a0 hB HLt.out.2,cell_but a1 hB HLt.out.2,cell_but a2 hB HLt.out.2,cell_but a3 hB HLt.out.2⟩)
  clear hq1 hb1 hB hKs
  refine hKK.out _ _ (HSx.out _ HX1.out) (fun hHeld6=>?_)
  clear hKK KK
  refine wpAnyH_ready (rs:=[4,7]) (by kernel_rfl) (by simp) ?_
  refine AllReadyH.cons (o:=_) rfl (fun KK hKK=>?_) (AllReadyH.cons (o:=_) rfl (fun KK hKK=>?_) AllReadyH.nil)
  ·obtain ⟨u1,ul⟩:=HOc.out w1 HX1.out
   go_simp
   refine hKK.out _ _ (HSx.out _ HX1.out) (fun hHeld4=>?_)
   clear hKK KK
   refine wpAnyH_ready (rs:=[7]) (by kernel_rfl) (by simp) ?_
   refine AllReadyH.cons (o:=_) rfl (fun KK hKK=>?_) AllReadyH.nil
   go_simp
   refine hKK.out _ _ (HSx.out _ HX2.out) (fun hHeld7=>?_)
   clear hKK KK
   refine wpAnyH_ready (rs:=[8]) (by kernel_rfl) (by simp) ?_
   refine AllReadyH.cons (o:=_) rfl (fun KK hKK=>?_) AllReadyH.nil
   refine wp_append_run (s:=.tmp 45) (x:=.tmp 48) rfl rfl rfl E1 ?_
   refine hKK.out _ _ (HS2.out) (fun hHeld8=>?_)
   clear hKK KK
   refine wpAnyH_take (i:=9) (oi:=_) (v:=?v9_8) rfl (by kernel_rfl) (by kernel_rfl) (by kernel_rfl) (fun _ _ _ h=>h) (Or.inl ⟨by rfl,?y9_8⟩) (by assumption) ?r9_8
   case y9_8=>(intro w' hSw;(try dsimp only at hSw);go_simp;try with_reducible rfl)
   refine wpAnyH_take (i:=10) (oi:=_) (v:=?v10_9) rfl (by kernel_rfl) (by kernel_rfl) (by kernel_rfl) (fun _ _ _ h=>h) (Or.inl ⟨by rfl,?y10_9⟩) (by assumption) ?r10_9
   case y10_9=>(intro w' hSw;(try dsimp only at hSw);go_simp;try with_reducible rfl)
   refine wpAnyH_ready (rs:=[11]) (by kernel_rfl) (by simp) ?_
   refine AllReadyH.cons (o:=_) rfl (fun KK hKK=>?_) AllReadyH.nil
   go_simp
   refine hKK.out _ _ (HS3.out) (fun hHeld11=>?_)
   clear hKK KK
   refine wpAnyH_done (by kernel_rfl) ?_ _
   refine NoPanic.normal ?_
   clear hHeld
   go_wp2
   go_end0
   exact ⟨rfl,HKs.out⟩
  ·go_simp
   refine hKK.out _ _ (HSx.out _ HX2.out) (fun hHeld7=>?_)
   clear hKK KK
   refine wpAnyH_ready (rs:=[4]) (by kernel_rfl) (by simp) ?_
   refine AllReadyH.cons (o:=_) rfl (fun KK hKK=>?_) AllReadyH.nil
   obtain ⟨u1,ul⟩:=HOc.out _ HX2.out
   go_simp
   refine hKK.out _ _ (HSx.out _ HX2.out) (fun hHeld4=>?_)
   clear hKK KK
   refine wpAnyH_ready (rs:=[8]) (by kernel_rfl) (by simp) ?_
   refine AllReadyH.cons (o:=_) rfl (fun KK hKK=>?_) AllReadyH.nil
   refine wp_append_run (s:=.tmp 45) (x:=.tmp 48) rfl rfl rfl E1 ?_
   refine hKK.out _ _ (HS2.out) (fun hHeld8=>?_)
   clear hKK KK
   refine wpAnyH_take (i:=9) (oi:=_) (v:=?v9_10) rfl (by kernel_rfl) (by kernel_rfl) (by kernel_rfl) (fun _ _ _ h=>h) (Or.inl ⟨by rfl,?y9_10⟩) (by assumption) ?r9_10
   case y9_10=>(intro w' hSw;(try dsimp only at hSw);go_simp;try with_reducible rfl)
   refine wpAnyH_take (i:=10) (oi:=_) (v:=?v10_11) rfl (by kernel_rfl) (by kernel_rfl) (by kernel_rfl) (fun _ _ _ h=>h) (Or.inl ⟨by rfl,?y10_11⟩) (by assumption) ?r10_11
   case y10_11=>(intro w' hSw;(try dsimp only at hSw);go_simp;try with_reducible rfl)
   refine wpAnyH_ready (rs:=[11]) (by kernel_rfl) (by simp) ?_
   refine AllReadyH.cons (o:=_) rfl (fun KK hKK=>?_) AllReadyH.nil
   go_simp
   refine hKK.out _ _ (HS3.out) (fun hHeld11=>?_)
   clear hKK KK
   refine wpAnyH_done (by kernel_rfl) ?_ _
   refine NoPanic.normal ?_
   clear hHeld
   go_wp2
   go_end0
   exact ⟨rfl,HKs.out⟩
theorem recv_room1 (hpl:Rise2 pl) {qb qo:Nat} (hx:Win w 1 sv n xs) (hZs:∀ k,sv.ownBlock=some k→¬ Z k) (hso:sv.ownBlock≠some ob) (hn:n≤1048576) (hob:w.heap[ob]?=some (.cells #[.int .u64 fr,.slice (some ⟨qb,qo,none⟩) 1 1,sv,.map none,.pointer none] 231 (0,0))) (hZ:¬ Z ob) (h:TQ pl Z w k c) (hv:Vok pl g tm l) (hfm:w.cell? ⟨qb,qo,none⟩=some (.int .u16 fm)) :
  Calls Tryz.prog 254 #[.pointer (some ⟨ob,0,none⟩),.agg #[.int .i64 eg,.int .i64 ek,.int .u64 eo,.int .u64 1,s],.agg #[k,.int .i32 tm,.int .i32 l,.int .u16 (g:Int)]] w fun e w'=>e=.returned (.tuple #[])∧Ke pl Z w w' ob fr (.slice (some ⟨qb,qo,none⟩) 0 0) sv (.map none) (.pointer none) n xs (vclk c g tm):=by
 obtain ⟨o,rfl⟩:=h.form
 obtain ⟨s1,s2⟩:=but_set hob (But.refl _ w) hob 1 (.slice (some ⟨qb,qo,none⟩) 0 0)
 obtain ⟨W,hW⟩:∃ W,W=((w.setCell ⟨ob,1,none⟩ (.slice (some ⟨qb,qo,none⟩) 0 0)).alloc (.cells #[.int .i64 eg,.int .i64 ek,.int .u64 eo,.int .u64 1,s] 35)).alloc (.cells (vC (.pointer o) tm l (g:Int)) 76):=⟨_,rfl⟩
 have hb:Below (w.setCell ⟨ob,1,none⟩ (.slice (some ⟨qb,qo,none⟩) 0 0)).heap.size (w.setCell ⟨ob,1,none⟩ (.slice (some ⟨qb,qo,none⟩) 0 0)) W:=by rw [hW];exact below_alloc2 _ _ _
 have hBt:But (fun j=>j=ob) w W:=s2.on hb
 have hWo:=(hb.block ob (lt_heap s1)).trans s1
 have hWo:W.heap[ob]?=some (.cells #[.int .u64 fr,.slice (some ⟨qb,qo,none⟩) 0 0,sv,.map none,.pointer none] 231 (0,0)):=hWo
 have hlt:=lt_heap hob
 have hE:W.heap[w.heap.size+1]?=some (.cells (vC (.pointer o) tm l (g:Int)) 76 (0,0)):=by rw [hW];exact heap_newS (by simp [World.setCell,World.alloc])
 have HW:=hide hW
 unfold vC at HW
 have i1:=cell_at (i:=1) hob rfl
 have if1:w.frozen? ⟨ob,1,none⟩=false:=frz hob 1
 have qq:=hfm
 have ql:=World.block_lt_of_cell? w _ qq
 have il:=lt_heap hob
 have H1:=hide ((Below.refl W.heap.size W).drew)
 have HU:=hide (ch_buf hWo)
 have HSx:Hid (∀ X,Below W.heap.size W X→X.cell? ⟨w.heap.size+1,0,none⟩=some (.pointer o)∧X.cell? ⟨w.heap.size+1,1,none⟩=some (.int .i32 tm)∧X.cell? ⟨w.heap.size+1,2,none⟩=some (.int .i32 l)∧X.cell? ⟨w.heap.size+1,3,none⟩=some (.int .u16 (g:Int))):=hide (fun X hX=>by
  obtain ⟨q0,q1,q2,q3,_⟩:=vc_cells ((hX.block _ (lt_heap hE)).trans hE)
  exact ⟨q0,q1,q2,q3⟩)
 have hTW:TQ pl Z W (.pointer o) c:=h.but hBt (fun k hk e=>by have e9:k=ob:=e;exact hZ (e9 ▸ hk))
 have HC:=hide (clock_any hpl (hTW.bel H1.out) hv.fg hv.ft hv.fl hv.fp hv.fz)
 have HEnd:Hid (∀ w1 o1,Below W.heap.size W w1→TQ pl (Nz Z w w1) w1 (.pointer o1) (vclk c g tm)→_):=hide (fun w1 o1 a1 a2=>ke_end hob hBt hWo a1 a2 hx hZ hZs hso hn)
 have HSz:=hide hBt.size
 have HOc:Hid (∀ X,Below W.heap.size W X→X.cell? ⟨ob,2,none⟩=some sv∧ob < X.heap.size):=hide (fun X hX=>by
  have h9:=(hX.block ob (lt_heap hWo)).trans hWo
  exact ⟨cell_at h9 rfl,lt_heap h9⟩)
 have HLt:Hid (¬ sv.ownBlock=some (w.heap.size+1)∧¬ w.heap.size+1=ob):=hide ⟨fun e=>by
  rcases hx.2 with ⟨e9,_⟩|⟨g9,off,cap,e9,_,hg,_⟩
  ·rw [e9] at e;cases e
  ·rw [e9] at e;have e7:g9=w.heap.size+1:=Option.some.inj e;omega,fun e=>by omega⟩
 have kl2:=lt_heap hE
 obtain ⟨y1,yl⟩:=HOc.out W (Below.refl _ _)
 have y4:W.cell? ⟨ob,4,none⟩=some (.pointer none):=cell_at hWo rfl
 obtain ⟨sa,sn,sc,hsv⟩:∃ a n c,sv=.slice a n c:=by
  rcases hx.2 with ⟨e9,_⟩|⟨g9,off,cap,e9,_⟩
  ·exact ⟨_,_,_,e9⟩
  ·exact ⟨_,_,_,e9⟩
 subst hsv
 generalize (g:Int)=G at HSx HC HW ⊢
 clear h hE hW hv hpl hob hZ hx hZs hso hn hTW hBt hWo hb s1 s2 hlt hfm
 go_enter Tryz.func254,Tryz.ntmps254
 go_wp2_with fail
 rw [← HW.out]
 clear HW
 refine HU.out.mono ?_
 rintro e0 w0 ⟨rfl,hw0⟩
 obtain rfl:W=w0:=hw0.symm
 clear HU hw0
 go_wp2_with fail
 refine wp_region_noPanic ?_
 refine wp_region_held_drew (S:=fun X=>X.cell? ⟨w.heap.size+1,0,none⟩=some (.pointer o)∧X.cell? ⟨w.heap.size+1,1,none⟩=some (.int .i32 tm)∧X.cell? ⟨w.heap.size+1,2,none⟩=some (.int .i32 l)∧X.cell? ⟨w.heap.size+1,3,none⟩=some (.int .u16 G)) (by kernel_rfl) (HSx.out _ H1.out) (fun hHeld=>?_)
 refine wpAnyH_take (i:=0) (oi:=_) (v:=?v0_12) rfl (by kernel_rfl) (by kernel_rfl) (by kernel_rfl) (fun _ _ _ h=>h) (Or.inl ⟨by rfl,?y0_12⟩) (by assumption) ?r0_12
 case y0_12=>(intro w' hSw;(try dsimp only at hSw);go_simp;try with_reducible rfl)
 refine wpAnyH_take (i:=1) (oi:=_) (v:=?v1_13) rfl (by kernel_rfl) (by kernel_rfl) (by kernel_rfl) (fun _ _ _ h=>h) (Or.inl ⟨by rfl,?y1_13⟩) (by assumption) ?r1_13
 case y1_13=>(intro w' hSw;(try dsimp only at hSw);go_simp;try with_reducible rfl)
 refine wpAnyH_take (i:=2) (oi:=_) (v:=?v2_14) rfl (by kernel_rfl) (by kernel_rfl) (by kernel_rfl) (fun _ _ _ h=>h) (Or.inl ⟨by rfl,?y2_14⟩) (by assumption) ?r2_14
 case y2_14=>(intro w' hSw;(try dsimp only at hSw);go_simp;try with_reducible rfl)
 refine wpAnyH_take (i:=3) (oi:=_) (v:=?v3_15) rfl (by kernel_rfl) (by kernel_rfl) (by kernel_rfl) (fun _ _ _ h=>h) (Or.inl ⟨by rfl,?y3_15⟩) (by assumption) ?r3_15
 case y3_15=>(intro w' hSw;(try dsimp only at hSw);go_simp;try with_reducible rfl)
 refine wpAnyH_take (i:=5) (oi:=_) (v:=?v5_16) rfl (by kernel_rfl) (by kernel_rfl) (by kernel_rfl) (fun _ _ _ h=>h) (Or.inl ⟨by rfl,?y5_16⟩) (by assumption) ?r5_16
 case y5_16=>(intro w' hSw;(try dsimp only at hSw);go_simp;try with_reducible rfl)
 refine wpAnyH_ready (rs:=[4,6]) (by kernel_rfl) (by simp) ?_
 refine AllReadyH.cons (o:=_) rfl (fun KK hKK=>?_) (AllReadyH.cons (o:=_) rfl (fun KK hKK=>?_) AllReadyH.nil)
 ·go_simp
  refine hKK.out _ _ (HSx.out _ H1.out) (fun hHeld4=>?_)
  clear hKK KK
  refine wpAnyH_ready (rs:=[6]) (by kernel_rfl) (by simp) ?_
  refine AllReadyH.cons (o:=_) rfl (fun KK hKK=>?_) AllReadyH.nil
  go_simp
  refine HC.out.mono ?_
  rintro e1 w1 ⟨v1,rfl,hq1,hb1⟩
  obtain ⟨o1,ho1⟩:=hq1.form
  subst ho1
  have HX1:Hid (Below W.heap.size W w1):=hide (H1.out.trans (hb1.mono H1.out.size))
  have HX2:Hid (Below W.heap.size W (w1.alloc (.cells #[.pointer o1] 73))):=hide (HX1.out.trans ((below_alloc1 w1 _).mono HX1.out.size))
  obtain ⟨va,vn,vc,w2,E1,hB,z1,zf,zl,hKs⟩:=HEnd.out w1 o1 HX1.out (hq1.mono (Nz.up (show w.heap.size≤W.drew.heap.size from HSz.out)))
  have HKs:=hide hKs
  have HS2:Hid ((fun X=>X.cell? ⟨w.heap.size+1,0,none⟩=some (.pointer o)∧X.cell? ⟨w.heap.size+1,1,none⟩=some (.int .i32 tm)∧X.cell? ⟨w.heap.size+1,2,none⟩=some (.int .i32 l)∧X.cell? ⟨w.heap.size+1,3,none⟩=some (.int .u16 G)) w2):=hide (by
   obtain ⟨a0,a1,a2,a3⟩:=HSx.out w1 HX1.out
   exact ⟨cell_but a0 hB HLt.out.1,cell_but a1 hB HLt.out.1,cell_but a2 hB HLt.out.1,cell_but a3 hB HLt.out.1⟩)
  have HS3:Hid ((fun X=>X.cell? ⟨w.heap.size+1,0,none⟩=some (.pointer o)∧X.cell? ⟨w.heap.size+1,1,none⟩=some (.int .i32 tm)∧X.cell? ⟨w.heap.size+1,2,none⟩=some (.int .i32 l)∧X.cell? ⟨w.heap.size+1,3,none⟩=some (.int .u16 G)) (w2.setCell ⟨ob,2,none⟩ (.slice va vn vc))):=hide (by
   have hB:But (fun j=>j=ob) w2 (w2.setCell ⟨ob,2,none⟩ (.slice va vn vc)):=(But.refl (fun j=>j=ob) w2).setCell ⟨ob,2,none⟩ (fun _=>rfl) _
   obtain ⟨a0,a1,a2,a3⟩:=HS2.out
   exact ⟨cell_but a0 hB HLt.out.2,cell_but a1 hB HLt.out.2,cell_but a2 hB HLt.out.2,cell_but a3 hB HLt.out.2⟩)
  clear hq1 hb1 hB hKs
  refine hKK.out _ _ (HSx.out _ HX1.out) (fun hHeld6=>?_)
  clear hKK KK
  refine wpAnyH_ready (rs:=[7]) (by kernel_rfl) (by simp) ?_
  refine AllReadyH.cons (o:=_) rfl (fun KK hKK=>?_) AllReadyH.nil
  go_simp
  refine hKK.out _ _ (HSx.out _ HX2.out) (fun hHeld7=>?_)
  clear hKK KK
  refine wpAnyH_ready (rs:=[8]) (by kernel_rfl) (by simp) ?_
  refine AllReadyH.cons (o:=_) rfl (fun KK hKK=>?_) AllReadyH.nil
  refine wp_append_run (s:=.tmp 45) (x:=.tmp 48) rfl rfl rfl E1 ?_
  refine hKK.out _ _ (HS2.out) (fun hHeld8=>?_)
  clear hKK KK
  refine wpAnyH_take (i:=9) (oi:=_) (v:=?v9_17) rfl (by kernel_rfl) (by kernel_rfl) (by kernel_rfl) (fun _ _ _ h=>h) (Or.inl ⟨by rfl,?y9_17⟩) (by assumption) ?r9_17
  case y9_17=>(intro w' hSw;(try dsimp only at hSw);go_simp;try with_reducible rfl)
  refine wpAnyH_take (i:=10) (oi:=_) (v:=?v10_18) rfl (by kernel_rfl) (by kernel_rfl) (by kernel_rfl) (fun _ _ _ h=>h) (Or.inl ⟨by rfl,?y10_18⟩) (by assumption) ?r10_18
  case y10_18=>(intro w' hSw;(try dsimp only at hSw);go_simp;try with_reducible rfl)
  refine wpAnyH_ready (rs:=[11]) (by kernel_rfl) (by simp) ?_
  refine AllReadyH.cons (o:=_) rfl (fun KK hKK=>?_) AllReadyH.nil
  go_simp
  refine hKK.out _ _ (HS3.out) (fun hHeld11=>?_)
  clear hKK KK
  refine wpAnyH_done (by kernel_rfl) ?_ _
  refine NoPanic.normal ?_
  clear hHeld
  go_wp2
  go_end0
  exact ⟨rfl,HKs.out⟩
 ·go_simp
  refine HC.out.mono ?_
  rintro e1 w1 ⟨v1,rfl,hq1,hb1⟩
  obtain ⟨o1,ho1⟩:=hq1.form
  subst ho1
  have HX1:Hid (Below W.heap.size W w1):=hide (H1.out.trans (hb1.mono H1.out.size))
  have HX2:Hid (Below W.heap.size W (w1.alloc (.cells #[.pointer o1] 73))):=hide (HX1.out.trans ((below_alloc1 w1 _).mono HX1.out.size))
  obtain ⟨va,vn,vc,w2,E1,hB,z1,zf,zl,hKs⟩:=HEnd.out w1 o1 HX1.out (hq1.mono (Nz.up (show w.heap.size≤W.drew.heap.size from HSz.out)))
  have HKs:=hide hKs
  have HS2:Hid ((fun X=>X.cell? ⟨w.heap.size+1,0,none⟩=some (.pointer o)∧X.cell? ⟨w.heap.size+1,1,none⟩=some (.int .i32 tm)∧X.cell? ⟨w.heap.size+1,2,none⟩=some (.int .i32 l)∧X.cell? ⟨w.heap.size+1,3,none⟩=some (.int .u16 G)) w2):=hide (by
   obtain ⟨a0,a1,a2,a3⟩:=HSx.out w1 HX1.out
   exact ⟨cell_but a0 hB HLt.out.1,cell_but a1 hB HLt.out.1,cell_but a2 hB HLt.out.1,cell_but a3 hB HLt.out.1⟩)
  have HS3:Hid ((fun X=>X.cell? ⟨w.heap.size+1,0,none⟩=some (.pointer o)∧X.cell? ⟨w.heap.size+1,1,none⟩=some (.int .i32 tm)∧X.cell? ⟨w.heap.size+1,2,none⟩=some (.int .i32 l)∧X.cell? ⟨w.heap.size+1,3,none⟩=some (.int .u16 G)) (w2.setCell ⟨ob,2,none⟩ (.slice va vn vc))):=hide (by
   have hB:But (fun j=>j=ob) w2 (w2.setCell ⟨ob,2,none⟩ (.slice va vn vc)):=(But.refl (fun j=>j=ob) w2).setCell ⟨ob,2,none⟩ (fun _=>rfl) _
   obtain ⟨a0,a1,a2,a3⟩:=HS2.out
   exact ⟨cell_but a0 hB HLt.out.2,cell_but a1 hB HLt.out.2,cell_but a2 hB HLt.out.2,cell_but a3 hB HLt.out.2⟩)
  clear hq1 hb1 hB hKs
  refine hKK.out _ _ (HSx.out _ HX1.out) (fun hHeld6=>?_)
  clear hKK KK
  refine wpAnyH_ready (rs:=[4,7]) (by kernel_rfl) (by simp) ?_
  refine AllReadyH.cons (o:=_) rfl (fun KK hKK=>?_) (AllReadyH.cons (o:=_) rfl (fun KK hKK=>?_) AllReadyH.nil)
  ·obtain ⟨u1,ul⟩:=HOc.out w1 HX1.out
   go_simp
   refine hKK.out _ _ (HSx.out _ HX1.out) (fun hHeld4=>?_)
   clear hKK KK
   refine wpAnyH_ready (rs:=[7]) (by kernel_rfl) (by simp) ?_
   refine AllReadyH.cons (o:=_) rfl (fun KK hKK=>?_) AllReadyH.nil
   go_simp
   refine hKK.out _ _ (HSx.out _ HX2.out) (fun hHeld7=>?_)
   clear hKK KK
   refine wpAnyH_ready (rs:=[8]) (by kernel_rfl) (by simp) ?_
   refine AllReadyH.cons (o:=_) rfl (fun KK hKK=>?_) AllReadyH.nil
   refine wp_append_run (s:=.tmp 45) (x:=.tmp 48) rfl rfl rfl E1 ?_
   refine hKK.out _ _ (HS2.out) (fun hHeld8=>?_)
   clear hKK KK
   refine wpAnyH_take (i:=9) (oi:=_) (v:=?v9_19) rfl (by kernel_rfl) (by kernel_rfl) (by kernel_rfl) (fun _ _ _ h=>h) (Or.inl ⟨by rfl,?y9_19⟩) (by assumption) ?r9_19
   case y9_19=>(intro w' hSw;(try dsimp only at hSw);go_simp;try with_reducible rfl)
   refine wpAnyH_take (i:=10) (oi:=_) (v:=?v10_20) rfl (by kernel_rfl) (by kernel_rfl) (by kernel_rfl) (fun _ _ _ h=>h) (Or.inl ⟨by rfl,?y10_20⟩) (by assumption) ?r10_20
   case y10_20=>(intro w' hSw;(try dsimp only at hSw);go_simp;try with_reducible rfl)
   refine wpAnyH_ready (rs:=[11]) (by kernel_rfl) (by simp) ?_
   refine AllReadyH.cons (o:=_) rfl (fun KK hKK=>?_) AllReadyH.nil
   go_simp
   refine hKK.out _ _ (HS3.out) (fun hHeld11=>?_)
   clear hKK KK
   refine wpAnyH_done (by kernel_rfl) ?_ _
   refine NoPanic.normal ?_
   clear hHeld
   go_wp2
   go_end0
   exact ⟨rfl,HKs.out⟩
  ·go_simp
   refine hKK.out _ _ (HSx.out _ HX2.out) (fun hHeld7=>?_)
   clear hKK KK
   refine wpAnyH_ready (rs:=[4]) (by kernel_rfl) (by simp) ?_
   refine AllReadyH.cons (o:=_) rfl (fun KK hKK=>?_) AllReadyH.nil
   obtain ⟨u1,ul⟩:=HOc.out _ HX2.out
   go_simp
   refine hKK.out _ _ (HSx.out _ HX2.out) (fun hHeld4=>?_)
   clear hKK KK
   refine wpAnyH_ready (rs:=[8]) (by kernel_rfl) (by simp) ?_
   refine AllReadyH.cons (o:=_) rfl (fun KK hKK=>?_) AllReadyH.nil
   refine wp_append_run (s:=.tmp 45) (x:=.tmp 48) rfl rfl rfl E1 ?_
   refine hKK.out _ _ (HS2.out) (fun hHeld8=>?_)
   clear hKK KK
   refine wpAnyH_take (i:=9) (oi:=_) (v:=?v9_21) rfl (by kernel_rfl) (by kernel_rfl) (by kernel_rfl) (fun _ _ _ h=>h) (Or.inl ⟨by rfl,?y9_21⟩) (by assumption) ?r9_21
   case y9_21=>(intro w' hSw;(try dsimp only at hSw);go_simp;try with_reducible rfl)
   refine wpAnyH_take (i:=10) (oi:=_) (v:=?v10_22) rfl (by kernel_rfl) (by kernel_rfl) (by kernel_rfl) (fun _ _ _ h=>h) (Or.inl ⟨by rfl,?y10_22⟩) (by assumption) ?r10_22
   case y10_22=>(intro w' hSw;(try dsimp only at hSw);go_simp;try with_reducible rfl)
   refine wpAnyH_ready (rs:=[11]) (by kernel_rfl) (by simp) ?_
   refine AllReadyH.cons (o:=_) rfl (fun KK hKK=>?_) AllReadyH.nil
   go_simp
   refine hKK.out _ _ (HS3.out) (fun hHeld11=>?_)
   clear hKK KK
   refine wpAnyH_done (by kernel_rfl) ?_ _
   refine NoPanic.normal ?_
   clear hHeld
   go_wp2
   go_end0
   exact ⟨rfl,HKs.out⟩
end
end Go.Proofs.YtimgkhdgliojgaaGreatDoor
