import Derived.Test.YthgelfdefkbfeaaGreatDoorZu19
set_option maxRecDepth 8000
set_option maxHeartbeats 8000000
set_option linter.unusedVariables false
namespace Go.Proofs.YthgelfdefkbfeaaGreatDoor
open Go.RowKit Go.Maps
section
variable {w w' : World} {cb : Nat} {B : Bl} {F : Nat → Option Lb} {M : CS} {N : Nat} {g k o a : Int} {s : Value}
theorem CkX.lkC1 (h:Ck w cb B F M N) {c:Chn} (hc:M.chans o=some c) (ho:EOk g o a):(Instr.lookup 73 (.map (some B.cm)) (.int .u64 o) false).run Tryz.prog w=.ok (.pointer (some ⟨B.cb o,0,none⟩)) w:=by
 have h9:=h.lkC (g:=g) (a:=a) ho
 unfold cAd at h9
 rw [hc] at h9
 exact h9
theorem CkX.chltW (h:Ck w cb B F M N) {c:Chn} (hc:M.chans o=some c):B.cb o < w.heap.size:=h.lt _ _ (h.chn o c hc nf).1
theorem CkX.goltW (h:Ck w cb B F M N) {r:Gor} (hg:M.gs g=some r):B.gb g < w.heap.size:=h.lt _ _ (h.gor g r hg nf).1
theorem CkX.chRead {eb:Nat} (h:Ck w cb B F M N) {c:Chn} (hc:M.chans o=some c) (ho:EOk g o a) (hE:w.heap[eb]?=some (.cells (evC g k o a s) 43 (0,0))) (hFe:F eb=none) {X:World} (hX:But (fun k=>k=B.cb o) w X) :
  X.cell? ⟨cb,4,none⟩=some (.map (some B.cm))∧X.cell? ⟨eb,2,none⟩=some (.int .u64 o)∧X.cell? ⟨eb,3,none⟩=some (.int .u64 a)∧(Instr.lookup 73 (.map (some B.cm)) (.int .u64 o) false).run Tryz.prog X=.ok (.pointer (some ⟨B.cb o,0,none⟩)) X:=by
 have hgl:=(h.chn o c hc nf).1
 obtain ⟨p0,p1,p2,p3,p4⟩:=evc0 hE
 have ne:∀ {k:Nat} {l:Lb},F k=some l→l≠.ch o→¬ (fun k=>k=B.cb o) k:=by
  intro k l hk h1 e
  have e9:k=B.cb o:=e
  rw [e9,hgl] at hk;exact h1 (Option.some.inj hk).symm
 have nee:¬ (fun k=>k=B.cb o) eb:=by
  intro e
  have e9:eb=B.cb o:=e
  rw [e9,hgl] at hFe;cases hFe
 have hm:=(h.mc nf).2.but hX (ne (h.mc nf).1 (by simp))
 refine ⟨cell_but h.c4 hX (ne h.top (by simp)),cell_but p2 hX nee,cell_but p3 hX nee,?_⟩
 have h9:=hm.look (x:=o) lawU Tryz.underlying73 (zeroPC X) (keyU ho.o0 ho.o1)
 rw [h9]
 have e:(fC B M o).getD (.pointer none)=.pointer (some ⟨B.cb o,0,none⟩):=by unfold fC;rw [hc];rfl
 rw [e]
theorem ack_any (h:Ck w cb B F M N) (ho:EOk g o a) (hN:N≤2000000) {r:Gor} (hg:M.gs g=some r) :
  Calls Tryz.prog 85 #[gPtr cb,.agg (evC g k o a s)] w fun e w'=>e=.returned (.tuple #[])∧CkR w cb F { M with gs:=setF M.gs g (some { r with «to»:=0,as_:=0 }) } N w':=by
 obtain ⟨W,hW⟩:∃ W,W=w.alloc (.cells (evC g k o a s) 43):=⟨_,rfl⟩
 have hb:Below w.heap.size w W:=by rw [hW];exact below_alloc1 w _
 have hC:=h.below hb
 have hCd:Ck W.drew cb B F M N:=hC.below (Below.refl _ _).drew
 have hE:W.heap[w.heap.size]?=some (.cells (evC g k o a s) 43 (0,0)):=by rw [hW];exact heap_new _ _
 obtain ⟨p0,p1,p2,p3,p4⟩:=evc0 hE
 have hmax:N < maxLen:=by unfold maxLen;omega
 have HB:=hide hb
 have HW:=hide hW
 have HC:=hide hC
 have hlt:=h.clt
 have hltW:cb < W.heap.size:=hC.clt
 have hleW:w.heap.size < W.heap.size:=(Array.getElem?_eq_some_iff.1 hE).1
 have hFe:F w.heap.size=none:=by
  cases hq:F w.heap.size with
  | none=>rfl
  | some l=>have:=h.lt _ _ hq;omega
 have t1:=hC.c1
 have hlg:=fun q=>(hC.drew q).lkG1 hg ho
 have hgl:=hC.goltW hg
 have HO:=hide ho
 clear h hb hW hmax hC hCd hE hFe ho
 unfold gPtr evC
 unfold evC at HW
 go_enter Tryz.func85,Tryz.ntmps85
 go_wp2_with fail
 rw [← HW.out]
 clear HW
 go_quiet (fail)
 obtain ⟨W2,hW2⟩:∃ W2,W2=W.drewN nq:=⟨_,rfl⟩
 rw [← hW2]
 have hb2:Below W.heap.size W W2:=by rw [hW2];exact below_drewN (Below.refl _ _) _
 have HB2:=hide (Below.on HB.out hb2)
 have HC2:=hide (HC.out.below hb2)
 have hG2:=(HC2.out.gor g r hg nf).2
 have g1:W2.cell? ⟨B.gb g,1,none⟩=some (.int .u64 r.to):=cell_at hG2 rfl
 have g2:W2.cell? ⟨B.gb g,2,none⟩=some (.int .i64 r.as_):=cell_at hG2 rfl
 have f1:W2.frozen? ⟨B.gb g,1,none⟩=false:=frz hG2 1
 have f2:W2.frozen? ⟨B.gb g,2,none⟩=false:=frz hG2 2
 have hgl2:=HC2.out.goltW hg
 have HG2:=hide hG2
 clear hW2 hb2 t1 hlg p0 p1 p2 p3 p4 hG2
 go_wp2
 go_end0
 obtain ⟨k1,k2⟩:=HC2.out.setG (w':=(W2.setCell ⟨B.gb g,1,none⟩ (.int .u64 0)).setCell ⟨B.gb g,2,none⟩ (.int .i64 0)) (r':={ r with «to»:=0,as_:=0 }) hg rfl (set1_heap _ (set1_heap _ HG2.out)) (((But.refl (fun k=>k=B.gb g) W2).setCell _ (fun _=>rfl) _).setCell _ (fun _=>rfl) _)
 exact ⟨rfl,CkR.below HB2.out ⟨_,_,k1,FEx.refl _ _,k2⟩⟩
theorem closeChannel_any (h:Ck w cb B F M N) (ho:EOk g o a) (hN:N≤2000000) {c:Chn} (hc:M.chans o=some c) :
  Calls Tryz.prog 89 #[gPtr cb,.agg (evC g k o a s)] w fun e w'=>e=.returned (.tuple #[])∧CkR w cb F { M with chans:=setF M.chans o (some { c with closed:=true }) } N w':=by
 obtain ⟨W,hW⟩:∃ W,W=w.alloc (.cells (evC g k o a s) 43):=⟨_,rfl⟩
 have hb:Below w.heap.size w W:=by rw [hW];exact below_alloc1 w _
 have hC:=h.below hb
 have hCd:Ck W.drew cb B F M N:=hC.below (Below.refl _ _).drew
 have hE:W.heap[w.heap.size]?=some (.cells (evC g k o a s) 43 (0,0)):=by rw [hW];exact heap_new _ _
 obtain ⟨p0,p1,p2,p3,p4⟩:=evc0 hE
 have hmax:N < maxLen:=by unfold maxLen;omega
 have HB:=hide hb
 have HW:=hide hW
 have HC:=hide hC
 have hlt:=h.clt
 have hltW:cb < W.heap.size:=hC.clt
 have hleW:w.heap.size < W.heap.size:=(Array.getElem?_eq_some_iff.1 hE).1
 have hFe:F w.heap.size=none:=by
  cases hq:F w.heap.size with
  | none=>rfl
  | some l=>have:=h.lt _ _ hq;omega
 have hcl:=hC.chltW hc
 have hG2:=(hC.chn o c hc nf).2
 have g2:W.cell? ⟨B.cb o,2,none⟩=some (.int .i64 c.recvs):=cell_at hG2 rfl
 have g3:W.cell? ⟨B.cb o,3,none⟩=some (.bool c.closed):=cell_at hG2 rfl
 have f2:W.frozen? ⟨B.cb o,2,none⟩=false:=frz hG2 2
 have f3:W.frozen? ⟨B.cb o,3,none⟩=false:=frz hG2 3
 have HCd:=hide hCd
 have HSC:Hid (∀ X,But (fun k=>k=B.cb o) W X→X.cell? ⟨cb,4,none⟩=some (.map (some B.cm))∧X.cell? ⟨w.heap.size,2,none⟩=some (.int .u64 o)∧X.cell? ⟨w.heap.size,3,none⟩=some (.int .u64 a)∧(Instr.lookup 73 (.map (some B.cm)) (.int .u64 o) false).run Tryz.prog X=.ok (.pointer (some ⟨B.cb o,0,none⟩)) X):=hide (fun X hX=>hC.chRead hc ho hE hFe hX)
 have HO:=hide ho
 clear h hb hW hmax hC hCd hE hFe ho hG2 p0 p1 p2 p3 p4
 unfold gPtr evC
 unfold evC at HW
 go_enter Tryz.func89,Tryz.ntmps89
 go_wp2_with fail
 rw [← HW.out]
 clear HW
 refine wp_region_noPanic ?_
 refine wp_region_held_drew (S:=fun X=>X.cell? ⟨cb,4,none⟩=some (.map (some B.cm))∧X.cell? ⟨w.heap.size,2,none⟩=some (.int .u64 o)∧X.cell? ⟨w.heap.size,3,none⟩=some (.int .u64 a)∧(Instr.lookup 73 (.map (some B.cm)) (.int .u64 o) false).run Tryz.prog X=.ok (.pointer (some ⟨B.cb o,0,none⟩)) X) (by kernel_rfl) (HSC.out _ (But.refl _ _).drew) (fun hHeld=>?_)
 refine wpAnyH_take (i:=0) (oi:=_) (v:=?v0_1) rfl (by kernel_rfl) (by kernel_rfl) (by kernel_rfl) (fun _ _ _ h=>h) (Or.inl ⟨by rfl,?y0_1⟩) (by assumption) ?r0_1
 case y0_1=>(intro w' hSw;(try dsimp only at hSw);go_simp;try with_reducible rfl)
 refine wpAnyH_take (i:=1) (oi:=_) (v:=?v1_1) rfl (by kernel_rfl) (by kernel_rfl) (by kernel_rfl) (fun _ _ _ h=>h) (Or.inl ⟨by rfl,?y1_1⟩) (by assumption) ?r1_1
 case y1_1=>(intro w' hSw;(try dsimp only at hSw);go_simp;try with_reducible rfl)
 refine wpAnyH_take (i:=2) (oi:=_) (v:=?v2_1) rfl (by kernel_rfl) (by kernel_rfl) (by kernel_rfl) (fun _ _ _ h=>h) (Or.inl ⟨by rfl,?y2_1⟩) (by assumption) ?r2_1
 case y2_1=>(intro w' hSw;(try dsimp only at hSw);go_simp;try with_reducible rfl)
 refine wpAnyH_take (i:=3) (oi:=_) (v:=?v3_1) rfl (by kernel_rfl) (by kernel_rfl) (by kernel_rfl) (fun _ _ _ h=>h) (Or.inl ⟨by rfl,?y3_1⟩) (by assumption) ?r3_1
 case y3_1=>(intro w' hSw;(try dsimp only at hSw);go_simp;try with_reducible rfl)
 refine wpAnyH_take (i:=4) (oi:=_) (v:=?v4_1) rfl (by kernel_rfl) (by kernel_rfl) (by kernel_rfl) (fun _ _ _ h=>h) (Or.inl ⟨by rfl,?y4_1⟩) (by assumption) ?r4_1
 case y4_1=>(intro w' hSw;(try dsimp only at hSw);go_simp;try with_reducible rfl)
 refine wpAnyH_take (i:=5) (oi:=_) (v:=?v5_1) rfl (by kernel_rfl) (by kernel_rfl) (by kernel_rfl) (fun _ _ _ h=>h) (Or.inl ⟨by rfl,?y5_1⟩) (by assumption) ?r5_1
 case y5_1=>(intro w' hSw;(try dsimp only at hSw);go_simp;try with_reducible rfl)
 refine wpAnyH_take (i:=6) (oi:=_) (v:=?v6_1) rfl (by kernel_rfl) (by kernel_rfl) (by kernel_rfl) (fun _ _ _ h=>h) (Or.inl ⟨by rfl,?y6_1⟩) (by assumption) ?r6_1
 case y6_1=>(intro w' hSw;(try dsimp only at hSw);go_simp;try with_reducible rfl)
 refine wpAnyH_take (i:=7) (oi:=_) (v:=?v7_1) rfl (by kernel_rfl) (by kernel_rfl) (by kernel_rfl) (fun _ _ _ h=>h) (Or.inl ⟨by rfl,?y7_1⟩) (by assumption) ?r7_1
 case y7_1=>(intro w' hSw;(try dsimp only at hSw);go_simp;try with_reducible rfl)
 refine wpAnyH_take (i:=8) (oi:=_) (v:=?v8_1) rfl (by kernel_rfl) (by kernel_rfl) (by kernel_rfl) (fun _ _ _ h=>h) (Or.inl ⟨by rfl,?y8_1⟩) (by assumption) ?r8_1
 case y8_1=>(intro w' hSw;(try dsimp only at hSw);go_simp;try with_reducible rfl)
 refine wpAnyH_ready (rs:=[9]) (by kernel_rfl) (by simp) ?_
 refine AllReadyH.cons (o:=_) rfl (fun KK hKK=>?_) AllReadyH.nil
 go_simp
 refine hKK.out _ _ (HSC.out _ (((But.refl (fun k=>k=B.cb o) W).setCell _ (fun _=>rfl) _).drew)) (fun hHeld9=>?_)
 clear hKK KK
 refine wpAnyH_done (by kernel_rfl) ?_ _
 refine NoPanic.normal ?_
 go_wp2
 go_end0
 obtain ⟨k1,k2⟩:=HC.out.setC (w':=(W.setCell ⟨B.cb o,3,none⟩ (.bool true)).drew) (r':={ c with closed:=true }) hc (set1_heap _ (HC.out.chn o c hc nf).2) (((But.refl (fun k=>k=B.cb o) W).setCell _ (fun _=>rfl) _).drew)
 exact ⟨rfl,CkR.below HB.out ⟨_,_,k1,FEx.refl _ _,k2⟩⟩
theorem receive_any (h:Ck w cb B F M N) (ho:EOk g o a) (hN:N≤2000000) (hok:M.ok) (ha:a≤1) {c:Chn} (hc:M.chans o=some c) :
  Calls Tryz.prog 87 #[gPtr cb,.agg (evC g k o a s)] w fun e w'=>e=.returned (.tuple #[])∧CkR w cb F { M with chans:=setF M.chans o (some { c with recvs:=c.recvs+a }) } N w':=by
 obtain ⟨W,hW⟩:∃ W,W=w.alloc (.cells (evC g k o a s) 43):=⟨_,rfl⟩
 have hb:Below w.heap.size w W:=by rw [hW];exact below_alloc1 w _
 have hC:=h.below hb
 have hCd:Ck W.drew cb B F M N:=hC.below (Below.refl _ _).drew
 have hE:W.heap[w.heap.size]?=some (.cells (evC g k o a s) 43 (0,0)):=by rw [hW];exact heap_new _ _
 obtain ⟨p0,p1,p2,p3,p4⟩:=evc0 hE
 have hmax:N < maxLen:=by unfold maxLen;omega
 have HB:=hide hb
 have HW:=hide hW
 have HC:=hide hC
 have hlt:=h.clt
 have hltW:cb < W.heap.size:=hC.clt
 have hleW:w.heap.size < W.heap.size:=(Array.getElem?_eq_some_iff.1 hE).1
 have hFe:F w.heap.size=none:=by
  cases hq:F w.heap.size with
  | none=>rfl
  | some l=>have:=h.lt _ _ hq;omega
 have hcl:=hC.chltW hc
 have hG2:=(hC.chn o c hc nf).2
 have g2:W.cell? ⟨B.cb o,2,none⟩=some (.int .i64 c.recvs):=cell_at hG2 rfl
 have g3:W.cell? ⟨B.cb o,3,none⟩=some (.bool c.closed):=cell_at hG2 rfl
 have f2:W.frozen? ⟨B.cb o,2,none⟩=false:=frz hG2 2
 have f3:W.frozen? ⟨B.cb o,3,none⟩=false:=frz hG2 3
 have HCd:=hide hCd
 have HSC:Hid (∀ X,But (fun k=>k=B.cb o) W X→X.cell? ⟨cb,4,none⟩=some (.map (some B.cm))∧X.cell? ⟨w.heap.size,2,none⟩=some (.int .u64 o)∧X.cell? ⟨w.heap.size,3,none⟩=some (.int .u64 a)∧(Instr.lookup 73 (.map (some B.cm)) (.int .u64 o) false).run Tryz.prog X=.ok (.pointer (some ⟨B.cb o,0,none⟩)) X):=hide (fun X hX=>hC.chRead hc ho hE hFe hX)
 have hcb:=(hok.ch o c hc).2.2
 obtain ⟨hc0,hc1⟩:=hcb
 have ha0:=ho.a0
 have hwa:IntKind.i64.wrap a=a:=by rw [IntKind.wrap_i64];omega
 have hws:IntKind.i64.wrap (c.recvs+a)=c.recvs+a:=by rw [IntKind.wrap_i64];omega
 have HO:=hide ho
 clear h hb hW hmax hC hCd hE hFe ho hG2 p0 p1 p2 p3 p4 hok
 unfold gPtr evC
 unfold evC at HW
 go_enter Tryz.func87,Tryz.ntmps87
 go_wp2_with fail
 rw [← HW.out]
 clear HW
 refine wp_region_noPanic ?_
 refine wp_region_held_drew (S:=fun X=>X.cell? ⟨cb,4,none⟩=some (.map (some B.cm))∧X.cell? ⟨w.heap.size,2,none⟩=some (.int .u64 o)∧X.cell? ⟨w.heap.size,3,none⟩=some (.int .u64 a)∧(Instr.lookup 73 (.map (some B.cm)) (.int .u64 o) false).run Tryz.prog X=.ok (.pointer (some ⟨B.cb o,0,none⟩)) X) (by kernel_rfl) (HSC.out _ (But.refl _ _).drew) (fun hHeld=>?_)
 refine wpAnyH_take (i:=0) (oi:=_) (v:=?v0_3) rfl (by kernel_rfl) (by kernel_rfl) (by kernel_rfl) (fun _ _ _ h=>h) (Or.inl ⟨by rfl,?y0_3⟩) (by assumption) ?r0_3
 case y0_3=>(intro w' hSw;(try dsimp only at hSw);go_simp;try with_reducible rfl)
 refine wpAnyH_take (i:=1) (oi:=_) (v:=?v1_3) rfl (by kernel_rfl) (by kernel_rfl) (by kernel_rfl) (fun _ _ _ h=>h) (Or.inl ⟨by rfl,?y1_3⟩) (by assumption) ?r1_3
 case y1_3=>(intro w' hSw;(try dsimp only at hSw);go_simp;try with_reducible rfl)
 refine wpAnyH_take (i:=2) (oi:=_) (v:=?v2_3) rfl (by kernel_rfl) (by kernel_rfl) (by kernel_rfl) (fun _ _ _ h=>h) (Or.inl ⟨by rfl,?y2_3⟩) (by assumption) ?r2_3
 case y2_3=>(intro w' hSw;(try dsimp only at hSw);go_simp;try with_reducible rfl)
 refine wpAnyH_take (i:=3) (oi:=_) (v:=?v3_3) rfl (by kernel_rfl) (by kernel_rfl) (by kernel_rfl) (fun _ _ _ h=>h) (Or.inl ⟨by rfl,?y3_3⟩) (by assumption) ?r3_3
 case y3_3=>(intro w' hSw;(try dsimp only at hSw);go_simp;try with_reducible rfl)
 refine wpAnyH_take (i:=4) (oi:=_) (v:=?v4_3) rfl (by kernel_rfl) (by kernel_rfl) (by kernel_rfl) (fun _ _ _ h=>h) (Or.inl ⟨by rfl,?y4_3⟩) (by assumption) ?r4_3
 case y4_3=>(intro w' hSw;(try dsimp only at hSw);go_simp;try with_reducible rfl)
 refine wpAnyH_take (i:=5) (oi:=_) (v:=?v5_3) rfl (by kernel_rfl) (by kernel_rfl) (by kernel_rfl) (fun _ _ _ h=>h) (Or.inl ⟨by rfl,?y5_3⟩) (by assumption) ?r5_3
 case y5_3=>(intro w' hSw;(try dsimp only at hSw);go_simp;try with_reducible rfl)
 refine wpAnyH_take (i:=6) (oi:=_) (v:=?v6_3) rfl (by kernel_rfl) (by kernel_rfl) (by kernel_rfl) (fun _ _ _ h=>h) (Or.inl ⟨by rfl,?y6_3⟩) (by assumption) ?r6_3
 case y6_3=>(intro w' hSw;(try dsimp only at hSw);go_simp;try with_reducible rfl)
 refine wpAnyH_take (i:=7) (oi:=_) (v:=?v7_3) rfl (by kernel_rfl) (by kernel_rfl) (by kernel_rfl) (fun _ _ _ h=>h) (Or.inl ⟨by rfl,?y7_3⟩) (by assumption) ?r7_3
 case y7_3=>(intro w' hSw;(try dsimp only at hSw);go_simp;try with_reducible rfl)
 refine wpAnyH_take (i:=8) (oi:=_) (v:=?v8_3) rfl (by kernel_rfl) (by kernel_rfl) (by kernel_rfl) (fun _ _ _ h=>h) (Or.inl ⟨by rfl,?y8_3⟩) (by assumption) ?r8_3
 case y8_3=>(intro w' hSw;(try dsimp only at hSw);go_simp;try with_reducible rfl)
 refine wpAnyH_take (i:=10) (oi:=_) (v:=?v10_3) rfl (by kernel_rfl) (by kernel_rfl) (by kernel_rfl) (fun _ _ _ h=>h) (Or.inl ⟨by rfl,?y10_3⟩) (by assumption) ?r10_3
 case y10_3=>(intro w' hSw;(try dsimp only at hSw);go_simp;try with_reducible rfl)
 refine wpAnyH_take (i:=11) (oi:=_) (v:=?v11_3) rfl (by kernel_rfl) (by kernel_rfl) (by kernel_rfl) (fun _ _ _ h=>h) (Or.inl ⟨by rfl,?y11_3⟩) (by assumption) ?r11_3
 case y11_3=>(intro w' hSw;(try dsimp only at hSw);go_simp;try with_reducible rfl)
 refine wpAnyH_take (i:=12) (oi:=_) (v:=?v12_3) rfl (by kernel_rfl) (by kernel_rfl) (by kernel_rfl) (fun _ _ _ h=>h) (Or.inl ⟨by rfl,?y12_3⟩) (by assumption) ?r12_3
 case y12_3=>(intro w' hSw;(try dsimp only at hSw);go_simp;try with_reducible rfl)
 refine wpAnyH_ready (rs:=[9]) (by kernel_rfl) (by simp) ?_
 refine AllReadyH.cons (o:=_) rfl (fun KK hKK=>?_) AllReadyH.nil
 go_simp
 refine hKK.out _ _ (HSC.out _ (But.refl _ _).drew) (fun hHeld9=>?_)
 clear hKK KK
 refine wpAnyH_take (i:=13) (oi:=_) (v:=?v13_4) rfl (by kernel_rfl) (by kernel_rfl) (by kernel_rfl) (fun _ _ _ h=>h) (Or.inl ⟨by rfl,?y13_4⟩) (by assumption) ?r13_4
 case y13_4=>(intro w' hSw;(try dsimp only at hSw);go_simp;try with_reducible rfl)
 refine wpAnyH_take (i:=14) (oi:=_) (v:=?v14_4) rfl (by kernel_rfl) (by kernel_rfl) (by kernel_rfl) (fun _ _ _ h=>h) (Or.inl ⟨by rfl,?y14_4⟩) (by assumption) ?r14_4
 case y14_4=>(intro w' hSw;(try dsimp only at hSw);go_simp;try with_reducible rfl)
 refine wpAnyH_take (i:=15) (oi:=_) (v:=?v15_4) rfl (by kernel_rfl) (by kernel_rfl) (by kernel_rfl) (fun _ _ _ h=>h) (Or.inl ⟨by rfl,?y15_4⟩) (by assumption) ?r15_4
 case y15_4=>(intro w' hSw;(try dsimp only at hSw);go_simp;try with_reducible rfl)
 refine wpAnyH_ready (rs:=[16]) (by kernel_rfl) (by simp) ?_
 refine AllReadyH.cons (o:=_) rfl (fun KK hKK=>?_) AllReadyH.nil
 go_simp
 refine hKK.out _ _ (HSC.out _ (((But.refl (fun k=>k=B.cb o) W).setCell _ (fun _=>rfl) _).drew)) (fun hHeld16=>?_)
 clear hKK KK
 refine wpAnyH_done (by kernel_rfl) ?_ _
 refine NoPanic.normal ?_
 go_wp2
 go_end0
 obtain ⟨k1,k2⟩:=HC.out.setC (w':=(W.setCell ⟨B.cb o,2,none⟩ (.int .i64 (c.recvs+a))).drew) (r':={ c with recvs:=c.recvs+a }) hc (set1_heap _ (HC.out.chn o c hc nf).2) (((But.refl (fun k=>k=B.cb o) W).setCell _ (fun _=>rfl) _).drew)
 exact ⟨rfl,CkR.below HB.out ⟨_,_,k1,FEx.refl _ _,k2⟩⟩
theorem fO_set {M:CS} {o:Int} (x:Int):(setF (fO M) o (some (.agg #[]))) x=(if (setF M.once o true) x then some (.agg #[]) else none):=by
 unfold fO
 by_cases hx:x=o
 ·subst hx;rw [setF_same,setF_same];rfl
 ·rw [setF_other _ _ hx,setF_other _ _ hx]
theorem runOnce_any (h:Ck w cb B F M N) (ho:EOk g o a) (hN:N≤2000000) :
  Calls Tryz.prog 94 #[gPtr cb,.agg (evC g k o a s)] w fun e w'=>e=.returned (.tuple #[])∧CkR w cb F { M with once:=setF M.once o true } (N+1) w':=by
 obtain ⟨W,hW⟩:∃ W,W=w.alloc (.cells (evC g k o a s) 43):=⟨_,rfl⟩
 have hb:Below w.heap.size w W:=by rw [hW];exact below_alloc1 w _
 have hC:=h.below hb
 have hCd:Ck W.drew cb B F M N:=hC.below (Below.refl _ _).drew
 have hE:W.heap[w.heap.size]?=some (.cells (evC g k o a s) 43 (0,0)):=by rw [hW];exact heap_new _ _
 obtain ⟨p0,p1,p2,p3,p4⟩:=evc0 hE
 have hmax:N < maxLen:=by unfold maxLen;omega
 have HB:=hide hb
 have HW:=hide hW
 have HC:=hide hC
 have hlt:=h.clt
 have hltW:cb < W.heap.size:=hC.clt
 have hleW:w.heap.size < W.heap.size:=(Array.getElem?_eq_some_iff.1 hE).1
 have hFe:F w.heap.size=none:=by
  cases hq:F w.heap.size with
  | none=>rfl
  | some l=>have:=h.lt _ _ hq;omega
 obtain ⟨w1,hup,hm1,hb1⟩:=(hCd.mo nf).2.put lawU Tryz.underlying75 hmax (keyU ho.o0 ho.o1) (.agg #[])
 rw [show setF (fO M) o (some (.agg #[]))=fun x=>if (setF M.once o true) x then some (.agg #[]) else none from funext fO_set] at hm1
 obtain ⟨hC1,hB1⟩:=hCd.setO (Nat.le_succ N) hm1 hb1
 have t6:=hC.c6
 have hFl:=(hC.mo nf).1
 have HSL:Hid (∀ X,But (fun k=>k=B.om) W X→X.cell? ⟨cb,6,none⟩=some (.map (some B.om))∧X.cell? ⟨w.heap.size,2,none⟩=some (.int .u64 o)):=hide (fun X hX=>⟨cell_but t6 hX (fun e=>by have e9:cb=B.om:=e;rw [← e9,hC.top] at hFl;cases hFl),cell_but p2 hX (fun e=>by have e9:w.heap.size=B.om:=e;rw [← e9,hFe] at hFl;cases hFl)⟩)
 have HK1:Hid (But (fun k=>k=B.om) W w1):=hide ((But.refl (fun k=>k=B.om) W).drew.trans hb1 (fun _ _ e=>e))
 have HC1:=hide hC1
 have HB1:=hide hB1
 have hup':(Instr.mapUpdate 75 (.map (some B.om)) (.int .u64 o) (.agg #[])).run Tryz.prog W.drew=.ok () w1:=hup
 have HO:=hide ho
 clear h hb hW hmax hC hCd hE hFe ho p0 p1 p2 p3 p4 hm1 hb1 hC1 hB1 t6 hFl hup
 unfold gPtr evC
 unfold evC at HW
 go_enter Tryz.func94,Tryz.ntmps94
 go_wp2_with fail
 rw [← HW.out]
 clear HW
 go_region_held3 (fun X=>X.cell? ⟨cb,6,none⟩=some (.map (some B.om))∧X.cell? ⟨w.heap.size,2,none⟩=some (.int .u64 o))
  (first|with_reducible exact HSL.out _ (But.refl _ _)|with_reducible exact HSL.out _ (But.refl _ _).drew|with_reducible exact HSL.out _ HK1.out)
  (fail)
 clear HSL hup'
 go_wp2
 go_end0
 exact ⟨rfl,CkR.below HB.out (CkR.below (Below.refl _ _).drew ⟨_,_,HC1.out,FEx.refl _ _,HB1.out⟩)⟩
theorem makeChannel_any (h:Ck w cb B F M N) (ho:EOk g o a) (hN:N≤2000000) (ha:a≤65536) (hc:M.chans o=none) :
  Calls Tryz.prog 81 #[gPtr cb,.agg (evC g k o a s)] w fun e w'=>e=.returned (.tuple #[])∧CkR w cb F { M with chans:=setF M.chans o (some ⟨a,0,0,false⟩) } (N+1) w':=by
 obtain ⟨W,hW⟩:∃ W,W=w.alloc (.cells (evC g k o a s) 43):=⟨_,rfl⟩
 have hb:Below w.heap.size w W:=by rw [hW];exact below_alloc1 w _
 have hC:=h.below hb
 have hCd:Ck W.drew cb B F M N:=hC.below (Below.refl _ _).drew
 have hE:W.heap[w.heap.size]?=some (.cells (evC g k o a s) 43 (0,0)):=by rw [hW];exact heap_new _ _
 obtain ⟨p0,p1,p2,p3,p4⟩:=evc0 hE
 have hmax:N < maxLen:=by unfold maxLen;omega
 have HB:=hide hb
 have HW:=hide hW
 have HC:=hide hC
 have hlt:=h.clt
 have hltW:cb < W.heap.size:=hC.clt
 have hleW:w.heap.size < W.heap.size:=(Array.getElem?_eq_some_iff.1 hE).1
 have hFe:F w.heap.size=none:=by
  cases hq:F w.heap.size with
  | none=>rfl
  | some l=>have:=h.lt _ _ hq;omega
 obtain ⟨W1,hW1⟩:∃ W1,W1=W.alloc (.cells (chnC ⟨a,0,0,false⟩) 157):=⟨_,rfl⟩
 have hbA:Below W.heap.size W W1:=by rw [hW1];exact below_alloc1 W _
 have hCA:Ck W1.drew cb B F M N:=(hC.below hbA).below (Below.refl _ _).drew
 obtain ⟨w1,hup,hm1,hb1⟩:=(hCA.mc nf).2.put lawU Tryz.underlying73 hmax (keyU ho.o0 ho.o1) (gPtr W.heap.size)
 have hb1':But (fun k=>k=B.cm) W1 w1:=(But.refl (fun k=>k=B.cm) W1).drew.trans hb1 (fun _ _ e=>e)
 obtain ⟨k1,k2,k3⟩:=hC.newC (Nat.le_succ N) hc hW1 hm1 hb1'
 have t4:=hC.c4
 have hFl:=(hC.mc nf).1
 have HSL:Hid (∀ X,But (fun k=>k=B.cm) W X→X.cell? ⟨cb,4,none⟩=some (.map (some B.cm))∧X.cell? ⟨w.heap.size,2,none⟩=some (.int .u64 o)∧X.cell? ⟨w.heap.size,3,none⟩=some (.int .u64 a)):=hide (fun X hX=>⟨cell_but t4 hX (fun e=>by have e9:cb=B.cm:=e;rw [← e9,hC.top] at hFl;cases hFl),cell_but p2 hX (fun e=>by have e9:w.heap.size=B.cm:=e;rw [← e9,hFe] at hFl;cases hFl),cell_but p3 hX (fun e=>by have e9:w.heap.size=B.cm:=e;rw [← e9,hFe] at hFl;cases hFl)⟩)
 have HK1:Hid (But (fun k=>k=B.cm) W w1):=hide ((But.of_below hbA).trans hb1' (fun _ _ e=>e))
 have HKr:Hid (CkR W cb F { M with chans:=setF M.chans o (some ⟨a,0,0,false⟩) } (N+1) w1):=hide ⟨_,_,k1,k2,k3⟩
 have HKA:Hid (But (fun k=>k=B.cm) W W1.drew):=hide (But.of_below hbA).drew
 rw [hW1] at hup HKA
 have ha0:=ho.a0
 have hwa:IntKind.i64.wrap a=a:=by rw [IntKind.wrap_i64];omega
 unfold chnC at HKA
 have hup':(Instr.mapUpdate 73 (.map (some B.cm)) (.int .u64 o) (.pointer (some ⟨W.heap.size,0,none⟩))).run Tryz.prog (W.alloc (.cells #[.int .i64 a,.int .i64 0,.int .i64 0,.bool false] 157)).drew=.ok () w1:=hup
 have HO:=hide ho
 clear h hb hW hmax hC hCd hE hFe ho p0 p1 p2 p3 p4 hm1 hb1 hb1' hCA hbA hW1 k1 k2 k3 t4 hFl hup
 unfold gPtr evC
 unfold evC at HW
 go_enter Tryz.func81,Tryz.ntmps81
 go_wp2_with fail
 rw [← HW.out]
 clear HW
 refine wp_region_noPanic ?_
 refine wp_region_held_drew (S:=fun X=>X.cell? ⟨cb,4,none⟩=some (.map (some B.cm))∧X.cell? ⟨w.heap.size,2,none⟩=some (.int .u64 o)∧X.cell? ⟨w.heap.size,3,none⟩=some (.int .u64 a)) (by kernel_rfl) (HSL.out _ (But.refl _ _).drew) (fun hHeld=>?_)
 refine wpAnyH_take (i:=0) (oi:=_) (v:=?v0_6) rfl (by kernel_rfl) (by kernel_rfl) (by kernel_rfl) (fun _ _ _ h=>h) (Or.inl ⟨by rfl,?y0_6⟩) (by assumption) ?r0_6
 case y0_6=>(intro w' hSw;(try dsimp only at hSw);go_simp;try with_reducible rfl)
 refine wpAnyH_take (i:=1) (oi:=_) (v:=?v1_6) rfl (by kernel_rfl) (by kernel_rfl) (by kernel_rfl) (fun _ _ _ h=>h) (Or.inl ⟨by rfl,?y1_6⟩) (by assumption) ?r1_6
 case y1_6=>(intro w' hSw;(try dsimp only at hSw);go_simp;try with_reducible rfl)
 refine wpAnyH_take (i:=2) (oi:=_) (v:=?v2_6) rfl (by kernel_rfl) (by kernel_rfl) (by kernel_rfl) (fun _ _ _ h=>h) (Or.inl ⟨by rfl,?y2_6⟩) (by assumption) ?r2_6
 case y2_6=>(intro w' hSw;(try dsimp only at hSw);go_simp;try with_reducible rfl)
 refine wpAnyH_take (i:=3) (oi:=_) (v:=?v3_6) rfl (by kernel_rfl) (by kernel_rfl) (by kernel_rfl) (fun _ _ _ h=>h) (Or.inl ⟨by rfl,?y3_6⟩) (by assumption) ?r3_6
 case y3_6=>(intro w' hSw;(try dsimp only at hSw);go_simp;try with_reducible rfl)
 refine wpAnyH_take (i:=4) (oi:=_) (v:=?v4_6) rfl (by kernel_rfl) (by kernel_rfl) (by kernel_rfl) (fun _ _ _ h=>h) (Or.inl ⟨by rfl,?y4_6⟩) (by assumption) ?r4_6
 case y4_6=>(intro w' hSw;(try dsimp only at hSw);go_simp;try with_reducible rfl)
 refine wpAnyH_take (i:=5) (oi:=_) (v:=?v5_6) rfl (by kernel_rfl) (by kernel_rfl) (by kernel_rfl) (fun _ _ _ h=>h) (Or.inl ⟨by rfl,?y5_6⟩) (by assumption) ?r5_6
 case y5_6=>(intro w' hSw;(try dsimp only at hSw);go_simp;try with_reducible rfl)
 refine wpAnyH_take (i:=6) (oi:=_) (v:=?v6_6) rfl (by kernel_rfl) (by kernel_rfl) (by kernel_rfl) (fun _ _ _ h=>h) (Or.inl ⟨by rfl,?y6_6⟩) (by assumption) ?r6_6
 case y6_6=>(intro w' hSw;(try dsimp only at hSw);go_simp;try with_reducible rfl)
 refine wpAnyH_take (i:=7) (oi:=_) (v:=?v7_6) rfl (by kernel_rfl) (by kernel_rfl) (by kernel_rfl) (fun _ _ _ h=>h) (Or.inl ⟨by rfl,?y7_6⟩) (by assumption) ?r7_6
 case y7_6=>(intro w' hSw;(try dsimp only at hSw);go_simp;try with_reducible rfl)
 refine wpAnyH_take (i:=8) (oi:=_) (v:=?v8_6) rfl (by kernel_rfl) (by kernel_rfl) (by kernel_rfl) (fun _ _ _ h=>h) (Or.inl ⟨by rfl,?y8_6⟩) (by assumption) ?r8_6
 case y8_6=>(intro w' hSw;(try dsimp only at hSw);go_simp;try with_reducible rfl)
 refine wpAnyH_take (i:=9) (oi:=_) (v:=?v9_6) rfl (by kernel_rfl) (by kernel_rfl) (by kernel_rfl) (fun _ _ _ h=>h) (Or.inl ⟨by rfl,?y9_6⟩) (by assumption) ?r9_6
 case y9_6=>(intro w' hSw;(try dsimp only at hSw);go_simp;try with_reducible rfl)
 refine wpAnyH_ready (rs:=[10]) (by kernel_rfl) (by simp) ?_
 refine AllReadyH.cons (o:=_) rfl (fun KK hKK=>?_) AllReadyH.nil
 go_simp
 refine hKK.out _ _ (HSL.out _ HKA.out) (fun hHeld10=>?_)
 clear hKK KK
 refine wpAnyH_ready (rs:=[11]) (by kernel_rfl) (by simp) ?_
 refine AllReadyH.cons (o:=_) rfl (fun KK hKK=>?_) AllReadyH.nil
 go_simp
 refine hKK.out _ _ (HSL.out _ HK1.out) (fun hHeld11=>?_)
 clear hKK KK
 refine wpAnyH_done (by kernel_rfl) ?_ _
 refine NoPanic.normal ?_
 go_wp2
 go_end0
 exact ⟨rfl,CkR.below HB.out HKr.out⟩
end
end Go.Proofs.YthgelfdefkbfeaaGreatDoor
namespace Go.Proofs.YthgelfdefkbfeaaGreatDoor
open Go.RowKit Go.Maps
section
variable {w w' : World} {cb : Nat} {B : Bl} {F : Nat → Option Lb} {M : CS} {N : Nat} {g k o a : Int} {s : Value}
theorem CkX.sdRead {eb:Nat} (h:Ck w cb B F M N) {r:Gor} (hg:M.gs g=some r) {c:Chn} (hc:M.chans o=some c) (hE:w.heap[eb]?=some (.cells (evC g k o a s) 43 (0,0))) (hFe:F eb=none) {X:World} (hX:But (fun k=>k=B.gb g) w X) :
  X.cell? ⟨eb,2,none⟩=some (.int .u64 o)∧X.cell? ⟨B.cb o,1,none⟩=some (.int .i64 c.sends):=by
 have hgl:=(h.gor g r hg nf).1
 have hcl:=(h.chn o c hc nf).1
 refine ⟨cell_but (evc0 hE).2.2.1 hX (fun e=>?_),cell_but (cell_at (h.chn o c hc nf).2 rfl) hX (fun e=>?_)⟩
 ·have e9:eb=B.gb g:=e
  rw [e9,hgl] at hFe;cases hFe
 ·have e9:B.cb o=B.gb g:=e
  rw [e9,hgl] at hcl;cases hcl
theorem send_any (h:Ck w cb B F M N) (ho:EOk g o a) (hN:N≤2000000) (hok:M.ok) {r:Gor} (hg:M.gs g=some r) {c:Chn} (hc:M.chans o=some c) :
  Calls Tryz.prog 83 #[gPtr cb,.agg (evC g k o a s)] w fun e w'=>e=.returned (.tuple #[])∧CkR w cb F { M with chans:=setF M.chans o (some { c with sends:=c.sends+1 }),gs:=if c.room=0 then setF M.gs g (some { r with «to»:=o,as_:=c.sends+1 }) else M.gs } N w':=by
 obtain ⟨W,hW⟩:∃ W,W=w.alloc (.cells (evC g k o a s) 43):=⟨_,rfl⟩
 have hb:Below w.heap.size w W:=by rw [hW];exact below_alloc1 w _
 have hC:=h.below hb
 have hCd:Ck W.drew cb B F M N:=hC.below (Below.refl _ _).drew
 have hE:W.heap[w.heap.size]?=some (.cells (evC g k o a s) 43 (0,0)):=by rw [hW];exact heap_new _ _
 obtain ⟨p0,p1,p2,p3,p4⟩:=evc0 hE
 have hmax:N < maxLen:=by unfold maxLen;omega
 have HB:=hide hb
 have HW:=hide hW
 have HC:=hide hC
 have hlt:=h.clt
 have hltW:cb < W.heap.size:=hC.clt
 have hleW:w.heap.size < W.heap.size:=(Array.getElem?_eq_some_iff.1 hE).1
 have hFe:F w.heap.size=none:=by
  cases hq:F w.heap.size with
  | none=>rfl
  | some l=>have:=h.lt _ _ hq;omega
 have t1:=hC.c1
 have t4:=hC.c4
 have hlg:=fun q=>(hC.drew q).lkG1 hg ho
 have hlc:=fun q=>(hC.drew q).lkC1 hc ho
 have hgl:=hC.goltW hg
 have hcl:=hC.chltW hc
 have hcb:=(hok.ch o c hc)
 have HE:=hide hE
 have HFe:=hide hFe
 obtain ⟨⟨hr0,hr1⟩,⟨hs0,hs1⟩,_,_⟩:=hcb
 obtain ⟨G2,hG2⟩:∃ G2,G2=(if c.room=0 then setF M.gs g (some { r with «to»:=o,as_:=c.sends+1 }) else M.gs):=⟨_,rfl⟩
 rw [← hG2]
 have HG2:=hide hG2
 have HO:=hide ho
 clear h hb hW hmax hC hCd hE hFe ho hok hG2
 unfold gPtr evC
 unfold evC at HW
 go_enter Tryz.func83,Tryz.ntmps83
 go_wp2_with fail
 rw [← HW.out]
 clear HW
 go_quiet (fail)
 obtain ⟨W2,hW2⟩:∃ W2,W2=W.drewN nq:=⟨_,rfl⟩
 rw [← hW2]
 have hb2:Below W.heap.size W W2:=by rw [hW2];exact below_drewN (Below.refl _ _) _
 have HB2:=hide (Below.on HB.out hb2)
 have HC2:=hide (HC.out.below hb2)
 have hE2:=(hb2.block _ hleW).trans HE.out
 have hc2:=(HC2.out.chn o c hc nf).2
 have g0:W2.cell? ⟨B.cb o,0,none⟩=some (.int .i64 c.room):=cell_at hc2 rfl
 have g1:W2.cell? ⟨B.cb o,1,none⟩=some (.int .i64 c.sends):=cell_at hc2 rfl
 have f1:W2.frozen? ⟨B.cb o,1,none⟩=false:=frz hc2 1
 have hcl2:=HC2.out.chltW hc
 have HE2:=hide hE2
 have Hc2:=hide hc2
 clear hW2 hb2 t1 t4 hlg hlc p0 p1 p2 p3 p4 hc2 hE2 hgl hcl
 obtain ⟨W3,hW3⟩:∃ W3,W3=W2.setCell ⟨B.cb o,1,none⟩ (.int .i64 (c.sends+1)):=⟨_,rfl⟩
 have hbu:But (fun k=>k=B.cb o) W2 W3:=by rw [hW3];exact (But.refl (fun k=>k=B.cb o) W2).setCell _ (fun _=>rfl) _
 obtain ⟨k1,k2⟩:=HC2.out.setC (w':=W3) (r':={ c with sends:=c.sends+1 }) hc (by rw [hW3];exact set1_heap _ Hc2.out) hbu
 have hle2:w.heap.size < W2.heap.size:=(Array.getElem?_eq_some_iff.1 HE2.out).1
 have hcf:=(HC2.out.chn o c hc nf).1
 have hE3:W3.heap[w.heap.size]?=some (.cells (evC g k o a s) 43 (0,0)):=(hbu.block _ hle2 (fun e=>by have e9:w.heap.size=B.cb o:=e;rw [← e9,HFe.out] at hcf;cases hcf)).trans HE2.out
 have h30:W3.cell? ⟨B.cb o,0,none⟩=some (.int .i64 c.room):=cell_at (k1.chn o _ (setF_same _ _ _) nf).2 rfl
 have HK1:=hide k1
 have HK2:=hide k2
 have HE3:=hide hE3
 have HW3:=hide hW3
 clear hbu k1 k2 hE3 hW3 hcf
 by_cases hz:c.room=0
 ·have hzb:(c.room == 0)=true:=by rw [beq_iff_eq];exact hz
  have HZ:=hide hz
  clear hz
  go_wp2_with fail
  rw [← HW3.out]
  have hg3:=(HK1.out.gor g r hg nf).2
  have q1:W3.cell? ⟨B.gb g,1,none⟩=some (.int .u64 r.to):=cell_at hg3 rfl
  have q2:W3.cell? ⟨B.gb g,2,none⟩=some (.int .i64 r.as_):=cell_at hg3 rfl
  have y1:W3.frozen? ⟨B.gb g,1,none⟩=false:=frz hg3 1
  have y2:W3.frozen? ⟨B.gb g,2,none⟩=false:=frz hg3 2
  have hgl3:=HK1.out.goltW hg
  have HSd:Hid (∀ X,But (fun k=>k=B.gb g) W3 X→X.cell? ⟨w.heap.size,2,none⟩=some (.int .u64 o)∧X.cell? ⟨B.cb o,1,none⟩=some (.int .i64 (c.sends+1))):=hide (fun X hX=>HK1.out.sdRead hg (c:={ c with sends:=c.sends+1 }) (setF_same _ _ _) HE3.out HFe.out hX)
  have Hg3:=hide hg3
  clear hg3 g0 g1 f1
  go_region_held3 (fun X=>X.cell? ⟨w.heap.size,2,none⟩=some (.int .u64 o)∧X.cell? ⟨B.cb o,1,none⟩=some (.int .i64 (c.sends+1)))
   (first|with_reducible exact HSd.out _ (But.refl _ _)|with_reducible exact HSd.out _ (But.refl _ _).drew|exact HSd.out _ (((But.refl (fun k=>k=B.gb g) W3).setCell _ (fun _=>rfl) _).drew)|exact HSd.out _ ((((But.refl (fun k=>k=B.gb g) W3).setCell _ (fun _=>rfl) _).setCell _ (fun _=>rfl) _).drew))
   (fail)
  go_wp2
  go_end0
  obtain ⟨k1,k2⟩:=HK1.out.setG (w':=((W3.setCell ⟨B.gb g,1,none⟩ (.int .u64 o)).setCell ⟨B.gb g,2,none⟩ (.int .i64 (c.sends+1))).drew) (r':={ r with «to»:=o,as_:=c.sends+1 }) hg rfl (set1_heap _ (set1_heap _ Hg3.out)) ((((But.refl (fun k=>k=B.gb g) W3).setCell _ (fun _=>rfl) _).setCell _ (fun _=>rfl) _).drew)
  rw [HG2.out,if_pos HZ.out]
  exact ⟨rfl,CkR.below HB2.out (CkR.trans (FEx.refl _ _) HK2.out ⟨_,_,k1,FEx.refl _ _,k2⟩)⟩
 ·have hzb:(c.room == 0)=false:=by rw [beq_eq_false_iff_ne];exact hz
  have HZ:=hide hz
  clear hz
  go_wp2
  go_end0
  rw [HG2.out,if_neg HZ.out,← HW3.out]
  exact ⟨rfl,CkR.below HB2.out ⟨_,_,HK1.out,FEx.refl _ _,HK2.out⟩⟩
end
end Go.Proofs.YthgelfdefkbfeaaGreatDoor
