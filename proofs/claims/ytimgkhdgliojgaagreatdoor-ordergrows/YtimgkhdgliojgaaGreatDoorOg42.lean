import Derived.Test.YtimgkhdgliojgaaGreatDoorOg41
import Derived.Test.YtimgkhdgliojgaaGreatDoorOg40
set_option maxRecDepth 8000
set_option maxHeartbeats 8000000
set_option linter.unusedVariables false
namespace Go.Proofs.YtimgkhdgliojgaaGreatDoor
open Go.RowKit Go.Maps
section
variable {Lb9 : Nat → Prop} {w : World} {fb gm om vb : Nat} {eg ek eo ea : Int} {sk : Value} {G tm l tk : Int} {T : TypeId} {fgn fkn : Nat} {Q1 : Value → World → Prop} {Q2 Q3 Q5 : Value → World → Option Addr → Prop}
variable {Q6 : Value → World → Option Addr → Prop} {A : Int}
theorem take_begun (h:Tk Lb9 w fb gm om vb eg ek eo ea sk G tm l tk 138 fgn fkn Q1 Q2 Q3 Q5) (g0:0≤eg) (g1:eg≤65535) (t0:0≤tm) (t1:tm≤1048576) (k0:0≤tk) (k1:tk≤1048576)
  (hmG : ∀ (n : Nat) (V : Value) (X : World), (method (n + 1) 138 V "hindsight/flow.gives").run Tryz.prog X = .ok (fgn, V) X) (hmK : ∀ (n : Nat) (V : Value) (X : World), (method (n + 1) 138 V "hindsight/flow.keeps").run Tryz.prog X = .ok (fkn, V) X)
  (hcG:∀ args X,(callFunc fgn args).run Tryz.prog X=.ok (.enter fgn args) X) (hcK:∀ args X,(callFunc fkn args).run Tryz.prog X=.ok (.enter fkn args) X)
  (hN : ∀ (n : Nat) (V : Value) (X Y : World), Q1 V Y → (nilAhead (n + 1) 138 V "hindsight/flow.keeps").run Tryz.prog X = .ok (some false) X)
  (hA:∀ (V:Value) (X:World),(Instr.typeAssert (.iface 138 V) 133 138 true).run Tryz.prog X=.ok (.tuple #[V,.bool true]) X)
  (hV:∀ V X,Q1 V X→∃ b,V=.pointer (some ⟨b,0,none⟩))
  (hQ6:∀ V X p,Q6 V X p→∃ ty,X.heap[vb]?=some (.cells (vC (.pointer p) (tm+1) tk G) ty (0,0)))
  (hP:∀ b X p,Q5 (.pointer (some ⟨b,0,none⟩)) X p→∃ (c1:Value) (xs:Unit),X.heap[b]?=some (.cells #[c1,.int .i32 0,.int .i32 0,.int .u16 A] 140 (0,0))∧∃ w6,(Instr.mapUpdate 120 (.map (some gm)) (.int .u16 A) (.pointer (some ⟨b,0,none⟩))).run Tryz.prog X.drew=.ok () w6∧Q6 (.pointer (some ⟨b,0,none⟩)) w6 p∧But Lb9 X w6) :
  Calls Tryz.prog 31 #[.pointer (some ⟨fb,0,none⟩),.agg (evA eg ek eo ea sk)] w fun x w'=>∃ V w5 p,x=.returned (.agg #[.pointer p,.int .i32 (tm+1),.int .i32 tk,.int .u16 G])∧Q6 V w5 p∧But Lb9 w w5∧But (fun k=>k=w.heap.size+1) w5 w':=by
 have hwr:IntKind.u16.wrap eg=eg:=IntWalk.u16_in eg ⟨g0,g1⟩
 have hwt:IntKind.i32.wrap (tm+1)=tm+1:=IntWalk.i32_in _ (by omega)
 have hwk:IntKind.i32.wrap (tk+1)=tk+1:=IntWalk.i32_in _ (by omega)
 obtain ⟨W,hW⟩:∃ W,W=(w.alloc (.cells (evA eg ek eo ea sk) 35)).alloc (.cells (vC (.pointer none) 0 0 0) 76):=⟨_,rfl⟩
 have hb:Below w.heap.size w W:=by rw [hW];exact below_alloc2 w _ _
 have hE:W.heap[w.heap.size]?=some (.cells (evA eg ek eo ea sk) 35 (0,0)):=by rw [hW,Below.heap_alloc _ _ _ (by simp)];exact heap_new _ _
 have hR:W.heap[w.heap.size+1]?=some (.cells (vC (.pointer none) 0 0 0) 76 (0,0)):=by rw [hW];exact heap_newS (by simp)
 have HEv:Hid (∀ X,But Lb9 W X→X.heap[w.heap.size]?=some (.cells (evA eg ek eo ea sk) 35 (0,0))∧X.heap[w.heap.size+1]?=some (.cells (vC (.pointer none) 0 0 0) 76 (0,0))):=hide (fun X hX=>⟨(hX.block _ (lt_heap hE) h.lab.1).trans hE,(hX.block _ (lt_heap hR) h.lab.2).trans hR⟩)
 have HB:=hide hb
 have HSx:Hid (∀ X,(Below w.heap.size w X∨∃ V,Q1 V X)→But Lb9 W X→X.cell? ⟨fb,1,none⟩=some (.map (some gm))∧(Instr.lookup 120 (.map (some gm)) (.int .u16 eg) false).run Tryz.prog X=.ok (.pointer (some ⟨vb,0,none⟩)) X∧X.cell? ⟨w.heap.size,0,none⟩=some (.int .i64 eg)∧X.cell? ⟨w.heap.size,1,none⟩=some (.int .i64 ek)∧X.cell? ⟨w.heap.size,2,none⟩=some (.int .u64 eo)∧X.cell? ⟨w.heap.size,3,none⟩=some (.int .u64 ea)∧X.cell? ⟨w.heap.size,4,none⟩=some sk):=hide (fun X hX hk=>by
  obtain ⟨c1,c2⟩:X.cell? ⟨fb,1,none⟩=some (.map (some gm))∧(Instr.lookup 120 (.map (some gm)) (.int .u16 eg) false).run Tryz.prog X=.ok (.pointer (some ⟨vb,0,none⟩)) X:=by
   rcases hX with hX|hX
   ·exact h.w0 X hX
   ·exact hX.elim (fun V hV=>h.q1 V X hV)
  have e9:=(HEv.out X hk).1
  exact ⟨c1,c2,cell_at e9 rfl,cell_at e9 rfl,cell_at e9 rfl,cell_at e9 rfl,cell_at e9 rfl⟩)
 have HMt:=hide (h.met W.drew hb.drew (by show w.heap.size+2≤W.heap.size;rw [hW];simp))
 have HQ:=hide h
 have HW:=hide hW
 unfold evA vC at HW
 unfold evA at HMt
 have HBW:Hid (But Lb9 W W.drew):=hide (But.refl _ _).drew
 clear hE hR hb hW
 unfold evA
 clear h
 go_enter Tryz.func31,Tryz.ntmps31
 go_wp2_with fail
 rw [← HW.out]
 go_region_held3 (fun X=>X.cell? ⟨fb,1,none⟩=some (.map (some gm))∧(Instr.lookup 120 (.map (some gm)) (.int .u16 eg) false).run Tryz.prog X=.ok (.pointer (some ⟨vb,0,none⟩)) X∧X.cell? ⟨w.heap.size,0,none⟩=some (.int .i64 eg)∧X.cell? ⟨w.heap.size,1,none⟩=some (.int .i64 ek)∧X.cell? ⟨w.heap.size,2,none⟩=some (.int .u64 eo)∧X.cell? ⟨w.heap.size,3,none⟩=some (.int .u64 ea)∧X.cell? ⟨w.heap.size,4,none⟩=some sk)
  (first|with_reducible exact HSx.out _ (.inl HB.out) (But.refl _ _)|with_reducible exact HSx.out _ (.inl HB.out.drew) HBW.out|with_reducible exact HSx.out _ (.inr ⟨_,H1.out⟩) HBW1.out)
  (first
   | (go_at_call 54;go_must (refine HMt.out.mono ?_;rintro e8 w8 ⟨V,rfl,hq8,hb8⟩;obtain ⟨vbb,hvv⟩:=hV V w8 hq8;subst hvv;have H1:=hide hq8;have HBW1:Hid (But Lb9 W w8):=hide (HBW.out.trans hb8 (fun _ _ e=>e));clear hq8 hb8)))
 all_goals
  obtain ⟨_,_,a0,a1,a2,a3,a4⟩:=HSx.out _ (.inr ⟨_,H1.out⟩) HBW1.out
  have al:=World.block_lt_of_cell? w8 _ a0
  have HGv:=hide (HQ.out.gv _ _ H1.out)
  have hN1 : ∀ (n : Nat) (X : World), (nilAhead (n + 1) 138 (.pointer (some ⟨vbb, 0, none⟩)) "hindsight/flow.keeps").run Tryz.prog X = .ok (some false) X := fun n X => hN n _ X _ H1.out
  have hnn:((some false:Option Bool) != some false)=false:=by decide
  unfold evA at HGv
  go_wp2_with fail
  refine HGv.out.mono ?_
  rintro e9 w9 ⟨o9,rfl,hq9,hb9⟩
  have H2:=hide hq9
  have HBW2:Hid (But Lb9 W w9):=hide (HBW1.out.trans hb9 (fun _ _ e=>e))
  clear hq9 hb9 HGv a0 a1 a2 a3 a4 al
  have HLn:=hide (HQ.out.ln _ _ _ H2.out)
  go_wp2_with fail
  refine HLn.out.mono ?_
  rintro e10 w10 ⟨rfl,p,hq10,hb10⟩
  have H3:=hide hq10
  have HBW3:Hid (But Lb9 W w10):=hide (HBW2.out.trans hb10 (fun _ _ e=>e))
  clear hq10 hb10 HLn
  obtain ⟨⟨ty,hv3⟩,hf3⟩:=HQ.out.q3 _ _ _ H3.out
  obtain ⟨q0,q1,q2,q3,ql⟩:=vc_cells hv3
  have f0:w10.cell? ⟨fb,0,none⟩=some (.int .i32 tk):=cell_at hf3 rfl
  have fl:=lt_heap hf3
  have fr1:w10.frozen? ⟨vb,1,none⟩=false:=frz hv3 1
  have fr2:w10.frozen? ⟨vb,2,none⟩=false:=frz hv3 2
  have fr0:w10.frozen? ⟨fb,0,none⟩=false:=frz hf3 0
  have hne:vb≠fb:=HQ.out.vfb
  have hne2:fb≠vb:=fun e=>hne e.symm
  have HU:Hid (∃ U,U=(((w10.setCell ⟨vb,1,none⟩ (.int .i32 (tm+1))).setCell ⟨vb,2,none⟩ (.int .i32 tk)).setCell ⟨fb,0,none⟩ (.int .i32 (tk+1)))∧But Lb9 W U∧U.heap[vb]?=some (.cells (vC (.pointer p) (tm+1) tk G) ty (0,0))):=hide (by
   obtain ⟨lv,lf⟩:=HQ.out.lbv
   refine ⟨_,rfl,((HBW3.out.setCell ⟨vb,1,none⟩ (fun _=>lv) _).setCell ⟨vb,2,none⟩ (fun _=>lv) _).setCell ⟨fb,0,none⟩ (fun _=>lf) _,?_⟩
   have s1:=set1_heap (i:=1) (.int .i32 (tm+1)) hv3
   have s2:=set1_heap (i:=2) (.int .i32 tk) s1
   exact (((But.refl (fun j=>j=fb) _).setCell ⟨fb,0,none⟩ (fun _=>rfl) _).block vb (lt_heap s2) hne).trans s2)
  clear hv3 hf3
  go_wp2_with fail
  obtain ⟨U,hU,hBU,hvU⟩:=HU.out
  have HKp:=hide (fun Y=>HQ.out.kp (.pointer (some ⟨vbb,0,none⟩)) w10 p Y H3.out)
  rw [← hU] at HKp ⊢
  have HBU:=hide hBU
  have HSu:Hid (∀ X,Below U.heap.size U X→X.cell? ⟨w.heap.size,0,none⟩=some (.int .i64 eg)∧X.cell? ⟨w.heap.size,1,none⟩=some (.int .i64 ek)∧X.cell? ⟨w.heap.size,2,none⟩=some (.int .u64 eo)∧X.cell? ⟨w.heap.size,3,none⟩=some (.int .u64 ea)∧X.cell? ⟨w.heap.size,4,none⟩=some sk∧X.cell? ⟨vb,0,none⟩=some (.pointer p)∧X.cell? ⟨vb,1,none⟩=some (.int .i32 (tm+1))∧X.cell? ⟨vb,2,none⟩=some (.int .i32 tk)∧X.cell? ⟨vb,3,none⟩=some (.int .u16 G)):=hide (fun X hX=>by
   have e9:=(HEv.out X (HBU.out.on hX)).1
   have v9:=(hX.block vb (lt_heap hvU)).trans hvU
   exact ⟨cell_at e9 rfl,cell_at e9 rfl,cell_at e9 rfl,cell_at e9 rfl,cell_at e9 rfl,cell_at v9 rfl,cell_at v9 rfl,cell_at v9 rfl,cell_at v9 rfl⟩)
  unfold evA vC at HKp
  have HK1:=hide (HKp.out U.drew (Below.refl _ _).drew)
  clear hU hBU hvU HU q0 q1 q2 q3 ql f0 fl fr0 fr1 fr2
  go_region_held3 (fun X=>X.cell? ⟨w.heap.size,0,none⟩=some (.int .i64 eg)∧X.cell? ⟨w.heap.size,1,none⟩=some (.int .i64 ek)∧X.cell? ⟨w.heap.size,2,none⟩=some (.int .u64 eo)∧X.cell? ⟨w.heap.size,3,none⟩=some (.int .u64 ea)∧X.cell? ⟨w.heap.size,4,none⟩=some sk∧X.cell? ⟨vb,0,none⟩=some (.pointer p)∧X.cell? ⟨vb,1,none⟩=some (.int .i32 (tm+1))∧X.cell? ⟨vb,2,none⟩=some (.int .i32 tk)∧X.cell? ⟨vb,3,none⟩=some (.int .u16 G))
   (first|with_reducible exact HSu.out _ (Below.refl _ _)|with_reducible exact HSu.out _ (Below.refl _ _).drew|with_reducible exact HS5.out)
   (first
    | (with_reducible refine HK1.out.mono ?_;rintro e11 w11 ⟨rfl,hq11,hb11⟩;have H5:=hide hq11;have HBW5:Hid (But Lb9 W w11):=hide ((HBU.out.drew).trans hb11 (fun _ _ e=>e));have HS5:Hid (w11.cell? ⟨w.heap.size,0,none⟩=some (.int .i64 eg)∧w11.cell? ⟨w.heap.size,1,none⟩=some (.int .i64 ek)∧w11.cell? ⟨w.heap.size,2,none⟩=some (.int .u64 eo)∧w11.cell? ⟨w.heap.size,3,none⟩=some (.int .u64 ea)∧w11.cell? ⟨w.heap.size,4,none⟩=some sk∧w11.cell? ⟨vb,0,none⟩=some (.pointer p)∧w11.cell? ⟨vb,1,none⟩=some (.int .i32 (tm+1))∧w11.cell? ⟨vb,2,none⟩=some (.int .i32 tk)∧w11.cell? ⟨vb,3,none⟩=some (.int .u16 G)):=hide (have e9:=(HEv.out _ HBW5.out).1;(HQ.out.q5 _ _ _ H5.out).1.elim (fun _ v9=>⟨cell_at e9 rfl,cell_at e9 rfl,cell_at e9 rfl,cell_at e9 rfl,cell_at e9 rfl,cell_at v9 rfl,cell_at v9 rfl,cell_at v9 rfl,cell_at v9 rfl⟩));clear hq11 hb11))
  all_goals
   obtain ⟨c1,xs,hcells,w12,hrun,hq6,hb6⟩:=hP _ _ _ H5.out
   have b3:w11.cell? ⟨vbb,3,none⟩=some (.int .u16 A):=cell_at hcells rfl
   have bl:=lt_heap hcells
   clear hcells
   have H6:=hide hq6
   have HBW6:Hid (But Lb9 W w12):=hide (HBW5.out.trans hb6 (fun _ _ e=>e))
   have hf5:=(HQ.out.q5 _ _ _ H5.out).2
   have f1:w11.cell? ⟨fb,1,none⟩=some (.map (some gm)):=cell_at hf5 rfl
   have fl:=lt_heap hf5
   clear hf5 hq6 hb6
   have hr9:=(HEv.out _ HBW6.out).2
   obtain ⟨r0,r1,r2,r3,rl⟩:=vc_cells hr9
   have rf0:w12.frozen? ⟨w.heap.size+1,0,none⟩=false:=frz hr9 0
   have rf1:w12.frozen? ⟨w.heap.size+1,1,none⟩=false:=frz hr9 1
   have rf2:w12.frozen? ⟨w.heap.size+1,2,none⟩=false:=frz hr9 2
   have rf3:w12.frozen? ⟨w.heap.size+1,3,none⟩=false:=frz hr9 3
   obtain ⟨ty6,hv6⟩:=hQ6 _ _ _ H6.out
   obtain ⟨v0,v1,v2,v3,vl⟩:=vc_cells hv6
   clear hv6
   have HF:Hid (((((w12.setCell ⟨w.heap.size+1,0,none⟩ (.pointer p)).setCell ⟨w.heap.size+1,1,none⟩ (.int .i32 (tm+1))).setCell ⟨w.heap.size+1,2,none⟩ (.int .i32 tk)).setCell ⟨w.heap.size+1,3,none⟩ (.int .u16 G)).heap[w.heap.size+1]?=some (.cells (vC (.pointer p) (tm+1) tk G) 76 (0,0))∧But (fun k=>k=w.heap.size+1) w12 ((((w12.setCell ⟨w.heap.size+1,0,none⟩ (.pointer p)).setCell ⟨w.heap.size+1,1,none⟩ (.int .i32 (tm+1))).setCell ⟨w.heap.size+1,2,none⟩ (.int .i32 tk)).setCell ⟨w.heap.size+1,3,none⟩ (.int .u16 G))):=hide ⟨set1_heap (i:=3) (.int .u16 G) (set1_heap (i:=2) (.int .i32 tk) (set1_heap (i:=1) (.int .i32 (tm+1)) (set1_heap (i:=0) (.pointer p) hr9))),((((But.refl (fun k=>k=w.heap.size+1) w12).setCell ⟨w.heap.size+1,0,none⟩ (fun _=>rfl) _).setCell ⟨w.heap.size+1,1,none⟩ (fun _=>rfl) _).setCell ⟨w.heap.size+1,2,none⟩ (fun _=>rfl) _).setCell ⟨w.heap.size+1,3,none⟩ (fun _=>rfl) _⟩
   go_wp2_with fail
   go_region
   go_wp2_with fail
   refine bodyPost_ret (v:=.agg (vC (.pointer p) (tm+1) tk G)) (results_cell1 Tryz.results31 _ _ (w.heap.size+1) 76 (vC (.pointer p) (tm+1) tk G) (0,0) _ rfl HF.out.1 Tryz.underlying76 rfl infoVw) rfl ?_
   exact ⟨_,w12,p,rfl,H6.out,(But.of_below HB.out).trans HBW6.out (fun _ _ e=>e),HF.out.2⟩
theorem take_ended (h:Tk Lb9 w fb gm om vb eg ek eo ea sk G tm l tk 141 fgn fkn Q1 Q2 Q3 Q5) (g0:0≤eg) (g1:eg≤65535) (t0:0≤tm) (t1:tm≤1048576) (k0:0≤tk) (k1:tk≤1048576)
  (hmG : ∀ (n : Nat) (V : Value) (X : World), (method (n + 1) 141 V "hindsight/flow.gives").run Tryz.prog X = .ok (fgn, V) X) (hmK : ∀ (n : Nat) (V : Value) (X : World), (method (n + 1) 141 V "hindsight/flow.keeps").run Tryz.prog X = .ok (fkn, V) X)
  (hcG:∀ args X,(callFunc fgn args).run Tryz.prog X=.ok (.enter fgn args) X) (hcK:∀ args X,(callFunc fkn args).run Tryz.prog X=.ok (.enter fkn args) X)
  (hN : ∀ (n : Nat) (V : Value) (X Y : World), Q1 V Y → (nilAhead (n + 1) 141 V "hindsight/flow.keeps").run Tryz.prog X = .ok (some false) X)
  (hA:∀ (V:Value) (X:World),(Instr.typeAssert (.iface 141 V) 133 138 true).run Tryz.prog X=.ok (.tuple #[.pointer none,.bool false]) X) (hB:∀ (V:Value) (X:World),(Instr.typeAssert (.iface 141 V) 133 141 true).run Tryz.prog X=.ok (.tuple #[V,.bool true]) X)
  (hV:∀ V X,Q1 V X→∃ b,V=.pointer (some ⟨b,0,none⟩))
  (hQ6:∀ V X p,Q6 V X p→∃ ty,X.heap[vb]?=some (.cells (vC (.pointer p) (tm+1) tk G) ty (0,0)))
  (hP:∀ b X p,Q5 (.pointer (some ⟨b,0,none⟩)) X p→∃ (c1:Value × Int × Int × TypeId) (xs:Nat),(X.heap[b]?=some (.cells #[.pointer (some ⟨xs,0,none⟩)] 143 (0,0))∧X.heap[xs]?=some (.cells (vC c1.1 c1.2.1 c1.2.2.1 A) c1.2.2.2 (0,0)))∧∃ w6,(Builtin.delete_ #[120,74] 0 #[.map (some gm),.int .u16 A]).run Tryz.prog X.drew=.ok (.tuple #[]) w6∧Q6 (.pointer (some ⟨b,0,none⟩)) w6 p∧But Lb9 X w6) :
  Calls Tryz.prog 31 #[.pointer (some ⟨fb,0,none⟩),.agg (evA eg ek eo ea sk)] w fun x w'=>∃ V w5 p,x=.returned (.agg #[.pointer p,.int .i32 (tm+1),.int .i32 tk,.int .u16 G])∧Q6 V w5 p∧But Lb9 w w5∧But (fun k=>k=w.heap.size+1) w5 w':=by
 have hwr:IntKind.u16.wrap eg=eg:=IntWalk.u16_in eg ⟨g0,g1⟩
 have hwt:IntKind.i32.wrap (tm+1)=tm+1:=IntWalk.i32_in _ (by omega)
 have hwk:IntKind.i32.wrap (tk+1)=tk+1:=IntWalk.i32_in _ (by omega)
 obtain ⟨W,hW⟩:∃ W,W=(w.alloc (.cells (evA eg ek eo ea sk) 35)).alloc (.cells (vC (.pointer none) 0 0 0) 76):=⟨_,rfl⟩
 have hb:Below w.heap.size w W:=by rw [hW];exact below_alloc2 w _ _
 have hE:W.heap[w.heap.size]?=some (.cells (evA eg ek eo ea sk) 35 (0,0)):=by rw [hW,Below.heap_alloc _ _ _ (by simp)];exact heap_new _ _
 have hR:W.heap[w.heap.size+1]?=some (.cells (vC (.pointer none) 0 0 0) 76 (0,0)):=by rw [hW];exact heap_newS (by simp)
 have HEv:Hid (∀ X,But Lb9 W X→X.heap[w.heap.size]?=some (.cells (evA eg ek eo ea sk) 35 (0,0))∧X.heap[w.heap.size+1]?=some (.cells (vC (.pointer none) 0 0 0) 76 (0,0))):=hide (fun X hX=>⟨(hX.block _ (lt_heap hE) h.lab.1).trans hE,(hX.block _ (lt_heap hR) h.lab.2).trans hR⟩)
 have HB:=hide hb
 have HSx:Hid (∀ X,(Below w.heap.size w X∨∃ V,Q1 V X)→But Lb9 W X→X.cell? ⟨fb,1,none⟩=some (.map (some gm))∧(Instr.lookup 120 (.map (some gm)) (.int .u16 eg) false).run Tryz.prog X=.ok (.pointer (some ⟨vb,0,none⟩)) X∧X.cell? ⟨w.heap.size,0,none⟩=some (.int .i64 eg)∧X.cell? ⟨w.heap.size,1,none⟩=some (.int .i64 ek)∧X.cell? ⟨w.heap.size,2,none⟩=some (.int .u64 eo)∧X.cell? ⟨w.heap.size,3,none⟩=some (.int .u64 ea)∧X.cell? ⟨w.heap.size,4,none⟩=some sk):=hide (fun X hX hk=>by
  obtain ⟨c1,c2⟩:X.cell? ⟨fb,1,none⟩=some (.map (some gm))∧(Instr.lookup 120 (.map (some gm)) (.int .u16 eg) false).run Tryz.prog X=.ok (.pointer (some ⟨vb,0,none⟩)) X:=by
   rcases hX with hX|hX
   ·exact h.w0 X hX
   ·exact hX.elim (fun V hV=>h.q1 V X hV)
  have e9:=(HEv.out X hk).1
  exact ⟨c1,c2,cell_at e9 rfl,cell_at e9 rfl,cell_at e9 rfl,cell_at e9 rfl,cell_at e9 rfl⟩)
 have HMt:=hide (h.met W.drew hb.drew (by show w.heap.size+2≤W.heap.size;rw [hW];simp))
 have HQ:=hide h
 have HW:=hide hW
 unfold evA vC at HW
 unfold evA at HMt
 have HBW:Hid (But Lb9 W W.drew):=hide (But.refl _ _).drew
 clear hE hR hb hW
 unfold evA
 clear h
 go_enter Tryz.func31,Tryz.ntmps31
 go_wp2_with fail
 rw [← HW.out]
 go_region_held3 (fun X=>X.cell? ⟨fb,1,none⟩=some (.map (some gm))∧(Instr.lookup 120 (.map (some gm)) (.int .u16 eg) false).run Tryz.prog X=.ok (.pointer (some ⟨vb,0,none⟩)) X∧X.cell? ⟨w.heap.size,0,none⟩=some (.int .i64 eg)∧X.cell? ⟨w.heap.size,1,none⟩=some (.int .i64 ek)∧X.cell? ⟨w.heap.size,2,none⟩=some (.int .u64 eo)∧X.cell? ⟨w.heap.size,3,none⟩=some (.int .u64 ea)∧X.cell? ⟨w.heap.size,4,none⟩=some sk)
  (first|with_reducible exact HSx.out _ (.inl HB.out) (But.refl _ _)|with_reducible exact HSx.out _ (.inl HB.out.drew) HBW.out|with_reducible exact HSx.out _ (.inr ⟨_,H1.out⟩) HBW1.out)
  (first
   | (go_at_call 54;go_must (refine HMt.out.mono ?_;rintro e8 w8 ⟨V,rfl,hq8,hb8⟩;obtain ⟨vbb,hvv⟩:=hV V w8 hq8;subst hvv;have H1:=hide hq8;have HBW1:Hid (But Lb9 W w8):=hide (HBW.out.trans hb8 (fun _ _ e=>e));clear hq8 hb8)))
 all_goals
  obtain ⟨_,_,a0,a1,a2,a3,a4⟩:=HSx.out _ (.inr ⟨_,H1.out⟩) HBW1.out
  have al:=World.block_lt_of_cell? w8 _ a0
  have HGv:=hide (HQ.out.gv _ _ H1.out)
  have hN1 : ∀ (n : Nat) (X : World), (nilAhead (n + 1) 141 (.pointer (some ⟨vbb, 0, none⟩)) "hindsight/flow.keeps").run Tryz.prog X = .ok (some false) X := fun n X => hN n _ X _ H1.out
  have hnn:((some false:Option Bool) != some false)=false:=by decide
  unfold evA at HGv
  go_wp2_with fail
  refine HGv.out.mono ?_
  rintro e9 w9 ⟨o9,rfl,hq9,hb9⟩
  have H2:=hide hq9
  have HBW2:Hid (But Lb9 W w9):=hide (HBW1.out.trans hb9 (fun _ _ e=>e))
  clear hq9 hb9 HGv a0 a1 a2 a3 a4 al
  have HLn:=hide (HQ.out.ln _ _ _ H2.out)
  go_wp2_with fail
  refine HLn.out.mono ?_
  rintro e10 w10 ⟨rfl,p,hq10,hb10⟩
  have H3:=hide hq10
  have HBW3:Hid (But Lb9 W w10):=hide (HBW2.out.trans hb10 (fun _ _ e=>e))
  clear hq10 hb10 HLn
  obtain ⟨⟨ty,hv3⟩,hf3⟩:=HQ.out.q3 _ _ _ H3.out
  obtain ⟨q0,q1,q2,q3,ql⟩:=vc_cells hv3
  have f0:w10.cell? ⟨fb,0,none⟩=some (.int .i32 tk):=cell_at hf3 rfl
  have fl:=lt_heap hf3
  have fr1:w10.frozen? ⟨vb,1,none⟩=false:=frz hv3 1
  have fr2:w10.frozen? ⟨vb,2,none⟩=false:=frz hv3 2
  have fr0:w10.frozen? ⟨fb,0,none⟩=false:=frz hf3 0
  have hne:vb≠fb:=HQ.out.vfb
  have hne2:fb≠vb:=fun e=>hne e.symm
  have HU:Hid (∃ U,U=(((w10.setCell ⟨vb,1,none⟩ (.int .i32 (tm+1))).setCell ⟨vb,2,none⟩ (.int .i32 tk)).setCell ⟨fb,0,none⟩ (.int .i32 (tk+1)))∧But Lb9 W U∧U.heap[vb]?=some (.cells (vC (.pointer p) (tm+1) tk G) ty (0,0))):=hide (by
   obtain ⟨lv,lf⟩:=HQ.out.lbv
   refine ⟨_,rfl,((HBW3.out.setCell ⟨vb,1,none⟩ (fun _=>lv) _).setCell ⟨vb,2,none⟩ (fun _=>lv) _).setCell ⟨fb,0,none⟩ (fun _=>lf) _,?_⟩
   have s1:=set1_heap (i:=1) (.int .i32 (tm+1)) hv3
   have s2:=set1_heap (i:=2) (.int .i32 tk) s1
   exact (((But.refl (fun j=>j=fb) _).setCell ⟨fb,0,none⟩ (fun _=>rfl) _).block vb (lt_heap s2) hne).trans s2)
  clear hv3 hf3
  go_wp2_with fail
  obtain ⟨U,hU,hBU,hvU⟩:=HU.out
  have HKp:=hide (fun Y=>HQ.out.kp (.pointer (some ⟨vbb,0,none⟩)) w10 p Y H3.out)
  rw [← hU] at HKp ⊢
  have HBU:=hide hBU
  have HSu:Hid (∀ X,Below U.heap.size U X→X.cell? ⟨w.heap.size,0,none⟩=some (.int .i64 eg)∧X.cell? ⟨w.heap.size,1,none⟩=some (.int .i64 ek)∧X.cell? ⟨w.heap.size,2,none⟩=some (.int .u64 eo)∧X.cell? ⟨w.heap.size,3,none⟩=some (.int .u64 ea)∧X.cell? ⟨w.heap.size,4,none⟩=some sk∧X.cell? ⟨vb,0,none⟩=some (.pointer p)∧X.cell? ⟨vb,1,none⟩=some (.int .i32 (tm+1))∧X.cell? ⟨vb,2,none⟩=some (.int .i32 tk)∧X.cell? ⟨vb,3,none⟩=some (.int .u16 G)):=hide (fun X hX=>by
   have e9:=(HEv.out X (HBU.out.on hX)).1
   have v9:=(hX.block vb (lt_heap hvU)).trans hvU
   exact ⟨cell_at e9 rfl,cell_at e9 rfl,cell_at e9 rfl,cell_at e9 rfl,cell_at e9 rfl,cell_at v9 rfl,cell_at v9 rfl,cell_at v9 rfl,cell_at v9 rfl⟩)
  unfold evA vC at HKp
  have HK1:=hide (HKp.out U.drew (Below.refl _ _).drew)
  clear hU hBU hvU HU q0 q1 q2 q3 ql f0 fl fr0 fr1 fr2
  go_region_held3 (fun X=>X.cell? ⟨w.heap.size,0,none⟩=some (.int .i64 eg)∧X.cell? ⟨w.heap.size,1,none⟩=some (.int .i64 ek)∧X.cell? ⟨w.heap.size,2,none⟩=some (.int .u64 eo)∧X.cell? ⟨w.heap.size,3,none⟩=some (.int .u64 ea)∧X.cell? ⟨w.heap.size,4,none⟩=some sk∧X.cell? ⟨vb,0,none⟩=some (.pointer p)∧X.cell? ⟨vb,1,none⟩=some (.int .i32 (tm+1))∧X.cell? ⟨vb,2,none⟩=some (.int .i32 tk)∧X.cell? ⟨vb,3,none⟩=some (.int .u16 G))
   (first|with_reducible exact HSu.out _ (Below.refl _ _)|with_reducible exact HSu.out _ (Below.refl _ _).drew|with_reducible exact HS5.out)
   (first
    | (with_reducible refine HK1.out.mono ?_;rintro e11 w11 ⟨rfl,hq11,hb11⟩;have H5:=hide hq11;have HBW5:Hid (But Lb9 W w11):=hide ((HBU.out.drew).trans hb11 (fun _ _ e=>e));have HS5:Hid (w11.cell? ⟨w.heap.size,0,none⟩=some (.int .i64 eg)∧w11.cell? ⟨w.heap.size,1,none⟩=some (.int .i64 ek)∧w11.cell? ⟨w.heap.size,2,none⟩=some (.int .u64 eo)∧w11.cell? ⟨w.heap.size,3,none⟩=some (.int .u64 ea)∧w11.cell? ⟨w.heap.size,4,none⟩=some sk∧w11.cell? ⟨vb,0,none⟩=some (.pointer p)∧w11.cell? ⟨vb,1,none⟩=some (.int .i32 (tm+1))∧w11.cell? ⟨vb,2,none⟩=some (.int .i32 tk)∧w11.cell? ⟨vb,3,none⟩=some (.int .u16 G)):=hide (have e9:=(HEv.out _ HBW5.out).1;(HQ.out.q5 _ _ _ H5.out).1.elim (fun _ v9=>⟨cell_at e9 rfl,cell_at e9 rfl,cell_at e9 rfl,cell_at e9 rfl,cell_at e9 rfl,cell_at v9 rfl,cell_at v9 rfl,cell_at v9 rfl,cell_at v9 rfl⟩));clear hq11 hb11))
  all_goals
   obtain ⟨c1,xs,hcells,w12,hrun,hq6,hb6⟩:=hP _ _ _ H5.out
   obtain ⟨hce,hcv⟩:=hcells
   have b0:w11.cell? ⟨vbb,0,none⟩=some (.pointer (some ⟨xs,0,none⟩)):=cell_at hce rfl
   have bl:=lt_heap hce
   obtain ⟨_,_,_,x3,xl⟩:=vc_cells hcv
   clear hce hcv
   have H6:=hide hq6
   have HBW6:Hid (But Lb9 W w12):=hide (HBW5.out.trans hb6 (fun _ _ e=>e))
   have hf5:=(HQ.out.q5 _ _ _ H5.out).2
   have f1:w11.cell? ⟨fb,1,none⟩=some (.map (some gm)):=cell_at hf5 rfl
   have fl:=lt_heap hf5
   clear hf5 hq6 hb6
   have hr9:=(HEv.out _ HBW6.out).2
   obtain ⟨r0,r1,r2,r3,rl⟩:=vc_cells hr9
   have rf0:w12.frozen? ⟨w.heap.size+1,0,none⟩=false:=frz hr9 0
   have rf1:w12.frozen? ⟨w.heap.size+1,1,none⟩=false:=frz hr9 1
   have rf2:w12.frozen? ⟨w.heap.size+1,2,none⟩=false:=frz hr9 2
   have rf3:w12.frozen? ⟨w.heap.size+1,3,none⟩=false:=frz hr9 3
   obtain ⟨ty6,hv6⟩:=hQ6 _ _ _ H6.out
   obtain ⟨v0,v1,v2,v3,vl⟩:=vc_cells hv6
   clear hv6
   have HF:Hid (((((w12.setCell ⟨w.heap.size+1,0,none⟩ (.pointer p)).setCell ⟨w.heap.size+1,1,none⟩ (.int .i32 (tm+1))).setCell ⟨w.heap.size+1,2,none⟩ (.int .i32 tk)).setCell ⟨w.heap.size+1,3,none⟩ (.int .u16 G)).heap[w.heap.size+1]?=some (.cells (vC (.pointer p) (tm+1) tk G) 76 (0,0))∧But (fun k=>k=w.heap.size+1) w12 ((((w12.setCell ⟨w.heap.size+1,0,none⟩ (.pointer p)).setCell ⟨w.heap.size+1,1,none⟩ (.int .i32 (tm+1))).setCell ⟨w.heap.size+1,2,none⟩ (.int .i32 tk)).setCell ⟨w.heap.size+1,3,none⟩ (.int .u16 G))):=hide ⟨set1_heap (i:=3) (.int .u16 G) (set1_heap (i:=2) (.int .i32 tk) (set1_heap (i:=1) (.int .i32 (tm+1)) (set1_heap (i:=0) (.pointer p) hr9))),((((But.refl (fun k=>k=w.heap.size+1) w12).setCell ⟨w.heap.size+1,0,none⟩ (fun _=>rfl) _).setCell ⟨w.heap.size+1,1,none⟩ (fun _=>rfl) _).setCell ⟨w.heap.size+1,2,none⟩ (fun _=>rfl) _).setCell ⟨w.heap.size+1,3,none⟩ (fun _=>rfl) _⟩
   go_wp2_with fail
   go_region
   go_wp2_with fail
   refine bodyPost_ret (v:=.agg (vC (.pointer p) (tm+1) tk G)) (results_cell1 Tryz.results31 _ _ (w.heap.size+1) 76 (vC (.pointer p) (tm+1) tk G) (0,0) _ rfl HF.out.1 Tryz.underlying76 rfl infoVw) rfl ?_
   exact ⟨_,w12,p,rfl,H6.out,(But.of_below HB.out).trans HBW6.out (fun _ _ e=>e),HF.out.2⟩
end
end Go.Proofs.YtimgkhdgliojgaaGreatDoor
namespace Go.Proofs.YtimgkhdgliojgaaGreatDoor
open Go.RowKit Go.Maps
section
variable {X Y Zs : Lf → Prop} {pl : Nat → Int → Int} {L L' : LF} {w w' : World} {fb gm om N N' K K' vb b : Nat} {F F' : FS} {fg : Int → Option Value} {fo : Int → Int → Option Value} {S : Nat → Prop} {e : Me} {sk : Value} {s o s' o' : Int} {v v' u : Vw} {g a : Nat} {l : Lf}
theorem of_inj (h:l.of s o) (h':l.of s' o'):s'=s∧o'=o:=by
 cases l with
 | ob a b=>exact ⟨h'.1.symm.trans h.1,h'.2.symm.trans h.2⟩
 | sn a=>exact ⟨h'.1.trans h.1.symm,h'.2.symm.trans h.2⟩
 | em a=>exact ⟨h'.1.trans h.1.symm,h'.2.symm.trans h.2⟩
 | rc a=>exact ⟨h'.1.trans h.1.symm,h'.2.symm.trans h.2⟩
 | top=>exact h.elim
 | gm=>exact h.elim
 | om=>exact h.elim
 | vw _=>exact h.elim
theorem Zr.sm (h:Zr s o F) (hs:Sm s o F F'):Zr s o F' :=
 ⟨fun e=>by rw [(hs.s1 e).1,(hs.s1 e).2];exact h.s1 e,fun e=>by rw [hs.s2 e];exact h.s2 e,fun e=>by rw [hs.s3 e];exact h.s3 e,fun e=>by rw [hs.s4 e];exact h.s4 e,fun e=>by rw [hs.s5 e];exact h.s5 e⟩
theorem FX.fin (h:FX (fun l=>l=.vw g∨l=.top∨Zs l) pl L w fb gm om N K F fg fo) (hgs:F'.gs=setN F.gs g (some v')) (hg:g < 65536) (hvg:v'.g=g)
  (htop:w.heap[fb]?=some (.cells #[.int .i32 (F'.taken:Int),.map (some gm),.map (some om)] 123 (0,0))) (hvb:fg (g:Int)=some (gPtr vb)) (hlv:L vb=some (.vw g)) (hvw:VwC pl L w vb v')
  (hob:∀ s o x ob,Rng s o→fo s o=some x→x=.iface (dyT s) (gPtr ob)→L ob=some (.ob s o)→Zs (.ob s o)→ObM pl L w ob s o K F') (hsm:∀ s o,¬ Zs (.ob s o)→Sm s o F F') (hz:∀ s o,Rng s o→Zs (.ob s o)→fo s o≠none)
  (z1:¬ Zs .gm) (z2:¬ Zs .om) (z3:∀ g u,F.gs g=some u→¬ Zs (.vw g)):FM pl L w fb gm om N K F' fg fo:=by
 refine ⟨h.lt,h.lf,h.lg,h.lo,fun _=>htop,fun _=>h.hg (by simp [z1]),fun _=>h.ho (by simp [z2]),fun g2 hg2 hn=>?_,fun g2 v2 hv2=>?_,fun s o hr hn=>?_,fun s o x hr hx=>?_⟩
 ·rw [hgs] at hn
  by_cases e9:g2=g
  ·subst e9;rw [setN_same] at hn;cases hn
  ·rw [setN_other _ _ e9] at hn;exact h.gn g2 hg2 hn
 ·rw [hgs] at hv2
  by_cases e9:g2=g
  ·subst e9;rw [setN_same] at hv2;cases hv2
   exact ⟨hg,hvg,vb,hvb,hlv,fun _=>hvw⟩
  ·rw [setN_other _ _ e9] at hv2
   obtain ⟨a1,a2,vb2,a3,a4,a5⟩:=h.vw g2 v2 hv2
   exact ⟨a1,a2,vb2,a3,a4,fun _=>a5 (by simp [e9,z3 g2 v2 hv2])⟩
 ·exact (h.on s o hr hn).sm (hsm s o (fun e9=>hz s o hr e9 hn))
 ·obtain ⟨ob,a1,a2,a3⟩:=h.ob s o x hr hx
  refine ⟨ob,a1,a2,fun _=>?_⟩
  by_cases e9:Zs (.ob s o)
  ·exact hob s o x ob hr hx a1 a2 e9
  ·exact (a3 (by simp [e9])).but (S:=fun _=>False) (But.refl _ _) (fun _ e=>e.elim) (fun _ _ e=>e.elim) (LEx.refl _ _) h.lt (Nat.le_refl _) (hsm s o e9)
theorem FM.fork (h:FM pl L w fb gm om N K F fg fo) (hm:HM w' 74 .u16 gm N' (.pointer none) (setF fg (a:Int) (some (gPtr b)))) (hb:But (fun k=>k=gm) w w') (hN:N≤N') (ha:a < 65536) (hua:u.g=a) (hlb:L b=some (.vw a)) (hu:VwC pl L w b u) (hgs:F'.gs=setN F.gs a (some u)) (hsm:∀ s o,Sm s o F F') (htk:F'.taken=F.taken):FM pl L w' fb gm om N' K F' (setF fg (a:Int) (some (gPtr b))) fo:=by
 have hY:∀ s o l,l=.gm→Lf.of s o l→(Lf.ob s o)=.gm:=fun s o l e h9=>by subst e;exact h9.elim
 have hF:=h.but (Y:=fun l=>l=.gm) (L':=L) (fun _ e=>e.elim) hb (fun k e9 _=>⟨.gm,by rw [e9];exact h.lg,rfl⟩) hY (LEx.refl _ _) (h.lt.on hb.size) hN (Nat.le_refl K)
 have nb:¬ b=gm:=fun e9=>by rw [e9,h.lg] at hlb;cases hlb
 have hS2:∀ k,k=gm→k < w.heap.size→L k≠none:=fun k e9 _ e8=>by rw [e9,h.lg] at e8;cases e8
 refine ⟨hF.lt,hF.lf,hF.lg,hF.lo,fun _=>by rw [htk];exact hF.top (by simp),fun _=>hm,fun _=>hF.ho (by simp),fun g2 hg2 hn=>?_,fun g2 v2 hv2=>?_,fun s o hr hn=>(h.on s o hr hn).sm (hsm s o),fun s o x hr hx=>?_⟩
 ·rw [hgs] at hn
  by_cases e9:g2=a
  ·subst e9;rw [setN_same] at hn;cases hn
  ·rw [setN_other _ _ e9] at hn
   have e8:¬ (g2:Int)=(a:Int):=by omega
   rw [setF_other _ _ e8];exact h.gn g2 hg2 hn
 ·rw [hgs] at hv2
  by_cases e9:g2=a
  ·subst e9;rw [setN_same] at hv2;cases hv2
   exact ⟨ha,hua,b,setF_same _ _ _,hlb,fun _=>hu.but hb nb hS2 (LEx.refl _ _)⟩
  ·rw [setN_other _ _ e9] at hv2
   have e8:¬ (g2:Int)=(a:Int):=by omega
   obtain ⟨a1,a2,vb2,a3,a4,a5⟩:=hF.vw g2 v2 hv2
   exact ⟨a1,a2,vb2,by rw [setF_other _ _ e8];exact a3,a4,fun _=>a5 (by simp)⟩
 ·obtain ⟨ob,a1,a2,a3⟩:=hF.ob s o x hr hx
  exact ⟨ob,a1,a2,fun _=>(a3 (by simp)).but (S:=fun _=>False) (But.refl _ _) (fun _ e=>e.elim) (fun _ _ e=>e.elim) (LEx.refl _ _) hF.lt (Nat.le_refl _) (hsm s o)⟩
theorem FM.join (h:FM pl L w fb gm om N K F fg fo) (hm:HM w' 74 .u16 gm N' (.pointer none) (setF fg (a:Int) none)) (hb:But (fun k=>k=gm) w w') (hN:N≤N') (hgs:F'.gs=setN F.gs a none) (hsm:∀ s o,Sm s o F F') (htk:F'.taken=F.taken):FM pl L w' fb gm om N' K F' (setF fg (a:Int) none) fo:=by
 have hY:∀ s o l,l=.gm→Lf.of s o l→(Lf.ob s o)=.gm:=fun s o l e h9=>by subst e;exact h9.elim
 have hF:=h.but (Y:=fun l=>l=.gm) (L':=L) (fun _ e=>e.elim) hb (fun k e9 _=>⟨.gm,by rw [e9];exact h.lg,rfl⟩) hY (LEx.refl _ _) (h.lt.on hb.size) hN (Nat.le_refl K)
 refine ⟨hF.lt,hF.lf,hF.lg,hF.lo,fun _=>by rw [htk];exact hF.top (by simp),fun _=>hm,fun _=>hF.ho (by simp),fun g2 hg2 hn=>?_,fun g2 v2 hv2=>?_,fun s o hr hn=>(h.on s o hr hn).sm (hsm s o),fun s o x hr hx=>?_⟩
 ·by_cases e9:g2=a
  ·subst e9;exact setF_same _ _ _
  ·rw [hgs,setN_other _ _ e9] at hn
   have e8:¬ (g2:Int)=(a:Int):=by omega
   rw [setF_other _ _ e8];exact h.gn g2 hg2 hn
 ·rw [hgs] at hv2
  by_cases e9:g2=a
  ·subst e9;rw [setN_same] at hv2;cases hv2
  ·rw [setN_other _ _ e9] at hv2
   have e8:¬ (g2:Int)=(a:Int):=by omega
   obtain ⟨a1,a2,vb2,a3,a4,a5⟩:=hF.vw g2 v2 hv2
   exact ⟨a1,a2,vb2,by rw [setF_other _ _ e8];exact a3,a4,fun _=>a5 (by simp)⟩
 ·obtain ⟨ob,a1,a2,a3⟩:=hF.ob s o x hr hx
  exact ⟨ob,a1,a2,fun _=>(a3 (by simp)).but (S:=fun _=>False) (But.refl _ _) (fun _ e=>e.elim) (fun _ _ e=>e.elim) (LEx.refl _ _) hF.lt (Nat.le_refl _) (hsm s o)⟩
end
end Go.Proofs.YtimgkhdgliojgaaGreatDoor
