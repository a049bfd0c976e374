import Derived.Test.YtimgkhdgliojgaaGreatDoorOg40
import Derived.Test.YtimgkhdgliojgaaGreatDoorOg35
set_option maxRecDepth 8000
set_option maxHeartbeats 8000000
set_option linter.unusedVariables false
namespace Go.Proofs.YtimgkhdgliojgaaGreatDoor
open Go.RowKit Go.Maps
theorem infoVw:(Tryz.prog.info? 76).map (·.size)=some 4:=by kernel_rfl
def evA (eg ek eo ea:Int) (sk:Value):Array Value:=#[.int .i64 eg,.int .i64 ek,.int .u64 eo,.int .u64 ea,sk]
structure Tk (Lb9:Nat→Prop) (w:World) (fb gm om vb:Nat) (eg ek eo ea:Int) (sk:Value) (G tm l tk:Int) (T:TypeId) (fgn fkn:Nat) (Q1:Value→World→Prop) (Q2 Q3 Q5:Value→World→Option Addr→Prop):Prop where
 lab:¬ Lb9 w.heap.size∧¬ Lb9 (w.heap.size+1)
 vfb:vb≠fb
 w0:∀ X,Below w.heap.size w X→X.cell? ⟨fb,1,none⟩=some (.map (some gm))∧(Instr.lookup 120 (.map (some gm)) (.int .u16 eg) false).run Tryz.prog X=.ok (.pointer (some ⟨vb,0,none⟩)) X
 met:∀ X,Below w.heap.size w X→w.heap.size+2≤X.heap.size→Calls Tryz.prog 54 #[.pointer (some ⟨fb,0,none⟩),.agg (evA eg ek eo ea sk)] X fun x w1=>∃ V,x=.returned (.iface T V)∧Q1 V w1∧But Lb9 X w1
 q1:∀ V X,Q1 V X→X.cell? ⟨fb,1,none⟩=some (.map (some gm))∧(Instr.lookup 120 (.map (some gm)) (.int .u16 eg) false).run Tryz.prog X=.ok (.pointer (some ⟨vb,0,none⟩)) X
 gv:∀ V X,Q1 V X→Calls Tryz.prog fgn #[V,.agg (evA eg ek eo ea sk)] X fun x w2=>∃ o,x=.returned (.pointer o)∧Q2 V w2 o∧But Lb9 X w2
 ln:∀ V X o,Q2 V X o→Calls Tryz.prog 55 #[.pointer (some ⟨vb,0,none⟩),.pointer o] X fun x w3=>x=.returned (.tuple #[])∧∃ p,Q3 V w3 p∧But Lb9 X w3
 q3:∀ V X p,Q3 V X p→(∃ ty,X.heap[vb]?=some (.cells (vC (.pointer p) tm l G) ty (0,0)))∧X.heap[fb]?=some (.cells #[.int .i32 tk,.map (some gm),.map (some om)] 123 (0,0))
 lbv:Lb9 vb∧Lb9 fb
 kp:∀ V X p Y,Q3 V X p→Below (((X.setCell ⟨vb,1,none⟩ (.int .i32 (tm+1))).setCell ⟨vb,2,none⟩ (.int .i32 tk)).setCell ⟨fb,0,none⟩ (.int .i32 (tk+1))).heap.size (((X.setCell ⟨vb,1,none⟩ (.int .i32 (tm+1))).setCell ⟨vb,2,none⟩ (.int .i32 tk)).setCell ⟨fb,0,none⟩ (.int .i32 (tk+1))) Y→Calls Tryz.prog fkn #[V,.agg (evA eg ek eo ea sk),.agg (vC (.pointer p) (tm+1) tk G)] Y fun x w5=>x=.returned (.tuple #[])∧Q5 V w5 p∧But Lb9 Y w5
 q5:∀ V X p,Q5 V X p→(∃ ty,X.heap[vb]?=some (.cells (vC (.pointer p) (tm+1) tk G) ty (0,0)))∧X.heap[fb]?=some (.cells #[.int .i32 (tk+1),.map (some gm),.map (some om)] 123 (0,0))
section
variable {Lb9 : Nat → Prop} {w : World} {fb gm om vb : Nat} {eg ek eo ea : Int} {sk : Value} {G tm l tk : Int} {T : TypeId} {fgn fkn : Nat} {Q1 : Value → World → Prop} {Q2 Q3 Q5 : Value → World → Option Addr → Prop}
theorem take_walk (h:Tk Lb9 w fb gm om vb eg ek eo ea sk G tm l tk T fgn fkn Q1 Q2 Q3 Q5) (g0:0≤eg) (g1:eg≤65535) (t0:0≤tm) (t1:tm≤1048576) (k0:0≤tk) (k1:tk≤1048576)
  (hmG : ∀ (n : Nat) (V : Value) (X : World), (method (n + 1) T V "hindsight/flow.gives").run Tryz.prog X = .ok (fgn, V) X) (hmK : ∀ (n : Nat) (V : Value) (X : World), (method (n + 1) T V "hindsight/flow.keeps").run Tryz.prog X = .ok (fkn, V) X)
  (hcG:∀ args X,(callFunc fgn args).run Tryz.prog X=.ok (.enter fgn args) X) (hcK:∀ args X,(callFunc fkn args).run Tryz.prog X=.ok (.enter fkn args) X)
  (hN : ∀ (n : Nat) (V : Value) (X Y : World), Q1 V Y → (nilAhead (n + 1) T V "hindsight/flow.keeps").run Tryz.prog X = .ok (some false) X)
  (hA:∀ (V:Value) (X:World),(Instr.typeAssert (.iface T V) 133 138 true).run Tryz.prog X=.ok (.tuple #[.pointer none,.bool false]) X) (hB:∀ (V:Value) (X:World),(Instr.typeAssert (.iface T V) 133 141 true).run Tryz.prog X=.ok (.tuple #[.pointer none,.bool false]) X) :
  Calls Tryz.prog 31 #[.pointer (some ⟨fb,0,none⟩),.agg (evA eg ek eo ea sk)] w fun x w'=>∃ V w5 p,x=.returned (.agg #[.pointer p,.int .i32 (tm+1),.int .i32 tk,.int .u16 G])∧Q5 V w5 p∧But Lb9 w w5∧But (fun k=>k=w.heap.size+1) w5 w':=by
 have hwr:IntKind.u16.wrap eg=eg:=IntWalk.u16_in eg ⟨g0,g1⟩
 have hwt:IntKind.i32.wrap (tm+1)=tm+1:=IntWalk.i32_in _ (by omega)
 have hwk:IntKind.i32.wrap (tk+1)=tk+1:=IntWalk.i32_in _ (by omega)
 obtain ⟨W,hW⟩:∃ W,W=(w.alloc (.cells (evA eg ek eo ea sk) 35)).alloc (.cells (vC (.pointer none) 0 0 0) 76):=⟨_,rfl⟩
 have hb:Below w.heap.size w W:=by rw [hW];exact below_alloc2 w _ _
 have hE:W.heap[w.heap.size]?=some (.cells (evA eg ek eo ea sk) 35 (0,0)):=by rw [hW,Below.heap_alloc _ _ _ (by simp)];exact heap_new _ _
 have hR:W.heap[w.heap.size+1]?=some (.cells (vC (.pointer none) 0 0 0) 76 (0,0)):=by rw [hW];exact heap_newS (by simp)
 have HEv:Hid (∀ X,But Lb9 W X→X.heap[w.heap.size]?=some (.cells (evA eg ek eo ea sk) 35 (0,0))∧X.heap[w.heap.size+1]?=some (.cells (vC (.pointer none) 0 0 0) 76 (0,0))):=hide (fun X hX=>⟨(hX.block _ (lt_heap hE) h.lab.1).trans hE,(hX.block _ (lt_heap hR) h.lab.2).trans hR⟩)
 have HB:=hide hb
 have HSx:Hid (∀ X,(Below w.heap.size w X∨∃ V,Q1 V X)→But Lb9 W X→X.cell? ⟨fb,1,none⟩=some (.map (some gm))∧(Instr.lookup 120 (.map (some gm)) (.int .u16 eg) false).run Tryz.prog X=.ok (.pointer (some ⟨vb,0,none⟩)) X∧X.cell? ⟨w.heap.size,0,none⟩=some (.int .i64 eg)∧X.cell? ⟨w.heap.size,1,none⟩=some (.int .i64 ek)∧X.cell? ⟨w.heap.size,2,none⟩=some (.int .u64 eo)∧X.cell? ⟨w.heap.size,3,none⟩=some (.int .u64 ea)∧X.cell? ⟨w.heap.size,4,none⟩=some sk):=hide (fun X hX hk=>by
  obtain ⟨c1,c2⟩:X.cell? ⟨fb,1,none⟩=some (.map (some gm))∧(Instr.lookup 120 (.map (some gm)) (.int .u16 eg) false).run Tryz.prog X=.ok (.pointer (some ⟨vb,0,none⟩)) X:=by
   rcases hX with hX|hX
   ·exact h.w0 X hX
   ·exact hX.elim (fun V hV=>h.q1 V X hV)
  have e9:=(HEv.out X hk).1
  exact ⟨c1,c2,cell_at e9 rfl,cell_at e9 rfl,cell_at e9 rfl,cell_at e9 rfl,cell_at e9 rfl⟩)
 have HMt:=hide (h.met W.drew hb.drew (by show w.heap.size+2≤W.heap.size;rw [hW];simp))
 have HQ:=hide h
 have HW:=hide hW
 unfold evA vC at HW
 unfold evA at HMt
 have HBW:Hid (But Lb9 W W.drew):=hide (But.refl _ _).drew
 clear hE hR hb hW
 unfold evA
 clear h
 go_enter Tryz.func31,Tryz.ntmps31
 go_wp2_with fail
 rw [← HW.out]
 go_region_held3 (fun X=>X.cell? ⟨fb,1,none⟩=some (.map (some gm))∧(Instr.lookup 120 (.map (some gm)) (.int .u16 eg) false).run Tryz.prog X=.ok (.pointer (some ⟨vb,0,none⟩)) X∧X.cell? ⟨w.heap.size,0,none⟩=some (.int .i64 eg)∧X.cell? ⟨w.heap.size,1,none⟩=some (.int .i64 ek)∧X.cell? ⟨w.heap.size,2,none⟩=some (.int .u64 eo)∧X.cell? ⟨w.heap.size,3,none⟩=some (.int .u64 ea)∧X.cell? ⟨w.heap.size,4,none⟩=some sk)
  (first|with_reducible exact HSx.out _ (.inl HB.out) (But.refl _ _)|with_reducible exact HSx.out _ (.inl HB.out.drew) HBW.out|with_reducible exact HSx.out _ (.inr ⟨_,H1.out⟩) HBW1.out)
  (first
   | (go_at_call 54;go_must (refine HMt.out.mono ?_;rintro e8 w8 ⟨V,rfl,hq8,hb8⟩;have H1:=hide hq8;have HBW1:Hid (But Lb9 W w8):=hide (HBW.out.trans hb8 (fun _ _ e=>e));clear hq8 hb8)))
 all_goals
  obtain ⟨_,_,a0,a1,a2,a3,a4⟩:=HSx.out _ (.inr ⟨_,H1.out⟩) HBW1.out
  have al:=World.block_lt_of_cell? w8 _ a0
  have HGv:=hide (HQ.out.gv _ _ H1.out)
  have hN1 : ∀ (n : Nat) (X : World), (nilAhead (n + 1) T V "hindsight/flow.keeps").run Tryz.prog X = .ok (some false) X := fun n X => hN n V X _ H1.out
  have hnn:((some false:Option Bool) != some false)=false:=by decide
  unfold evA at HGv
  go_wp2_with fail
  refine HGv.out.mono ?_
  rintro e9 w9 ⟨o9,rfl,hq9,hb9⟩
  have H2:=hide hq9
  have HBW2:Hid (But Lb9 W w9):=hide (HBW1.out.trans hb9 (fun _ _ e=>e))
  clear hq9 hb9 HGv a0 a1 a2 a3 a4 al
  have HLn:=hide (HQ.out.ln _ _ _ H2.out)
  go_wp2_with fail
  refine HLn.out.mono ?_
  rintro e10 w10 ⟨rfl,p,hq10,hb10⟩
  have H3:=hide hq10
  have HBW3:Hid (But Lb9 W w10):=hide (HBW2.out.trans hb10 (fun _ _ e=>e))
  clear hq10 hb10 HLn
  obtain ⟨⟨ty,hv3⟩,hf3⟩:=HQ.out.q3 _ _ _ H3.out
  obtain ⟨q0,q1,q2,q3,ql⟩:=vc_cells hv3
  have f0:w10.cell? ⟨fb,0,none⟩=some (.int .i32 tk):=cell_at hf3 rfl
  have fl:=lt_heap hf3
  have fr1:w10.frozen? ⟨vb,1,none⟩=false:=frz hv3 1
  have fr2:w10.frozen? ⟨vb,2,none⟩=false:=frz hv3 2
  have fr0:w10.frozen? ⟨fb,0,none⟩=false:=frz hf3 0
  have hne:vb≠fb:=HQ.out.vfb
  have hne2:fb≠vb:=fun e=>hne e.symm
  have HU:Hid (∃ U,U=(((w10.setCell ⟨vb,1,none⟩ (.int .i32 (tm+1))).setCell ⟨vb,2,none⟩ (.int .i32 tk)).setCell ⟨fb,0,none⟩ (.int .i32 (tk+1)))∧But Lb9 W U∧U.heap[vb]?=some (.cells (vC (.pointer p) (tm+1) tk G) ty (0,0))):=hide (by
   obtain ⟨lv,lf⟩:=HQ.out.lbv
   refine ⟨_,rfl,((HBW3.out.setCell ⟨vb,1,none⟩ (fun _=>lv) _).setCell ⟨vb,2,none⟩ (fun _=>lv) _).setCell ⟨fb,0,none⟩ (fun _=>lf) _,?_⟩
   have s1:=set1_heap (i:=1) (.int .i32 (tm+1)) hv3
   have s2:=set1_heap (i:=2) (.int .i32 tk) s1
   exact (((But.refl (fun j=>j=fb) _).setCell ⟨fb,0,none⟩ (fun _=>rfl) _).block vb (lt_heap s2) hne).trans s2)
  clear hv3 hf3
  go_wp2_with fail
  obtain ⟨U,hU,hBU,hvU⟩:=HU.out
  have HKp:=hide (fun Y=>HQ.out.kp V w10 p Y H3.out)
  rw [← hU] at HKp ⊢
  have HBU:=hide hBU
  have HSu:Hid (∀ X,Below U.heap.size U X→X.cell? ⟨w.heap.size,0,none⟩=some (.int .i64 eg)∧X.cell? ⟨w.heap.size,1,none⟩=some (.int .i64 ek)∧X.cell? ⟨w.heap.size,2,none⟩=some (.int .u64 eo)∧X.cell? ⟨w.heap.size,3,none⟩=some (.int .u64 ea)∧X.cell? ⟨w.heap.size,4,none⟩=some sk∧X.cell? ⟨vb,0,none⟩=some (.pointer p)∧X.cell? ⟨vb,1,none⟩=some (.int .i32 (tm+1))∧X.cell? ⟨vb,2,none⟩=some (.int .i32 tk)∧X.cell? ⟨vb,3,none⟩=some (.int .u16 G)):=hide (fun X hX=>by
   have e9:=(HEv.out X (HBU.out.on hX)).1
   have v9:=(hX.block vb (lt_heap hvU)).trans hvU
   exact ⟨cell_at e9 rfl,cell_at e9 rfl,cell_at e9 rfl,cell_at e9 rfl,cell_at e9 rfl,cell_at v9 rfl,cell_at v9 rfl,cell_at v9 rfl,cell_at v9 rfl⟩)
  unfold evA vC at HKp
  have HK1:=hide (HKp.out U.drew (Below.refl _ _).drew)
  clear hU hBU hvU HU q0 q1 q2 q3 ql f0 fl fr0 fr1 fr2
  go_region_held3 (fun X=>X.cell? ⟨w.heap.size,0,none⟩=some (.int .i64 eg)∧X.cell? ⟨w.heap.size,1,none⟩=some (.int .i64 ek)∧X.cell? ⟨w.heap.size,2,none⟩=some (.int .u64 eo)∧X.cell? ⟨w.heap.size,3,none⟩=some (.int .u64 ea)∧X.cell? ⟨w.heap.size,4,none⟩=some sk∧X.cell? ⟨vb,0,none⟩=some (.pointer p)∧X.cell? ⟨vb,1,none⟩=some (.int .i32 (tm+1))∧X.cell? ⟨vb,2,none⟩=some (.int .i32 tk)∧X.cell? ⟨vb,3,none⟩=some (.int .u16 G))
   (first|with_reducible exact HSu.out _ (Below.refl _ _)|with_reducible exact HSu.out _ (Below.refl _ _).drew|with_reducible exact HS5.out)
   (first
    | (with_reducible refine HK1.out.mono ?_;rintro e11 w11 ⟨rfl,hq11,hb11⟩;have H5:=hide hq11;have HBW5:Hid (But Lb9 W w11):=hide ((HBU.out.drew).trans hb11 (fun _ _ e=>e));have HS5:Hid (w11.cell? ⟨w.heap.size,0,none⟩=some (.int .i64 eg)∧w11.cell? ⟨w.heap.size,1,none⟩=some (.int .i64 ek)∧w11.cell? ⟨w.heap.size,2,none⟩=some (.int .u64 eo)∧w11.cell? ⟨w.heap.size,3,none⟩=some (.int .u64 ea)∧w11.cell? ⟨w.heap.size,4,none⟩=some sk∧w11.cell? ⟨vb,0,none⟩=some (.pointer p)∧w11.cell? ⟨vb,1,none⟩=some (.int .i32 (tm+1))∧w11.cell? ⟨vb,2,none⟩=some (.int .i32 tk)∧w11.cell? ⟨vb,3,none⟩=some (.int .u16 G)):=hide (have e9:=(HEv.out _ HBW5.out).1;(HQ.out.q5 _ _ _ H5.out).1.elim (fun _ v9=>⟨cell_at e9 rfl,cell_at e9 rfl,cell_at e9 rfl,cell_at e9 rfl,cell_at e9 rfl,cell_at v9 rfl,cell_at v9 rfl,cell_at v9 rfl,cell_at v9 rfl⟩));clear hq11 hb11))
  all_goals
   obtain ⟨_,_,_,_,_,v0,v1,v2,v3⟩:=HS5.out
   have vl:=World.block_lt_of_cell? w11 _ v0
   have hr9:=(HEv.out _ HBW5.out).2
   obtain ⟨r0,r1,r2,r3,rl⟩:=vc_cells hr9
   have rf0:w11.frozen? ⟨w.heap.size+1,0,none⟩=false:=frz hr9 0
   have rf1:w11.frozen? ⟨w.heap.size+1,1,none⟩=false:=frz hr9 1
   have rf2:w11.frozen? ⟨w.heap.size+1,2,none⟩=false:=frz hr9 2
   have rf3:w11.frozen? ⟨w.heap.size+1,3,none⟩=false:=frz hr9 3
   have HF:Hid (((((w11.setCell ⟨w.heap.size+1,0,none⟩ (.pointer p)).setCell ⟨w.heap.size+1,1,none⟩ (.int .i32 (tm+1))).setCell ⟨w.heap.size+1,2,none⟩ (.int .i32 tk)).setCell ⟨w.heap.size+1,3,none⟩ (.int .u16 G)).heap[w.heap.size+1]?=some (.cells (vC (.pointer p) (tm+1) tk G) 76 (0,0))∧But (fun k=>k=w.heap.size+1) w11 ((((w11.setCell ⟨w.heap.size+1,0,none⟩ (.pointer p)).setCell ⟨w.heap.size+1,1,none⟩ (.int .i32 (tm+1))).setCell ⟨w.heap.size+1,2,none⟩ (.int .i32 tk)).setCell ⟨w.heap.size+1,3,none⟩ (.int .u16 G))):=hide ⟨set1_heap (i:=3) (.int .u16 G) (set1_heap (i:=2) (.int .i32 tk) (set1_heap (i:=1) (.int .i32 (tm+1)) (set1_heap (i:=0) (.pointer p) hr9))),((((But.refl (fun k=>k=w.heap.size+1) w11).setCell ⟨w.heap.size+1,0,none⟩ (fun _=>rfl) _).setCell ⟨w.heap.size+1,1,none⟩ (fun _=>rfl) _).setCell ⟨w.heap.size+1,2,none⟩ (fun _=>rfl) _).setCell ⟨w.heap.size+1,3,none⟩ (fun _=>rfl) _⟩
   go_wp2_with fail
   refine bodyPost_ret (v:=.agg (vC (.pointer p) (tm+1) tk G)) (results_cell1 Tryz.results31 _ _ (w.heap.size+1) 76 (vC (.pointer p) (tm+1) tk G) (0,0) _ rfl HF.out.1 Tryz.underlying76 rfl infoVw) rfl ?_
   exact ⟨V,w11,p,rfl,H5.out,(But.of_below HB.out).trans HBW5.out (fun _ _ e=>e),HF.out.2⟩
end
end Go.Proofs.YtimgkhdgliojgaaGreatDoor
