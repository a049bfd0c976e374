import Derived.Test.YtimgkhdgliojgaaGreatDoorOg02
import Derived.LaidEqlPtr
import Derived.Test.YtimgkhdgliojgaaGreatDoorOg01
set_option maxRecDepth 8000
set_option maxHeartbeats 8000000
set_option linter.unusedVariables false
namespace Go.Proofs.YtimgkhdgliojgaaGreatDoor
open Go.RowKit Go.Maps
theorem info_tm:∃ j,Tryz.prog.info? 166=some j∧j.size≠0:=by
 have h:(Tryz.prog.info? 166).map (·.size)=some 6:=by kernel_rfl
 cases hq:Tryz.prog.info? 166 with
 | none=>rw [hq] at h;cases h
 | some j=>rw [hq] at h;simp at h;exact ⟨j,rfl,by omega⟩
theorem peq {W:World} {a b:Nat} {ca cb:Array Value} {ta tb:TypeId} (ha:W.heap[a]?=some (.cells ca ta (0,0))) (hb:W.heap[b]?=some (.cells cb tb (0,0))):(binOp .eql 73 (.pointer (some ⟨a,0,none⟩)) (.pointer (some ⟨b,0,none⟩))).run Tryz.prog W=.ok (.bool (decide (a=b))) W:=by
 obtain ⟨j,hj,hs⟩:=info_tm
 by_cases h:a=b
 ·subst h
  rw [decide_eq_true rfl]
  exact run_eql_ptr_same W _ Tryz.underlying73 hj
 ·rw [decide_eq_false h]
  exact run_eql_ptr_other W Tryz.underlying73 hj hs (fun e=>h (by cases e;rfl)) ha hb
theorem peq_nil (W:World) (b:Nat):(binOp .eql 73 (.pointer none) (.pointer (some ⟨b,0,none⟩))).run Tryz.prog W=.ok (.bool false) W:=by
 have h:∀ d:Nat,(Op.equalIn (d+1) 73 (.pointer none) (.pointer (some ⟨b,0,none⟩))).run Tryz.prog W=.ok false W:=fun d=>by
  simp [Op.equalIn,run_underlying Tryz.underlying73]
 simp only [binOp]
 simp [Op.equal,Op.maxDepth,h 9999]
def Jh (w w':World) (pa pb pl ph:Nat) (ga fa ll lh:Int) (B1 B2 B3 B4:Bool) (e:Ending):Prop:=Below w.heap.size w w'∧((B1=true∧B2=true∧e=.returned (.pointer (some ⟨pa,0,none⟩)))∨(B3=true∧B4=true∧e=.returned (.pointer (some ⟨pb,0,none⟩)))∨∃ z,e=.returned (.pointer (some ⟨z,0,none⟩))∧w.heap.size≤z∧w'.heap[z]?=some (.cells (tC ga fa (max ll lh) (ptr pl) (ptr ph) (.pointer none)) 166 (0,0)))
set_option maxHeartbeats 16000000 in
theorem joinHalves_raw {w:World} {pa pb pl ph:Nat} {ga fa la gb fb lb ll lh:Int} {oa1 oa2 ob1 ob2:Option Addr} {alf blf:Value} {B1 B2 B3 B4:Bool} (ba:w.heap[pa]?=some (.cells (tC ga fa la (.pointer oa1) (.pointer oa2) alf) 166 (0,0))) (bb:w.heap[pb]?=some (.cells (tC gb fb lb (.pointer ob1) (.pointer ob2) blf) 166 (0,0))) (c1:w.cell? ⟨pl,2,none⟩=some (.int .i32 ll)) (c2:w.cell? ⟨ph,2,none⟩=some (.int .i32 lh))
  (e1:∀ X,Below w.heap.size w X→(binOp .eql 73 (.pointer oa1) (.pointer (some ⟨pl,0,none⟩))).run Tryz.prog X=.ok (.bool B1) X) (e2:∀ X,Below w.heap.size w X→(binOp .eql 73 (.pointer oa2) (.pointer (some ⟨ph,0,none⟩))).run Tryz.prog X=.ok (.bool B2) X)
  (e3:∀ X,Below w.heap.size w X→(binOp .eql 73 (.pointer ob1) (.pointer (some ⟨pl,0,none⟩))).run Tryz.prog X=.ok (.bool B3) X) (e4:∀ X,Below w.heap.size w X→(binOp .eql 73 (.pointer ob2) (.pointer (some ⟨ph,0,none⟩))).run Tryz.prog X=.ok (.bool B4) X) :
  Calls Tryz.prog 79 #[.pointer (some ⟨pa,0,none⟩),.pointer (some ⟨pb,0,none⟩),.pointer (some ⟨pl,0,none⟩),.pointer (some ⟨ph,0,none⟩)] w fun e w'=>Jh w w' pa pb pl ph ga fa ll lh B1 B2 B3 B4 e:=by
 obtain ⟨W,hW⟩:∃ W,W=w.alloc (.cells #[.pointer (some ⟨pa,0,none⟩),.pointer (some ⟨pb,0,none⟩)] 73):=⟨_,rfl⟩
 have hb:Below w.heap.size w W:=by rw [hW];exact below_alloc1 w _
 have hR:W.heap[w.heap.size]?=some (.cells #[.pointer (some ⟨pa,0,none⟩),.pointer (some ⟨pb,0,none⟩)] 73 (0,0)):=by rw [hW];exact heap_new _ _
 have E1:=e1 W hb
 have E2:=e2 W hb
 have E3:=e3 W hb
 have E4:=e4 W hb
 obtain ⟨a0,a1,a2,a3,a4,a5,al⟩:=tc_cells ((hb.block pa (lt_heap ba)).trans ba)
 obtain ⟨b0,b1,b2,b3,b4,b5,bl⟩:=tc_cells ((hb.block pb (lt_heap bb)).trans bb)
 have l1:=World.block_lt_of_cell? w _ c1
 have l2:=World.block_lt_of_cell? w _ c2
 have k1:W.cell? ⟨pl,2,none⟩=some (.int .i32 ll):=(hb.cell (p:=⟨pl,2,none⟩) l1).trans c1
 have k2:W.cell? ⟨ph,2,none⟩=some (.int .i32 lh):=(hb.cell (p:=⟨ph,2,none⟩) l2).trans c2
 have s0:W.cell? ⟨w.heap.size,0,none⟩=some (.pointer (some ⟨pa,0,none⟩)):=cell_at hR rfl
 have s1:W.cell? ⟨w.heap.size,1,none⟩=some (.pointer (some ⟨pb,0,none⟩)):=cell_at hR rfl
 have sl:=lt_heap hR
 have HS:Hid (∀ X,Below W.heap.size W X→X.cell? ⟨pa,0,none⟩=some (.int .u16 ga)∧X.cell? ⟨pa,1,none⟩=some (.int .u16 fa)):=hide (fun X hX=>⟨(hX.cell (p:=⟨pa,0,none⟩) al).trans a0,(hX.cell (p:=⟨pa,1,none⟩) al).trans a1⟩)
 have HBr:Hid (∀ X,Below W.heap.size W X→Calls Tryz.prog 142 #[.int .u16 ga,.int .u16 fa,.pointer (some ⟨pl,0,none⟩),.pointer (some ⟨ph,0,none⟩)] X fun e w'=>∃ p,e=.returned (.pointer (some ⟨p,0,none⟩))∧X.heap.size≤p∧w'.heap[p]?=some (.cells (tC ga fa (max ll lh) (ptr pl) (ptr ph) (.pointer none)) 166 (0,0))∧Below X.heap.size X w'):=hide (fun X hX=>branch_raw ga fa ((hX.cell (p:=⟨pl,2,none⟩) (Nat.lt_of_lt_of_le l1 hb.size)).trans k1) ((hX.cell (p:=⟨ph,2,none⟩) (Nat.lt_of_lt_of_le l2 hb.size)).trans k2))
 have HB:=hide hb
 have HW:=hide hW
 have H0:=hide (Below.refl W.heap.size W)
 have H1:=hide ((Below.refl W.heap.size W).drew)
 have HC:=hide (HBr.out _ H1.out)
 clear ba bb c1 c2 e1 e2 e3 e4 hW hb hR l1 l2 HBr
 cases B1 with
 | true =>
  cases B2 with
  | true =>
   cases B3 with
   | true =>
    cases B4 with
    | true =>
     go_enter Tryz.func79,Tryz.ntmps79
     go_wp2_with fail
     rw [← HW.out]
     clear HW
     go_loopw [15] (fun i wr=>∃ j:Nat,j≤2∧i=.int .i64 j∧wr=W) (fun i _=>2 - (intOf i).toNat)
     case atStart=>exact ⟨0,by omega,rfl,rfl⟩
     case round =>
      obtain ⟨j,hj,rfl,hwr⟩:=hrel
      obtain rfl:W=wr:=hwr.symm
      by_cases hj2:j < 2
      ·by_cases hj0:j=0
       ·subst hj0
        go_wp2
        go_ret
        exact ⟨HB.out,.inl ⟨rfl,rfl,rfl⟩⟩
       ·obtain rfl:j=1:=by omega
        go_wp2
        go_ret
        exact ⟨HB.out,.inr (.inl ⟨rfl,rfl,rfl⟩)⟩
      ·have hjI:¬ (j:Int) < 2:=by omega
       clear hj hj2
       go_wp2_with fail
       go_region_held3 (fun X=>X.cell? ⟨pa,0,none⟩=some (.int .u16 ga)∧X.cell? ⟨pa,1,none⟩=some (.int .u16 fa))
        (first|with_reducible exact HS.out _ H0.out|with_reducible exact HS.out _ H1.out|with_reducible exact HS.out _ H2.out)
        (first|(go_at_call 142;go_must (refine HC.out.mono ?_;rintro e9 w9 ⟨z9,rfl,hz1,hz2,hz3⟩;have H2:Hid (Below W.heap.size W w9):=hide (H1.out.trans (hz3.mono H1.out.size));have HZ2:=hide hz2;have HZ1:Hid (w.heap.size≤z9):=hide (Nat.le_trans HB.out.size hz1);clear hz1 hz2 hz3)))
       have HBf:=hide (HB.out.trans (H2.out.mono HB.out.size))
       go_wp2
       go_ret
       exact ⟨HBf.out,.inr (.inr ⟨_,rfl,HZ1.out,HZ2.out⟩)⟩
    | false =>
     go_enter Tryz.func79,Tryz.ntmps79
     go_wp2_with fail
     rw [← HW.out]
     clear HW
     go_loopw [15] (fun i wr=>∃ j:Nat,j≤2∧i=.int .i64 j∧wr=W) (fun i _=>2 - (intOf i).toNat)
     case atStart=>exact ⟨0,by omega,rfl,rfl⟩
     case round =>
      obtain ⟨j,hj,rfl,hwr⟩:=hrel
      obtain rfl:W=wr:=hwr.symm
      by_cases hj2:j < 2
      ·by_cases hj0:j=0
       ·subst hj0
        go_wp2
        go_ret
        exact ⟨HB.out,.inl ⟨rfl,rfl,rfl⟩⟩
       ·obtain rfl:j=1:=by omega
        go_wp2
        exact ⟨⟨2,by omega,by go_num,trivial⟩,by simp [intOf]⟩
      ·have hjI:¬ (j:Int) < 2:=by omega
       clear hj hj2
       go_wp2_with fail
       go_region_held3 (fun X=>X.cell? ⟨pa,0,none⟩=some (.int .u16 ga)∧X.cell? ⟨pa,1,none⟩=some (.int .u16 fa))
        (first|with_reducible exact HS.out _ H0.out|with_reducible exact HS.out _ H1.out|with_reducible exact HS.out _ H2.out)
        (first|(go_at_call 142;go_must (refine HC.out.mono ?_;rintro e9 w9 ⟨z9,rfl,hz1,hz2,hz3⟩;have H2:Hid (Below W.heap.size W w9):=hide (H1.out.trans (hz3.mono H1.out.size));have HZ2:=hide hz2;have HZ1:Hid (w.heap.size≤z9):=hide (Nat.le_trans HB.out.size hz1);clear hz1 hz2 hz3)))
       have HBf:=hide (HB.out.trans (H2.out.mono HB.out.size))
       go_wp2
       go_ret
       exact ⟨HBf.out,.inr (.inr ⟨_,rfl,HZ1.out,HZ2.out⟩)⟩
   | false =>
    go_enter Tryz.func79,Tryz.ntmps79
    go_wp2_with fail
    rw [← HW.out]
    clear HW
    go_loopw [15] (fun i wr=>∃ j:Nat,j≤2∧i=.int .i64 j∧wr=W) (fun i _=>2 - (intOf i).toNat)
    case atStart=>exact ⟨0,by omega,rfl,rfl⟩
    case round =>
     obtain ⟨j,hj,rfl,hwr⟩:=hrel
     obtain rfl:W=wr:=hwr.symm
     by_cases hj2:j < 2
     ·by_cases hj0:j=0
      ·subst hj0
       go_wp2
       go_ret
       exact ⟨HB.out,.inl ⟨rfl,rfl,rfl⟩⟩
      ·obtain rfl:j=1:=by omega
       go_wp2
       exact ⟨⟨2,by omega,by go_num,trivial⟩,by simp [intOf]⟩
     ·have hjI:¬ (j:Int) < 2:=by omega
      clear hj hj2
      go_wp2_with fail
      go_region_held3 (fun X=>X.cell? ⟨pa,0,none⟩=some (.int .u16 ga)∧X.cell? ⟨pa,1,none⟩=some (.int .u16 fa))
       (first|with_reducible exact HS.out _ H0.out|with_reducible exact HS.out _ H1.out|with_reducible exact HS.out _ H2.out)
       (first|(go_at_call 142;go_must (refine HC.out.mono ?_;rintro e9 w9 ⟨z9,rfl,hz1,hz2,hz3⟩;have H2:Hid (Below W.heap.size W w9):=hide (H1.out.trans (hz3.mono H1.out.size));have HZ2:=hide hz2;have HZ1:Hid (w.heap.size≤z9):=hide (Nat.le_trans HB.out.size hz1);clear hz1 hz2 hz3)))
      have HBf:=hide (HB.out.trans (H2.out.mono HB.out.size))
      go_wp2
      go_ret
      exact ⟨HBf.out,.inr (.inr ⟨_,rfl,HZ1.out,HZ2.out⟩)⟩
  | false =>
   cases B3 with
   | true =>
    cases B4 with
    | true =>
     go_enter Tryz.func79,Tryz.ntmps79
     go_wp2_with fail
     rw [← HW.out]
     clear HW
     go_loopw [15] (fun i wr=>∃ j:Nat,j≤2∧i=.int .i64 j∧wr=W) (fun i _=>2 - (intOf i).toNat)
     case atStart=>exact ⟨0,by omega,rfl,rfl⟩
     case round =>
      obtain ⟨j,hj,rfl,hwr⟩:=hrel
      obtain rfl:W=wr:=hwr.symm
      by_cases hj2:j < 2
      ·by_cases hj0:j=0
       ·subst hj0
        go_wp2
        exact ⟨⟨1,by omega,by go_num,trivial⟩,by simp [intOf]⟩
       ·obtain rfl:j=1:=by omega
        go_wp2
        go_ret
        exact ⟨HB.out,.inr (.inl ⟨rfl,rfl,rfl⟩)⟩
      ·have hjI:¬ (j:Int) < 2:=by omega
       clear hj hj2
       go_wp2_with fail
       go_region_held3 (fun X=>X.cell? ⟨pa,0,none⟩=some (.int .u16 ga)∧X.cell? ⟨pa,1,none⟩=some (.int .u16 fa))
        (first|with_reducible exact HS.out _ H0.out|with_reducible exact HS.out _ H1.out|with_reducible exact HS.out _ H2.out)
        (first|(go_at_call 142;go_must (refine HC.out.mono ?_;rintro e9 w9 ⟨z9,rfl,hz1,hz2,hz3⟩;have H2:Hid (Below W.heap.size W w9):=hide (H1.out.trans (hz3.mono H1.out.size));have HZ2:=hide hz2;have HZ1:Hid (w.heap.size≤z9):=hide (Nat.le_trans HB.out.size hz1);clear hz1 hz2 hz3)))
       have HBf:=hide (HB.out.trans (H2.out.mono HB.out.size))
       go_wp2
       go_ret
       exact ⟨HBf.out,.inr (.inr ⟨_,rfl,HZ1.out,HZ2.out⟩)⟩
    | false =>
     go_enter Tryz.func79,Tryz.ntmps79
     go_wp2_with fail
     rw [← HW.out]
     clear HW
     go_loopw [15] (fun i wr=>∃ j:Nat,j≤2∧i=.int .i64 j∧wr=W) (fun i _=>2 - (intOf i).toNat)
     case atStart=>exact ⟨0,by omega,rfl,rfl⟩
     case round =>
      obtain ⟨j,hj,rfl,hwr⟩:=hrel
      obtain rfl:W=wr:=hwr.symm
      by_cases hj2:j < 2
      ·by_cases hj0:j=0
       ·subst hj0
        go_wp2
        exact ⟨⟨1,by omega,by go_num,trivial⟩,by simp [intOf]⟩
       ·obtain rfl:j=1:=by omega
        go_wp2
        exact ⟨⟨2,by omega,by go_num,trivial⟩,by simp [intOf]⟩
      ·have hjI:¬ (j:Int) < 2:=by omega
       clear hj hj2
       go_wp2_with fail
       go_region_held3 (fun X=>X.cell? ⟨pa,0,none⟩=some (.int .u16 ga)∧X.cell? ⟨pa,1,none⟩=some (.int .u16 fa))
        (first|with_reducible exact HS.out _ H0.out|with_reducible exact HS.out _ H1.out|with_reducible exact HS.out _ H2.out)
        (first|(go_at_call 142;go_must (refine HC.out.mono ?_;rintro e9 w9 ⟨z9,rfl,hz1,hz2,hz3⟩;have H2:Hid (Below W.heap.size W w9):=hide (H1.out.trans (hz3.mono H1.out.size));have HZ2:=hide hz2;have HZ1:Hid (w.heap.size≤z9):=hide (Nat.le_trans HB.out.size hz1);clear hz1 hz2 hz3)))
       have HBf:=hide (HB.out.trans (H2.out.mono HB.out.size))
       go_wp2
       go_ret
       exact ⟨HBf.out,.inr (.inr ⟨_,rfl,HZ1.out,HZ2.out⟩)⟩
   | false =>
    go_enter Tryz.func79,Tryz.ntmps79
    go_wp2_with fail
    rw [← HW.out]
    clear HW
    go_loopw [15] (fun i wr=>∃ j:Nat,j≤2∧i=.int .i64 j∧wr=W) (fun i _=>2 - (intOf i).toNat)
    case atStart=>exact ⟨0,by omega,rfl,rfl⟩
    case round =>
     obtain ⟨j,hj,rfl,hwr⟩:=hrel
     obtain rfl:W=wr:=hwr.symm
     by_cases hj2:j < 2
     ·by_cases hj0:j=0
      ·subst hj0
       go_wp2
       exact ⟨⟨1,by omega,by go_num,trivial⟩,by simp [intOf]⟩
      ·obtain rfl:j=1:=by omega
       go_wp2
       exact ⟨⟨2,by omega,by go_num,trivial⟩,by simp [intOf]⟩
     ·have hjI:¬ (j:Int) < 2:=by omega
      clear hj hj2
      go_wp2_with fail
      go_region_held3 (fun X=>X.cell? ⟨pa,0,none⟩=some (.int .u16 ga)∧X.cell? ⟨pa,1,none⟩=some (.int .u16 fa))
       (first|with_reducible exact HS.out _ H0.out|with_reducible exact HS.out _ H1.out|with_reducible exact HS.out _ H2.out)
       (first|(go_at_call 142;go_must (refine HC.out.mono ?_;rintro e9 w9 ⟨z9,rfl,hz1,hz2,hz3⟩;have H2:Hid (Below W.heap.size W w9):=hide (H1.out.trans (hz3.mono H1.out.size));have HZ2:=hide hz2;have HZ1:Hid (w.heap.size≤z9):=hide (Nat.le_trans HB.out.size hz1);clear hz1 hz2 hz3)))
      have HBf:=hide (HB.out.trans (H2.out.mono HB.out.size))
      go_wp2
      go_ret
      exact ⟨HBf.out,.inr (.inr ⟨_,rfl,HZ1.out,HZ2.out⟩)⟩
 | false =>
  cases B3 with
  | true =>
   cases B4 with
   | true =>
    go_enter Tryz.func79,Tryz.ntmps79
    go_wp2_with fail
    rw [← HW.out]
    clear HW
    go_loopw [15] (fun i wr=>∃ j:Nat,j≤2∧i=.int .i64 j∧wr=W) (fun i _=>2 - (intOf i).toNat)
    case atStart=>exact ⟨0,by omega,rfl,rfl⟩
    case round =>
     obtain ⟨j,hj,rfl,hwr⟩:=hrel
     obtain rfl:W=wr:=hwr.symm
     by_cases hj2:j < 2
     ·by_cases hj0:j=0
      ·subst hj0
       go_wp2
       exact ⟨⟨1,by omega,by go_num,trivial⟩,by simp [intOf]⟩
      ·obtain rfl:j=1:=by omega
       go_wp2
       go_ret
       exact ⟨HB.out,.inr (.inl ⟨rfl,rfl,rfl⟩)⟩
     ·have hjI:¬ (j:Int) < 2:=by omega
      clear hj hj2
      go_wp2_with fail
      go_region_held3 (fun X=>X.cell? ⟨pa,0,none⟩=some (.int .u16 ga)∧X.cell? ⟨pa,1,none⟩=some (.int .u16 fa))
       (first|with_reducible exact HS.out _ H0.out|with_reducible exact HS.out _ H1.out|with_reducible exact HS.out _ H2.out)
       (first|(go_at_call 142;go_must (refine HC.out.mono ?_;rintro e9 w9 ⟨z9,rfl,hz1,hz2,hz3⟩;have H2:Hid (Below W.heap.size W w9):=hide (H1.out.trans (hz3.mono H1.out.size));have HZ2:=hide hz2;have HZ1:Hid (w.heap.size≤z9):=hide (Nat.le_trans HB.out.size hz1);clear hz1 hz2 hz3)))
      have HBf:=hide (HB.out.trans (H2.out.mono HB.out.size))
      go_wp2
      go_ret
      exact ⟨HBf.out,.inr (.inr ⟨_,rfl,HZ1.out,HZ2.out⟩)⟩
   | false =>
    go_enter Tryz.func79,Tryz.ntmps79
    go_wp2_with fail
    rw [← HW.out]
    clear HW
    go_loopw [15] (fun i wr=>∃ j:Nat,j≤2∧i=.int .i64 j∧wr=W) (fun i _=>2 - (intOf i).toNat)
    case atStart=>exact ⟨0,by omega,rfl,rfl⟩
    case round =>
     obtain ⟨j,hj,rfl,hwr⟩:=hrel
     obtain rfl:W=wr:=hwr.symm
     by_cases hj2:j < 2
     ·by_cases hj0:j=0
      ·subst hj0
       go_wp2
       exact ⟨⟨1,by omega,by go_num,trivial⟩,by simp [intOf]⟩
      ·obtain rfl:j=1:=by omega
       go_wp2
       exact ⟨⟨2,by omega,by go_num,trivial⟩,by simp [intOf]⟩
     ·have hjI:¬ (j:Int) < 2:=by omega
      clear hj hj2
      go_wp2_with fail
      go_region_held3 (fun X=>X.cell? ⟨pa,0,none⟩=some (.int .u16 ga)∧X.cell? ⟨pa,1,none⟩=some (.int .u16 fa))
       (first|with_reducible exact HS.out _ H0.out|with_reducible exact HS.out _ H1.out|with_reducible exact HS.out _ H2.out)
       (first|(go_at_call 142;go_must (refine HC.out.mono ?_;rintro e9 w9 ⟨z9,rfl,hz1,hz2,hz3⟩;have H2:Hid (Below W.heap.size W w9):=hide (H1.out.trans (hz3.mono H1.out.size));have HZ2:=hide hz2;have HZ1:Hid (w.heap.size≤z9):=hide (Nat.le_trans HB.out.size hz1);clear hz1 hz2 hz3)))
      have HBf:=hide (HB.out.trans (H2.out.mono HB.out.size))
      go_wp2
      go_ret
      exact ⟨HBf.out,.inr (.inr ⟨_,rfl,HZ1.out,HZ2.out⟩)⟩
  | false =>
   go_enter Tryz.func79,Tryz.ntmps79
   go_wp2_with fail
   rw [← HW.out]
   clear HW
   go_loopw [15] (fun i wr=>∃ j:Nat,j≤2∧i=.int .i64 j∧wr=W) (fun i _=>2 - (intOf i).toNat)
   case atStart=>exact ⟨0,by omega,rfl,rfl⟩
   case round =>
    obtain ⟨j,hj,rfl,hwr⟩:=hrel
    obtain rfl:W=wr:=hwr.symm
    by_cases hj2:j < 2
    ·by_cases hj0:j=0
     ·subst hj0
      go_wp2
      exact ⟨⟨1,by omega,by go_num,trivial⟩,by simp [intOf]⟩
     ·obtain rfl:j=1:=by omega
      go_wp2
      exact ⟨⟨2,by omega,by go_num,trivial⟩,by simp [intOf]⟩
    ·have hjI:¬ (j:Int) < 2:=by omega
     clear hj hj2
     go_wp2_with fail
     go_region_held3 (fun X=>X.cell? ⟨pa,0,none⟩=some (.int .u16 ga)∧X.cell? ⟨pa,1,none⟩=some (.int .u16 fa))
      (first|with_reducible exact HS.out _ H0.out|with_reducible exact HS.out _ H1.out|with_reducible exact HS.out _ H2.out)
      (first|(go_at_call 142;go_must (refine HC.out.mono ?_;rintro e9 w9 ⟨z9,rfl,hz1,hz2,hz3⟩;have H2:Hid (Below W.heap.size W w9):=hide (H1.out.trans (hz3.mono H1.out.size));have HZ2:=hide hz2;have HZ1:Hid (w.heap.size≤z9):=hide (Nat.le_trans HB.out.size hz1);clear hz1 hz2 hz3)))
     have HBf:=hide (HB.out.trans (H2.out.mono HB.out.size))
     go_wp2
     go_ret
     exact ⟨HBf.out,.inr (.inr ⟨_,rfl,HZ1.out,HZ2.out⟩)⟩
end Go.Proofs.YtimgkhdgliojgaaGreatDoor
namespace Go.Proofs.YtimgkhdgliojgaaGreatDoor
open Go.RowKit
section
variable {Z : Nat → Prop} {w0 w : World} {p lp q : Nat} {l : Int} {xs : List Int} {M : List Tc} {v : Value}
theorem news_leaf (hp:w0.heap[p]?=some (.cells (tC ((q * 16:Nat):Int) 15 l (.pointer none) (.pointer none) (ptr lp)) 166 (0,0))) (hl:w0.heap[lp]?=some (.cells (xs.map (Value.int .i32)).toArray 184 (0,0))) (hq:q < 4096) (hx:xs.length=16) (hb:∀ x ∈ xs,0≤x∧x≤1048576) (hv:Tl w0 w v M) (hM:M.length≤65536) {R:List Tc} (hR:Hid (R=lfT q xs 16)) :
  Calls Tryz.prog 122 #[.pointer (some ⟨p,0,none⟩),.pointer none,v] w fun e w'=>∃ v',e=.returned v'∧Tl w0 w' v' (M++R):=by
 obtain ⟨i0,hi,hz0,hz1,hz2⟩:=infoK
 have HPc:Hid (∀ X,Below w0.heap.size w0 X→X.cell? ⟨p,0,none⟩=some (.int .u16 ((q * 16:Nat):Int))∧X.cell? ⟨p,1,none⟩=some (.int .u16 15)∧X.cell? ⟨p,5,none⟩=some (.pointer (some ⟨lp,0,none⟩))∧∀ (k:Nat) x,xs[k]?=some x→X.cell? ⟨lp,k,none⟩=some (.int .i32 x)):=hide (fun X hX=>by
  have a:=(hX.block p (lt_heap hp)).trans hp
  have b:=(hX.block lp (lt_heap hl)).trans hl
  refine ⟨cell_at a rfl,cell_at a rfl,cell_at a rfl,fun k x hk=>cell_at b ?_⟩
  simp [hk])
 have HG:Hid (∀ (X:World) (x:Nat),x < 65536→Calls Tryz.prog 46 #[.pointer none,.int .u16 (x:Int)] X fun e w'=>e=.returned (.int .i32 0)∧∃ m,w'=X.drewN m):=hide (fun X x hx9=>get_any (Z:=fun _=>False) (c:=fun _=>0) (.inl ⟨rfl,fun _=>rfl⟩) hx9)
 have HXs:=hide hx
 have HBx:=hide hb
 have HV:=hide hv
 have HM:=hide hM
 obtain ⟨va,vn,vc,rfl⟩:=hv.frm
 obtain ⟨c0,c1,c5,_⟩:=HPc.out w hv.bel
 have cl:=World.block_lt_of_cell? w _ c0
 have hq16:(0:Int)≤((q * 16:Nat):Int):=by omega
 have hpe:=peq_nil w p
 clear hp hl hx hb hv hM
 go_enter Tryz.func122,Tryz.ntmps122
 go_wp2_with fail
 go_quiet (fail)
 obtain ⟨Y,hY⟩:∃ Y,Y=w.drewN nq:=⟨_,rfl⟩
 rw [← hY]
 have HVY:Hid (Tl w0 Y (.slice va vn vc) M):=hide (HV.out.on (by rw [hY];exact below_drewN (Below.refl _ _) _))
 clear hY HV c0 c1 c5 cl
 obtain ⟨c0,c1,c5,_⟩:=HPc.out Y HVY.out.bel
 have cl:=World.block_lt_of_cell? Y _ c0
 go_wp2
 go_loopw [2,62] (fun lv i wr=>∃ (k:Nat),k≤16∧i=.int .i64 k∧Tl w0 wr lv (M++lfT q xs k)) (fun _ i _=>16 - (intOf i).toNat)
 case atStart=>exact ⟨0,by omega,rfl,by rw [lfT,List.append_nil];exact HVY.out⟩
 case round =>
  obtain ⟨k,hk,rfl,hT⟩:=hrel
  have HT:=hide hT
  obtain ⟨la,ln,lc,rfl⟩:=hT.frm
  clear hT HVY c0 c1 c5 cl
  obtain ⟨c0,_,_,cx⟩:=HPc.out wr HT.out.bel
  have cl:=World.block_lt_of_cell? wr _ c0
  by_cases hlt:k < 16
  ·have hkI:(k:Int) < 16:=by omega
   have hk0:(0:Int)≤(k:Int):=by omega
   obtain ⟨x,hx⟩:∃ x,xs[k]?=some x:=⟨xs[k]'(by rw [HXs.out];exact hlt),List.getElem?_eq_getElem _⟩
   have d0:=cx k x hx
   have dl:=World.block_lt_of_cell? wr _ d0
   have hxb:=HBx.out x (List.mem_of_getElem? hx)
   have hwk:IntKind.u16.wrap (k:Int)=(k:Int):=IntWalk.u16_in _ ⟨by omega,by omega⟩
   obtain ⟨G,hG⟩:∃ G:Int,G=((q * 16+k:Nat):Int):=⟨_,rfl⟩
   have hor:bits .or .u16 ((q * 16:Nat):Int) (k:Int)=G:=by rw [hG,u16_or_nat _ _ (by omega) (by omega),or_low q k hlt]
   have HGt:Hid (∀ X,Calls Tryz.prog 46 #[.pointer none,.int .u16 G] X fun e w'=>e=.returned (.int .i32 0)∧∃ m,w'=X.drewN m):=hide (fun X=>by rw [hG];exact HG.out X _ (by omega))
   have hgd:xs.getD k 0=x:=by rw [List.getD_eq_getElem?_getD,hx];rfl
   have HL:Hid (lfT q xs (k+1)=lfT q xs k++if 0 < x then [⟨G,x⟩] else []):=hide (by rw [lfT,hgd,hG])
   have hG0:0≤G:=by omega
   have hG1:G≤65535:=by omega
   have HLen:=hide (lfT_len q xs k)
   clear cx hx hgd hG
   generalize ((q * 16:Nat):Int)=Q at c0 hor hq16
   go_wp2_with fail
   go_quiet (fail)
   obtain ⟨Y2,hY2⟩:∃ Y2,Y2=wr.drewN nq:=⟨_,rfl⟩
   have e0:Y2.cell? ⟨p,0,none⟩=some (.int .u16 Q):=by rw [hY2];exact c0
   have el:p < Y2.heap.size:=by rw [hY2];exact cl
   have HT2:=hide (HT.out.on (w':=Y2) (by rw [hY2];exact below_drewN (Below.refl _ _) _))
   rw [← hY2]
   clear hY2 c0 cl d0 dl HT
   go_wp2_with fail
   refine (HGt.out _).mono ?_
   rintro e3 w3 ⟨rfl,m3,hw3⟩
   have HT3:=hide (HT2.out.on (w':=w3) (by rw [hw3];exact below_drewN (Below.refl _ _) _))
   clear hw3 HT2 HGt e0 el
   by_cases hx0:0 < x
   ·have hxd:decide (0 < x)=true:=decide_eq_true hx0
    have HL2:Hid (lfT q xs (k+1)=lfT q xs k++[⟨G,x⟩]):=hide (by rw [HL.out,if_pos hx0])
    have hwx:IntKind.i64.wrap x=x:=IntWalk.i64_in _ (by omega)
    have hwG:IntKind.i64.wrap G=G:=IntWalk.i64_in _ (by omega)
    clear HL hx0
    go_wp2_with (at_builtin;refine append_lay layK _ 28 58 i0 _ 16 Tryz.underlying28 hi hz0 hz1 hz2 rfl rfl (.tmp 80) (.tmp 86) rfl w0.heap.size (.slice la ln lc) (M++lfT q xs k) rfl (HT3.out.own.below (below_alloc1 _ _)) (some ⟨w3.heap.size,0,none⟩) 1 1 [⟨G,x⟩] rfl (TRow.one (y:=layK) (x:=⟨G,x⟩) (e:=58) (heap_new _ _)) (by intro e;cases e) ?b1 ?b2 ?b3 ?_)
    case b1=>unfold maxLen;have:=HM.out;have:=HLen.out;rw [List.length_append];omega
    case b2=>have:=HM.out;have:=HLen.out;rw [List.length_append];omega
    case b3=>have:=HT3.out.bel.size;simp;omega
    intro v' w' o1 g1 l1
    have HT4:Hid (Tl w0 w' v' (M++lfT q xs (k+1))):=hide (by
     refine ⟨by rw [HL2.out];exact o1,?_⟩
     have hb3:Below w0.heap.size w0 (w3.alloc (.cells #[.int .i64 G,.int .i64 x] 58)):=HT3.out.bel.trans ((below_alloc1 w3 _).mono HT3.out.bel.size)
     exact hb3.trans ((But.of_grown (S:=fun q=>(Value.slice la ln lc).ownBlock=some q) g1 (fun _ e=>e)).below hb3.size (fun q hq=>(HT3.out.own.lt q hq).1)))
    clear o1 g1 l1 HT3
    go_wp2
    exact ⟨⟨k+1,by omega,by go_num,HT4.out⟩,by simp [intOf];omega⟩
   ·have hxd:decide (0 < x)=false:=decide_eq_false hx0
    have HT4:Hid (Tl w0 w3 (.slice la ln lc) (M++lfT q xs (k+1))):=hide (by rw [HL.out,if_neg hx0,List.append_nil];exact HT3.out)
    clear HL hx0
    go_wp2
    exact ⟨⟨k+1,by omega,by go_num,HT4.out⟩,by simp [intOf];omega⟩
  ·have hk16:k=16:=by omega
   subst hk16
   have HF:Hid (Tl w0 wr (.slice la ln lc) (M++R)):=hide (by rw [hR.out];exact HT.out)
   clear HT
   go_wp2
   go_ret
   exact ⟨_,rfl,HF.out⟩
end
end Go.Proofs.YtimgkhdgliojgaaGreatDoor
namespace Go.Proofs.YtimgkhdgliojgaaGreatDoor
open Go.RowKit Go.Maps
theorem int_inj:∀ {xs ys:List Int},(xs.map (Value.int .i32)).toArray=(ys.map (Value.int .i32)).toArray→xs=ys:=by
 intro xs ys h
 have h1:xs.map (Value.int .i32)=ys.map (Value.int .i32):=by simpa using h
 clear h
 induction xs generalizing ys with
 | nil=>cases ys with
  | nil=>rfl
  | cons y ys=>cases h1
 | cons x xs ih =>
  cases ys with
  | nil=>cases h1
  | cons y ys =>
   rw [List.map_cons,List.map_cons] at h1
   injection h1 with h2 h3
   injection h2 with h4 h5
   rw [h5,ih h3]
theorem pow_inj {k m:Nat} (h:2 ^ k - 1=2 ^ m - 1):k=m:=by
 have h1:=pow_pos2 k
 have h2:=pow_pos2 m
 have h3:2 ^ k=2 ^ m:=by omega
 by_cases e:k < m
 ·have:=Nat.pow_lt_pow_right (a:=2) (by decide) e;omega
 ·by_cases e2:m < k
  ·have:=Nat.pow_lt_pow_right (a:=2) (by decide) e2;omega
  ·omega
theorem TrAt.uniq {Z Y:Nat→Prop} {w:World}:∀ {t s:Tr} {p:Nat},TrAt Z w t p→TrAt Y w s p→t=s:=by
 intro t
 induction t with
 | leaf q l xs =>
  rintro s p ⟨_,lp,_,h1,h2⟩ hs
  cases s with
  | leaf q' l' ys =>
   obtain ⟨_,lp',_,g1,g2⟩:=hs
   rw [h1] at g1
   simp [tC,ptr] at g1
   obtain ⟨e1,e2,e3⟩:=g1
   subst e3
   rw [h2] at g2
   have g3:(xs.map (Value.int .i32)).toArray=(ys.map (Value.int .i32)).toArray:=by injection g2 with g2;injection g2
   have e4:q=q':=by omega
   rw [e4,e2,int_inj g3]
  | node k' q' l' lo' hi' =>
   obtain ⟨_,a',b',g1,_⟩:=hs
   rw [h1] at g1
   simp [tC,ptr] at g1
 | node k q l lo hi il ih =>
  rintro s p ⟨_,a,b,h1,h2,h3⟩ hs
  cases s with
  | leaf q' l' ys =>
   obtain ⟨_,lp',_,g1,g2⟩:=hs
   rw [h1] at g1
   simp [tC,ptr] at g1
  | node k' q' l' lo' hi' =>
   obtain ⟨_,a',b',g1,g2,g3⟩:=hs
   rw [h1] at g1
   have g4:((q * 2 ^ k:Nat):Int)=((q' * 2 ^ k':Nat):Int)∧((2 ^ k - 1:Nat):Int)=((2 ^ k' - 1:Nat):Int)∧l=l'∧a=a'∧b=b':=by
    injection g1 with g1
    injection g1 with g1
    injection g1 with g1
    injection g1 with e1 g1
    injection g1 with e2 g1
    injection g1 with e3 g1
    injection g1 with e4 g1
    injection g1 with e5 g1
    injection e1 with _ e1
    injection e2 with _ e2
    injection e3 with _ e3
    unfold ptr at e4 e5
    injection e4 with e4
    injection e5 with e5
    injection e4 with e4
    injection e5 with e5
    injection e4 with e4
    injection e5 with e5
    exact ⟨e1,e2,e3,e4,e5⟩
   obtain ⟨e1,e2,e3,e4,e5⟩:=g4
   have hk:k=k':=pow_inj (by omega)
   subst hk
   have hp:=pow_pos2 k
   have hq:q=q':=by
    have:q * 2 ^ k=q' * 2 ^ k:=by omega
    exact Nat.eq_of_mul_eq_mul_right hp this
   rw [hq,e3,il h2 (e4 ▸ g2),ih h3 (e5 ▸ g3)]
def JnP (Z:Nat→Prop) (w w':World) (a b:Tr) (e:Ending):Prop:=∃ z t,e=.returned (.pointer (some ⟨z,0,none⟩))∧TrAt (Nz Z w w') w' t z∧Jn a b t∧Below w.heap.size w w'
theorem JnP.symm {Z:Nat→Prop} {w w':World} {a b:Tr} {e:Ending} (h:JnP Z w w' a b e):JnP Z w w' b a e:=by
 obtain ⟨z,t,h1,h2,h3,h4⟩:=h
 exact ⟨z,t,h1,h2,h3.symm,h4⟩
theorem JnP.up {Z:Nat→Prop} {w w1 w':World} {a b:Tr} {e:Ending} (hb:Below w.heap.size w w1) (h:JnP Z w1 w' a b e):JnP Z w w' a b e:=by
 obtain ⟨z,t,h1,h2,h3,h4⟩:=h
 exact ⟨z,t,h1,TrAt.mono (Nz.up hb.size) h2,h3,hb.trans (h4.mono hb.size)⟩
theorem two_cells {Z:Nat→Prop} {w:World} {a b:Tr} {pa pb:Nat} (ha:TrAt Z w a pa) (hb:TrAt Z w b pb):∃ alo ahi alf blo bhi blf,w.heap[pa]?=some (.cells (tC a.gg a.fr a.last alo ahi alf) 166 (0,0))∧w.heap[pb]?=some (.cells (tC b.gg b.fr b.last blo bhi blf) 166 (0,0)):=by
 obtain ⟨x,y,z,h1⟩:=ha.blk
 obtain ⟨x',y',z',h2⟩:=hb.blk
 exact ⟨x,y,z,x',y',z',h1,h2⟩
theorem Tr.fr_lt {a b:Tr}:a.fr < b.fr ↔ a.k < b.k:=by
 unfold Tr.fr
 have h1:=pow_pos2 a.k
 have h2:=pow_pos2 b.k
 constructor
 ·intro h
  by_cases e:a.k < b.k
  ·exact e
  ·have:=Nat.pow_le_pow_right (n:=2) (by decide) (show b.k≤a.k by omega);omega
 ·intro h
  have:=Nat.pow_lt_pow_right (a:=2) (by decide) h
  omega
theorem join_same {Z:Nat→Prop} {w:World} {a b:Tr} {p:Nat} (ha:TrAt Z w a p) (hb:TrAt Z w b p) (oka:a.ok) :
  Calls Tryz.prog 47 #[.pointer (some ⟨p,0,none⟩),.pointer (some ⟨p,0,none⟩)] w fun e w'=>JnP Z w w' a b e:=by
 obtain rfl:=ha.uniq hb
 obtain ⟨x,y,z,h1⟩:=ha.blk
 have E0:=peq h1 h1
 rw [decide_eq_true rfl] at E0
 have HP:Hid (JnP Z w w a a (.returned (.pointer (some ⟨p,0,none⟩)))):=hide ⟨p,a,rfl,TrAt.mono Nz.old ha,Jn.left oka (fun x=>Int.le_refl _),Below.refl _ _⟩
 clear ha hb oka h1
 go_enter Tryz.func47,Tryz.ntmps47
 go_wp2
 go_ret
 exact HP.out
theorem join_swap {Z:Nat→Prop} {w:World} {a b:Tr} {pa pb:Nat} (ha:TrAt Z w a pa) (hb:TrAt Z w b pb) (oka:a.ok) (okb:b.ok) (hne:¬ pa=pb) (hk:a.k < b.k)
  (IH:∀ X,Below w.heap.size w X→Calls Tryz.prog 47 #[.pointer (some ⟨pb,0,none⟩),.pointer (some ⟨pa,0,none⟩)] X fun e w'=>JnP Z X w' b a e) :
  Calls Tryz.prog 47 #[.pointer (some ⟨pa,0,none⟩),.pointer (some ⟨pb,0,none⟩)] w fun e w'=>JnP Z w w' a b e:=by
 obtain ⟨_,_,_,_,_,_,h1,h2⟩:=two_cells ha hb
 have E0:=peq h1 h2
 rw [decide_eq_false hne] at E0
 obtain ⟨a0,a1,a2,a3,a4,a5,al⟩:=tc_cells h1
 obtain ⟨b0,b1,b2,b3,b4,b5,bl⟩:=tc_cells h2
 have hlt:=Tr.fr_lt.2 hk
 generalize a.fr=A at a1 hlt
 generalize b.fr=B at b1 hlt
 have HI:=hide IH
 clear ha hb oka okb hne hk h1 h2 a0 a2 a3 a4 a5 b0 b2 b3 b4 b5 IH
 go_enter Tryz.func47,Tryz.ntmps47
 go_wp2_with fail
 go_quiet (fail)
 obtain ⟨V,hV⟩:∃ V,V=w.drewN nq:=⟨_,rfl⟩
 rw [← hV]
 have HB:Hid (Below w.heap.size w V):=hide (bel_drew18 ⟨_,hV⟩)
 have HC:=hide (HI.out V HB.out)
 clear hV a1 b1 al bl
 go_wp2_with fail
 refine HC.out.mono ?_
 rintro e w1 hj
 have HJ:=hide (JnP.up HB.out hj.symm)
 obtain ⟨z,t,hz,_⟩:=hj
 subst hz
 clear HC
 go_wp2
 go_ret
 exact HJ.out
theorem join_over {Z:Nat→Prop} {w:World} {a b:Tr} {pa pb:Nat} (ha:TrAt Z w a pa) (hb:TrAt Z w b pb) (oka:a.ok) (okb:b.ok) (hne:¬ pa=pb) (hk:b.k≤a.k) (hns:¬ b.q * 2 ^ b.k / 2 ^ a.k=a.q) :
  Calls Tryz.prog 47 #[.pointer (some ⟨pa,0,none⟩),.pointer (some ⟨pb,0,none⟩)] w fun e w'=>JnP Z w w' a b e:=by
 obtain ⟨_,_,_,_,_,_,h1,h2⟩:=two_cells ha hb
 have E0:=peq h1 h2
 rw [decide_eq_false hne] at E0
 obtain ⟨a0,a1,a2,a3,a4,a5,al⟩:=tc_cells h1
 obtain ⟨b0,b1,b2,b3,b4,b5,bl⟩:=tc_cells h2
 have hlt:¬ a.fr < b.fr:=fun e=>by have:=Tr.fr_lt.1 e;omega
 have HS:Hid (∀ X,Below w.heap.size w X→Calls Tryz.prog 75 #[.pointer (some ⟨pa,0,none⟩),.int .u16 b.gg] X fun e w'=>e=.returned (.bool false)∧∃ m,w'=X.drewN m):=hide (fun X hX=>by
  have h9:=spans_any (ha.bel hX) oka (Tr.gg_lt okb)
  rw [decide_eq_false hns] at h9
  exact h9)
 have HO:Hid (∀ X,Below w.heap.size w X→Calls Tryz.prog 77 #[.pointer (some ⟨pa,0,none⟩),.pointer (some ⟨pb,0,none⟩)] X fun e w'=>JnP Z X w' a b e):=hide (fun X hX=>over_any (ha.bel hX) (hb.bel hX) oka okb hk hns)
 have HCb:Hid (∀ X,Below w.heap.size w X→X.cell? ⟨pb,0,none⟩=some (.int .u16 b.gg)∧pb < X.heap.size):=hide (fun X hX=>⟨(hX.cell (p:=⟨pb,0,none⟩) bl).trans b0,Nat.lt_of_lt_of_le bl hX.size⟩)
 generalize a.fr=A at a1 hlt
 generalize b.fr=B at b1 hlt
 generalize b.gg=G at HS HCb b0
 clear ha hb oka okb hne hk hns h1 h2 a0 a2 a3 a4 a5 b2 b3 b4 b5
 go_enter Tryz.func47,Tryz.ntmps47
 go_wp2_with fail
 go_quiet (fail)
 obtain ⟨V,hV⟩:∃ V,V=w.drewN nq:=⟨_,rfl⟩
 rw [← hV]
 have HB:Hid (Below w.heap.size w V):=hide (bel_drew18 ⟨_,hV⟩)
 have HC:=hide (HS.out V HB.out)
 obtain ⟨y0,yl⟩:=HCb.out V HB.out
 clear hV a1 b1 al bl b0
 go_wp2_with fail
 refine HC.out.mono ?_
 rintro e w1 ⟨rfl,hw1⟩
 have HB1:=hide (HB.out.trans ((bel_drew18 hw1).mono HB.out.size))
 have HC2:=hide (HO.out w1 HB1.out)
 clear HC hw1 y0 yl
 go_wp2_with fail
 refine HC2.out.mono ?_
 rintro e w2 hj
 have HJ:=hide (JnP.up HB1.out hj)
 obtain ⟨z,t,hz,_⟩:=hj
 subst hz
 clear HC2
 go_wp2
 go_ret
 exact HJ.out
end Go.Proofs.YtimgkhdgliojgaaGreatDoor
