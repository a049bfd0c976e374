import Derived.Test.YtnfcemohjaiipaaGreatDoorZm21
set_option maxRecDepth 8000
set_option maxHeartbeats 8000000
set_option linter.unusedVariables false
namespace Go.Proofs.YtnfcemohjaiipaaGreatDoor
open Go.RowKit Go.Maps
section
variable {pl : Nat → Int → Int} {Z : Nat → Prop} {w : World} {ob m n g : Nat} {k v r x1 x2 x3 x4 : Value} {fr tm l : Int} {c : Nat → Int} {eg ek eo ea : Int} {s : Value} {o : Option Addr} {f : Int → Option Value} {cs cs2 : Array Value} {ty : TypeId}
theorem but_set (hob:w.heap[ob]?=some (.cells cs ty (0,0))) {W:World} (hb:But (fun j=>j=ob) w W) (hW:W.heap[ob]?=some (.cells cs2 ty (0,0))) (i:Nat) (u:Value):(W.setCell ⟨ob,i,none⟩ u).heap[ob]?=some (.cells (cs2.setIfInBounds i u) ty (0,0))∧But (fun j=>j=ob) w (W.setCell ⟨ob,i,none⟩ u) :=
 ⟨set1_heap u hW,hb.setCell ⟨ob,i,none⟩ (fun _=>rfl) u⟩
theorem km_buf (hob:w.heap[ob]?=some (.cells #[.int .u64 fr,x1,x2,x3,x4] 231 (0,0))) (ha:ea≠0) :
  Calls Tryz.prog 252 #[.pointer (some ⟨ob,0,none⟩),.agg #[.int .i64 eg,.int .i64 ek,.int .u64 eo,.int .u64 ea,s]] w fun e w'=>e=.returned (.tuple #[])∧w'.heap[ob]?=some (.cells #[.int .u64 ea,x1,x2,x3,x4] 231 (0,0))∧But (fun j=>j=ob) w w':=by
 have HR:Hid (((w.setCell ⟨ob,0,none⟩ (.int .u64 ea)).alloc (.cells #[.int .i64 eg,.int .i64 ek,.int .u64 eo,.int .u64 ea,s] 35)).heap[ob]?=some (.cells #[.int .u64 ea,x1,x2,x3,x4] 231 (0,0))∧But (fun j=>j=ob) w ((w.setCell ⟨ob,0,none⟩ (.int .u64 ea)).alloc (.cells #[.int .i64 eg,.int .i64 ek,.int .u64 eo,.int .u64 ea,s] 35))):=hide (by
  obtain ⟨s1,s2⟩:=but_set hob (But.refl _ w) hob 0 (.int .u64 ea)
  have hb:=below_alloc1 (w.setCell ⟨ob,0,none⟩ (.int .u64 ea)) (.cells #[.int .i64 eg,.int .i64 ek,.int .u64 eo,.int .u64 ea,s] 35)
  exact ⟨(hb.block ob (lt_heap s1)).trans s1,s2.on hb⟩)
 have q0:w.cell? ⟨ob,0,none⟩=some (.int .u64 fr):=cell_at hob rfl
 have qf:w.frozen? ⟨ob,0,none⟩=false:=frz hob 0
 have ql:=lt_heap hob
 have b1:(ea == 0)=false:=by rw [beq_eq_false_iff_ne];exact ha
 clear hob ha
 go_enter Tryz.func252,Tryz.ntmps252
 go_wp2
 go_end0
 exact ⟨rfl,HR.out⟩
theorem km_end {ev:Obj} (hob:w.heap[ob]?=some (.cells #[.int .u64 fr,x1,x2,x3,x4] 231 (0,0))):(∃ mm,w.heap.size≤mm∧((((w.setCell ⟨ob,0,none⟩ (.int .u64 0)).setCell ⟨ob,3,none⟩ (.map (some (w.heap.size+1)))).alloc ev).alloc (.map #[] 0)).heap[ob]?=some (.cells #[.int .u64 0,x1,x2,.map (some mm),x4] 231 (0,0))∧HM ((((w.setCell ⟨ob,0,none⟩ (.int .u64 0)).setCell ⟨ob,3,none⟩ (.map (some (w.heap.size+1)))).alloc ev).alloc (.map #[] 0)) 74 .u16 mm 0 (.pointer none) (fun _=>none))∧But (fun j=>j=ob) w ((((w.setCell ⟨ob,0,none⟩ (.int .u64 0)).setCell ⟨ob,3,none⟩ (.map (some (w.heap.size+1)))).alloc ev).alloc (.map #[] 0)):=by
 obtain ⟨s1,s2⟩:=but_set hob (But.refl _ w) hob 0 (.int .u64 0)
 obtain ⟨s3,s4⟩:=but_set hob s2 s1 3 (.map (some (w.heap.size+1)))
 have hb:=below_alloc2 ((w.setCell ⟨ob,0,none⟩ (.int .u64 0)).setCell ⟨ob,3,none⟩ (.map (some (w.heap.size+1)))) ev (.map #[] 0)
 have hM:=HM.made (((w.setCell ⟨ob,0,none⟩ (.int .u64 0)).setCell ⟨ob,3,none⟩ (.map (some (w.heap.size+1)))).alloc ev) 74 .u16 (.pointer none)
 have hz:(((w.setCell ⟨ob,0,none⟩ (.int .u64 0)).setCell ⟨ob,3,none⟩ (.map (some (w.heap.size+1)))).alloc ev).heap.size=w.heap.size+1:=by simp [World.setCell,World.alloc]
 rw [hz] at hM
 exact ⟨⟨w.heap.size+1,by omega,(hb.block ob (lt_heap s3)).trans s3,hM⟩,s4.on hb⟩
theorem km_unb (hob:w.heap[ob]?=some (.cells #[.int .u64 fr,x1,x2,x3,x4] 231 (0,0))) :
  Calls Tryz.prog 252 #[.pointer (some ⟨ob,0,none⟩),.agg #[.int .i64 eg,.int .i64 ek,.int .u64 eo,.int .u64 0,s]] w fun e w'=>e=.returned (.tuple #[])∧(∃ mm,w.heap.size≤mm∧w'.heap[ob]?=some (.cells #[.int .u64 0,x1,x2,.map (some mm),x4] 231 (0,0))∧HM w' 74 .u16 mm 0 (.pointer none) (fun _=>none))∧But (fun j=>j=ob) w w':=by
 have HR:Hid (∀ ev:Obj,_):=hide (fun ev=>km_end (ev:=ev) hob)
 have q0:w.cell? ⟨ob,0,none⟩=some (.int .u64 fr):=cell_at hob rfl
 have qf:w.frozen? ⟨ob,0,none⟩=false:=frz hob 0
 have q3:w.cell? ⟨ob,3,none⟩=some x3:=cell_at hob rfl
 have qf3:w.frozen? ⟨ob,3,none⟩=false:=frz hob 3
 have ql:=lt_heap hob
 clear hob
 have hmm:=@run_makeMap Tryz.prog
 go_enter Tryz.func252,Tryz.ntmps252
 go_wp2
 go_end0
 exact ⟨rfl,HR.out _⟩
theorem kc_close (hpl:Rise2 pl) (hob:w.heap[ob]?=some (.cells #[.int .u64 fr,x1,x2,x3,r] 231 (0,0))) (hZ:¬ Z ob) (h:TQ pl Z w k c) (hv:Vok pl g tm l) :
  Calls Tryz.prog 248 #[.pointer (some ⟨ob,0,none⟩),.agg #[.int .i64 eg,.int .i64 13,.int .u64 eo,.int .u64 ea,s],.agg #[k,.int .i32 tm,.int .i32 l,.int .u16 (g:Int)]] w fun e w'=>e=.returned (.tuple #[])∧Kp pl Z w w' ob (fun x=>#[.int .u64 fr,x1,.slice none 0 0,x3,x]) 231 (vclk c g tm):=by
 obtain ⟨o,rfl⟩:=h.form
 obtain ⟨W,hW⟩:∃ W,W=(w.alloc (.cells #[.int .i64 eg,.int .i64 13,.int .u64 eo,.int .u64 ea,s] 35)).alloc (.cells #[.pointer o,.int .i32 tm,.int .i32 l,.int .u16 (g:Int)] 76):=⟨_,rfl⟩
 have hb:Below w.heap.size w W:=by rw [hW];exact below_alloc2 w _ _
 have HC:=hide (clock_any hpl (h.bel hb) hv.fg hv.ft hv.fl hv.fp hv.fz)
 have HB:=hide hb
 have HW:=hide hW
 have HOb:=hide hob
 have HZ:=hide hZ
 clear h hb hW hv hpl hob hZ
 go_enter Tryz.func248,Tryz.ntmps248
 go_wp2_with fail
 rw [← HW.out]
 clear HW
 refine HC.out.mono ?_
 rintro e w1 ⟨v1,rfl,hq,hb1⟩
 obtain ⟨o1,ho1⟩:=hq.form
 subst ho1
 have hbw:=HB.out.trans (hb1.mono HB.out.size)
 have hq2:TQ pl (Nz Z w w1) w1 (.pointer o1) (vclk c g tm):=hq.mono (Nz.up HB.out.size)
 obtain ⟨s1,s2,s3⟩:=kp_set HOb.out HZ.out hbw hq2 4 (.pointer o1)
 have h1:w1.heap[ob]?=some (.cells #[.int .u64 fr,x1,x2,x3,r] 231 (0,0)):=(hbw.block ob (lt_heap HOb.out)).trans HOb.out
 have z4:w1.cell? ⟨ob,4,none⟩=some r:=cell_at h1 rfl
 have zf:w1.frozen? ⟨ob,4,none⟩=false:=frz h1 4
 have zl:=lt_heap h1
 obtain ⟨w2,hw2⟩:∃ w2,w2=w1.setCell ⟨ob,4,none⟩ (.pointer o1):=⟨_,rfl⟩
 have HW2:=hide hw2
 rw [← hw2] at s1 s2 s3
 have y2:w2.cell? ⟨ob,2,none⟩=some x2:=cell_at s1 rfl
 have yf:w2.frozen? ⟨ob,2,none⟩=false:=frz s1 2
 have yl:=lt_heap s1
 have HR:Hid (Kp pl Z w (w2.setCell ⟨ob,2,none⟩ (.slice none 0 0)) ob (fun x=>#[.int .u64 fr,x1,.slice none 0 0,x3,x]) 231 (vclk c g tm)):=hide (by
  have hB2:But (fun j=>j=ob) w2 (w2.setCell ⟨ob,2,none⟩ (.slice none 0 0)):=(But.refl (fun j=>j=ob) w2).setCell ⟨ob,2,none⟩ (fun _=>rfl) _
  have hlt:=lt_heap HOb.out
  refine ⟨⟨_,set1_heap (i:=2) (.slice none 0 0) s1,(s2.but hB2 (fun j hj e=>?_)).mono (Nz.on hB2.size)⟩,s3.trans hB2 (fun _ _ e=>e)⟩
  have e9:j=ob:=e
  rcases hj with hj|hj
  ·exact HZ.out (e9 ▸ hj)
  ·omega)
 rw [HW2.out] at y2 yf yl HR
 clear HW2 hq hb1 hbw hq2 s1 s2 s3 h1 HC hw2
 go_wp2
 go_end0
 exact ⟨rfl,HR.out⟩
end
end Go.Proofs.YtnfcemohjaiipaaGreatDoor
