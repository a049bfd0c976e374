import Derived.Test.YtimgkhdgliojgaaGreatDoorOg47
import Derived.Test.YtimgkhdgliojgaaGreatDoorOg46
import Derived.Test.YtimgkhdgliojgaaGreatDoorOg05
set_option maxRecDepth 8000
set_option maxHeartbeats 8000000
set_option linter.unusedVariables false
namespace Go.Proofs.YtimgkhdgliojgaaGreatDoor
open Go.RowKit Go.Maps
section
variable {es : List E6.Ev} {w0 w : World} {rb cb fb i : Nat} {M : CS} {e : E6.Ev}
theorem tx_new {w1 w2:World} {cb fb gm om:Nat} {L:LF} {fg:Int→Option Value} {fo:Int→Int→Option Value} (hS:RSt w w1 cb CS.new) (hN:FN (plE es) w1 w2 L fb gm om fg fo) (hb:Below w1.heap.size w1 w2) :
  TX es (fun _=>False) w (w2.alloc (.cells #[.pointer (some ⟨cb,0,none⟩),.pointer (some ⟨fb,0,none⟩)] 66)) w2.heap.size cb fb CS.new 0:=by
 obtain ⟨B,F,hC,hF⟩:=hS.ck
 have hb3:Below w2.heap.size w2 (w2.alloc (.cells #[.pointer (some ⟨cb,0,none⟩),.pointer (some ⟨fb,0,none⟩)] 66)):=below_alloc1 w2 _
 have s1:=hS.bel.size
 have s2:=hb.size
 have nF:∀ k l,L k=some l→F k=none:=fun k l hk=>by
  cases hq:F k with
  | none=>rfl
  | some l9 =>
   have:=hC.lt _ _ hq
   have:=hN.nw k l hk
   omega
 refine ⟨fun k=>if k=w2.heap.size then some (.vw 90001) else if (F k).isSome then some (.vw 90000) else L k,B,F,gm,om,fg,fo,heap_new _ _,(hC.below hb).below hb3,hN.fm _ _ hb3 (fun k l hk=>?_) (fun k l hk=>?_),fun k l hk=>?_,if_pos rfl,fun k hk=>hk.elim,fun k l hk=>?_,new_inv,bw_call (bw_call hS.bel hb) hb3⟩
 ·have:=hN.lt k l hk
  show (if _ then _ else _)=_
  rw [if_neg (by omega),nF k l hk]
  exact hk
 ·rw [sz_alloc]
  have hk:(if k=w2.heap.size then some (Lf.vw 90001) else if (F k).isSome then some (.vw 90000) else L k)=some l:=hk
  split at hk
  ·omega
  ·split at hk
   ·rename_i h9
    obtain ⟨l8,h8⟩:=Option.isSome_iff_exists.1 h9
    have:=hC.lt k l8 h8
    omega
   ·have:=hN.lt k l hk;omega
 ·have:=hC.lt k l hk
  show (if _ then _ else _)=_
  rw [if_neg (by omega),hk]
  rfl
 ·have hk:(if k=w2.heap.size then some (Lf.vw 90001) else if (F k).isSome then some (.vw 90000) else L k)=some l:=hk
  split at hk
  ·omega
  ·split at hk
   ·rename_i h9
    obtain ⟨l8,h8⟩:=Option.isSome_iff_exists.1 h9
    by_cases h7:k < w.heap.size
    ·have:=hF k h7;rw [h8] at this;cases this
    ·omega
   ·have:=hN.nw k l hk;omega
theorem tnew_any (es:List E6.Ev) (w:World):Calls Tryz.prog 10 #[] w fun x w'=>∃ rb cb fb,x=.returned (.pointer (some ⟨rb,0,none⟩))∧TX es (fun _=>False) w w' rb cb fb CS.new 0:=by
 have HC:=hide (New_any w)
 have HF:=hide (fun X=>New_flow (plE es) X)
 unfold gPtr at HC HF
 go_enter Tryz.func10,Tryz.ntmps10
 go_wp2_with fail
 refine HC.out.mono ?_
 rintro e1 w1 ⟨rfl,hS⟩
 have HS:=hide hS
 generalize w.heap.size+5=cb at HS ⊢
 clear hS HC
 go_wp2_with fail
 refine (HF.out w1).mono ?_
 rintro e2 w2 ⟨L,fb,gm,om,fg,fo,rfl,hN,hb⟩
 have HT:=hide (tx_new HS.out hN hb)
 clear hN hb HS HF
 go_wp2
 go_ret
 exact ⟨_,cb,fb,rfl,HT.out⟩
def EvT (rb cb fb eb:Nat) (e:E6.Ev) (X:World):Prop:=X.heap[rb]?=some (.cells #[.pointer (some ⟨cb,0,none⟩),.pointer (some ⟨fb,0,none⟩)] 66 (0,0))∧X.heap[eb]?=some (.cells #[.int .i64 e.g,.int .i64 e.k,.int .u64 e.o,.int .u64 e.a,.slice e.sa e.ls.length e.sc] 35 (0,0))
theorem EvT.on {eb:Nat} {X Y:World} (h:EvT rb cb fb eb e X) (hb:Below X.heap.size X Y):EvT rb cb fb eb e Y:=⟨(hb.block _ (lt_heap h.1)).trans h.1,(hb.block _ (lt_heap h.2)).trans h.2⟩
theorem EvT.cs {eb:Nat} {X:World} (h:EvT rb cb fb eb e X):X.cell? ⟨rb,0,none⟩=some (.pointer (some ⟨cb,0,none⟩))∧X.cell? ⟨rb,1,none⟩=some (.pointer (some ⟨fb,0,none⟩))∧X.cell? ⟨eb,0,none⟩=some (.int .i64 e.g)∧X.cell? ⟨eb,1,none⟩=some (.int .i64 e.k)∧X.cell? ⟨eb,2,none⟩=some (.int .u64 e.o)∧X.cell? ⟨eb,3,none⟩=some (.int .u64 e.a)∧X.cell? ⟨eb,4,none⟩=some (.slice e.sa e.ls.length e.sc) :=
 ⟨cell_at h.1 rfl,cell_at h.1 rfl,cell_at h.2 rfl,cell_at h.2 rfl,cell_at h.2 rfl,cell_at h.2 rfl,cell_at h.2 rfl⟩
theorem tx_add {eb:Nat} {X:World} (hT:TX es (fun k=>k=eb) w0 X rb cb fb M i) (hE:EvT rb cb fb eb e X) (hK:E6.Kr w0) (ht:M.taken≤1048576) (hok:e.ok) (hs:E6.SRow X e.sa e.ls.length e.ls) :
  Calls Tryz.prog 30 #[.pointer (some ⟨cb,0,none⟩),.agg #[.int .i64 e.g,.int .i64 e.k,.int .u64 e.o,.int .u64 e.a,.slice e.sa e.ls.length e.sc]] X fun r w'=>r=.returned (.tuple #[.int .i64 (M.addY e.chk (me e)),.int .i64 (M.addE e.chk)])∧TX es (fun k=>k=eb) w0 w' rb cb fb (M.addS e.chk (me e)) i∧EvT rb cb fb eb e w':=by
 obtain ⟨B,F,h1,h2⟩:=hT.ck
 have hsz:=hK.size
 refine (Add_any (sa:=e.sa) (sn:=e.ls.length) (sc:=e.sc) (ls:=e.ls) h1 hT.inv ht (hK.below hT.bel (by omega)) hs (by have:=hok.len;omega) hok.ho.1 hok.ho.2 hok.ha.1 hok.ha.2).mono ?_
 rintro r w' ⟨rfl,hr⟩
 obtain ⟨h3,h4⟩:=h2 _ w' hr (addS_inv hT.inv (fun hc=>chk_eb hc hok.ho.1 hok.ho.2 hok.ha.1 hok.ha.2))
 exact ⟨rfl,h3,h3.blk,(h4 eb rfl).trans hE.2⟩
theorem tx_take {eb:Nat} {X:World} (hR:IsRun es) (he:es[i]?=some e) (hT:TX es (fun k=>k=eb) w0 X rb cb fb M i) (hE:EvT rb cb fb eb e X) :
  Calls Tryz.prog 31 #[.pointer (some ⟨fb,0,none⟩),.agg #[.int .i64 e.g,.int .i64 e.k,.int .u64 e.o,.int .u64 e.a,.slice e.sa e.ls.length e.sc]] X fun x w'=>∃ p v L',x=.returned (.agg #[.pointer p,.int .i32 v.tm,.int .i32 (i:Int),.int .u16 (v.g:Int)])∧(vws es)[i]?=some v∧TL (plE es) L' w' (.pointer p) v.kn∧TX es (fun k=>k=eb) w0 w' rb cb fb M (i+1)∧EvT rb cb fb eb e w':=by
 obtain ⟨L,gm,om,fg,fo,h1,h2⟩:=hT.fl
 refine (take_run hR he h1 (sk:=.slice e.sa e.ls.length e.sc)).mono ?_
 rintro x w' ⟨p,v,L',fg',fo',a1,a2,a3,rfl,a4,a5,a6,a7⟩
 obtain ⟨h3,h4⟩:=h2 w' L' fg' fo' a5 a6 a7
 have hlt:=(List.getElem?_eq_some_iff.1 he).1
 have hHl:(rsAt es i).H.length=i:=(rs_pre i i (Nat.le_refl _) (by omega)).2
 have hv:(rsAt es (i+1)).H[i]?=some v:=by
  rw [a1,List.getElem?_append_right (by omega),show i - (rsAt es i).H.length=0 by omega]
  rfl
 rw [(rs_pre (es:=es) (i+1) es.length (by omega) (Nat.le_refl _)).1,List.getElem?_take,if_pos (by omega)] at hv
 exact ⟨p,v,L',rfl,hv,a4,h3,h3.blk,(h4 eb rfl).trans hE.2⟩
theorem tx_clock {X:World} {v:Vw} {L:LF} {p:Option Addr} (hR:IsRun es) (hi:(vws es)[i]?=some v) (hT:TL (plE es) L X (.pointer p) v.kn) :
  Calls Tryz.prog 32 #[.agg #[.pointer p,.int .i32 v.tm,.int .i32 (i:Int),.int .u16 (v.g:Int)]] X fun x w'=>∃ o Z,x=.returned (.pointer o)∧TQ (plE es) Z w' (.pointer o) v.clk∧Below X.heap.size X w':=by
 obtain ⟨hk,h1⟩:=hR.vok hi
 have hp:v.pl=(i:Int):=by
  have hD:=(rs_rcf hR.run hR.gdf es.length (Nat.le_refl _)).1.more
  exact hD.pl i v hi
 have h9:=clock_any hR.rise hT hk.fg hk.ft hk.fl hk.fp hk.fz
 rw [hp] at h9
 refine h9.mono ?_
 rintro x w' ⟨u,rfl,hq,hb⟩
 obtain ⟨o,ho⟩:=hq.form
 subst ho
 exact ⟨o,_,rfl,hq,hb⟩
theorem tadd_run (hR:IsRun es) (hK:E6.Kr w0) (he:es[i]?=some e) (hT:TX es (fun _=>False) w0 w rb cb fb (rsAt es i).M i) (hs:E6.SRow w e.sa e.ls.length e.ls) :
  Calls Tryz.prog 12 #[.pointer (some ⟨rb,0,none⟩),.agg #[.int .i64 e.g,.int .i64 e.k,.int .u64 e.o,.int .u64 e.a,.slice e.sa e.ls.length e.sc]] w fun x w'=>∃ a n c v,x=.returned (.tuple #[.slice a n c,.int .i64 0])∧(vws es)[i]?=some v∧TRow layK w' a n (tks v.clk)∧n≤c∧TX es (fun _=>False) w0 w' rb cb fb (rsAt es (i+1)).M (i+1):=by
 have hlt:=(List.getElem?_eq_some_iff.1 he).1
 have hm:=List.mem_of_getElem? he
 have hok:=hR.ok e hm
 have hlen:=hR.len
 obtain ⟨hiv,htk⟩:=rs_inv hR i (by omega)
 obtain ⟨hw,_⟩:=(rs_rcf hR.run hR.gdf i (by omega)).2 e he
 obtain ⟨eb,hebq⟩:∃ eb,eb=w.heap.size:=⟨_,rfl⟩
 obtain ⟨W,hW⟩:∃ W,W=w.alloc (.cells #[.int .i64 e.g,.int .i64 e.k,.int .u64 e.o,.int .u64 e.a,.slice e.sa e.ls.length e.sc] 35):=⟨_,rfl⟩
 have hX:TX es (fun k=>k=eb) w0 W rb cb fb (rsAt es i).M i:=by rw [hW,hebq];exact hT.box _
 have hE:EvT rb cb fb eb e W:=⟨hX.blk,by rw [hW,hebq];exact heap_new _ _⟩
 have hbW:Below w.heap.size w W:=by rw [hW];exact below_alloc1 w _
 have HAd:Hid (Calls Tryz.prog 30 #[.pointer (some ⟨cb,0,none⟩),.agg #[.int .i64 e.g,.int .i64 e.k,.int .u64 e.o,.int .u64 e.a,.slice e.sa e.ls.length e.sc]] W.drew fun r w'=>r=.returned (.tuple #[.int .i64 0,.int .i64 0])∧TX es (fun k=>k=eb) w0 w' rb cb fb (rsAt es (i+1)).M i∧EvT rb cb fb eb e w'):=hide (by
  have h9:=tx_add (hX.on (Below.refl _ _).drew) (hE.on (Below.refl _ _).drew) hK (by omega) hok (E6.SRow.bel (E6.SRow.bel hs hbW) (Below.refl _ _).drew)
  obtain ⟨z1,z2,z3⟩:=add_why (M:=(rsAt es i).M) (by omega) (me e)
  rw [hR.chk e hm,z1,z2,z3,hw,if_neg (fun q=>q rfl)] at h9
  have z4:(rsAt es (i+1)).M=(rsAt es i).M.next (me e):=by rw [rsAt_succ he];rfl
  rw [z4]
  exact h9)
 have HTk:Hid (∀ X,TX es (fun k=>k=eb) w0 X rb cb fb (rsAt es (i+1)).M i→EvT rb cb fb eb e X→Calls Tryz.prog 31 #[.pointer (some ⟨fb,0,none⟩),.agg #[.int .i64 e.g,.int .i64 e.k,.int .u64 e.o,.int .u64 e.a,.slice e.sa e.ls.length e.sc]] X fun x w'=>∃ p v L',x=.returned (.agg #[.pointer p,.int .i32 v.tm,.int .i32 (i:Int),.int .u16 (v.g:Int)])∧(vws es)[i]?=some v∧TL (plE es) L' w' (.pointer p) v.kn∧TX es (fun k=>k=eb) w0 w' rb cb fb (rsAt es (i+1)).M (i+1)∧EvT rb cb fb eb e w'):=hide (fun X h1 h2=>tx_take hR he h1 h2)
 have HCl:Hid (∀ X v L p,(vws es)[i]?=some v→TL (plE es) L X (.pointer p) v.kn→Calls Tryz.prog 32 #[.agg #[.pointer p,.int .i32 v.tm,.int .i32 (i:Int),.int .u16 (v.g:Int)]] X fun x w'=>∃ o Z,x=.returned (.pointer o)∧TQ (plE es) Z w' (.pointer o) v.clk∧Below X.heap.size X w'):=hide (fun X v L p h1 h2=>tx_clock hR h1 h2)
 have HX:=hide hX
 have HE:=hide hE
 have HEd:=hide (hE.on (Below.refl _ _).drew)
 have HW:=hide hW
 obtain ⟨r0,r1,x0,x1,x2,x3,x4⟩:=hE.cs
 have rl:=World.block_lt_of_cell? W _ r0
 have el:=World.block_lt_of_cell? W _ x0
 have HSx:Hid (∀ X,EvT rb cb fb eb e X→X.cell? ⟨rb,0,none⟩=some (.pointer (some ⟨cb,0,none⟩))∧X.cell? ⟨eb,0,none⟩=some (.int .i64 e.g)∧X.cell? ⟨eb,1,none⟩=some (.int .i64 e.k)∧X.cell? ⟨eb,2,none⟩=some (.int .u64 e.o)∧X.cell? ⟨eb,3,none⟩=some (.int .u64 e.a)∧X.cell? ⟨eb,4,none⟩=some (.slice e.sa e.ls.length e.sc)):=hide (fun X h=>by obtain ⟨a,b,c,d,f,g,k⟩:=h.cs;exact ⟨a,c,d,f,g,k⟩)
 have HSy:Hid (∀ X,EvT rb cb fb eb e X→X.cell? ⟨rb,1,none⟩=some (.pointer (some ⟨fb,0,none⟩))∧X.cell? ⟨eb,0,none⟩=some (.int .i64 e.g)∧X.cell? ⟨eb,1,none⟩=some (.int .i64 e.k)∧X.cell? ⟨eb,2,none⟩=some (.int .u64 e.o)∧X.cell? ⟨eb,3,none⟩=some (.int .u64 e.a)∧X.cell? ⟨eb,4,none⟩=some (.slice e.sa e.ls.length e.sc)):=hide (fun X h=>by obtain ⟨a,b,c,d,f,g,k⟩:=h.cs;exact ⟨b,c,d,f,g,k⟩)
 generalize hM':(rsAt es (i+1)).M=M' at HAd HTk ⊢
 subst hebq
 clear hX hE hbW hW hT hs hw hiv htk hlen hok hm hlt hM'
 go_enter Tryz.func12,Tryz.ntmps12
 go_wp2_with fail
 rw [← HW.out]
 clear HW
 go_region_held3 (fun X=>X.cell? ⟨rb,0,none⟩=some (.pointer (some ⟨cb,0,none⟩))∧X.cell? ⟨w.heap.size,0,none⟩=some (.int .i64 e.g)∧X.cell? ⟨w.heap.size,1,none⟩=some (.int .i64 e.k)∧X.cell? ⟨w.heap.size,2,none⟩=some (.int .u64 e.o)∧X.cell? ⟨w.heap.size,3,none⟩=some (.int .u64 e.a)∧X.cell? ⟨w.heap.size,4,none⟩=some (.slice e.sa e.ls.length e.sc))
  (first|with_reducible exact HSx.out _ HE.out|with_reducible exact HSx.out _ HEd.out|with_reducible exact HSx.out _ HE1.out)
  (first
   | (go_at_call 30;go_must (refine HAd.out.mono ?_;rintro e1 w1 ⟨rfl,hX1,hE1⟩;have HX1:=hide hX1;have HE1:=hide hE1;clear hX1 hE1)))
 clear HAd HX HE HEd r0 r1 x0 x1 x2 x3 x4 rl el HSx
 have HXd:=hide (HX1.out.on (Below.refl _ _).drew)
 have HEd:=hide (HE1.out.on (Below.refl _ _).drew)
 obtain ⟨r0,r1,x0,x1,x2,x3,x4⟩:=HE1.out.cs
 have rl:=World.block_lt_of_cell? w1 _ r0
 have el:=World.block_lt_of_cell? w1 _ x0
 go_wp2_with fail
 go_region_held3 (fun X=>X.cell? ⟨rb,1,none⟩=some (.pointer (some ⟨fb,0,none⟩))∧X.cell? ⟨w.heap.size,0,none⟩=some (.int .i64 e.g)∧X.cell? ⟨w.heap.size,1,none⟩=some (.int .i64 e.k)∧X.cell? ⟨w.heap.size,2,none⟩=some (.int .u64 e.o)∧X.cell? ⟨w.heap.size,3,none⟩=some (.int .u64 e.a)∧X.cell? ⟨w.heap.size,4,none⟩=some (.slice e.sa e.ls.length e.sc))
  (first|with_reducible exact HSy.out _ HE1.out|with_reducible exact HSy.out _ HEd.out|with_reducible exact HSy.out _ HE7.out|with_reducible exact HSy.out _ HE8.out|with_reducible exact HSy.out _ HE9.out)
  (first
   | (go_at_call 33;go_must (refine HT9.out.mono ?_;rintro e9 w9 ⟨lv,T,rfl,hT9,hk9⟩;have HE9:=hide (HE8.out.on hT9.bel);have HX9:=hide (HX8.out.on hT9.bel).free;have HK9:=hide hk9.eq;have HR9:=hide (And.intro hT9.own trivial);obtain ⟨a9,n9,c9,rfl⟩:=hT9.frm;clear hT9 hk9))
   | (go_at_call 32;go_must (refine (HCl.out _ _ _ _ HV7.out HTL.out).mono ?_;rintro e8 w8 ⟨o8,Z8,rfl,hq8,hb8⟩;have HE8:=hide (HE7.out.on hb8);have HX8:=hide (HX7.out.on hb8);have HT9:=hide (Ticks_any hq8);clear hq8 hb8))
   | (go_at_call 31;go_must (refine (HTk.out _ HXd.out HEd.out).mono ?_;rintro e7 w7 ⟨p7,v7,L7,rfl,hv7,hTL,hX7,hE7⟩;have HV7:=hide hv7;have HTL:=hide hTL;have HX7:=hide hX7;have HE7:=hide hE7;clear hv7 hTL hX7 hE7)))
 all_goals
  go_wp2
  go_ret2
  exact ⟨a9,n9,c9,v7,rfl,HV7.out,by rw [← HK9.out];exact HR9.out.1.row (own_ln HR9.out.1).1,(own_ln HR9.out.1).2,HX9.out⟩
theorem tadd_bad (hK:E6.Kr w0) (hc:e.chk≠0) (hok:e.ok) (ht:M.taken≤1048576) (hT:TX es (fun _=>False) w0 w rb cb fb M i) (hs:E6.SRow w e.sa e.ls.length e.ls) :
  Calls Tryz.prog 12 #[.pointer (some ⟨rb,0,none⟩),.agg #[.int .i64 e.g,.int .i64 e.k,.int .u64 e.o,.int .u64 e.a,.slice e.sa e.ls.length e.sc]] w fun x w'=>x=.returned (.tuple #[.slice none 0 0,.int .i64 e.chk])∧TX es (fun _=>False) w0 w' rb cb fb M i:=by
 obtain ⟨W,hW⟩:∃ W,W=w.alloc (.cells #[.int .i64 e.g,.int .i64 e.k,.int .u64 e.o,.int .u64 e.a,.slice e.sa e.ls.length e.sc] 35):=⟨_,rfl⟩
 have hX:TX es (fun k=>k=w.heap.size) w0 W rb cb fb M i:=by rw [hW];exact hT.box _
 have hE:EvT rb cb fb w.heap.size e W:=⟨hX.blk,by rw [hW];exact heap_new _ _⟩
 have hbW:Below w.heap.size w W:=by rw [hW];exact below_alloc1 w _
 obtain ⟨C,hC⟩:∃ C,e.chk=C:=⟨_,rfl⟩
 have HAd:Hid (Calls Tryz.prog 30 #[.pointer (some ⟨cb,0,none⟩),.agg #[.int .i64 e.g,.int .i64 e.k,.int .u64 e.o,.int .u64 e.a,.slice e.sa e.ls.length e.sc]] W.drew fun r w'=>r=.returned (.tuple #[.int .i64 0,.int .i64 C])∧TX es (fun k=>k=w.heap.size) w0 w' rb cb fb M i∧EvT rb cb fb w.heap.size e w'):=hide (by
  have h9:=tx_add (hX.on (Below.refl _ _).drew) (hE.on (Below.refl _ _).drew) hK ht hok (E6.SRow.bel (E6.SRow.bel hs hbW) (Below.refl _ _).drew)
  unfold CS.addY CS.addE CS.addS at h9
  rw [if_pos hc,if_pos hc,if_pos hc,hC] at h9
  exact h9)
 rw [hC] at hc ⊢
 have bc:(C != 0)=true:=by simp [hc]
 have HE:=hide hE
 have HEd:=hide (hE.on (Below.refl _ _).drew)
 have HW:=hide hW
 obtain ⟨r0,r1,x0,x1,x2,x3,x4⟩:=hE.cs
 have rl:=World.block_lt_of_cell? W _ r0
 have el:=World.block_lt_of_cell? W _ x0
 have HSx:Hid (∀ X,EvT rb cb fb w.heap.size e X→X.cell? ⟨rb,0,none⟩=some (.pointer (some ⟨cb,0,none⟩))∧X.cell? ⟨w.heap.size,0,none⟩=some (.int .i64 e.g)∧X.cell? ⟨w.heap.size,1,none⟩=some (.int .i64 e.k)∧X.cell? ⟨w.heap.size,2,none⟩=some (.int .u64 e.o)∧X.cell? ⟨w.heap.size,3,none⟩=some (.int .u64 e.a)∧X.cell? ⟨w.heap.size,4,none⟩=some (.slice e.sa e.ls.length e.sc)):=hide (fun X h=>by obtain ⟨a,b,c,d,f,g,k⟩:=h.cs;exact ⟨a,c,d,f,g,k⟩)
 clear hX hE hbW hW hT hs hC hc hok
 go_enter Tryz.func12,Tryz.ntmps12
 go_wp2_with fail
 rw [← HW.out]
 clear HW
 go_region_held3 (fun X=>X.cell? ⟨rb,0,none⟩=some (.pointer (some ⟨cb,0,none⟩))∧X.cell? ⟨w.heap.size,0,none⟩=some (.int .i64 e.g)∧X.cell? ⟨w.heap.size,1,none⟩=some (.int .i64 e.k)∧X.cell? ⟨w.heap.size,2,none⟩=some (.int .u64 e.o)∧X.cell? ⟨w.heap.size,3,none⟩=some (.int .u64 e.a)∧X.cell? ⟨w.heap.size,4,none⟩=some (.slice e.sa e.ls.length e.sc))
  (first|with_reducible exact HSx.out _ HE.out|with_reducible exact HSx.out _ HEd.out|with_reducible exact HSx.out _ HE1.out)
  (first
   | (go_at_call 30;go_must (refine HAd.out.mono ?_;rintro e1 w1 ⟨rfl,hX1,hE1⟩;have HX1:=hide hX1;have HE1:=hide hE1;clear hX1 hE1)))
 all_goals
  go_wp2
  go_ret2
  exact ⟨rfl,HX1.out.free⟩
end
end Go.Proofs.YtimgkhdgliojgaaGreatDoor
namespace Go.Proofs.YtimgkhdgliojgaaGreatDoor
open Go.RowKit Go.Maps
theorem bnd_pre {es:List E6.Ev}:∀ (i k:Nat) (L:List ByteArray) (N:List E6.Nd),(E6.bnd es k L N).2=0→(E6.bnd (es.take i) k L N).2=0:=by
 induction es with
 | nil=>intro i k L N h;rw [List.take_nil];exact h
 | cons e es ih =>
  intro i k L N h
  cases i with
  | zero=>rfl
  | succ i =>
   rw [List.take_succ_cons]
   rw [E6.bnd] at h ⊢
   by_cases hc:e.chk=0
   ·rw [if_pos hc] at h ⊢
    split at h
    ·rename_i hr
     rw [if_pos hr]
     exact ih i _ _ _ h
    ·cases h
   ·rw [if_neg hc] at h;exact absurd h hc
theorem bds_pre {es:List E6.Ev} (i:Nat) (h:(E6.bounds es).2=0):(E6.bounds (es.take i)).2=0:=by
 unfold E6.bounds at h ⊢
 split at h
 ·rename_i hl
  rw [if_pos (by rw [List.length_take];omega)]
  exact bnd_pre i 0 [] [] h
 ·cases h
theorem run_pre:∀ (es:List E6.Ev) (M:CS) (i c:Nat),((M.run es i).2=0→M.run (es.take c) i=(-1,0))∧((M.run es i).2≠0→(M.run es i).1 < (i:Int)+c→M.run (es.take c) i=M.run es i)
 | [],M,i,c=>by rw [List.take_nil];exact ⟨fun _=>rfl,fun h=>absurd rfl h⟩
 | e :: es,M,i,0=>by
  refine ⟨fun _=>rfl,fun h1 h2=>?_⟩
  exfalso
  rw [CS.run] at h1 h2
  by_cases hw:M.why (me e)≠0
  ·rw [if_pos hw] at h2
   have h2:(i:Int) < (i:Int)+(0:Nat):=h2
   omega
  ·rw [if_neg hw] at h1 h2
   rcases run_ge es (M.next (me e)) (i+1) with h3|h3
   ·exact h1 h3
   ·omega
 | e :: es,M,i,c+1=>by
  rw [List.take_succ_cons,CS.run,CS.run]
  by_cases hw:M.why (me e)≠0
  ·rw [if_pos hw,if_pos hw]
   exact ⟨fun h=>absurd h hw,fun _ _=>rfl⟩
  ·rw [if_neg hw,if_neg hw]
   obtain ⟨h1,h2⟩:=run_pre es (M.next (me e)) (i+1) c
   exact ⟨h1,fun h3 h4=>h2 h3 (by omega)⟩
where
 run_ge:∀ (es:List E6.Ev) (M:CS) (k:Nat),(M.run es k).2=0∨(k:Int)≤(M.run es k).1
 | [],M,k=>.inl rfl
 | e :: es,M,k=>by
  rw [CS.run]
  by_cases h:M.why (me e)≠0
  ·rw [if_pos h];exact .inr (Int.le_refl _)
  ·rw [if_neg h]
   rcases run_ge es (M.next (me e)) (k+1) with h1|h1
   ·exact .inl h1
   ·exact .inr (by omega)
section
variable {es : List E6.Ev}
theorem rv_zero (h:(E6.bounds es).2=0):runV es=((CS.new.run es 0).1,(CS.new.run es 0).2,0):=by
 unfold runV
 rw [if_neg (fun x=>x h)]
theorem rv_bad (h:(E6.bounds es).2≠0):runV es=((E6.bounds es).1,0,(E6.bounds es).2):=by
 unfold runV
 rw [if_pos h]
theorem rv_err {p r f:Int} (h:runV es=(p,r,f)) (hf:f=0):(E6.bounds es).2=0∧CS.new.run es 0=(p,r):=by
 by_cases hb:(E6.bounds es).2=0
 ·rw [rv_zero hb] at h
  exact ⟨hb,Prod.ext (congrArg (fun x=>x.1) h) (congrArg (fun x=>x.2.1) h)⟩
 ·rw [rv_bad hb] at h
  exact absurd ((congrArg (fun x=>x.2.2) h).trans hf) hb
theorem rv_take_ok (h:runV es=(-1,0,0)) (c:Nat):runV (es.take c)=(-1,0,0):=by
 obtain ⟨hb,hr⟩:=rv_err h rfl
 rw [rv_zero (bds_pre c hb),(run_pre es CS.new 0 c).1 (by rw [hr])]
theorem rv_take_bad {p r:Int} (h:runV es=(p,r,0)) (hr0:r≠0) {c:Nat} (hc:p < c):runV (es.take c)=(p,r,0):=by
 obtain ⟨hb,hr⟩:=rv_err h rfl
 rw [rv_zero (bds_pre c hb),(run_pre es CS.new 0 c).2 (by rw [hr];exact hr0) (by rw [hr];show p < ((0:Nat):Int)+c;omega),hr]
theorem chk_ne (e:E6.Ev):e.chk≠160:=by
 unfold E6.Ev.chk E6.chk
 repeat' split
 all_goals decide
theorem bnd_ne:∀ (es:List E6.Ev) (i:Nat) (L:List ByteArray) (N:List E6.Nd),(E6.bnd es i L N).2≠160
 | [],i,L,N=>by rw [E6.bnd];show (0:Int)≠160;decide
 | e :: es,i,L,N=>by
  rw [E6.bnd]
  split
  ·split
   ·exact bnd_ne es _ _ _
   ·show (3:Int)≠160;decide
  ·exact chk_ne e
theorem rv_ne {p r f:Int} (h:runV es=(p,r,f)) (hf:f≠0):f≠160:=by
 by_cases hb:(E6.bounds es).2=0
 ·rw [rv_zero hb] at h
  exact absurd (congrArg (fun x=>x.2.2) h).symm hf
 ·rw [rv_bad hb] at h
  have h9:(E6.bounds es).2=f:=congrArg (fun x=>x.2.2) h
  rw [← h9]
  unfold E6.bounds
  split
  ·exact bnd_ne _ _ _ _
  ·decide
theorem vws_take {c i:Nat} (hi:i < c):(vws (es.take c))[i]?=(vws es)[i]?:=by
 have h1:∀ m,m≤c→rsAt (es.take c) m=rsAt es m:=fun m hm=>by
  unfold rsAt
  rw [List.take_take,Nat.min_eq_left hm]
 unfold vws
 rw [List.length_take]
 by_cases hc:c≤es.length
 ·rw [Nat.min_eq_left hc,h1 c (Nat.le_refl _),(rs_pre (es:=es) c es.length hc (Nat.le_refl _)).1,List.getElem?_take,if_pos hi]
 ·rw [Nat.min_eq_right (by omega),h1 _ (by omega)]
theorem erow_pre {w:World} {a:Option Addr} {n:Nat} (h:E6.ERow w a n es) {j:Nat} (hj:j≤n):E6.ERow w a j (es.take j):=by
 refine ⟨by rw [List.length_take,h.len];omega,?_⟩
 rcases h.cells with h0|⟨b,off,e,hc⟩
 ·exact .inl (by omega)
 ·refine .inr ⟨b,off,e,fun i f hf=>hc i f ?_⟩
  rw [List.getElem?_take] at hf
  split at hf
  ·exact hf
  ·cases hf
theorem Build_x {w:World} (ad:Option Addr) (n c:Nat) (hK:E6.Kr w) (hr:E6.ERow w ad n es) (hok:∀ e ∈ es,e.ok) (hn:(n:Int)≤9223372036854775806) {p r f:Int} (hV:runV es=(p,r,f)) :
  Calls Tryz.prog 17 #[.slice ad n c] w fun x w'=>∃ o,x=.returned (.tuple #[.pointer o,.int .i64 p,.int .i64 (if f≠0 then f else if r≠0 then 160 else 0)])∧Below w.heap.size w w'∧(f=0→r=0→IsRun es∧p=-1∧∃ ob,o=some ⟨ob,0,none⟩∧OA es w' ob)∧((f≠0∨r≠0)→o=none):=by
 by_cases hf:f≠0
 ·refine (build_err ad n c hK hr hok hn hV hf).mono ?_
  rintro x w' ⟨rfl,hb⟩
  exact ⟨none,by rw [if_pos hf],hb,fun e=>absurd e hf,fun _=>rfl⟩
 ·have hf0:f=0:=by omega
  subst hf0
  by_cases hr0:r≠0
  ·refine (build_bad ad n c hK hr hok hn hV hr0).mono ?_
   rintro x w' ⟨rfl,hb⟩
   exact ⟨none,by rw [if_neg hf,if_pos hr0],hb,fun _ e=>absurd e hr0,fun _=>rfl⟩
  ·have hr1:r=0:=by omega
   subst hr1
   have hRun:IsRun es∧p=-1:=by
    rcases run_or hok with ⟨h1,h2⟩|⟨p2,r2,f2,h1,h2⟩|⟨p2,r2,h1,h2⟩
    ·rw [hV] at h2;exact ⟨h1,congrArg (fun x=>x.1) h2⟩
    ·rw [hV] at h1;exact absurd (congrArg (fun x=>x.2.2) h1).symm h2
    ·rw [hV] at h1;exact absurd (congrArg (fun x=>x.2.1) h1).symm h2
   obtain ⟨h1,rfl⟩:=hRun
   refine (build_run ad n c hK hr hok hn h1 hV).mono ?_
   rintro x w' ⟨ob,rfl,hO⟩
   obtain ⟨h3,h4⟩:=hO.oa
   exact ⟨some ⟨ob,0,none⟩,by rw [if_neg hf,if_neg hr0];rfl,h4,fun _ _=>⟨h1,rfl,ob,rfl,h3⟩,fun e=>e.elim (fun e=>absurd rfl e) (fun e=>absurd rfl e)⟩
end
end Go.Proofs.YtimgkhdgliojgaaGreatDoor
namespace Go.Proofs.YtimgkhdgliojgaaGreatDoor
open Go.RowKit Go.Maps
theorem alive_any (w:World) (hK:E6.Kr w):Calls Tryz.prog 16 #[] w fun e w'=>e=.returned (.bool true)∧Below w.heap.size w w':=by
 have hsz:=hK.size
 obtain ⟨W1,hW1⟩:∃ W1,W1=w.alloc (.cells (E6.ecells es5).toArray 35):=⟨_,rfl⟩
 have hb1:Below w.heap.size w W1:=by rw [hW1];exact below_alloc1 w _
 have hr1:E6.ERow W1 (some ⟨w.heap.size,0,none⟩) 5 es5:=by
  rw [hW1];exact erow_of w es5 (mem_5 ⟨rfl,rfl⟩ ⟨rfl,rfl⟩ ⟨rfl,rfl⟩ ⟨rfl,rfl⟩)
 have HBd:=hide (build_run (some ⟨w.heap.size,0,none⟩) 5 5 (hK.below hb1 (by omega)) hr1 ok_5 (by decide) isrun_5 runV_5)
 unfold gPtr at HBd
 have HB1:=hide hb1
 have HW1:=hide hW1
 rw [hW1] at HBd
 clear hW1 hb1 hr1 hK
 go_enter Tryz.func16,Tryz.ntmps16
 go_wp2_with fail
 refine HBd.out.mono ?_
 rintro e1 w1 ⟨ob,rfl,hOB⟩
 obtain ⟨hO,hb⟩:=hOB.oa
 rw [← HW1.out] at hb
 have HB2:=hide (bw_call HB1.out hb)
 have HO:=hide hO
 have HL:Hid (Calls Tryz.prog 18 #[.pointer (some ⟨ob,0,none⟩)] w1 fun x w'=>x=.returned (.int .i64 5)∧w'=w1):=hide (Len_any hO)
 clear hO hb hOB HBd HB1 HW1
 go_wp2_with fail
 refine HL.out.mono ?_
 rintro e2 w2 ⟨rfl,hw2⟩
 obtain rfl:w1=w2:=hw2.symm
 clear hw2 HL
 have HA:Hid (Calls Tryz.prog 19 #[.pointer (some ⟨ob,0,none⟩),.int .i64 1,.int .i64 4] w1 fun x w'=>x=.returned (.tuple #[.bool true,.int .i64 0])∧Below w1.heap.size w1 w'):=hide (by have h9:=Before_any isrun_5 HO.out 1 4;rw [befV_14,flt_14] at h9;exact h9)
 go_wp2_with fail
 refine HA.out.mono ?_
 rintro e3 w3 ⟨rfl,hb3⟩
 have HB3:=hide (bw_call HB2.out hb3)
 have HO3:=hide (HO.out.on hb3)
 clear hb3 HA HB2 HO
 have HA:Hid (Calls Tryz.prog 19 #[.pointer (some ⟨ob,0,none⟩),.int .i64 1,.int .i64 2] w3 fun x w'=>x=.returned (.tuple #[.bool false,.int .i64 0])∧Below w3.heap.size w3 w'):=hide (by have h9:=Before_any isrun_5 HO3.out 1 2;rw [befV_12,flt_12] at h9;exact h9)
 go_wp2_with fail
 refine HA.out.mono ?_
 rintro e4 w4 ⟨rfl,hb4⟩
 have HB4:=hide (bw_call HB3.out hb4)
 have HO4:=hide (HO3.out.on hb4)
 clear hb4 HA HB3 HO3
 have HC:Hid (Calls Tryz.prog 20 #[.pointer (some ⟨ob,0,none⟩),.int .i64 3] w4 fun x w'=>∃ lv,x=.returned (.tuple #[lv,.int .i64 0])∧Tl w4 w' lv [⟨0,3⟩,⟨1,1⟩]):=hide (by
  obtain ⟨v,hv,ht⟩:=clk_3
  refine (Clock_in isrun_5 HO4.out (i:=3) hv).mono ?_
  rintro x w' ⟨lv,T,rfl,h1,h2⟩
  exact ⟨lv,rfl,by rw [← ht,← h2.eq];exact h1⟩)
 go_wp2_with fail
 refine HC.out.mono ?_
 rintro e5 w5 ⟨lv,rfl,hT⟩
 obtain ⟨la,ln,lc,rfl⟩:=hT.frm
 have HB5:=hide (bw_call HB4.out hT.bel)
 have HO5:=hide (HO4.out.on hT.bel)
 have HT5:=hide (hT.own.row (own_ln hT.own).1)
 clear hT HC HB4 HO4
 have HCh:Hid (Calls Tryz.prog 25 #[.pointer (some ⟨ob,0,none⟩),.int .i64 1,.int .i64 4] w5 fun x w'=>∃ a n c,x=.returned (.tuple #[.slice (some ⟨a,0,none⟩) n c,.int .i64 0])∧TRow layI9 w' (some ⟨a,0,none⟩) n [1,3,4]∧Below w5.heap.size w5 w'):=hide (by
  have h9:=Chain_in isrun_5 HO5.out (i:=1) (j:=4) (by decide) (by decide) bef_14
  rw [chn_5] at h9
  exact h9)
 go_wp2_with fail
 refine HCh.out.mono ?_
 rintro e6 w6 ⟨ia,iN,ic,rfl,hT6,hb6⟩
 have HB6:=hide (bw_call HB5.out hb6)
 have HT6:=hide (HT5.out.below hb6)
 have HI6:=hide hT6
 clear hT6 hb6 HCh HB5 HO5 HT5
 obtain ⟨W7,hW7⟩:∃ W7,W7=w6.alloc (.cells (layK.fl [⟨0,3⟩,⟨1,1⟩]).toArray 58):=⟨_,rfl⟩
 have hb7:Below w6.heap.size w6 W7:=by rw [hW7];exact below_alloc1 w6 _
 have HS:Hid (Calls Tryz.prog 14 #[.slice la ln lc,.slice (some ⟨w6.heap.size,0,none⟩) 2 2] W7 fun e w'=>e=.returned (.bool true)∧Below W7.heap.size W7 w'):=hide (by
  have h9:=csame_any la (some ⟨w6.heap.size,0,none⟩) ln lc 2 2 _ _ W7 (HT6.out.below hb7) (by rw [hW7];exact trow_lit layK w6 [⟨0,3⟩,⟨1,1⟩] 58) (by have:=HT6.out.len;simp at this;omega)
  exact h9)
 have HB7:=hide (bw_call HB6.out hb7)
 have HI7:=hide (HI6.out.below hb7)
 rw [hW7] at HS
 have HW7:=hide hW7
 clear hW7 hb7 HT6 HI6
 go_wp2_with fail
 refine HS.out.mono ?_
 rintro e8 w8 ⟨rfl,hb8⟩
 rw [← HW7.out] at hb8
 have HB8:=hide (bw_call HB7.out hb8)
 have HI8:=hide (HI7.out.below hb8)
 clear hb8 HS HB7 HI7 HW7 HB6
 obtain ⟨W9,hW9⟩:∃ W9,W9=w8.alloc (.cells (layI9.fl [1,3,4]).toArray 3):=⟨_,rfl⟩
 have hb9:Below w8.heap.size w8 W9:=by rw [hW9];exact below_alloc1 w8 _
 have HS:Hid (Calls Tryz.prog 26 #[.slice (some ⟨ia,0,none⟩) iN ic,.slice (some ⟨w8.heap.size,0,none⟩) 3 3] W9 fun e w'=>e=.returned (.bool true)∧Below W9.heap.size W9 w'):=hide (by
  have h9:=isame_any (some ⟨ia,0,none⟩) (some ⟨w8.heap.size,0,none⟩) iN ic 3 3 _ _ W9 (HI8.out.below hb9) (by rw [hW9];exact trow_lit layI9 w8 [1,3,4] 3) (by have:=HI8.out.len;simp at this;omega)
  exact h9)
 have HB9:=hide (bw_call HB8.out hb9)
 rw [hW9] at HS
 have HW9:=hide hW9
 clear hW9 hb9 HI8
 go_wp2_with fail
 refine HS.out.mono ?_
 rintro e10 w10 ⟨rfl,hb10⟩
 rw [← HW9.out] at hb10
 have HB10:=hide (bw_call HB9.out hb10)
 clear hb10 HS HB9 HW9
 go_wp2
 go_ret
 exact ⟨rfl,HB10.out⟩
end Go.Proofs.YtimgkhdgliojgaaGreatDoor
namespace Go.Proofs.YtimgkhdgliojgaaGreatDoor
section
variable {H : List Vw} {i j : Nat} {u v : Vw}
end
section
variable {es : List E6.Ev} {i : Nat} {e : E6.Ev} {v : Vw}
end
end Go.Proofs.YtimgkhdgliojgaaGreatDoor
namespace Go.Proofs.YtimgkhdgliojgaaGreatDoor
open Go.RowKit Go.Maps
section
variable {es : List E6.Ev}
end
end Go.Proofs.YtimgkhdgliojgaaGreatDoor
namespace Go.Proofs.YtimgkhdgliojgaaGreatDoor
open Go.RowKit Go.Maps
section
variable {es : List E6.Ev} {i j : Nat} {u v : Vw}
theorem Clock_of {w:World} {ob:Nat} (hR:IsRun es) (h:OA es w ob) (hi:(vws es)[i]?=some v):Calls Tryz.prog 20 #[.pointer (some ⟨ob,0,none⟩),.int .i64 (i:Int)] w fun x w'=>∃ a n c,x=.returned (.tuple #[.slice a n c,.int .i64 0])∧TRow layK w' a n (tks v.clk)∧n≤c∧Below w.heap.size w w':=by
 refine (Clock_in hR h hi).mono ?_
 rintro x w' ⟨lv,T,rfl,h1,h2⟩
 obtain ⟨a,n,c,rfl⟩:=h1.frm
 obtain ⟨h3,h4⟩:=own_ln h1.own
 exact ⟨a,n,c,rfl,by rw [← h2.eq];exact h1.own.row h3,h4,h1.bel⟩
end
end Go.Proofs.YtimgkhdgliojgaaGreatDoor
