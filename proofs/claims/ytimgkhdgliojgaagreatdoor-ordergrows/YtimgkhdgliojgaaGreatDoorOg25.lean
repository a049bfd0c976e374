import Derived.Test.YtimgkhdgliojgaaGreatDoorOg24
import Derived.Test.YtimgkhdgliojgaaGreatDoorOg21
set_option maxRecDepth 8000
set_option maxHeartbeats 8000000
set_option linter.unusedVariables false
namespace Go.Proofs.YtimgkhdgliojgaaGreatDoor
open Go.RowKit Go.Maps
section
variable {pl : Nat → Int → Int} {Z : Nat → Prop} {w W w1 : World} {ob n m g : Nat} {k sv x1 x2 x3 x4 : Value} {fr tm l fm : Int} {c f : Nat → Int} {xs : List Value} {cs : Array Value} {o : Option Addr} {eg ek eo ea : Int} {s : Value} {Q : World → Prop} {q : Int → Option Value}
theorem recv_zero {o:Option Addr} :
  Calls Tryz.prog 254 #[.pointer (some ⟨ob,0,none⟩),.agg #[.int .i64 eg,.int .i64 ek,.int .u64 eo,.int .u64 0,s],.agg #[.pointer o,.int .i32 tm,.int .i32 l,.int .u16 (g:Int)]] w fun e w'=>e=.returned (.tuple #[])∧Below w.heap.size w w':=by
 have HB:Hid (∀ x y,Below w.heap.size w ((w.alloc x).alloc y)):=hide (fun x y=>below_alloc2 w x y)
 generalize (g:Int)=G
 go_enter Tryz.func254,Tryz.ntmps254
 go_wp2
 refine bodyPost_ret (results_none rfl _ _ _) rfl ?_
 exact ⟨rfl,HB.out _ _⟩
theorem keeps_make (H:∀ W,Below w.heap.size w W→Calls Tryz.prog 252 #[.pointer (some ⟨ob,0,none⟩),.agg #[.int .i64 eg,.int .i64 9,.int .u64 eo,.int .u64 ea,s]] W fun e w'=>e=.returned (.tuple #[])∧Q w') :
  Calls Tryz.prog 248 #[.pointer (some ⟨ob,0,none⟩),.agg #[.int .i64 eg,.int .i64 9,.int .u64 eo,.int .u64 ea,s],.agg #[.pointer o,.int .i32 tm,.int .i32 l,.int .u16 (g:Int)]] w fun e w'=>e=.returned (.tuple #[])∧Q w':=by
 have HC:=hide (H _ (below_alloc2 w (.cells #[.int .i64 eg,.int .i64 9,.int .u64 eo,.int .u64 ea,s] 35) (.cells #[.pointer o,.int .i32 tm,.int .i32 l,.int .u16 (g:Int)] 76)))
 clear H
 generalize (g:Int)=G at HC ⊢
 go_enter Tryz.func248,Tryz.ntmps248
 go_wp2_with fail
 refine HC.out.mono ?_
 rintro e w1 ⟨rfl,hq⟩
 have HQ:=hide hq
 clear hq HC
 go_wp2
 go_end0
 exact ⟨rfl,HQ.out⟩
theorem keeps_send (H:∀ W,Below w.heap.size w W→Calls Tryz.prog 253 #[.pointer (some ⟨ob,0,none⟩),.agg #[.pointer o,.int .i32 tm,.int .i32 l,.int .u16 (g:Int)]] W fun e w'=>e=.returned (.tuple #[])∧Q w') :
  Calls Tryz.prog 248 #[.pointer (some ⟨ob,0,none⟩),.agg #[.int .i64 eg,.int .i64 10,.int .u64 eo,.int .u64 ea,s],.agg #[.pointer o,.int .i32 tm,.int .i32 l,.int .u16 (g:Int)]] w fun e w'=>e=.returned (.tuple #[])∧Q w':=by
 have HC:=hide (H _ (below_alloc2 w (.cells #[.int .i64 eg,.int .i64 10,.int .u64 eo,.int .u64 ea,s] 35) (.cells #[.pointer o,.int .i32 tm,.int .i32 l,.int .u16 (g:Int)] 76)))
 clear H
 generalize (g:Int)=G at HC ⊢
 go_enter Tryz.func248,Tryz.ntmps248
 go_wp2_with fail
 refine HC.out.mono ?_
 rintro e w1 ⟨rfl,hq⟩
 have HQ:=hide hq
 clear hq HC
 go_wp2
 go_end0
 exact ⟨rfl,HQ.out⟩
theorem keeps_recv (H:∀ W,Below w.heap.size w W→Calls Tryz.prog 254 #[.pointer (some ⟨ob,0,none⟩),.agg #[.int .i64 eg,.int .i64 12,.int .u64 eo,.int .u64 ea,s],.agg #[.pointer o,.int .i32 tm,.int .i32 l,.int .u16 (g:Int)]] W fun e w'=>e=.returned (.tuple #[])∧Q w') :
  Calls Tryz.prog 248 #[.pointer (some ⟨ob,0,none⟩),.agg #[.int .i64 eg,.int .i64 12,.int .u64 eo,.int .u64 ea,s],.agg #[.pointer o,.int .i32 tm,.int .i32 l,.int .u16 (g:Int)]] w fun e w'=>e=.returned (.tuple #[])∧Q w':=by
 have HC:=hide (H _ (below_alloc2 w (.cells #[.int .i64 eg,.int .i64 12,.int .u64 eo,.int .u64 ea,s] 35) (.cells #[.pointer o,.int .i32 tm,.int .i32 l,.int .u16 (g:Int)] 76)))
 clear H
 generalize (g:Int)=G at HC ⊢
 go_enter Tryz.func248,Tryz.ntmps248
 go_wp2_with fail
 refine HC.out.mono ?_
 rintro e w1 ⟨rfl,hq⟩
 have HQ:=hide hq
 clear hq HC
 go_wp2
 go_end0
 exact ⟨rfl,HQ.out⟩
theorem keeps_other (h9:ek≠9) (h10:ek≠10) (h11:ek≠11) (h12:ek≠12) (h13:ek≠13) :
  Calls Tryz.prog 248 #[.pointer (some ⟨ob,0,none⟩),.agg #[.int .i64 eg,.int .i64 ek,.int .u64 eo,.int .u64 ea,s],.agg #[.pointer o,.int .i32 tm,.int .i32 l,.int .u16 (g:Int)]] w fun e w'=>e=.returned (.tuple #[])∧Below w.heap.size w w':=by
 have b9:(ek == 9)=false:=by rw [beq_eq_false_iff_ne];exact h9
 have b10:(ek == 10)=false:=by rw [beq_eq_false_iff_ne];exact h10
 have b11:(ek == 11)=false:=by rw [beq_eq_false_iff_ne];exact h11
 have b12:(ek == 12)=false:=by rw [beq_eq_false_iff_ne];exact h12
 have b13:(ek == 13)=false:=by rw [beq_eq_false_iff_ne];exact h13
 clear h9 h10 h11 h12 h13
 have HB:Hid (∀ x y,Below w.heap.size w ((w.alloc x).alloc y)):=hide (fun x y=>below_alloc2 w x y)
 generalize (g:Int)=G
 go_enter Tryz.func248,Tryz.ntmps248
 go_wp2
 go_end0
 exact ⟨rfl,HB.out _ _⟩
end
end Go.Proofs.YtimgkhdgliojgaaGreatDoor
namespace Go.Proofs.YtimgkhdgliojgaaGreatDoor
open Go.RowKit Go.Maps
section
variable {w : World} {ob n m : Nat} {x1 x2 x4 : Value} {fr tm l G : Int} {o : Option Addr} {eg eo ea : Int} {s : Value} {q : Int → Option Value}
theorem keeps_ack (hob:w.heap[ob]?=some (.cells #[.int .u64 fr,x1,x2,.map (some m),x4] 231 (0,0))) (hm:HM w 74 .u16 m n (.pointer none) q) (hml:m < w.heap.size) (hmo:m≠ob) (h0:0≤G) (h1:G≤65535) :
  Calls Tryz.prog 248 #[.pointer (some ⟨ob,0,none⟩),.agg #[.int .i64 eg,.int .i64 11,.int .u64 eo,.int .u64 ea,s],.agg #[.pointer o,.int .i32 tm,.int .i32 l,.int .u16 G]] w fun e w'=>e=.returned (.tuple #[])∧HM w' 74 .u16 m n (.pointer none) (setF q G none)∧But (fun j=>j=m) w w':=by
 obtain ⟨W,hW⟩:∃ W,W=(w.alloc (.cells #[.int .i64 eg,.int .i64 11,.int .u64 eo,.int .u64 ea,s] 35)).alloc (.cells #[.pointer o,.int .i32 tm,.int .i32 l,.int .u16 G] 76):=⟨_,rfl⟩
 have hb:Below w.heap.size w W:=by rw [hW];exact below_alloc2 w _ _
 have hE:W.heap[w.heap.size+1]?=some (.cells #[.pointer o,.int .i32 tm,.int .i32 l,.int .u16 G] 76 (0,0)):=by rw [hW];exact heap_newS (by simp)
 have hE0:W.heap[w.heap.size]?=some (.cells #[.int .i64 eg,.int .i64 11,.int .u64 eo,.int .u64 ea,s] 35 (0,0)):=by rw [hW,Below.heap_alloc _ _ _ (by simp)];exact heap_new _ _
 have hWo:W.heap[ob]?=some (.cells #[.int .u64 fr,x1,x2,.map (some m),x4] 231 (0,0)):=(hb.block ob (lt_heap hob)).trans hob
 have HS:Hid (∀ X,But (fun j=>j=m) W X→X.cell? ⟨ob,3,none⟩=some (.map (some m))∧X.cell? ⟨w.heap.size+1,3,none⟩=some (.int .u16 G)):=hide (fun X hX=>by
  exact ⟨cell_but (p:=⟨ob,3,none⟩) (cell_at hWo rfl) hX (fun e=>hmo e.symm),cell_but (p:=⟨w.heap.size+1,3,none⟩) (cell_at hE rfl) hX (fun e=>by have e9:w.heap.size+1=m:=e;omega)⟩)
 have hbd:Below w.heap.size w W.drew:=hb.drew
 obtain ⟨w2,r1,r2,r3⟩:=(hm.below hbd).del law16 Tryz.underlying229 (key16 h0 h1) 0
 have HK:Hid (But (fun j=>j=m) W w2):=hide ((But.refl (fun j=>j=m) W).drew.trans r3 (fun _ _ e=>e))
 have HR:Hid (HM w2 74 .u16 m n (.pointer none) (setF q G none)∧But (fun j=>j=m) w w2):=hide ⟨r2,(But.of_below (S:=fun j=>j=m) hbd).trans r3 (fun _ _ e=>e)⟩
 have k1:W.cell? ⟨w.heap.size,1,none⟩=some (.int .i64 11):=cell_at hE0 rfl
 have kl:=lt_heap hE0
 have HW:=hide hW
 clear hob hm hml hmo h0 h1 hb hE hE0 hWo hbd r2 r3 hW
 go_enter Tryz.func248,Tryz.ntmps248
 go_wp2_with fail
 rw [← HW.out]
 clear HW
 go_region_held3 (fun X=>X.cell? ⟨ob,3,none⟩=some (.map (some m))∧X.cell? ⟨w.heap.size+1,3,none⟩=some (.int .u16 G))
  (first|with_reducible exact HS.out _ (But.refl _ _)|with_reducible exact HS.out _ (But.refl _ _).drew|with_reducible exact HS.out _ HK.out)
  (fail)
 clear HS r1
 go_wp2
 go_end0
 exact ⟨rfl,HR.out⟩
end
end Go.Proofs.YtimgkhdgliojgaaGreatDoor
namespace Go.Proofs.YtimgkhdgliojgaaGreatDoor
open Go.RowKit Go.Maps
def srt (k:Int):Int:=if 3≤k∧k≤6 then 1 else if 9≤k∧k≤13 then 2 else if 14≤k∧k≤15 then 3 else if k=16 then 4 else if 17≤k∧k≤19 then 5 else 0
section
variable {w : World} {tm l G : Int} {o : Option Addr} {eg ek eo ea : Int} {s : Value}
theorem nothing_gives:Calls Tryz.prog 242 #[.agg #[],.agg #[.int .i64 eg,.int .i64 ek,.int .u64 eo,.int .u64 ea,s]] w fun e w'=>e=.returned (.pointer none)∧Below w.heap.size w w':=by
 have HB:Hid (∀ x y,Below w.heap.size w ((w.alloc x).alloc y)):=hide (fun x y=>below_alloc2 w x y)
 go_enter Tryz.func242,Tryz.ntmps242
 go_wp2
 go_ret
 exact ⟨rfl,HB.out _ _⟩
theorem nothing_keeps:Calls Tryz.prog 243 #[.agg #[],.agg #[.int .i64 eg,.int .i64 ek,.int .u64 eo,.int .u64 ea,s],.agg #[.pointer o,.int .i32 tm,.int .i32 l,.int .u16 G]] w fun e w'=>e=.returned (.tuple #[])∧Below w.heap.size w w':=by
 have HB:Hid (∀ x y z,Below w.heap.size w (((w.alloc x).alloc y).alloc z)):=hide (fun x y z=>Below.on (below_alloc2 w x y) (below_alloc1 _ z))
 go_enter Tryz.func243,Tryz.ntmps243
 go_wp2
 go_end0
 exact ⟨rfl,HB.out _ _ _⟩
theorem sort_3:Calls Tryz.prog 120 #[.int .i64 3] w fun e w'=>e=.returned (.int .i64 (srt 3))∧w'=w:=by
 go_enter Tryz.func120,Tryz.ntmps120
 go_wp2
 go_ret
 exact ⟨rfl,rfl⟩
theorem sort_4:Calls Tryz.prog 120 #[.int .i64 4] w fun e w'=>e=.returned (.int .i64 (srt 4))∧w'=w:=by
 go_enter Tryz.func120,Tryz.ntmps120
 go_wp2
 go_ret
 exact ⟨rfl,rfl⟩
theorem sort_5:Calls Tryz.prog 120 #[.int .i64 5] w fun e w'=>e=.returned (.int .i64 (srt 5))∧w'=w:=by
 go_enter Tryz.func120,Tryz.ntmps120
 go_wp2
 go_ret
 exact ⟨rfl,rfl⟩
theorem sort_6:Calls Tryz.prog 120 #[.int .i64 6] w fun e w'=>e=.returned (.int .i64 (srt 6))∧w'=w:=by
 go_enter Tryz.func120,Tryz.ntmps120
 go_wp2
 go_ret
 exact ⟨rfl,rfl⟩
theorem sort_9:Calls Tryz.prog 120 #[.int .i64 9] w fun e w'=>e=.returned (.int .i64 (srt 9))∧w'=w:=by
 go_enter Tryz.func120,Tryz.ntmps120
 go_wp2
 go_ret
 exact ⟨rfl,rfl⟩
theorem sort_10:Calls Tryz.prog 120 #[.int .i64 10] w fun e w'=>e=.returned (.int .i64 (srt 10))∧w'=w:=by
 go_enter Tryz.func120,Tryz.ntmps120
 go_wp2
 go_ret
 exact ⟨rfl,rfl⟩
theorem sort_11:Calls Tryz.prog 120 #[.int .i64 11] w fun e w'=>e=.returned (.int .i64 (srt 11))∧w'=w:=by
 go_enter Tryz.func120,Tryz.ntmps120
 go_wp2
 go_ret
 exact ⟨rfl,rfl⟩
theorem sort_12:Calls Tryz.prog 120 #[.int .i64 12] w fun e w'=>e=.returned (.int .i64 (srt 12))∧w'=w:=by
 go_enter Tryz.func120,Tryz.ntmps120
 go_wp2
 go_ret
 exact ⟨rfl,rfl⟩
theorem sort_13:Calls Tryz.prog 120 #[.int .i64 13] w fun e w'=>e=.returned (.int .i64 (srt 13))∧w'=w:=by
 go_enter Tryz.func120,Tryz.ntmps120
 go_wp2
 go_ret
 exact ⟨rfl,rfl⟩
theorem sort_14:Calls Tryz.prog 120 #[.int .i64 14] w fun e w'=>e=.returned (.int .i64 (srt 14))∧w'=w:=by
 go_enter Tryz.func120,Tryz.ntmps120
 go_wp2
 go_ret
 exact ⟨rfl,rfl⟩
theorem sort_15:Calls Tryz.prog 120 #[.int .i64 15] w fun e w'=>e=.returned (.int .i64 (srt 15))∧w'=w:=by
 go_enter Tryz.func120,Tryz.ntmps120
 go_wp2
 go_ret
 exact ⟨rfl,rfl⟩
theorem sort_16:Calls Tryz.prog 120 #[.int .i64 16] w fun e w'=>e=.returned (.int .i64 (srt 16))∧w'=w:=by
 go_enter Tryz.func120,Tryz.ntmps120
 go_wp2
 go_ret
 exact ⟨rfl,rfl⟩
theorem sort_17:Calls Tryz.prog 120 #[.int .i64 17] w fun e w'=>e=.returned (.int .i64 (srt 17))∧w'=w:=by
 go_enter Tryz.func120,Tryz.ntmps120
 go_wp2
 go_ret
 exact ⟨rfl,rfl⟩
theorem sort_18:Calls Tryz.prog 120 #[.int .i64 18] w fun e w'=>e=.returned (.int .i64 (srt 18))∧w'=w:=by
 go_enter Tryz.func120,Tryz.ntmps120
 go_wp2
 go_ret
 exact ⟨rfl,rfl⟩
theorem sort_19:Calls Tryz.prog 120 #[.int .i64 19] w fun e w'=>e=.returned (.int .i64 (srt 19))∧w'=w:=by
 go_enter Tryz.func120,Tryz.ntmps120
 go_wp2
 go_ret
 exact ⟨rfl,rfl⟩
theorem sort_no (h3:ek≠3) (h4:ek≠4) (h5:ek≠5) (h6:ek≠6) (h9:ek≠9) (h10:ek≠10) (h11:ek≠11) (h12:ek≠12) (h13:ek≠13) (h14:ek≠14) (h15:ek≠15) (h16:ek≠16) (h17:ek≠17) (h18:ek≠18) (h19:ek≠19):Calls Tryz.prog 120 #[.int .i64 ek] w fun e w'=>e=.returned (.int .i64 0)∧w'=w:=by
 have b3:(ek == 3)=false:=by rw [beq_eq_false_iff_ne];exact h3
 have b4:(ek == 4)=false:=by rw [beq_eq_false_iff_ne];exact h4
 have b5:(ek == 5)=false:=by rw [beq_eq_false_iff_ne];exact h5
 have b6:(ek == 6)=false:=by rw [beq_eq_false_iff_ne];exact h6
 have b9:(ek == 9)=false:=by rw [beq_eq_false_iff_ne];exact h9
 have b10:(ek == 10)=false:=by rw [beq_eq_false_iff_ne];exact h10
 have b11:(ek == 11)=false:=by rw [beq_eq_false_iff_ne];exact h11
 have b12:(ek == 12)=false:=by rw [beq_eq_false_iff_ne];exact h12
 have b13:(ek == 13)=false:=by rw [beq_eq_false_iff_ne];exact h13
 have b14:(ek == 14)=false:=by rw [beq_eq_false_iff_ne];exact h14
 have b15:(ek == 15)=false:=by rw [beq_eq_false_iff_ne];exact h15
 have b16:(ek == 16)=false:=by rw [beq_eq_false_iff_ne];exact h16
 have b17:(ek == 17)=false:=by rw [beq_eq_false_iff_ne];exact h17
 have b18:(ek == 18)=false:=by rw [beq_eq_false_iff_ne];exact h18
 have b19:(ek == 19)=false:=by rw [beq_eq_false_iff_ne];exact h19
 clear h3 h4 h5 h6 h9 h10 h11 h12 h13 h14 h15 h16 h17 h18 h19
 go_enter Tryz.func120,Tryz.ntmps120
 go_wp2
 go_ret
 exact ⟨rfl,rfl⟩
theorem sort_any:Calls Tryz.prog 120 #[.int .i64 ek] w fun e w'=>e=.returned (.int .i64 (srt ek))∧w'=w:=by
 by_cases h3:ek=3
 ·subst h3;exact sort_3
 by_cases h4:ek=4
 ·subst h4;exact sort_4
 by_cases h5:ek=5
 ·subst h5;exact sort_5
 by_cases h6:ek=6
 ·subst h6;exact sort_6
 by_cases h9:ek=9
 ·subst h9;exact sort_9
 by_cases h10:ek=10
 ·subst h10;exact sort_10
 by_cases h11:ek=11
 ·subst h11;exact sort_11
 by_cases h12:ek=12
 ·subst h12;exact sort_12
 by_cases h13:ek=13
 ·subst h13;exact sort_13
 by_cases h14:ek=14
 ·subst h14;exact sort_14
 by_cases h15:ek=15
 ·subst h15;exact sort_15
 by_cases h16:ek=16
 ·subst h16;exact sort_16
 by_cases h17:ek=17
 ·subst h17;exact sort_17
 by_cases h18:ek=18
 ·subst h18;exact sort_18
 by_cases h19:ek=19
 ·subst h19;exact sort_19
 have e0:srt ek=0:=by
  unfold srt
  rw [if_neg (by omega),if_neg (by omega),if_neg (by omega),if_neg h16,if_neg (by omega)]
 rw [e0]
 exact sort_no h3 h4 h5 h6 h9 h10 h11 h12 h13 h14 h15 h16 h17 h18 h19
end
end Go.Proofs.YtimgkhdgliojgaaGreatDoor
namespace Go.Proofs.YtimgkhdgliojgaaGreatDoor
open Go.RowKit Go.Maps
inductive Lf where
 | top|gm|om
 | vw (g:Nat)|ob (s o:Int)|sn (o:Int)|em (o:Int)|rc (o:Int)
abbrev LF:=Nat→Option Lf
def Lf.of (s o:Int):Lf→Prop
 | .ob s' o'=>s'=s∧o'=o
 | .sn o'=>s=2∧o'=o
 | .em o'=>s=2∧o'=o
 | .rc o'=>s=2∧o'=o
 | _=>False
def TW (L:LF) (w:World):Nat→Prop:=fun k=>L k=none∧k < w.heap.size
def TL (pl:Nat→Int→Int) (L:LF) (w:World) (v:Value) (c:Clk):Prop:=TQ pl (TW L w) w v c
def LEx (L L':LF) (w:World):Prop:=∀ k,k < w.heap.size→L' k=L k
def Llt (L:LF) (w:World):Prop:=∀ k l,L k=some l→k < w.heap.size
theorem LEx.refl (L:LF) (w:World):LEx L L w:=fun _ _=>rfl
section
variable {pl : Nat → Int → Int} {L L' : LF} {w wm w' : World} {v u : Value} {c d : Clk} {S : Nat → Prop}
theorem Llt.on (h:Llt L w) (hs:w.heap.size≤w'.heap.size):Llt L w':=fun k l hk=>Nat.lt_of_lt_of_le (h k l hk) hs
theorem TL.but (h:TL pl L w v c) (hb:But S w w') (hS:∀ k,S k→k < w.heap.size→L k≠none) (hL:LEx L L' w):TL pl L' w' v c :=
 (TQ.but h hb (fun k hk hs=>hS k hs hk.2 hk.1)).mono (fun k hk=>⟨(hL k hk.2).trans hk.1,Nat.lt_of_lt_of_le hk.2 hb.size⟩)
theorem TL.bel (h:TL pl L w v c) (hb:Below w.heap.size w w'):TL pl L w' v c:=h.but (S:=fun _=>False) (But.of_below hb) (fun _ e=>e.elim) (LEx.refl _ _)
theorem TL.nz (h:TQ pl (Nz (TW L w) w wm) w' v c) (hL:LEx L L' w) (h1:w.heap.size≤w'.heap.size) (h2:wm.heap.size≤w'.heap.size) (hn:∀ k,w.heap.size≤k→k < wm.heap.size→L' k=none):TL pl L' w' v c:=by
 refine TQ.mono h (fun k hk=>?_)
 rcases hk with hk|hk
 ·exact ⟨(hL k hk.2).trans hk.1,Nat.lt_of_lt_of_le hk.2 h1⟩
 ·exact ⟨hn k hk.1 hk.2,Nat.lt_of_lt_of_le hk.2 h2⟩
theorem TL.new (h:TQ pl (Nz (TW L w) w w') w' v c) (hl:Llt L w) (hs:w.heap.size≤w'.heap.size):TL pl L w' v c :=
 TL.nz h (LEx.refl _ _) hs (Nat.le_refl _) (fun k hk _=>by
  cases hq:L k with
  | none=>rfl
  | some l=>have:=hl k l hq;omega)
theorem TL.form (h:TL pl L w v c):∃ o,v=.pointer o:=TQ.form h
theorem TL.nil (pl:Nat→Int→Int) (L:LF) (w:World):TL pl L w (.pointer none) zc:=TQ.nil _ _ _
theorem TL.ptr (h:TL pl L w v c) {x:Nat} (hx:1≤c x):∃ p,v=.pointer (some p):=by
 rcases h with ⟨_,h⟩|⟨t,p,h,_⟩
 ·have:=h x;omega
 ·exact ⟨_,h⟩
def SL (pl:Nat→Int→Int) (L:LF) (w:World):List (Nat × Clk)→List Value→Prop
 | [],xs=>xs=[]
 | p :: l,xs=>∃ u ys,xs=.int .u16 (p.1:Int) :: u :: ys∧p.1 < 65536∧TL pl L w u p.2∧SL pl L w l ys
def EL (pl:Nat→Int→Int) (L:LF) (w:World):List Clk→List Value→Prop
 | [],xs=>xs=[]
 | c :: l,xs=>∃ u ys,xs=u :: ys∧TL pl L w u c∧EL pl L w l ys
theorem SL.but (hb:But S w w') (hS:∀ k,S k→k < w.heap.size→L k≠none) (hL:LEx L L' w):∀ {l:List (Nat × Clk)} {xs:List Value},SL pl L w l xs→SL pl L' w' l xs
 | [],xs,h=>h
 | p :: l,xs,h=>by
  obtain ⟨u,ys,h1,h2,h3,h4⟩:=h
  exact ⟨u,ys,h1,h2,h3.but hb hS hL,SL.but hb hS hL h4⟩
theorem EL.but (hb:But S w w') (hS:∀ k,S k→k < w.heap.size→L k≠none) (hL:LEx L L' w):∀ {l:List Clk} {xs:List Value},EL pl L w l xs→EL pl L' w' l xs
 | [],xs,h=>h
 | p :: l,xs,h=>by
  obtain ⟨u,ys,h1,h3,h4⟩:=h
  exact ⟨u,ys,h1,h3.but hb hS hL,EL.but hb hS hL h4⟩
theorem SL.snoc {g:Nat} (hg:g < 65536) (hu:TL pl L w u c):∀ {l:List (Nat × Clk)} {xs:List Value},SL pl L w l xs→SL pl L w (l++[(g,c)]) (xs++[.int .u16 (g:Int),u])
 | [],xs,h=>by
  have h:xs=[]:=h
  subst h
  exact ⟨u,[],rfl,hg,hu,rfl⟩
 | p :: l,xs,h=>by
  obtain ⟨u1,ys,h1,h2,h3,h4⟩:=h
  subst h1
  exact ⟨u1,ys++[.int .u16 (g:Int),u],rfl,h2,h3,SL.snoc hg hu h4⟩
theorem EL.snoc (hu:TL pl L w u c):∀ {l:List Clk} {xs:List Value},EL pl L w l xs→EL pl L w (l++[c]) (xs++[u])
 | [],xs,h=>by
  have h:xs=[]:=h
  subst h
  exact ⟨u,[],rfl,hu,rfl⟩
 | p :: l,xs,h=>by
  obtain ⟨u1,ys,h1,h3,h4⟩:=h
  subst h1
  exact ⟨u1,ys++[u],rfl,h3,EL.snoc hu h4⟩
end
def RcF (pl:Nat→Int→Int) (L:LF) (w:World) (f:Int→Option Value) (r:Nat→Option Clk):Prop:=∀ g:Nat,g < 65536→(r g=none→f (g:Int)=none)∧∀ c,r g=some c→∃ u,f (g:Int)=some u∧TL pl L w u c
structure RcM (pl:Nat→Int→Int) (L:LF) (w:World) (o:Int) (m N:Nat) (f:Int→Option Value) (r:Nat→Option Clk):Prop where
 lb:L m=some (.rc o)
 hm:HM w 74 .u16 m N (.pointer none) f
 rf:RcF pl L w f r
def RcV (pl:Nat→Int→Int) (L:LF) (w:World) (o:Int) (N:Nat) (q:ChF) (rv:Value):Prop:=(q.unb=false∧rv=.map none)∨(q.unb=true∧∃ m f,rv=.map (some m)∧RcM pl L w o m N f q.rcv)
def CvM (pl:Nat→Int→Int) (L:LF) (w:World) (d:Option Clk) (v:Value):Prop:=(d=none∧v=.pointer none)∨∃ c p,d=some c∧v=.pointer (some p)∧TL pl L w v c
structure ChX (pl:Nat→Int→Int) (L:LF) (w:World) (ob:Nat) (o:Int) (N:Nat) (q:ChF) (sv ev rv cv:Value) (xs ys:List Value):Prop where
 lb:L ob=some (.ob 2 o)
 hb:w.heap[ob]?=some (.cells #[.int .u64 q.free,sv,ev,rv,cv] 231 (0,0))
 f0:0≤q.free
 f1:q.free≤18446744073709551615
 sw:Win w 2 sv q.sent.length xs
 so:∀ k,sv.ownBlock=some k→L k=some (.sn o)
 sl:SL pl L w q.sent xs
 sn:q.sent.length≤N
 ew:Win w 1 ev q.emp.length ys
 eo:∀ k,ev.ownBlock=some k→L k=some (.em o)
 el:EL pl L w q.emp ys
 en:q.emp.length≤N
 rc:RcV pl L w o N q rv
 cv:CvM pl L w q.clo cv
def ChM (pl:Nat→Int→Int) (L:LF) (w:World) (ob:Nat) (o:Int) (N:Nat) (q:ChF):Prop:=∃ sv ev rv cv xs ys,ChX pl L w ob o N q sv ev rv cv xs ys
section
variable {pl : Nat → Int → Int} {L L' : LF} {w wm w' : World} {v u : Value} {c d : Clk} {S : Nat → Prop} {f : Int → Option Value} {r : Nat → Option Clk} {o : Int} {m N N' ob : Nat} {q : ChF} {rv cv sv ev : Value} {xs ys : List Value}
theorem RcF.but (h:RcF pl L w f r) (hb:But S w w') (hS:∀ k,S k→k < w.heap.size→L k≠none) (hL:LEx L L' w):RcF pl L' w' f r:=fun g hg=>⟨(h g hg).1,fun c hc=>by
 obtain ⟨u,h1,h2⟩:=(h g hg).2 c hc
 exact ⟨u,h1,h2.but hb hS hL⟩⟩
theorem RcV.but (h:RcV pl L w o N q rv) (hb:But S w w') (hS:∀ k,S k→k < w.heap.size→L k≠none) (hr:∀ k,S k→L k≠some (.rc o)) (hL:LEx L L' w) (hl:Llt L w) (hN:N≤N'):RcV pl L' w' o N' q rv:=by
 rcases h with h|⟨h,m,f,h1,h2⟩
 ·exact .inl h
 ·exact .inr ⟨h,m,f,h1,(hL m (hl _ _ h2.lb)).trans h2.lb,(h2.hm.but hb (fun e=>hr m e h2.lb)).up hN,h2.rf.but hb hS hL⟩
theorem CvM.but {d:Option Clk} (h:CvM pl L w d v) (hb:But S w w') (hS:∀ k,S k→k < w.heap.size→L k≠none) (hL:LEx L L' w):CvM pl L' w' d v:=by
 rcases h with h|⟨c,p,h1,h2,h3⟩
 ·exact .inl h
 ·exact .inr ⟨c,p,h1,h2,h3.but hb hS hL⟩
theorem ChX.but (h:ChX pl L w ob o N q sv ev rv cv xs ys) (hb:But S w w') (hS:∀ k,S k→k < w.heap.size→L k≠none) (ho:∀ k l,S k→L k=some l→¬ l.of 2 o) (hL:LEx L L' w) (hl:Llt L w) (hN:N≤N'):ChX pl L' w' ob o N' q sv ev rv cv xs ys:=by
 have lk:∀ k l,L k=some l→L' k=some l:=fun k l hk=>(hL k (hl k l hk)).trans hk
 exact ⟨lk _ _ h.lb,(hb.block ob (lt_heap h.hb) (fun e=>ho ob _ e h.lb ⟨rfl,rfl⟩)).trans h.hb,h.f0,h.f1,h.sw.but hb (fun k hk e=>ho k _ e (h.so k hk) ⟨rfl,rfl⟩),fun k hk=>lk _ _ (h.so k hk),SL.but hb hS hL h.sl,Nat.le_trans h.sn hN,
  h.ew.but hb (fun k hk e=>ho k _ e (h.eo k hk) ⟨rfl,rfl⟩),fun k hk=>lk _ _ (h.eo k hk),EL.but hb hS hL h.el,Nat.le_trans h.en hN,h.rc.but hb hS (fun k hs hk=>ho k _ hs hk ⟨rfl,rfl⟩) hL hl hN,h.cv.but hb hS hL⟩
theorem ChM.but (h:ChM pl L w ob o N q) (hb:But S w w') (hS:∀ k,S k→k < w.heap.size→L k≠none) (ho:∀ k l,S k→L k=some l→¬ l.of 2 o) (hL:LEx L L' w) (hl:Llt L w) (hN:N≤N'):ChM pl L' w' ob o N' q:=by
 obtain ⟨sv,ev,rv,cv,xs,ys,h⟩:=h
 exact ⟨sv,ev,rv,cv,xs,ys,h.but hb hS ho hL hl hN⟩
end
end Go.Proofs.YtimgkhdgliojgaaGreatDoor
namespace Go.Proofs.YtimgkhdgliojgaaGreatDoor
open Go.RowKit Go.Maps
section
variable {T : List Me} {M : CS} {e : Me} {r : Gor} {c : Chn} {o : Int} {F : FS} {H : List Vw}
theorem chNext_room (ha:M.ask e r=0) (h:M.chans o=some c):∃ c',chNext M e o=some c'∧c'.room=c.room:=by
 by_cases ho:o=e.o
 ·subst ho
  unfold chNext
  by_cases h9:e.k=9
  ·have:=(ask_chan ha (by omega) (by omega)).1 h9
   rw [this] at h;cases h
  ·rw [if_neg h9,h]
   dsimp only
   split
   ·exact ⟨_,setF_same _ _ _,rfl⟩
   ·split
    ·exact ⟨_,setF_same _ _ _,rfl⟩
    ·split
     ·exact ⟨_,setF_same _ _ _,rfl⟩
     ·exact ⟨c,h,rfl⟩
 ·rw [chNext_other ho];exact ⟨c,h,rfl⟩
theorem Rch.wt (h:Rch T M):∀ g r,M.gs g=some r→0 < r.as_→∃ c,M.chans r.to=some c∧c.room=0:=by
 induction h with
 | new =>
  intro g r hg hr
  by_cases e9:g=0
  ·subst e9
   have hg:setF (fun _=>none) 0 (some (⟨[],0,0⟩:Gor)) 0=some r:=hg
   rw [setF_same] at hg
   cases hg
   exact absurd hr (Int.lt_irrefl 0)
  ·have hg:setF (fun _=>none) 0 (some (⟨[],0,0⟩:Gor)) g=some r:=hg
   rw [setF_other _ _ e9] at hg;cases hg
 | @step T M e _ hd hw ih =>
  obtain ⟨r,hc⟩:=why_can hw
  intro g q hq hp
  rw [hc.nx] at hq ⊢
  rw [doo_gs hc.gs] at hq
  rw [doo_chans]
  have keep:∀ x c,M.chans x=some c→c.room=0→∃ c',chNext M e x=some c'∧c'.room=0:=fun x c h1 h2=>by
   obtain ⟨c',a,b⟩:=chNext_room hc.ask h1
   exact ⟨c',a,b.trans h2⟩
  by_cases h7:e.k=7
  ·rw [if_pos h7] at hq
   by_cases hg:g=e.a
   ·subst hg;rw [setF_same] at hq;cases hq;exact absurd hp (Int.lt_irrefl 0)
   ·rw [setF_other _ _ hg] at hq
    obtain ⟨c,a,b⟩:=ih g q hq hp
    exact keep _ c a b
  ·rw [if_neg h7] at hq
   by_cases hg:g=e.g
   ·subst hg
    rw [setF_same] at hq
    cases hq
    rw [gNext_as] at hp
    rw [gNext_to]
    by_cases h10:e.k=10
    ·rw [if_pos h10] at hp ⊢
     cases hm:M.chans e.o with
     | none =>
      rw [hm] at hp
      dsimp only at hp ⊢
      obtain ⟨c,a,b⟩:=ih _ r hc.gs hp
      exact keep _ c a b
     | some c =>
      rw [hm] at hp
      dsimp only at hp ⊢
      by_cases hz:c.room=0
      ·rw [if_pos hz];exact keep _ c hm hz
      ·rw [if_neg hz] at hp ⊢
       obtain ⟨c,a,b⟩:=ih _ r hc.gs hp
       exact keep _ c a b
    ·rw [if_neg h10] at hp ⊢
     by_cases h11:e.k=11
     ·rw [if_pos h11] at hp;exact absurd hp (Int.lt_irrefl 0)
     ·rw [if_neg h11] at hp ⊢
      obtain ⟨c,a,b⟩:=ih _ r hc.gs hp
      exact keep _ c a b
   ·rw [setF_other _ _ hg] at hq
    obtain ⟨c,a,b⟩:=ih g q hq hp
    exact keep _ c a b
theorem ask_ack (h:M.ask e r=0) (hk:e.k=11) (hm:M.chans e.o=some c):0 < r.as_:=by
 unfold CS.ask CS.askChan at h
 rw [if_neg (by omega),if_neg (by omega),if_pos (by omega),hm] at h
 dsimp only at h
 rw [if_neg (by omega),if_neg (by omega),if_pos hk] at h
 by_cases h1:0 < r.as_
 ·exact h1
 ·rw [if_neg h1] at h;omega
structure ChOk (q:ChF) (e:Me):Prop where
 mak:e.k=9→q=ChF.new
 snd:e.k=10→q.unb=false→¬ 0 < q.free→q.emp≠[]
 ack:e.k=11→q.unb=true
 rcv:e.k=12→e.a=1→q.sent≠[]
 bit:e.k=12→e.a=0∨e.a=1
theorem RcI.ok (h:RcI T M F H) (hg:Gdf e) (hc:Can M e r):ChOk (F.ch e.o) e:=by
 refine ⟨fun hk=>?_,fun hk h1 h2=>h.fl.send hc hk h1 h2,fun hk=>?_,fun hk ha=>h.fl.recv hc hk ha,hg.rc⟩
 ·have hm:=(ask_chan hc.ask (by omega) (by omega)).1 hk
  have hl:=h.fl.ch e.o
  rw [hm] at hl
  exact hl
 ·obtain ⟨c,hm⟩:=ask_some hc.ask (by omega) (by omega)
  have hp:=ask_ack hc.ask hk hm
  obtain ⟨c2,h2,h3⟩:=h.rch.wt _ r hc.gs hp
  rw [← (hc.du hp).2,hm] at h2
  cases h2
  have hl:=h.fl.ch e.o
  rw [hm] at hl
  have hl:ChL1 c (F.ch e.o):=hl
  rw [hl.unb]
  exact decide_eq_true h3
end
section
variable {pl : Nat → Int → Int} {L : LF} {w : World} {ob N : Nat} {o : Int} {q : ChF} {e : Me} {s : Value}
theorem ch_gives (h:ChM pl L w ob o N q) (H:ChOk q e) (hg:0≤e.g∧e.g≤65535) :
  Calls Tryz.prog 247 #[.pointer (some ⟨ob,0,none⟩),.agg #[.int .i64 e.g,.int .i64 e.k,.int .u64 e.o,.int .u64 e.a,s]] w fun x w'=>∃ v,x=.returned v∧TL pl L w' v (q.give e)∧Below w.heap.size w w':=by
 obtain ⟨sv,ev,rv,cv,xs,ys,h⟩:=h
 unfold ChF.give
 by_cases h10:e.k=10
 ·rw [if_pos h10,h10]
  by_cases hu:q.unb=true
  ·rw [if_pos (.inl hu)]
   rcases h.rc with ⟨h1,_⟩|⟨_,m,f,h1,_⟩
   ·rw [h1] at hu;cases hu
   subst h1
   refine (gives_send (o:=none) h.hb (fun W hW=>gs_unb ((hW.block ob (lt_heap h.hb)).trans h.hb))).mono ?_
   rintro x w' ⟨rfl,hb⟩
   exact ⟨_,rfl,TL.nil _ _ _,hb⟩
  ·rcases h.rc with ⟨h1,h2⟩|⟨h1,_⟩
   case inr=>exact absurd h1 hu
   subst h2
   by_cases hf:0 < q.free
   ·rw [if_pos (.inr hf)]
    refine (gives_send (o:=none) h.hb (fun W hW=>gs_free ((hW.block ob (lt_heap h.hb)).trans h.hb) hf)).mono ?_
    rintro x w' ⟨rfl,hb⟩
    exact ⟨_,rfl,TL.nil _ _ _,hb⟩
   ·rw [if_neg (fun e9=>e9.elim hu hf)]
    have hne:=H.snd h10 h1 hf
    have hlen:0 < q.emp.length:=List.length_pos_iff.2 hne
    obtain ⟨g,off,cap,hv,_,hgl,hc⟩:=h.ew.ex hlen
    cases hem:q.emp with
    | nil=>exact absurd hem hne
    | cons c l =>
     have hel:=h.el
     rw [hem] at hel
     obtain ⟨u,zs,hz,hu1,_⟩:=hel
     obtain ⟨p,rfl⟩:=hu1.form
     have hcell:=hc 0 (.pointer p) (by rw [hz];rfl)
     subst hv
     refine (gives_send (o:=p) h.hb (fun W hW=>gs_room ((hW.block ob (lt_heap h.hb)).trans h.hb) hf hlen ((hW.cell hgl).trans hcell) (Nat.lt_of_lt_of_le hgl hW.size))).mono ?_
     rintro x w' ⟨rfl,hb⟩
     exact ⟨_,rfl,hu1.bel hb,hb⟩
 rw [if_neg h10]
 by_cases h11:e.k=11
 ·rw [if_pos h11,h11]
  have hu:=H.ack h11
  rcases h.rc with ⟨h1,_⟩|⟨_,m,f,h1,h2⟩
  ·rw [h1] at hu;cases hu
  subst h1
  have hgn:e.g.toNat < 65536:=by omega
  have hcast:((e.g.toNat:Nat):Int)=e.g:=by omega
  obtain ⟨r1,r2⟩:=h2.rf e.g.toNat hgn
  rw [hcast] at r1 r2
  cases hq:q.rcv e.g.toNat with
  | none =>
   refine (gives_ack (o:=none) h.hb h2.hm hg.1 hg.2 (by rw [r1 hq];rfl)).mono ?_
   rintro x w' ⟨rfl,hb⟩
   exact ⟨_,rfl,TL.nil _ _ _,hb⟩
  | some c =>
   obtain ⟨u,hu1,hu2⟩:=r2 c hq
   obtain ⟨p,rfl⟩:=hu2.form
   refine (gives_ack (o:=p) h.hb h2.hm hg.1 hg.2 (by rw [hu1];rfl)).mono ?_
   rintro x w' ⟨rfl,hb⟩
   exact ⟨_,rfl,hu2.bel hb,hb⟩
 rw [if_neg h11]
 by_cases h12:e.k=12
 ·rw [if_pos h12,h12]
  rcases H.bit h12 with ha|ha
  ·rw [if_pos ha,ha]
   rcases h.cv with ⟨h1,h2⟩|⟨c,p,h1,h2,h3⟩
   ·rw [h1]
    subst h2
    refine (gives_recv (o:=none) h.hb (fun W hW=>gr_none ((hW.block ob (lt_heap h.hb)).trans h.hb))).mono ?_
    rintro x w' ⟨rfl,hb⟩
    exact ⟨_,rfl,TL.nil _ _ _,hb⟩
   ·rw [h1]
    subst h2
    refine (gives_recv (o:=some p) h.hb (fun W hW=>gr_none ((hW.block ob (lt_heap h.hb)).trans h.hb))).mono ?_
    rintro x w' ⟨rfl,hb⟩
    exact ⟨_,rfl,h3.bel hb,hb⟩
  ·rw [if_neg (by omega),ha]
   have hne:=H.rcv h12 ha
   have hlen:0 < q.sent.length:=List.length_pos_iff.2 hne
   obtain ⟨g,off,cap,hv,_,hgl,hc⟩:=h.sw.ex hlen
   cases hem:q.sent with
   | nil=>exact absurd hem hne
   | cons c l =>
    have hel:=h.sl
    rw [hem] at hel
    obtain ⟨u,zs,hz,_,hu1,_⟩:=hel
    obtain ⟨p,rfl⟩:=hu1.form
    have hcell:=hc 1 (.pointer p) (by rw [hz];rfl)
    subst hv
    refine (gives_recv (o:=p) h.hb (fun W hW=>gr_one ((hW.block ob (lt_heap h.hb)).trans h.hb) hlen ((hW.cell hgl).trans hcell) (Nat.lt_of_lt_of_le hgl hW.size))).mono ?_
    rintro x w' ⟨rfl,hb⟩
    exact ⟨_,rfl,hu1.bel hb,hb⟩
 rw [if_neg h12]
 refine (gives_none h10 h11 h12).mono ?_
 rintro x w' ⟨rfl,hb⟩
 exact ⟨_,rfl,TL.nil _ _ _,hb⟩
end
end Go.Proofs.YtimgkhdgliojgaaGreatDoor
