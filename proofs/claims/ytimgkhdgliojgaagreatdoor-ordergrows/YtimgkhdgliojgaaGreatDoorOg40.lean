import Derived.Test.YtimgkhdgliojgaaGreatDoorOg39
set_option maxRecDepth 8000
set_option maxHeartbeats 8000000
set_option linter.unusedVariables false
namespace Go.Proofs.YtimgkhdgliojgaaGreatDoor
open Go.RowKit Go.Maps
def dyT (s:Int):TypeId:=if s=1 then 224 else if s=2 then 227 else if s=3 then 232 else if s=4 then 235 else 238
def newO (s:Int):Obj:=if s=1 then .cells #[.pointer none,.pointer none] 226 else if s=2 then .cells #[.int .u64 0,.slice none 0 0,.slice none 0 0,.map none,.pointer none] 231 else if s=3 then .cells #[.pointer none] 234 else if s=4 then .cells #[.pointer none] 237 else .cells #[.pointer none] 240
section
variable {w : World} {s : Int}
theorem new_1:Calls Tryz.prog 121 #[.int .i64 1] w fun e w'=>e=.returned (.iface 224 (gPtr w.heap.size))∧w'=w.alloc (newO 1):=by
 go_enter Tryz.func121,Tryz.ntmps121
 go_wp2
 go_ret
 exact ⟨rfl,rfl⟩
theorem new_2:Calls Tryz.prog 121 #[.int .i64 2] w fun e w'=>e=.returned (.iface 227 (gPtr w.heap.size))∧w'=w.alloc (newO 2):=by
 go_enter Tryz.func121,Tryz.ntmps121
 go_wp2
 go_ret
 exact ⟨rfl,rfl⟩
theorem new_3:Calls Tryz.prog 121 #[.int .i64 3] w fun e w'=>e=.returned (.iface 232 (gPtr w.heap.size))∧w'=w.alloc (newO 3):=by
 go_enter Tryz.func121,Tryz.ntmps121
 go_wp2
 go_ret
 exact ⟨rfl,rfl⟩
theorem new_4:Calls Tryz.prog 121 #[.int .i64 4] w fun e w'=>e=.returned (.iface 235 (gPtr w.heap.size))∧w'=w.alloc (newO 4):=by
 go_enter Tryz.func121,Tryz.ntmps121
 go_wp2
 go_ret
 exact ⟨rfl,rfl⟩
theorem new_5:Calls Tryz.prog 121 #[.int .i64 5] w fun e w'=>e=.returned (.iface 238 (gPtr w.heap.size))∧w'=w.alloc (newO 5):=by
 go_enter Tryz.func121,Tryz.ntmps121
 go_wp2
 go_ret
 exact ⟨rfl,rfl⟩
theorem new_any (h1:1≤s) (h5:s≤5):Calls Tryz.prog 121 #[.int .i64 s] w fun e w'=>e=.returned (.iface (dyT s) (gPtr w.heap.size))∧w'=w.alloc (newO s):=by
 have hc:s=1∨s=2∨s=3∨s=4∨s=5:=by omega
 rcases hc with rfl|rfl|rfl|rfl|rfl
 ·exact new_1
 ·exact new_2
 ·exact new_3
 ·exact new_4
 ·exact new_5
end
def VwC (pl:Nat→Int→Int) (L:LF) (w:World) (vb:Nat) (v:Vw):Prop:=∃ kv ty,w.heap[vb]?=some (.cells (vC kv v.tm v.pl (v.g:Int)) ty (0,0))∧TL pl L w kv v.kn
structure Zr (s o:Int) (F:FS):Prop where
 s1:s=1→F.lr o=zc∧F.lw o=zc
 s2:s=2→F.ch o=ChF.new
 s3:s=3→F.wg o=zc
 s4:s=4→F.on o=zc
 s5:s=5→F.ato o=zc
structure FX (X:Lf→Prop) (pl:Nat→Int→Int) (L:LF) (w:World) (fb gm om N K:Nat) (F:FS) (fg:Int→Option Value) (fo:Int→Int→Option Value):Prop where
 lt:Llt L w
 lf:L fb=some .top
 lg:L gm=some .gm
 lo:L om=some .om
 top:¬ X .top→w.heap[fb]?=some (.cells #[.int .i32 (F.taken:Int),.map (some gm),.map (some om)] 123 (0,0))
 hg:¬ X .gm→HM w 74 .u16 gm N (.pointer none) fg
 ho:¬ X .om→SM w om N fo
 gn:∀ g:Nat,g < 65536→F.gs g=none→fg (g:Int)=none
 vw:∀ g v,F.gs g=some v→g < 65536∧v.g=g∧∃ vb,fg (g:Int)=some (gPtr vb)∧L vb=some (.vw g)∧(¬ X (.vw g)→VwC pl L w vb v)
 on:∀ s o,Rng s o→fo s o=none→Zr s o F
 ob:∀ s o x,Rng s o→fo s o=some x→∃ ob,x=.iface (dyT s) (gPtr ob)∧L ob=some (.ob s o)∧(¬ X (.ob s o)→ObM pl L w ob s o K F)
abbrev FM:=FX (fun _=>False)
section
variable {X Y : Lf → Prop} {pl : Nat → Int → Int} {L L' : LF} {w w' : World} {fb gm om N N' K K' : Nat} {F F' : FS} {fg : Int → Option Value} {fo : Int → Int → Option Value} {S : Nat → Prop} {vb : Nat} {v : Vw} {s o : Int}
theorem VwC.but (h:VwC pl L w vb v) (hb:But S w w') (ho:¬ S vb) (hS:∀ k,S k→k < w.heap.size→L k≠none) (hL:LEx L L' w):VwC pl L' w' vb v:=by
 obtain ⟨kv,ty,h1,h2⟩:=h
 exact ⟨kv,ty,(hb.block vb (lt_heap h1) ho).trans h1,h2.but hb hS hL⟩
theorem FX.but (h:FX X pl L w fb gm om N K F fg fo) (hXY:∀ l,X l→Y l) (hb:But S w w') (hS:∀ k,S k→k < w.heap.size→∃ l,L k=some l∧Y l) (hY:∀ s o l,Y l→l.of s o→Y (.ob s o)) (hL:LEx L L' w) (hl:Llt L' w') (hN:N≤N') (hK:K≤K'):FX Y pl L' w' fb gm om N' K' F fg fo:=by
 have lk:∀ k l,L k=some l→L' k=some l:=fun k l hk=>(hL k (h.lt k l hk)).trans hk
 have no:∀ k l,L k=some l→¬ Y l→¬ S k:=fun k l hk hy hs=>by
  obtain ⟨l2,h1,h2⟩:=hS k hs (h.lt k l hk)
  rw [hk] at h1
  cases h1
  exact hy h2
 have hS2:∀ k,S k→k < w.heap.size→L k≠none:=fun k hs hk e=>by
  obtain ⟨l2,h1,_⟩:=hS k hs hk
  rw [e] at h1;cases h1
 refine ⟨hl,lk _ _ h.lf,lk _ _ h.lg,lk _ _ h.lo,fun hy=>?_,fun hy=>?_,fun hy=>?_,h.gn,fun g v hv=>?_,h.on,fun s o x hr hx=>?_⟩
 ·exact (hb.block fb (h.lt _ _ h.lf) (no _ _ h.lf hy)).trans (h.top (fun e=>hy (hXY _ e)))
 ·exact ((h.hg (fun e=>hy (hXY _ e))).but hb (no _ _ h.lg hy)).up hN
 ·exact ((h.ho (fun e=>hy (hXY _ e))).but hb (no _ _ h.lo hy)).up hN
 ·obtain ⟨h1,h2,vb,h3,h4,h5⟩:=h.vw g v hv
  exact ⟨h1,h2,vb,h3,lk _ _ h4,fun hy=>(h5 (fun e=>hy (hXY _ e))).but hb (no _ _ h4 hy) hS2 hL⟩
 ·obtain ⟨ob,h1,h2,h3⟩:=h.ob s o x hr hx
  refine ⟨ob,h1,lk _ _ h2,fun hy=>(h3 (fun e=>hy (hXY _ e))).but hb hS2 (fun k l hs hk hof=>?_) hL h.lt hK (Sm.refl _ _ _)⟩
  obtain ⟨l2,h8,h9⟩:=hS k hs (h.lt k l hk)
  rw [hk] at h8
  cases h8
  exact hy (hY s o l h9 hof)
theorem FX.below (h:FX X pl L w fb gm om N K F fg fo) (hX:∀ s o l,X l→l.of s o→X (.ob s o)) (hb:Below w.heap.size w w'):FX X pl L w' fb gm om N K F fg fo :=
 h.but (S:=fun _=>False) (fun _ e=>e) (But.of_below hb) (fun _ e=>e.elim) hX (LEx.refl _ _) (h.lt.on hb.size) (Nat.le_refl _) (Nat.le_refl _)
theorem newO_ob (hz:Zr s o F) (h1:1≤s) (h5:s≤5) {ob:Nat} (hL:L ob=some (.ob s o)) {W:World} (hh:∀ c t,newO s=.cells c t→W.heap[ob]?=some (.cells c t (0,0))):ObM pl L W ob s o N F:=by
 refine ⟨hL,fun e=>?_,fun e=>?_,fun e=>?_,fun e=>?_,fun e=>?_⟩
 ·subst e
  rw [(hz.s1 rfl).1,(hz.s1 rfl).2]
  exact ⟨_,_,hh _ _ rfl,TL.nil _ _ _,TL.nil _ _ _⟩
 ·subst e
  rw [hz.s2 rfl]
  exact ⟨.slice none 0 0,.slice none 0 0,.map none,.pointer none,[],[],hL,hh _ _ rfl,Int.le_refl 0,(by show (0:Int)≤18446744073709551615;omega),Win.nil _ _,fun k e=>(by cases e),rfl,Nat.zero_le _,Win.nil _ _,fun k e=>(by cases e),rfl,Nat.zero_le _,.inl ⟨rfl,rfl⟩,.inl ⟨rfl,rfl⟩⟩
 ·subst e;rw [hz.s3 rfl];exact ⟨_,hh _ _ rfl,TL.nil _ _ _⟩
 ·subst e;rw [hz.s4 rfl];exact ⟨_,hh _ _ rfl,TL.nil _ _ _⟩
 ·subst e;rw [hz.s5 rfl];exact ⟨_,hh _ _ rfl,TL.nil _ _ _⟩
end
end Go.Proofs.YtimgkhdgliojgaaGreatDoor
namespace Go.Proofs.YtimgkhdgliojgaaGreatDoor
open Go.RowKit Go.Maps
section
variable {pl : Nat → Int → Int} {L L' : LF} {w w' : World} {fb gm om N : Nat} {F : FS} {fg : Int → Option Value} {fo : Int → Int → Option Value} {eg eo ea ek : Int} {sk : Value} {o : Option Addr} {ob : Nat}
theorem met_fork (a0:0≤ea) (a1:ea≤65535):Calls Tryz.prog 54 #[.pointer (some ⟨fb,0,none⟩),.agg #[.int .i64 eg,.int .i64 7,.int .u64 eo,.int .u64 ea,sk]] w fun e w'=>e=.returned (.iface 138 (.pointer (some ⟨w.heap.size+1,0,none⟩)))∧w'=(w.alloc (.cells #[.int .i64 eg,.int .i64 7,.int .u64 eo,.int .u64 ea,sk] 35)).alloc (.cells #[.pointer none,.int .i32 0,.int .i32 0,.int .u16 ea] 140):=by
 have hwr:IntKind.u16.wrap ea=ea:=IntWalk.u16_in ea ⟨a0,a1⟩
 go_enter Tryz.func54,Tryz.ntmps54
 go_wp2
 go_ret
 exact ⟨rfl,rfl⟩
theorem met_join (a0:0≤ea) (a1:ea≤65535) (hf:w.heap[fb]?=some (.cells #[.int .i32 (F.taken:Int),.map (some gm),.map (some om)] 123 (0,0))) (hg:HM w 74 .u16 gm N (.pointer none) fg) (ho:(fg ea).getD (.pointer none)=.pointer o):Calls Tryz.prog 54 #[.pointer (some ⟨fb,0,none⟩),.agg #[.int .i64 eg,.int .i64 8,.int .u64 eo,.int .u64 ea,sk]] w fun e w'=>∃ b,e=.returned (.iface 141 (.pointer (some ⟨b,0,none⟩)))∧w.heap.size≤b∧But (fun _=>False) w w'∧w'.heap[b]?=some (.cells #[.pointer o] 143 (0,0)):=by
 have hwr:IntKind.u16.wrap ea=ea:=IntWalk.u16_in ea ⟨a0,a1⟩
 obtain ⟨W,hW⟩:∃ W,W=w.alloc (.cells #[.int .i64 eg,.int .i64 8,.int .u64 eo,.int .u64 ea,sk] 35):=⟨_,rfl⟩
 have hb:Below w.heap.size w W:=by rw [hW];exact below_alloc1 w _
 have hsz:W.heap.size=w.heap.size+1:=by rw [hW];simp
 have hsz2:w.heap.size+1=W.heap.size:=hsz.symm
 have hE:W.heap[w.heap.size]?=some (.cells #[.int .i64 eg,.int .i64 8,.int .u64 eo,.int .u64 ea,sk] 35 (0,0)):=by rw [hW];exact heap_new _ _
 have p3:W.cell? ⟨w.heap.size,3,none⟩=some (.int .u64 ea):=cell_at hE rfl
 have pl3:=lt_heap hE
 have hlook:∀ X,But (fun _=>False) W X→(Instr.lookup 120 (.map (some gm)) (.int .u16 ea) false).run Tryz.prog X=.ok (.pointer o) X:=fun X hX=>by
  have h1:=((hg.below hb).but hX (fun e=>e)).look law16 Tryz.underlying120 (z:=.pointer none) (e:=119) (by kernel_rfl) (key16 a0 a1)
  rw [ho] at h1;exact h1
 have hfW:W.heap[fb]?=some (.cells #[.int .i32 (F.taken:Int),.map (some gm),.map (some om)] 123 (0,0)):=(hb.block fb (lt_heap hf)).trans hf
 have q1:W.cell? ⟨fb,1,none⟩=some (.map (some gm)):=cell_at hfW rfl
 have ql:=lt_heap hfW
 have hL1:=hlook W.drew (But.refl _ _).drew
 have hL0:=hlook W (But.refl _ _)
 have HE:Hid (w.heap.size≤W.heap.size∧But (fun _=>False) w (W.alloc (.cells #[.pointer o] 143)).drew∧(W.alloc (.cells #[.pointer o] 143)).drew.heap[W.heap.size]?=some (.cells #[.pointer o] 143 (0,0))):=hide ⟨hb.size,((But.of_below (S:=fun _=>False) hb).alloc _).drew,heap_new _ _⟩
 have HW:=hide hW
 clear hlook hg ho hf hb hW hsz hsz2 hE hfW
 go_enter Tryz.func54,Tryz.ntmps54
 go_wp2_with fail
 rw [← HW.out]
 go_region
 go_wp2
 go_ret
 exact ⟨_,rfl,HE.out⟩
theorem met_no (h7:ek≠7) (h8:ek≠8) (h0:srt ek=0):Calls Tryz.prog 54 #[.pointer (some ⟨fb,0,none⟩),.agg #[.int .i64 eg,.int .i64 ek,.int .u64 eo,.int .u64 ea,sk]] w fun e w'=>e=.returned (.iface 181 (.agg #[]))∧But (fun _=>False) w w':=by
 have b7:(ek == 7)=false:=by rw [beq_eq_false_iff_ne];exact h7
 have b8:(ek == 8)=false:=by rw [beq_eq_false_iff_ne];exact h8
 obtain ⟨W,hW⟩:∃ W,W=w.alloc (.cells #[.int .i64 eg,.int .i64 ek,.int .u64 eo,.int .u64 ea,sk] 35):=⟨_,rfl⟩
 have hb:Below w.heap.size w W:=by rw [hW];exact below_alloc1 w _
 have hE:W.heap[w.heap.size]?=some (.cells #[.int .i64 eg,.int .i64 ek,.int .u64 eo,.int .u64 ea,sk] 35 (0,0)):=by rw [hW];exact heap_new _ _
 have HSx:Hid (∀ X,Below W.heap.size W X→X.cell? ⟨w.heap.size,1,none⟩=some (.int .i64 ek)∧X.cell? ⟨w.heap.size,2,none⟩=some (.int .u64 eo)):=hide (fun X hX=>by
  have h9:=(hX.block _ (lt_heap hE)).trans hE
  exact ⟨cell_at h9 rfl,cell_at h9 rfl⟩)
 have p1:W.cell? ⟨w.heap.size,1,none⟩=some (.int .i64 ek):=cell_at hE rfl
 have pl3:=lt_heap hE
 have H0:=hide (Below.refl W.heap.size W)
 have H1:=hide ((Below.refl W.heap.size W).drew)
 have H2:Hid (Below W.heap.size W (W.alloc (.cells #[.int .i64 0,.int .u64 eo] 179)).drew):=hide (below_alloc1 W _).drew
 have H3:Hid (Below W.heap.size W (W.alloc (.cells #[.int .i64 0,.int .u64 0] 179)).drew):=hide (below_alloc1 W _).drew
 have HF:Hid (But (fun _=>False) w (W.alloc (.cells #[.int .i64 0,.int .u64 eo] 179)).drew):=hide ((But.of_below (S:=fun _=>False) hb).alloc _).drew
 have HC:Hid (∀ X:World,Calls Tryz.prog 120 #[.int .i64 ek] X fun e w'=>e=.returned (.int .i64 0)∧w'=X):=hide (fun X=>by have h9:=sort_any (w:=X) (ek:=ek);rw [h0] at h9;exact h9)
 have HW:=hide hW
 have HB:=hide hb
 clear hE hb hW h0 h7 h8
 go_enter Tryz.func54,Tryz.ntmps54
 go_wp2_with fail
 rw [← HW.out]
 go_region_held3 (fun X=>X.cell? ⟨w.heap.size,1,none⟩=some (.int .i64 ek)∧X.cell? ⟨w.heap.size,2,none⟩=some (.int .u64 eo))
  (first|with_reducible exact HSx.out _ H0.out|with_reducible exact HSx.out _ H1.out|with_reducible exact HSx.out _ H2.out|with_reducible exact HSx.out _ H3.out)
  (first
   | (go_at_call 120;go_must (refine (HC.out _).mono ?_;rintro e8 w8 ⟨rfl,rfl⟩)))
 all_goals
  go_wp2
  go_ret
  exact ⟨rfl,HF.out⟩
theorem met_has {s:Int} (h7:ek≠7) (h8:ek≠8) (h0:srt ek=s) (hs:s≠0) (hf:w.heap[fb]?=some (.cells #[.int .i32 (F.taken:Int),.map (some gm),.map (some om)] 123 (0,0))) (ho:SM w om N fo) (hr:Rng s eo) {T:TypeId} {V:Value} (hx:fo s eo=some (.iface T V)):Calls Tryz.prog 54 #[.pointer (some ⟨fb,0,none⟩),.agg #[.int .i64 eg,.int .i64 ek,.int .u64 eo,.int .u64 ea,sk]] w fun e w'=>e=.returned (.iface T V)∧But (fun _=>False) w w':=by
 have b7:(ek == 7)=false:=by rw [beq_eq_false_iff_ne];exact h7
 have b8:(ek == 8)=false:=by rw [beq_eq_false_iff_ne];exact h8
 have bs:(s == 0)=false:=by rw [beq_eq_false_iff_ne];exact hs
 obtain ⟨W,hW⟩:∃ W,W=w.alloc (.cells #[.int .i64 eg,.int .i64 ek,.int .u64 eo,.int .u64 ea,sk] 35):=⟨_,rfl⟩
 have hb:Below w.heap.size w W:=by rw [hW];exact below_alloc1 w _
 have hE:W.heap[w.heap.size]?=some (.cells #[.int .i64 eg,.int .i64 ek,.int .u64 eo,.int .u64 ea,sk] 35 (0,0)):=by rw [hW];exact heap_new _ _
 have HSx:Hid (∀ X,Below W.heap.size W X→X.cell? ⟨w.heap.size,1,none⟩=some (.int .i64 ek)∧X.cell? ⟨w.heap.size,2,none⟩=some (.int .u64 eo)):=hide (fun X hX=>by
  have h9:=(hX.block _ (lt_heap hE)).trans hE
  exact ⟨cell_at h9 rfl,cell_at h9 rfl⟩)
 have p1:W.cell? ⟨w.heap.size,1,none⟩=some (.int .i64 ek):=cell_at hE rfl
 have pl3:=lt_heap hE
 have H0:=hide (Below.refl W.heap.size W)
 have H1:=hide ((Below.refl W.heap.size W).drew)
 have H2:Hid (Below W.heap.size W (W.alloc (.cells #[.int .i64 s,.int .u64 eo] 179)).drew):=hide (below_alloc1 W _).drew
 have H3:Hid (Below W.heap.size W (W.alloc (.cells #[.int .i64 0,.int .u64 0] 179)).drew):=hide (below_alloc1 W _).drew
 have HC:Hid (∀ X:World,Calls Tryz.prog 120 #[.int .i64 ek] X fun e w'=>e=.returned (.int .i64 s)∧w'=X):=hide (fun X=>by have h9:=sort_any (w:=X) (ek:=ek);rw [h0] at h9;exact h9)
 have HW:=hide hW
 have HX:Hid (∃ Y,Y=(W.alloc (.cells #[.int .i64 s,.int .u64 eo] 179)).drew∧But (fun _=>False) w Y∧Y.cell? ⟨fb,2,none⟩=some (.map (some om))∧fb < Y.heap.size∧Y.cell? ⟨W.heap.size,0,none⟩=some (.int .i64 s)∧Y.cell? ⟨W.heap.size,1,none⟩=some (.int .u64 eo)∧W.heap.size < Y.heap.size):=hide (by
  have hB:But (fun _=>False) w (W.alloc (.cells #[.int .i64 s,.int .u64 eo] 179)).drew:=((But.of_below (S:=fun _=>False) hb).alloc _).drew
  have hfY:=(hB.block fb (lt_heap hf) (fun e=>e)).trans hf
  have hn:(W.alloc (.cells #[.int .i64 s,.int .u64 eo] 179)).drew.heap[W.heap.size]?=some (.cells #[.int .i64 s,.int .u64 eo] 179 (0,0)):=heap_new _ _
  refine ⟨_,rfl,hB,cell_at hfY rfl,lt_heap hfY,cell_at hn rfl,cell_at hn rfl,lt_heap hn⟩)
 have HLk:Hid (∀ X,But (fun _=>False) w X→(Instr.lookup 121 (.map (some om)) (.agg #[.int .i64 s,.int .u64 eo]) false).run Tryz.prog X=.ok (.iface T V) X):=hide (fun X hX=>by
  have h9:=(ho.but hX (fun e=>e)).look hr
  rw [hx] at h9
  exact h9)
 have HQ:∀ X:World,(binOp .eql 133 (.iface T V) .nilIface).run Tryz.prog X=.ok (.bool false) X:=fun X=>run_eql_held_nil X _ _ _ (by kernel_rfl)
 clear hE hb hW h0 h7 h8 hf ho hr hx
 go_enter Tryz.func54,Tryz.ntmps54
 go_wp2_with fail
 rw [← HW.out]
 go_region_held3 (fun X=>X.cell? ⟨w.heap.size,1,none⟩=some (.int .i64 ek)∧X.cell? ⟨w.heap.size,2,none⟩=some (.int .u64 eo))
  (first|with_reducible exact HSx.out _ H0.out|with_reducible exact HSx.out _ H1.out|with_reducible exact HSx.out _ H2.out|with_reducible exact HSx.out _ H3.out)
  (first
   | (go_at_call 120;go_must (refine (HC.out _).mono ?_;rintro e8 w8 ⟨rfl,rfl⟩)))
 all_goals
  obtain ⟨Y,hY,hB,y2,yl,y0,y1,yl2⟩:=HX.out
  have hl:∀ n,(Instr.lookup 121 (.map (some om)) (.agg #[.int .i64 s,.int .u64 eo]) false).run Tryz.prog (Y.drewN n)=.ok (.iface T V) (Y.drewN n):=fun n=>HLk.out _ (hB.on (below_drewN (Below.refl _ _) n))
  rw [← hY]
  generalize W.heap.size=b at y0 y1 yl2 ⊢
  clear hY
  have HBt:=hide hB
  clear hB
  go_wp2_with fail
  go_quiet (fail)
  obtain ⟨Z,hZ⟩:∃ Z,Z=Y.drewN nq:=⟨_,rfl⟩
  have z2:Z.cell? ⟨fb,2,none⟩=some (.map (some om)):=by rw [hZ];exact y2
  have zl:fb < Z.heap.size:=by rw [hZ];exact yl
  have z0:Z.cell? ⟨b,0,none⟩=some (.int .i64 s):=by rw [hZ];exact y0
  have z1:Z.cell? ⟨b,1,none⟩=some (.int .u64 eo):=by rw [hZ];exact y1
  have zl2:b < Z.heap.size:=by rw [hZ];exact yl2
  have HZ:Hid (But (fun _=>False) w Z):=hide (by rw [hZ];exact HBt.out.on (below_drewN (Below.refl _ _) _))
  have hlz:∀ n,(Instr.lookup 121 (.map (some om)) (.agg #[.int .i64 s,.int .u64 eo]) false).run Tryz.prog (Z.drewN n)=.ok (.iface T V) (Z.drewN n):=fun n=>HLk.out _ (HZ.out.on (below_drewN (Below.refl _ _) n))
  rw [← hZ]
  clear hZ y0 y1 y2 yl yl2 hl
  go_wp2_with fail
  go_quiet (fail)
  go_wp2
  go_ret
  exact ⟨rfl,HZ.out.on (below_drewN (Below.refl _ _) _)⟩
theorem met_new {s:Int} (h7:ek≠7) (h8:ek≠8) (h0:srt ek=s) (hs:1≤s) (hf:w.heap[fb]?=some (.cells #[.int .i32 (F.taken:Int),.map (some gm),.map (some om)] 123 (0,0))) (ho:SM w om N fo) (hN:N < 1048578) (hfo:fb≠om) (hr:Rng s eo) (hx:fo s eo=none):Calls Tryz.prog 54 #[.pointer (some ⟨fb,0,none⟩),.agg #[.int .i64 eg,.int .i64 ek,.int .u64 eo,.int .u64 ea,sk]] w fun e w'=>∃ ob,e=.returned (.iface (dyT s) (gPtr ob))∧w.heap.size≤ob∧w'.heap[ob]?=some (newO s)∧SM w' om (N+1) (setO fo s eo (some (.iface (dyT s) (gPtr ob))))∧But (fun k=>k=om) w w':=by
 have b7:(ek == 7)=false:=by rw [beq_eq_false_iff_ne];exact h7
 have b8:(ek == 8)=false:=by rw [beq_eq_false_iff_ne];exact h8
 have bs:(s == 0)=false:=by rw [beq_eq_false_iff_ne];omega
 obtain ⟨W,hW⟩:∃ W,W=w.alloc (.cells #[.int .i64 eg,.int .i64 ek,.int .u64 eo,.int .u64 ea,sk] 35):=⟨_,rfl⟩
 have hb:Below w.heap.size w W:=by rw [hW];exact below_alloc1 w _
 have hE:W.heap[w.heap.size]?=some (.cells #[.int .i64 eg,.int .i64 ek,.int .u64 eo,.int .u64 ea,sk] 35 (0,0)):=by rw [hW];exact heap_new _ _
 have HSx:Hid (∀ X,Below W.heap.size W X→X.cell? ⟨w.heap.size,1,none⟩=some (.int .i64 ek)∧X.cell? ⟨w.heap.size,2,none⟩=some (.int .u64 eo)):=hide (fun X hX=>by
  have h9:=(hX.block _ (lt_heap hE)).trans hE
  exact ⟨cell_at h9 rfl,cell_at h9 rfl⟩)
 have p1:W.cell? ⟨w.heap.size,1,none⟩=some (.int .i64 ek):=cell_at hE rfl
 have pl3:=lt_heap hE
 have H0:=hide (Below.refl W.heap.size W)
 have H1:=hide ((Below.refl W.heap.size W).drew)
 have H2:Hid (Below W.heap.size W (W.alloc (.cells #[.int .i64 s,.int .u64 eo] 179)).drew):=hide (below_alloc1 W _).drew
 have H3:Hid (Below W.heap.size W (W.alloc (.cells #[.int .i64 0,.int .u64 0] 179)).drew):=hide (below_alloc1 W _).drew
 have HC:Hid (∀ X:World,Calls Tryz.prog 120 #[.int .i64 ek] X fun e w'=>e=.returned (.int .i64 s)∧w'=X):=hide (fun X=>by have h9:=sort_any (w:=X) (ek:=ek);rw [h0] at h9;exact h9)
 have HN:Hid (∀ X:World,Calls Tryz.prog 121 #[.int .i64 s] X fun e w'=>e=.returned (.iface (dyT s) (gPtr X.heap.size))∧w'=X.alloc (newO s)):=hide (fun X=>new_any hs hr.2.1)
 have HW:=hide hW
 have hom:=ho.lt
 have HX:Hid (∃ Y,Y=(W.alloc (.cells #[.int .i64 s,.int .u64 eo] 179)).drew∧But (fun _=>False) w Y∧Y.cell? ⟨fb,2,none⟩=some (.map (some om))∧fb < Y.heap.size∧Y.cell? ⟨W.heap.size,0,none⟩=some (.int .i64 s)∧Y.cell? ⟨W.heap.size,1,none⟩=some (.int .u64 eo)∧W.heap.size < Y.heap.size):=hide (by
  have hB:But (fun _=>False) w (W.alloc (.cells #[.int .i64 s,.int .u64 eo] 179)).drew:=((But.of_below (S:=fun _=>False) hb).alloc _).drew
  have hfY:=(hB.block fb (lt_heap hf) (fun e=>e)).trans hf
  have hn:(W.alloc (.cells #[.int .i64 s,.int .u64 eo] 179)).drew.heap[W.heap.size]?=some (.cells #[.int .i64 s,.int .u64 eo] 179 (0,0)):=heap_new _ _
  exact ⟨_,rfl,hB,cell_at hfY rfl,lt_heap hfY,cell_at hn rfl,cell_at hn rfl,lt_heap hn⟩)
 have HLk:Hid (∀ X,But (fun _=>False) w X→(Instr.lookup 121 (.map (some om)) (.agg #[.int .i64 s,.int .u64 eo]) false).run Tryz.prog X=.ok .nilIface X):=hide (fun X hX=>by
  have h9:=(ho.but hX (fun e=>e)).look hr
  rw [hx] at h9
  exact h9)
 have HPut:Hid (∀ X v,But (fun _=>False) w X→∃ w2,(Instr.mapUpdate 121 (.map (some om)) (.agg #[.int .i64 s,.int .u64 eo]) v).run Tryz.prog X=.ok () w2∧SM w2 om (N+1) (setO fo s eo (some v))∧But (fun k=>k=om) X w2):=hide (fun X v hX=>(ho.but hX (fun e=>e)).put hr (by unfold maxLen;omega) v)
 have HLk2:Hid (∀ X v,SM X om (N+1) (setO fo s eo (some v))→(Instr.lookup 121 (.map (some om)) (.agg #[.int .i64 s,.int .u64 eo]) false).run Tryz.prog X=.ok v X):=hide (fun X v hX=>by
  have h9:=hX.look hr
  rw [setO_same] at h9
  exact h9)
 have HNe:Hid (fb≠om∧om < w.heap.size∧w.heap.size≤W.heap.size):=hide ⟨hfo,hom,hb.size⟩
 clear hE hb hW h0 h7 h8 hf ho hr hx hfo hom hN
 go_enter Tryz.func54,Tryz.ntmps54
 go_wp2_with fail
 rw [← HW.out]
 go_region_held3 (fun X=>X.cell? ⟨w.heap.size,1,none⟩=some (.int .i64 ek)∧X.cell? ⟨w.heap.size,2,none⟩=some (.int .u64 eo))
  (first|with_reducible exact HSx.out _ H0.out|with_reducible exact HSx.out _ H1.out|with_reducible exact HSx.out _ H2.out|with_reducible exact HSx.out _ H3.out)
  (first
   | (go_at_call 120;go_must (refine (HC.out _).mono ?_;rintro e8 w8 ⟨rfl,rfl⟩)))
 all_goals
  obtain ⟨Y,hY,hB,y2,yl,y0,y1,yl2⟩:=HX.out
  have hl:∀ n,(Instr.lookup 121 (.map (some om)) (.agg #[.int .i64 s,.int .u64 eo]) false).run Tryz.prog (Y.drewN n)=.ok .nilIface (Y.drewN n):=fun n=>HLk.out _ (hB.on (below_drewN (Below.refl _ _) n))
  rw [← hY]
  have HNb:Hid (¬ W.heap.size=om):=hide (fun e=>by obtain ⟨_,a,b⟩:=HNe.out;omega)
  generalize W.heap.size=b at y0 y1 yl2 HNb ⊢
  clear hY
  have HBt:=hide hB
  clear hB
  go_wp2_with fail
  go_quiet (fail)
  obtain ⟨Z,hZ⟩:∃ Z,Z=Y.drewN nq:=⟨_,rfl⟩
  have z2:Z.cell? ⟨fb,2,none⟩=some (.map (some om)):=by rw [hZ];exact y2
  have zl:fb < Z.heap.size:=by rw [hZ];exact yl
  have z0:Z.cell? ⟨b,0,none⟩=some (.int .i64 s):=by rw [hZ];exact y0
  have z1:Z.cell? ⟨b,1,none⟩=some (.int .u64 eo):=by rw [hZ];exact y1
  have zl2:b < Z.heap.size:=by rw [hZ];exact yl2
  have HZ:Hid (But (fun _=>False) w Z):=hide (by rw [hZ];exact HBt.out.on (below_drewN (Below.refl _ _) _))
  rw [← hZ]
  clear hZ y0 y1 y2 yl yl2 hl
  obtain ⟨V9,hV9⟩:∃ V9,V9=Value.iface (dyT s) (gPtr Z.heap.size):=⟨_,rfl⟩
  obtain ⟨w2,r1,r2,r3⟩:=HPut.out (Z.alloc (newO s)).drew V9 (HZ.out.alloc _).drew
  have HSy:Hid (∀ X,But (fun k=>k=om) Z X→X.cell? ⟨fb,2,none⟩=some (.map (some om))∧X.cell? ⟨b,0,none⟩=some (.int .i64 s)∧X.cell? ⟨b,1,none⟩=some (.int .u64 eo)):=hide (fun X hX=>⟨cell_but z2 hX HNe.out.1,cell_but z0 hX HNb.out,cell_but z1 hX HNb.out⟩)
  have HK1:Hid (But (fun k=>k=om) Z (Z.alloc (newO s)).drew):=hide ((But.refl (fun k=>k=om) Z).alloc _).drew
  have HK2:Hid (But (fun k=>k=om) Z w2):=hide (HK1.out.trans r3 (fun _ _ e=>e))
  have HN1:Hid (Calls Tryz.prog 121 #[.int .i64 s] Z.drew fun e w'=>e=.returned V9∧w'=(Z.alloc (newO s)).drew):=hide (by rw [hV9];exact HN.out Z.drew)
  have hnew:w2.heap[Z.heap.size]?=some (newO s):=by
   have h8:(Z.alloc (newO s)).drew.heap[Z.heap.size]?=some (newO s):=heap_new Z _
   refine (r3.block _ (lt_heap h8) (fun e9=>?_)).trans h8
   have e9:Z.heap.size=om:=e9
   have:=HNe.out.2.1
   have:=HZ.out.size
   omega
  have HF:Hid (∃ ob,V9=.iface (dyT s) (gPtr ob)∧w.heap.size≤ob∧w2.heap[ob]?=some (newO s)∧SM w2 om (N+1) (setO fo s eo (some V9))∧But (fun k=>k=om) w w2):=hide ⟨_,hV9,HZ.out.size,hnew,r2,(HZ.out.mono (fun _ e=>e.elim)).trans HK2.out (fun _ _ e=>e)⟩
  have hl2:∀ n,(Instr.lookup 121 (.map (some om)) (.agg #[.int .i64 s,.int .u64 eo]) false).run Tryz.prog (w2.drewN n)=.ok V9 (w2.drewN n):=fun n=>HLk2.out _ _ (r2.but (S:=fun _=>False) (But.of_below (below_drewN (Below.refl _ _) n)) (fun e=>e))
  have x2:w2.cell? ⟨fb,2,none⟩=some (.map (some om)):=(HSy.out _ HK2.out).1
  have x0:w2.cell? ⟨b,0,none⟩=some (.int .i64 s):=(HSy.out _ HK2.out).2.1
  have x1:w2.cell? ⟨b,1,none⟩=some (.int .u64 eo):=(HSy.out _ HK2.out).2.2
  have xl:fb < w2.heap.size:=Nat.lt_of_lt_of_le zl HK2.out.size
  have xl2:b < w2.heap.size:=Nat.lt_of_lt_of_le zl2 HK2.out.size
  clear r2 r3 hV9 hnew
  go_wp2_with fail
  go_region_held3 (fun X=>X.cell? ⟨fb,2,none⟩=some (.map (some om))∧X.cell? ⟨b,0,none⟩=some (.int .i64 s)∧X.cell? ⟨b,1,none⟩=some (.int .u64 eo))
   (first|with_reducible exact HSy.out _ (But.refl _ _)|with_reducible exact HSy.out _ (But.refl _ _).drew|with_reducible exact HSy.out _ HK1.out|with_reducible exact HSy.out _ HK2.out)
   (first
    | (go_at_call 121;go_must (refine HN1.out.mono ?_;rintro e8 w8 ⟨rfl,rfl⟩)))
  clear z0 z1 z2 zl zl2 r1
  go_wp2_with fail
  go_quiet (fail)
  go_wp2
  go_ret
  obtain ⟨ob,a1,a2,a3,a4,a5⟩:=HF.out
  have hbq:Below w2.heap.size w2 (w2.drewN nq):=below_drewN (Below.refl w2.heap.size w2) nq
  subst a1
  exact ⟨ob,rfl,a2,(hbq.block ob (lt_heap a3)).trans a3,a4.but (S:=fun _=>False) (But.of_below hbq) (fun e=>e),a5.on hbq⟩
end
end Go.Proofs.YtimgkhdgliojgaaGreatDoor
namespace Go.Proofs.YtimgkhdgliojgaaGreatDoor
open Go.RowKit Go.Maps
section
variable {X Y : Lf → Prop} {pl : Nat → Int → Int} {L L' : LF} {w w' : World} {fb gm om N N' K : Nat} {F F' : FS} {fg : Int → Option Value} {fo : Int → Int → Option Value} {S : Nat → Prop} {e : Me} {sk : Value}
theorem met_sort (h:FM pl L w fb gm om N K F fg fo) (hr:Rng (srt e.k) e.o) (h0:srt e.k≠0) (hN:N < 1048578) :
  Calls Tryz.prog 54 #[.pointer (some ⟨fb,0,none⟩),.agg #[.int .i64 e.g,.int .i64 e.k,.int .u64 e.o,.int .u64 e.a,sk]] w fun x w'=>∃ ob L' fo',x=.returned (.iface (dyT (srt e.k)) (gPtr ob))∧FM pl L' w' fb gm om (N+1) K F fg fo'∧fo' (srt e.k) e.o=some (.iface (dyT (srt e.k)) (gPtr ob))∧L' ob=some (.ob (srt e.k) e.o)∧LEx L L' w∧But (fun k=>k=om) w w':=by
 have f0:¬ False:=fun e=>e
 have h7:e.k≠7:=fun e9=>h0 (by rw [e9];rfl)
 have h8:e.k≠8:=fun e9=>h0 (by rw [e9];rfl)
 have hY:∀ s o l,False→Lf.of s o l→False:=fun _ _ _ e _=>e
 cases hx:fo (srt e.k) e.o with
 | some x =>
  obtain ⟨ob,hv,hl,_⟩:=h.ob _ _ x hr hx
  subst hv
  refine (met_has h7 h8 rfl h0 (h.top f0) (h.ho f0) hr hx).mono ?_
  rintro x w' ⟨rfl,hb⟩
  exact ⟨ob,L,fo,rfl,h.but (S:=fun _=>False) (fun _ e=>e) hb (fun _ e=>e.elim) hY (LEx.refl _ _) (h.lt.on hb.size) (Nat.le_succ N) (Nat.le_refl _),hx,hl,LEx.refl _ _,hb.mono (fun _ e=>e.elim)⟩
 | none =>
  have h1:1≤srt e.k:=by have:=hr.1;omega
  have hfo:fb≠om:=fun e9=>by have:=h.lf;rw [e9,h.lo] at this;cases this
  refine (met_new h7 h8 rfl h1 (h.top f0) (h.ho f0) hN hfo hr hx).mono ?_
  rintro x w' ⟨ob,rfl,hob,hn,hm,hb⟩
  have hL:LEx L (fun k=>if k=ob then some (.ob (srt e.k) e.o) else L k) w:=fun k hk=>by
   have e9:¬ k=ob:=by omega
   exact if_neg e9
  have hl':Llt (fun k=>if k=ob then some (.ob (srt e.k) e.o) else L k) w':=fun k l hk=>by
   by_cases e9:k=ob
   ·rw [e9];exact lt_heap hn
   ·have hk:(if k=ob then some (.ob (srt e.k) e.o) else L k)=some l:=hk
    rw [if_neg e9] at hk;exact Nat.lt_of_lt_of_le (h.lt k l hk) hb.size
  have hF:=h.but (Y:=fun l=>l=.om) (L':=fun k=>if k=ob then some (.ob (srt e.k) e.o) else L k) (fun _ e=>e.elim) hb (fun k e9 _=>⟨.om,by rw [e9];exact h.lo,rfl⟩) (fun s o l e9 h9=>by subst e9;exact h9.elim) hL hl' (Nat.le_succ N) (Nat.le_refl _)
  refine ⟨ob,_,_,rfl,⟨hl',hF.lf,hF.lg,hF.lo,fun _=>hF.top (by simp),fun _=>hF.hg (by simp),fun _=>hm,h.gn,fun g v hv=>?_,fun s o hr2 ho=>?_,fun s o x hr2 ho=>?_⟩,setO_same _ _ _ _,if_pos rfl,hL,hb⟩
  ·obtain ⟨a1,a2,vb,a3,a4,a5⟩:=hF.vw g v hv
   exact ⟨a1,a2,vb,a3,a4,fun _=>a5 (by simp)⟩
  ·by_cases e9:s=srt e.k∧o=e.o
   ·rw [e9.1,e9.2,setO_same] at ho;cases ho
   ·rw [setO_other _ _ e9] at ho;exact h.on s o hr2 ho
  ·by_cases e9:s=srt e.k∧o=e.o
   ·obtain ⟨e1,e2⟩:=e9
    rw [e1,e2,setO_same] at ho
    cases ho
    rw [e1,e2]
    refine ⟨ob,rfl,if_pos rfl,fun _=>newO_ob (h.on _ _ hr hx) h1 hr.2.1 (if_pos rfl) (fun c t hc=>?_)⟩
    rw [← hc];exact hn
   ·rw [setO_other _ _ e9] at ho
    obtain ⟨ob2,a1,a2,a3⟩:=hF.ob s o x hr2 ho
    exact ⟨ob2,a1,a2,fun _=>a3 (by simp)⟩
end
end Go.Proofs.YtimgkhdgliojgaaGreatDoor
