import Derived.Test.YtimgkhdgliojgaaGreatDoorOg46
import Derived.Test.YtimgkhdgliojgaaGreatDoorOg05
set_option maxRecDepth 8000
set_option maxHeartbeats 8000000
set_option linter.unusedVariables false
namespace Go.Proofs.YtimgkhdgliojgaaGreatDoor
open Go.RowKit Go.Maps
noncomputable def chn (H:List Vw) (i:Nat):Nat→Nat→List Nat
 | c,0=>[]
 | c,n+1=>if c=i then [] else if (n=i∨befB H i n=true)∧befB H n c=true then n :: chn H i n n else chn H i c n
theorem chn_done (H:List Vw) (i n:Nat):chn H i i n=[]:=by
 cases n with
 | zero=>rfl
 | succ n=>rw [chn,if_pos rfl]
section
variable {w : World} {es : List E6.Ev} {ob : Nat}
theorem before_any (hR:IsRun es) (h:OA es w ob) {i j:Nat} (hi:i < es.length) (hj:j < es.length):Calls Tryz.prog 41 #[.pointer (some ⟨ob,0,none⟩),.int .i64 (i:Int),.int .i64 (j:Int)] w fun x w'=>x=.returned (.bool (befB (vws es) i j))∧Below w.heap.size w w':=by
 by_cases e9:i=j
 ·subst e9
  refine before_same.mono ?_
  rintro x w' ⟨rfl,k,rfl⟩
  exact ⟨by rw [befB_self],below_drewN (Below.refl _ _) k⟩
 ·exact before_ne hR h hi hj e9
theorem own_one (w:World) (x:Int):Own layI9 3 (w.alloc (.cells #[.int .i64 x] 3)) w.heap.size (.slice (some ⟨w.heap.size,0,none⟩) 1 1) [x] :=
 ⟨rfl,.inr ⟨w.heap.size,1,#[.int .i64 x],rfl,Nat.le_refl _,heap_new _ _,Nat.le_refl _,by unfold maxLen;omega,rfl,rfl⟩⟩
theorem info_I:∃ i,Tryz.prog.info? 3=some i∧i.zero=some (.int .i64 0)∧i.size=1∧i.bytes=8:=by
 have h:(Tryz.prog.info? 3).map (fun i=>(i.zero,i.size,i.bytes))=some (some (.int .i64 0),1,8):=by kernel_rfl
 cases hq:Tryz.prog.info? 3 with
 | none=>rw [hq] at h;cases h
 | some j=>rw [hq] at h;simp at h;exact ⟨j,rfl,h.1,h.2.1,h.2.2⟩
structure Cn (es:List E6.Ev) (W wr:World) (v:Value) (M:List Int):Prop where
 own:Own layI9 3 wr W.heap.size v M
 pos:0 < M.length
 bel:Below W.heap.size W wr
theorem Cn.on {W wr w2:World} {v:Value} {M:List Int} (h:Cn es W wr v M) (hb:Below wr.heap.size wr w2):Cn es W w2 v M:=⟨h.own.below hb,h.pos,h.bel.trans (hb.mono h.bel.size)⟩
theorem Chain_in (hR:IsRun es) (h:OA es w ob) {i j:Nat} (hi:i < es.length) (hj:j < es.length) (hb1:befB (vws es) i j=true):Calls Tryz.prog 25 #[.pointer (some ⟨ob,0,none⟩),.int .i64 (i:Int),.int .i64 (j:Int)] w fun x w'=>∃ a n c,x=.returned (.tuple #[.slice (some ⟨a,0,none⟩) n c,.int .i64 0])∧TRow layI9 w' (some ⟨a,0,none⟩) n (((j :: chn (vws es) i j j).reverse).map (fun x:Nat=>(x:Int)))∧Below w.heap.size w w':=by
 obtain ⟨W,hW⟩:∃ W,W=w.alloc (.cells #[.int .i64 (i:Int),.int .i64 (j:Int)] 3):=⟨_,rfl⟩
 have hbW:Below w.heap.size w W:=by rw [hW];exact below_alloc1 w _
 have hE:W.heap[w.heap.size]?=some (.cells #[.int .i64 (i:Int),.int .i64 (j:Int)] 3 (0,0)):=by rw [hW];exact heap_new _ _
 have hO:=h.on hbW
 have hf:flt es.length [(i:Int),(j:Int)]=0:=flt_zero.2 (fun x hx=>by
  rcases List.mem_cons.1 hx with e|e
  ·omega
  ·have:=List.mem_singleton.1 e;omega)
 have HFl:Hid (Calls Tryz.prog 40 #[.pointer (some ⟨ob,0,none⟩),.slice (some ⟨w.heap.size,0,none⟩) 2 2] W fun x w'=>x=.returned (.int .i64 0)∧w'=W):=hide (by
  have h9:=fault_any (xs:=[(i:Int),(j:Int)]) (b:=w.heap.size) (m:=2) hO rfl (by omega) (fun k x hk=>by
   match k,hk with
   | 0,hk=>simp at hk;subst hk;exact cell_at hE rfl
   | 1,hk=>simp at hk;subst hk;exact cell_at hE rfl)
  rw [hf] at h9
  exact h9)
 have HBf:Hid (∀ X (a b:Nat),Below W.heap.size W X→a < es.length→b < es.length→Calls Tryz.prog 41 #[.pointer (some ⟨ob,0,none⟩),.int .i64 (a:Int),.int .i64 (b:Int)] X fun x w'=>x=.returned (.bool (befB (vws es) a b))∧Below X.heap.size X w'):=hide (fun X a b hX ha hb=>before_any hR (hO.on hX) ha hb)
 have hlen:=hR.len
 have hlt:i < j:=by
  unfold befB at hb1
  exact bef_lt hR.hs (@of_decide_eq_true _ (Classical.propDecidable _) hb1)
 have HB:=hide hbW
 have HW:=hide hW
 obtain ⟨R,hRl⟩:∃ R:List Int,R=(j :: chn (vws es) i j j).map (fun x:Nat=>(x:Int)):=⟨_,rfl⟩
 have HRl:=hide hRl
 have HRv:Hid (((j :: chn (vws es) i j j).reverse).map (fun x:Nat=>(x:Int))=R.reverse):=hide (by rw [hRl,List.map_reverse])
 rw [HRv.out]
 obtain ⟨N,hN⟩:∃ N,N=es.length:=⟨_,rfl⟩
 rw [← hN] at HBf hi hj hlen
 clear hRl HRv hf hE hO hbW hW hN h hR
 have hne:((i:Int) != (j:Int))=true:=by simp;omega
 have HB1:=hide (HBf.out W i j (Below.refl _ _) hi hj)
 rw [hb1] at HB1
 go_enter Tryz.func25,Tryz.ntmps25
 go_wp2_with fail
 rw [← HW.out]
 refine HFl.out.mono ?_
 rintro e1 w1 ⟨rfl,hw1⟩
 obtain rfl:W=w1:=hw1.symm
 clear hw1 HFl HW
 go_wp2_with fail
 refine HB1.out.mono ?_
 rintro e2 w2 ⟨rfl,hb2⟩
 have HB2:=hide hb2
 clear hb2 HB1
 obtain ⟨i0,hi0,hz0,hz1,hz2⟩:=info_I
 have HSt:Hid (Cn es w2 (w2.alloc (.cells #[.int .i64 (j:Int)] 3)) (.slice (some ⟨w2.heap.size,0,none⟩) 1 1) [(j:Int)]):=hide ⟨own_one w2 _,Nat.zero_lt_one,below_alloc1 _ _⟩
 go_wp2
 go_loopw [9,10,11] (fun s9 s10 s11 wr=>∃ (c n:Nat) (M:List Int),s10=.int .i64 c∧s11=.int .i64 ((n:Int) - 1)∧Cn es w2 wr s9 M∧n≤c∧c < N∧(c=i∨befB (vws es) i c=true∧i < n)∧M.length+n≤N∧R=M++(chn (vws es) i c n).map (fun x:Nat=>(x:Int))) (fun _ _ s11 _=>(intOf s11+1).toNat)
 case atStart=>exact ⟨j,j,[(j:Int)],rfl,rfl,HSt.out,Nat.le_refl _,hj,.inr ⟨hb1,hlt⟩,by rw [List.length_singleton];omega,HRl.out⟩
 case round =>
  obtain ⟨c,n,M,rfl,rfl,hC,hnc,hcN,hor,hML,hRM⟩:=hrel
  have HC:=hide hC
  have HLn:=hide hML
  obtain ⟨g,lc,hgv,_⟩:=hC.own.frm hC.pos
  subst hgv
  clear hC HSt
  by_cases hci:c=i
  ·subst hci
   have hRM2:R=M:=by rw [hRM,chn_done,List.map_nil,List.append_nil]
   have hcb:((c:Int) != (c:Int))=false:=by simp
   have HRv:=hide (revi_any HC.out.own rfl (by have:=HLn.out;omega))
   have HF:=hide hRM2
   clear hRM hRM2 hor
   go_wp2_with fail
   refine HRv.out.mono ?_
   rintro e3 w3 ⟨rfl,ho3,hb3⟩
   have HE:Hid (TRow layI9 w3 (some ⟨g,0,none⟩) M.length R.reverse∧Below w.heap.size w w3):=hide (by
    refine ⟨by rw [HF.out];exact ho3.row (by rw [List.length_reverse]),?_⟩
    have h9:=(HC.out.own.lt g rfl).1
    exact bw_call (bw_call HB.out HB2.out) (HC.out.bel.trans (hb3.below HC.out.bel.size (fun k e=>by rw [e];exact h9))))
   clear ho3 hb3 HRv HC
   go_wp2
   go_ret2
   exact ⟨g,M.length,lc,rfl,HE.out⟩
  ·obtain ⟨hbc,hin⟩:=hor.elim (fun e=>absurd e hci) id
   obtain ⟨m,rfl⟩:∃ m,n=m+1:=⟨n - 1,by omega⟩
   have hx:((m+1:Nat):Int) - 1=(m:Int):=by omega
   rw [hx]
   have hcb:((c:Int) != (i:Int))=true:=by simp;omega
   have hm0:(0:Int)≤(m:Int):=by omega
   rw [chn,if_neg hci] at hRM
   have HBc:=hide (HBf.out wr m c (HB2.out.trans (HC.out.bel.mono HB2.out.size)) (by omega) hcN)
   by_cases hmi:m=i
   ·subst hmi
    rw [hbc] at HBc
    have HRn:Hid (R=(M++[(m:Int)])++(chn (vws es) m m m).map (fun x:Nat=>(x:Int))):=hide (by rw [hRM,if_pos ⟨.inl rfl,hbc⟩,List.map_cons,List.append_assoc];rfl)
    have hme:((m:Int) == (m:Int))=true:=by simp
    clear hRM hx hor
    go_wp2_with fail
    refine HBc.out.mono ?_
    rintro e3 w3 ⟨rfl,hb3⟩
    have HC3:=hide (HC.out.on hb3)
    clear hb3 HBc HC
    go_wp2_with (at_builtin;refine append_lay layI9 _ 52 3 i0 _ 8 Tryz.underlying52 hi0 hz0 hz1 hz2 rfl rfl (.tmp 55) (.tmp 57) rfl w2.heap.size (.slice (some ⟨g,0,none⟩) M.length lc) M rfl (HC3.out.own.below (below_alloc1 _ _)) (some ⟨w3.heap.size,0,none⟩) 1 1 [(m:Int)] rfl (TRow.one (y:=layI9) (x:=(m:Int)) (e:=3) (heap_new _ _)) (by intro e;cases e) ?b1 ?b2 ?b3 ?_)
    case b1=>unfold maxLen;have:=HLn.out;omega
    case b2=>have:=HLn.out;omega
    case b3=>have:=HC3.out.bel.size;simp;omega
    intro v' w' q1 q2 q3
    have HC5:Hid (Cn es w2 w' v' (M++[(m:Int)])):=hide (by
     refine ⟨q1,by rw [List.length_append,List.length_singleton];omega,?_⟩
     have hb9:Below w2.heap.size w2 (w3.alloc (.cells #[.int .i64 (m:Int)] 3)):=HC3.out.bel.trans ((below_alloc1 w3 _).mono HC3.out.bel.size)
     exact hb9.trans ((But.of_grown (S:=fun q=>(Value.slice (some ⟨g,0,none⟩) M.length lc).ownBlock=some q) q2 (fun _ e=>e)).below hb9.size (fun q hq=>(HC3.out.own.lt q hq).1)))
    clear q1 q2 q3 HC3
    go_wp2
    exact ⟨⟨m,m,M++[(m:Int)],rfl,by go_num,HC5.out,Nat.le_refl _,by omega,.inl rfl,by have:=HLn.out;rw [List.length_append,List.length_singleton];omega,HRn.out⟩,by simp [intOf]⟩
   ·have hme:((m:Int) == (i:Int))=false:=by simp;omega
    have HBi:=hide (HBf.out wr i m (HB2.out.trans (HC.out.bel.mono HB2.out.size)) (by omega) (by omega))
    have hmi2:i < m:=by omega
    by_cases hb1m:befB (vws es) i m=true
    ·rw [hb1m] at HBi
     clear HBc
     by_cases hb2m:befB (vws es) m c=true
     ·have HRn:Hid (R=(M++[(m:Int)])++(chn (vws es) i m m).map (fun x:Nat=>(x:Int))):=hide (by rw [hRM,if_pos ⟨.inr hb1m,hb2m⟩,List.map_cons,List.append_assoc];rfl)
      have HNx:Hid (m=i∨befB (vws es) i m=true∧i < m):=hide (.inr ⟨hb1m,hmi2⟩)
      clear hRM hx hor
      go_wp2_with fail
      refine HBi.out.mono ?_
      rintro e3 w3 ⟨rfl,hb3⟩
      have HC3:=hide (HC.out.on hb3)
      have HBc:=hide (HBf.out w3 m c (HB2.out.trans (HC3.out.bel.mono HB2.out.size)) (by omega) hcN)
      rw [hb2m] at HBc
      clear hb3 HBi HC
      go_wp2_with fail
      refine HBc.out.mono ?_
      rintro e4 w4 ⟨rfl,hb4⟩
      have HC4:=hide (HC3.out.on hb4)
      clear hb4 HBc HC3
      go_wp2_with (at_builtin;refine append_lay layI9 _ 52 3 i0 _ 8 Tryz.underlying52 hi0 hz0 hz1 hz2 rfl rfl (.tmp 55) (.tmp 57) rfl w2.heap.size (.slice (some ⟨g,0,none⟩) M.length lc) M rfl (HC4.out.own.below (below_alloc1 _ _)) (some ⟨w4.heap.size,0,none⟩) 1 1 [(m:Int)] rfl (TRow.one (y:=layI9) (x:=(m:Int)) (e:=3) (heap_new _ _)) (by intro e;cases e) ?b1 ?b2 ?b3 ?_)
      case b1=>unfold maxLen;have:=HLn.out;omega
      case b2=>have:=HLn.out;omega
      case b3=>have:=HC4.out.bel.size;simp;omega
      intro v' w' q1 q2 q3
      have HC5:Hid (Cn es w2 w' v' (M++[(m:Int)])):=hide (by
       refine ⟨q1,by rw [List.length_append,List.length_singleton];omega,?_⟩
       have hb9:Below w2.heap.size w2 (w4.alloc (.cells #[.int .i64 (m:Int)] 3)):=HC4.out.bel.trans ((below_alloc1 w4 _).mono HC4.out.bel.size)
       exact hb9.trans ((But.of_grown (S:=fun q=>(Value.slice (some ⟨g,0,none⟩) M.length lc).ownBlock=some q) q2 (fun _ e=>e)).below hb9.size (fun q hq=>(HC4.out.own.lt q hq).1)))
      clear q1 q2 q3 HC4
      go_wp2
      exact ⟨⟨m,m,M++[(m:Int)],rfl,by go_num,HC5.out,Nat.le_refl _,by omega,HNx.out,by have:=HLn.out;rw [List.length_append,List.length_singleton];omega,HRn.out⟩,by simp [intOf]⟩
     ·have hb2f:befB (vws es) m c=false:=by cases hq:befB (vws es) m c;rfl;exact absurd hq hb2m
      have HRn:Hid (R=M++(chn (vws es) i c m).map (fun x:Nat=>(x:Int))):=hide (by rw [hRM,if_neg (fun e=>hb2m e.2)])
      clear hRM hx hor
      go_wp2_with fail
      refine HBi.out.mono ?_
      rintro e3 w3 ⟨rfl,hb3⟩
      have HC3:=hide (HC.out.on hb3)
      have HBc:=hide (HBf.out w3 m c (HB2.out.trans (HC3.out.bel.mono HB2.out.size)) (by omega) hcN)
      rw [hb2f] at HBc
      clear hb3 HBi HC
      go_wp2_with fail
      refine HBc.out.mono ?_
      rintro e4 w4 ⟨rfl,hb4⟩
      have HC4:=hide (HC3.out.on hb4)
      clear hb4 HBc HC3
      go_wp2
      exact ⟨⟨c,m,M,rfl,by go_num,HC4.out,by omega,hcN,.inr ⟨hbc,hmi2⟩,by have:=HLn.out;omega,HRn.out⟩,by simp [intOf]⟩
    ·have hb1f:befB (vws es) i m=false:=by cases hq:befB (vws es) i m;rfl;exact absurd hq hb1m
     have HRn:Hid (R=M++(chn (vws es) i c m).map (fun x:Nat=>(x:Int))):=hide (by rw [hRM,if_neg (fun e=>e.1.elim hmi hb1m)])
     rw [hb1f] at HBi
     clear hRM hx hor HBc
     go_wp2_with fail
     refine HBi.out.mono ?_
     rintro e3 w3 ⟨rfl,hb3⟩
     have HC3:=hide (HC.out.on hb3)
     clear hb3 HBi HC
     go_wp2
     exact ⟨⟨c,m,M,rfl,by go_num,HC3.out,by omega,hcN,.inr ⟨hbc,hmi2⟩,by have:=HLn.out;omega,HRn.out⟩,by simp [intOf]⟩
end
end Go.Proofs.YtimgkhdgliojgaaGreatDoor
namespace Go.Proofs.YtimgkhdgliojgaaGreatDoor
open Go.RowKit Go.Maps
def e5a:E6.Ev:=⟨0,7,0,1,none,0,[]⟩
def e5b:E6.Ev:=⟨1,2,8,4,none,0,[]⟩
def e5c:E6.Ev:=⟨0,1,8,4,none,0,[]⟩
def e5d:E6.Ev:=⟨0,8,0,1,none,0,[]⟩
def es5:List E6.Ev:=[e5a,e5b,e5c,e5d,e5c]
theorem bnd_pl:∀ (es:List E6.Ev) (i:Nat),(∀ e ∈ es,e.chk=0∧e.ls=[])→E6.bnd es i [] []=(-1,0):=by
 intro es
 induction es with
 | nil=>intro i _;rfl
 | cons e es ih =>
  intro i h
  obtain ⟨h1,h2⟩:=h e (by simp)
  rw [E6.bnd,if_pos h1,h2]
  have hR:E6.Roomy [] ([]:List E6.Nd).length (E6.left [] [] []).2.reverse:=⟨fun t ht=>(by cases ht),by decide,by decide,by decide⟩
  rw [if_pos hR]
  exact ih (i+1) (fun f hf=>h f (by simp [hf]))
theorem mem_5 {P:E6.Ev→Prop} (ha:P e5a) (hb:P e5b) (hc:P e5c) (hd:P e5d):∀ e ∈ es5,P e:=by
 intro e he
 unfold es5 at he
 rcases List.mem_cons.1 he with h|he
 ·rw [h];exact ha
 rcases List.mem_cons.1 he with h|he
 ·rw [h];exact hb
 rcases List.mem_cons.1 he with h|he
 ·rw [h];exact hc
 rcases List.mem_cons.1 he with h|he
 ·rw [h];exact hd
 rcases List.mem_cons.1 he with h|he
 ·rw [h];exact hc
 ·cases he
theorem ok_5:∀ e ∈ es5,e.ok:=by
 apply mem_5
 all_goals exact ⟨⟨by decide,by decide⟩,⟨by decide,by decide⟩,by decide,fun s hs=>(by cases hs),by decide,fun _=>⟨rfl,rfl⟩⟩
theorem runV_5:runV es5=(-1,0,0):=by
 have hb:(E6.bounds es5).2=0:=by
  unfold E6.bounds
  rw [if_pos (by decide),bnd_pl _ _ (mem_5 ⟨by kernel_rfl,rfl⟩ ⟨by kernel_rfl,rfl⟩ ⟨by kernel_rfl,rfl⟩ ⟨by kernel_rfl,rfl⟩)]
 have h9:CS.new.run es5 0=(-1,0):=by kernel_rfl
 unfold runV
 rw [if_neg (fun e=>e hb),h9]
theorem isrun_5:IsRun es5:=by
 rcases run_or ok_5 with ⟨h,_⟩|⟨p,r,f,h1,h2⟩|⟨p,r,h1,h2⟩
 ·exact h
 ·rw [runV_5] at h1
  exact absurd (congrArg (fun x=>x.2.2) h1).symm h2
 ·rw [runV_5] at h1
  exact absurd (congrArg (fun x=>x.2.1) h1).symm h2
theorem vws_5g:(vws es5).map Vw.g=[0,1,0,0,0]:=by kernel_rfl
theorem bef_of {i j:Nat} {b:Bool} (hne:i≠j) (h:((vws es5)[i]?).bind (fun u=>((vws es5)[j]?).map (fun v=>knows v.kn v.g v.tm u.g u.tm))=some b):befB (vws es5) i j=b:=by
 cases hu:(vws es5)[i]? with
 | none=>rw [hu] at h;cases h
 | some u =>
  cases hv:(vws es5)[j]? with
  | none=>rw [hu,hv] at h;cases h
  | some v =>
   rw [hu,hv] at h
   rw [← befB_eq isrun_5.hs hu hv hne]
   exact Option.some.inj h
theorem bef_13:befB (vws es5) 1 3=true:=bef_of (by decide) (by kernel_rfl)
theorem bef_34:befB (vws es5) 3 4=true:=bef_of (by decide) (by kernel_rfl)
theorem bef_12:befB (vws es5) 1 2=false:=bef_of (by decide) (by kernel_rfl)
theorem bef_14:befB (vws es5) 1 4=true:=bef_of (by decide) (by kernel_rfl)
theorem chn_s (H:List Vw) (i c n:Nat):chn H i c (n+1)=if c=i then [] else if (n=i∨befB H i n=true)∧befB H n c=true then n :: chn H i n n else chn H i c n:=by rw [chn]
theorem chn_5:chn (vws es5) 1 4 4=[3,1]:=by
 have a:=chn_s (vws es5) 1 4 3
 rw [if_neg (by decide),if_pos ⟨.inr bef_13,bef_34⟩] at a
 have b:=chn_s (vws es5) 1 3 2
 rw [if_neg (by decide),if_neg (fun h=>by
  rcases h.1 with h|h
  ·omega
  ·rw [bef_12] at h;cases h)] at b
 have c:=chn_s (vws es5) 1 3 1
 rw [if_neg (by decide),if_pos ⟨.inl rfl,bef_13⟩,chn_done] at c
 exact a.trans (congrArg _ (b.trans c))
theorem clk_3:∃ v,(vws es5)[3]?=some v∧tks v.clk=[⟨0,3⟩,⟨1,1⟩]:=by
 have h:((vws es5)[3]?).map (fun v=>(v.clk 0,v.clk 1))=some (3,1):=by kernel_rfl
 cases hv:(vws es5)[3]? with
 | none=>rw [hv] at h;cases h
 | some v =>
  rw [hv] at h
  have h0:v.clk 0=3:=congrArg Prod.fst (Option.some.inj h)
  have h1:v.clk 1=1:=congrArg Prod.snd (Option.some.inj h)
  refine ⟨v,rfl,?_⟩
  have hz:∀ x,2≤x→v.clk x=0:=fun x hx=>by
   obtain ⟨a,b⟩:=isrun_5.hs.cl v (List.mem_of_getElem? hv) x
   by_cases e:1≤v.clk x
   ·obtain ⟨u,hu,hg,_⟩:=b e
    have hm:u.g ∈ (vws es5).map Vw.g:=List.mem_map_of_mem hu
    rw [vws_5g] at hm
    simp at hm
    omega
   ·omega
  unfold tks
  rw [show (65536:Nat)=2+65534 from rfl,tkl_add,tkl_zero (a:=0+2) (fun x a b=>hz x (by omega)),List.append_nil]
  simp [tkl,h0,h1]
theorem ecs_get {l:List E6.Ev} {i:Nat} {e:E6.Ev} (h:l[i]?=some e) {t:Nat} (ht:t < 5):(E6.ecells l)[i * 5+t]?=(E6.ecell e)[t]?:=by
 induction l generalizing i with
 | nil=>simp at h
 | cons x l ih =>
  cases i with
  | zero =>
   simp at h;subst h
   rw [E6.ecells,Nat.zero_mul,Nat.zero_add,List.getElem?_append_left (by simpa [E6.ecell] using ht)]
  | succ i =>
   rw [E6.ecells,List.getElem?_append_right (by simp [E6.ecell];omega)]
   have e1:(i+1) * 5+t - (E6.ecell x).length=i * 5+t:=by simp [E6.ecell];omega
   rw [e1]
   exact ih (by simpa using h)
theorem erow_of (w:World) (es:List E6.Ev) (hs:∀ e ∈ es,e.sa=none∧e.ls=[]):E6.ERow (w.alloc (.cells (E6.ecells es).toArray 35)) (some ⟨w.heap.size,0,none⟩) es.length es:=by
 have hh:(w.alloc (.cells (E6.ecells es).toArray 35)).heap[w.heap.size]?=some (.cells (E6.ecells es).toArray 35 (0,0)):=heap_new _ _
 refine ⟨rfl,.inr ⟨w.heap.size,0,rfl,fun i e he=>?_⟩⟩
 have hc:∀ t (ht:t < 5),(w.alloc (.cells (E6.ecells es).toArray 35)).cell? ⟨w.heap.size,0+i * 5+t,none⟩=(E6.ecell e)[t]?:=by
  intro t ht
  rw [cell_of_row _ _ _ _ 35 (0,0) hh,Nat.zero_add]
  rw [List.getElem?_toArray]
  exact ecs_get he ht
 obtain ⟨h1,h2⟩:=hs e (List.mem_of_getElem? he)
 refine ⟨hc 0 (by omega),hc 1 (by omega),hc 2 (by omega),hc 3 (by omega),hc 4 (by omega),?_⟩
 show E6.SRow _ e.sa e.ls.length e.ls
 rw [h2]
 exact ⟨rfl,.inl rfl⟩
theorem trow_lit {α:Type} (y:Lay α) (w:World) (L:List α) (ty:TypeId):TRow y (w.alloc (.cells (y.fl L).toArray ty)) (some ⟨w.heap.size,0,none⟩) L.length L:=by
 refine ⟨rfl,.inr ⟨w.heap.size,0,rfl,fun i x hx t u hu=>?_⟩⟩
 have ht:t < y.z:=by rw [← y.len x];exact (List.getElem?_eq_some_iff.1 hu).1
 rw [Nat.zero_add]
 refine cell_at (heap_new _ _) ?_
 rw [List.getElem?_toArray,y.fl_get hx ht]
 exact hu
theorem own_ln {α:Type} {y:Lay α} {e:TypeId} {w:World} {base n c:Nat} {a:Option Addr} {L:List α} (h:Own y e w base (.slice a n c) L):L.length=n∧n≤c:=by
 rcases h.2 with ⟨e1,h1⟩|⟨g,cap,cur,e1,_,_,h1,_⟩
 ·cases e1;exact ⟨h1,Nat.le_refl _⟩
 ·cases e1;exact ⟨rfl,h1⟩
theorem flt_14:flt es5.length [1,4]=0:=by kernel_rfl
theorem flt_12:flt es5.length [1,2]=0:=by kernel_rfl
theorem befV_14:befV es5 1 4=true:=by unfold befV;rw [if_pos flt_14];exact bef_14
theorem befV_12:befV es5 1 2=false:=by unfold befV;rw [if_pos flt_12];exact bef_12
end Go.Proofs.YtimgkhdgliojgaaGreatDoor
namespace Go.Proofs.YtimgkhdgliojgaaGreatDoor
open Go.RowKit Go.Maps
def TX (es:List E6.Ev) (Z:Nat→Prop) (w0 w:World) (rb cb fb:Nat) (M:CS) (i:Nat):Prop :=
 ∃ L B F gm om fg fo,w.heap[rb]?=some (.cells #[.pointer (some ⟨cb,0,none⟩),.pointer (some ⟨fb,0,none⟩)] 66 (0,0))∧Ck w cb B F M (M.taken+1)∧FM (plE es) L w fb gm om (i+1) i (rsAt es i).F fg fo∧(∀ k l,F k=some l→L k=some (.vw 90000))∧L rb=some (.vw 90001)∧(∀ k,Z k→L k=some (.vw 90002))∧(∀ k l,L k=some l→w0.heap.size≤k)∧M.inv∧Below w0.heap.size w0 w
section
variable {es : List E6.Ev} {Z : Nat → Prop} {w0 w w' : World} {rb cb fb i : Nat} {M : CS} {e : E6.Ev}
theorem TX.bel (h:TX es Z w0 w rb cb fb M i):Below w0.heap.size w0 w:=by
 obtain ⟨_,_,_,_,_,_,_,_,_,_,_,_,_,_,_,h⟩:=h
 exact h
theorem TX.inv (h:TX es Z w0 w rb cb fb M i):M.inv:=by
 obtain ⟨_,_,_,_,_,_,_,_,_,_,_,_,_,_,h,_⟩:=h
 exact h
theorem TX.blk (h:TX es Z w0 w rb cb fb M i):w.heap[rb]?=some (.cells #[.pointer (some ⟨cb,0,none⟩),.pointer (some ⟨fb,0,none⟩)] 66 (0,0)):=by
 obtain ⟨_,_,_,_,_,_,_,h,_⟩:=h
 exact h
theorem TX.on (h:TX es Z w0 w rb cb fb M i) (hb:Below w.heap.size w w'):TX es Z w0 w' rb cb fb M i:=by
 obtain ⟨L,B,F,gm,om,fg,fo,a,b,c,d,f,g,k,l,m⟩:=h
 exact ⟨L,B,F,gm,om,fg,fo,(hb.block _ (lt_heap a)).trans a,b.below hb,c.below (fun _ _ _ e _=>e) hb,d,f,g,k,l,bw_call m hb⟩
theorem TX.free (h:TX es Z w0 w rb cb fb M i):TX es (fun _=>False) w0 w rb cb fb M i:=by
 obtain ⟨L,B,F,gm,om,fg,fo,a,b,c,d,f,g,k,l,m⟩:=h
 exact ⟨L,B,F,gm,om,fg,fo,a,b,c,d,f,fun _ e=>e.elim,k,l,m⟩
theorem TX.box (h:TX es (fun _=>False) w0 w rb cb fb M i) (o:Obj):TX es (fun k=>k=w.heap.size) w0 (w.alloc o) rb cb fb M i:=by
 obtain ⟨L,B,F,gm,om,fg,fo,a,b,c,d,f,g,k,l,m⟩:=h
 have hb:Below w.heap.size w (w.alloc o):=below_alloc1 w _
 have hrb:=lt_heap a
 have hlt:=c.lt
 have hms:=m.size
 refine ⟨fun q=>if q=w.heap.size then some (.vw 90002) else L q,B,F,gm,om,fg,fo,(hb.block _ (lt_heap a)).trans a,b.below hb,c.ord (S:=fun _=>False) (But.of_below hb) (fun _ e=>e.elim) (fun q hq=>if_neg (by omega)) (fun q l9 hq=>?_),fun q l9 hq=>?_,?_,fun q hq=>if_pos hq,fun q l9 hq=>?_,l,bw_call m hb⟩
 ·rw [sz_alloc]
  have hq:(if q=w.heap.size then some (Lf.vw 90002) else L q)=some l9:=hq
  split at hq
  ·omega
  ·have:=hlt q l9 hq;omega
 ·have:=b.lt q l9 hq
  show (if _ then _ else _)=_
  rw [if_neg (by omega)];exact d q l9 hq
 ·show (if _ then _ else _)=_
  rw [if_neg (by omega)];exact f
 ·have hq:(if q=w.heap.size then some (Lf.vw 90002) else L q)=some l9:=hq
  split at hq
  ·omega
  ·exact k q l9 hq
theorem TX.ck (h:TX es Z w0 w rb cb fb M i):∃ B F,Ck w cb B F M (M.taken+1)∧∀ M' w',CkR w cb F M' (M'.taken+1) w'→M'.inv→TX es Z w0 w' rb cb fb M' i∧∀ k,Z k→w'.heap[k]?=w.heap[k]?:=by
 obtain ⟨L,B,F,gm,om,fg,fo,a,b,c,d,f,g,k,l,m⟩:=h
 refine ⟨B,F,b,fun M' w' hr hi=>?_⟩
 obtain ⟨B',F',b',hF,hb⟩:=hr
 have hrb:=lt_heap a
 have hms:=m.size
 have nrb:F rb=none:=by
  cases hq:F rb with
  | none=>rfl
  | some l9=>have:=d _ _ hq;rw [f] at this;cases this
 have nz:∀ q,Z q→F q=none:=fun q hz=>by
  cases hq:F q with
  | none=>rfl
  | some l9=>have:=d _ _ hq;rw [g q hz] at this;cases this
 have zl:∀ q,Z q→q < w.heap.size:=fun q hz=>c.lt _ _ (g q hz)
 have hx:LEx L (fun q=>if (F' q).isSome then some (.vw 90000) else L q) w:=fun q hq=>by
  show (if _ then _ else _)=_
  rw [hF q hq]
  cases hq9:F q with
  | none=>exact if_neg (fun e9=>(by cases e9))
  | some l9=>rw [d _ _ hq9];exact if_pos rfl
 refine ⟨⟨fun q=>if (F' q).isSome then some (.vw 90000) else L q,B',F',gm,om,fg,fo,(hb.block _ hrb (fun e9=>e9 nrb)).trans a,b',c.ord hb (fun q hq _=>?_) hx (fun q l9 hq=>?_),fun q l9 hq=>?_,?_,fun q hq=>?_,fun q l9 hq=>?_,hi,?_⟩,fun q hz=>hb.block q (zl q hz) (fun e9=>e9 (nz q hz))⟩
 ·cases hq9:F q with
  | none=>exact absurd hq9 hq
  | some l9=>exact ⟨90000,by omega,d _ _ hq9⟩
 ·have hq:(if (F' q).isSome then some (Lf.vw 90000) else L q)=some l9:=hq
  split at hq
  ·rename_i h9
   obtain ⟨l8,h8⟩:=Option.isSome_iff_exists.1 h9
   exact b'.lt q l8 h8
  ·have:=c.lt q l9 hq
   have:=hb.size
   omega
 ·show (if _ then _ else _)=_
  rw [hq];exact if_pos rfl
 ·rw [hx rb hrb];exact f
 ·rw [hx q (zl q hq)];exact g q hq
 ·have hq:(if (F' q).isSome then some (Lf.vw 90000) else L q)=some l9:=hq
  by_cases h9:q < w.heap.size
  ·have h8:=hx q h9
   have h7:(if (F' q).isSome then some (Lf.vw 90000) else L q)=L q:=h8
   rw [h7] at hq
   exact k q l9 hq
  ·omega
 ·exact m.trans (hb.below m.size (fun q hq=>by
   cases hq9:F q with
   | none=>exact absurd hq9 hq
   | some l9=>exact k _ _ (d _ _ hq9)))
theorem TX.fl (h:TX es Z w0 w rb cb fb M i):∃ L gm om fg fo,FM (plE es) L w fb gm om (i+1) i (rsAt es i).F fg fo∧∀ w' L' fg' fo',FM (plE es) L' w' fb gm om (i+2) (i+1) (rsAt es (i+1)).F fg' fo'→LEx L L' w→But (Fl9 L) w w'→TX es Z w0 w' rb cb fb M (i+1)∧∀ k,Z k→w'.heap[k]?=w.heap[k]?:=by
 obtain ⟨L,B,F,gm,om,fg,fo,a,b,c,d,f,g,k,l,m⟩:=h
 refine ⟨L,gm,om,fg,fo,c,fun w' L' fg' fo' c' hx hb=>?_⟩
 have hrb:=lt_heap a
 have hms:=m.size
 have n9:∀ q n,L q=some (.vw n)→65536≤n→¬ Fl9 L q:=fun q n hq hn e9=>by
  obtain ⟨l9,h1,h2⟩:=e9
  rw [hq] at h1
  cases h1
  have h2:n < 65536:=h2
  omega
 have zl:∀ q,Z q→q < w.heap.size:=fun q hz=>c.lt _ _ (g q hz)
 have b9:Ck w' cb B F M (M.taken+1):=b.but hb (fun q _ hs l9 hl=>n9 q 90000 (d _ _ hl) (by omega) hs) (FEx.refl _ _) (fun q l9 hq=>Nat.lt_of_lt_of_le (b.lt q l9 hq) hb.size)
 refine ⟨⟨L',B,F,gm,om,fg',fo',(hb.block _ hrb (n9 rb 90001 f (by omega))).trans a,b9,c',fun q l9 hq=>?_,?_,fun q hq=>?_,fun q l9 hq=>?_,l,?_⟩,fun q hz=>hb.block q (zl q hz) (n9 q 90002 (g q hz) (by omega))⟩
 ·rw [hx q (b.lt q l9 hq)];exact d q l9 hq
 ·rw [hx rb hrb];exact f
 ·rw [hx q (zl q hq)];exact g q hq
 ·by_cases h9:q < w.heap.size
  ·rw [hx q h9] at hq;exact k q l9 hq
  ·omega
 ·exact m.trans (hb.below m.size (fun q hq=>by
   obtain ⟨l9,h1,_⟩:=hq
   exact k _ _ h1))
theorem rs_inv (h:IsRun es):∀ i,i≤es.length→(rsAt es i).M.inv∧(rsAt es i).M.taken=i
 | 0,_=>⟨new_inv,rfl⟩
 | i+1,hi=>by
  obtain ⟨h1,h2⟩:=rs_inv h i (by omega)
  have hlen:=h.len
  obtain ⟨e,he⟩:∃ e,es[i]?=some e:=⟨es[i]'(by omega),List.getElem?_eq_getElem (by omega)⟩
  have hm:=List.mem_of_getElem? he
  obtain ⟨hw,_⟩:=(rs_rcf h.run h.gdf i (by omega)).2 e he
  have hok:=h.ok e hm
  have h3:((rsAt es i).M.addS e.chk (me e)).inv:=addS_inv h1 (fun hc=>chk_eb hc hok.ho.1 hok.ho.2 hok.ha.1 hok.ha.2)
  rw [h.chk e hm,(add_why (by omega) (me e)).2.2,if_neg (fun q=>q hw)] at h3
  rw [rsAt_succ he]
  exact ⟨h3,by show ((rsAt es i).M.next (me e)).taken=i+1;rw [next_taken hw,h2]⟩
end
end Go.Proofs.YtimgkhdgliojgaaGreatDoor
