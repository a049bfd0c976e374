import Derived.Test.YtimgkhdgliojgaaGreatDoorOg45
import Derived.Test.YtimgkhdgliojgaaGreatDoorOg05
set_option maxRecDepth 8000
set_option maxHeartbeats 8000000
set_option linter.unusedVariables false
namespace Go.Proofs.YtimgkhdgliojgaaGreatDoor
open Go.RowKit Go.Maps
section
variable {w : World} {es : List E6.Ev}
theorem build_err (ad:Option Addr) (n c:Nat) (hK:E6.Kr w) (hr:E6.ERow w ad n es) (hok:∀ e ∈ es,e.ok) (hn:(n:Int)≤9223372036854775806) {p r f:Int} (hV:runV es=(p,r,f)) (hf:f≠0) :
  Calls Tryz.prog 17 #[.slice ad n c] w fun x w'=>x=.returned (.tuple #[.pointer none,.int .i64 p,.int .i64 f])∧Below w.heap.size w w':=by
 have HR:Hid (Calls Tryz.prog 39 #[.slice ad n c] w fun x w'=>x=.returned (.tuple #[.int .i64 p,.int .i64 r,.int .i64 f])∧Below w.heap.size w w'):=hide (by have h9:=Run_any ad n c es w hK hr hok hn;rw [hV] at h9;exact h9)
 have bf:(f != 0)=true:=by simp [hf]
 clear hf hV hK hr hok
 go_enter Tryz.func17,Tryz.ntmps17
 go_wp2_with fail
 refine HR.out.mono ?_
 rintro e1 w1 ⟨rfl,hb1⟩
 have HB1:=hide hb1
 clear hb1 HR
 go_wp2
 go_ret3
 exact ⟨rfl,HB1.out⟩
theorem build_bad (ad:Option Addr) (n c:Nat) (hK:E6.Kr w) (hr:E6.ERow w ad n es) (hok:∀ e ∈ es,e.ok) (hn:(n:Int)≤9223372036854775806) {p r:Int} (hV:runV es=(p,r,0)) (hf:r≠0) :
  Calls Tryz.prog 17 #[.slice ad n c] w fun x w'=>x=.returned (.tuple #[.pointer none,.int .i64 p,.int .i64 160])∧Below w.heap.size w w':=by
 have HR:Hid (Calls Tryz.prog 39 #[.slice ad n c] w fun x w'=>x=.returned (.tuple #[.int .i64 p,.int .i64 r,.int .i64 0])∧Below w.heap.size w w'):=hide (by have h9:=Run_any ad n c es w hK hr hok hn;rw [hV] at h9;exact h9)
 have bf:(r != 0)=true:=by simp [hf]
 clear hf hV hK hr hok
 go_enter Tryz.func17,Tryz.ntmps17
 go_wp2_with fail
 refine HR.out.mono ?_
 rintro e1 w1 ⟨rfl,hb1⟩
 have HB1:=hide hb1
 clear hb1 HR
 go_wp2
 go_ret3
 exact ⟨rfl,HB1.out⟩
theorem run_fst:∀ (es:List E6.Ev) (M:CS) (i:Nat),(M.run es i).2=0→(M.run es i).1=-1
 | [],M,i,_=>rfl
 | e :: es,M,i,h=>by
  rw [CS.run] at h ⊢
  by_cases hw:M.why (me e)≠0
  ·rw [if_pos hw] at h;exact absurd h hw
  ·rw [if_neg hw] at h ⊢;exact run_fst es _ _ h
theorem run_or (hok:∀ e ∈ es,e.ok):(IsRun es∧runV es=(-1,0,0))∨(∃ p r f,runV es=(p,r,f)∧f≠0)∨∃ p r,runV es=(p,r,0)∧r≠0:=by
 by_cases hb:(E6.bounds es).2=0
 ·obtain ⟨h1,h2⟩:=bounds_zero hb
  have hv:runV es=((CS.new.run es 0).1,(CS.new.run es 0).2,0):=by unfold runV;rw [if_neg (fun e=>e hb)]
  by_cases hr:(CS.new.run es 0).2=0
  ·refine .inl ⟨⟨h1,h2,hok,hr⟩,?_⟩
   rw [hv,hr,run_fst es _ _ hr]
  ·exact .inr (.inr ⟨_,_,hv,hr⟩)
 ·refine .inr (.inl ⟨(E6.bounds es).1,0,(E6.bounds es).2,?_,hb⟩)
  unfold runV
  rw [if_pos hb]
def OA (es:List E6.Ev) (w:World) (ob:Nat):Prop:=∃ L eb pm N V fp,Llt L w∧OM (plE es) L w ob eb pm es.length N V (rsAt es es.length).H fp
theorem OA.on {ob:Nat} {w':World} (h:OA es w ob) (hb:Below w.heap.size w w'):OA es w' ob:=by
 obtain ⟨L,eb,pm,N,V,fp,a,b⟩:=h
 exact ⟨L,eb,pm,N,V,fp,a.on hb.size,b.below a hb⟩
theorem OB.oa {ob:Nat} {w':World} (h:OB es w w' ob):OA es w' ob∧Below w.heap.size w w':=by
 obtain ⟨w1,eb,pm,fb,gm,om,h1,L,fg,fo,V,fp,a,b,c,_⟩:=h
 exact ⟨⟨L,eb,pm,_,V,fp,a.lt,b⟩,bw_call h1 c⟩
end
end Go.Proofs.YtimgkhdgliojgaaGreatDoor
namespace Go.Proofs.YtimgkhdgliojgaaGreatDoor
open Go.RowKit Go.Maps
open Classical in
noncomputable def befB (H:List Vw) (i j:Nat):Bool:=decide (bef H i j)
theorem befB_eq {H:List Vw} (hH:Hs H) {i j:Nat} {u v:Vw} (hi:H[i]?=some u) (hj:H[j]?=some v) (hne:i≠j):knows v.kn v.g v.tm u.g u.tm=befB H i j:=by
 rw [knows_clk hH (List.mem_of_getElem? hj) _ _ (hH.one u (List.mem_of_getElem? hi))]
 unfold befB
 have e:(u.tm≤v.clk u.g) ↔ bef H i j:=⟨fun h=>⟨hne,u,v,hi,hj,h⟩,fun h=>by
  obtain ⟨_,u',v',a,b,c⟩:=h
  rw [hi] at a
  rw [hj] at b
  cases a
  cases b
  exact c⟩
 by_cases h:u.tm≤v.clk u.g
 ·rw [decide_eq_true h];exact (@decide_eq_true _ (Classical.propDecidable _) (e.1 h)).symm
 ·rw [decide_eq_false h];exact (@decide_eq_false _ (Classical.propDecidable _) (fun q=>h (e.2 q))).symm
theorem befB_self {H:List Vw} (i:Nat):befB H i i=false:=by
 unfold befB
 exact @decide_eq_false _ (Classical.propDecidable _) (fun h=>h.1 rfl)
section
variable {w : World} {es : List E6.Ev} {ob : Nat}
def vws (es:List E6.Ev):List Vw:=(rsAt es es.length).H
theorem vws_len:(vws es).length=es.length:=(rs_pre es.length es.length (Nat.le_refl _) (Nat.le_refl _)).2
theorem IsRun.hs (h:IsRun es):Hs (vws es):=(rs_rcf h.run h.gdf es.length (Nat.le_refl _)).1.all.fi.hs
theorem IsRun.gb (h:IsRun es):∀ v ∈ vws es,v.g < 65536:=(rs_rcf h.run h.gdf es.length (Nat.le_refl _)).1.more.hb
theorem OA.cells (h:OA es w ob):∃ eb Z,w.cell? ⟨ob,0,none⟩=some (.slice (some ⟨eb,0,none⟩) es.length es.length)∧∀ (i:Nat) v,(vws es)[i]?=some v→∃ p,w.cell? ⟨eb,i * 4,none⟩=some (.pointer p)∧w.cell? ⟨eb,i * 4+1,none⟩=some (.int .i32 v.tm)∧w.cell? ⟨eb,i * 4+2,none⟩=some (.int .i32 v.pl)∧w.cell? ⟨eb,i * 4+3,none⟩=some (.int .u16 (v.g:Int))∧TP Z w (.pointer p) v.kn:=by
 obtain ⟨L,eb,pm,N,V,fp,a,b⟩:=h
 refine ⟨eb,TW L w,cell_at b.hb rfl,fun i v hi=>?_⟩
 obtain ⟨p,h1,h2⟩:=b.vw i v hi
 exact ⟨p,b.ev.cell h1 0 rfl,b.ev.cell h1 1 rfl,b.ev.cell h1 2 rfl,b.ev.cell h1 3 rfl,TQ.tp h2⟩
theorem Len_any (h:OA es w ob):Calls Tryz.prog 18 #[.pointer (some ⟨ob,0,none⟩)] w fun x w'=>x=.returned (.int .i64 (es.length:Int))∧w'=w:=by
 obtain ⟨eb,Z,o0,_⟩:=h.cells
 have ol:=World.block_lt_of_cell? w _ o0
 go_enter Tryz.func18,Tryz.ntmps18
 go_wp2
 go_ret
 exact ⟨rfl,rfl⟩
theorem before_same {i:Int} {o:Option Addr}:Calls Tryz.prog 41 #[.pointer o,.int .i64 i,.int .i64 i] w fun x w'=>x=.returned (.bool false)∧∃ m,w'=w.drewN m:=by
 have hne:(i != i)=false:=by simp
 go_enter Tryz.func41,Tryz.ntmps41
 go_wp2_with fail
 go_quiet (fail)
 go_wp2
 go_ret
 exact ⟨rfl,_,rfl⟩
theorem before_ne (hR:IsRun es) (h:OA es w ob) {i j:Nat} (hi:i < es.length) (hj:j < es.length) (hne:i≠j):Calls Tryz.prog 41 #[.pointer (some ⟨ob,0,none⟩),.int .i64 (i:Int),.int .i64 (j:Int)] w fun x w'=>x=.returned (.bool (befB (vws es) i j))∧Below w.heap.size w w':=by
 obtain ⟨eb,Z,o0,hc⟩:=h.cells
 have hl:=vws_len (es:=es)
 obtain ⟨u,hu⟩:∃ u,(vws es)[i]?=some u:=⟨(vws es)[i]'(by omega),List.getElem?_eq_getElem _⟩
 obtain ⟨v,hv9⟩:∃ v,(vws es)[j]?=some v:=⟨(vws es)[j]'(by omega),List.getElem?_eq_getElem _⟩
 obtain ⟨pu,a0,a1,a2,a3,_⟩:=hc i u hu
 obtain ⟨pv,b0,b1,b2,b3,hT⟩:=hc j v hv9
 have hug:=hR.gb u (List.mem_of_getElem? hu)
 have HKn:Hid (Calls Tryz.prog 65 #[.agg #[.pointer pv,.int .i32 v.tm,.int .i32 v.pl,.int .u16 (v.g:Int)],.int .u16 (u.g:Int),.int .i32 u.tm] w.drew fun e w'=>e=.returned (.bool (befB (vws es) i j))∧Below w.drew.heap.size w.drew w'):=hide (by
  have h9:=knows_any (g:=v.g) (tm:=v.tm) (l:=v.pl) (t:=u.tm) (hT.bel (Below.refl w.heap.size w).drew) hug
  rw [befB_eq hR.hs hu hv9 hne] at h9
  exact h9)
 have ol:=World.block_lt_of_cell? w _ o0
 have el:eb < w.heap.size:=World.block_lt_of_cell? w _ a0
 have hnb:((i:Int) != (j:Int))=true:=by simp;omega
 have i0:(0:Int)≤(i:Int):=by omega
 have j0:(0:Int)≤(j:Int):=by omega
 have i1:(i:Int) < (es.length:Int):=by omega
 have j1:(j:Int) < (es.length:Int):=by omega
 generalize es.length=n at o0 i1 j1
 have HSx:Hid (∀ X,Below w.heap.size w X→X.cell? ⟨ob,0,none⟩=some (.slice (some ⟨eb,0,none⟩) n n)∧X.cell? ⟨eb,j * 4,none⟩=some (.pointer pv)∧X.cell? ⟨eb,j * 4+1,none⟩=some (.int .i32 v.tm)∧X.cell? ⟨eb,j * 4+2,none⟩=some (.int .i32 v.pl)∧X.cell? ⟨eb,j * 4+3,none⟩=some (.int .u16 (v.g:Int))∧X.cell? ⟨eb,i * 4+1,none⟩=some (.int .i32 u.tm)∧X.cell? ⟨eb,i * 4+3,none⟩=some (.int .u16 (u.g:Int))):=hide (fun X hX=>⟨(hX.cell ol).trans o0,(hX.cell el).trans b0,(hX.cell el).trans b1,(hX.cell el).trans b2,(hX.cell el).trans b3,(hX.cell el).trans a1,(hX.cell el).trans a3⟩)
 have H0:=hide (Below.refl w.heap.size w)
 have H1:=hide ((Below.refl w.heap.size w).drew)
 clear hc h hu hv9 hT hug hi hj hl hne hR
 generalize befB (vws es) i j=B at HKn ⊢
 go_enter Tryz.func41,Tryz.ntmps41
 go_wp2_with fail
 go_region_held3 (fun X=>X.cell? ⟨ob,0,none⟩=some (.slice (some ⟨eb,0,none⟩) n n)∧X.cell? ⟨eb,j * 4,none⟩=some (.pointer pv)∧X.cell? ⟨eb,j * 4+1,none⟩=some (.int .i32 v.tm)∧X.cell? ⟨eb,j * 4+2,none⟩=some (.int .i32 v.pl)∧X.cell? ⟨eb,j * 4+3,none⟩=some (.int .u16 (v.g:Int))∧X.cell? ⟨eb,i * 4+1,none⟩=some (.int .i32 u.tm)∧X.cell? ⟨eb,i * 4+3,none⟩=some (.int .u16 (u.g:Int)))
  (first|with_reducible exact HSx.out _ H0.out|with_reducible exact HSx.out _ H1.out|with_reducible exact HSx.out _ H2.out)
  (first
   | (go_at_call 65;go_must (refine HKn.out.mono ?_;rintro e8 w8 ⟨rfl,hb8⟩;have H2:Hid (Below w.heap.size w w8):=hide (H1.out.trans hb8);clear hb8)))
 all_goals
  go_wp2
  go_ret
  exact ⟨rfl,H2.out⟩
end
end Go.Proofs.YtimgkhdgliojgaaGreatDoor
namespace Go.Proofs.YtimgkhdgliojgaaGreatDoor
open Go.RowKit Go.Maps
def flt (n:Nat):List Int→Int
 | []=>0
 | x :: xs=>if x < 0∨(n:Int)≤x then 180 else flt n xs
theorem flt_zero {n:Nat}:∀ {xs:List Int},flt n xs=0 ↔ ∀ x ∈ xs,0≤x∧x < n
 | []=>⟨fun _ x hx=>(by cases hx),fun _=>rfl⟩
 | x :: xs=>by
  unfold flt
  by_cases h:x < 0∨(n:Int)≤x
  ·rw [if_pos h]
   refine ⟨fun e=>(by omega),fun e=>?_⟩
   have:=e x (List.mem_cons_self ..)
   omega
  ·rw [if_neg h]
   refine ⟨fun e y hy=>?_,fun e=>flt_zero.2 (fun y hy=>e y (List.mem_cons_of_mem _ hy))⟩
   rcases List.mem_cons.1 hy with rfl|hy
   ·omega
   ·exact flt_zero.1 e y hy
section
variable {w : World} {es : List E6.Ev} {ob b m : Nat} {xs : List Int}
theorem fault_any (h:OA es w ob) (hm:xs.length=m) (hm9:(m:Int)≤1048576) (hc:∀ (k:Nat) x,xs[k]?=some x→w.cell? ⟨b,k,none⟩=some (.int .i64 x)):Calls Tryz.prog 40 #[.pointer (some ⟨ob,0,none⟩),.slice (some ⟨b,0,none⟩) m m] w fun x w'=>x=.returned (.int .i64 (flt es.length xs))∧w'=w:=by
 obtain ⟨eb,Z,o0,_⟩:=h.cells
 have ol:=World.block_lt_of_cell? w _ o0
 obtain ⟨n,hn⟩:∃ n,n=es.length:=⟨_,rfl⟩
 rw [← hn] at o0 ⊢
 obtain ⟨R,hR⟩:∃ R,R=flt n xs:=⟨_,rfl⟩
 rw [← hR]
 have HR:=hide hR
 have HC:=hide hc
 have HM:=hide hm
 clear hR hc hm hn h
 go_enter Tryz.func40,Tryz.ntmps40
 go_wp2
 go_loopw [11] (fun i wr=>∃ (q:Nat),q≤m∧i=.int .i64 q∧wr=w∧R=flt n (xs.drop q)) (fun i _=>m - (intOf i).toNat)
 case atStart=>exact ⟨0,Nat.zero_le _,rfl,rfl,HR.out⟩
 case round =>
  obtain ⟨q,hq,rfl,rfl,hRq⟩:=hrel
  by_cases hlt:q < m
  ·have hqI:(q:Int) < m:=by omega
   obtain ⟨x,hx⟩:∃ x,xs[q]?=some x:=⟨xs[q]'(by rw [HM.out];exact hlt),List.getElem?_eq_getElem _⟩
   have c0:=HC.out q x hx
   have cl:=World.block_lt_of_cell? wr _ c0
   have hd:xs.drop q=x :: xs.drop (q+1):=by
    obtain ⟨h1,h2⟩:=List.getElem?_eq_some_iff.1 hx
    rw [List.drop_eq_getElem_cons h1,h2]
   rw [hd,flt] at hRq
   by_cases h1:x < 0
   ·have HF:Hid (R=180):=hide (by rw [hRq,if_pos (.inl h1)])
    have hb:decide (x < 0)=true:=decide_eq_true h1
    clear hRq hd hx
    go_wp2
    go_ret
    exact ⟨by rw [HF.out];rfl,rfl⟩
   ·have hb:decide (x < 0)=false:=decide_eq_false h1
    by_cases h2:(n:Int)≤x
    ·have HF:Hid (R=180):=hide (by rw [hRq,if_pos (.inr h2)])
     have hb2:decide ((n:Int)≤x)=true:=decide_eq_true h2
     clear hRq hd hx
     go_wp2
     go_ret
     exact ⟨by rw [HF.out];rfl,rfl⟩
    ·have HF:Hid (R=flt n (xs.drop (q+1))):=hide (by rw [hRq,if_neg (fun e=>e.elim h1 h2)])
     have hb2:decide ((n:Int)≤x)=false:=decide_eq_false h2
     clear hRq hd hx
     go_wp2
     exact ⟨⟨q+1,by omega,by go_num,trivial,HF.out⟩,by simp [intOf];omega⟩
  ·have HF:Hid (R=0):=hide (by rw [hRq,List.drop_eq_nil_of_le (by rw [HM.out];omega)];rfl)
   have hqI:¬ (q:Int) < m:=by omega
   clear hRq
   go_wp2
   go_ret
   exact ⟨by rw [HF.out];rfl,rfl⟩
noncomputable def befV (es:List E6.Ev) (i j:Int):Bool:=if flt es.length [i,j]=0 then befB (vws es) i.toNat j.toNat else false
theorem Before_any (hR:IsRun es) (h:OA es w ob) (i j:Int):Calls Tryz.prog 19 #[.pointer (some ⟨ob,0,none⟩),.int .i64 i,.int .i64 j] w fun x w'=>x=.returned (.tuple #[.bool (befV es i j),.int .i64 (flt es.length [i,j])])∧Below w.heap.size w w':=by
 obtain ⟨W,hW⟩:∃ W,W=w.alloc (.cells #[.int .i64 i,.int .i64 j] 3):=⟨_,rfl⟩
 have hb:Below w.heap.size w W:=by rw [hW];exact below_alloc1 w _
 have hE:W.heap[w.heap.size]?=some (.cells #[.int .i64 i,.int .i64 j] 3 (0,0)):=by rw [hW];exact heap_new _ _
 have hO:=h.on hb
 have HFl:=hide (fault_any (xs:=[i,j]) (b:=w.heap.size) (m:=2) hO rfl (by omega) (fun k x hk=>by
  match k,hk with
  | 0,hk=>simp at hk;subst hk;exact cell_at hE rfl
  | 1,hk=>simp at hk;subst hk;exact cell_at hE rfl))
 have HB:=hide hb
 have HW:=hide hW
 clear hW hb hE h
 by_cases hf:flt es.length [i,j]=0
 ·have hin:=flt_zero.1 hf
  have h1:=hin i (List.mem_cons_self ..)
  have h2:=hin j (List.mem_cons_of_mem _ (List.mem_cons_self ..))
  have HV:Hid (befV es i j=befB (vws es) i.toNat j.toNat):=hide (by unfold befV;rw [if_pos hf])
  rw [HV.out,hf]
  rw [hf] at HFl
  have HBf:Hid (Calls Tryz.prog 41 #[.pointer (some ⟨ob,0,none⟩),.int .i64 i,.int .i64 j] W fun x w'=>x=.returned (.bool (befB (vws es) i.toNat j.toNat))∧Below W.heap.size W w'):=hide (by
   by_cases e9:i=j
   ·subst e9
    refine before_same.mono ?_
    rintro x w' ⟨rfl,k,rfl⟩
    exact ⟨by rw [befB_self],below_drewN (Below.refl _ _) k⟩
   ·have h9:=before_ne hR hO (i:=i.toNat) (j:=j.toNat) (by omega) (by omega) (by omega)
    rw [show ((i.toNat:Nat):Int)=i by omega,show ((j.toNat:Nat):Int)=j by omega] at h9
    exact h9)
  generalize befB (vws es) i.toNat j.toNat=B at HBf ⊢
  clear hf hin h1 h2 HV hO hR
  go_enter Tryz.func19,Tryz.ntmps19
  go_wp2_with fail
  rw [← HW.out]
  refine HFl.out.mono ?_
  rintro e1 w1 ⟨rfl,hw1⟩
  obtain rfl:W=w1:=hw1.symm
  clear hw1 HFl HW
  go_wp2_with fail
  refine HBf.out.mono ?_
  rintro e2 w2 ⟨rfl,hb2⟩
  have H2:=hide (bw_call HB.out hb2)
  clear hb2 HBf
  go_wp2
  go_ret2
  exact ⟨rfl,H2.out⟩
 ·have HV:Hid (befV es i j=false):=hide (by unfold befV;rw [if_neg hf])
  rw [HV.out]
  obtain ⟨f,hf9⟩:∃ f,f=flt es.length [i,j]:=⟨_,rfl⟩
  rw [← hf9] at HFl hf ⊢
  have bf:(f != 0)=true:=by simp [hf]
  clear hf HV hO hR hf9
  go_enter Tryz.func19,Tryz.ntmps19
  go_wp2_with fail
  rw [← HW.out]
  refine HFl.out.mono ?_
  rintro e1 w1 ⟨rfl,hw1⟩
  obtain rfl:W=w1:=hw1.symm
  clear hw1 HFl HW
  go_wp2
  go_ret2
  exact ⟨rfl,HB.out⟩
end
end Go.Proofs.YtimgkhdgliojgaaGreatDoor
namespace Go.Proofs.YtimgkhdgliojgaaGreatDoor
open Go.RowKit Go.Maps
theorem plH_ge {H:List Vw} (hr:Rise2 (plH H)) (g:Nat):∀ n:Nat,(n:Int)≤plH H g ((n:Int)+1)
 | 0=>by
  unfold plH
  split
  ·exact Int.natCast_nonneg _
  ·omega
 | n+1=>by
  have h1:=plH_ge hr g n
  have h2:=hr g ((n:Int)+1) (((n+1:Nat):Int)+1) (by omega) (by omega)
  omega
section
variable {w : World} {es : List E6.Ev} {ob : Nat}
theorem IsRun.vok (h:IsRun es) {i:Nat} {v:Vw} (hi:(vws es)[i]?=some v):Vok (plE es) v.g v.tm v.pl∧1≤v.tm:=by
 have hR:=(rs_rcf h.run h.gdf es.length (Nat.le_refl _)).1
 have hD:=hR.more
 have hlen:=h.len
 have hl:=vws_len (es:=es)
 have hil:=(List.getElem?_eq_some_iff.1 hi).1
 have hp:=hD.pl i v hi
 have h1:=hR.all.fi.hs.one v (List.mem_of_getElem? hi)
 have hat:=h.at (Nat.le_refl _) hi
 have hb:v.tm≤1048576:=by
  have h9:=plH_ge h.rise v.g (v.tm.toNat - 1)
  rw [show (((v.tm.toNat - 1:Nat):Int)+1)=v.tm by omega] at h9
  have hat2:plH (rsAt es es.length).H v.g v.tm=(i:Int):=hat
  omega
 exact ⟨⟨h.gb v (List.mem_of_getElem? hi),⟨by omega,hb⟩,⟨by omega,by omega⟩,fun _=>by rw [hp];exact hat,fun h9=>absurd h1 h9⟩,h1⟩
theorem OA.cellQ (h:OA es w ob):∃ eb L,w.cell? ⟨ob,0,none⟩=some (.slice (some ⟨eb,0,none⟩) es.length es.length)∧∀ (i:Nat) v,(vws es)[i]?=some v→∃ p,w.cell? ⟨eb,i * 4,none⟩=some (.pointer p)∧w.cell? ⟨eb,i * 4+1,none⟩=some (.int .i32 v.tm)∧w.cell? ⟨eb,i * 4+2,none⟩=some (.int .i32 v.pl)∧w.cell? ⟨eb,i * 4+3,none⟩=some (.int .u16 (v.g:Int))∧TL (plE es) L w (.pointer p) v.kn:=by
 obtain ⟨L,eb,pm,N,V,fp,a,b⟩:=h
 refine ⟨eb,L,cell_at b.hb rfl,fun i v hi=>?_⟩
 obtain ⟨p,h1,h2⟩:=b.vw i v hi
 exact ⟨p,b.ev.cell h1 0 rfl,b.ev.cell h1 1 rfl,b.ev.cell h1 2 rfl,b.ev.cell h1 3 rfl,h2⟩
theorem Clock_in (hR:IsRun es) (h:OA es w ob) {i:Nat} {v:Vw} (hi:(vws es)[i]?=some v):Calls Tryz.prog 20 #[.pointer (some ⟨ob,0,none⟩),.int .i64 (i:Int)] w fun x w'=>∃ lv T,x=.returned (.tuple #[lv,.int .i64 0])∧Tl w w' lv T∧TkOf v.clk T:=by
 have hil:i < es.length:=by rw [← vws_len];exact (List.getElem?_eq_some_iff.1 hi).1
 obtain ⟨W,hW⟩:∃ W,W=w.alloc (.cells #[.int .i64 (i:Int)] 3):=⟨_,rfl⟩
 have hb:Below w.heap.size w W:=by rw [hW];exact below_alloc1 w _
 have hE:W.heap[w.heap.size]?=some (.cells #[.int .i64 (i:Int)] 3 (0,0)):=by rw [hW];exact heap_new _ _
 have hO:=h.on hb
 have hf:flt es.length [(i:Int)]=0:=flt_zero.2 (fun x hx=>by
  have:=List.mem_singleton.1 hx
  omega)
 have HFl:Hid (Calls Tryz.prog 40 #[.pointer (some ⟨ob,0,none⟩),.slice (some ⟨w.heap.size,0,none⟩) 1 1] W fun x w'=>x=.returned (.int .i64 0)∧w'=W):=hide (by
  have h9:=fault_any (xs:=[(i:Int)]) (b:=w.heap.size) (m:=1) hO rfl (by omega) (fun k x hk=>by
   match k,hk with
   | 0,hk=>simp at hk;subst hk;exact cell_at hE rfl)
  rw [hf] at h9
  exact h9)
 obtain ⟨eb,L,o0,hc⟩:=hO.cellQ
 obtain ⟨p,a0,a1,a2,a3,hT⟩:=hc i v hi
 obtain ⟨hk,h1⟩:=hR.vok hi
 have HCl:=hide (clock_any hR.rise hT hk.fg hk.ft hk.fl hk.fp hk.fz)
 have HTk:Hid (∀ X u,Below W.heap.size W X→TQ (plE es) (Nz (TW L W) W X) X u (vclk v.kn v.g v.tm)→Calls Tryz.prog 33 #[u] X fun e w'=>∃ lv T,e=.returned lv∧Tl X w' lv T∧TkOf v.clk T):=hide (fun X u _ hu=>Ticks_any hu)
 have ol:=World.block_lt_of_cell? W _ o0
 have el:eb < W.heap.size:=World.block_lt_of_cell? W _ a0
 have i0:(0:Int)≤(i:Int):=by omega
 have i1:(i:Int) < (es.length:Int):=by omega
 have HB:=hide hb
 have HW:=hide hW
 generalize es.length=n at o0 i1
 clear hc hT hk h1 hi hE hO hf hb hW h hil hR
 go_enter Tryz.func20,Tryz.ntmps20
 go_wp2_with fail
 rw [← HW.out]
 refine HFl.out.mono ?_
 rintro e1 w1 ⟨rfl,hw1⟩
 obtain rfl:W=w1:=hw1.symm
 clear hw1 HFl HW
 go_wp2_with fail
 refine HCl.out.mono ?_
 rintro e2 w2 ⟨v2,rfl,hq2,hb2⟩
 have HC2:=hide (HTk.out w2 v2 hb2 hq2)
 obtain ⟨o2,ho2⟩:=hq2.form
 subst ho2
 have HB2:=hide (bw_call HB.out hb2)
 clear hq2 hb2 HCl HTk
 go_wp2_with fail
 refine HC2.out.mono ?_
 rintro e3 w3 ⟨lv,T,rfl,hT3,hk3⟩
 have HF:Hid (Tl w w3 lv T∧TkOf v.clk T):=hide ⟨⟨hT3.own.mono HB2.out.size,bw_call HB2.out hT3.bel⟩,hk3⟩
 obtain ⟨la,ln,lc,rfl⟩:=hT3.frm
 clear hT3 hk3 HC2
 go_wp2
 go_ret2
 exact ⟨_,T,rfl,HF.out⟩
end
end Go.Proofs.YtimgkhdgliojgaaGreatDoor
namespace Go.Proofs.YtimgkhdgliojgaaGreatDoor
open Go.RowKit
structure Rvi (L M:List Int) (i:Nat):Prop where
 len:M.length=L.length
 out:∀ q,q < L.length→(q < i∨L.length≤q+i)→M[q]?=L[L.length - 1 - q]?
 mid:∀ q,i≤q→q+i < L.length→M[q]?=L[q]?
theorem Rvi.zero (L:List Int):Rvi L L 0:=⟨rfl,fun q h1 h2=>by omega,fun _ _ _=>rfl⟩
theorem Rvi.done {L M:List Int} {i:Nat} (h:Rvi L M i) (hi:L.length≤i+i+1):M=L.reverse:=by
 apply List.ext_getElem?
 intro q
 by_cases hq:q < L.length
 ·rw [List.getElem?_reverse hq]
  by_cases h1:q < i∨L.length≤q+i
  ·exact h.out q hq h1
  ·rw [h.mid q (by omega) (by omega)]
   congr 1;omega
 ·rw [List.getElem?_eq_none (by rw [h.len];omega),List.getElem?_eq_none (by rw [List.length_reverse];omega)]
theorem Rvi.step {L M:List Int} {i j:Nat} {a b:Int} (h:Rvi L M i) (hj:i+j+1=L.length) (hij:i < j) (ha:M[i]?=some a) (hb:M[j]?=some b):Rvi L ((M.set i b).set j a) (i+1):=by
 have hl:=h.len
 refine ⟨by rw [List.length_set,List.length_set,hl],fun q hq hc=>?_,fun q h1 h2=>?_⟩
 ·by_cases e1:q=j
  ·subst e1
   rw [List.getElem?_set_self (by rw [List.length_set];omega),← ha,h.mid i (Nat.le_refl _) (by omega)]
   congr 1;omega
  ·rw [List.getElem?_set_ne (fun e9=>e1 e9.symm)]
   by_cases e2:q=i
   ·subst e2
    rw [List.getElem?_set_self (by omega),← hb,h.mid j (by omega) (by omega)]
    congr 1;omega
   ·rw [List.getElem?_set_ne (fun e9=>e2 e9.symm)]
    exact h.out q hq (by omega)
 ·rw [List.getElem?_set_ne (by omega),List.getElem?_set_ne (by omega)]
  exact h.mid q (by omega) (by omega)
theorem revi_any {w:World} {base a n c:Nat} {es:List Int} (h:Own layI9 3 w base (.slice (some ⟨a,0,none⟩) n c) es) (hnl:es.length=n) (hn:(n:Int)≤1048577) :
  Calls Tryz.prog 48 #[.slice (some ⟨a,0,none⟩) n c] w fun e w'=>e=.returned (.tuple #[])∧Own layI9 3 w' base (.slice (some ⟨a,0,none⟩) n c) es.reverse∧But (fun q=>q=a) w w':=by
 have HH:=hide h
 have HL:=hide hnl
 clear h hnl
 go_enter Tryz.func48,Tryz.ntmps48
 go_wp2_with fail
 go_loopw [2,3] (fun si sj wr=>∃ (i:Nat) (es1:List Int),si=.int .i64 i∧sj=.int .i64 ((n:Int) - 1 - i)∧i≤n∧Own layI9 3 wr base (.slice (some ⟨a,0,none⟩) n c) es1∧Rvi es es1 i∧But (fun q=>q=a) w wr) (fun si _ _=>n - (intOf si).toNat)
 case atStart =>
  exact ⟨0,es,rfl,by simp,Nat.zero_le _,HH.out,Rvi.zero _,But.refl _ _⟩
 case round =>
  obtain ⟨i,es1,rfl,rfl,hi,hE,hR,hB⟩:=hrel
  have HE:=hide hE
  have HR:=hide hR
  have HB:=hide hB
  clear hE hR hB
  have hl1:es1.length=n:=by rw [HR.out.len,HL.out]
  by_cases hlt:i+i+1 < n
  ·obtain ⟨j,hj⟩:∃ j:Nat,i+j+1=n:=⟨n - 1 - i,by omega⟩
   have hjI:(n:Int) - 1 - i=(j:Int):=by omega
   rw [hjI]
   have hij:i < j:=by omega
   have hijI:(i:Int) < j:=by omega
   have hiI:(i:Int) < n:=by omega
   have hjn:(j:Int) < n:=by omega
   obtain ⟨x,hx⟩:∃ e,es1[i]?=some e:=⟨_,List.getElem?_eq_getElem (by omega)⟩
   obtain ⟨y,hy⟩:∃ e,es1[j]?=some e:=⟨_,List.getElem?_eq_getElem (by omega)⟩
   have HX:=hide hx
   have HY:=hide hy
   have HL1:=hide hl1
   have HJ:=hide (And.intro hj hij)
   have x0:=HE.out.cell hx 0 rfl
   have y0:=HE.out.cell hy 0 rfl
   simp only [layI9,Nat.add_zero,Nat.mul_one] at x0 y0
   have z0:=HE.out.frozen i
   have v0:=HE.out.frozen j
   have al:=World.block_lt_of_cell? wr _ x0
   clear hx hy hl1 hj
   go_wp2_with fail
   go_region
   obtain ⟨W2,hW2⟩:∃ W2,W2=(wr.setCell ⟨a,i,none⟩ (.int .i64 y)).setCell ⟨a,j,none⟩ (.int .i64 x):=⟨_,rfl⟩
   have hO2:Own layI9 3 W2 base (.slice (some ⟨a,0,none⟩) n c) ((es1.set i y).set j x):=by
    have k1:=Own.set HE.out HL1.out (i:=i) (by rw [HL1.out];have:=HJ.out;omega) y
    have k2:=Own.set k1 (by rw [List.length_set];exact HL1.out) (i:=j) (by rw [List.length_set,HL1.out];have:=HJ.out;omega) x
    rw [show layI9.z=1 from rfl,Nat.mul_one,Nat.mul_one] at k2
    rw [hW2]
    exact k2
   have hB2:But (fun q=>q=a) wr W2:=by
    rw [hW2]
    exact ((But.refl (fun q=>q=a) wr).setCell ⟨a,i,none⟩ (fun _=>rfl) _).setCell ⟨a,j,none⟩ (fun _=>rfl) _
   rw [← hW2]
   have HE2:=hide hO2
   have HB2:=hide (HB.out.trans hB2 (fun _ _ e9=>e9))
   have HR2:=hide (HR.out.step (by rw [HL.out];exact HJ.out.1) HJ.out.2 HX.out HY.out)
   have hjn2:(n:Int) - 1 - ((i+1:Nat):Int)=(j:Int) - 1:=by have:=HJ.out;omega
   have HJ2:=hide hjn2
   clear hW2 hO2 hB2 x0 y0 z0 v0 hjn2 hjI
   go_wp2
   exact ⟨⟨i+1,_,by go_num,by rw [HJ2.out],by omega,HE2.out.below (Below.refl _ _).drew,HR2.out,HB2.out.drew⟩,by simp [intOf];omega⟩
  ·have hd:¬ (i:Int) < (n:Int) - 1 - i:=by omega
   have hw:decide ((i:Int) < (n:Int) - 1 - i)=false:=decide_eq_false hd
   go_wp2
   go_end0
   have e9:es1=es.reverse:=HR.out.done (by rw [HL.out];omega)
   rw [← e9]
   exact ⟨rfl,HE.out,HB.out⟩
end Go.Proofs.YtimgkhdgliojgaaGreatDoor
