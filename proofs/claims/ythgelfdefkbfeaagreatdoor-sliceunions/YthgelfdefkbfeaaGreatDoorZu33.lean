import Derived.Test.YthgelfdefkbfeaaGreatDoorZu32
set_option maxRecDepth 8000
set_option maxHeartbeats 8000000
set_option linter.unusedVariables false
namespace Go.Proofs.YthgelfdefkbfeaaGreatDoor
open Go.RowKit Go.Maps Go.Shelf
theorem ext_true {n:Nat} {A B:List Bool} (ha:A.length=n) (hb:B.length=n) (h:∀ p:Nat,p < n→(A[p]?=some true ↔ B[p]?=some true)):A=B:=by
 apply List.ext_getElem?
 intro p
 by_cases hp:p < n
 ·have h1:=h p hp
  rcases bool_at (L:=A) (p:=p) (by omega) with e|e
  ·rw [e,h1.1 e]
  ·rcases bool_at (L:=B) (p:=p) (by omega) with e2|e2
   ·rw [h1.2 e2] at e;exact absurd e (by simp)
   ·rw [e,e2]
 ·rw [List.getElem?_eq_none (by omega),List.getElem?_eq_none (by omega)]
def orL (X Y:List Bool):List Bool:=List.zipWith (fun a b=>a || b) X Y
theorem orL_len {n:Nat} {X Y:List Bool} (hx:X.length=n) (hy:Y.length=n):(orL X Y).length=n:=by simp [orL,hx,hy]
theorem orL_get {X Y:List Bool} {p:Nat} {x y:Bool} (hx:X[p]?=some x) (hy:Y[p]?=some y):(orL X Y)[p]?=some (x || y):=by
 unfold orL
 rw [List.getElem?_zipWith,hx,hy]
theorem orL_at {n:Nat} {X Y:List Bool} (hx:X.length=n) (hy:Y.length=n) {p:Nat} (hp:p < n):(orL X Y)[p]?=some true ↔ X[p]?=some true∨Y[p]?=some true:=by
 obtain ⟨x,ex⟩:∃ x,X[p]?=some x:=⟨_,List.getElem?_eq_getElem (by omega)⟩
 obtain ⟨y,ey⟩:∃ y,Y[p]?=some y:=⟨_,List.getElem?_eq_getElem (by omega)⟩
 rw [orL_get ex ey,ex,ey]
 cases x <;> cases y <;> simp
theorem cl_len {es:List E6.Ev} {ks:List Bool}:(cl es ks).length=es.length:=clo_len
theorem cl_at {es:List E6.Ev} {ks:List Bool} {p:Nat} (hp:p < es.length):(cl es ks)[p]?=some true ↔ Rc (nds es) (· ∈ plc ks es.length) p:=clo_at hp
theorem cl_or {es:List E6.Ev} {X Y:List Bool} (hx:X.length=es.length) (hy:Y.length=es.length):cl es (orL X Y)=orL (cl es X) (cl es Y):=by
 refine ext_true (n:=es.length) cl_len (orL_len cl_len cl_len) fun p hp=>?_
 rw [cl_at hp,orL_at cl_len cl_len hp,cl_at hp,cl_at hp,← Rc.union]
 have e:∀ q,q ∈ plc (orL X Y) es.length ↔ q ∈ plc X es.length∨q ∈ plc Y es.length:=fun q=>by
  rw [plc_mem,plc_mem,plc_mem]
  constructor
  ·rintro ⟨a,b⟩
   exact ((orL_at hx hy a).1 b).imp (⟨a,·⟩) (⟨a,·⟩)
  ·rintro (⟨a,b⟩|⟨a,b⟩)
   ·exact ⟨a,(orL_at hx hy a).2 (.inl b)⟩
   ·exact ⟨a,(orL_at hx hy a).2 (.inr b)⟩
 exact ⟨Rc.mono fun q=>(e q).1,Rc.mono fun q=>(e q).2⟩
theorem cl_all {es:List E6.Ev}:cl es (List.replicate es.length true)=List.replicate es.length true:=by
 refine ext_true (n:=es.length) cl_len (by simp) fun p hp=>?_
 have e:(List.replicate es.length true)[p]?=some true:=by rw [List.getElem?_replicate,if_pos hp]
 rw [cl_at hp]
 exact ⟨fun _=>e,fun _=>.base ((plc_mem _ _ _).2 ⟨hp,e⟩)⟩
theorem cl_none {es:List E6.Ev}:cl es (List.replicate es.length false)=List.replicate es.length false:=by
 refine ext_true (n:=es.length) cl_len (by simp) fun p hp=>?_
 have e:(List.replicate es.length false)[p]?=some false:=by rw [List.getElem?_replicate,if_pos hp]
 rw [cl_at hp,e]
 refine ⟨fun h=>(Rc.none (fun q hq=>?_) h).elim,fun h=>absurd h (by simp)⟩
 obtain ⟨a,b⟩:=(plc_mem _ _ _).1 hq
 rw [List.getElem?_replicate,if_pos a] at b
 exact absurd b (by simp)
theorem me_twins:∀ {es fs:List E6.Ev},E6.Twins es fs→fs.map me=es.map me
 | [],[],_=>rfl
 | [],_ :: _,h=>h.elim
 | _ :: _,[],h=>h.elim
 | e :: es,f :: fs,h=>by
  rw [List.map_cons,List.map_cons,me_twins h.2]
  obtain ⟨h1,h2,h3,h4,h5⟩:=h.1
  unfold me
  rw [h1,h2,h3,h4]
theorem twins_len:∀ {es fs:List E6.Ev},E6.Twins es fs→fs.length=es.length
 | [],[],_=>rfl
 | [],_ :: _,h=>h.elim
 | _ :: _,[],h=>h.elim
 | e :: es,f :: fs,h=>by rw [List.length_cons,List.length_cons,twins_len h.2]
theorem cl_twins {es fs:List E6.Ev} (h:E6.Twins es fs) (ks:List Bool):cl fs ks=cl es ks:=by
 unfold cl nds
 rw [me_twins h,twins_len h]
theorem wnU_twins {es fs:List E6.Ev} (h:E6.Twins es fs):wnE fs=wnE es:=by unfold wnE;rw [runV_twins h]
theorem chL_nil (n:Nat):chL n []=List.replicate n false:=by
 apply List.ext_getElem?
 intro p
 unfold chL
 rw [List.getElem?_map,List.getElem?_replicate]
 by_cases hp:p < n
 ·rw [List.getElem?_range hp,if_pos hp];rfl
 ·rw [List.getElem?_eq_none (by simp;omega),if_neg hp];rfl
theorem u_bools (a1 a2:Option Addr) (n c1 c2:Nat) (K:List Bool) (w:World) (h1:TRow sB w a1 n K) (h2:TRow sB w a2 n K) (hn:(n:Int)≤9223372036854775806) :
  Calls Tryz.prog 11 #[.slice a1 n c1,.slice a2 n c2] w fun e w'=>e=.returned (.bool true)∧Below w.heap.size w w':=by
 have H1:=hide h1
 have H2:=hide h2
 have HL:=hide h1.len
 clear h1 h2
 go_enter Tryz.func11,Tryz.ntmps11
 go_wp2
 go_loopw [5] (fun i wr=>∃ j:Nat,j≤n∧i=.int .i64 j∧Hid (∃ m,wr=w.drewN m)) (fun i _=>n - (intOf i).toNat)
 case atStart=>exact ⟨0,Nat.zero_le _,rfl,hide ⟨0,rfl⟩⟩
 case round =>
  obtain ⟨j,hj,rfl,HD⟩:=hrel
  have HB:Hid (Below w.heap.size w wr):=hide (by obtain ⟨m,hm⟩:=HD.out;rw [hm];exact below_drewN (Below.refl _ _) m)
  by_cases hlt:j < n
  ·have hjI:(j:Int) < n:=by omega
   have hj0:(0:Int)≤j:=by omega
   obtain ⟨x,hx⟩:∃ x,K[j]?=some x:=⟨_,List.getElem?_eq_getElem (by rw [HL.out];exact hlt)⟩
   obtain ⟨b1,o1,e1,d1⟩:=sB_cell (H1.out.below HB.out) hx
   obtain ⟨b2,o2,e2,d2⟩:=sB_cell (H2.out.below HB.out) hx
   subst e1
   subst e2
   clear hx
   go_wp2_with fail
   go_quiet (fail)
   go_wp2
   exact ⟨⟨j+1,by omega,by go_num,hide (drew_onS HD.out _)⟩,by simp [intOf];omega⟩
  ·have hjI:¬ (j:Int) < n:=by omega
   go_wp2
   go_ret
   exact ⟨rfl,HB.out⟩
theorem runU_any (a:Option Addr) (n c:Nat) (es:List E6.Ev) (w:World) (hK:E6.Kr w) (hr:E6.ERow w a n es) (hok:∀ e ∈ es,e.ok) (hn:n * 56≤140737488355328) (hc0:a=none→c=0) :
  Calls Tryz.prog 7 #[.slice a n c] w fun r w'=>r=.returned (.bool (decide (wnE es=0)))∧Below w.heap.size w w':=by
 have hsz:=hK.size
 have hnM:(n:Int)≤9223372036854775806:=by omega
 have HTw:=hide (E6.twin_any a n c es w hr hok hn hc0)
 have HR:Hid (∀ (X:World) (fs:List E6.Ev) (ga:Option Addr) (gc:Nat),Below w.heap.size w X→E6.ERow X ga n fs→E6.Twins es fs→(∀ e ∈ fs,e.ok)→Calls Tryz.prog 17 #[.slice ga n gc] X fun r w'=>r=.returned (.tuple #[.int .i64 (runV es).1,.int .i64 (runV es).2.1,.int .i64 (runV es).2.2])∧Below X.heap.size X w'):=hide (fun X fs ga gc hb hg ht ho=>by
  have h:=Run_any ga n gc fs X (hK.below hb (by omega)) hg ho hnM
  rw [runV_twins ht] at h
  exact h)
 have HO:=hide hok
 have HLes:=hide hr.len
 have hpl:=@wn_place es
 obtain ⟨p,hp⟩:∃ p,(runV es).1=p:=⟨_,rfl⟩
 obtain ⟨y,hy⟩:∃ y,(runV es).2.1=y:=⟨_,rfl⟩
 obtain ⟨f,hf⟩:∃ f,(runV es).2.2=f:=⟨_,rfl⟩
 have hE:wnE es=if f≠0 then f else if y≠0 then 160 else 0:=by unfold wnE;rw [hf,hy]
 rw [hp,hy,hf] at HR
 rw [hp] at hpl
 obtain ⟨D,hD⟩:∃ D,decide (wnE es=0)=D:=⟨_,rfl⟩
 rw [hD]
 have HD:Hid ((f == 0)=false∧D=false∨f=0∧(y == 0)=false∧D=false∨f=0∧y=0∧p=-1∧D=true):=hide (by
  by_cases h1:f=0
  ·by_cases h2:y=0
   ·have h3:wnE es=0:=by rw [hE,if_neg (by omega),if_neg (by omega)]
    exact .inr (.inr ⟨h1,h2,hpl h3,by rw [← hD];exact decide_eq_true h3⟩)
   ·exact .inr (.inl ⟨h1,by simp [h2],by rw [← hD,hE,if_neg (by omega),if_pos h2];decide⟩)
  ·exact .inl ⟨by simp [h1],by rw [← hD,hE,if_pos h1];exact decide_eq_false h1⟩)
 clear hK hr hok hp hy hf hE hD hpl hn hc0
 go_enter Tryz.func7,Tryz.ntmps7
 go_wp2_with fail
 refine HTw.out.mono ?_
 rintro r w1 ⟨fs,v,rfl,htw⟩
 obtain ⟨ga,gc,rfl,hgr,hgc⟩:=htw.form
 have HR1:=hide (HR.out w1 fs ga gc htw.bel hgr (htw.twins HLes.out) (htw.ok HO.out))
 have HB1:=hide htw.bel
 clear htw hgr HTw HR
 go_wp2_with fail
 refine HR1.out.mono ?_
 rintro r w2 ⟨rfl,hb2⟩
 have HB2:=hide (Below.on HB1.out hb2)
 clear hb2 HR1 HB1
 rcases HD.out with ⟨b1,rfl⟩|⟨rfl,b1,rfl⟩|⟨rfl,rfl,rfl,rfl⟩
 ·clear HD
  go_wp2
  go_ret
  exact ⟨rfl,HB2.out⟩
 ·clear HD
  obtain ⟨B,hB⟩:∃ B,(p == -1)=B:=⟨_,rfl⟩
  cases B
  ·go_wp2
   go_ret
   exact ⟨rfl,HB2.out⟩
  ·go_wp2
   go_ret
   exact ⟨rfl,HB2.out⟩
 ·clear HD
  go_wp2
  go_ret
  exact ⟨rfl,HB2.out⟩
end Go.Proofs.YthgelfdefkbfeaaGreatDoor
namespace Go.Proofs.YthgelfdefkbfeaaGreatDoor
open Go.RowKit Go.Maps Go.Shelf
def aw0:E6.Ev:=⟨0,7,0,1,none,0,[]⟩
def aw1:E6.Ev:=⟨0,3,5,0,none,0,[]⟩
def aw2:E6.Ev:=⟨1,2,8,4,none,0,[]⟩
def aw3:E6.Ev:=⟨0,4,5,0,none,0,[]⟩
def awE:List E6.Ev:=[aw0,aw1,aw2,aw3]
theorem bnd_plU:∀ (es:List E6.Ev) (i:Nat),(∀ e ∈ es,e.chk=0∧e.ls=[])→E6.bnd es i [] []=(-1,0):=by
 intro es
 induction es with
 | nil=>intro i _;rfl
 | cons e es ih =>
  intro i h
  obtain ⟨h1,h2⟩:=h e (by simp)
  rw [E6.bnd,if_pos h1,h2]
  have hR:E6.Roomy [] ([]:List E6.Nd).length (E6.left [] [] []).2.reverse:=⟨fun t ht=>(by cases ht),by decide,by decide,by decide⟩
  rw [if_pos hR]
  exact ih (i+1) (fun f hf=>h f (by simp [hf]))
theorem mem_aw {P:E6.Ev→Prop} (ha:P aw0) (hb:P aw1) (hc:P aw2) (hd:P aw3):∀ e ∈ awE,P e:=by
 intro e he
 unfold awE at he
 rcases List.mem_cons.1 he with h|he
 ·rw [h];exact ha
 rcases List.mem_cons.1 he with h|he
 ·rw [h];exact hb
 rcases List.mem_cons.1 he with h|he
 ·rw [h];exact hc
 rcases List.mem_cons.1 he with h|he
 ·rw [h];exact hd
 ·cases he
theorem ok_aw:∀ e ∈ awE,e.ok:=by
 apply mem_aw
 all_goals exact ⟨⟨by decide,by decide⟩,⟨by decide,by decide⟩,by decide,fun s hs=>(by cases hs),by decide,fun _=>⟨rfl,rfl⟩⟩
theorem runV_aw:runV awE=(-1,0,0):=by
 have hb:(E6.bounds awE).2=0:=by
  unfold E6.bounds
  rw [if_pos (by decide),bnd_plU _ _ (mem_aw ⟨by kernel_rfl,rfl⟩ ⟨by kernel_rfl,rfl⟩ ⟨by kernel_rfl,rfl⟩ ⟨by kernel_rfl,rfl⟩)]
 have h9:CS.new.run awE 0=(-1,0):=by kernel_rfl
 unfold runV
 rw [if_neg (fun e=>e hb),h9]
theorem wnE_aw:wnE awE=0:=by
 unfold wnE
 rw [runV_aw]
 rfl
theorem nds_aw0:nds awE 0=[]:=by kernel_rfl
theorem nds_aw2:nds awE 2=[0]:=by kernel_rfl
theorem cl_aw:cl awE [false,false,true,false]=[true,false,true,false]:=by
 have e:plc [false,false,true,false] awE.length=[2]:=by kernel_rfl
 unfold cl
 rw [e]
 have h2:Rc (nds awE) (· ∈ [2]) 2:=.base (by simp)
 have h0:Rc (nds awE) (· ∈ [2]) 0:=.step h2 (by rw [nds_aw2];simp)
 have h:Jk (nds awE) (· ∈ [2]) 4 ([true,false,true,false],[]):=by
  refine ⟨rfl,fun p hp=>?_,fun p hp=>(by cases hp),fun q hq _ p hp=>?_,fun p hp=>?_,by decide⟩
  ·match p,hp with
   | 0,_=>exact h0
   | 1,hp=>simp at hp
   | 2,_=>exact h2
   | 3,hp=>simp at hp
   | p+4,hp=>simp at hp
  ·match q,hq with
   | 0,_=>rw [nds_aw0] at hp;cases hp
   | 1,hq=>simp at hq
   | 2,_=>rw [nds_aw2] at hp;rw [List.mem_singleton.1 hp];rfl
   | 3,hq=>simp at hq
   | q+4,hq=>simp at hq
  ·rw [List.mem_singleton.1 hp];rfl
 exact (h.fin (nds_lt (es:=awE)) (fun p hp=>by rw [List.mem_singleton.1 hp];decide) rfl).symm
theorem ecs_getU {l:List E6.Ev} {i:Nat} {e:E6.Ev} (h:l[i]?=some e) {t:Nat} (ht:t < 5):(E6.ecells l)[i * 5+t]?=(E6.ecell e)[t]?:=by
 induction l generalizing i with
 | nil=>simp at h
 | cons x l ih =>
  cases i with
  | zero =>
   simp at h;subst h
   rw [E6.ecells,Nat.zero_mul,Nat.zero_add,List.getElem?_append_left (by simpa [E6.ecell] using ht)]
  | succ i =>
   rw [E6.ecells,List.getElem?_append_right (by simp [E6.ecell];omega)]
   have e1:(i+1) * 5+t - (E6.ecell x).length=i * 5+t:=by simp [E6.ecell];omega
   rw [e1]
   exact ih (by simpa using h)
theorem erow_ofU (w:World) (es:List E6.Ev) (hs:∀ e ∈ es,e.sa=none∧e.ls=[]):E6.ERow (w.alloc (.cells (E6.ecells es).toArray 43)) (some ⟨w.heap.size,0,none⟩) es.length es:=by
 have hh:(w.alloc (.cells (E6.ecells es).toArray 43)).heap[w.heap.size]?=some (.cells (E6.ecells es).toArray 43 (0,0)):=heap_new _ _
 refine ⟨rfl,.inr ⟨w.heap.size,0,rfl,fun i e he=>?_⟩⟩
 have hc:∀ t (ht:t < 5),(w.alloc (.cells (E6.ecells es).toArray 43)).cell? ⟨w.heap.size,0+i * 5+t,none⟩=(E6.ecell e)[t]?:=by
  intro t ht
  rw [cell_of_row _ _ _ _ 43 (0,0) hh,Nat.zero_add]
  rw [List.getElem?_toArray]
  exact ecs_getU he ht
 obtain ⟨h1,h2⟩:=hs e (List.mem_of_getElem? he)
 refine ⟨hc 0 (by omega),hc 1 (by omega),hc 2 (by omega),hc 3 (by omega),hc 4 (by omega),?_⟩
 show E6.SRow _ e.sa e.ls.length e.ls
 rw [h2]
 exact ⟨rfl,.inl rfl⟩
theorem trow_litU {α:Type} (y:Lay α) (w:World) (L:List α) (ty:TypeId):TRow y (w.alloc (.cells (y.fl L).toArray ty)) (some ⟨w.heap.size,0,none⟩) L.length L:=by
 refine ⟨rfl,.inr ⟨w.heap.size,0,rfl,fun i x hx t u hu=>?_⟩⟩
 have ht:t < y.z:=by rw [← y.len x];exact (List.getElem?_eq_some_iff.1 hu).1
 rw [Nat.zero_add]
 refine cell_at (heap_new _ _) ?_
 rw [List.getElem?_toArray,y.fl_get hx ht]
 exact hu
theorem awakeU_any (w:World) (hK:E6.Kr w):Calls Tryz.prog 6 #[] w fun e w'=>e=.returned (.bool true)∧Below w.heap.size w w':=by
 have hsz:=hK.size
 obtain ⟨W1,hW1⟩:∃ W1,W1=w.alloc (.cells (E6.ecells awE).toArray 43):=⟨_,rfl⟩
 have hb1:Below w.heap.size w W1:=by rw [hW1];exact below_alloc1 w _
 have hs1:W1.heap.size=w.heap.size+1:=by rw [hW1,World.size_alloc]
 have hr1:E6.ERow W1 (some ⟨w.heap.size,0,none⟩) 4 awE:=by
  rw [hW1];exact erow_ofU w awE (mem_aw ⟨rfl,rfl⟩ ⟨rfl,rfl⟩ ⟨rfl,rfl⟩ ⟨rfl,rfl⟩)
 obtain ⟨W2,hW2⟩:∃ W2,W2=W1.alloc (.cells (sB.fl [false,false,true,false]).toArray 4):=⟨_,rfl⟩
 have hb2:Below W1.heap.size W1 W2:=by rw [hW2];exact below_alloc1 W1 _
 have ht2:TRow sB W2 (some ⟨w.heap.size+1,0,none⟩) 4 [false,false,true,false]:=by
  rw [hW2,← hs1];exact trow_litU sB W1 [false,false,true,false] 4
 have hb12:=Below.on hb1 hb2
 have HCl:=hide (closed_ok (some ⟨w.heap.size,0,none⟩) 4 4 awE (some ⟨w.heap.size+1,0,none⟩) 4 [false,false,true,false] W2 (hK.below hb12 (by omega)) (hr1.bel hb2) ok_aw wnE_aw ht2)
 rw [cl_aw] at HCl
 have HB:=hide hb12
 have HW:Hid (W2=((w.alloc (.cells (E6.ecells awE).toArray 43)).alloc (.cells (sB.fl [false,false,true,false]).toArray 4))):=hide (by rw [hW2,hW1])
 rw [HW.out] at HCl
 clear hW1 hW2 hb1 hb2 hb12 hr1 ht2 hK hs1
 go_enter Tryz.func6,Tryz.ntmps6
 go_wp2_with fail
 refine HCl.out.mono ?_
 rintro r w1 ⟨kb,rfl,hO,hb3⟩
 rw [← HW.out] at hb3
 have HB3:=hide (Below.on HB.out hb3)
 obtain ⟨W4,hW4⟩:∃ W4,W4=w1.alloc (.cells (sB.fl [true,false,true,false]).toArray 4):=⟨_,rfl⟩
 have hb4:Below w1.heap.size w1 W4:=by rw [hW4];exact below_alloc1 w1 _
 have HS:=hide (u_bools (some ⟨kb,0,none⟩) (some ⟨w1.heap.size,0,none⟩) 4 4 4 [true,false,true,false] W4 ((hO.row rfl).below hb4) (by rw [hW4];exact trow_litU sB w1 [true,false,true,false] 4) (by decide))
 have HB4:=hide (Below.on HB3.out hb4)
 have HW4:=hide hW4
 rw [hW4] at HS
 clear hO hb3 hb4 hW4 HCl HB HW HB3
 go_wp2_with fail
 refine HS.out.mono ?_
 rintro r w5 ⟨rfl,hb5⟩
 rw [← HW4.out] at hb5
 have HB5:=hide (Below.on HB4.out hb5)
 clear hb5 HS HB4 HW4
 go_wp2
 go_ret
 exact ⟨rfl,HB5.out⟩
end Go.Proofs.YthgelfdefkbfeaaGreatDoor
namespace Go.Proofs.YthgelfdefkbfeaaGreatDoor
open Go.RowKit Go.Maps Go.Shelf
def mixL (A B:List Bool) (j:Nat):List Bool:=A.take j++B.drop j
section
variable {A B : List Bool} {n j : Nat} {x : Bool}
theorem mixL_full (hA:A.length=n) (hB:B.length=n):mixL A B n=A:=by
 unfold mixL
 rw [List.take_of_length_le (by omega),List.drop_of_length_le (by omega),List.append_nil]
theorem mixL_len (hA:A.length=n) (hB:B.length=n) (hj:j≤n):(mixL A B j).length=n:=by
 unfold mixL
 rw [List.length_append,List.length_take,List.length_drop]
 omega
theorem mixL_set (hA:A.length=n) (hB:B.length=n) (hj:j < n) (hx:A[j]?=some x):(mixL A B j).set j x=mixL A B (j+1):=by
 obtain ⟨hl,h9⟩:=List.getElem?_eq_some_iff.1 hx
 have e1:(A.take j).length=j:=by rw [List.length_take];omega
 unfold mixL
 rw [List.set_append_right _ _ (by omega),e1,Nat.sub_self,List.drop_eq_getElem_cons (by omega),List.set_cons_zero,List.take_succ_eq_append_getElem hl,h9,List.append_assoc]
 rfl
end
theorem mix_cell {wr:World} {b n c zb j:Nat} {L:List Bool} (h:Own sB 4 wr b (.slice (some ⟨zb,0,none⟩) n c) L) (hl:L.length=n) (hj:j < n):(∃ u,wr.cell? ⟨zb,j,none⟩=some (.bool u))∧wr.frozen? ⟨zb,j,none⟩=false∧zb < wr.heap.size:=by
 have hx:L[j]?=some (L[j]'(by omega)):=List.getElem?_eq_getElem _
 have h1:=h.cell hx 0 rfl
 rw [Nat.add_zero,show j * sB.z=j from Nat.mul_one j] at h1
 exact ⟨⟨_,h1⟩,h.frozen _,(h.lt zb rfl).2⟩
theorem own_set1 {wr:World} {b n c zb j:Nat} {L:List Bool} {x:Bool} (h:Own sB 4 wr b (.slice (some ⟨zb,0,none⟩) n c) L) (hl:L.length=n) (hj:j < n):Own sB 4 (wr.setCell ⟨zb,j,none⟩ (.bool x)) b (.slice (some ⟨zb,0,none⟩) n c) (L.set j x):=by
 have hx:L[j]?=some (L[j]'(by omega)):=List.getElem?_eq_getElem _
 have h1:=h.setU (t:=0) (u:=.bool x) (a':=x) hl hx (by decide) rfl
 rw [Nat.add_zero,show j * sB.z=j from Nat.mul_one j] at h1
 exact h1
theorem own_off {wr:World} {b zb j:Nat} {v u:Value} {L:List Bool} (h:Own sB 4 wr b v L) (hne:v.ownBlock≠some zb):Own sB 4 (wr.setCell ⟨zb,j,none⟩ u) b v L :=
 h.but ((But.refl (fun q=>q=zb) wr).setCell ⟨zb,j,none⟩ (fun _=>rfl) _) (fun g hg e=>hne (by have e9:g=zb:=e;rw [← e9];exact hg))
structure UL (w6 wr:World) (b n:Nat) (vx vy vz va:Value) (X Y Z1 Z0 A1 A0:List Bool) (j:Nat):Prop where
 x:Own sB 4 wr b vx X
 y:Own sB 4 wr b vy Y
 z:Own sB 4 wr b vz (mixL Z1 Z0 j)
 a:Own sB 4 wr b va (mixL A1 A0 j)
 xz:∀ q,vz.ownBlock=some q→vx.ownBlock≠some q∧vy.ownBlock≠some q∧va.ownBlock≠some q
 xa:∀ q,va.ownBlock=some q→vx.ownBlock≠some q∧vy.ownBlock≠some q∧vz.ownBlock≠some q
 but:But (fun q=>vz.ownBlock=some q∨va.ownBlock=some q) w6 wr
theorem UL.step {w6 wr:World} {b n zb ab cz ca j:Nat} {vx vy:Value} {X Y Z1 Z0 A1 A0:List Bool} {p q:Bool} (h:UL w6 wr b n vx vy (.slice (some ⟨zb,0,none⟩) n cz) (.slice (some ⟨ab,0,none⟩) n ca) X Y Z1 Z0 A1 A0 j)
  (l1:Z1.length=n) (l0:Z0.length=n) (k1:A1.length=n) (k0:A0.length=n) (hj:j < n) (hp:Z1[j]?=some p) (hq:A1[j]?=some q) :
  UL w6 ((wr.setCell ⟨zb,j,none⟩ (.bool p)).setCell ⟨ab,j,none⟩ (.bool q)) b n vx vy (.slice (some ⟨zb,0,none⟩) n cz) (.slice (some ⟨ab,0,none⟩) n ca) X Y Z1 Z0 A1 A0 (j+1):=by
 obtain ⟨n1,n2,n3⟩:=h.xz zb rfl
 obtain ⟨m1,m2,m3⟩:=h.xa ab rfl
 refine ⟨own_off (own_off h.x n1) m1,own_off (own_off h.y n2) m2,?_,?_,h.xz,h.xa,(h.but.setCell ⟨zb,j,none⟩ (fun _=>.inl rfl) _).setCell ⟨ab,j,none⟩ (fun _=>.inr rfl) _⟩
 ·rw [← mixL_set l1 l0 hj hp]
  exact own_off (own_set1 h.z (mixL_len l1 l0 (by omega)) hj) m3
 ·rw [← mixL_set k1 k0 hj hq]
  exact own_set1 (own_off h.a n3) (mixL_len k1 k0 (by omega)) hj
def RowsB (w:World) (n:Nat):List (Option Addr × List Bool)→Prop
 | []=>True
 | p :: l=>TRow sB w p.1 n p.2∧RowsB w n l
theorem RowsB.below {w w':World} {n:Nat} (hb:Below w.heap.size w w'):∀ {l:List (Option Addr × List Bool)},RowsB w n l→RowsB w' n l
 | [],_=>trivial
 | _ :: _,h=>⟨h.1.below hb,RowsB.below hb h.2⟩
theorem twc_any (a:Option Addr) (n c:Nat) (es:List E6.Ev) (w:World) (hK:E6.Kr w) (hr:E6.ERow w a n es) (hok:∀ e ∈ es,e.ok) (hE:wnE es=0) (hn:n * 56≤140737488355328) (hc0:a=none→c=0) :
  Calls Tryz.prog 10 #[.slice a n c] w fun r w1=>∃ ga gc,r=.returned (.slice ga n gc)∧Below w.heap.size w w1∧∀ (X:World),Below w1.heap.size w1 X→∀ (kd:Option Addr) (kc:Nat) (ks:List Bool),TRow sB X kd n ks→Calls Tryz.prog 9 #[.slice ga n gc,.slice kd n kc] X fun r w2=>∃ kb,r=.returned (.tuple #[.slice (some ⟨kb,0,none⟩) n n,.int .i64 (-1),.int .i64 0])∧TRow sB w2 (some ⟨kb,0,none⟩) n (cl es ks)∧Below X.heap.size X w2:=by
 have hsz:=hK.size
 refine (E6.twin_any a n c es w hr hok hn hc0).mono ?_
 rintro r w1 ⟨fs,v,rfl,htw⟩
 obtain ⟨ga,gc,rfl,hgr,hgc⟩:=htw.form
 have ht:=htw.twins hr.len
 refine ⟨ga,gc,rfl,htw.bel,fun X hX kd kc ks hk=>?_⟩
 have hbX:=Below.on htw.bel hX
 refine (closed_ok ga n gc fs kd kc ks X (hK.below hbX (by omega)) (hgr.bel hX) (htw.ok hok) (by rw [wnU_twins ht];exact hE) hk).mono ?_
 rintro r w2 ⟨kb,rfl,ho,hb⟩
 rw [cl_twins ht] at ho
 exact ⟨kb,rfl,ho.row (by rw [cl_len,hr.len]),hb⟩
end Go.Proofs.YthgelfdefkbfeaaGreatDoor
