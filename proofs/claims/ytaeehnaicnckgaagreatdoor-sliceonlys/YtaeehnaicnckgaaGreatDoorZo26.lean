import Derived.Test.YtaeehnaicnckgaaGreatDoorZo25
import Derived.Test.YtaeehnaicnckgaaGreatDoorZo07
import Derived.Laws.OwnMore
import Derived.OneCell
import Derived.Laws.CopyOwn
set_option maxRecDepth 8000
set_option maxHeartbeats 8000000
set_option linter.unusedVariables false
namespace Go.Proofs.YtaeehnaicnckgaaGreatDoor
open Go.RowKit Go.Maps Go.Shelf
def sI:Lay Int:=⟨fun x=>[.int .i64 x],1,by decide,fun _=>rfl,by intro a u hu;simp at hu;subst hu;rfl⟩
def sB:Lay Bool:=⟨fun x=>[.bool x],1,by decide,fun _=>rfl,by intro a u hu;simp at hu;subst hu;rfl⟩
def sE:Lay E6.Ev where
 cs:=E6.ecell
 z:=5
 pos:=by decide
 len _:=rfl
 one a u hu:=by
  simp only [E6.ecell,List.mem_cons,List.not_mem_nil,or_false] at hu
  rcases hu with rfl|rfl|rfl|rfl|rfl <;> rfl
theorem ecells_sE (L:List E6.Ev):E6.ecells L=sE.fl L:=by
 induction L with
 | nil=>rfl
 | cons x L ih=>rw [E6.ecells,ih,sE.fl_cons];rfl
theorem row_cell {α:Type} {y:Lay α} {w:World} {a:Option Addr} {n i:Nat} {L:List α} {x:α} (h:TRow y w a n L) (hx:L[i]?=some x):∃ b off,a=some ⟨b,off,none⟩∧∀ t u,(y.cs x)[t]?=some u→w.cell? ⟨b,off+i * y.z+t,none⟩=some u:=by
 have hl:=get_lt hx
 obtain ⟨b,off,ha,_,hc⟩:=h.at (by rw [h.len] at hl;omega)
 exact ⟨b,off,ha,fun t u hu=>hc i x hx t u hu⟩
theorem sI_cell {w:World} {a:Option Addr} {n i:Nat} {L:List Int} {x:Int} (h:TRow sI w a n L) (hx:L[i]?=some x):∃ b off,a=some ⟨b,off,none⟩∧w.cell? ⟨b,off+i,none⟩=some (.int .i64 x):=by
 obtain ⟨b,off,ha,hc⟩:=row_cell h hx
 refine ⟨b,off,ha,?_⟩
 have h1:w.cell? ⟨b,off+i * 1+0,none⟩=some (.int .i64 x):=hc 0 _ rfl
 rw [Nat.mul_one,Nat.add_zero] at h1
 exact h1
theorem sB_cell {w:World} {a:Option Addr} {n i:Nat} {L:List Bool} {x:Bool} (h:TRow sB w a n L) (hx:L[i]?=some x):∃ b off,a=some ⟨b,off,none⟩∧w.cell? ⟨b,off+i,none⟩=some (.bool x):=by
 obtain ⟨b,off,ha,hc⟩:=row_cell h hx
 refine ⟨b,off,ha,?_⟩
 have h1:w.cell? ⟨b,off+i * 1+0,none⟩=some (.bool x):=hc 0 _ rfl
 rw [Nat.mul_one,Nat.add_zero] at h1
 exact h1
theorem drew_onS {w wr:World} (h:∃ m,wr=w.drewN m) (r:Nat):∃ m,wr.drewN r=w.drewN m:=by
 obtain ⟨m,rfl⟩:=h
 refine ⟨m+r,?_⟩
 induction r with
 | zero=>rfl
 | succ r ih=>rw [← World.drew_drewN,ih,World.drew_drewN];rfl
theorem s_ints (a1 a2:Option Addr) (n c1 c2:Nat) (K:List Int) (w:World) (h1:TRow sI w a1 n K) (h2:TRow sI w a2 n K) (hn:(n:Int)≤9223372036854775806) :
  Calls Tryz.prog 15 #[.slice a1 n c1,.slice a2 n c2] w fun e w'=>e=.returned (.bool true)∧Below w.heap.size w w':=by
 have H1:=hide h1
 have H2:=hide h2
 have HL:=hide h1.len
 clear h1 h2
 go_enter Tryz.func15,Tryz.ntmps15
 go_wp2
 go_loopw [5] (fun i wr=>∃ j:Nat,j≤n∧i=.int .i64 j∧Hid (∃ m,wr=w.drewN m)) (fun i _=>n - (intOf i).toNat)
 case atStart=>exact ⟨0,Nat.zero_le _,rfl,hide ⟨0,rfl⟩⟩
 case round =>
  obtain ⟨j,hj,rfl,HD⟩:=hrel
  have HB:Hid (Below w.heap.size w wr):=hide (by obtain ⟨m,hm⟩:=HD.out;rw [hm];exact below_drewN (Below.refl _ _) m)
  by_cases hlt:j < n
  ·have hjI:(j:Int) < n:=by omega
   have hj0:(0:Int)≤j:=by omega
   obtain ⟨x,hx⟩:∃ x,K[j]?=some x:=⟨_,List.getElem?_eq_getElem (by rw [HL.out];exact hlt)⟩
   obtain ⟨b1,o1,e1,d1⟩:=sI_cell (H1.out.below HB.out) hx
   obtain ⟨b2,o2,e2,d2⟩:=sI_cell (H2.out.below HB.out) hx
   subst e1
   subst e2
   clear hx
   go_wp2_with fail
   go_quiet (fail)
   go_wp2
   exact ⟨⟨j+1,by omega,by go_num,hide (drew_onS HD.out _)⟩,by simp [intOf];omega⟩
  ·have hjI:¬ (j:Int) < n:=by omega
   go_wp2
   go_ret
   exact ⟨rfl,HB.out⟩
theorem s_evc {w:World} {b:Nat} {g k o a:Int} {s:Value} (h:w.heap[b]?=some (.cells #[.int .i64 g,.int .i64 k,.int .u64 o,.int .u64 a,s] 43 (0,0))):w.cell? ⟨b,0,none⟩=some (.int .i64 g)∧w.cell? ⟨b,1,none⟩=some (.int .i64 k)∧w.cell? ⟨b,2,none⟩=some (.int .u64 o)∧w.cell? ⟨b,3,none⟩=some (.int .u64 a)∧w.cell? ⟨b,4,none⟩=some s :=
 ⟨cell_at h rfl,cell_at h rfl,cell_at h rfl,cell_at h rfl,cell_at h rfl⟩
theorem s_event (e f:E6.Ev) (w:World) (ht:e.twin f) (he:E6.SRow w e.sa e.ls.length e.ls) (hf:E6.SRow w f.sa f.ls.length f.ls) (hn:(e.ls.length:Int)≤9223372036854775806) :
  Calls Tryz.prog 26 #[.agg #[.int .i64 f.g,.int .i64 f.k,.int .u64 f.o,.int .u64 f.a,.slice f.sa f.ls.length f.sc],.agg #[.int .i64 e.g,.int .i64 e.k,.int .u64 e.o,.int .u64 e.a,.slice e.sa e.ls.length e.sc]] w fun r w'=>r=.returned (.bool true)∧Below w.heap.size w w':=by
 obtain ⟨t1,t2,t3,t4,t5⟩:=ht
 rw [t1,t2,t3,t4]
 rw [t5] at hf ⊢
 obtain ⟨W0,hW0⟩:∃ W0,W0=w.alloc (.cells #[.int .i64 e.g,.int .i64 e.k,.int .u64 e.o,.int .u64 e.a,.slice f.sa e.ls.length f.sc] 43):=⟨_,rfl⟩
 obtain ⟨W,hW⟩:∃ W,W=W0.alloc (.cells #[.int .i64 e.g,.int .i64 e.k,.int .u64 e.o,.int .u64 e.a,.slice e.sa e.ls.length e.sc] 43):=⟨_,rfl⟩
 have hb0:Below w.heap.size w W0:=by rw [hW0];exact below_alloc1 w _
 have hb1:Below W0.heap.size W0 W:=by rw [hW];exact below_alloc1 W0 _
 have hb:=hb0.trans (hb1.mono hb0.size)
 have hE0:W0.heap[w.heap.size]?=some (.cells #[.int .i64 e.g,.int .i64 e.k,.int .u64 e.o,.int .u64 e.a,.slice f.sa e.ls.length f.sc] 43 (0,0)):=by rw [hW0];exact heap_new _ _
 have hE1:W.heap[W0.heap.size]?=some (.cells #[.int .i64 e.g,.int .i64 e.k,.int .u64 e.o,.int .u64 e.a,.slice e.sa e.ls.length e.sc] 43 (0,0)):=by rw [hW];exact heap_new _ _
 obtain ⟨q0,q1,q2,q3,q4⟩:=s_evc hE1
 obtain ⟨z0,z1,z2,z3,z4⟩:=s_evc hE0
 have hl0:w.heap.size < W0.heap.size:=(Array.getElem?_eq_some_iff.1 hE0).1
 have hl1:W0.heap.size < W.heap.size:=(Array.getElem?_eq_some_iff.1 hE1).1
 have p0:=E6.cell_bel z0 hb1
 have p1:=E6.cell_bel z1 hb1
 have p2:=E6.cell_bel z2 hb1
 have p3:=E6.cell_bel z3 hb1
 have p4:=E6.cell_bel z4 hb1
 have hl2:w.heap.size < W.heap.size:=Nat.lt_trans hl0 hl1
 have HE:=hide (E6.SRow.bel he hb)
 have HF:=hide (E6.SRow.bel hf hb)
 have HB:=hide hb
 have HW:=hide (hW.trans (by rw [hW0]))
 have HS0:Hid (W0.heap.size=w.heap.size+1):=hide (by rw [hW0];simp)
 have HC:Hid (∀ X,Below W.heap.size W X→X.cell? ⟨w.heap.size,4,none⟩=some (.slice f.sa e.ls.length f.sc)∧X.cell? ⟨W0.heap.size,4,none⟩=some (.slice e.sa e.ls.length e.sc)∧w.heap.size < X.heap.size∧W0.heap.size < X.heap.size):=hide (fun X hX=>⟨E6.cell_bel p4 hX,E6.cell_bel q4 hX,Nat.lt_of_lt_of_le hl2 hX.size,Nat.lt_of_lt_of_le hl1 hX.size⟩)
 rw [HS0.out] at q0 q1 q2 q3 q4 hl1 HC
 generalize e.ls.length=m at *
 generalize e.ls=L at *
 clear he hf hb hb0 hb1 hE0 hE1 hW hW0 z0 z1 z2 z3 z4 t1 t2 t3 t4 t5 HS0
 go_enter Tryz.func26,Tryz.ntmps26
 go_wp2_with fail
 rw [← HW.out]
 clear HW
 go_wp2
 clear p0 p1 p2 p3 p4 q0 q1 q2 q3 q4
 go_loopw [5] (fun i wr=>∃ (j:Nat),j≤m∧i=.int .i64 j∧Below W.heap.size W wr) (fun i _=>m - (intOf i).toNat)
 case atStart=>exact ⟨0,Nat.zero_le _,rfl,Below.refl _ _⟩
 case round =>
  obtain ⟨j,hj,rfl,hbl⟩:=hrel
  have HBl:=hide hbl
  obtain ⟨p4,q4,hx1,hx2⟩:=HC.out wr hbl
  clear hbl
  by_cases hlt:j < m
  ·have hjI:(j:Int) < m:=by omega
   have hj0:(0:Int)≤j:=by omega
   obtain ⟨b,off,ha,hc⟩:=(E6.SRow.bel HE.out HBl.out).at hlt
   obtain ⟨b',off',ha',hc'⟩:=(E6.SRow.bel HF.out HBl.out).at hlt
   rw [ha] at q4
   rw [ha'] at p4
   generalize L.getD j ByteArray.empty=S at hc hc'
   clear ha ha'
   go_wp2_with fail
   go_quiet (fail)
   go_wp2
   exact ⟨⟨j+1,by omega,by go_num,below_drewN HBl.out _⟩,by simp [intOf];omega⟩
  ·have h9:j=m:=by omega
   subst h9
   go_wp2
   go_ret
   exact ⟨rfl,HB.out.trans (HBl.out.mono HB.out.size)⟩
theorem s_trace (a:Option Addr) (n c:Nat) (es:List E6.Ev) (a':Option Addr) (c':Nat) (fs:List E6.Ev) (w:World) (hr:E6.ERow w a n es) (hr':E6.ERow w a' n fs) (ht:E6.Twins es fs) (hok:∀ e ∈ es,(e.ls.length:Int)≤9223372036854775806) (hn:(n:Int)≤9223372036854775806) :
  Calls Tryz.prog 14 #[.slice a' n c',.slice a n c] w fun r w'=>r=.returned (.bool true)∧Below w.heap.size w w':=by
 have HE:=hide hr
 have HF:=hide hr'
 have HT:=hide ht
 have HO:=hide hok
 clear hr hr' ht hok
 go_enter Tryz.func14,Tryz.ntmps14
 go_wp2
 go_loopw [5] (fun i wr=>∃ (j:Nat),j≤n∧i=.int .i64 j∧Below w.heap.size w wr) (fun i _=>n - (intOf i).toNat)
 case atStart=>exact ⟨0,Nat.zero_le _,rfl,Below.refl _ _⟩
 case round =>
  obtain ⟨j,hj,rfl,hbl⟩:=hrel
  have HBl:=hide hbl
  clear hbl
  by_cases hlt:j < n
  ·have hjI:(j:Int) < n:=by omega
   obtain ⟨b,off,e,ha,hej,c0,c1,c2,c3,c4,hs⟩:=(HE.out.bel HBl.out).at hlt
   obtain ⟨b',off',f,ha',hfj,d0,d1,d2,d3,d4,hs'⟩:=(HF.out.bel HBl.out).at hlt
   subst ha
   subst ha'
   have HD:=hide ((Below.refl wr.heap.size wr).drew)
   have HC:=hide (s_event e f wr.drew (HT.out.get hej hfj) (E6.SRow.bel hs HD.out) (E6.SRow.bel hs' HD.out) (HO.out e (List.mem_of_getElem? hej)))
   have HX0:=hide (Below.refl wr.heap.size wr)
   have HSx:Hid (∀ X,Below wr.heap.size wr X→X.cell? ⟨b,off+j * 5,none⟩=some (.int .i64 e.g)∧X.cell? ⟨b,off+j * 5+1,none⟩=some (.int .i64 e.k)∧X.cell? ⟨b,off+j * 5+2,none⟩=some (.int .u64 e.o)∧X.cell? ⟨b,off+j * 5+3,none⟩=some (.int .u64 e.a)∧X.cell? ⟨b,off+j * 5+4,none⟩=some (.slice e.sa e.ls.length e.sc)∧X.cell? ⟨b',off'+j * 5,none⟩=some (.int .i64 f.g)∧X.cell? ⟨b',off'+j * 5+1,none⟩=some (.int .i64 f.k)∧X.cell? ⟨b',off'+j * 5+2,none⟩=some (.int .u64 f.o)∧X.cell? ⟨b',off'+j * 5+3,none⟩=some (.int .u64 f.a)∧X.cell? ⟨b',off'+j * 5+4,none⟩=some (.slice f.sa f.ls.length f.sc)):=hide (fun X hX=>⟨E6.cell_bel c0 hX,E6.cell_bel c1 hX,E6.cell_bel c2 hX,E6.cell_bel c3 hX,E6.cell_bel c4 hX,E6.cell_bel d0 hX,E6.cell_bel d1 hX,E6.cell_bel d2 hX,E6.cell_bel d3 hX,E6.cell_bel d4 hX⟩)
   clear hs hs' hej hfj
   go_wp2_with fail
   go_region_held3 (fun X=>X.cell? ⟨b,off+j * 5,none⟩=some (.int .i64 e.g)∧X.cell? ⟨b,off+j * 5+1,none⟩=some (.int .i64 e.k)∧X.cell? ⟨b,off+j * 5+2,none⟩=some (.int .u64 e.o)∧X.cell? ⟨b,off+j * 5+3,none⟩=some (.int .u64 e.a)∧X.cell? ⟨b,off+j * 5+4,none⟩=some (.slice e.sa e.ls.length e.sc)∧X.cell? ⟨b',off'+j * 5,none⟩=some (.int .i64 f.g)∧X.cell? ⟨b',off'+j * 5+1,none⟩=some (.int .i64 f.k)∧X.cell? ⟨b',off'+j * 5+2,none⟩=some (.int .u64 f.o)∧X.cell? ⟨b',off'+j * 5+3,none⟩=some (.int .u64 f.a)∧X.cell? ⟨b',off'+j * 5+4,none⟩=some (.slice f.sa f.ls.length f.sc))
    (first|with_reducible exact HSx.out _ HX0.out|with_reducible exact HSx.out _ HD.out|with_reducible exact HSx.out _ HX7.out)
    (first|(go_at_call 26;go_must (refine HC.out.mono ?_;rintro e9 w7 ⟨rfl,h7⟩;have HX7:Hid (Below wr.heap.size wr w7):=hide (HD.out.trans (h7.mono HD.out.size));clear h7)))
   have HB3:=hide (HBl.out.trans (HX7.out.mono HBl.out.size))
   clear HC HSx HX0 HD c0 c1 c2 c3 c4 d0 d1 d2 d3 d4
   go_wp2
   exact ⟨⟨j+1,by omega,by go_num,HB3.out⟩,by simp [intOf];omega⟩
  ·have h9:j=n:=by omega
   subst h9
   go_wp2
   go_ret
   exact ⟨rfl,HBl.out⟩
end Go.Proofs.YtaeehnaicnckgaaGreatDoor
namespace Go.Proofs.YtaeehnaicnckgaaGreatDoor
open Go.RowKit Go.Maps Go.Shelf
def plc (ks:List Bool):Nat→List Nat
 | 0=>[]
 | i+1=>if ks[i]?=some true then plc ks i++[i] else plc ks i
section
variable {ks : List Bool} {i j n p k : Nat}
theorem plc_t (h:ks[i]?=some true):plc ks (i+1)=plc ks i++[i]:=by rw [plc,if_pos h]
theorem plc_f (h:ks[i]?=some false):plc ks (i+1)=plc ks i:=by rw [plc,if_neg (by rw [h];decide)]
theorem plc_le (ks:List Bool):∀ i,(plc ks i).length≤i
 | 0=>Nat.le_refl _
 | i+1=>by
  have:=plc_le ks i
  rw [plc]
  split
  ·rw [List.length_append];show (plc ks i).length+1≤i+1;omega
  ·omega
theorem plc_lt (ks:List Bool):∀ i p,p ∈ plc ks i→p < i
 | 0,p,h=>by cases h
 | i+1,p,h=>by
  rw [plc] at h
  split at h
  ·rcases List.mem_append.1 h with h|h
   ·have:=plc_lt ks i p h;omega
   ·have:p=i:=by simpa using h
    omega
  ·have:=plc_lt ks i p h;omega
theorem plc_pre (ks:List Bool) (i:Nat):∀ d,∃ r,plc ks (i+d)=plc ks i++r
 | 0=>⟨[],by simp⟩
 | d+1=>by
  obtain ⟨r,hr⟩:=plc_pre ks i d
  rw [← Nat.add_assoc,plc]
  split
  ·exact ⟨r++[i+d],by rw [hr,List.append_assoc]⟩
  ·exact ⟨r,hr⟩
theorem plc_at (h:ks[i]?=some true) (hn:i < n):(plc ks n)[(plc ks i).length]?=some i:=by
 obtain ⟨d,rfl⟩:∃ d,n=i+1+d:=⟨n - (i+1),by omega⟩
 obtain ⟨r,hr⟩:=plc_pre ks (i+1) d
 rw [hr,plc_t h,List.append_assoc,List.getElem?_append_right (Nat.le_refl _),Nat.sub_self]
 rfl
end
def nE:E6.Ev:=⟨0,0,0,0,none,0,[]⟩
def pkE (es:List E6.Ev) (P:List Nat):List E6.Ev:=P.map fun p=>es.getD p nE
theorem pkE_at {es:List E6.Ev} {P:List Nat} {k p:Nat} {e:E6.Ev} (hp:P[k]?=some p) (he:es[p]?=some e):(pkE es P)[k]?=some e:=by
 unfold pkE
 rw [List.getElem?_map,hp,Option.map_some,List.getD_eq_getElem?_getD,he]
 rfl
theorem pkE_len (es:List E6.Ev) (P:List Nat):(pkE es P).length=P.length:=by unfold pkE;rw [List.length_map]
def intP (P:List Nat):List Int:=P.map fun p:Nat=>(p:Int)
theorem intP_len (P:List Nat):(intP P).length=P.length:=by unfold intP;rw [List.length_map]
theorem intP_snoc (P:List Nat) (p:Nat):intP (P++[p])=intP P++[(p:Int)]:=by unfold intP;rw [List.map_append];rfl
theorem intP_at {P:List Nat} {k p:Nat} (h:P[k]?=some p):(intP P)[k]?=some (p:Int):=by
 unfold intP
 rw [List.getElem?_map,h];rfl
theorem tw_small {w0 w1:World} {es fs:List E6.Ev} {n:Nat} {v:Value} (h:E6.Tw w0 w1 es n fs v) (hok:∀ e ∈ es,e.ok):∀ f ∈ fs,(f.ls.length:Int)≤9223372036854775806:=by
 intro f hf
 have:=(h.ok hok f hf).len
 omega
theorem ok_pk {es:List E6.Ev} {P:List Nat} (hok:∀ e ∈ es,e.ok) (hP:∀ p ∈ P,p < es.length):∀ e ∈ pkE es P,e.ok:=by
 intro e he
 unfold pkE at he
 obtain ⟨p,hp,rfl⟩:=List.mem_map.1 he
 have hl:=hP p hp
 rw [List.getD_eq_getElem?_getD,List.getElem?_eq_getElem hl]
 exact hok _ (List.getElem_mem hl)
theorem tw_on {w0 w1 w2:World} {es fs:List E6.Ev} {n:Nat} {v:Value} (h:E6.Tw w0 w1 es n fs v) (hb:Below w1.heap.size w1 w2):E6.Tw w0 w2 es n fs v:=by
 refine ⟨h.len,own_but (S:=fun _=>False) h.own (But.of_below hb) (fun _ _ e=>e),fun i f hf=>?_,h.bel.trans (hb.mono h.bel.size)⟩
 obtain ⟨e,h1,h2,h3,h4,h5⟩:=h.each i f hf
 exact ⟨e,h1,h2,h3,h4,own_but (S:=fun _=>False) h5 (But.of_below hb) (fun _ _ e=>e)⟩
end Go.Proofs.YtaeehnaicnckgaaGreatDoor
namespace Go.Proofs.YtaeehnaicnckgaaGreatDoor
open Go.RowKit Go.Maps Go.Shelf
theorem append_str (w:World) {ops:Array Oper} {rest:List Oper} {o:Oper} {a:Act} {Q:Exit→Act→World→Prop} (hgd:o.guard=none) (s x:Operand)
  (ho:o.op=.call { callee:=.builtin .append,args:=#[s,x],argTypes:=#[41,41] }) (base:Nat)
  (hs:a.eval s=.slice none 0 0)
  (ra:Option Addr) (m c:Nat) (zs:List ByteArray) (hx:a.eval x=.slice ra m c) (hr:E6.SRow w ra m zs) (h0:ra=none→m=0∧c=0) (hm:m * 16≤140737488355328) (hbase:base≤w.heap.size)
  (h:∀ (a':Option Addr) (c':Nat) w',w'.ownsRow base 9 1 (.slice a' m c') m (zs.map Value.string)→w.grownBy w' none→m≤c'→(a'=none→m=0∧c'=0)→wpList Tryz.prog ops Q rest (a.put o.dst (.slice a' m c')) w'):wpList Tryz.prog ops Q (o :: rest) a w:=by
 obtain ⟨i0,hi,hz0,hz1,hz2⟩:=info_parts E6.Tryz.info9
 have hown:=World.ownsRow_nil w base 9 1
 cases ra with
 | none =>
  obtain ⟨rfl,rfl⟩:=h0 rfl
  have e1:=List.length_eq_zero_iff.1 hr.len
  subst e1
  exact wpList_append_own_none hgd s x 41 ho base 9 i0 1 Tryz.underlying41 hi (.slice none 0 0) 0 _ hs hown hx (h none 0 w hown (World.grownBy.refl w _) (Nat.le_refl _) (fun _=>⟨rfl,rfl⟩))
 | some ad =>
  refine wpList_append_own_at w hgd s x 41 ho base 9 i0 _ 1 16 Tryz.underlying41 hi hz0 hz1 hz2 rfl (by decide) (.slice none 0 0) 0 [] hs hown ad m c (zs.map Value.string) hx (by have:=hr.len;simpa using this) (E6.srow_cells hr) (by intro u hu;obtain ⟨y,_,rfl⟩:=List.mem_map.1 hu;rfl) (by unfold maxLen;omega) (by omega) hbase ?_
  intro v' w' h2 h3 _ _
  rw [Nat.zero_add] at h2
  obtain ⟨a',c',rfl,h4,h5⟩:=own_form h2
  exact h a' c' w' (by simpa using h2) h3 h5 h4
structure Ow (w w2:World) (g k o a:Int) (s:Value):Prop where
 bel:Below w.heap.size w w2
 one:w2.heap[w.heap.size]?=some (.cells #[.int .i64 g,.int .i64 k,.int .u64 o,.int .u64 a,s] 43 (0,0))
 two:w2.heap[w.heap.size+1]?=some (.cells #[.int .i64 0,.int .i64 0,.int .u64 0,.int .u64 0,.slice none 0 0] 43 (0,0))
section
variable {w w2 w3 : World} {g k o a : Int} {s s' : Value} {g' : Nat} {cs cs' : Array Value}
theorem Ow.new (w:World) (g k o a:Int) (s:Value):Ow w ((w.alloc (.cells #[.int .i64 g,.int .i64 k,.int .u64 o,.int .u64 a,s] 43)).alloc (.cells #[.int .i64 0,.int .i64 0,.int .u64 0,.int .u64 0,.slice none 0 0] 43)) g k o a s :=
 ⟨below_alloc2 w _ _,((below_alloc1 _ _).block _ (by simp)).trans (heap_new _ _),heap_new2 _ _ _⟩
theorem Ow.on (h:Ow w w2 g k o a s) (hb:Below w2.heap.size w2 w3):Ow w w3 g k o a s :=
 ⟨Below.on h.bel hb,(hb.block _ (get_ltA h.one)).trans h.one,(hb.block _ (get_ltA h.two)).trans h.two⟩
where
 get_ltA {w:World} {i:Nat} {x:Obj} (h:w.heap[i]?=some x):i < w.heap.size:=(Array.getElem?_eq_some_iff.1 h).1
theorem Ow.cells (h:Ow w w2 g k o a s):w2.cell? ⟨w.heap.size,0,none⟩=some (.int .i64 g)∧w2.cell? ⟨w.heap.size,1,none⟩=some (.int .i64 k)∧w2.cell? ⟨w.heap.size,2,none⟩=some (.int .u64 o)∧w2.cell? ⟨w.heap.size,3,none⟩=some (.int .u64 a)∧w2.cell? ⟨w.heap.size,4,none⟩=some s∧w2.frozen? ⟨w.heap.size,4,none⟩=false :=
 ⟨cell_at h.one rfl,cell_at h.one rfl,cell_at h.one rfl,cell_at h.one rfl,cell_at h.one rfl,frz h.one 4⟩
theorem Ow.set (h:Ow w w2 g k o a s) (s':Value):Ow w (w2.setCell ⟨w.heap.size,4,none⟩ s') g k o a s':=by
 have hk:But (fun q=>q=w.heap.size) w2 (w2.setCell ⟨w.heap.size,4,none⟩ s'):=(But.refl (fun q=>q=w.heap.size) w2).setCell ⟨w.heap.size,4,none⟩ (fun _=>rfl) _
 refine ⟨?_,heap_setCell_same w2 w.heap.size 4 _ 43 _ h.one,?_⟩
 ·exact h.bel.trans (hk.below h.bel.size (fun q e=>by have e9:q=w.heap.size:=e;omega))
 ·exact (hk.block _ (Array.getElem?_eq_some_iff.1 h.two).1 (fun e=>by have e9:w.heap.size+1=w.heap.size:=e;omega)).trans h.two
theorem Ow.but (h:Ow w w2 g k o a s) (s':Value):But (fun q=>q=w.heap.size) w2 (w2.setCell ⟨w.heap.size,4,none⟩ s'):=(But.refl (fun q=>q=w.heap.size) w2).setCell ⟨w.heap.size,4,none⟩ (fun _=>rfl) _
theorem but_setRow (w:World) (g':Nat) (cs:Array Value):But (fun q=>q=g') w (w.setRow g' cs):=⟨rfl,rfl,rfl,by simp,fun q _ hq=>setRow_other w g' q cs hq⟩
theorem Ow.fin (h:Ow w w2 g k o a s) {m:Nat} {v:Value} {xs:List Value} (ho:w2.ownsRow w.heap.size 9 1 v m xs) (cs:Array Value) :
  (w2.setRow (w.heap.size+1) cs).heap[w.heap.size+1]?=some (.cells cs 43 (0,0))∧Below w.heap.size w (w2.setRow (w.heap.size+1) cs)∧(w2.setRow (w.heap.size+1) cs).ownsRow w.heap.size 9 1 v m xs:=by
 refine ⟨setRow_heap _ _ _ _ _ _ h.two,below_setRow h.bel (by omega) _,own_but ho (but_setRow w2 (w.heap.size+1) cs) (fun q hq e=>?_)⟩
 have e9:q=w.heap.size+1:=e
 rw [e9] at hq
 exact own_ne_cells ho h.two (by decide) hq
theorem Ow.own (h:Ow w w2 g k o a s) {m:Nat} {v:Value} {xs:List Value} (ho:w2.ownsRow w.heap.size 9 1 v m xs) (s':Value):(w2.setCell ⟨w.heap.size,4,none⟩ s').ownsRow w.heap.size 9 1 v m xs:=by
 refine own_but ho (h.but s') (fun q hq e=>?_)
 have e9:q=w.heap.size:=e
 rw [e9] at hq
 exact own_ne_cells ho h.one (by decide) hq
end
theorem infoE1:(Tryz.prog.info? 43).map (·.size)=some 5:=by kernel_rfl
theorem ev_one (g k o a:Int) (x:Option Addr) (m c:Nat):(#[.int .i64 g,.int .i64 k,.int .u64 o,.int .u64 a,.slice x m c]:Array Value).all (·.oneCell')=true:=by first|kernel_rfl|simp [Value.oneCell']
def OwnR (e:E6.Ev) (w:World) (r:Ending) (w':World):Prop :=
 ∃ sa sc,r=.returned (.agg #[.int .i64 e.g,.int .i64 e.k,.int .u64 e.o,.int .u64 e.a,.slice sa e.ls.length sc])∧w'.ownsRow w.heap.size 9 1 (.slice sa e.ls.length sc) e.ls.length (e.ls.map Value.string)∧e.ls.length≤sc∧(sa=none→e.ls.length=0∧sc=0)∧Below w.heap.size w w'
theorem own_any (e : E6.Ev) (w : World) (hs : E6.SRow w e.sa e.ls.length e.ls) (hm : e.ls.length * 16 ≤ 140737488355328) (hz : e.sa = none → e.ls.length = 0 ∧ e.sc = 0) :
    Calls Tryz.prog 35 #[.agg #[.int .i64 e.g, .int .i64 e.k, .int .u64 e.o, .int .u64 e.a, .slice e.sa e.ls.length e.sc]] w (OwnR e w) := by
  obtain ⟨g, k, o, a, sa, sc, ls⟩ := e
  dsimp only at hs hm hz ⊢
  obtain ⟨W, hW⟩ : ∃ W, W = (w.alloc (.cells #[.int .i64 g, .int .i64 k, .int .u64 o, .int .u64 a, .slice sa ls.length sc] 43)).alloc (.cells #[.int .i64 0, .int .i64 0, .int .u64 0, .int .u64 0, .slice none 0 0] 43) := ⟨_, rfl⟩
  have hO : Ow w W g k o a (.slice sa ls.length sc) := by rw [hW]; exact Ow.new _ _ _ _ _ _
  have HS := hide (E6.SRow.bel hs hO.bel)
  have HO := hide hO
  have HW := hide hW
  obtain ⟨p0, p1, p2, p3, p4, f4⟩ := hO.cells
  have hlt : w.heap.size < W.heap.size := World.block_lt_of_cell? W _ p0
  have HZ := hide hz
  have HM := hide hm
  clear hs hO hW hz hm
  go_enter Tryz.func35, Tryz.ntmps35
  go_wp2_with (first
    | (at_builtin; rw [← HW.out]; refine append_str _ rfl _ _ rfl w.heap.size rfl sa ls.length sc ls rfl HS.out HZ.out HM.out HO.out.bel.size ?_
       intro a' c' w2 o2 g2 hc2 hn2
       have hb2 : Below W.heap.size W w2 := ⟨g2.os, g2.tape, g2.output, g2.size, fun q hq => g2.block q hq (by simp)⟩
       have HO2 := hide (HO.out.on hb2)
       have HO3 := hide (HO2.out.set (.slice a' ls.length c'))
       have HR3 := hide (HO2.out.own o2 (.slice a' ls.length c'))
       have HC := hide (And.intro hc2 hn2)
       obtain ⟨q0, q1, q2, q3, q4, f5⟩ := HO2.out.cells
       have hlt2 : w.heap.size < w2.heap.size := World.block_lt_of_cell? w2 _ q0
       clear o2 g2 hc2 hn2 hb2 p0 p1 p2 p3 p4 f4 hlt HS HO)
    | (refine wpList_store_row rfl 43 (.tmp 2) (.tmp 7) rfl (w.heap.size + 1) #[.int .i64 g, .int .i64 k, .int .u64 o, .int .u64 a, .slice a' ls.length c'] rfl rfl 43 #[.int .i64 0, .int .i64 0, .int .u64 0, .int .u64 0, .slice none 0 0] HO3.out.two infoE1 rfl (ev_one _ _ _ _ _ _ _) ?_))
  obtain ⟨z1, z2, z3⟩ := HO3.out.fin HR3.out #[.int .i64 g, .int .i64 k, .int .u64 o, .int .u64 a, .slice a' ls.length c']
  refine bodyPost_ret (v := .agg #[.int .i64 g, .int .i64 k, .int .u64 o, .int .u64 a, .slice a' ls.length c']) ?_ ?_ ?_
  · exact results_cell_row Tryz.results35 _ _ (w.heap.size + 1) 43 _ (0, 0) _ rfl z1 Tryz.underlying43 rfl infoE1
  · rfl
  · exact ⟨a', c', rfl, z3, HC.out.1, HC.out.2, z2⟩
theorem rown_any (e : E6.Ev) (w : World) (hs : E6.SRow w e.sa e.ls.length e.ls) (hm : e.ls.length * 16 ≤ 140737488355328) (hz : e.sa = none → e.ls.length = 0 ∧ e.sc = 0) :
    Calls Tryz.prog 38 #[.agg #[.int .i64 e.g, .int .i64 e.k, .int .u64 e.o, .int .u64 e.a, .slice e.sa e.ls.length e.sc]] w (OwnR e w) := by
  obtain ⟨g, k, o, a, sa, sc, ls⟩ := e
  dsimp only at hs hm hz ⊢
  obtain ⟨W, hW⟩ : ∃ W, W = (w.alloc (.cells #[.int .i64 g, .int .i64 k, .int .u64 o, .int .u64 a, .slice sa ls.length sc] 43)).alloc (.cells #[.int .i64 0, .int .i64 0, .int .u64 0, .int .u64 0, .slice none 0 0] 43) := ⟨_, rfl⟩
  have hO : Ow w W g k o a (.slice sa ls.length sc) := by rw [hW]; exact Ow.new _ _ _ _ _ _
  have HS := hide (E6.SRow.bel hs hO.bel)
  have HO := hide hO
  have HW := hide hW
  obtain ⟨p0, p1, p2, p3, p4, f4⟩ := hO.cells
  have hlt : w.heap.size < W.heap.size := World.block_lt_of_cell? W _ p0
  have HZ := hide hz
  have HM := hide hm
  clear hs hO hW hz hm
  go_enter Tryz.func38, Tryz.ntmps38
  go_wp2_with (first
    | (at_builtin; rw [← HW.out]; refine append_str _ rfl _ _ rfl w.heap.size rfl sa ls.length sc ls rfl HS.out HZ.out HM.out HO.out.bel.size ?_
       intro a' c' w2 o2 g2 hc2 hn2
       have hb2 : Below W.heap.size W w2 := ⟨g2.os, g2.tape, g2.output, g2.size, fun q hq => g2.block q hq (by simp)⟩
       have HO2 := hide (HO.out.on hb2)
       have HO3 := hide (HO2.out.set (.slice a' ls.length c'))
       have HR3 := hide (HO2.out.own o2 (.slice a' ls.length c'))
       have HC := hide (And.intro hc2 hn2)
       obtain ⟨q0, q1, q2, q3, q4, f5⟩ := HO2.out.cells
       have hlt2 : w.heap.size < w2.heap.size := World.block_lt_of_cell? w2 _ q0
       clear o2 g2 hc2 hn2 hb2 p0 p1 p2 p3 p4 f4 hlt HS HO)
    | (refine wpList_store_row rfl 43 (.tmp 2) (.tmp 10) rfl (w.heap.size + 1) #[.int .i64 g, .int .i64 k, .int .u64 o, .int .u64 a, .slice a' ls.length c'] rfl rfl 43 #[.int .i64 0, .int .i64 0, .int .u64 0, .int .u64 0, .slice none 0 0] HO3.out.two infoE1 rfl (ev_one _ _ _ _ _ _ _) ?_))
  obtain ⟨z1, z2, z3⟩ := HO3.out.fin HR3.out #[.int .i64 g, .int .i64 k, .int .u64 o, .int .u64 a, .slice a' ls.length c']
  refine bodyPost_ret (v := .agg #[.int .i64 g, .int .i64 k, .int .u64 o, .int .u64 a, .slice a' ls.length c']) ?_ ?_ ?_
  · exact results_cell_row Tryz.results38 _ _ (w.heap.size + 1) 43 _ (0, 0) _ rfl z1 Tryz.underlying43 rfl infoE1
  · rfl
  · exact ⟨a', c', rfl, z3, HC.out.1, HC.out.2, z2⟩
end Go.Proofs.YtaeehnaicnckgaaGreatDoor
namespace Go.Proofs.YtaeehnaicnckgaaGreatDoor
open Go.RowKit Go.Maps Go.Shelf
theorem sInfoI:(Tryz.prog.info? 3).map (fun i=>(i.zero,i.size,i.bytes))=some (some (.int .i64 0),1,8):=by kernel_rfl
def Ok1 (w0 w:World) (e f:E6.Ev):Prop:=e.twin f∧f.ls.length≤f.sc∧(f.sa=none→f.ls.length=0∧f.sc=0)∧w.ownsRow w0.heap.size 9 1 (.slice f.sa f.ls.length f.sc) f.ls.length (f.ls.map Value.string)
structure Mk (w0 wr:World) (L:List E6.Ev) (n j b:Nat) (fs:List E6.Ev):Prop where
 len:fs.length=n
 own:Own sE 43 wr w0.heap.size (.slice (some ⟨b,0,none⟩) n n) fs
 each:∀ i f,i < j→fs[i]?=some f→∃ e,L[i]?=some e∧Ok1 w0 wr e f
 bel:Below w0.heap.size w0 wr
section
variable {w0 wr w2 w3 : World} {L fs : List E6.Ev} {n j b : Nat} {e f : E6.Ev}
theorem Ok1.but {S:Nat→Prop} (h:Ok1 w0 wr e f) (hb:But S wr w2) (hS:∀ q cur,S q→wr.heap[q]?=some (.cells cur 9 (0,0))→False):Ok1 w0 w2 e f:=by
 obtain ⟨h1,h2,h3,h4⟩:=h
 refine ⟨h1,h2,h3,own_but h4 hb (fun g hg hs=>?_)⟩
 rcases h4.2 with ⟨hv,_⟩|⟨g1,c1,cur,hv,_,hh,_⟩
 ·rw [hv] at hg;simp [Value.ownBlock] at hg
 ·rw [hv] at hg
  have e1:g1=g:=by simpa [Value.ownBlock] using hg
  subst e1
  exact hS g1 cur hs hh
theorem Ok1.on (h:Ok1 w0 wr e f) (hb:Below wr.heap.size wr w2):Ok1 w0 w2 e f:=h.but (S:=fun _=>False) (But.of_below hb) (fun _ _ e _=>e)
theorem Mk.start {z:List Value} (hz:z=sE.fl (List.replicate n nE)) (ho:w2.ownsRow w0.heap.size 43 5 (.slice (some ⟨b,0,none⟩) n n) n z) (hb:Below w0.heap.size w0 w2):Mk w0 w2 L n 0 b (List.replicate n nE) :=
 ⟨List.length_replicate,by unfold Own;rw [List.length_replicate,← hz];exact ho,fun i f hi=>absurd hi (Nat.not_lt_zero _),hb⟩
theorem Mk.on (h:Mk w0 wr L n j b fs) (hb:Below wr.heap.size wr w2):Mk w0 w2 L n j b fs :=
 ⟨h.len,h.own.below hb,fun i f hi hf=>by obtain ⟨e,h1,h2⟩:=h.each i f hi hf;exact ⟨e,h1,h2.on hb⟩,h.bel.trans (hb.mono h.bel.size)⟩
theorem Mk.row (h:Mk w0 wr L n j b fs):∃ cur,wr.heap[b]?=some (.cells cur 43 (0,0)):=own_ty h.own rfl
theorem Mk.ge (h:Mk w0 wr L n j b fs):w0.heap.size≤b:=(h.own.lt b rfl).1
theorem Mk.set (h:Mk w0 wr L n j b fs) (hj:j < n) (he:L[j]?=some e) (hf:Ok1 w0 wr e f) :
  Mk w0 (((((wr.setCell ⟨b,j * 5,none⟩ (.int .i64 f.g)).setCell ⟨b,j * 5+1,none⟩ (.int .i64 f.k)).setCell ⟨b,j * 5+2,none⟩ (.int .u64 f.o)).setCell ⟨b,j * 5+3,none⟩ (.int .u64 f.a)).setCell ⟨b,j * 5+4,none⟩ (.slice f.sa f.ls.length f.sc)) L n (j+1) b (fs.set j f):=by
 have hk:But (fun q=>q=b) wr (((((wr.setCell ⟨b,j * 5,none⟩ (.int .i64 f.g)).setCell ⟨b,j * 5+1,none⟩ (.int .i64 f.k)).setCell ⟨b,j * 5+2,none⟩ (.int .u64 f.o)).setCell ⟨b,j * 5+3,none⟩ (.int .u64 f.a)).setCell ⟨b,j * 5+4,none⟩ (.slice f.sa f.ls.length f.sc)) :=
  But.setC (j:=j * 5) (sE.cs f) (But.refl (fun q=>q=b) wr) (fun _=>rfl)
 have hS:∀ q cur,(fun q=>q=b) q→wr.heap[q]?=some (.cells cur 9 (0,0))→False:=fun q cur hq hc=>by
  obtain ⟨cur',hc'⟩:=h.row
  have e9:q=b:=hq
  rw [e9,hc'] at hc
  simp at hc
 refine ⟨by rw [List.length_set];exact h.len,Own.set h.own h.len (by rw [h.len];exact hj) f,fun i f' hi hf'=>?_,h.bel.trans (hk.below h.bel.size (fun q e9=>by have e8:q=b:=e9;rw [e8];exact h.ge))⟩
 by_cases hij:i=j
 ·subst hij
  rw [List.getElem?_set_self (by rw [h.len];exact hj)] at hf'
  cases hf'
  exact ⟨e,he,hf.but hk hS⟩
 ·rw [List.getElem?_set_ne (fun e9=>hij e9.symm)] at hf'
  obtain ⟨e',h1,h2⟩:=h.each i f' (by omega) hf'
  exact ⟨e',h1,h2.but hk hS⟩
theorem Mk.tw (h:Mk w0 wr L n n b fs):E6.Tw w0 wr L n fs (.slice (some ⟨b,0,none⟩) n n):=by
 refine ⟨h.len,?_,fun i f hf=>?_,h.bel⟩
 ·have h1:=h.own
  unfold Own at h1
  rw [h.len] at h1
  rw [ecells_sE]
  exact h1
 ·have hi:i < n:=by have:=(List.getElem?_eq_some_iff.1 hf).1;rw [h.len] at this;exact this
  obtain ⟨e,h1,h2,h3,h4,h5⟩:=h.each i f hi hf
  exact ⟨e,h1,h2,h3,h4,h5⟩
theorem Mk.cells (h:Mk w0 wr L n j b fs) (hj:j < n):∃ x:E6.Ev,wr.cell? ⟨b,j * 5,none⟩=some (.int .i64 x.g)∧wr.cell? ⟨b,j * 5+1,none⟩=some (.int .i64 x.k)∧wr.cell? ⟨b,j * 5+2,none⟩=some (.int .u64 x.o)∧wr.cell? ⟨b,j * 5+3,none⟩=some (.int .u64 x.a)∧wr.cell? ⟨b,j * 5+4,none⟩=some (.slice x.sa x.ls.length x.sc)∧wr.frozen? ⟨b,j * 5,none⟩=false∧wr.frozen? ⟨b,j * 5+1,none⟩=false∧wr.frozen? ⟨b,j * 5+2,none⟩=false∧wr.frozen? ⟨b,j * 5+3,none⟩=false∧wr.frozen? ⟨b,j * 5+4,none⟩=false:=by
 have hx:fs[j]?=some (fs[j]'(by rw [h.len];exact hj)):=List.getElem?_eq_getElem _
 exact ⟨_,h.own.cell hx 0 rfl,h.own.cell hx 1 rfl,h.own.cell hx 2 rfl,h.own.cell hx 3 rfl,h.own.cell hx 4 rfl,h.own.frozen _,h.own.frozen _,h.own.frozen _,h.own.frozen _,h.own.frozen _⟩
end
theorem made_nE (n:Nat):(madeCells (Value.agg #[.int .i64 0,.int .i64 0,.int .u64 0,.int .u64 0,.slice none 0 0]).cells (n * 5)).toList=sE.fl (List.replicate n nE):=made_fl sE nE n
end Go.Proofs.YtaeehnaicnckgaaGreatDoor
