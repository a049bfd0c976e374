import Derived.Test.YthgelfdefkbfeaaGreatDoorZu30
set_option maxRecDepth 8000
set_option maxHeartbeats 8000000
set_option linter.unusedVariables false
namespace Go.Proofs.YthgelfdefkbfeaaGreatDoor
open Go.RowKit Go.Maps Go.Shelf
def kp1 (s:List Bool × List Nat) (p:Nat):List Bool × List Nat:=if s.1[p]?=some true then s else (s.1.set p true,s.2++[p])
def kpAll (s:List Bool × List Nat) (ps:List Nat):List Bool × List Nat:=ps.foldl kp1 s
theorem kp1_old {s:List Bool × List Nat} {p:Nat} (h:s.1[p]?=some true):kp1 s p=s:=if_pos h
theorem kp1_new {s:List Bool × List Nat} {p:Nat} (h:s.1[p]?=some false):kp1 s p=(s.1.set p true,s.2++[p]):=if_neg (by rw [h];simp)
theorem kpAll_take {s:List Bool × List Nat} {ps:List Nat} {j p:Nat} (h:ps[j]?=some p):kpAll s (ps.take (j+1))=kp1 (kpAll s (ps.take j)) p:=by
 obtain ⟨hl,h9⟩:=List.getElem?_eq_some_iff.1 h
 unfold kpAll
 rw [List.take_succ_eq_append_getElem hl,h9,List.foldl_append]
 rfl
theorem kp1_len {s:List Bool × List Nat} {p:Nat}:(kp1 s p).1.length=s.1.length∧(kp1 s p).2.length≤s.2.length+1:=by
 unfold kp1
 split
 ·exact ⟨rfl,by omega⟩
 ·exact ⟨List.length_set,by simp⟩
theorem kpAll_len {ps:List Nat}:∀ {s:List Bool × List Nat},(kpAll s ps).1.length=s.1.length∧(kpAll s ps).2.length≤s.2.length+ps.length:=by
 induction ps with
 | nil=>intro s;exact ⟨rfl,Nat.le_refl _⟩
 | cons p ps ih =>
  intro s
  have h1:=ih (s:=kp1 s p)
  have h2:=kp1_len (s:=s) (p:=p)
  refine ⟨h1.1.trans h2.1,?_⟩
  have h3:=h1.2
  show (kpAll (kp1 s p) ps).2.length≤_
  rw [List.length_cons]
  omega
structure Kst (wb w:World) (b n bk bl kb:Nat) (v:Si) (s:List Bool × List Nat):Prop where
 k:w.heap[bk]?=some (.cells #[.slice (some ⟨kb,0,none⟩) n n] 23 (0,0))
 l:w.heap[bl]?=some (.cells #[.slice v.a v.n v.c] 34 (0,0))
 lo:Own sI 3 w b v.val (intP s.2)
 own:Own sB 4 w 0 (.slice (some ⟨kb,0,none⟩) n n) s.1
 len:s.1.length=n
 gel:b≤bl
 but:But (fun q=>q=kb∨b≤q) wb w
section
variable {wb w w' : World} {b n bk bl kb p : Nat} {v v' : Si} {s : List Bool × List Nat} {x : Bool}
theorem Kst.on (h:Kst wb w b n bk bl kb v s) (hb:Below w.heap.size w w'):Kst wb w' b n bk bl kb v s :=
 ⟨(hb.block _ (lt_cells h.k)).trans h.k,(hb.block _ (lt_cells h.l)).trans h.l,h.lo.below hb,h.own.below hb,h.len,h.gel,h.but.trans (But.of_below (S:=fun _=>False) hb) (fun _ _ e=>e.elim)⟩
theorem Kst.kk (h:Kst wb w b n bk bl kb v s):kb≠bk:=fun e=>own_ne_cells h.own h.k (by decide) (by rw [e];rfl)
theorem Kst.kl (h:Kst wb w b n bk bl kb v s):kb≠bl:=fun e=>own_ne_cells h.own h.l (by decide) (by rw [e];rfl)
theorem Kst.ne (h:Kst wb w b n bk bl kb v s):bk≠bl:=fun e=>by
 have h1:=h.k
 rw [e,h.l] at h1
 injection h1 with h1
 injection h1 with h2 h3 h4
 exact absurd h3 (by decide)
theorem Kst.cell (h:Kst wb w b n bk bl kb v s) (hx:s.1[p]?=some x):w.cell? ⟨kb,p,none⟩=some (.bool x)∧w.frozen? ⟨kb,p,none⟩=false:=by
 have h1:=h.own.cell hx 0 rfl
 rw [Nat.add_zero,show p * sB.z=p from Nat.mul_one p] at h1
 exact ⟨h1,h.own.frozen _⟩
theorem Kst.set (h:Kst wb w b n bk bl kb v s) (hx:s.1[p]?=some x):Kst wb (w.setCell ⟨kb,p,none⟩ (.bool true)) b n bk bl kb v (s.1.set p true,s.2):=by
 have hb:But (fun q=>q=kb) w (w.setCell ⟨kb,p,none⟩ (.bool true)):=(But.refl (fun q=>q=kb) w).setCell ⟨kb,p,none⟩ (fun _=>rfl) _
 have h1:=h.own.setU (t:=0) (u:=.bool true) (a':=true) h.len hx (by decide) rfl
 rw [Nat.add_zero,show p * sB.z=p from Nat.mul_one p] at h1
 refine ⟨(hb.block _ (lt_cells h.k) (fun e=>h.kk e.symm)).trans h.k,(hb.block _ (lt_cells h.l) (fun e=>h.kl e.symm)).trans h.l,h.lo.but hb (fun g hg e=>?_),h1,by rw [List.length_set];exact h.len,h.gel,h.but.setCell ⟨kb,p,none⟩ (fun _=>.inl rfl) _⟩
 have e9:g=kb:=e
 subst e9
 obtain ⟨c1,h3⟩:=own_ty h.lo hg
 obtain ⟨c2,h4⟩:=own_ty h.own rfl
 rw [h3] at h4
 injection h4 with h4
 injection h4 with h5 h6 h7
 exact absurd h6 (by decide)
theorem Kst.push (h:Kst wb w b n bk bl kb v s) (ho:Own sI 3 w' b v'.val (intP (s.2++[p]))) (hg:w.grownBy w' v.val.ownBlock):Kst wb (w'.setCell ⟨bl,0,none⟩ (.slice v'.a v'.n v'.c)) b n bk bl kb v' (s.1,s.2++[p]):=by
 have b2:But (fun q=>v.val.ownBlock=some q) w w':=(But.refl _ w).grown hg (fun k _ e=>e)
 have n1:v.val.ownBlock≠some bl:=own_ne_cells h.lo h.l (by decide)
 have n2:v.val.ownBlock≠some bk:=own_ne_cells h.lo h.k (by decide)
 have n3:v.val.ownBlock≠some kb:=fun hg=>by
  obtain ⟨c1,h3⟩:=own_ty h.lo hg
  obtain ⟨c2,h4⟩:=own_ty h.own rfl
  rw [h3] at h4
  injection h4 with h4
  injection h4 with h5 h6 h7
  exact absurd h6 (by decide)
 have hl':w'.heap[bl]?=some (.cells #[.slice v.a v.n v.c] 34 (0,0)):=(b2.block _ (lt_cells h.l) n1).trans h.l
 have hk':w'.heap[bk]?=some (.cells #[.slice (some ⟨kb,0,none⟩) n n] 23 (0,0)):=(b2.block _ (lt_cells h.k) n2).trans h.k
 have b3:But (fun q=>q=bl) w' (w'.setCell ⟨bl,0,none⟩ (.slice v'.a v'.n v'.c)):=(But.refl (fun q=>q=bl) w').setCell ⟨bl,0,none⟩ (fun _=>rfl) _
 have n4:v'.val.ownBlock≠some bl:=own_ne_cells ho hl' (by decide)
 have r1:Own sB 4 w' 0 (.slice (some ⟨kb,0,none⟩) n n) s.1:=h.own.but b2 (fun g hg e=>by
  have e8:kb=g:=by simpa [Value.ownBlock] using hg
  exact n3 (by rw [e8];exact e))
 have r2:Own sB 4 (w'.setCell ⟨bl,0,none⟩ (.slice v'.a v'.n v'.c)) 0 (.slice (some ⟨kb,0,none⟩) n n) s.1:=r1.but b3 (fun g hg e=>by
  have e9:g=bl:=e
  have e8:kb=g:=by simpa [Value.ownBlock] using hg
  exact h.kl (e8.trans e9))
 refine ⟨(b3.block _ (lt_cells hk') h.ne).trans hk',one_setCell hl',ho.but b3 (fun g hg e=>n4 (by have e9:g=bl:=e;rw [← e9];exact hg)),r2,h.len,h.gel,(h.but.grown hg (fun k _ e=>.inr (h.lo.lt k e).1)).setCell ⟨bl,0,none⟩ (fun _=>.inr h.gel) _⟩
end
theorem trow_but {α:Type} {y:Lay α} {S:Nat→Prop} {w w':World} {a:Option Addr} {n:Nat} {L:List α} (h:TRow y w a n L) (hb:But S w w') (hS:∀ q,a=some q→¬ S q.block):TRow y w' a n L:=by
 refine ⟨h.len,h.cells.imp id ?_⟩
 rintro ⟨b,off,ha,hc⟩
 refine ⟨b,off,ha,fun i r hr t u hu=>?_⟩
 have c0:=hc i r hr t u hu
 have hlt:=World.block_lt_of_cell? w _ c0
 have h1:=hb.block b hlt (hS _ ha)
 unfold World.cell? at c0 ⊢
 simp only at c0 ⊢
 rw [h1]
 exact c0
end Go.Proofs.YthgelfdefkbfeaaGreatDoor
namespace Go.Proofs.YthgelfdefkbfeaaGreatDoor
open Go.RowKit Go.Maps Go.Shelf
theorem keep_any {wb w:World} {b n bk bl kb m d:Nat} {v:Si} {s:List Bool × List Nat} {qd:Option Addr} {qs:List Nat} (h:Kst wb w b n bk bl kb v s) (hq:TRow sI wb qd m (intP qs)) (hqb:0 < m→∀ a,qd=some a→a.block≠kb∧a.block < b) (hbw:b≤w.heap.size) (hqn:∀ p ∈ qs,p < n) (hL:(s.2.length+m+1) * 8≤140737488355328) (hn:n≤1048576) :
  Calls Tryz.prog 32 #[.slice qd m d,.pointer (some ⟨bk,0,none⟩),.pointer (some ⟨bl,0,none⟩)] w fun r w'=>r=.returned (.tuple #[])∧∃ v',Kst wb w' b n bk bl kb v' (kpAll s qs):=by
 have hm:qs.length=m:=by have:=hq.len;rw [intP_len] at this;exact this
 have HK:=hide h
 have HQ:=hide hq
 have HB:=hide hqb
 have HN:=hide hqn
 have HL:=hide hL
 have HM:=hide hm
 have hmI:(m:Int)≤9223372036854775806:=by omega
 have hnI:(n:Int)≤9223372036854775806:=by omega
 obtain ⟨i0,hi0,hz0,hz1,hz2⟩:=info_parts sInfoI
 clear h hq hqb hqn hL hm hn
 go_enter Tryz.func32,Tryz.ntmps32
 go_wp2
 go_loopw [8] (fun t wr=>∃ j:Nat,j≤m∧t=.int .i64 j∧Hid (w.heap.size≤wr.heap.size∧∃ v',Kst wb wr b n bk bl kb v' (kpAll s (qs.take j)))) (fun t _=>m - (intOf t).toNat)
 case atStart=>exact ⟨0,Nat.zero_le _,rfl,hide ⟨Nat.le_refl _,v,by simpa [kpAll] using HK.out⟩⟩
 case round =>
  clear HK
  obtain ⟨j,hj,rfl,HJ0⟩:=hrel
  obtain ⟨hsz,u,hJ⟩:=HJ0.out
  by_cases hlt:j < m
  ·have hjI:(j:Int) < m:=by omega
   have hj0:(0:Int)≤j:=by omega
   obtain ⟨p,hp⟩:∃ p,qs[j]?=some p:=⟨_,List.getElem?_eq_getElem (by rw [HM.out];exact hlt)⟩
   have hpn:=HN.out p (List.mem_of_getElem? hp)
   have hpI:(p:Int) < n:=by omega
   have hp0:(0:Int)≤p:=by omega
   have hrow:TRow sI wr qd m (intP qs):=trow_but HQ.out hJ.but (fun q hq e=>by
    obtain ⟨n1,n2⟩:=HB.out (by omega) q hq
    rcases e with e|e
    ·exact n1 e
    ·omega)
   obtain ⟨b1,o1,e1,d1⟩:=sI_cell hrow (i:=j) (x:=(p:Int)) (by unfold intP;rw [List.getElem?_map,hp];rfl)
   have ck:=cell_of_one hJ.k
   have cl:=cell_of_one hJ.l
   have hx0:p < (kpAll s (qs.take j)).1.length:=by rw [hJ.len];exact hpn
   obtain ⟨x,hx⟩:∃ x,(kpAll s (qs.take j)).1[p]?=some x:=⟨_,List.getElem?_eq_getElem hx0⟩
   obtain ⟨cp,fp⟩:=hJ.cell hx
   have HT:=hide (kpAll_take (s:=s) hp)
   have HS:=hide hsz
   have HW:=hide hJ
   subst e1
   cases x with
   | true =>
    have HJ2:Hid (w.heap.size≤wr.heap.size∧∃ v',Kst wb wr b n bk bl kb v' (kpAll s (qs.take (j+1)))):=hide ⟨hsz,u,by rw [HT.out,kp1_old hx];exact hJ⟩
    clear hx hJ hsz hrow hx0 hp
    go_wp2
    exact ⟨⟨j+1,by omega,by go_num,HJ2⟩,by simp [intOf];omega⟩
   | false =>
    have hJ1:=hJ.set hx
    have cl1:=cell_of_one hJ1.l
    have HLn:Hid (((intP (kpAll s (qs.take j)).2).length+1) * 8≤140737488355328):=hide (by
     rw [intP_len]
     have h1:=(kpAll_len (s:=s) (ps:=qs.take j)).2
     rw [List.length_take] at h1
     have:=HL.out
     omega)
    have HJ1:=hide hJ1
    have HJA:=hide (hJ1.on (below_alloc1 _ (.cells #[.int .i64 (p:Int)] 3)))
    have HX:=hide hx
    have hsw:(wr.setCell ⟨kb,p,none⟩ (.bool true)).heap.size=wr.heap.size:=by simp [World.setCell]
    have HT1:Hid (TRow sI ((wr.setCell ⟨kb,p,none⟩ (.bool true)).alloc (.cells #[.int .i64 (p:Int)] 3)) (some ⟨wr.heap.size,0,none⟩) 1 [(p:Int)]):=hide (by
     have h1:=heap_new (wr.setCell ⟨kb,p,none⟩ (.bool true)) (.cells #[.int .i64 (p:Int)] 3)
     rw [hsw] at h1
     exact TRow.one h1)
    clear hx hJ hsz hrow hx0 hp hJ1
    clear hsw
    have HbW:Hid (b≤(wr.setCell ⟨kb,p,none⟩ (.bool true)).heap.size):=hide (by
     have h1:=(wr.setCell ⟨kb,p,none⟩ (.bool true)).heap.size
     have h2:(wr.setCell ⟨kb,p,none⟩ (.bool true)).heap.size=wr.heap.size:=by simp [World.setCell]
     rw [h2];have:=HS.out;omega)
    have HbA:Hid (b≤((wr.setCell ⟨kb,p,none⟩ (.bool true)).alloc (.cells #[.int .i64 (p:Int)] 3)).heap.size):=hide (by rw [World.size_alloc];exact Nat.le_succ_of_le HbW.out)
    generalize hPP:intP (kpAll s (qs.take j)).2=PP at HLn
    have HLO:Hid (Own sI 3 ((wr.setCell ⟨kb,p,none⟩ (.bool true)).alloc (.cells #[.int .i64 (p:Int)] 3)) b (.slice u.a u.n u.c) PP):=hide (by rw [← hPP];exact HJA.out.lo)
    have HPP:=hide hPP
    clear hPP
    go_wp2_with (at_builtin;go_loud (refine append_lay sI _ 34 3 i0 _ 8 Tryz.underlying34 hi0 hz0 hz1 hz2 rfl rfl _ _ rfl b _ PP rfl HLO.out _ 1 1 [(p:Int)] rfl HT1.out (fun e=>by cases e) ?b1 ?b2 HbA.out ?_))
    case b1=>unfold maxLen;have:=HLn.out;omega
    case b2=>have:=HLn.out;omega
    intro v' w' o2 g2 l2
    obtain ⟨a',c',hv,_⟩:=own_form o2
    subst hv
    have hJ3:=HJA.out.push (p:=p) (v':=⟨a',_,c'⟩) (by rw [intP_snoc,HPP.out];exact o2) g2
    have HJ3:Hid (w.heap.size≤(w'.setCell ⟨bl,0,none⟩ (.slice a' (PP++[(p:Int)]).length c')).heap.size∧∃ v',Kst wb (w'.setCell ⟨bl,0,none⟩ (.slice a' (PP++[(p:Int)]).length c')) b n bk bl kb v' (kpAll s (qs.take (j+1)))):=hide ⟨by
     have h1:=g2.size
     have h2:(w'.setCell ⟨bl,0,none⟩ (.slice a' (PP++[(p:Int)]).length c')).heap.size=w'.heap.size:=by simp [World.setCell]
     have h3:(wr.setCell ⟨kb,p,none⟩ (.bool true)).heap.size=wr.heap.size:=by simp [World.setCell]
     rw [World.size_alloc,h3] at h1
     rw [h2]
     have:=HS.out
     omega,_,by rw [HT.out,kp1_new HX.out];exact hJ3⟩
    have HLp:=hide (HJA.out)
    have cl2:w'.cell? ⟨bl,0,none⟩=some (.slice u.a u.n u.c):=by
     refine cell_of_one (t:=34) ?_
     exact (g2.block _ (lt_cells HJA.out.l) (Ne.symm (own_ne_cells HJA.out.lo HJA.out.l (by decide)))).trans HJA.out.l
    have fl2:w'.frozen? ⟨bl,0,none⟩=false:=by
     refine free_of_one (v:=.slice u.a u.n u.c) (t:=34) ?_
     exact (g2.block _ (lt_cells HJA.out.l) (Ne.symm (own_ne_cells HJA.out.lo HJA.out.l (by decide)))).trans HJA.out.l
    clear o2 g2 l2 hJ3
    go_wp2
    rw [List.length_append,List.length_singleton] at HJ3
    exact ⟨⟨j+1,by omega,by go_num,HJ3⟩,by simp [intOf];omega⟩
  ·have h9:j=m:=by omega
   subst h9
   have hjI:¬ (j:Int) < j:=by omega
   have HJ2:Hid (∃ v',Kst wb wr b n bk bl kb v' (kpAll s qs)):=hide ⟨u,by
    have e9:qs.take j=qs:=List.take_of_length_le (by rw [HM.out];exact Nat.le_refl _)
    rw [e9] at hJ
    exact hJ⟩
   clear hlt hJ
   go_wp2
   go_end0
   exact ⟨rfl,HJ2.out⟩
end Go.Proofs.YthgelfdefkbfeaaGreatDoor
namespace Go.Proofs.YthgelfdefkbfeaaGreatDoor
open Go.RowKit Go.Maps Go.Shelf
inductive Rc (N:Nat→List Nat) (P:Nat→Prop):Nat→Prop where
 | base {p:Nat}:P p→Rc N P p
 | step {q p:Nat}:Rc N P q→p ∈ N q→Rc N P p
theorem Rc.mono {N:Nat→List Nat} {P Q:Nat→Prop} (h:∀ p,P p→Q p) {p:Nat} (hp:Rc N P p):Rc N Q p:=by
 induction hp with
 | base h1=>exact .base (h _ h1)
 | step _ h2 ih=>exact .step ih h2
theorem Rc.union {N:Nat→List Nat} {P Q:Nat→Prop} {p:Nat}:Rc N (fun x=>P x∨Q x) p ↔ Rc N P p∨Rc N Q p:=by
 constructor
 ·intro hp
  induction hp with
  | base h1=>exact h1.imp .base .base
  | step _ h2 ih=>exact ih.imp (.step · h2) (.step · h2)
 ·rintro (h|h)
  ·exact h.mono fun _=>.inl
  ·exact h.mono fun _=>.inr
theorem Rc.none {N:Nat→List Nat} {P:Nat→Prop} (h:∀ p,¬ P p) {p:Nat} (hp:Rc N P p):False:=by
 induction hp with
 | base h1=>exact h _ h1
 | step _ _ ih=>exact ih
noncomputable def clo (N:Nat→List Nat) (P:Nat→Prop) (n:Nat):List Bool:=(List.range n).map fun p=>@decide (Rc N P p) (Classical.propDecidable _)
theorem clo_len {N:Nat→List Nat} {P:Nat→Prop} {n:Nat}:(clo N P n).length=n:=by simp [clo]
theorem clo_at {N:Nat→List Nat} {P:Nat→Prop} {n p:Nat} (h:p < n):(clo N P n)[p]?=some true ↔ Rc N P p:=by
 unfold clo
 rw [List.getElem?_map,List.getElem?_range h]
 simp
def muK (s:List Bool × List Nat):Nat:=2 * s.1.count false+s.2.length
theorem bool_at {L:List Bool} {p:Nat} (h:p < L.length):L[p]?=some true∨L[p]?=some false:=by
 rw [List.getElem?_eq_getElem h]
 cases L[p] <;> simp
theorem count_set {L:List Bool} {p:Nat} (h:L[p]?=some false):(L.set p true).count false+1=L.count false:=by
 induction L generalizing p with
 | nil=>simp at h
 | cons x L ih =>
  cases p with
  | zero =>
   simp at h
   subst h
   simp
  | succ p =>
   have:=ih (p:=p) (by simpa using h)
   rw [List.set_cons_succ,List.count_cons,List.count_cons]
   omega
structure KpS (s t:List Bool × List Nat) (ps:List Nat):Prop where
 len:t.1.length=s.1.length
 up:∀ p:Nat,s.1[p]?=some true→t.1[p]?=some true
 all:∀ p ∈ ps,t.1[p]?=some true
 new:∀ p:Nat,t.1[p]?=some true→s.1[p]?=some true∨p ∈ ps
 lft:∀ p:Nat,t.1[p]?=some true→s.1[p]?=some true∨p ∈ t.2
 sub:∀ p ∈ s.2,p ∈ t.2
 old:∀ p ∈ t.2,p ∈ s.2∨t.1[p]?=some true
 mu:muK t≤muK s
theorem kpS_nil {s:List Bool × List Nat}:KpS s s [] :=
 ⟨rfl,fun _ h=>h,fun _ h=>(by cases h),fun _ h=>.inl h,fun _ h=>.inl h,fun _ h=>h,fun _ h=>.inl h,Nat.le_refl _⟩
theorem kpS_one {s:List Bool × List Nat} {p:Nat} (h:p < s.1.length):KpS s (kp1 s p) [p]:=by
 rcases bool_at h with h1|h1
 ·rw [kp1_old h1]
  exact ⟨rfl,fun _ h=>h,fun q hq=>(by rw [List.mem_singleton.1 hq];exact h1),fun _ h=>.inl h,fun _ h=>.inl h,fun _ h=>h,fun _ h=>.inl h,Nat.le_refl _⟩
 ·rw [kp1_new h1]
  have e1:(s.1.set p true)[p]?=some true:=List.getElem?_set_self h
  have e2:∀ q:Nat,q≠p→(s.1.set p true)[q]?=s.1[q]?:=fun q hq=>List.getElem?_set_ne (fun e=>hq e.symm)
  refine ⟨List.length_set,fun q hq=>?_,fun q hq=>?_,fun q hq=>?_,fun q hq=>?_,fun q hq=>List.mem_append_left _ hq,fun q hq=>?_,?_⟩
  ·by_cases e:q=p
   ·rw [e];exact e1
   ·show (s.1.set p true)[q]?=_
    rw [e2 q e];exact hq
  ·rw [List.mem_singleton.1 hq];exact e1
  ·by_cases e:q=p
   ·exact .inr (by rw [e];simp)
   ·have hq:(s.1.set p true)[q]?=_:=hq
    rw [e2 q e] at hq;exact .inl hq
  ·by_cases e:q=p
   ·exact .inr (by rw [e];simp)
   ·have hq:(s.1.set p true)[q]?=_:=hq
    rw [e2 q e] at hq;exact .inl hq
  ·rcases List.mem_append.1 hq with h2|h2
   ·exact .inl h2
   ·exact .inr (by rw [List.mem_singleton.1 h2];exact e1)
  ·have:=count_set h1
   unfold muK
   simp only [List.length_append,List.length_singleton]
   omega
theorem KpS.trans {s t u:List Bool × List Nat} {ps qs:List Nat} (h:KpS s t ps) (k:KpS t u qs):KpS s u (ps++qs) :=
 ⟨k.len.trans h.len,fun p hp=>k.up p (h.up p hp),fun p hp=>(List.mem_append.1 hp).elim (fun e=>k.up p (h.all p e)) (k.all p),
  fun p hp=>(k.new p hp).elim (fun e=>(h.new p e).imp id (List.mem_append_left _)) (fun e=>.inr (List.mem_append_right _ e)),
  fun p hp=>(k.lft p hp).elim (fun e=>(h.lft p e).imp id (k.sub p)) .inr,
  fun p hp=>k.sub p (h.sub p hp),fun p hp=>(k.old p hp).elim (fun e=>(h.old p e).imp id (k.up p)) .inr,Nat.le_trans k.mu h.mu⟩
theorem kpS_all:∀ {ps:List Nat} {s:List Bool × List Nat},(∀ p ∈ ps,p < s.1.length)→KpS s (kpAll s ps) ps
 | [],s,_=>kpS_nil
 | p :: ps,s,h=>by
  have h1:=kpS_one (s:=s) (h p (List.mem_cons_self ..))
  have h2:=kpS_all (ps:=ps) (s:=kp1 s p) (fun q hq=>by rw [h1.len];exact h q (List.mem_cons_of_mem _ hq))
  exact h1.trans h2
structure Jk (N:Nat→List Nat) (P:Nat→Prop) (n:Nat) (s:List Bool × List Nat):Prop where
 len:s.1.length=n
 snd:∀ p:Nat,s.1[p]?=some true→Rc N P p
 lft:∀ p ∈ s.2,s.1[p]?=some true
 don:∀ q:Nat,s.1[q]?=some true→q ∉ s.2→∀ p ∈ N q,s.1[p]?=some true
 bas:∀ p:Nat,P p→s.1[p]?=some true
 mu:muK s≤2 * n
theorem jk_new {N:Nat→List Nat} {n:Nat} {ps:List Nat} (hp:∀ p ∈ ps,p < n):Jk N (· ∈ ps) n (kpAll (List.replicate n false,[]) ps):=by
 have h0:∀ p:Nat,(List.replicate n false)[p]?≠some true:=fun p e=>by
  have:=List.mem_of_getElem? e
  simp at this
 have h:=kpS_all (ps:=ps) (s:=(List.replicate n false,[])) (fun p h=>by simp;exact hp p h)
 refine ⟨by rw [h.len];simp,fun p hp=>.base ((h.new p hp).resolve_left (h0 p)),fun p hp=>(h.old p hp).resolve_left (by simp),fun q hq hn=>absurd ((h.lft q hq).resolve_left (h0 q)) hn,h.all,Nat.le_trans h.mu ?_⟩
 simp [muK]
theorem Jk.pop {N:Nat→List Nat} {P:Nat→Prop} {n q:Nat} {s:List Bool × List Nat} {l:List Nat} (h:Jk N P n s) (hN:∀ q p,p ∈ N q→p < n) (hl:s.2=l++[q]) :
  Jk N P n (kpAll (s.1,l) (N q))∧muK (kpAll (s.1,l) (N q)) < muK s:=by
 have k:=kpS_all (ps:=N q) (s:=(s.1,l)) (fun p hp=>by show p < s.1.length;rw [h.len];exact hN q p hp)
 have hq:s.1[q]?=some true:=h.lft q (by rw [hl];simp)
 have hm:muK (s.1,l)+1=muK s:=by
  unfold muK
  rw [hl]
  simp
  omega
 have hm2:=k.mu
 refine ⟨⟨k.len.trans h.len,fun p hp=>(k.new p hp).elim (h.snd p) (fun e=>.step (h.snd q hq) e),fun p hp=>(k.old p hp).elim (fun e=>k.up p (h.lft p (by rw [hl];exact List.mem_append_left _ e))) id,fun r hr hn p hp=>?_,fun p hp=>k.up p (h.bas p hp),by have:=h.mu;omega⟩,by omega⟩
 rcases k.lft r hr with h1|h1
 ·by_cases e:r=q
  ·subst e
   exact k.all p hp
  ·exact k.up p (h.don r h1 (fun h2=>by
    rw [hl] at h2
    rcases List.mem_append.1 h2 with h3|h3
    ·exact hn (k.sub r h3)
    ·exact e (List.mem_singleton.1 h3)) p hp)
 ·exact absurd h1 hn
theorem Jk.fin {N:Nat→List Nat} {P:Nat→Prop} {n:Nat} {s:List Bool × List Nat} (h:Jk N P n s) (hN:∀ q p,p ∈ N q→p < n) (hP:∀ p,P p→p < n) (h0:s.2=[]):s.1=clo N P n:=by
 have h1:∀ p,Rc N P p→s.1[p]?=some true:=fun p hp=>by
  induction hp with
  | base e=>exact h.bas _ e
  | step _ e ih=>exact h.don _ ih (by rw [h0];simp) _ e
 apply List.ext_getElem?
 intro p
 by_cases hp:p < n
 ·have a1:p < s.1.length:=by rw [h.len];exact hp
  have a2:p < (clo N P n).length:=by rw [clo_len];exact hp
  by_cases hr:Rc N P p
  ·rw [h1 p hr,(clo_at hp).2 hr]
  ·have b1:=(bool_at a1).resolve_left (fun e=>hr (h.snd p e))
   have b2:=(bool_at a2).resolve_left (fun e=>hr ((clo_at hp).1 e))
   rw [b1,b2]
 ·rw [List.getElem?_eq_none (by rw [h.len];omega),List.getElem?_eq_none (by rw [clo_len];omega)]
theorem Jk.left {N:Nat→List Nat} {P:Nat→Prop} {n:Nat} {s:List Bool × List Nat} (h:Jk N P n s):s.2.length≤2 * n:=by
 have:=h.mu
 unfold muK at this
 omega
structure LsB (M:Ls) (i:Nat):Prop where
 ld:∀ t p,M.ld t=some p→p < i
 op:∀ t p,p ∈ M.op t→p < i
 N:∀ j p,p ∈ M.N j→p < i
section
variable {M : Ls} {i j p : Nat} {t : Th} {e : Me}
theorem LsB.up (h:LsB M i) (hij:i≤j):LsB M j:=⟨fun t p e=>Nat.lt_of_lt_of_le (h.ld t p e) hij,fun t p e=>Nat.lt_of_lt_of_le (h.op t p e) hij,fun k p e=>Nat.lt_of_lt_of_le (h.N k p e) hij⟩
theorem LsB.need (h:LsB M i) (hp:p < i):LsB (M.need j p) i:=⟨h.ld,h.op,fun k q e=>by
 have e:q ∈ (if k=j then M.N j++[p] else M.N k):=e
 split at e
 ·rcases List.mem_append.1 e with e|e
  ·exact h.N j q e
  ·rw [List.mem_singleton.1 e];exact hp
 ·exact h.N k q e⟩
theorem LsB.lead (h:LsB M i) (hj:j < i):LsB (M.lead j t) i:=⟨fun u q e=>by
 have e:setT M.ld t (some j) u=some q:=e
 unfold setT at e
 split at e
 ·cases e;exact hj
 ·exact h.ld u q e,h.op,h.N⟩
theorem LsB.follow (h:LsB M i):LsB (M.follow j t) i:=by
 unfold Ls.follow
 split
 ·exact h
 ·rename_i p hp
  exact h.need (h.ld t p hp)
theorem LsB.chain (h:LsB M i) (hj:j < i):LsB (M.chain j t) i:=h.follow.lead hj
theorem LsB.push (h:LsB M i) (hj:j < i):LsB (M.push j t) i:=⟨h.ld,fun u q e=>by
 have e:q ∈ (if u=t then M.op t++[j] else M.op u):=e
 split at e
 ·rcases List.mem_append.1 e with e|e
  ·exact h.op t q e
  ·rw [List.mem_singleton.1 e];exact hj
 ·exact h.op u q e,h.N⟩
theorem LsB.pop (h:LsB M i):LsB (M.pop t) i:=⟨h.ld,fun u q e=>by
 have e:q ∈ (if u=t then (M.op t).take ((M.op t).length - 1) else M.op u):=e
 split at e
 ·exact h.op t q (List.mem_of_mem_take e)
 ·exact h.op u q e,h.N⟩
theorem LsB.fin (h:LsB M i) (hj:j < i):LsB (M.fin j t) i:=by
 unfold Ls.fin
 split
 ·exact h
 ·rename_i p hp
  exact (h.pop.need (h.op t p (List.mem_of_getLast? hp))).need hj
theorem ite_b {c:Prop} [Decidable c] {A B:Ls} (h1:LsB A i) (h2:LsB B i):LsB (if c then A else B) i:=by
 by_cases hc:c
 ·rw [if_pos hc];exact h1
 ·rw [if_neg hc];exact h2
theorem LsB.take (h:LsB M i) (hj:j < i):LsB (M.take j e) i:=by
 unfold Ls.take
 exact ite_b (h.lead hj) (ite_b h.follow (ite_b (h.push hj) (ite_b (h.fin hj) (ite_b ((h.push hj).chain hj) (ite_b ((h.fin hj).chain hj) (ite_b (h.chain hj) (ite_b (h.chain hj) (ite_b h.follow (ite_b (ite_b (h.lead hj) h.follow) (ite_b (h.push hj) (ite_b (h.fin hj) h)))))))))))
theorem lsAt_b {es:List Me}:∀ {j:Nat},LsB (lsAt es j) j
 | 0=>⟨fun t p e=>(by cases e),fun t p e=>(by cases e),fun k p e=>(by cases e)⟩
 | j+1=>by
  have ih:=lsAt_b (es:=es) (j:=j)
  rw [lsAt]
  split
  ·exact ((ih.up (Nat.le_succ j)).follow).take (Nat.lt_succ_self j)
  ·exact ih.up (Nat.le_succ j)
end
theorem nds_lt {es:List E6.Ev}:∀ q p,p ∈ nds es q→p < es.length:=fun q p h=>(lsAt_b (es:=es.map me) (j:=es.length)).N q p h
end Go.Proofs.YthgelfdefkbfeaaGreatDoor
