import Derived.Test.YtaeehnaicnckgaaGreatDoorZo30
set_option maxRecDepth 8000
set_option maxHeartbeats 8000000
set_option linter.unusedVariables false
namespace Go.Proofs.YtaeehnaicnckgaaGreatDoor
open Go.RowKit Go.Maps
theorem rzag_any (a:Int) (w:World) (h1:0≤a) (h2:a≤4294967295) :
  Calls Tryz.prog 155 #[.int .u64 a] w fun e w'=>e=.returned (.int .i64 (mzag a))∧w'=w:=by
 obtain ⟨R,hR⟩:∃ R,R=mzag a:=⟨_,rfl⟩
 rw [← hR]
 have e1:a.tmod 2=a % 2:=Int.tmod_eq_emod_of_nonneg h1
 have e2:a.tdiv 2=a / 2:=Int.tdiv_eq_ediv_of_nonneg h1
 have hw0:IntKind.u64.wrap (a % 2)=a % 2:=by rw [IntKind.wrap_u64];omega
 have hw1:IntKind.u64.wrap (a / 2)=a / 2:=by rw [IntKind.wrap_u64];omega
 have hw2:IntKind.i64.wrap (a / 2)=a / 2:=by rw [IntKind.wrap_i64];omega
 have hw3:IntKind.i64.wrap (-(a / 2))=-(a / 2):=by rw [IntKind.wrap_i64];omega
 have hw4:IntKind.i64.wrap (-(a / 2) - 1)=-(a / 2) - 1:=by rw [IntKind.wrap_i64];omega
 by_cases h:a % 2=0
 ·have hb:=beq_t h
  have H9:Hid (R=a / 2):=hide (by rw [hR];exact if_pos h)
  clear hR
  go_enter Tryz.func155,Tryz.ntmps155
  go_wp2
  go_ret
  exact ⟨by rw [H9.out];rfl,rfl⟩
 ·have hb:=beq_f h
  have H9:Hid (R=-(a / 2) - 1):=hide (by rw [hR];exact if_neg h)
  clear hR
  go_enter Tryz.func155,Tryz.ntmps155
  go_wp2
  go_ret
  exact ⟨by rw [H9.out];rfl,rfl⟩
theorem mzag_bd {a:Int} (h1:0≤a) (h2:a≤4294967295):-4294967296≤mzag a∧mzag a≤4294967296:=by
 unfold mzag;split <;> omega
theorem cnZ_bd {T:List Me} (h:∀ e ∈ T,e.k=14→0≤e.a∧e.a≤4294967295) (o:Int):-(T.length * 4294967296:Int)≤cnZ T o∧cnZ T o≤(T.length * 4294967296:Int):=by
 induction T with
 | nil=>exact ⟨Int.le_refl _,Int.le_refl _⟩
 | cons x T ih =>
  have h1:=ih fun e he=>h e (List.mem_cons_of_mem _ he)
  rw [cnZ,List.length_cons]
  by_cases hk:x.k=14∧x.o=o
  ·have h2:=h x (List.mem_cons_self ..) hk.1
   have h3:=mzag_bd h2.1 h2.2
   rw [if_pos hk]
   omega
  ·rw [if_neg hk]
   omega
theorem rcounter_any (ad:Option Addr) (n c:Nat) (es:List E6.Ev) (w:World) (hr:E6.ERow w ad n es) (hn:(n:Int)≤1048576) (hg:∀ e ∈ es,Eb e.g e.k e.o e.a) (ob:Int) :
  Calls Tryz.prog 154 #[.slice ad n c,.int .u64 ob] w fun e w'=>e=.returned (.int .i64 (cnZ (es.map me) ob))∧w'=w:=by
 have HE:=hide hr
 have HG:=hide hg
 have HBd:Hid (∀ j,j≤n→-4503599627370496≤cnZ (Tj es j) ob∧cnZ (Tj es j) ob≤4503599627370496):=hide (fun j hj=>by
  have h1:=cnZ_bd (T:=Tj es j) (fun e he hk=>by
   unfold Tj at he
   obtain ⟨x,hx,rfl⟩:=List.mem_map.1 he
   have h2:=hg x (List.mem_of_mem_take hx)
   exact ⟨h2.ok.a0,h2.ct hk⟩) ob
  rw [Tj_len hr.len hj] at h1
  omega)
 clear hr hg
 go_enter Tryz.func154,Tryz.ntmps154
 go_wp2
 go_loopw [5,6] (fun m i wr=>∃ (j:Nat),j≤n∧i=.int .i64 j∧m=.int .i64 (cnZ (Tj es j) ob)∧wr=w) (fun _ i _=>n - (intOf i).toNat)
 case atStart=>exact ⟨0,Nat.zero_le _,rfl,by rw [Tj_zero];rfl,rfl⟩
 case round =>
  obtain ⟨j,hj,rfl,rfl,rfl⟩:=hrel
  by_cases hlt:j < n
  ·have hjI:(j:Int) < n:=by omega
   obtain ⟨b,off,e,rfl,hej,c0,c1,c2,c3,c4,hs⟩:=HE.out.at hlt
   have HS:Hid (cnZ (Tj es (j+1)) ob=cnZ (Tj es j) ob+(if e.k=14∧e.o=ob then mzag e.a else 0)):=hide (by have h1:=cnZ_snoc (T:=Tj es j) (e:=me e) (o:=ob);rw [← Tj_succ hej] at h1;exact h1)
   have hb:=HG.out e (List.mem_of_getElem? hej)
   have hB2:=HBd.out (j+1) hlt
   clear hs hej
   generalize cnZ (Tj es j) ob=Z at HS ⊢
   by_cases hk:e.k=14
   ·have hkb:=beq_t hk
    by_cases ho:e.o=ob
    ·have hob:=beq_t ho
     have h9:cnZ (Tj es (j+1)) ob=Z+mzag e.a:=by rw [HS.out,if_pos ⟨hk,ho⟩]
     have HZ:=hide (rzag_any e.a wr hb.ok.a0 (hb.ct hk))
     rw [h9] at hB2
     generalize mzag e.a=zz at h9 HZ hB2
     have hw1:IntKind.i64.wrap (Z+zz)=Z+zz:=by rw [IntKind.wrap_i64];omega
     have H9:=hide h9
     clear HS hb h9 hk ho hB2 HBd
     go_wp2_with fail
     refine HZ.out.mono ?_
     rintro r w1 ⟨rfl,hw9⟩
     obtain rfl:wr=w1:=hw9.symm
     clear HZ
     go_wp2
     exact ⟨⟨j+1,by omega,by go_num,by rw [H9.out],by first|trivial|rfl⟩,by simp [intOf];omega⟩
    ·have hob:=beq_f ho
     have h9:cnZ (Tj es (j+1)) ob=Z:=by rw [HS.out,if_neg (show ¬ (e.k=14∧e.o=ob) from fun q=>ho q.2)];omega
     clear HS hb hk ho hB2
     go_wp2
     exact ⟨⟨j+1,by omega,by go_num,by rw [h9],by first|trivial|rfl⟩,by simp [intOf];omega⟩
   ·have hkb:=beq_f hk
    have h9:cnZ (Tj es (j+1)) ob=Z:=by rw [HS.out,if_neg (show ¬ (e.k=14∧e.o=ob) from fun q=>hk q.1)];omega
    clear HS hb hk hB2
    go_wp2
    exact ⟨⟨j+1,by omega,by go_num,by rw [h9],by first|trivial|rfl⟩,by simp [intOf];omega⟩
  ·have h9:j=n:=by omega
   subst h9
   have h8:=Tj_all HE.out.len
   rw [h8]
   go_wp2
   go_ret
   exact ⟨rfl,rfl⟩
theorem drewN_two (w:World) (q r:Nat):(w.drewN q).drewN r=w.drewN (q+r):=by
 induction r with
 | zero=>rfl
 | succ r ih=>rw [← World.drew_drewN,ih,World.drew_drewN];rfl
theorem drew_on {w wr:World} (h:∃ m,wr=w.drewN m) (r:Nat):∃ m,wr.drewN r=w.drewN m:=by
 obtain ⟨m,rfl⟩:=h
 exact ⟨m+r,drewN_two w m r⟩
def lvB (x:Me) (S:List Me):Bool:=decide (x.k=20) && !(S.any fun y=>decide (y.k=21∧y.o=x.o∧y.a=x.a))
theorem rlives_any (ad:Option Addr) (n c:Nat) (es:List E6.Ev) (w:World) (hr:E6.ERow w ad n es) (hn:(n:Int)≤1048576) (i:Nat) (x:E6.Ev) (hx:es[i]?=some x) :
  Calls Tryz.prog 157 #[.slice ad n c,.int .i64 (i:Int)] w fun e w'=>e=.returned (.bool (lvB (me x) ((es.drop (i+1)).map me)))∧∃ m,w'=w.drewN m:=by
 obtain ⟨R,hR⟩:∃ R,R=lvB (me x) ((es.drop (i+1)).map me):=⟨_,rfl⟩
 rw [← hR]
 have hin:i < n:=by rw [← hr.len];exact (List.getElem?_eq_some_iff.1 hx).1
 have hiI:(i:Int) < n:=by omega
 have hi0:(0:Int)≤i:=by omega
 obtain ⟨b,off,x',ha,hx',c0,c1,c2,c3,c4,hs⟩:=hr.at hin
 rw [hx] at hx'
 cases hx'
 subst ha
 have HR:=hide hR
 have HE:=hide hr
 have HX:Hid (∀ X,Below w.heap.size w X→X.cell? ⟨b,off+i * 5+1,none⟩=some (.int .i64 x.k)∧X.cell? ⟨b,off+i * 5+2,none⟩=some (.int .u64 x.o)∧X.cell? ⟨b,off+i * 5+3,none⟩=some (.int .u64 x.a)):=hide (fun X hX=>⟨E6.cell_bel c1 hX,E6.cell_bel c2 hX,E6.cell_bel c3 hX⟩)
 clear hr hR hx hs
 by_cases hk:x.k=20
 ·have hkb:=bne_f hk
  have HRk:Hid (R=!(((es.drop (i+1)).map me).any fun y=>decide (y.k=21∧y.o=x.o∧y.a=x.a))):=hide (by
   rw [HR.out];unfold lvB;rw [decide_eq_true (show (me x).k=20 from hk)];rfl)
  have hx1:IntKind.i64.wrap ((i:Int)+1)=(i:Int)+1:=by rw [IntKind.wrap_i64];omega
  clear HR hk
  go_enter Tryz.func157,Tryz.ntmps157
  go_wp2
  clear c0 c1 c2 c3 c4
  go_loopw [5] (fun q wr=>∃ (j:Nat),i+1≤j∧j≤n∧q=.int .i64 j∧(∀ m y,i < m→m < j→es[m]?=some y→¬ (y.k=21∧y.o=x.o∧y.a=x.a))∧∃ m,wr=w.drewN m) (fun q _=>n - (intOf q).toNat)
  case atStart=>exact ⟨i+1,Nat.le_refl _,hin,by go_num,fun m y h1 h2=>by omega,0,rfl⟩
  case round =>
   obtain ⟨j,hj0,hj,rfl,hN,qq,hbl⟩:=hrel
   have HDr:Hid (∃ m,wr=w.drewN m):=hide ⟨qq,hbl⟩
   have HBl:Hid (Below w.heap.size w wr):=hide (by rw [hbl];exact below_drewN (Below.refl _ _) _)
   have HN:=hide hN
   clear hbl hN
   by_cases hlt:j < n
   ·have hjI:(j:Int) < n:=by omega
    have hj00:(0:Int)≤j:=by omega
    obtain ⟨b',off',e,ha,hej,d0,d1,d2,d3,d4,hs⟩:=(HE.out.bel HBl.out).at hlt
    cases ha
    obtain ⟨c1,c2,c3⟩:=HX.out wr HBl.out
    have HEj:=hide hej
    have HS:Hid (¬ (e.k=21∧e.o=x.o∧e.a=x.a)→∀ m y,i < m→m < j+1→es[m]?=some y→¬ (y.k=21∧y.o=x.o∧y.a=x.a)):=hide (fun hq m y h1 h2 hy=>by
     by_cases hmj:m=j
     ·subst hmj;rw [HEj.out] at hy;cases hy;exact hq
     ·exact HN.out m y h1 (by omega) hy)
    have HF:Hid ((e.k=21∧e.o=x.o∧e.a=x.a)→R=false):=hide (fun hq=>by
     rw [HRk.out]
     have:(((es.drop (i+1)).map me).any fun y=>decide (y.k=21∧y.o=x.o∧y.a=x.a))=true:=by
      rw [List.any_eq_true]
      refine ⟨me e,List.mem_map.2 ⟨e,?_,rfl⟩,decide_eq_true hq⟩
      refine List.mem_of_getElem? (i:=j - (i+1)) ?_
      rw [List.getElem?_drop,show i+1+(j - (i+1))=j by omega]
      exact HEj.out
     rw [this];rfl)
    clear hs hej HEj HN
    by_cases hk:e.k=21
    ·have hkb2:=beq_t hk
     by_cases ho:e.o=x.o
     ·have hob:=beq_t ho
      by_cases ha:e.a=x.a
      ·have hab:=beq_t ha
       have H9:=hide (HF.out ⟨hk,ho,ha⟩)
       clear HF HS hk ho ha
       go_wp2_with fail
       go_quiet (fail)
       go_wp2
       go_ret
       exact ⟨by rw [H9.out];rfl,drew_on HDr.out _⟩
      ·have hab:=beq_f ha
       have H9:=hide (HS.out (fun q=>ha q.2.2))
       clear HF HS hk ho ha
       go_wp2_with fail
       go_quiet (fail)
       go_wp2
       exact ⟨⟨j+1,by omega,by omega,by go_num,H9.out,drew_on HDr.out _⟩,by simp [intOf];omega⟩
     ·have hob:=beq_f ho
      have H9:=hide (HS.out (fun q=>ho q.2.1))
      clear HF HS hk ho
      go_wp2_with fail
      go_quiet (fail)
      go_wp2
      exact ⟨⟨j+1,by omega,by omega,by go_num,H9.out,drew_on HDr.out _⟩,by simp [intOf];omega⟩
    ·have hkb2:=beq_f hk
     have H9:=hide (HS.out (fun q=>hk q.1))
     clear HF HS hk
     go_wp2_with fail
     go_quiet (fail)
     go_wp2
     exact ⟨⟨j+1,by omega,by omega,by go_num,H9.out,drew_on HDr.out _⟩,by simp [intOf];omega⟩
   ·have h9:j=n:=by omega
    have H9:Hid (R=true):=hide (by
     rw [HRk.out]
     have:(((es.drop (i+1)).map me).any fun y=>decide (y.k=21∧y.o=x.o∧y.a=x.a))=false:=by
      rw [List.any_eq_false]
      intro y hy
      obtain ⟨z,hz,rfl⟩:=List.mem_map.1 hy
      obtain ⟨m,hm,hzm⟩:=List.getElem_of_mem hz
      have h1:es[i+1+m]?=some z:=by rw [← List.getElem?_drop,List.getElem?_eq_getElem hm,hzm]
      have h2:=(List.getElem?_eq_some_iff.1 h1).1
      rw [HE.out.len] at h2
      have h3:=HN.out (i+1+m) z (by omega) (by omega) h1
      exact fun q=>h3 (of_decide_eq_true q)
     rw [this];rfl)
    clear HRk HN
    go_wp2
    go_ret
    exact ⟨by rw [H9.out];rfl,HDr.out⟩
 ·have hkb:=bne_t hk
  have H9:Hid (R=false):=hide (by rw [HR.out];unfold lvB;rw [decide_eq_false (show ¬ (me x).k=20 from hk)];rfl)
  clear HR hk
  go_enter Tryz.func157,Tryz.ntmps157
  go_wp2
  go_ret
  exact ⟨by rw [H9.out];rfl,0,rfl⟩
end Go.Proofs.YtaeehnaicnckgaaGreatDoor
namespace Go.Proofs.YtaeehnaicnckgaaGreatDoor
open Go.RowKit Go.Maps
theorem rother_14 (ad:Option Addr) (n c:Nat) (es:List E6.Ev) (w:World) (hr:E6.ERow w ad n es) (hn:(n:Int)≤1048576) (hg:∀ e ∈ es,Eb e.g e.k e.o e.a) (g o a:Int) (s:Value) (he:Eb g 14 o a) :
  Calls Tryz.prog 114 #[.slice ad n c,.agg (evC g 14 o a s)] w fun e w'=>e=.returned (.int .i64 (ofOt (es.map me) ⟨g,14,o,a⟩))∧Below w.heap.size w w':=by
 obtain ⟨W,hW⟩:∃ W,W=w.alloc (.cells (evC g 14 o a s) 43):=⟨_,rfl⟩
 have hb:Below w.heap.size w W:=by rw [hW];exact below_alloc1 w _
 have hE:W.heap[w.heap.size]?=some (.cells (evC g 14 o a s) 43 (0,0)):=by rw [hW];exact heap_new _ _
 obtain ⟨p0,p1,p2,p3,p4⟩:=evc0 hE
 obtain ⟨R,hR⟩:∃ R:Int,R=ofOt (es.map me) ⟨g,14,o,a⟩:=⟨_,rfl⟩
 rw [← hR]
 have HR:=hide hR
 have HB:=hide hb
 have HW:=hide hW
 have HE:=hide (hr.bel hb)
 have HG:=hide hg
 have HO:=hide he
 have hleW:w.heap.size < W.heap.size:=(Array.getElem?_eq_some_iff.1 hE).1
 clear hr hb hW hR hE hg he
 unfold evC
 unfold evC at HW
 have HQ1:Hid (∀ j,Calls Tryz.prog 154 #[.slice ad n c,.int .u64 o] (W.drewN j) fun e w'=>e=.returned (.int .i64 (cnZ (es.map me) o))∧w'=W.drewN j):=hide (fun j=>rcounter_any ad n c es (W.drewN j) (HE.out.bel (below_drewN (Below.refl _ _) j)) hn HG.out o)
 have HQ2:Hid (∀ j,Calls Tryz.prog 155 #[.int .u64 a] (W.drewN j) fun e w'=>e=.returned (.int .i64 (mzag a))∧w'=W.drewN j):=hide (fun j=>rzag_any a (W.drewN j) HO.out.ok.a0 (HO.out.ct rfl))
 have hzb:=mzag_bd HO.out.ok.a0 (HO.out.ct rfl)
 have hcb:=cnZ_bd (T:=es.map me) (fun e he hk=>by
  obtain ⟨x,hx,rfl⟩:=List.mem_map.1 he
  have h2:=HG.out x hx
  exact ⟨h2.ok.a0,h2.ct hk⟩) o
 rw [List.length_map,HE.out.len] at hcb
 have HRr:Hid (R=if cnZ (es.map me) o+mzag a < 0∨2147483647 < cnZ (es.map me) o+mzag a then 23 else 0):=hide HR.out
 clear HR
 generalize cnZ (es.map me) o=Z at HQ1 hcb HRr
 generalize mzag a=zz at HQ2 hzb HRr
 have hw1:IntKind.i64.wrap (Z+zz)=Z+zz:=by rw [IntKind.wrap_i64];omega
 clear hcb hzb
 obtain ⟨V,hV⟩:∃ V,V=Z+zz:=⟨_,rfl⟩
 rw [← hV] at hw1 HRr
 have hV2:=hV.symm
 clear hV
 go_enter Tryz.func114,Tryz.ntmps114
 go_wp2_with fail
 rw [← HW.out]
 clear HW
 go_quiet ((first|(go_at_call 154;exact Calls.quiet_of_same (HQ1.out _))|(go_at_call 155;exact Calls.quiet_of_same (HQ2.out _))))
 by_cases h1:V < 0
 ·have h1b:decide (V < 0)=true:=decide_eq_true h1
  have H9:Hid (R=23):=hide (by rw [HRr.out,if_pos (.inl h1)])
  clear HRr
  go_wp2
  go_ret
  exact ⟨by rw [H9.out];rfl,below_drewN HB.out _⟩
 ·have h1b:decide (V < 0)=false:=decide_eq_false h1
  by_cases h2:2147483647 < V
  ·have h2b:decide (2147483647 < V)=true:=decide_eq_true h2
   have H9:Hid (R=23):=hide (by rw [HRr.out,if_pos (.inr h2)])
   clear HRr
   go_wp2
   go_ret
   exact ⟨by rw [H9.out];rfl,below_drewN HB.out _⟩
  ·have h2b:decide (2147483647 < V)=false:=decide_eq_false h2
   have H9:Hid (R=0):=hide (by rw [HRr.out,if_neg (fun q=>q.elim h1 h2)])
   clear HRr
   go_wp2
   go_ret
   exact ⟨by rw [H9.out];rfl,below_drewN HB.out _⟩
theorem rother_15 (ad:Option Addr) (n c:Nat) (es:List E6.Ev) (w:World) (hr:E6.ERow w ad n es) (hn:(n:Int)≤1048576) (hg:∀ e ∈ es,Eb e.g e.k e.o e.a) (g o a:Int) (s:Value) (he:Eb g 15 o a) :
  Calls Tryz.prog 114 #[.slice ad n c,.agg (evC g 15 o a s)] w fun e w'=>e=.returned (.int .i64 (ofOt (es.map me) ⟨g,15,o,a⟩))∧Below w.heap.size w w':=by
 obtain ⟨W,hW⟩:∃ W,W=w.alloc (.cells (evC g 15 o a s) 43):=⟨_,rfl⟩
 have hb:Below w.heap.size w W:=by rw [hW];exact below_alloc1 w _
 have hE:W.heap[w.heap.size]?=some (.cells (evC g 15 o a s) 43 (0,0)):=by rw [hW];exact heap_new _ _
 obtain ⟨p0,p1,p2,p3,p4⟩:=evc0 hE
 obtain ⟨R,hR⟩:∃ R:Int,R=ofOt (es.map me) ⟨g,15,o,a⟩:=⟨_,rfl⟩
 rw [← hR]
 have HR:=hide hR
 have HB:=hide hb
 have HW:=hide hW
 have HE:=hide (hr.bel hb)
 have HG:=hide hg
 have HO:=hide he
 have hleW:w.heap.size < W.heap.size:=(Array.getElem?_eq_some_iff.1 hE).1
 clear hr hb hW hR hE hg he
 unfold evC
 unfold evC at HW
 have HQ1:=hide (rcounter_any ad n c es W HE.out hn HG.out o)
 have HRr:Hid (R=if cnZ (es.map me) o=0 then 0 else 24):=hide HR.out
 clear HR
 generalize cnZ (es.map me) o=Z at HQ1 HRr
 go_enter Tryz.func114,Tryz.ntmps114
 go_wp2_with fail
 rw [← HW.out]
 clear HW
 go_wp2_with fail
 refine HQ1.out.mono ?_
 rintro r w1 ⟨rfl,hw9⟩
 obtain rfl:W=w1:=hw9.symm
 clear HQ1
 by_cases h1:Z=0
 ·have h1b:=bne_f h1
  have H9:Hid (R=0):=hide (by rw [HRr.out,if_pos h1])
  clear HRr
  go_wp2
  go_ret
  exact ⟨by rw [H9.out];rfl,HB.out⟩
 ·have h1b:=bne_t h1
  have H9:Hid (R=24):=hide (by rw [HRr.out,if_neg h1])
  clear HRr
  go_wp2
  go_ret
  exact ⟨by rw [H9.out];rfl,HB.out⟩
theorem rother_16 (ad:Option Addr) (n c:Nat) (es:List E6.Ev) (w:World) (hr:E6.ERow w ad n es) (hn:(n:Int)≤1048576) (hg:∀ e ∈ es,Eb e.g e.k e.o e.a) (g o a:Int) (s:Value) (he:Eb g 16 o a) :
  Calls Tryz.prog 114 #[.slice ad n c,.agg (evC g 16 o a s)] w fun e w'=>e=.returned (.int .i64 (ofOt (es.map me) ⟨g,16,o,a⟩))∧Below w.heap.size w w':=by
 obtain ⟨W,hW⟩:∃ W,W=w.alloc (.cells (evC g 16 o a s) 43):=⟨_,rfl⟩
 have hb:Below w.heap.size w W:=by rw [hW];exact below_alloc1 w _
 have hE:W.heap[w.heap.size]?=some (.cells (evC g 16 o a s) 43 (0,0)):=by rw [hW];exact heap_new _ _
 obtain ⟨p0,p1,p2,p3,p4⟩:=evc0 hE
 obtain ⟨R,hR⟩:∃ R:Int,R=ofOt (es.map me) ⟨g,16,o,a⟩:=⟨_,rfl⟩
 rw [← hR]
 have HR:=hide hR
 have HB:=hide hb
 have HW:=hide hW
 have HE:=hide (hr.bel hb)
 have HG:=hide hg
 have HO:=hide he
 have hleW:w.heap.size < W.heap.size:=(Array.getElem?_eq_some_iff.1 hE).1
 clear hr hb hW hR hE hg he
 unfold evC
 unfold evC at HW
 have HQ1:=hide (rtold_any ad n c es W HE.out hn 16 o 1)
 have HRr:Hid (R=if a=1∧0 < cnT (es.map me) 16 o 1 then 25 else if a=0∧¬ 0 < cnT (es.map me) 16 o 1 then 26 else 0):=hide HR.out
 clear HR
 generalize cnT (es.map me) 16 o 1=N at HQ1 HRr
 go_enter Tryz.func114,Tryz.ntmps114
 go_wp2_with fail
 rw [← HW.out]
 clear HW
 go_wp2_with fail
 refine HQ1.out.mono ?_
 rintro r w1 ⟨rfl,hw9⟩
 obtain rfl:W=w1:=hw9.symm
 clear HQ1
 by_cases hN:0 < N
 ·have hNb:decide ((0:Int) < (N:Int))=true:=decide_eq_true (by omega)
  have hNb2:decide (0 < N)=true:=decide_eq_true hN
  by_cases h1:a=1
  ·have h1b:=beq_t h1
   have H9:Hid (R=25):=hide (by rw [HRr.out,if_pos ⟨h1,hN⟩])
   clear HRr h1
   go_wp2
   go_ret
   exact ⟨by rw [H9.out];rfl,HB.out⟩
  ·have h1b:=beq_f h1
   have H9:Hid (R=0):=hide (by rw [HRr.out,if_neg (fun q=>h1 q.1),if_neg (fun q=>q.2 hN)])
   clear HRr
   by_cases h0:a=0
   ·have h0b:=beq_t h0
    clear h0 h1
    go_wp2
    go_ret
    exact ⟨by rw [H9.out];rfl,HB.out⟩
   ·have h0b:=beq_f h0
    clear h0 h1
    go_wp2
    go_ret
    exact ⟨by rw [H9.out];rfl,HB.out⟩
 ·have hNb:decide ((0:Int) < (N:Int))=false:=decide_eq_false (by omega)
  have hNb2:decide (0 < N)=false:=decide_eq_false hN
  by_cases h0:a=0
  ·have h0b:=beq_t h0
   have h1b:(a == 1)=false:=beq_f (by omega)
   have H9:Hid (R=26):=hide (by rw [HRr.out,if_neg (fun q=>hN q.2),if_pos ⟨h0,hN⟩])
   clear HRr h0
   go_wp2
   go_ret
   exact ⟨by rw [H9.out];rfl,HB.out⟩
  ·have h0b:=beq_f h0
   have H9:Hid (R=0):=hide (by rw [HRr.out,if_neg (fun q=>hN q.2),if_neg (fun q=>h0 q.1)])
   clear HRr
   by_cases h1:a=1
   ·have h1b:=beq_t h1
    clear h0 h1
    go_wp2
    go_ret
    exact ⟨by rw [H9.out];rfl,HB.out⟩
   ·have h1b:=beq_f h1
    clear h0 h1
    go_wp2
    go_ret
    exact ⟨by rw [H9.out];rfl,HB.out⟩
theorem rother_no (ad:Option Addr) (n c:Nat) (es:List E6.Ev) (w:World) (hr:E6.ERow w ad n es) (hn:(n:Int)≤1048576) (hg:∀ e ∈ es,Eb e.g e.k e.o e.a) (g o a:Int) (s:Value) (k:Int) (he:Eb g k o a) (h14:¬ k=14) (h15:¬ k=15) (h16:¬ k=16) (h20:¬ k=20) (h21:¬ k=21) :
  Calls Tryz.prog 114 #[.slice ad n c,.agg (evC g k o a s)] w fun e w'=>e=.returned (.int .i64 (ofOt (es.map me) ⟨g,k,o,a⟩))∧Below w.heap.size w w':=by
 obtain ⟨W,hW⟩:∃ W,W=w.alloc (.cells (evC g k o a s) 43):=⟨_,rfl⟩
 have hb:Below w.heap.size w W:=by rw [hW];exact below_alloc1 w _
 have hE:W.heap[w.heap.size]?=some (.cells (evC g k o a s) 43 (0,0)):=by rw [hW];exact heap_new _ _
 obtain ⟨p0,p1,p2,p3,p4⟩:=evc0 hE
 obtain ⟨R,hR⟩:∃ R:Int,R=ofOt (es.map me) ⟨g,k,o,a⟩:=⟨_,rfl⟩
 rw [← hR]
 have HR:=hide hR
 have HB:=hide hb
 have HW:=hide hW
 have HE:=hide (hr.bel hb)
 have HG:=hide hg
 have HO:=hide he
 have hleW:w.heap.size < W.heap.size:=(Array.getElem?_eq_some_iff.1 hE).1
 clear hr hb hW hR hE hg he
 unfold evC
 unfold evC at HW
 have H9:Hid (R=0):=hide (by rw [HR.out];unfold ofOt;dsimp only;rw [if_neg h14,if_neg h15,if_neg h16,if_neg h20,if_neg h21])
 have b14:=beq_f h14
 have b15:=beq_f h15
 have b16:=beq_f h16
 have b20:=beq_f h20
 have b21:=beq_f h21
 clear h14 h15 h16 h20 h21 HR
 go_enter Tryz.func114,Tryz.ntmps114
 go_wp2_with fail
 rw [← HW.out]
 clear HW
 go_wp2
 go_ret
 exact ⟨by rw [H9.out];rfl,HB.out⟩
theorem ovl_num {xo xa o a:Int} (h1:1≤xa∧xo+(xa - 1)≤18446744073709551615) (h2:1≤a∧o+(a - 1)≤18446744073709551615) (h3:0≤xo) (h4:0≤o):IntKind.u64.wrap (xa - 1)=xa - 1∧IntKind.u64.wrap (a - 1)=a - 1∧IntKind.u64.wrap (xo+(xa - 1))=xo+(xa - 1)∧IntKind.u64.wrap (o+(a - 1))=o+(a - 1):=by
 refine ⟨?_,?_,?_,?_⟩ <;> (rw [IntKind.wrap_u64];omega)
theorem roverlap_any (xg xk xo xa g k o a:Int) (xs s:Value) (w:World) (h1:1≤xa∧xo+(xa - 1)≤18446744073709551615) (h2:1≤a∧o+(a - 1)≤18446744073709551615) (h3:0≤xo) (h4:0≤o) :
  Calls Tryz.prog 158 #[.agg #[.int .i64 xg,.int .i64 xk,.int .u64 xo,.int .u64 xa,xs],.agg #[.int .i64 g,.int .i64 k,.int .u64 o,.int .u64 a,s]] w fun e w'=>e=.returned (.bool (ovl ⟨g,k,o,a⟩ xo xa))∧Below w.heap.size w w':=by
 obtain ⟨n1,n2,n3,n4⟩:=ovl_num h1 h2 h3 h4
 obtain ⟨R,hR⟩:∃ R,R=ovl ⟨g,k,o,a⟩ xo xa:=⟨_,rfl⟩
 rw [← hR]
 have HR:Hid (R=decide (xo≤o+(a - 1)∧o≤xo+(xa - 1))):=hide hR
 have HB:=hide (((Below.refl w.heap.size w).alloc (Nat.le_refl _) (.cells #[.int .i64 xg,.int .i64 xk,.int .u64 xo,.int .u64 xa,xs] 43)).alloc (by simp) (.cells #[.int .i64 g,.int .i64 k,.int .u64 o,.int .u64 a,s] 43))
 clear hR h1 h2 h3 h4
 by_cases q1:xo≤o+(a - 1)
 ·have b1:decide (xo≤o+(a - 1))=true:=decide_eq_true q1
  by_cases q2:o≤xo+(xa - 1)
  ·have b2:decide (o≤xo+(xa - 1))=true:=decide_eq_true q2
   have H9:Hid (R=true):=hide (by rw [HR.out];exact decide_eq_true ⟨q1,q2⟩)
   clear HR
   go_enter Tryz.func158,Tryz.ntmps158
   go_wp2
   go_ret
   exact ⟨by rw [H9.out];rfl,HB.out⟩
  ·have b2:decide (o≤xo+(xa - 1))=false:=decide_eq_false q2
   have H9:Hid (R=false):=hide (by rw [HR.out];exact decide_eq_false (fun q=>q2 q.2))
   clear HR
   go_enter Tryz.func158,Tryz.ntmps158
   go_wp2
   go_ret
   exact ⟨by rw [H9.out];rfl,HB.out⟩
 ·have b1:decide (xo≤o+(a - 1))=false:=decide_eq_false q1
  have H9:Hid (R=false):=hide (by rw [HR.out];exact decide_eq_false (fun q=>q1 q.1))
  clear HR
  go_enter Tryz.func158,Tryz.ntmps158
  go_wp2
  go_ret
  exact ⟨by rw [H9.out];rfl,HB.out⟩
end Go.Proofs.YtaeehnaicnckgaaGreatDoor
