import Derived.Test.YtaeehnaicnckgaaGreatDoorZo31
set_option maxRecDepth 8000
set_option maxHeartbeats 8000000
set_option linter.unusedVariables false
namespace Go.Proofs.YtaeehnaicnckgaaGreatDoor
open Go.RowKit Go.Maps
theorem lvAny_drop {es:List E6.Ev} {j:Nat} {x:E6.Ev} (hx:es[j]?=some x) (p:Int→Int→Bool):lvAny p ((es.drop j).map me)=((lvB (me x) ((es.drop (j+1)).map me) && p x.o x.a) || lvAny p ((es.drop (j+1)).map me)):=by
 obtain ⟨hl,h9⟩:=List.getElem?_eq_some_iff.1 hx
 rw [List.drop_eq_getElem_cons hl,h9,List.map_cons,lvAny]
 rfl
theorem below_by {W wd w7:World} (h:Below W.heap.size W wd) (h7:∃ m,w7=wd.drewN m):Below W.heap.size W w7:=by
 obtain ⟨m,rfl⟩:=h7
 exact below_drewN h m
theorem lvB_k {x:Me} {S:List Me} (h:lvB x S=true):x.k=20:=by
 unfold lvB at h
 rw [Bool.and_eq_true] at h
 exact of_decide_eq_true h.1
theorem rother_20 (ad:Option Addr) (n c:Nat) (es:List E6.Ev) (w:World) (hr:E6.ERow w ad n es) (hn:(n:Int)≤1048576) (hg:∀ e ∈ es,Eb e.g e.k e.o e.a) (g o a:Int) (s:Value) (he:Eb g 20 o a) :
  Calls Tryz.prog 114 #[.slice ad n c,.agg (evC g 20 o a s)] w fun e w'=>e=.returned (.int .i64 (ofOt (es.map me) ⟨g,20,o,a⟩))∧Below w.heap.size w w':=by
 obtain ⟨W,hW⟩:∃ W,W=w.alloc (.cells (evC g 20 o a s) 43):=⟨_,rfl⟩
 have hb:Below w.heap.size w W:=by rw [hW];exact below_alloc1 w _
 have hE:W.heap[w.heap.size]?=some (.cells (evC g 20 o a s) 43 (0,0)):=by rw [hW];exact heap_new _ _
 obtain ⟨p0,p1,p2,p3,p4⟩:=evc0 hE
 obtain ⟨R,hR⟩:∃ R:Int,R=ofOt (es.map me) ⟨g,20,o,a⟩:=⟨_,rfl⟩
 rw [← hR]
 have HR:=hide hR
 have HB:=hide hb
 have HW:=hide hW
 have HE:=hide (hr.bel hb)
 have HG:=hide hg
 have HO:=hide he
 have hleW:w.heap.size < W.heap.size:=(Array.getElem?_eq_some_iff.1 hE).1
 clear hr hb hW hR hE hg he
 unfold evC
 unfold evC at HW
 have HRr:Hid (R=if lvAny (ovl ⟨g,20,o,a⟩) ((es.drop 0).map me)=true then 27 else 0):=hide (by rw [List.drop_zero];exact HR.out)
 have HC0:Hid (∀ X,Below W.heap.size W X→X.cell? ⟨w.heap.size,0,none⟩=some (.int .i64 g)∧X.cell? ⟨w.heap.size,1,none⟩=some (.int .i64 20)∧X.cell? ⟨w.heap.size,2,none⟩=some (.int .u64 o)∧X.cell? ⟨w.heap.size,3,none⟩=some (.int .u64 a)∧X.cell? ⟨w.heap.size,4,none⟩=some s):=hide (fun X hX=>⟨E6.cell_bel p0 hX,E6.cell_bel p1 hX,E6.cell_bel p2 hX,E6.cell_bel p3 hX,E6.cell_bel p4 hX⟩)
 clear HR
 go_enter Tryz.func114,Tryz.ntmps114
 go_wp2_with fail
 rw [← HW.out]
 generalize hbb:w.heap.size=bb at HC0 p0 p1 p2 p3 p4 hleW ⊢
 have HBB:=hide hbb
 clear HW hbb
 go_wp2
 clear p0 p1 p2 p3 p4
 go_loopw [7] (fun i wr=>∃ (j:Nat),j≤n∧i=.int .i64 j∧(R=if lvAny (ovl ⟨g,20,o,a⟩) ((es.drop j).map me)=true then 27 else 0)∧Below W.heap.size W wr) (fun i _=>n - (intOf i).toNat)
 case atStart=>exact ⟨0,Nat.zero_le _,rfl,HRr.out,Below.refl _ _⟩
 case round =>
  obtain ⟨j,hj,rfl,hRj,hbl⟩:=hrel
  have HBl:=hide hbl
  clear hbl HRr
  by_cases hlt:j < n
  ·have hjI:(j:Int) < n:=by omega
   have hj0:(0:Int)≤j:=by omega
   have HL0:=hide fun x hx=>rlives_any ad n c es wr.drew ((HE.out.bel HBl.out).bel (Below.refl _ _).drew) hn j x hx
   obtain ⟨b,off,x,ha,hej,c0,c1,c2,c3,c4,hs⟩:=HE.out.at hlt
   subst ha
   have HL:=hide (HL0.out x hej)
   have HLq:=hide fun q=>rlives_any (some ⟨b,off,none⟩) n c es (wr.drewN q) ((HE.out.bel HBl.out).bel (below_drewN (Below.refl _ _) q)) hn j x hej
   rw [lvAny_drop hej] at hRj
   have HRj:=hide hRj
   have hxE:=HG.out x (List.mem_of_getElem? hej)
   have HXE:=hide hxE
   have HSx:Hid (∀ X,Below W.heap.size W X→X.cell? ⟨b,off+j * 5,none⟩=some (.int .i64 x.g)∧X.cell? ⟨b,off+j * 5+1,none⟩=some (.int .i64 x.k)∧X.cell? ⟨b,off+j * 5+2,none⟩=some (.int .u64 x.o)∧X.cell? ⟨b,off+j * 5+3,none⟩=some (.int .u64 x.a)∧X.cell? ⟨b,off+j * 5+4,none⟩=some (.slice x.sa x.ls.length x.sc)∧X.cell? ⟨bb,0,none⟩=some (.int .i64 g)∧X.cell? ⟨bb,1,none⟩=some (.int .i64 20)∧X.cell? ⟨bb,2,none⟩=some (.int .u64 o)∧X.cell? ⟨bb,3,none⟩=some (.int .u64 a)∧X.cell? ⟨bb,4,none⟩=some s):=hide (fun X hX=>⟨E6.cell_bel c0 hX,E6.cell_bel c1 hX,E6.cell_bel c2 hX,E6.cell_bel c3 hX,E6.cell_bel c4 hX,HC0.out X hX⟩)
   have HBd:=hide (HBl.out.trans ((Below.refl wr.heap.size wr).drew.mono HBl.out.size))
   have q:=HSx.out wr HBl.out
   obtain ⟨q0,q1,q2,q3,q4,q5,q6,q7,q8,q9⟩:=q
   obtain ⟨Y,hY⟩:∃ Y,Y=lvB (me x) ((es.drop (j+1)).map me):=⟨_,rfl⟩
   rw [← hY] at HL HLq HRj
   have HY:=hide hY
   clear hY hs hej hRj HL0 hxE c0 c1 c2 c3 c4 HC0
   cases Y with
   | false =>
    have H9:Hid (R=if lvAny (ovl ⟨g,20,o,a⟩) ((es.drop (j+1)).map me)=true then 27 else 0):=hide (by have:=HRj.out;rw [Bool.false_and,Bool.false_or] at this;exact this)
    clear HRj HY
    go_wp2_with fail
    go_quiet ((go_at_call 157;exact Calls.quiet_of (HLq.out _)))
    go_wp2
    exact ⟨⟨j+1,by omega,by go_num,H9.out,below_drewN HBl.out _⟩,by simp [intOf];omega⟩
   | true =>
    have hxk:x.k=20:=lvB_k HY.out.symm
    have hxa:=HXE.out.al (.inl hxk)
    have hxo:=HXE.out.ok.o0
    have HXA:=hide hxa
    have HXO:=hide hxo
    clear hxk hxa hxo HY
    have HOv:=hide fun X=>roverlap_any x.g x.k x.o x.a g 20 o a (.slice x.sa x.ls.length x.sc) s X HXA.out (HO.out.al (.inl rfl)) HXO.out HO.out.ok.o0
    obtain ⟨V,hV⟩:∃ V,V=ovl ⟨g,20,o,a⟩ x.o x.a:=⟨_,rfl⟩
    rw [← hV] at HOv HRj
    clear hV HXA HXO
    cases V with
    | true =>
     have H9:Hid (R=27):=hide (by have:=HRj.out;rw [Bool.true_and,Bool.true_or] at this;exact this)
     clear HRj
     go_wp2_with fail
     go_region_held3 (fun X=>X.cell? ⟨b,off+j * 5,none⟩=some (.int .i64 x.g)∧X.cell? ⟨b,off+j * 5+1,none⟩=some (.int .i64 x.k)∧X.cell? ⟨b,off+j * 5+2,none⟩=some (.int .u64 x.o)∧X.cell? ⟨b,off+j * 5+3,none⟩=some (.int .u64 x.a)∧X.cell? ⟨b,off+j * 5+4,none⟩=some (.slice x.sa x.ls.length x.sc)∧X.cell? ⟨bb,0,none⟩=some (.int .i64 g)∧X.cell? ⟨bb,1,none⟩=some (.int .i64 20)∧X.cell? ⟨bb,2,none⟩=some (.int .u64 o)∧X.cell? ⟨bb,3,none⟩=some (.int .u64 a)∧X.cell? ⟨bb,4,none⟩=some s)
      (first|with_reducible exact HSx.out _ HBl.out|with_reducible exact HSx.out _ HBd.out|with_reducible exact HSx.out _ HB7.out|with_reducible exact HSx.out _ HB8.out)
      (first|(go_at_call 157;go_must (refine HL.out.mono ?_;rintro e9 w7 ⟨rfl,h7⟩;have HB7:Hid (Below W.heap.size W w7):=hide (below_by HBd.out h7);clear h7))|(go_at_call 158;go_must (refine (HOv.out _).mono ?_;rintro e9 w8 ⟨rfl,h8⟩;have HB8:Hid (Below W.heap.size W w8):=hide (HB7.out.trans (h8.mono HB7.out.size));clear h8)))
     go_wp2
     go_ret
     exact ⟨by rw [H9.out];rfl,HB.out.trans (HB8.out.mono HB.out.size)⟩
    | false =>
     have H9:Hid (R=if lvAny (ovl ⟨g,20,o,a⟩) ((es.drop (j+1)).map me)=true then 27 else 0):=hide (by have:=HRj.out;rw [Bool.true_and,Bool.false_or] at this;exact this)
     clear HRj
     go_wp2_with fail
     go_region_held3 (fun X=>X.cell? ⟨b,off+j * 5,none⟩=some (.int .i64 x.g)∧X.cell? ⟨b,off+j * 5+1,none⟩=some (.int .i64 x.k)∧X.cell? ⟨b,off+j * 5+2,none⟩=some (.int .u64 x.o)∧X.cell? ⟨b,off+j * 5+3,none⟩=some (.int .u64 x.a)∧X.cell? ⟨b,off+j * 5+4,none⟩=some (.slice x.sa x.ls.length x.sc)∧X.cell? ⟨bb,0,none⟩=some (.int .i64 g)∧X.cell? ⟨bb,1,none⟩=some (.int .i64 20)∧X.cell? ⟨bb,2,none⟩=some (.int .u64 o)∧X.cell? ⟨bb,3,none⟩=some (.int .u64 a)∧X.cell? ⟨bb,4,none⟩=some s)
      (first|with_reducible exact HSx.out _ HBl.out|with_reducible exact HSx.out _ HBd.out|with_reducible exact HSx.out _ HB7.out|with_reducible exact HSx.out _ HB8.out)
      (first|(go_at_call 157;go_must (refine HL.out.mono ?_;rintro e9 w7 ⟨rfl,h7⟩;have HB7:Hid (Below W.heap.size W w7):=hide (below_by HBd.out h7);clear h7))|(go_at_call 158;go_must (refine (HOv.out _).mono ?_;rintro e9 w8 ⟨rfl,h8⟩;have HB8:Hid (Below W.heap.size W w8):=hide (HB7.out.trans (h8.mono HB7.out.size));clear h8)))
     go_wp2
     exact ⟨⟨j+1,by omega,by go_num,H9.out,HB8.out⟩,by simp [intOf];omega⟩
  ·have h9:j=n:=by omega
   have H9:Hid (R=0):=hide (by
    rw [hRj,List.drop_eq_nil_of_le (by rw [HE.out.len];omega)];rfl)
   clear hRj
   go_wp2
   go_ret
   exact ⟨by rw [H9.out];rfl,HB.out.trans (HBl.out.mono HB.out.size)⟩
theorem rother_21 (ad:Option Addr) (n c:Nat) (es:List E6.Ev) (w:World) (hr:E6.ERow w ad n es) (hn:(n:Int)≤1048576) (hg:∀ e ∈ es,Eb e.g e.k e.o e.a) (g o a:Int) (s:Value) (he:Eb g 21 o a) :
  Calls Tryz.prog 114 #[.slice ad n c,.agg (evC g 21 o a s)] w fun e w'=>e=.returned (.int .i64 (ofOt (es.map me) ⟨g,21,o,a⟩))∧Below w.heap.size w w':=by
 obtain ⟨W,hW⟩:∃ W,W=w.alloc (.cells (evC g 21 o a s) 43):=⟨_,rfl⟩
 have hb:Below w.heap.size w W:=by rw [hW];exact below_alloc1 w _
 have hE:W.heap[w.heap.size]?=some (.cells (evC g 21 o a s) 43 (0,0)):=by rw [hW];exact heap_new _ _
 obtain ⟨p0,p1,p2,p3,p4⟩:=evc0 hE
 obtain ⟨R,hR⟩:∃ R:Int,R=ofOt (es.map me) ⟨g,21,o,a⟩:=⟨_,rfl⟩
 rw [← hR]
 have HR:=hide hR
 have HB:=hide hb
 have HW:=hide hW
 have HE:=hide (hr.bel hb)
 have HG:=hide hg
 have HO:=hide he
 have hleW:w.heap.size < W.heap.size:=(Array.getElem?_eq_some_iff.1 hE).1
 clear hr hb hW hR hE hg he
 unfold evC
 unfold evC at HW
 have HRr:Hid (R=if lvAny (fun o1 a1=>decide (o1=o∧a1=a)) ((es.drop 0).map me)=true then 0 else 28):=hide (by rw [List.drop_zero];exact HR.out)
 have HC0:Hid (∀ X,Below W.heap.size W X→X.cell? ⟨w.heap.size,0,none⟩=some (.int .i64 g)∧X.cell? ⟨w.heap.size,1,none⟩=some (.int .i64 21)∧X.cell? ⟨w.heap.size,2,none⟩=some (.int .u64 o)∧X.cell? ⟨w.heap.size,3,none⟩=some (.int .u64 a)∧X.cell? ⟨w.heap.size,4,none⟩=some s):=hide (fun X hX=>⟨E6.cell_bel p0 hX,E6.cell_bel p1 hX,E6.cell_bel p2 hX,E6.cell_bel p3 hX,E6.cell_bel p4 hX⟩)
 clear HR
 go_enter Tryz.func114,Tryz.ntmps114
 go_wp2_with fail
 rw [← HW.out]
 generalize hbb:w.heap.size=bb at HC0 p0 p1 p2 p3 p4 hleW ⊢
 have HBB:=hide hbb
 clear HW hbb
 go_wp2
 clear p0 p1 p2 p3 p4
 go_loopw [8] (fun i wr=>∃ (j:Nat),j≤n∧i=.int .i64 j∧(R=if lvAny (fun o1 a1=>decide (o1=o∧a1=a)) ((es.drop j).map me)=true then 0 else 28)∧Below W.heap.size W wr) (fun i _=>n - (intOf i).toNat)
 case atStart=>exact ⟨0,Nat.zero_le _,rfl,HRr.out,Below.refl _ _⟩
 case round =>
  obtain ⟨j,hj,rfl,hRj,hbl⟩:=hrel
  have HBl:=hide hbl
  clear hbl HRr
  by_cases hlt:j < n
  ·have hjI:(j:Int) < n:=by omega
   have hj0:(0:Int)≤j:=by omega
   have HL0:=hide fun x hx=>rlives_any ad n c es wr.drew ((HE.out.bel HBl.out).bel (Below.refl _ _).drew) hn j x hx
   obtain ⟨b,off,x,ha,hej,c0,c1,c2,c3,c4,hs⟩:=HE.out.at hlt
   subst ha
   have HL:=hide (HL0.out x hej)
   have HLq:=hide fun q=>rlives_any (some ⟨b,off,none⟩) n c es (wr.drewN q) ((HE.out.bel HBl.out).bel (below_drewN (Below.refl _ _) q)) hn j x hej
   rw [lvAny_drop hej] at hRj
   have HRj:=hide hRj
   have hxE:=HG.out x (List.mem_of_getElem? hej)
   have HXE:=hide hxE
   have HSx:Hid (∀ X,Below W.heap.size W X→X.cell? ⟨b,off+j * 5,none⟩=some (.int .i64 x.g)∧X.cell? ⟨b,off+j * 5+1,none⟩=some (.int .i64 x.k)∧X.cell? ⟨b,off+j * 5+2,none⟩=some (.int .u64 x.o)∧X.cell? ⟨b,off+j * 5+3,none⟩=some (.int .u64 x.a)∧X.cell? ⟨b,off+j * 5+4,none⟩=some (.slice x.sa x.ls.length x.sc)∧X.cell? ⟨bb,0,none⟩=some (.int .i64 g)∧X.cell? ⟨bb,1,none⟩=some (.int .i64 21)∧X.cell? ⟨bb,2,none⟩=some (.int .u64 o)∧X.cell? ⟨bb,3,none⟩=some (.int .u64 a)∧X.cell? ⟨bb,4,none⟩=some s):=hide (fun X hX=>⟨E6.cell_bel c0 hX,E6.cell_bel c1 hX,E6.cell_bel c2 hX,E6.cell_bel c3 hX,E6.cell_bel c4 hX,HC0.out X hX⟩)
   have HBd:=hide (HBl.out.trans ((Below.refl wr.heap.size wr).drew.mono HBl.out.size))
   have q:=HSx.out wr HBl.out
   obtain ⟨q0,q1,q2,q3,q4,q5,q6,q7,q8,q9⟩:=q
   obtain ⟨Y,hY⟩:∃ Y,Y=lvB (me x) ((es.drop (j+1)).map me):=⟨_,rfl⟩
   rw [← hY] at HL HLq HRj
   have HY:=hide hY
   clear hY hs hej hRj HL0 hxE c0 c1 c2 c3 c4 HC0
   cases Y with
   | false =>
    have H9:Hid (R=if lvAny (fun o1 a1=>decide (o1=o∧a1=a)) ((es.drop (j+1)).map me)=true then 0 else 28):=hide (by have:=HRj.out;rw [Bool.false_and,Bool.false_or] at this;exact this)
    clear HRj HY
    go_wp2_with fail
    go_quiet ((go_at_call 157;exact Calls.quiet_of (HLq.out _)))
    go_wp2
    exact ⟨⟨j+1,by omega,by go_num,H9.out,below_drewN HBl.out _⟩,by simp [intOf];omega⟩
   | true =>
    have hxk:x.k=20:=lvB_k HY.out.symm
    have hxa:=HXE.out.al (.inl hxk)
    have hxo:=HXE.out.ok.o0
    have HXA:=hide hxa
    have HXO:=hide hxo
    clear hxk hxa hxo HY
    by_cases h1:x.o=o
    ·have h1b:=beq_t h1
     by_cases h2:x.a=a
     ·have h2b:=beq_t h2
      have H9:Hid (R=0):=hide (by have:=HRj.out;rw [Bool.true_and,decide_eq_true ⟨h1,h2⟩,Bool.true_or] at this;exact this)
      clear HRj HXA HXO h1 h2
      go_wp2_with fail
      go_quiet ((go_at_call 157;exact Calls.quiet_of (HLq.out _)))
      go_wp2
      go_ret
      exact ⟨by rw [H9.out];rfl,HB.out.trans ((below_drewN HBl.out _).mono HB.out.size)⟩
     ·have h2b:=beq_f h2
      have H9:Hid (R=if lvAny (fun o1 a1=>decide (o1=o∧a1=a)) ((es.drop (j+1)).map me)=true then 0 else 28):=hide (by have:=HRj.out;rw [Bool.true_and,decide_eq_false (fun q=>h2 q.2),Bool.false_or] at this;exact this)
      clear HRj HXA HXO h1 h2
      go_wp2_with fail
      go_quiet ((go_at_call 157;exact Calls.quiet_of (HLq.out _)))
      go_wp2
      exact ⟨⟨j+1,by omega,by go_num,H9.out,below_drewN HBl.out _⟩,by simp [intOf];omega⟩
    ·have h1b:=beq_f h1
     have H9:Hid (R=if lvAny (fun o1 a1=>decide (o1=o∧a1=a)) ((es.drop (j+1)).map me)=true then 0 else 28):=hide (by have:=HRj.out;rw [Bool.true_and,decide_eq_false (fun q=>h1 q.1),Bool.false_or] at this;exact this)
     clear HRj HXA HXO h1
     go_wp2_with fail
     go_quiet ((go_at_call 157;exact Calls.quiet_of (HLq.out _)))
     go_wp2
     exact ⟨⟨j+1,by omega,by go_num,H9.out,below_drewN HBl.out _⟩,by simp [intOf];omega⟩
  ·have h9:j=n:=by omega
   have H9:Hid (R=28):=hide (by
    rw [hRj,List.drop_eq_nil_of_le (by rw [HE.out.len];omega)];rfl)
   clear hRj
   go_wp2
   go_ret
   exact ⟨by rw [H9.out];rfl,HB.out.trans (HBl.out.mono HB.out.size)⟩
theorem rother_any (ad:Option Addr) (n c:Nat) (es:List E6.Ev) (w:World) (hr:E6.ERow w ad n es) (hn:(n:Int)≤1048576) (hg:∀ e ∈ es,Eb e.g e.k e.o e.a) (g o a:Int) (s:Value) (k:Int) (he:Eb g k o a) :
  Calls Tryz.prog 114 #[.slice ad n c,.agg (evC g k o a s)] w fun e w'=>e=.returned (.int .i64 (ofOt (es.map me) ⟨g,k,o,a⟩))∧Below w.heap.size w w':=by
 by_cases h14:k=14
 ·subst h14;exact rother_14 ad n c es w hr hn hg g o a s he
 by_cases h15:k=15
 ·subst h15;exact rother_15 ad n c es w hr hn hg g o a s he
 by_cases h16:k=16
 ·subst h16;exact rother_16 ad n c es w hr hn hg g o a s he
 by_cases h20:k=20
 ·subst h20;exact rother_20 ad n c es w hr hn hg g o a s he
 by_cases h21:k=21
 ·subst h21;exact rother_21 ad n c es w hr hn hg g o a s he
 exact rother_no ad n c es w hr hn hg g o a s k he h14 h15 h16 h20 h21
end Go.Proofs.YtaeehnaicnckgaaGreatDoor
namespace Go.Proofs.YtaeehnaicnckgaaGreatDoor
open Go.RowKit Go.Maps
set_option linter.unusedSimpArgs false
theorem rlock_3 (ad:Option Addr) (n c:Nat) (es:List E6.Ev) (w:World) (hr:E6.ERow w ad n es) (hn:(n:Int)≤1048576) (hg:∀ e ∈ es,Eb e.g e.k e.o e.a) (hcap:(n:Int)≤c) (hm:Mde (es.map me)) (g o a:Int) (s:Value) (he:Eb g 3 o a) :
  Calls Tryz.prog 111 #[.slice ad n c,.agg (evC g 3 o a s)] w fun e w'=>e=.returned (.int .i64 (ofLk (es.map me) ⟨g,3,o,a⟩))∧Below w.heap.size w w':=by
 obtain ⟨W,hW⟩:∃ W,W=w.alloc (.cells (evC g 3 o a s) 43):=⟨_,rfl⟩
 have hb:Below w.heap.size w W:=by rw [hW];exact below_alloc1 w _
 have hE:W.heap[w.heap.size]?=some (.cells (evC g 3 o a s) 43 (0,0)):=by rw [hW];exact heap_new _ _
 obtain ⟨p0,p1,p2,p3,p4⟩:=evc0 hE
 obtain ⟨R,hR⟩:∃ R:Int,R=ofLk (es.map me) ⟨g,3,o,a⟩:=⟨_,rfl⟩
 rw [← hR]
 have HR:=hide hR
 have HB:=hide hb
 have HW:=hide hW
 have HE:=hide (hr.bel hb)
 have HG:=hide hg
 have HO:=hide he
 have HM:=hide hm
 have hleW:w.heap.size < W.heap.size:=(Array.getElem?_eq_some_iff.1 hE).1
 clear hr hb hW hR hE hg he hm
 unfold evC
 unfold evC at HW
 have HQ1:=hide (ranyWrites_any ad n c es W HE.out hn HG.out o)
 have HQ2:=hide (ranyReads_any ad n c es W HE.out hn HG.out o)
 have HRr:Hid (R=if anyWr (es.map me) o=true∨anyRd (es.map me) o=true then 4 else 0):=hide (by rw [HR.out];simp [ofLk])
 clear HR
 generalize anyWr (es.map me) o=A at HQ1 HRr
 generalize anyRd (es.map me) o=B at HQ2 HRr
 go_enter Tryz.func111,Tryz.ntmps111
 go_wp2_with fail
 rw [← HW.out]
 clear HW
 go_wp2_with fail
 refine HQ1.out.mono ?_
 rintro r w1 ⟨rfl,hw9⟩
 obtain rfl:W=w1:=hw9.symm
 clear HQ1
 cases A with
 | true =>
  have H9:Hid (R=4):=hide (by rw [HRr.out];rfl)
  clear HRr
  go_wp2
  go_ret
  exact ⟨by rw [H9.out];rfl,HB.out⟩
 | false =>
  go_wp2_with fail
  refine HQ2.out.mono ?_
  rintro r w1 ⟨rfl,hw9⟩
  obtain rfl:W=w1:=hw9.symm
  clear HQ2
  cases B with
  | true =>
   have H9:Hid (R=4):=hide (by rw [HRr.out];rfl)
   clear HRr
   go_wp2
   go_ret
   exact ⟨by rw [H9.out];rfl,HB.out⟩
  | false =>
   have H9:Hid (R=0):=hide (by rw [HRr.out];rfl)
   clear HRr
   go_wp2
   go_ret
   exact ⟨by rw [H9.out];rfl,HB.out⟩
theorem rlock_4 (ad:Option Addr) (n c:Nat) (es:List E6.Ev) (w:World) (hr:E6.ERow w ad n es) (hn:(n:Int)≤1048576) (hg:∀ e ∈ es,Eb e.g e.k e.o e.a) (hcap:(n:Int)≤c) (hm:Mde (es.map me)) (g o a:Int) (s:Value) (he:Eb g 4 o a) :
  Calls Tryz.prog 111 #[.slice ad n c,.agg (evC g 4 o a s)] w fun e w'=>e=.returned (.int .i64 (ofLk (es.map me) ⟨g,4,o,a⟩))∧Below w.heap.size w w':=by
 obtain ⟨W,hW⟩:∃ W,W=w.alloc (.cells (evC g 4 o a s) 43):=⟨_,rfl⟩
 have hb:Below w.heap.size w W:=by rw [hW];exact below_alloc1 w _
 have hE:W.heap[w.heap.size]?=some (.cells (evC g 4 o a s) 43 (0,0)):=by rw [hW];exact heap_new _ _
 obtain ⟨p0,p1,p2,p3,p4⟩:=evc0 hE
 obtain ⟨R,hR⟩:∃ R:Int,R=ofLk (es.map me) ⟨g,4,o,a⟩:=⟨_,rfl⟩
 rw [← hR]
 have HR:=hide hR
 have HB:=hide hb
 have HW:=hide hW
 have HE:=hide (hr.bel hb)
 have HG:=hide hg
 have HO:=hide he
 have HM:=hide hm
 have hleW:w.heap.size < W.heap.size:=(Array.getElem?_eq_some_iff.1 hE).1
 clear hr hb hW hR hE hg he hm
 unfold evC
 unfold evC at HW
 have HQ1:=hide (rwrites_any ad n c es W HE.out hn g o HO.out.ok.g0)
 have HRr:Hid (R=if wrs (es.map me) g o=false then 5 else 0):=hide (by rw [HR.out];simp [ofLk])
 clear HR
 generalize wrs (es.map me) g o=A at HQ1 HRr
 go_enter Tryz.func111,Tryz.ntmps111
 go_wp2_with fail
 rw [← HW.out]
 clear HW
 go_wp2_with fail
 refine HQ1.out.mono ?_
 rintro r w1 ⟨rfl,hw9⟩
 obtain rfl:W=w1:=hw9.symm
 clear HQ1
 cases A with
 | true =>
  have H9:Hid (R=0):=hide (by rw [HRr.out];rfl)
  clear HRr
  go_wp2
  go_ret
  exact ⟨by rw [H9.out];rfl,HB.out⟩
 | false =>
  have H9:Hid (R=5):=hide (by rw [HRr.out];rfl)
  clear HRr
  go_wp2
  go_ret
  exact ⟨by rw [H9.out];rfl,HB.out⟩
theorem rlock_5 (ad:Option Addr) (n c:Nat) (es:List E6.Ev) (w:World) (hr:E6.ERow w ad n es) (hn:(n:Int)≤1048576) (hg:∀ e ∈ es,Eb e.g e.k e.o e.a) (hcap:(n:Int)≤c) (hm:Mde (es.map me)) (g o a:Int) (s:Value) (he:Eb g 5 o a) :
  Calls Tryz.prog 111 #[.slice ad n c,.agg (evC g 5 o a s)] w fun e w'=>e=.returned (.int .i64 (ofLk (es.map me) ⟨g,5,o,a⟩))∧Below w.heap.size w w':=by
 obtain ⟨W,hW⟩:∃ W,W=w.alloc (.cells (evC g 5 o a s) 43):=⟨_,rfl⟩
 have hb:Below w.heap.size w W:=by rw [hW];exact below_alloc1 w _
 have hE:W.heap[w.heap.size]?=some (.cells (evC g 5 o a s) 43 (0,0)):=by rw [hW];exact heap_new _ _
 obtain ⟨p0,p1,p2,p3,p4⟩:=evc0 hE
 obtain ⟨R,hR⟩:∃ R:Int,R=ofLk (es.map me) ⟨g,5,o,a⟩:=⟨_,rfl⟩
 rw [← hR]
 have HR:=hide hR
 have HB:=hide hb
 have HW:=hide hW
 have HE:=hide (hr.bel hb)
 have HG:=hide hg
 have HO:=hide he
 have HM:=hide hm
 have hleW:w.heap.size < W.heap.size:=(Array.getElem?_eq_some_iff.1 hE).1
 clear hr hb hW hR hE hg he hm
 unfold evC
 unfold evC at HW
 have HQ1:=hide (ranyWrites_any ad n c es W HE.out hn HG.out o)
 have HRr:Hid (R=if anyWr (es.map me) o=true then 6 else 0):=hide (by rw [HR.out];simp [ofLk])
 clear HR
 generalize anyWr (es.map me) o=A at HQ1 HRr
 go_enter Tryz.func111,Tryz.ntmps111
 go_wp2_with fail
 rw [← HW.out]
 clear HW
 go_wp2_with fail
 refine HQ1.out.mono ?_
 rintro r w1 ⟨rfl,hw9⟩
 obtain rfl:W=w1:=hw9.symm
 clear HQ1
 cases A with
 | true =>
  have H9:Hid (R=6):=hide (by rw [HRr.out];rfl)
  clear HRr
  go_wp2
  go_ret
  exact ⟨by rw [H9.out];rfl,HB.out⟩
 | false =>
  have H9:Hid (R=0):=hide (by rw [HRr.out];rfl)
  clear HRr
  go_wp2
  go_ret
  exact ⟨by rw [H9.out];rfl,HB.out⟩
theorem rlock_6 (ad:Option Addr) (n c:Nat) (es:List E6.Ev) (w:World) (hr:E6.ERow w ad n es) (hn:(n:Int)≤1048576) (hg:∀ e ∈ es,Eb e.g e.k e.o e.a) (hcap:(n:Int)≤c) (hm:Mde (es.map me)) (g o a:Int) (s:Value) (he:Eb g 6 o a) :
  Calls Tryz.prog 111 #[.slice ad n c,.agg (evC g 6 o a s)] w fun e w'=>e=.returned (.int .i64 (ofLk (es.map me) ⟨g,6,o,a⟩))∧Below w.heap.size w w':=by
 obtain ⟨W,hW⟩:∃ W,W=w.alloc (.cells (evC g 6 o a s) 43):=⟨_,rfl⟩
 have hb:Below w.heap.size w W:=by rw [hW];exact below_alloc1 w _
 have hE:W.heap[w.heap.size]?=some (.cells (evC g 6 o a s) 43 (0,0)):=by rw [hW];exact heap_new _ _
 obtain ⟨p0,p1,p2,p3,p4⟩:=evc0 hE
 obtain ⟨R,hR⟩:∃ R:Int,R=ofLk (es.map me) ⟨g,6,o,a⟩:=⟨_,rfl⟩
 rw [← hR]
 have HR:=hide hR
 have HB:=hide hb
 have HW:=hide hW
 have HE:=hide (hr.bel hb)
 have HG:=hide hg
 have HO:=hide he
 have HM:=hide hm
 have hleW:w.heap.size < W.heap.size:=(Array.getElem?_eq_some_iff.1 hE).1
 clear hr hb hW hR hE hg he hm
 unfold evC
 unfold evC at HW
 have HQ1:=hide (rreads_any ad n c es W HE.out hn g o HO.out.ok.g0)
 have HRr:Hid (R=if rds (es.map me) g o=false then 7 else 0):=hide (by rw [HR.out];simp [ofLk])
 clear HR
 generalize rds (es.map me) g o=A at HQ1 HRr
 go_enter Tryz.func111,Tryz.ntmps111
 go_wp2_with fail
 rw [← HW.out]
 clear HW
 go_wp2_with fail
 refine HQ1.out.mono ?_
 rintro r w1 ⟨rfl,hw9⟩
 obtain rfl:W=w1:=hw9.symm
 clear HQ1
 cases A with
 | true =>
  have H9:Hid (R=0):=hide (by rw [HRr.out];rfl)
  clear HRr
  go_wp2
  go_ret
  exact ⟨by rw [H9.out];rfl,HB.out⟩
 | false =>
  have H9:Hid (R=7):=hide (by rw [HRr.out];rfl)
  clear HRr
  go_wp2
  go_ret
  exact ⟨by rw [H9.out];rfl,HB.out⟩
theorem rgor_7 (ad:Option Addr) (n c:Nat) (es:List E6.Ev) (w:World) (hr:E6.ERow w ad n es) (hn:(n:Int)≤1048576) (hg:∀ e ∈ es,Eb e.g e.k e.o e.a) (hcap:(n:Int)≤c) (hm:Mde (es.map me)) (g o a:Int) (s:Value) (he:Eb g 7 o a) :
  Calls Tryz.prog 112 #[.slice ad n c,.agg (evC g 7 o a s)] w fun e w'=>e=.returned (.int .i64 (ofGr (es.map me) ⟨g,7,o,a⟩))∧Below w.heap.size w w':=by
 obtain ⟨W,hW⟩:∃ W,W=w.alloc (.cells (evC g 7 o a s) 43):=⟨_,rfl⟩
 have hb:Below w.heap.size w W:=by rw [hW];exact below_alloc1 w _
 have hE:W.heap[w.heap.size]?=some (.cells (evC g 7 o a s) 43 (0,0)):=by rw [hW];exact heap_new _ _
 obtain ⟨p0,p1,p2,p3,p4⟩:=evc0 hE
 obtain ⟨R,hR⟩:∃ R:Int,R=ofGr (es.map me) ⟨g,7,o,a⟩:=⟨_,rfl⟩
 rw [← hR]
 have HR:=hide hR
 have HB:=hide hb
 have HW:=hide hW
 have HE:=hide (hr.bel hb)
 have HG:=hide hg
 have HO:=hide he
 have HM:=hide hm
 have hleW:w.heap.size < W.heap.size:=(Array.getElem?_eq_some_iff.1 hE).1
 clear hr hb hW hR hE hg he hm
 unfold evC
 unfold evC at HW
 have ha0:=HO.out.ok.a0
 have ha1:=HO.out.fj (.inl rfl)
 have hwa:IntKind.i64.wrap a=a:=by rw [IntKind.wrap_i64];omega
 have HQ1:=hide (rbegun_any ad n c es W HE.out hn a ha0 ha1)
 have HRr:Hid (R=if bgT (es.map me) a=true then 8 else 0):=hide (by rw [HR.out];simp [ofGr])
 clear HR ha0 ha1
 generalize bgT (es.map me) a=A at HQ1 HRr
 go_enter Tryz.func112,Tryz.ntmps112
 go_wp2_with fail
 rw [← HW.out]
 clear HW
 go_wp2_with fail
 refine HQ1.out.mono ?_
 rintro r w1 ⟨rfl,hw9⟩
 obtain rfl:W=w1:=hw9.symm
 clear HQ1
 cases A with
 | true =>
  have H9:Hid (R=8):=hide (by rw [HRr.out];rfl)
  clear HRr
  go_wp2
  go_ret
  exact ⟨by rw [H9.out];rfl,HB.out⟩
 | false =>
  have H9:Hid (R=0):=hide (by rw [HRr.out];rfl)
  clear HRr
  go_wp2
  go_ret
  exact ⟨by rw [H9.out];rfl,HB.out⟩
theorem due_some (T:List Me) (g:Int):(dueV T g).2.2=(dueT T g).isSome:=by
 unfold dueV
 cases dueT T g <;> rfl
theorem rgor_8 (ad:Option Addr) (n c:Nat) (es:List E6.Ev) (w:World) (hr:E6.ERow w ad n es) (hn:(n:Int)≤1048576) (hg:∀ e ∈ es,Eb e.g e.k e.o e.a) (hcap:(n:Int)≤c) (hm:Mde (es.map me)) (g o a:Int) (s:Value) (he:Eb g 8 o a) :
  Calls Tryz.prog 112 #[.slice ad n c,.agg (evC g 8 o a s)] w fun e w'=>e=.returned (.int .i64 (ofGr (es.map me) ⟨g,8,o,a⟩))∧Below w.heap.size w w':=by
 obtain ⟨W,hW⟩:∃ W,W=w.alloc (.cells (evC g 8 o a s) 43):=⟨_,rfl⟩
 have hb:Below w.heap.size w W:=by rw [hW];exact below_alloc1 w _
 have hE:W.heap[w.heap.size]?=some (.cells (evC g 8 o a s) 43 (0,0)):=by rw [hW];exact heap_new _ _
 obtain ⟨p0,p1,p2,p3,p4⟩:=evc0 hE
 obtain ⟨R,hR⟩:∃ R:Int,R=ofGr (es.map me) ⟨g,8,o,a⟩:=⟨_,rfl⟩
 rw [← hR]
 have HR:=hide hR
 have HB:=hide hb
 have HW:=hide hW
 have HE:=hide (hr.bel hb)
 have HG:=hide hg
 have HO:=hide he
 have HM:=hide hm
 have hleW:w.heap.size < W.heap.size:=(Array.getElem?_eq_some_iff.1 hE).1
 clear hr hb hW hR hE hg he hm
 unfold evC
 unfold evC at HW
 have ha0:=HO.out.ok.a0
 have ha1:=HO.out.fj (.inr rfl)
 have hwa:IntKind.i64.wrap a=a:=by rw [IntKind.wrap_i64];omega
 have HQ1:=hide (rbegun_any ad n c es W HE.out hn a ha0 ha1)
 have HQ2:=hide (rjoined_any ad n c es W HE.out hn a ha0 ha1)
 have HQ3:=hide (rdue_any ad n c es W HE.out hn hcap HG.out HM.out a)
 have HRr:Hid (R=if bgT (es.map me) a=false then 9 else if nmd (es.map me) 8 a=true then 10 else if a=g then 11 else if (dueV (es.map me) a).2.2=true then 12 else 0):=hide (by rw [HR.out,due_some];simp [ofGr])
 clear HR ha0 ha1
 generalize bgT (es.map me) a=A at HQ1 HRr
 generalize nmd (es.map me) 8 a=B at HQ2 HRr
 generalize dueV (es.map me) a=D at HQ3 HRr
 obtain ⟨d1,d2,d3⟩:=D
 dsimp only at HQ3 HRr
 go_enter Tryz.func112,Tryz.ntmps112
 go_wp2_with fail
 rw [← HW.out]
 clear HW
 go_wp2_with fail
 refine HQ1.out.mono ?_
 rintro r w1 ⟨rfl,hw9⟩
 obtain rfl:W=w1:=hw9.symm
 clear HQ1
 cases A with
 | false =>
  have H9:Hid (R=9):=hide (by rw [HRr.out];rfl)
  clear HRr
  go_wp2
  go_ret
  exact ⟨by rw [H9.out];rfl,HB.out⟩
 | true =>
  go_wp2_with fail
  refine HQ2.out.mono ?_
  rintro r w1 ⟨rfl,hw9⟩
  obtain rfl:W=w1:=hw9.symm
  clear HQ2
  cases B with
  | true =>
   have H9:Hid (R=10):=hide (by rw [HRr.out];rfl)
   clear HRr
   go_wp2
   go_ret
   exact ⟨by rw [H9.out];rfl,HB.out⟩
  | false =>
   by_cases hag:a=g
   ·have hab:=beq_t hag
    have H9:Hid (R=11):=hide (by rw [HRr.out,if_neg (by decide),if_neg (by decide),if_pos hag])
    clear HRr hag
    go_wp2
    go_ret
    exact ⟨by rw [H9.out];rfl,HB.out⟩
   ·have hab:=beq_f hag
    have HRs:Hid (R=if d3=true then 12 else 0):=hide (by rw [HRr.out,if_neg (by decide),if_neg (by decide),if_neg hag])
    clear HRr hag
    go_wp2_with fail
    refine HQ3.out.mono ?_
    rintro r w2 ⟨rfl,hb2⟩
    have HB2:=hide (HB.out.trans (hb2.mono HB.out.size))
    clear HQ3 hb2
    cases d3 with
    | true =>
     have H9:Hid (R=12):=hide (by rw [HRs.out];rfl)
     clear HRs
     go_wp2
     go_ret
     exact ⟨by rw [H9.out];rfl,HB2.out⟩
    | false =>
     have H9:Hid (R=0):=hide (by rw [HRs.out];rfl)
     clear HRs
     go_wp2
     go_ret
     exact ⟨by rw [H9.out];rfl,HB2.out⟩
end Go.Proofs.YtaeehnaicnckgaaGreatDoor
