import Derived.Test.YtaeehnaicnckgaaGreatDoorZo33
import Derived.Test.YtaeehnaicnckgaaGreatDoorZo37
import Derived.Test.YtaeehnaicnckgaaGreatDoorZo02
import Derived.Test.YtaeehnaicnckgaaGreatDoorZo36
import Derived.Test.YtaeehnaicnckgaaGreatDoorZo27
import Derived.Test.YtaeehnaicnckgaaGreatDoorZo25
set_option maxRecDepth 8000
set_option maxHeartbeats 8000000
set_option linter.unusedVariables false
namespace Go.Proofs.YtaeehnaicnckgaaGreatDoor
open Go.RowKit Go.Maps
set_option linter.unusedSimpArgs false
theorem rlock_any (ad:Option Addr) (n c:Nat) (es:List E6.Ev) (w:World) (hr:E6.ERow w ad n es) (hn:(n:Int)≤1048576) (hg:∀ e ∈ es,Eb e.g e.k e.o e.a) (hcap:(n:Int)≤c) (hm:Mde (es.map me)) (g o a:Int) (s:Value) (k:Int) (he:Eb g k o a) (h1:3≤k) (h2:k≤6) :
  Calls Tryz.prog 111 #[.slice ad n c,.agg (evC g k o a s)] w fun e w'=>e=.returned (.int .i64 (ofLk (es.map me) ⟨g,k,o,a⟩))∧Below w.heap.size w w':=by
 have h:k=3∨k=4∨k=5∨k=6:=by omega
 rcases h with rfl|rfl|rfl|rfl
 ·exact rlock_3 ad n c es w hr hn hg hcap hm g o a s he
 ·exact rlock_4 ad n c es w hr hn hg hcap hm g o a s he
 ·exact rlock_5 ad n c es w hr hn hg hcap hm g o a s he
 ·exact rlock_6 ad n c es w hr hn hg hcap hm g o a s he
theorem rgor_any (ad:Option Addr) (n c:Nat) (es:List E6.Ev) (w:World) (hr:E6.ERow w ad n es) (hn:(n:Int)≤1048576) (hg:∀ e ∈ es,Eb e.g e.k e.o e.a) (hcap:(n:Int)≤c) (hm:Mde (es.map me)) (g o a:Int) (s:Value) (k:Int) (he:Eb g k o a) (h1:7≤k) (h2:k≤8) :
  Calls Tryz.prog 112 #[.slice ad n c,.agg (evC g k o a s)] w fun e w'=>e=.returned (.int .i64 (ofGr (es.map me) ⟨g,k,o,a⟩))∧Below w.heap.size w w':=by
 have h:k=7∨k=8:=by omega
 rcases h with rfl|rfl
 ·exact rgor_7 ad n c es w hr hn hg hcap hm g o a s he
 ·exact rgor_8 ad n c es w hr hn hg hcap hm g o a s he
theorem rchan_any (ad:Option Addr) (n c:Nat) (es:List E6.Ev) (w:World) (hr:E6.ERow w ad n es) (hn:(n:Int)≤1048576) (hg:∀ e ∈ es,Eb e.g e.k e.o e.a) (hcap:(n:Int)≤c) (hm:Mde (es.map me)) (g o a:Int) (s:Value) (k:Int) (he:Eb g k o a) (h1:9≤k) (h2:k≤13) :
  Calls Tryz.prog 113 #[.slice ad n c,.agg (evC g k o a s)] w fun e w'=>e=.returned (.int .i64 (ofCh (es.map me) ⟨g,k,o,a⟩))∧Below w.heap.size w w':=by
 have h:k=9∨k=10∨k=11∨k=12∨k=13:=by omega
 rcases h with rfl|rfl|rfl|rfl|rfl
 ·exact rchan_9 ad n c es w hr hn hg hcap hm g o a s he
 ·exact rchan_10 ad n c es w hr hn hg hcap hm g o a s he
 ·exact rchan_11 ad n c es w hr hn hg hcap hm g o a s he
 ·exact rchan_12 ad n c es w hr hn hg hcap hm g o a s he
 ·exact rchan_13 ad n c es w hr hn hg hcap hm g o a s he
def rest16 (T:List Me) (e:Me):Int:=if 3≤e.k∧e.k≤6 then ofLk T e else if e.k=7∨e.k=8 then ofGr T e else if 9≤e.k∧e.k≤13 then ofCh T e else ofOt T e
theorem rsn_v (T:List Me) (e:Me):rsn T e=if bgT T e.g=false then 1 else if nmd T 8 e.g=true then 2 else if (dueV T e.g).2.2=true∧(e.k≠11∨e.o≠(dueV T e.g).1) then 3 else rest16 T e:=by
 unfold rsn dueV rest16
 cases dueT T e.g with
 | none=>simp
 | some d=>simp
theorem rreason_any (ad:Option Addr) (n c:Nat) (es:List E6.Ev) (w:World) (hr:E6.ERow w ad n es) (hn:(n:Int)≤1048576) (hg:∀ e ∈ es,Eb e.g e.k e.o e.a) (hcap:(n:Int)≤c) (hm:Mde (es.map me)) (g o a:Int) (s:Value) (k:Int) (he:Eb g k o a) :
  Calls Tryz.prog 51 #[.slice ad n c,.agg (evC g k o a s)] w fun e w'=>e=.returned (.int .i64 (rsn (es.map me) ⟨g,k,o,a⟩))∧Below w.heap.size w w':=by
 obtain ⟨W,hW⟩:∃ W,W=w.alloc (.cells (evC g k o a s) 43):=⟨_,rfl⟩
 have hb:Below w.heap.size w W:=by rw [hW];exact below_alloc1 w _
 have hE:W.heap[w.heap.size]?=some (.cells (evC g k o a s) 43 (0,0)):=by rw [hW];exact heap_new _ _
 obtain ⟨p0,p1,p2,p3,p4⟩:=evc0 hE
 obtain ⟨R,hR⟩:∃ R:Int,R=rsn (es.map me) ⟨g,k,o,a⟩:=⟨_,rfl⟩
 rw [← hR]
 have HR:=hide hR
 have HB:=hide hb
 have HW:=hide hW
 have HE:=hide (hr.bel hb)
 have HG:=hide hg
 have HO:=hide he
 have HM:=hide hm
 have hleW:w.heap.size < W.heap.size:=(Array.getElem?_eq_some_iff.1 hE).1
 clear hr hb hW hR hE hg he hm
 unfold evC
 unfold evC at HW
 have HQ1:=hide (rbegun_any ad n c es W HE.out hn g HO.out.ok.g0 HO.out.ok.g1)
 have HQ2:=hide (rjoined_any ad n c es W HE.out hn g HO.out.ok.g0 HO.out.ok.g1)
 have HQ3:=hide (rdue_any ad n c es W HE.out hn hcap HG.out HM.out g)
 have HRr:=hide (HR.out.trans (rsn_v (es.map me) ⟨g,k,o,a⟩))
 clear HR
 dsimp only at HRr
 generalize bgT (es.map me) g=A at HQ1 HRr
 generalize nmd (es.map me) 8 g=B at HQ2 HRr
 generalize dueV (es.map me) g=D at HQ3 HRr
 obtain ⟨d1,d2,d3⟩:=D
 dsimp only at HQ3 HRr
 go_enter Tryz.func51,Tryz.ntmps51
 go_wp2_with fail
 rw [← HW.out]
 clear HW
 go_wp2_with fail
 refine HQ1.out.mono ?_
 rintro r w1 ⟨rfl,hw9⟩
 obtain rfl:W=w1:=hw9.symm
 clear HQ1
 cases A with
 | false =>
  have H9:Hid (R=1):=hide (by rw [HRr.out];rfl)
  clear HRr
  go_wp2
  go_ret
  exact ⟨by rw [H9.out];rfl,HB.out⟩
 | true =>
  go_wp2_with fail
  refine HQ2.out.mono ?_
  rintro r w1 ⟨rfl,hw9⟩
  obtain rfl:W=w1:=hw9.symm
  clear HQ2
  cases B with
  | true =>
   have H9:Hid (R=2):=hide (by rw [HRr.out];rfl)
   clear HRr
   go_wp2
   go_ret
   exact ⟨by rw [H9.out];rfl,HB.out⟩
  | false =>
   have HRs:Hid (R=if d3=true∧(k≠11∨o≠d1) then 3 else rest16 (es.map me) ⟨g,k,o,a⟩):=hide (by rw [HRr.out,if_neg (by decide),if_neg (by decide)])
   clear HRr
   go_wp2_with fail
   refine HQ3.out.mono ?_
   rintro r w2 ⟨rfl,hb2⟩
   have HB2:=hide (HB.out.trans (hb2.mono HB.out.size))
   have HE2:=hide (HE.out.bel hb2)
   have hle2:w.heap.size < w2.heap.size:=Nat.lt_of_lt_of_le hleW hb2.size
   have q0:=E6.cell_bel p0 hb2
   have q1:=E6.cell_bel p1 hb2
   have q2:=E6.cell_bel p2 hb2
   have q3:=E6.cell_bel p3 hb2
   have q4:=E6.cell_bel p4 hb2
   clear HQ3 hb2 p0 p1 p2 p3 p4
   cases d3 with
   | true =>
    by_cases h11:k=11
    ·have b11:=bne_f h11
     by_cases hoc:o=d1
     ·have boc:=bne_f hoc
      have HC:=hide (rchan_any ad n c es w2 HE2.out hn HG.out hcap HM.out g o a s k HO.out (by omega) (by omega))
      unfold evC at HC
      have H9:Hid (R=ofCh (es.map me) ⟨g,k,o,a⟩):=hide (by
       rw [HRs.out,if_neg (fun q=>q.2.elim (fun z=>z h11) (fun z=>z hoc))]
       unfold rest16
       dsimp only
       rw [if_neg (by omega),if_neg (by omega),if_pos (by omega)])
      rw [← H9.out] at HC
      clear HRs H9 hoc
      subst h11
      go_wp2_with fail
      refine HC.out.mono ?_
      rintro r w3 ⟨rfl,hb3⟩
      have HB3:=hide (HB2.out.trans (hb3.mono HB2.out.size))
      clear HC hb3
      go_wp2
      go_ret
      exact ⟨rfl,HB3.out⟩
     ·have boc:=bne_t hoc
      have H9:Hid (R=3):=hide (by rw [HRs.out,if_pos (⟨rfl,.inr hoc⟩)])
      clear HRs
      go_wp2
      go_ret
      exact ⟨by rw [H9.out];rfl,HB2.out⟩
    ·have b11:=bne_t h11
     have H9:Hid (R=3):=hide (by rw [HRs.out,if_pos (⟨rfl,.inl h11⟩)])
     clear HRs
     go_wp2
     go_ret
     exact ⟨by rw [H9.out];rfl,HB2.out⟩
   | false =>
    have HRt:Hid (R=rest16 (es.map me) ⟨g,k,o,a⟩):=hide (by rw [HRs.out,if_neg (fun q=>by cases q.1)])
    clear HRs
    by_cases h3:3≤k
    ·have b3:decide (3≤k)=true:=decide_eq_true h3
     by_cases h6:k≤6
     ·have b6:decide (k≤6)=true:=decide_eq_true h6
      have HC:=hide (rlock_any ad n c es w2 HE2.out hn HG.out hcap HM.out g o a s k HO.out h3 h6)
      unfold evC at HC
      have H9:=hide (HRt.out.trans (show rest16 (es.map me) ⟨g,k,o,a⟩=ofLk (es.map me) ⟨g,k,o,a⟩ by unfold rest16;dsimp only;rw [if_pos ⟨h3,h6⟩]))
      clear HRt
      rw [← H9.out] at HC
      go_wp2_with fail
      refine HC.out.mono ?_
      rintro r w3 ⟨rfl,hb3⟩
      have HB3:=hide (HB2.out.trans (hb3.mono HB2.out.size))
      clear HC hb3 H9
      go_wp2
      go_ret
      exact ⟨rfl,HB3.out⟩
     ·have b6:decide (k≤6)=false:=decide_eq_false h6
      by_cases h7:k=7
      ·have b7:=beq_t h7
       have HC:=hide (rgor_any ad n c es w2 HE2.out hn HG.out hcap HM.out g o a s k HO.out (by omega) (by omega))
       unfold evC at HC
       have H9:=hide (HRt.out.trans (show rest16 (es.map me) ⟨g,k,o,a⟩=ofGr (es.map me) ⟨g,k,o,a⟩ by unfold rest16;dsimp only;rw [if_neg (fun q=>h6 q.2),if_pos (.inl h7)]))
       clear HRt h7
       rw [← H9.out] at HC
       go_wp2_with fail
       refine HC.out.mono ?_
       rintro r w3 ⟨rfl,hb3⟩
       have HB3:=hide (HB2.out.trans (hb3.mono HB2.out.size))
       clear HC hb3 H9
       go_wp2
       go_ret
       exact ⟨rfl,HB3.out⟩
      ·have b7:=beq_f h7
       by_cases h8:k=8
       ·have b8:=beq_t h8
        have HC:=hide (rgor_any ad n c es w2 HE2.out hn HG.out hcap HM.out g o a s k HO.out (by omega) (by omega))
        unfold evC at HC
        have H9:=hide (HRt.out.trans (show rest16 (es.map me) ⟨g,k,o,a⟩=ofGr (es.map me) ⟨g,k,o,a⟩ by unfold rest16;dsimp only;rw [if_neg (fun q=>h6 q.2),if_pos (.inr h8)]))
        clear HRt h8
        rw [← H9.out] at HC
        go_wp2_with fail
        refine HC.out.mono ?_
        rintro r w3 ⟨rfl,hb3⟩
        have HB3:=hide (HB2.out.trans (hb3.mono HB2.out.size))
        clear HC hb3 H9
        go_wp2
        go_ret
        exact ⟨rfl,HB3.out⟩
       ·have b8:=beq_f h8
        have b9:decide (9≤k)=true:=decide_eq_true (by omega)
        by_cases h13:k≤13
        ·have b13:decide (k≤13)=true:=decide_eq_true h13
         have HC:=hide (rchan_any ad n c es w2 HE2.out hn HG.out hcap HM.out g o a s k HO.out (by omega) h13)
         unfold evC at HC
         have H9:=hide (HRt.out.trans (show rest16 (es.map me) ⟨g,k,o,a⟩=ofCh (es.map me) ⟨g,k,o,a⟩ by unfold rest16;dsimp only;rw [if_neg (fun q=>h6 q.2),if_neg (fun q=>q.elim h7 h8),if_pos ⟨by omega,h13⟩]))
         clear HRt
         rw [← H9.out] at HC
         go_wp2_with fail
         refine HC.out.mono ?_
         rintro r w3 ⟨rfl,hb3⟩
         have HB3:=hide (HB2.out.trans (hb3.mono HB2.out.size))
         clear HC hb3 H9
         go_wp2
         go_ret
         exact ⟨rfl,HB3.out⟩
        ·have b13:decide (k≤13)=false:=decide_eq_false h13
         have HC:=hide (rother_any ad n c es w2 HE2.out hn HG.out g o a s k HO.out)
         unfold evC at HC
         have H9:=hide (HRt.out.trans (show rest16 (es.map me) ⟨g,k,o,a⟩=ofOt (es.map me) ⟨g,k,o,a⟩ by unfold rest16;dsimp only;rw [if_neg (fun q=>h6 q.2),if_neg (fun q=>q.elim h7 h8),if_neg (fun q=>h13 q.2)]))
         clear HRt
         rw [← H9.out] at HC
         go_wp2_with fail
         refine HC.out.mono ?_
         rintro r w3 ⟨rfl,hb3⟩
         have HB3:=hide (HB2.out.trans (hb3.mono HB2.out.size))
         clear HC hb3 H9
         go_wp2
         go_ret
         exact ⟨rfl,HB3.out⟩
    ·have b3:decide (3≤k)=false:=decide_eq_false h3
     have b9:decide (9≤k)=false:=decide_eq_false (by omega)
     have b7:(k == 7)=false:=beq_f (by omega)
     have b8:(k == 8)=false:=beq_f (by omega)
     have HC:=hide (rother_any ad n c es w2 HE2.out hn HG.out g o a s k HO.out)
     unfold evC at HC
     have H9:=hide (HRt.out.trans (show rest16 (es.map me) ⟨g,k,o,a⟩=ofOt (es.map me) ⟨g,k,o,a⟩ by unfold rest16;dsimp only;rw [if_neg (fun q=>h3 q.1),if_neg (by omega),if_neg (by omega)]))
     clear HRt
     rw [← H9.out] at HC
     go_wp2_with fail
     refine HC.out.mono ?_
     rintro r w3 ⟨rfl,hb3⟩
     have HB3:=hide (HB2.out.trans (hb3.mono HB2.out.size))
     clear HC hb3 H9
     go_wp2
     go_ret
     exact ⟨rfl,HB3.out⟩
noncomputable def frV (es:List E6.Ev):Int × Int × Int:=if (E6.bounds es).2≠0 then ((E6.bounds es).1,0,(E6.bounds es).2) else ((fr [] (es.map me) 0).1,(fr [] (es.map me) 0).2,0)
theorem rrun_any (ad:Option Addr) (n c:Nat) (es:List E6.Ev) (w:World) (hr:E6.ERow w ad n es) (hok:∀ e ∈ es,e.ok) (hn:(n:Int)≤9223372036854775806) (hc:n≤c) :
  Calls Tryz.prog 36 #[.slice ad n c] w fun r w'=>r=.returned (.tuple #[.int .i64 (frV es).1,.int .i64 (frV es).2.1,.int .i64 (frV es).2.2])∧Below w.heap.size w w':=by
 obtain ⟨R,hR⟩:∃ R,R=frV es:=⟨_,rfl⟩
 rw [← hR]
 have HR:=hide hR
 have HBo:=hide (E6.rbounds_any ad n c es w hr hok hn)
 have HE:=hide hr
 have HO:=hide hok
 have hcI:(n:Int)≤c:=by omega
 obtain ⟨bp,hbp⟩:∃ bp,bp=(E6.bounds es).1:=⟨_,rfl⟩
 obtain ⟨be,hbe⟩:∃ be,be=(E6.bounds es).2:=⟨_,rfl⟩
 rw [← hbp,← hbe] at HBo
 have HBp:=hide hbp
 have HBe:=hide hbe
 clear hR hr hok hbp hbe hc
 go_enter Tryz.func36,Tryz.ntmps36
 go_wp2_with fail
 refine HBo.out.mono ?_
 rintro e w1 ⟨rfl,hb1⟩
 have HB1:=hide hb1
 clear hb1 HBo
 by_cases h0:be=0
 ·have hne:(be != 0)=false:=by simp [h0]
  have hz:(E6.bounds es).2=0:=by rw [← HBe.out];exact h0
  obtain ⟨hlen,hchk⟩:=bounds_zero hz
  rw [HE.out.len] at hlen
  have HGd:Hid (∀ e ∈ es,Gdm (me e)∧Eb e.g e.k e.o e.a):=hide (fun e he=>gdm_of (hchk e he) (HO.out e he))
  have HRn:Hid (R=((fr [] (es.map me) 0).1,(fr [] (es.map me) 0).2,0)):=hide (by rw [HR.out];unfold frV;rw [if_neg (fun e=>e hz)])
  have hl:(n:Int)≤1048576:=by omega
  clear h0 hz hchk HR HBp HBe hlen hn
  go_wp2
  go_loopw [7] (fun i wr=>∃ (j:Nat) (M:CS),j≤n∧i=.int .i64 j∧Rch (Tj es j) M∧(R=((fr (Tj es j) ((es.drop j).map me) j).1,(fr (Tj es j) ((es.drop j).map me) j).2,0))∧Below w.heap.size w wr) (fun i _=>n - (intOf i).toNat)
  case atStart=>exact ⟨0,CS.new,Nat.zero_le _,rfl,by rw [Tj_zero];exact .new,by rw [Tj_zero,List.drop_zero];exact HRn.out,HB1.out⟩
  case round =>
   obtain ⟨j,M,hj,rfl,hrch,hRj,hbl⟩:=hrel
   have HBl:=hide hbl
   have HRc:=hide hrch
   clear hbl hrch HRn
   by_cases hlt:j < n
   ·have hjI:(j:Int) < n:=by omega
    have hj0:(0:Int)≤j:=by omega
    have hjc:(j:Int)≤c:=by omega
    have hrr:=HE.out.bel HBl.out
    have hcut:=(erow_cut hrr hj).bel (Below.refl wr.heap.size wr).drew
    obtain ⟨b,off,e,ha,hej,c0,c1,c2,c3,c4,hs⟩:=hrr.at hlt
    subst ha
    obtain ⟨hgm,heb⟩:=HGd.out e (List.mem_of_getElem? hej)
    have HRe:=hide (rreason_any (some ⟨b,off,none⟩) j c (es.take j) wr.drew hcut (by omega) (fun x hx=>(HGd.out x (List.mem_of_mem_take hx)).2) hjc HRc.out.mde e.g e.o e.a (.slice e.sa e.ls.length e.sc) e.k heb)
    unfold evC at HRe
    have hdrop:(es.drop j).map me=me e :: (es.drop (j+1)).map me:=by
     obtain ⟨hl',he'⟩:=List.getElem?_eq_some_iff.1 hej
     rw [List.drop_eq_getElem_cons hl',he']
     rfl
    rw [hdrop,fr] at hRj
    have HRj:=hide hRj
    obtain ⟨Y,hY⟩:∃ Y,Y=rsn (Tj es j) (me e):=⟨_,rfl⟩
    have HRe2:Hid (Calls Tryz.prog 51 #[.slice (some ⟨b,off,none⟩) j c,.agg #[.int .i64 e.g,.int .i64 e.k,.int .u64 e.o,.int .u64 e.a,.slice e.sa e.ls.length e.sc]] wr.drew fun e w'=>e=.returned (.int .i64 Y)∧Below wr.drew.heap.size wr.drew w'):=hide (by rw [hY];exact HRe.out)
    rw [← hY] at HRj
    have HY:=hide hY
    have HW:=hide (HRc.out.why hgm)
    have HGm:=hide hgm
    have HEj:=hide hej
    have HBd:=hide (HBl.out.trans ((Below.refl wr.heap.size wr).drew.mono HBl.out.size))
    have HSx:Hid (∀ X,Below wr.heap.size wr X→X.cell? ⟨b,off+j * 5,none⟩=some (.int .i64 e.g)∧X.cell? ⟨b,off+j * 5+1,none⟩=some (.int .i64 e.k)∧X.cell? ⟨b,off+j * 5+2,none⟩=some (.int .u64 e.o)∧X.cell? ⟨b,off+j * 5+3,none⟩=some (.int .u64 e.a)∧X.cell? ⟨b,off+j * 5+4,none⟩=some (.slice e.sa e.ls.length e.sc)):=hide (fun X hX=>⟨E6.cell_bel c0 hX,E6.cell_bel c1 hX,E6.cell_bel c2 hX,E6.cell_bel c3 hX,E6.cell_bel c4 hX⟩)
    have HX0:=hide (Below.refl wr.heap.size wr)
    have HX1:=hide ((Below.refl wr.heap.size wr).drew)
    clear hrr hcut hej hgm heb hdrop hRj hY HRe hs
    go_wp2_with fail
    go_region_held3 (fun X=>X.cell? ⟨b,off+j * 5,none⟩=some (.int .i64 e.g)∧X.cell? ⟨b,off+j * 5+1,none⟩=some (.int .i64 e.k)∧X.cell? ⟨b,off+j * 5+2,none⟩=some (.int .u64 e.o)∧X.cell? ⟨b,off+j * 5+3,none⟩=some (.int .u64 e.a)∧X.cell? ⟨b,off+j * 5+4,none⟩=some (.slice e.sa e.ls.length e.sc))
     (first|with_reducible exact HSx.out _ HX0.out|with_reducible exact HSx.out _ HX1.out|with_reducible exact HSx.out _ HX7.out)
     (first|(go_at_call 51;go_must (refine HRe2.out.mono ?_;rintro e9 w7 ⟨rfl,h7⟩;have HB7:Hid (Below w.heap.size w w7):=hide (HBd.out.trans (h7.mono HBd.out.size));have HX7:Hid (Below wr.heap.size wr w7):=hide (HX1.out.trans (h7.mono HX1.out.size));clear h7)))
    clear HRe2 HSx HX0 HX1 HBd c0 c1 c2 c3 c4
    by_cases hY0:Y=0
    ·have hYb:(Y != 0)=false:=by simp [hY0]
     have HRn:Hid (R=((fr (Tj es (j+1)) ((es.drop (j+1)).map me) (j+1)).1,(fr (Tj es (j+1)) ((es.drop (j+1)).map me) (j+1)).2,0)):=hide (by rw [HRj.out,if_neg (fun q=>q hY0),Tj_succ HEj.out])
     have HRc2:Hid (Rch (Tj es (j+1)) (M.next (me e))):=hide (by rw [Tj_succ HEj.out];exact .step HRc.out HGm.out (by rw [HW.out,← HY.out];exact hY0))
     clear hY0 HRj HW HY
     go_wp2
     exact ⟨⟨j+1,_,by omega,by go_num,HRc2.out,HRn.out,HB7.out⟩,by simp [intOf];omega⟩
    ·have hYb:(Y != 0)=true:=by simp [hY0]
     have HRn:Hid (R=((j:Int),Y,0)):=hide (by rw [HRj.out,if_pos hY0])
     clear hY0 HRj HW HY
     go_wp2
     go_ret3
     exact ⟨by rw [HRn.out];rfl,HB7.out⟩
   ·have HRn:Hid (R=(-1,0,0)):=hide (by rw [hRj,List.drop_eq_nil_of_le (by rw [HE.out.len];omega)];rfl)
    clear hRj
    go_wp2
    go_ret3
    exact ⟨by rw [HRn.out];rfl,HBl.out⟩
 ·have hne:(be != 0)=true:=by simp [h0]
  have HRn:Hid (R=(bp,0,be)):=hide (by rw [HR.out];unfold frV;rw [if_pos (by rw [← HBe.out];exact h0),HBp.out,HBe.out])
  clear h0
  go_wp2
  go_ret3
  exact ⟨by rw [HRn.out];rfl,HB1.out⟩
end Go.Proofs.YtaeehnaicnckgaaGreatDoor
namespace Go.Proofs.YtaeehnaicnckgaaGreatDoor.E6
open Go.RowKit Go.Maps Go.Shelf
theorem results_tmp4 {fn:Func} {t u v x:Tmp} (h:fn.results=#[.tmp t,.tmp u,.tmp v,.tmp x]) (tmps:Array Value) (P:Program) (w:World) :
  (results fn tmps).run P w=.ok (.tuple #[tmps.getD t undef,tmps.getD u undef,tmps.getD v undef,tmps.getD x undef]) w:=by
 simp [results,h]
def accB (k o a:Int):Bool:=decide ((k=1∨k=2)∧1≤a∧a≤64∧o+(a - 1)≤18446744073709551615)
def acc0 (k o a:Int):Int:=if accB k o a then o else 0
def acc1 (k o a:Int):Int:=if accB k o a then o+(a - 1) else 0
def acc2 (k o a:Int):Bool:=accB k o a && (k == 2)
theorem Kr.drewN {w:World} (h:Kr w) (j:Nat):Kr (w.drewN j):=h.below (below_drewN (Below.refl w.heap.size _) j) (by have:=h.size;omega)
theorem EvB.drewN {w:World} {b:Nat} {g k o a:Int} {sa:Option Addr} {sn sc:Nat} (h:EvB w b g k o a sa sn sc) (j:Nat):EvB (w.drewN j) b g k o a sa sn sc:=h.below (below_drewN (Below.refl _ _) j)
theorem acc_arg {m:Nat} {o a:Int} (hm:m=1∨m=2):accB m o a=(argB m a && objB m o a)∧ksort m=2:=by
 have hs:ksort m=2:=by rcases hm with rfl|rfl <;> rfl
 refine ⟨?_,hs⟩
 unfold accB objB argB lo hi
 rw [hs]
 simp only [rlo,rhi,rlos,rhis]
 rw [Bool.eq_iff_iff]
 simp
 omega
theorem access_any (g k o a:Int) (sa:Option Addr) (sn sc:Nat) (w:World) (h:Kr w) (ho:0≤o∧o≤18446744073709551615) :
  Calls Tryz.prog 21 #[.agg #[.int .i64 g,.int .i64 k,.int .u64 o,.int .u64 a,.slice sa sn sc]] w fun e w'=>e=.returned (.tuple #[.int .u64 (acc0 k o a),.int .u64 (acc1 k o a),.bool (acc2 k o a),.bool (accB k o a)])∧Below w.heap.size w w':=by
 obtain ⟨R,hR⟩:∃ R,R=Value.tuple #[.int .u64 (acc0 k o a),.int .u64 (acc1 k o a),.bool (acc2 k o a),.bool (accB k o a)]:=⟨_,rfl⟩
 rw [← hR]
 unfold acc0 acc1 acc2 at hR
 obtain ⟨W1,hW1⟩:∃ W1,W1=w.alloc (.cells #[.int .i64 g,.int .i64 k,.int .u64 o,.int .u64 a,.slice sa sn sc] 43):=⟨_,rfl⟩
 have hb1:Below w.heap.size w W1:=by rw [hW1];exact below_new w _
 have hk1:=h.below hb1 (by have:=h.size;omega)
 have he1:EvB W1 w.heap.size g k o a sa sn sc:=by rw [hW1];exact EvB.new
 have q1:=he1.c1
 have HB:Hid _:=hide hb1
 have HK:Hid _:=hide hk1
 have HE:Hid _:=hide he1
 have HR:Hid _:=hide hR
 clear hb1 hk1 he1 h hR
 by_cases hk:k=1∨k=2
 ·obtain ⟨m,rfl⟩:∃ m:Nat,k=m:=⟨k.toNat,by omega⟩
  have hm:m=1∨m=2:=by omega
  obtain ⟨hacc,hs⟩:=acc_arg (o:=o) (a:=a) hm
  have hm23:m < 23:=by omega
  have hbd:=@argB_bd m a (.inl hs)
  have HC:Hid _:=hide hacc
  have HBd:Hid _:=hide hbd
  obtain ⟨ho1,ho2⟩:=ho
  have hb:∃ b1 b2:Bool,b1=!b2∧((m:Int) == 1)=b1∧((m:Int) == 2)=b2:=by
   rcases hm with rfl|rfl
   ·exact ⟨true,false,rfl,rfl,rfl⟩
   ·exact ⟨false,true,rfl,rfl,rfl⟩
  obtain ⟨b1,b2,hb12,e1,e2⟩:=hb
  clear hk hacc hs hbd hm
  cases b2 <;> (
   simp at hb12
   subst hb12
   go_enter Tryz.func21,Tryz.ntmps21
   go_wp2
   rw [← hW1]
   clear hW1
   go_quiet (fail)
   have HA:Hid _:=hide (arg_any g m o a sa sn sc (W1.drewN nq) (HK.out.drewN nq) hm23)
   have HB2:Hid _:=hide (below_drewN HB.out nq)
   have HK2:Hid _:=hide (HK.out.drewN nq)
   have HE2:Hid _:=hide (HE.out.drewN nq)
   generalize W1.drewN nq=W2 at HA HB2 HK2 HE2 ⊢
   have p0:=HE2.out.c0
   have p1:=HE2.out.c1
   have p2:=HE2.out.c2
   have p3:=HE2.out.c3
   have p4:=HE2.out.c4
   clear HB HK HE q1
   go_wp2_with fail
   refine HA.out.mono ?_
   rintro e w3 ⟨rfl,hb3⟩
   have HB3:Hid _:=hide (HB2.out.trans (hb3.mono HB2.out.size))
   have HK3:Hid _:=hide (HK2.out.below hb3 (by have:=HK2.out.size;omega))
   have HE3:Hid _:=hide (HE2.out.below hb3)
   clear HA hb3 HB2 HK2 HE2 p0 p1 p2 p3 p4
   cases hab:argB m a
   ·have HN:Hid (accB m o a=false):=hide (by rw [HC.out,hab];rfl)
    go_wp2
    (try simp only [Exit.inBlock,Exit.then]);refine bodyPost_ret (results_tmp4 rfl _ _ _) rfl ?_
    exact ⟨by rw [HR.out,HN.out];rfl,HB3.out⟩
   ·obtain ⟨ha1,ha2⟩:=HBd.out hab
    have HO:Hid _:=hide (obj_any g m o a sa sn sc w3 HK3.out hm23)
    have p0:=HE3.out.c0
    have p1:=HE3.out.c1
    have p2:=HE3.out.c2
    have p3:=HE3.out.c3
    have p4:=HE3.out.c4
    go_wp2_with fail
    refine HO.out.mono ?_
    rintro e w4 ⟨rfl,hb4⟩
    have HB4:Hid _:=hide (HB3.out.trans (hb4.mono HB3.out.size))
    have HE4:Hid _:=hide (HE3.out.below hb4)
    clear HO hb4 HB3 HK3 HE3 p0 p1 p2 p3 p4
    cases hob:objB m o a
    ·have HN:Hid (accB m o a=false):=hide (by rw [HC.out,hab,hob];rfl)
     go_wp2
     (try simp only [Exit.inBlock,Exit.then]);refine bodyPost_ret (results_tmp4 rfl _ _ _) rfl ?_
     exact ⟨by rw [HR.out,HN.out];rfl,HB4.out⟩
    ·have HN:Hid (accB m o a=true):=hide (by rw [HC.out,hab,hob];rfl)
     have hlast:o+(a - 1)≤18446744073709551615:=(of_decide_eq_true HN.out).2.2.2
     have w1:IntKind.u64.wrap (a - 1)=a - 1:=by rw [IntKind.wrap_u64];omega
     have w2:IntKind.u64.wrap (o+(a - 1))=o+(a - 1):=by rw [IntKind.wrap_u64];omega
     have p2:=HE4.out.c2
     have p3:=HE4.out.c3
     go_wp2
     go_quiet (fail)
     go_wp2
     (try simp only [Exit.inBlock,Exit.then]);refine bodyPost_ret (results_tmp4 rfl _ _ _) rfl ?_
     exact ⟨by rw [HR.out,HN.out,e2];rfl,below_drewN HB4.out _⟩)
 ·have e1:(k == 1)=false:=by rw [beq_eq_false_iff_ne];omega
  have e2:(k == 2)=false:=by rw [beq_eq_false_iff_ne];omega
  have HN:Hid (accB k o a=false):=hide (by unfold accB;rw [decide_eq_false_iff_not];omega)
  clear hk ho
  go_enter Tryz.func21,Tryz.ntmps21
  go_wp2
  rw [← hW1]
  clear hW1
  go_quiet (fail)
  go_wp2
  (try simp only [Exit.inBlock,Exit.then]);refine bodyPost_ret (results_tmp4 rfl _ _ _) rfl ?_
  exact ⟨by rw [HR.out,HN.out];rfl,below_drewN HB.out _⟩
end Go.Proofs.YtaeehnaicnckgaaGreatDoor.E6
namespace Go.Proofs.YtaeehnaicnckgaaGreatDoor.E6
open Go.RowKit Go.Maps Go.Shelf
theorem raccess_any (g k o a:Int) (sa:Option Addr) (sn sc:Nat) (w:World) (ho:0≤o∧o≤18446744073709551615) (ha:0≤a∧a≤18446744073709551615) :
  Calls Tryz.prog 24 #[.agg #[.int .i64 g,.int .i64 k,.int .u64 o,.int .u64 a,.slice sa sn sc]] w fun e w'=>e=.returned (.tuple #[.int .u64 (acc0 k o a),.int .u64 (acc1 k o a),.bool (acc2 k o a),.bool (accB k o a)])∧Below w.heap.size w w':=by
 obtain ⟨R,hR⟩:∃ R,R=Value.tuple #[.int .u64 (acc0 k o a),.int .u64 (acc1 k o a),.bool (acc2 k o a),.bool (accB k o a)]:=⟨_,rfl⟩
 rw [← hR]
 unfold acc0 acc1 acc2 at hR
 obtain ⟨W1,hW1⟩:∃ W1,W1=w.alloc (.cells #[.int .i64 g,.int .i64 k,.int .u64 o,.int .u64 a,.slice sa sn sc] 43):=⟨_,rfl⟩
 have hb1:Below w.heap.size w W1:=by rw [hW1];exact below_new w _
 have he1:EvB W1 w.heap.size g k o a sa sn sc:=by rw [hW1];exact EvB.new
 have HOv:Hid _:=hide (rover_any g k o a sa sn sc W1 ho ha)
 rw [hW1] at HOv
 have HB:Hid _:=hide hb1
 have HE:Hid _:=hide he1
 have HR:Hid _:=hide hR
 have HW:Hid _:=hide hW1
 obtain ⟨ho1,ho2⟩:=ho
 obtain ⟨ha1,ha2⟩:=ha
 clear hb1 he1 hR hW1
 have hb:∃ b1 b2:Bool,(k != 1)=b1∧(k != 2)=b2∧(k == 2)=!b2∧(b1 && b2)=decide ¬ (k=1∨k=2)∧(b1 || b2)=true:=by
  by_cases h1:k=1
  ·subst h1;exact ⟨false,true,rfl,rfl,rfl,rfl,rfl⟩
  ·by_cases h2:k=2
   ·subst h2;exact ⟨true,false,rfl,rfl,rfl,rfl,rfl⟩
   ·exact ⟨true,true,by rw [bne_iff_ne];exact h1,by rw [bne_iff_ne];exact h2,by rw [beq_eq_false_iff_ne.2 h2];rfl,by symm;rw [Bool.and_true,decide_eq_true_eq];omega,rfl⟩
 obtain ⟨b1,b2,e1,e2,e3,hbb,hor⟩:=hb
 by_cases hk:(b1 && b2)=true
 ·have HN:Hid (accB k o a=false):=hide (by
   unfold accB;rw [decide_eq_false_iff_not];rw [hk] at hbb;have:=of_decide_eq_true hbb.symm;omega)
  simp at hk
  obtain ⟨rfl,rfl⟩:=hk
  clear hbb hor e3
  go_enter Tryz.func24,Tryz.ntmps24
  go_wp2
  (try simp only [Exit.inBlock,Exit.then]);refine bodyPost_ret (results_tmp4 rfl _ _ _) rfl ?_
  exact ⟨by rw [HR.out,HN.out];rfl,by rw [← HW.out];exact HB.out⟩
 ·have HKK:Hid (k=1∨k=2):=hide (by
   have h0:(b1 && b2)=false:=by simpa using hk
   rw [h0] at hbb;have:=of_decide_eq_false hbb.symm;omega)
  have hx:b1=!b2:=by cases b1 <;> cases b2 <;> simp_all
  clear hk hbb hor
  subst hx
  cases b2 <;> (
   by_cases d1:a < 1
   ·have HN:Hid (accB k o a=false):=hide (by unfold accB;rw [decide_eq_false_iff_not];omega)
    go_enter Tryz.func24,Tryz.ntmps24
    go_wp2
    (try simp only [Exit.inBlock,Exit.then]);refine bodyPost_ret (results_tmp4 rfl _ _ _) rfl ?_
    exact ⟨by rw [HR.out,HN.out];rfl,by rw [← HW.out];exact HB.out⟩
   ·have d1':decide (a < 1)=false:=decide_eq_false d1
    by_cases d2:64 < a
    ·have HN:Hid (accB k o a=false):=hide (by unfold accB;rw [decide_eq_false_iff_not];omega)
     go_enter Tryz.func24,Tryz.ntmps24
     go_wp2
     (try simp only [Exit.inBlock,Exit.then]);refine bodyPost_ret (results_tmp4 rfl _ _ _) rfl ?_
     exact ⟨by rw [HR.out,HN.out];rfl,by rw [← HW.out];exact HB.out⟩
    ·have d2':decide (64 < a)=false:=decide_eq_false d2
     have w1:IntKind.u64.wrap (a - 1)=a - 1:=by rw [IntKind.wrap_u64];omega
     have hov:overB o a=!accB k o a:=by
      have:=HKK.out
      unfold overB accB;rw [Bool.eq_iff_iff];simp;omega
     rw [hov] at HOv
     go_enter Tryz.func24,Tryz.ntmps24
     go_wp2_with fail
     refine HOv.out.mono ?_
     rintro e w2 ⟨rfl,hb2⟩
     rw [← HW.out] at hb2
     have HB2:Hid _:=hide (HB.out.trans (hb2.mono HB.out.size))
     have HE2:Hid _:=hide (HE.out.below hb2)
     clear hb2
     cases hac:accB k o a
     ·go_wp2
      (try simp only [Exit.inBlock,Exit.then]);refine bodyPost_ret (results_tmp4 rfl _ _ _) rfl ?_
      exact ⟨by rw [HR.out,hac];rfl,HB2.out⟩
     ·have hlast:o+(a - 1)≤18446744073709551615:=(of_decide_eq_true hac).2.2.2
      have w2:IntKind.u64.wrap (o+(a - 1))=o+(a - 1):=by rw [IntKind.wrap_u64];omega
      have p1:=HE2.out.c1
      have p2:=HE2.out.c2
      have p3:=HE2.out.c3
      go_wp2
      go_quiet (fail)
      go_wp2
      (try simp only [Exit.inBlock,Exit.then]);refine bodyPost_ret (results_tmp4 rfl _ _ _) rfl ?_
      exact ⟨by rw [HR.out,hac,e3];rfl,below_drewN HB2.out _⟩)
end Go.Proofs.YtaeehnaicnckgaaGreatDoor.E6
namespace Go.Proofs.YtaeehnaicnckgaaGreatDoor
open Go.RowKit Go.Maps Go.Shelf
theorem frV_run {es:List E6.Ev} (hok:∀ e ∈ es,e.ok):frV es=runV es:=by
 unfold frV runV
 by_cases h:(E6.bounds es).2≠0
 ·rw [if_pos h,if_pos h]
 ·rw [if_neg h,if_neg h]
  have h0:(E6.bounds es).2=0:=by omega
  obtain ⟨_,hchk⟩:=bounds_zero h0
  rw [run_fr es [] CS.new 0 .new fun e he=>(gdm_of (hchk e he) (hok e he)).1]
noncomputable def wnE (es:List E6.Ev):Int:=if (runV es).2.2≠0 then (runV es).2.2 else if (runV es).2.1≠0 then 160 else 0
theorem runV_one {es:List E6.Ev} (h:(runV es).2.2≠0):(runV es).2.1=0:=by
 unfold runV at h ⊢
 split
 ·rfl
 ·rename_i h1
  rw [if_neg h1] at h
  exact absurd rfl h
theorem wn_place {es:List E6.Ev} (h:wnE es=0):(runV es).1=-1:=by
 unfold wnE at h
 by_cases h1:(runV es).2.2≠0
 ·rw [if_pos h1] at h;exact absurd h h1
 ·rw [if_neg h1] at h
  by_cases h2:(runV es).2.1≠0
  ·rw [if_pos h2] at h;exact absurd h (by decide)
  ·have h3:(runV es).2.1=0:=by omega
   unfold runV at h1 h3 ⊢
   by_cases hb:(E6.bounds es).2≠0
   ·rw [if_pos hb] at h1;exact absurd hb h1
   ·rw [if_neg hb] at h3 ⊢
    rcases run_bd es CS.new 0 with ⟨h4,_⟩|⟨_,_,h4⟩
    ·exact h4
    ·exact absurd h3 h4
theorem wanted_any (ad:Option Addr) (n c:Nat) (es:List E6.Ev) (w:World) (hK:E6.Kr w) (hr:E6.ERow w ad n es) (hok:∀ e ∈ es,e.ok) (hn:(n:Int)≤9223372036854775806) :
  Calls Tryz.prog 18 #[.slice ad n c] w fun r w'=>r=.returned (.tuple #[.int .i64 (runV es).1,.int .i64 (wnE es)])∧Below w.heap.size w w':=by
 have HC:=hide (Run_any ad n c es w hK hr hok hn)
 obtain ⟨p,hp⟩:∃ p,(runV es).1=p:=⟨_,rfl⟩
 obtain ⟨y,hy⟩:∃ y,(runV es).2.1=y:=⟨_,rfl⟩
 obtain ⟨f,hf⟩:∃ f,(runV es).2.2=f:=⟨_,rfl⟩
 have h1:=@runV_one es
 have HE:Hid (wnE es=if f≠0 then f else if y≠0 then 160 else 0):=hide (by unfold wnE;rw [hf,hy])
 rw [hf,hy] at h1
 rw [hp,hy,hf] at HC
 rw [hp,HE.out]
 clear hK hr hok hp hy hf HE
 by_cases h0:y=0
 ·have b0:(y != 0)=false:=by simp [h0]
  have HF:Hid ((if f≠0 then f else if y≠0 then 160 else 0)=f):=hide (by by_cases h:f≠0 <;> simp [h0] <;> omega)
  rw [HF.out]
  clear h0 h1
  go_enter Tryz.func18,Tryz.ntmps18
  go_wp2_with fail
  refine HC.out.mono ?_
  rintro r w1 ⟨rfl,hb⟩
  go_wp2
  go_ret2
  exact ⟨rfl,hb⟩
 ·have b0:(y != 0)=true:=by simp [h0]
  have HF:Hid ((if f≠0 then f else if y≠0 then (160:Int) else 0)=160):=hide (by
   by_cases h:f≠0
   ·exact absurd (h1 h) h0
   ·rw [if_neg h,if_pos h0])
  rw [HF.out]
  clear h0 h1
  go_enter Tryz.func18,Tryz.ntmps18
  go_wp2_with fail
  refine HC.out.mono ?_
  rintro r w1 ⟨rfl,hb⟩
  go_wp2
  go_ret2
  exact ⟨rfl,hb⟩
theorem rwanted_any (ad:Option Addr) (n c:Nat) (es:List E6.Ev) (w:World) (hr:E6.ERow w ad n es) (hok:∀ e ∈ es,e.ok) (hn:(n:Int)≤9223372036854775806) (hc:n≤c) :
  Calls Tryz.prog 23 #[.slice ad n c] w fun r w'=>r=.returned (.tuple #[.int .i64 (runV es).1,.int .i64 (wnE es)])∧Below w.heap.size w w':=by
 have HC:=hide (rrun_any ad n c es w hr hok hn hc)
 rw [frV_run hok] at HC
 have HP:=hide (@wn_place es)
 obtain ⟨p,hp⟩:∃ p,(runV es).1=p:=⟨_,rfl⟩
 obtain ⟨y,hy⟩:∃ y,(runV es).2.1=y:=⟨_,rfl⟩
 obtain ⟨f,hf⟩:∃ f,(runV es).2.2=f:=⟨_,rfl⟩
 have HE:Hid (wnE es=if f≠0 then f else if y≠0 then 160 else 0):=hide (by unfold wnE;rw [hf,hy])
 rw [hp,hy,hf] at HC
 rw [HE.out,hp] at HP
 rw [hp,HE.out]
 clear hr hok hp hy hf HE hc
 by_cases h0:f=0
 ·subst h0
  by_cases h1:y=0
  ·have b1:(y != 0)=false:=by simp [h1]
   have hp:p=-1:=HP.out (by simp [h1])
   have HF:Hid ((if (0:Int)≠0 then (0:Int) else if y≠0 then 160 else 0)=0):=hide (by simp [h1])
   rw [HF.out]
   clear h1 HP
   subst hp
   go_enter Tryz.func23,Tryz.ntmps23
   go_wp2_with fail
   refine HC.out.mono ?_
   rintro r w1 ⟨rfl,hb⟩
   go_wp2
   go_ret2
   exact ⟨rfl,hb⟩
  ·have b1:(y != 0)=true:=by simp [h1]
   have HF:Hid ((if (0:Int)≠0 then (0:Int) else if y≠0 then 160 else 0)=160):=hide (by simp [h1])
   rw [HF.out]
   clear h1 HP
   go_enter Tryz.func23,Tryz.ntmps23
   go_wp2_with fail
   refine HC.out.mono ?_
   rintro r w1 ⟨rfl,hb⟩
   go_wp2
   go_ret2
   exact ⟨rfl,hb⟩
 ·have b0:(f != 0)=true:=by simp [h0]
  have HF:Hid ((if f≠0 then f else if y≠0 then (160:Int) else 0)=f):=hide (by rw [if_pos h0])
  rw [HF.out]
  clear h0 HP
  go_enter Tryz.func23,Tryz.ntmps23
  go_wp2_with fail
  refine HC.out.mono ?_
  rintro r w1 ⟨rfl,hb⟩
  go_wp2
  go_ret2
  exact ⟨rfl,hb⟩
def onB (lo hi:Int) (e:E6.Ev):Bool:=!E6.accB e.k e.o e.a || (decide (lo≤hi) && decide (E6.acc0 e.k e.o e.a≤hi) && decide (lo≤E6.acc1 e.k e.o e.a))
end Go.Proofs.YtaeehnaicnckgaaGreatDoor
