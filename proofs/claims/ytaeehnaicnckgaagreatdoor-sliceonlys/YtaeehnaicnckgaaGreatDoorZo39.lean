import Derived.Test.YtaeehnaicnckgaaGreatDoorZo38
import Derived.Test.YtaeehnaicnckgaaGreatDoorZo03
import Derived.ProofKit
import Derived.OpenShut
import Derived.SizedLaws
import Derived.SliceStrings
import Derived.Deep.Slices
set_option maxRecDepth 8000
set_option maxHeartbeats 8000000
set_option linter.unusedVariables false
namespace Go.Proofs.YtaeehnaicnckgaaGreatDoor
open Go.RowKit Go.Maps Go.Shelf
theorem zInfoB:(Tryz.prog.info? 4).map (fun i=>(i.zero,i.size,i.bytes))=some (some (.bool false),1,1):=by kernel_rfl
theorem made_bs (w:World) (base n:Nat) (hb:base≤w.heap.size) (hn:n * 1≤140737488355328):∃ w',(Instr.makeSlice 23 (.int .i64 (n:Int)) (.int .i64 (n:Int))).run Tryz.prog w=.ok (.slice (some ⟨w.heap.size,0,none⟩) n n) w'∧Own sB 4 w' base (.slice (some ⟨w.heap.size,0,none⟩) n n) (List.replicate n false)∧w.grownBy w' none:=by
 obtain ⟨i0,hi,hz0,hz1,hz2⟩:=info_parts zInfoB
 obtain ⟨w',h1,h2,h3⟩:=run_make_full (P:=Tryz.prog) w base 23 4 i0 (.bool false) 1 Tryz.underlying23 hi hz0 hz1 .i64 .i64 n (by rw [hz2];omega) (by unfold maxLen;omega) hb
 refine ⟨w',h1,?_,h3⟩
 unfold Own
 have e:(madeCells (Value.bool false).cells (n * 1)).toList=sB.fl (List.replicate n false):=by
  rw [Nat.mul_one,show (Value.bool false).cells=#[Value.bool false] from rfl,toList_madeCells_one]
  clear h1 h2 hn
  induction n with
  | zero=>rfl
  | succ n ih=>rw [List.replicate_succ,List.replicate_succ,sB.fl_cons,ih];rfl
 rw [e] at h2
 rw [List.length_replicate]
 exact h2
structure Bk (w0 wr:World) (ks:List Bool) (n j b:Nat):Prop where
 own:Own sB 4 wr w0.heap.size (.slice (some ⟨b,0,none⟩) n n) (ks.take j++List.replicate (n - j) false)
 len:ks.length=n
 bel:Below w0.heap.size w0 wr
section
variable {w0 wr w' : World} {ks : List Bool} {n j b : Nat} {x : Bool}
theorem Bk.on (h:Bk w0 wr ks n j b) (hb:Below wr.heap.size wr w'):Bk w0 w' ks n j b:=⟨h.own.below hb,h.len,h.bel.trans (hb.mono h.bel.size)⟩
theorem Bk.ll (h:Bk w0 wr ks n j b) (hj:j≤n):(ks.take j++List.replicate (n - j) false).length=n:=by
 rw [List.length_append,List.length_take,List.length_replicate,h.len];omega
theorem Bk.cell (h:Bk w0 wr ks n j b) (hj:j < n):(∃ u,wr.cell? ⟨b,j,none⟩=some (.bool u))∧wr.frozen? ⟨b,j,none⟩=false:=by
 have hl:=h.ll (Nat.le_of_lt hj)
 have hx:(ks.take j++List.replicate (n - j) false)[j]?=some ((ks.take j++List.replicate (n - j) false)[j]'(by rw [hl];exact hj)):=List.getElem?_eq_getElem _
 have h1:=h.own.cell hx 0 rfl
 rw [Nat.add_zero,show j * sB.z=j from Nat.mul_one j] at h1
 exact ⟨⟨_,h1⟩,h.own.frozen _⟩
theorem Bk.set (h:Bk w0 wr ks n j b) (hx:ks[j]?=some x):Bk w0 (wr.setCell ⟨b,j,none⟩ (.bool x)) ks n (j+1) b:=by
 obtain ⟨hl,h9⟩:=List.getElem?_eq_some_iff.1 hx
 have hj:j < n:=by rw [← h.len];exact hl
 have hll:=h.ll (Nat.le_of_lt hj)
 have hy:(ks.take j++List.replicate (n - j) false)[j]?=some ((ks.take j++List.replicate (n - j) false)[j]'(by rw [hll];exact hj)):=List.getElem?_eq_getElem _
 have h1:=h.own.setU (t:=0) (u:=.bool x) (a':=x) hll hy (by decide) rfl
 rw [Nat.add_zero,show j * sB.z=j from Nat.mul_one j] at h1
 have e1:(ks.take j).length=j:=by rw [List.length_take];omega
 have e2:n - j=(n - (j+1))+1:=by omega
 have e3:(ks.take j++List.replicate (n - j) false).set j x=ks.take (j+1)++List.replicate (n - (j+1)) false:=by
  rw [List.set_append_right _ _ (by omega),e1,Nat.sub_self,e2,List.replicate_succ,List.set_cons_zero,List.take_succ_eq_append_getElem hl,h9,List.append_assoc]
  rfl
 rw [e3] at h1
 exact ⟨h1,h.len,h.bel.setCell (p:=⟨b,j,none⟩) (h.own.lt b rfl).1 _⟩
theorem Bk.fin (h:Bk w0 wr ks n n b):TRow sB wr (some ⟨b,0,none⟩) n ks:=by
 have h1:=h.own
 rw [Nat.sub_self,List.replicate_zero,List.append_nil,List.take_of_length_le (by rw [h.len];exact Nat.le_refl _)] at h1
 exact h1.row h.len
end
theorem results_four {fn:Func} {t u v x:Tmp} (h:fn.results=#[.tmp t,.tmp u,.tmp v,.tmp x]) (tmps:Array Value) (P:Program) (w:World) :
  (results fn tmps).run P w=.ok (.tuple #[tmps.getD t undef,tmps.getD u undef,tmps.getD v undef,tmps.getD x undef]) w:=by
 simp [results,h]
def OnR (es:List E6.Ev) (P:List Nat) (w:World) (r:Ending) (w':World):Prop :=
 ∃ fs a1 c1 a2 c2,r=.returned (.tuple #[.slice a1 P.length c1,.slice a2 P.length c2,.int .i64 (-1),.int .i64 0])∧E6.Tw w w' (pkE es P) P.length fs (.slice a1 P.length c1)∧Li w w' (.slice a2 P.length c2) (intP P)
theorem only_bad (ad:Option Addr) (n c:Nat) (es:List E6.Ev) (lo hi:Int) (w:World) (hK:E6.Kr w) (hr:E6.ERow w ad n es) (hok:∀ e ∈ es,e.ok) (hn:(n:Int)≤9223372036854775806) (hE:wnE es≠0) :
  Calls Tryz.prog 12 #[.slice ad n c,.int .u64 lo,.int .u64 hi] w fun r w'=>r=.returned (.tuple #[.slice none 0 0,.slice none 0 0,.int .i64 (runV es).1,.int .i64 (wnE es)])∧Below w.heap.size w w':=by
 have HC:=hide (wanted_any ad n c es w hK hr hok hn)
 generalize (runV es).1=p at HC ⊢
 generalize wnE es=E at HC hE ⊢
 have b0:(E != 0)=true:=by simp [hE]
 clear hK hr hok hE
 go_enter Tryz.func12,Tryz.ntmps12
 go_wp2_with fail
 refine HC.out.mono ?_
 rintro r w1 ⟨rfl,hb⟩
 go_wp2
 (try simp only [Exit.inBlock,Exit.then]);refine bodyPost_ret (results_four rfl _ _ _) rfl ?_
 exact ⟨rfl,hb⟩
theorem only_ok (ad:Option Addr) (n c:Nat) (es:List E6.Ev) (lo hi:Int) (w:World) (hK:E6.Kr w) (hr:E6.ERow w ad n es) (hok:∀ e ∈ es,e.ok) (hn:n * 56≤140737488355328) (hE:wnE es=0) :
  Calls Tryz.prog 12 #[.slice ad n c,.int .u64 lo,.int .u64 hi] w (OnR es (plc (es.map (onB lo hi)) n) w):=by
 have hnI:(n:Int)≤9223372036854775806:=by omega
 have hsz:=hK.size
 have HC:=hide (wanted_any ad n c es w hK hr hok hnI)
 rw [hE] at HC
 generalize (runV es).1=p at HC
 have HK:=hide hK
 have HR:=hide hr
 have HO:=hide hok
 have HN:=hide hn
 have HLk:Hid ((es.map (onB lo hi)).length=n):=hide (by rw [List.length_map,hr.len])
 have HMk:=hide (fun X (h:w.heap.size≤X.heap.size)=>made_bs X w.heap.size n h (by omega))
 clear hK hr hok hn hE
 go_enter Tryz.func12,Tryz.ntmps12
 go_wp2_with fail
 refine HC.out.mono ?_
 rintro r w1 ⟨rfl,hb1⟩
 have HB1:=hide hb1
 obtain ⟨w2,hmk,hown,hgr⟩:=HMk.out w1 hb1.size
 have hb2:Below w1.heap.size w1 w2:=⟨hgr.os,hgr.tape,hgr.output,hgr.size,fun q hq=>hgr.block q hq (by simp)⟩
 have HBk:Hid (Bk w w2 (es.map (onB lo hi)) n 0 w1.heap.size):=hide ⟨by simpa using hown,HLk.out,Below.on hb1 hb2⟩
 have HSz:Hid (w.heap.size≤w1.heap.size):=hide hb1.size
 clear hb1 hown hgr hb2 HC HMk
 go_wp2
 go_loopw [34] (fun s wr=>∃ j:Nat,j≤n∧s=.int .i64 j∧Hid (Bk w wr (es.map (onB lo hi)) n j w1.heap.size)) (fun s _=>n - (intOf s).toNat)
 case atStart=>exact ⟨0,Nat.zero_le _,rfl,HBk⟩
 case round =>
  clear HBk hmk
  obtain ⟨j,hj,rfl,HJ⟩:=hrel
  by_cases hlt:j < n
  ·have hjI:(j:Int) < n:=by omega
   have hj0:(0:Int)≤j:=by omega
   obtain ⟨b0,off,e,ha,hej,c0,c1,c2,c3,c4,hs⟩:=(HR.out.bel HJ.out.bel).at hlt
   have hme:=HO.out e (List.mem_of_getElem? hej)
   have HX:Hid ((es.map (onB lo hi))[j]?=some (onB lo hi e)):=hide (by rw [List.getElem?_map,hej];rfl)
   obtain ⟨W,hW⟩:∃ W,W=wr.alloc (.cells #[.int .i64 e.g,.int .i64 e.k,.int .u64 e.o,.int .u64 e.a,.slice e.sa e.ls.length e.sc] 43):=⟨_,rfl⟩
   have hbW:Below wr.heap.size wr W:=by rw [hW];exact below_alloc1 _ _
   have HA:=hide (E6.access_any e.g e.k e.o e.a e.sa e.ls.length e.sc W ((HK.out.below HJ.out.bel (by omega)).below hbW (by have:=HJ.out.bel.size;omega)) hme.ho)
   have HJW:=hide (HJ.out.on hbW)
   rw [hW] at HA HJW
   have HV:Hid (onB lo hi e=(!E6.accB e.k e.o e.a || (decide (lo≤hi) && decide (E6.acc0 e.k e.o e.a≤hi) && decide (lo≤E6.acc1 e.k e.o e.a)))):=hide rfl
   generalize onB lo hi e=V at HX HV
   generalize E6.acc0 e.k e.o e.a=x0 at HA HV
   generalize E6.acc1 e.k e.o e.a=x1 at HA HV
   generalize E6.acc2 e.k e.o e.a=x2 at HA
   generalize E6.accB e.k e.o e.a=B0 at HA HV
   obtain ⟨B1,hB1⟩:∃ B,decide (lo≤hi)=B:=⟨_,rfl⟩
   obtain ⟨B2,hB2⟩:∃ B,decide (x0≤hi)=B:=⟨_,rfl⟩
   obtain ⟨B3,hB3⟩:∃ B,decide (lo≤x1)=B:=⟨_,rfl⟩
   rw [hB1,hB2,hB3] at HV
   subst ha
   clear hs hme hej hbW hW
   cases B0 <;> cases B1 <;> cases B2 <;> cases B3
   all_goals
    obtain rfl:V=_:=HV.out
    go_wp2_with fail
    refine HA.out.mono ?_
    rintro r w3 ⟨rfl,hb3⟩
    have HJ3:=hide (HJW.out.on hb3)
    obtain ⟨⟨u,y0⟩,y1⟩:=HJ3.out.cell hlt
    have HJ4:=hide (HJ3.out.set HX.out)
    clear hb3 HA c0 c1 c2 c3 c4
    go_wp2
    exact ⟨⟨j+1,by omega,by go_num,HJ4⟩,by simp [intOf];omega⟩
  ·have h9:j=n:=by omega
   subst h9
   have hjI:¬ (j:Int) < j:=by omega
   have HP:=hide (places_any (some ⟨w1.heap.size,0,none⟩) j j (es.map (onB lo hi)) wr HJ.out.fin HN.out)
   clear hlt
   go_wp2_with fail
   refine HP.out.mono ?_
   rintro r w4 ⟨v,rfl,hL⟩
   obtain ⟨a3,c3,rfl,hrow⟩:=hL.frm
   rw [intP_len] at hrow
   have HTk:=hide (taken_any ad j c es a3 (plc (es.map (onB lo hi)) j).length c3 (plc (es.map (onB lo hi)) j) w4 ((HR.out.bel HJ.out.bel).bel hL.bel) HO.out HN.out hrow (fun q hq=>plc_lt _ j q hq) (plc_le _ j))
   have HL:=hide hL
   have HBw:=hide HJ.out.bel
   rw [intP_len] at HL ⊢
   obtain ⟨m,hm⟩:∃ m,m=(plc (es.map (onB lo hi)) j).length:=⟨_,rfl⟩
   rw [← hm] at HTk HL ⊢
   have HM:=hide hm
   clear hrow hL HP hm HJ
   go_wp2_with fail
   refine HTk.out.mono ?_
   rintro r w5 ⟨fs,v,rfl,hT⟩
   obtain ⟨a4,c4,rfl⟩:=tw_frm hT
   have HT:=hide hT
   clear hT HTk
   go_wp2
   (try simp only [Exit.inBlock,Exit.then]);refine bodyPost_ret (results_four rfl _ _ _) rfl ?_
   exact ⟨fs,a4,c4,a3,c3,by rw [← HM.out];rfl,by rw [← HM.out];exact tw_base (tw_base HT.out HL.out.bel) HBw.out,by rw [← HM.out];exact (HL.out.on HT.out.bel).base HBw.out⟩
end Go.Proofs.YtaeehnaicnckgaaGreatDoor
namespace Go.Proofs.YtaeehnaicnckgaaGreatDoor
open Go.RowKit Go.Maps Go.Shelf
theorem ronly_bad (ad:Option Addr) (n c:Nat) (es:List E6.Ev) (lo hi:Int) (w:World) (hr:E6.ERow w ad n es) (hok:∀ e ∈ es,e.ok) (hn:(n:Int)≤9223372036854775806) (hc:n≤c) (hE:wnE es≠0) :
  Calls Tryz.prog 13 #[.slice ad n c,.int .u64 lo,.int .u64 hi] w fun r w'=>r=.returned (.tuple #[.slice none 0 0,.slice none 0 0,.int .i64 (runV es).1,.int .i64 (wnE es)])∧Below w.heap.size w w':=by
 have HC:=hide (rwanted_any ad n c es w hr hok hn hc)
 generalize (runV es).1=p at HC ⊢
 generalize wnE es=E at HC hE ⊢
 have b0:(E != 0)=true:=by simp [hE]
 clear hr hok hE hc
 go_enter Tryz.func13,Tryz.ntmps13
 go_wp2_with fail
 refine HC.out.mono ?_
 rintro r w1 ⟨rfl,hb⟩
 go_wp2
 (try simp only [Exit.inBlock,Exit.then]);refine bodyPost_ret (results_four rfl _ _ _) rfl ?_
 exact ⟨rfl,hb⟩
structure Ltr (w0 wr:World) (v:Value) (P:List Bool):Prop where
 own:Own sB 4 wr w0.heap.size v P
 bel:Below w0.heap.size w0 wr
theorem Ltr.on {w0 wr w':World} {v:Value} {P:List Bool} (h:Ltr w0 wr v P) (hb:Below wr.heap.size wr w'):Ltr w0 w' v P:=⟨h.own.below hb,h.bel.trans (hb.mono h.bel.size)⟩
theorem Ltr.push {w0 wr w':World} {v v':Value} {P Q:List Bool} (h:Ltr w0 wr v P) (ho:Own sB 4 w' w0.heap.size v' Q) (hg:wr.grownBy w' v.ownBlock):Ltr w0 w' v' Q :=
 ⟨ho,h.bel.grown hg h.bel.size (fun k hk=>(h.own.lt k hk).1)⟩
theorem Ltr.nil {w0 w:World} (hb:Below w0.heap.size w0 w):Ltr w0 w (.slice none 0 0) []:=⟨Own.nil _ _ _ _,hb⟩
theorem Ltr.frm {w0 w1:World} {v:Value} {P:List Bool} {n:Nat} (h:Ltr w0 w1 v P) (hn:P.length=n):∃ a c,v=.slice a n c∧TRow sB w1 a n P:=by
 obtain ⟨a,c,rfl,_,_⟩:=own_form h.own
 rw [hn]
 exact ⟨a,c,rfl,Own.row (by have:=h.own;rw [hn] at this;exact this) hn⟩
theorem ronly_ok (ad:Option Addr) (n c:Nat) (es:List E6.Ev) (lo hi:Int) (w:World) (hr:E6.ERow w ad n es) (hok:∀ e ∈ es,e.ok) (hn:n * 56≤140737488355328) (hc:n≤c) (hE:wnE es=0) :
  Calls Tryz.prog 13 #[.slice ad n c,.int .u64 lo,.int .u64 hi] w (OnR es (plc (es.map (onB lo hi)) n) w):=by
 have hnI:(n:Int)≤9223372036854775806:=by omega
 have HC:=hide (rwanted_any ad n c es w hr hok hnI hc)
 rw [hE] at HC
 generalize (runV es).1=p at HC
 have HR:=hide hr
 have HO:=hide hok
 have HN:=hide hn
 have HLk:Hid ((es.map (onB lo hi)).length=n):=hide (by rw [List.length_map,hr.len])
 obtain ⟨i0,hi0,hz0,hz1,hz2⟩:=info_parts zInfoB
 clear hr hok hn hE hc
 go_enter Tryz.func13,Tryz.ntmps13
 go_wp2_with fail
 refine HC.out.mono ?_
 rintro r w1 ⟨rfl,hb1⟩
 have HB1:=hide hb1
 have HLb:Hid (Ltr w w1 (.slice none 0 0) ((es.map (onB lo hi)).take 0)):=hide (Ltr.nil hb1)
 clear hb1 HC
 go_wp2
 go_loopw [12,13] (fun s12 s wr=>∃ j:Nat,j≤n∧s=.int .i64 j∧Hid (Ltr w wr s12 ((es.map (onB lo hi)).take j))) (fun _ s _=>n - (intOf s).toNat)
 case atStart=>exact ⟨0,Nat.zero_le _,rfl,HLb⟩
 case round =>
  clear HLb
  obtain ⟨j,hj,rfl,HJ⟩:=hrel
  by_cases hlt:j < n
  ·have hjI:(j:Int) < n:=by omega
   have hj0:(0:Int)≤j:=by omega
   obtain ⟨b0,off,e,ha,hej,c0,c1,c2,c3,c4,hs⟩:=(HR.out.bel HJ.out.bel).at hlt
   have hme:=HO.out e (List.mem_of_getElem? hej)
   have hx:(es.map (onB lo hi))[j]?=some (onB lo hi e):=by rw [List.getElem?_map,hej];rfl
   have HX:Hid ((es.map (onB lo hi)).take (j+1)=(es.map (onB lo hi)).take j++[onB lo hi e]):=hide (by
    obtain ⟨hl,h9⟩:=List.getElem?_eq_some_iff.1 hx
    rw [List.take_succ_eq_append_getElem hl,h9])
   have HLl:Hid (((es.map (onB lo hi)).take j).length=j):=hide (by rw [List.length_take,HLk.out];omega)
   have HA:=hide (E6.raccess_any e.g e.k e.o e.a e.sa e.ls.length e.sc wr hme.ho hme.ha)
   have HV:Hid (onB lo hi e=(!E6.accB e.k e.o e.a || (decide (lo≤hi) && decide (E6.acc0 e.k e.o e.a≤hi) && decide (lo≤E6.acc1 e.k e.o e.a)))):=hide rfl
   clear hx
   generalize onB lo hi e=V at HX HV
   generalize E6.acc0 e.k e.o e.a=x0 at HA HV
   generalize E6.acc1 e.k e.o e.a=x1 at HA HV
   generalize E6.acc2 e.k e.o e.a=x2 at HA
   generalize E6.accB e.k e.o e.a=B0 at HA HV
   obtain ⟨B1,hB1⟩:∃ B,decide (lo≤hi)=B:=⟨_,rfl⟩
   obtain ⟨B2,hB2⟩:∃ B,decide (x0≤hi)=B:=⟨_,rfl⟩
   obtain ⟨B3,hB3⟩:∃ B,decide (lo≤x1)=B:=⟨_,rfl⟩
   rw [hB1,hB2,hB3] at HV
   generalize (es.map (onB lo hi)).take j=PP at HJ HX HLl
   subst ha
   clear hs hme hej
   cases V with
   | false =>
    cases B0 <;> cases B1 <;> cases B2 <;> cases B3 <;> first|exact absurd HV.out (by decide)|skip
    all_goals
     go_wp2_with fail
     refine HA.out.mono ?_
     rintro r w3 ⟨rfl,hb3⟩
     have HJ3:=hide ((HJ.out.on hb3).on (below_alloc1 w3 (.cells #[.bool false] 4)))
     have HTr:=hide (TRow.one (y:=sB) (w:=w3.alloc (.cells #[.bool false] 4)) (B:=w3.heap.size) (x:=false) (heap_new w3 (.cells #[.bool false] 4)))
     clear hb3 HA c0 c1 c2 c3 c4
     go_wp2_with (at_builtin;refine append_lay sB _ 23 4 i0 _ 1 Tryz.underlying23 hi0 hz0 hz1 hz2 rfl rfl _ _ rfl w.heap.size _ PP rfl HJ3.out.own _ 1 1 [false] rfl HTr.out (fun e=>by cases e) (by unfold maxLen;have:=HLl.out;have:=HN.out;omega) (by have:=HLl.out;have:=HN.out;omega) HJ3.out.bel.size ?_)
     intro v' w4 o4 g4 l4
     have HJ4:Hid (Ltr w w4 v' ((es.map (onB lo hi)).take (j+1))):=hide (by rw [HX.out];exact HJ3.out.push o4 g4)
     clear o4 g4 l4
     go_wp2
     exact ⟨⟨j+1,by omega,by go_num,HJ4⟩,by simp [intOf];omega⟩
   | true =>
    cases B0 <;> cases B1 <;> cases B2 <;> cases B3 <;> first|exact absurd HV.out (by decide)|skip
    all_goals
     go_wp2_with fail
     refine HA.out.mono ?_
     rintro r w3 ⟨rfl,hb3⟩
     have HJ3:=hide ((HJ.out.on hb3).on (below_alloc1 w3 (.cells #[.bool true] 4)))
     have HTr:=hide (TRow.one (y:=sB) (w:=w3.alloc (.cells #[.bool true] 4)) (B:=w3.heap.size) (x:=true) (heap_new w3 (.cells #[.bool true] 4)))
     clear hb3 HA c0 c1 c2 c3 c4
     go_wp2_with (at_builtin;refine append_lay sB _ 23 4 i0 _ 1 Tryz.underlying23 hi0 hz0 hz1 hz2 rfl rfl _ _ rfl w.heap.size _ PP rfl HJ3.out.own _ 1 1 [true] rfl HTr.out (fun e=>by cases e) (by unfold maxLen;have:=HLl.out;have:=HN.out;omega) (by have:=HLl.out;have:=HN.out;omega) HJ3.out.bel.size ?_)
     intro v' w4 o4 g4 l4
     have HJ4:Hid (Ltr w w4 v' ((es.map (onB lo hi)).take (j+1))):=hide (by rw [HX.out];exact HJ3.out.push o4 g4)
     clear o4 g4 l4
     go_wp2
     exact ⟨⟨j+1,by omega,by go_num,HJ4⟩,by simp [intOf];omega⟩
  ·have h9:j=n:=by omega
   subst h9
   have hjI:¬ (j:Int) < j:=by omega
   have hL9:=HJ.out
   rw [List.take_of_length_le (by rw [HLk.out];exact Nat.le_refl _)] at hL9
   obtain ⟨a3,c3,hv3,hrow⟩:=hL9.frm HLk.out
   subst hv3
   have HTk:=hide (rtake_ok ad j c es a3 c3 (es.map (onB lo hi)) wr (HR.out.bel HJ.out.bel) HO.out HN.out hrow)
   have HBw:=hide HJ.out.bel
   clear hrow hL9 HJ hlt
   go_wp2_with fail
   refine HTk.out.mono ?_
   rintro r w5 ⟨fs,a4,c4,a5,c5,rfl,hT,hL⟩
   have HT:=hide hT
   have HL:=hide hL
   obtain ⟨m,hm⟩:∃ m,m=(plc (es.map (onB lo hi)) j).length:=⟨_,rfl⟩
   rw [← hm] at HT HL ⊢
   have HM:=hide hm
   clear hT hL HTk hm
   go_wp2
   (try simp only [Exit.inBlock,Exit.then]);refine bodyPost_ret (results_four rfl _ _ _) rfl ?_
   exact ⟨fs,a4,c4,a5,c5,by rw [← HM.out];rfl,by rw [← HM.out];exact tw_base HT.out HBw.out,by rw [← HM.out];exact HL.out.base HBw.out⟩
end Go.Proofs.YtaeehnaicnckgaaGreatDoor
namespace Go.Proofs.YtaeehnaicnckgaaGreatDoor
open Go.RowKit Go.Maps Go.Shelf
theorem onB_twins {lo hi:Int}:∀ {es fs:List E6.Ev},E6.Twins es fs→fs.map (onB lo hi)=es.map (onB lo hi)
 | [],[],_=>rfl
 | [],_ :: _,h=>h.elim
 | _ :: _,[],h=>h.elim
 | e :: es,f :: fs,h=>by
  rw [List.map_cons,List.map_cons,onB_twins h.2]
  obtain ⟨h1,h2,h3,h4,h5⟩:=h.1
  unfold onB
  rw [h2,h3,h4]
theorem wnE_twins {es fs:List E6.Ev} (h:E6.Twins es fs):wnE fs=wnE es:=by unfold wnE;rw [runV_twins h]
theorem onlys_any (a:Option Addr) (n c:Nat) (es:List E6.Ev) (lo hi:Int) (w:World) (hK:E6.Kr w) (hr:E6.ERow w a n es) (hok:∀ e ∈ es,e.ok) (hn:n * 56≤140737488355328) (hc:n≤c) (hc0:a=none→c=0) :
  Calls Tryz.prog 4 #[.slice a n c,.int .u64 lo,.int .u64 hi] w fun e w'=>e=.returned (.bool true)∧Below w.heap.size w w':=by
 have hsz:=hK.size
 have HTw:=hide (E6.twin_any a n c es w hr hok hn hc0)
 have HK:=hide hK
 have HR:=hide hr
 have HO:=hide hok
 have HN:=hide hn
 have HC:=hide hc
 have hnM:(n:Int)≤9223372036854775806:=by omega
 have HLes:=hide hr.len
 clear hK hr hok hn hc0 hc
 go_enter Tryz.func4,Tryz.ntmps4
 go_wp2_with fail
 refine HTw.out.mono ?_
 rintro r w1 ⟨fs,v,rfl,htw⟩
 obtain ⟨ga,gc,rfl,hgr,hgc⟩:=htw.form
 have HG:=hide htw
 have HGr:=hide hgr
 have HGo:=hide (htw.ok HO.out)
 have HGt:=hide (htw.twins HLes.out)
 have HEs:Hid (∀ e ∈ es,(e.ls.length:Int)≤9223372036854775806):=hide (fun e he=>by have:=(HO.out e he).len;omega)
 have HOn:Hid (Calls Tryz.prog 12 #[.slice ga n gc,.int .u64 lo,.int .u64 hi] w1 fun r w3=>∃ (pa:Option Addr) (pn pc:Nat) (at_ er:Int) (ps:List E6.Ev) (ia:Option Addr) (ic:Nat) (P:List Int),r=.returned (.tuple #[.slice pa pn pc,.slice ia pn ic,.int .i64 at_,.int .i64 er])∧Below w1.heap.size w1 w3∧E6.ERow w3 pa pn ps∧TRow sI w3 ia pn P∧Hid (Calls Tryz.prog 13 #[.slice a n c,.int .u64 lo,.int .u64 hi] w3 fun r w4=>∃ (qa:Option Addr) (qc:Nat) (qs:List E6.Ev) (ja:Option Addr) (jc:Nat),r=.returned (.tuple #[.slice qa pn qc,.slice ja pn jc,.int .i64 at_,.int .i64 er])∧Below w3.heap.size w3 w4∧E6.ERow w4 qa pn qs∧TRow sI w4 ja pn P∧E6.Twins qs ps∧(pn:Int)≤9223372036854775806∧∀ e ∈ qs,(e.ls.length:Int)≤9223372036854775806)):=hide (by
  have hK1:=HK.out.below HG.out.bel (by omega)
  by_cases hE:wnE es=0
  ·refine (only_ok ga n gc fs lo hi w1 hK1 HGr.out HGo.out HN.out (by rw [wnE_twins HGt.out];exact hE)).mono ?_
   rintro r w3 ⟨ps,pa,pc,ia,ic,rfl,hT,hL⟩
   rw [onB_twins HGt.out] at hT hL ⊢
   obtain ⟨pa',pc',hv,hpr,_⟩:=hT.form
   obtain ⟨rfl,rfl⟩:pa=pa'∧pc=pc':=by cases hv;exact ⟨rfl,rfl⟩
   refine ⟨pa,_,pc,-1,0,ps,ia,ic,_,rfl,hT.bel,hpr,hL.own.row (intP_len _),hide ?_⟩
   refine (ronly_ok a n c es lo hi w3 ((HR.out.bel HG.out.bel).bel hT.bel) HO.out HN.out HC.out hE).mono ?_
   rintro r w4 ⟨qs,qa,qc,ja,jc,rfl,hU,hM⟩
   obtain ⟨qa',qc',hv,hqr,_⟩:=hU.form
   obtain ⟨rfl,rfl⟩:qa=qa'∧qc=qc':=by cases hv;exact ⟨rfl,rfl⟩
   have hle:=plc_le (es.map (onB lo hi)) n
   refine ⟨qa,qc,qs,ja,jc,rfl,hU.bel,hqr,hM.own.row (intP_len _),twins_viaP HGt.out hT hU (fun p hp=>by rw [HLes.out];exact plc_lt _ n p hp),by omega,tw_small hU (ok_pk HO.out (fun p hp=>by rw [HLes.out];exact plc_lt _ n p hp))⟩
  ·refine (only_bad ga n gc fs lo hi w1 hK1 HGr.out HGo.out hnM (by rw [wnE_twins HGt.out];exact hE)).mono ?_
   rintro r w3 ⟨rfl,hb⟩
   rw [runV_twins HGt.out,wnE_twins HGt.out]
   refine ⟨none,0,0,_,_,[],none,0,[],rfl,hb,⟨rfl,.inl rfl⟩,TRow.nil _ _ _,hide ?_⟩
   refine (ronly_bad a n c es lo hi w3 ((HR.out.bel HG.out.bel).bel hb) HO.out hnM HC.out hE).mono ?_
   rintro r w4 ⟨rfl,hb4⟩
   exact ⟨none,0,[],none,0,rfl,hb4,⟨rfl,.inl rfl⟩,TRow.nil _ _ _,trivial,by omega,fun e he=>by cases he⟩)
 clear htw hgr HTw
 go_wp2_with fail
 refine HOn.out.mono ?_
 rintro r w6 ⟨pa6,pn6,pc6,at6,er6,ps6,ia6,ic6,P6,rfl,hb6,hp6,hi6,HRt⟩
 have HB6:=hide hb6
 have HP6:=hide hp6
 have HI6:=hide hi6
 clear hb6 hp6 hi6 HOn
 go_wp2_with fail
 refine HRt.out.mono ?_
 rintro r w7 ⟨qa7,qc7,qs7,ja7,jc7,rfl,hb7,hq7,hj7,ht7,hpn7,hqs7⟩
 have HB7:=hide (Below.on HB6.out hb7)
 have HSm:=hide (s_trace qa7 pn6 qc7 qs7 pa6 pc6 ps6 w7 hq7 (HP6.out.bel hb7) ht7 hqs7 hpn7)
 have HJ7:=hide (And.intro (HI6.out.below hb7) hj7)
 have HPN:=hide hpn7
 have bee:(er6 == er6)=true:=by simp
 have baa:(at6 == at6)=true:=by simp
 clear hb7 hq7 ht7 hqs7 HRt HP6 HB6 hj7 HI6 hpn7
 go_wp2_with fail
 refine HSm.out.mono ?_
 rintro r w8 ⟨rfl,hb8⟩
 have HSi:=hide (s_ints ia6 ja7 pn6 ic6 jc7 P6 w8 (HJ7.out.1.below hb8) (HJ7.out.2.below hb8) HPN.out)
 have HB8:=hide (Below.on HB7.out hb8)
 clear hb8 HSm HB7
 go_wp2_with fail
 refine HSi.out.mono ?_
 rintro r w9 ⟨rfl,hb9⟩
 have HB9:=hide (Below.on HB8.out hb9)
 have HSm:=hide (s_trace a n c es ga gc fs w9 ((HR.out.bel HG.out.bel).bel HB9.out) (HGr.out.bel HB9.out) HGt.out HEs.out hnM)
 clear hb9 HSi HB8
 go_wp2_with fail
 refine HSm.out.mono ?_
 rintro r w10 ⟨rfl,hb10⟩
 have HB10:=hide (Below.on HG.out.bel (Below.on HB9.out hb10))
 clear hb10 HSm HB9
 go_wp2
 go_ret
 exact ⟨rfl,HB10.out⟩
end Go.Proofs.YtaeehnaicnckgaaGreatDoor
namespace Go.Proofs.YtaeehnaicnckgaaGreatDoor.E6
open Go.ChangeShapes Go.WideShapes Go.ChangeAt Go.RowKit
theorem add_at (b off i:Nat):(⟨b,off,none⟩:Addr).add i=⟨b,off+i,none⟩:=by unfold Addr.add;split <;> simp_all
theorem bytes9:Tryz.prog.bytesOf 9=16:=by kernel_rfl
theorem weights_all {H:Type} {P:Program} {e:TypeId} {d:DataW H} {n:Nat}:∀ {l:List (DataW H)},d ∈ l→n ∈ d.weights P e→n ∈ DataW.weightsAll P e l
 | [],h,_=>by cases h
 | x :: r,h,hn=>by
  rw [DataW.weightsAll,List.mem_append]
  rcases List.mem_cons.1 h with rfl|h
  ·exact .inl hn
  ·exact .inr (weights_all h hn)
theorem open_strs_in {H:Type} {enc:TypeId × Value→H} {W:World} {v:Value} {fuel:Nat} {d:DataW H} {p:List MemPlace}
  (hf:DataW.trod enc Tryz.prog W 0 (fun _=>true) true fuel 41 [v]=some (d,p)) (hw:∀ n ∈ d.weights Tryz.prog 41,n≤reachBytes) :
  ∃ (z:List ByteArray) (ai:Option Addr) (ci:Nat),v=.slice ai z.length ci∧SRow W ai z.length z∧z.length≤ci∧z.length≤8796093021952∧(∀ s ∈ z,s.size≤maxLen)∧(ai=none→z.length=0∧ci=0):=by
 rcases open_strings Tryz.underlying41 Tryz.underlying9 (by kernel_rfl) hf with ⟨hcs,_⟩|⟨x,l,c,zs,hcs,_,hl,hm,hz,hx,hcell,hwz⟩
 ·simp at hcs
  subst hcs
  exact ⟨[],none,0,rfl,⟨rfl,.inl rfl⟩,Nat.le_refl _,by simp,by simp,fun _=>⟨rfl,rfl⟩⟩
 ·simp at hcs
  subst hcs
  simp only [Prod.mk.injEq] at hx
  have hz':zs.length=c:=by simpa using hz
  have hs:=hw (((strs (zs.take l):List (DataW H)).length+(strs (zs.drop l):List (DataW H)).length) * Tryz.prog.bytesOf 9) (by rw [hx.1];simp [DataW.weights,Tryz.underlying41])
  rw [bytes9] at hs
  simp only [strs,List.length_map,List.length_take,List.length_drop,reachBytes] at hs
  have hlen:(zs.take l).length=l:=by rw [List.length_take];omega
  refine ⟨zs.take l,some x,c,by rw [hlen],?_,by omega,by omega,fun s hs=>hwz s (List.mem_of_mem_take hs),fun h=>(by cases h)⟩
  rw [hlen]
  refine ⟨hlen,?_⟩
  by_cases h0:l=0
  ·exact .inl h0
  ·right
   obtain ⟨b,off,sp⟩:=x
   have h1:=hcell 0 (by omega)
   have hsp:sp=none:=by simpa [Addr.add] using World.cell?_spot h1
   subst hsp
   refine ⟨b,off,rfl,fun i hi=>?_⟩
   have:=hcell i (by omega)
   rw [add_at] at this
   rw [this]
   congr 2
   rw [List.getD_eq_getElem?_getD,List.getD_eq_getElem?_getD,List.getElem?_take_of_lt hi]
instance:Inhabited Ev:=⟨⟨0,0,0,0,none,0,[]⟩⟩
theorem ocells3:Tryz.prog.cellsOf 3=1:=by kernel_rfl
theorem ocellsU:Tryz.prog.cellsOf 33=1:=by kernel_rfl
theorem ocellsS:Tryz.prog.cellsOf 41=1:=by kernel_rfl
theorem ocellsE:Tryz.prog.cellsOf 43=5:=by kernel_rfl
theorem obytesE:Tryz.prog.bytesOf 43=56:=by kernel_rfl
theorem u64_bd {a:Int} (h:(Lit.int .u64 a).wf=true):0≤a∧a≤18446744073709551615:=by
 have hw:IntKind.u64.min≤a∧a≤IntKind.u64.max:=by simpa [Lit.wf] using h
 have e1:IntKind.u64.min=0:=by decide
 have e2:IntKind.u64.max=18446744073709551615:=by decide
 rw [e1,e2] at hw
 exact hw
theorem ofive {α:Type} {l:List α} (h:l.length=5):∃ a b c d e,l=[a,b,c,d,e]:=by
 match l,h with
 | [a,b,c,d,e],_=>exact ⟨a,b,c,d,e,rfl⟩
theorem open_ev_in {H:Type} {enc:TypeId × Value→H} {W:World} {cs:List Value} {fuel:Nat} {d:DataW H} {p:List MemPlace}
  (hf:DataW.trod enc Tryz.prog W 0 (fun _=>true) true fuel 43 cs=some (d,p)) (hw:∀ n ∈ d.weights Tryz.prog 43,n≤reachBytes) :
  ∃ e:Ev,cs=ecell e∧e.ok∧e.at W:=by
 obtain ⟨xs,k,_,hxd,hlen,hxs,hfs⟩:=DataW.trod_struct Tryz.underlying43 hf
 rw [ocellsE] at hlen
 have g0:=hfs 0 _ rfl
 have g1:=hfs 1 _ rfl
 have g2:=hfs 2 _ rfl
 have g3:=hfs 3 _ rfl
 have g4:=hfs 4 _ rfl
 obtain ⟨y0,y1,y2,y3,y4,rfl⟩:=ofive hxs
 obtain ⟨v0,v1,v2,v3,v4,rfl⟩:=ofive hlen
 simp [ocells3,ocellsU,ocellsS] at g0 g1 g2 g3 g4
 obtain ⟨g,e0,_,_⟩:=DataW.trod_int Tryz.underlying3 g0
 obtain ⟨k',e1,_,_⟩:=DataW.trod_int Tryz.underlying3 g1
 obtain ⟨o,e2,_,w2⟩:=DataW.trod_int Tryz.underlying33 g2
 obtain ⟨a,e3,_,w3⟩:=DataW.trod_int Tryz.underlying33 g3
 obtain ⟨z,ai,ci,e4,hs,hzc,hzl,hz,hnil⟩:=open_strs_in g4 (fun n hn=>hw n (by
  rw [(Prod.mk.inj hxd).1]
  simp [DataW.weights,Tryz.underlying43,DataW.weightsEach,hn]))
 simp at e0 e1 e2 e3
 subst e0 e1 e2 e3 e4
 exact ⟨⟨g,k',o,a,ai,ci,z⟩,rfl,⟨u64_bd w2,u64_bd w3,hzl,hz,hzc,hnil⟩,hs⟩
set_option maxRecDepth 20000 in
theorem open_evs {H:Type} {enc:TypeId × Value→H} {W:World} {a:Option Addr} {len cap:Nat} {d:DataW H} {p:List MemPlace} {ts:List TypeId} {ds:List (DataW H)} {j:Nat}
  (h:DataW.Trod enc Tryz.prog W 0 (fun _=>true) true 22 (.slice a len cap) d p)
  (hsz:(DataW.weightsEach Tryz.prog ts ds).all (·≤reachBytes)=true) (ht:ts[j]?=some 22) (hd:ds[j]?=some d) :
  ∃ es,ERow W a len es∧(∀ e ∈ es,e.ok)∧len * 56≤140737488355328∧len≤cap∧(a=none→len=0∧cap=0):=by
 obtain ⟨fuel,hf⟩:=h
 rcases Deep.open_slice Tryz.underlying22 hf with ⟨hcs,_⟩|⟨x,l,c,m,n,D,Pl,hcs,_,hl,hm,hmm,hx,hel⟩
 ·simp [Value.cells] at hcs
  obtain ⟨rfl,rfl,rfl⟩:=hcs
  exact ⟨[],⟨rfl,.inl rfl⟩,by simp,by omega,by omega,fun _=>⟨rfl,rfl⟩⟩
 ·simp [Value.cells] at hcs
  obtain ⟨rfl,rfl,rfl⟩:=hcs
  simp only [Prod.mk.injEq] at hx
  have hm':m=cap:=by simpa using hmm
  subst hm'
  have hall:∀ n ∈ d.weights Tryz.prog 22,n≤reachBytes:=fun n hn=>by
   have:=List.all_eq_true.1 hsz _ (DataW.weights_mem_each ht hd n hn)
   simpa using this
  rw [hx.1] at hall
  have hlen:=hall (((List.range len).map D).length+((List.range (m - len)).map fun j=>D (len+j)).length |> (· * Tryz.prog.bytesOf 43)) (by simp [DataW.weights,Tryz.underlying22])
  rw [obytesE] at hlen
  simp only [List.length_map,List.length_range,reachBytes] at hlen
  have each:∀ i,i < len→∃ q:Ev,q.ok∧q.at W∧∀ t,t < 5→W.cell? (x.add (i * 5+t))=(ecell q)[t]?:=by
   intro i hi
   obtain ⟨cs',h1,h2⟩:=hel i (by omega)
   rw [ocellsE] at h1
   obtain ⟨_,hl5,hcell⟩:=World.cells?_some h1
   obtain ⟨q,e1,e2,e3⟩:=open_ev_in h2 (fun n hn=>hall n (by
    simp only [DataW.weights,Tryz.underlying22,List.mem_cons,List.mem_append]
    exact .inr (.inl (weights_all (List.mem_map.2 ⟨i,List.mem_range.2 hi,rfl⟩) hn))))
   refine ⟨q,e2,e3,fun t ht5=>?_⟩
   have:=hcell t (by omega)
   rw [Deep.add_add] at this
   rw [this,e1]
  obtain ⟨f,hch⟩:=Deep.choose_lt each
  have hget:∀ i e,((List.range len).map f)[i]?=some e→i < len∧f i=e:=by
   intro i e he
   have hi:i < len:=by have:=(List.getElem?_eq_some_iff.1 he).1;simpa using this
   exact ⟨hi,by simpa [hi] using he⟩
  refine ⟨(List.range len).map f,⟨by simp,?_⟩,?_,by omega,by omega,fun h=>by cases h⟩
  ·by_cases h0:len=0
   ·exact .inl h0
   ·right
    obtain ⟨b,off,sp⟩:=x
    have h1:=(hch 0 (by omega)).2.2 0 (by omega)
    have hsp:sp=none:=by
     have:(ecell (f 0))[0]?=some (.int .i64 (f 0).g):=rfl
     rw [this] at h1
     simpa [Addr.add] using World.cell?_spot h1
    subst hsp
    refine ⟨b,off,rfl,fun i e he=>?_⟩
    obtain ⟨hi,rfl⟩:=hget i e he
    obtain ⟨_,hat,hc⟩:=hch i hi
    have hc':∀ t,t < 5→W.cell? ⟨b,off+i * 5+t,none⟩=(ecell (f i))[t]?:=fun t ht5=>by
     have:=hc t ht5
     rw [add_at,← Nat.add_assoc] at this
     exact this
    exact ⟨hc' 0 (by omega),hc' 1 (by omega),hc' 2 (by omega),hc' 3 (by omega),hc' 4 (by omega),hat⟩
  ·intro e he
   obtain ⟨i,hi,rfl⟩:=List.mem_map.1 he
   exact (hch i (List.mem_range.1 hi)).1
end Go.Proofs.YtaeehnaicnckgaaGreatDoor.E6
