import Derived.Test.YtimgkhdgliojgaaGreatDoorOg20
import Derived.Test.YtimgkhdgliojgaaGreatDoorOg19
import Derived.ArgAppend
import Derived.Maps.AppendAt
set_option maxRecDepth 8000
set_option maxHeartbeats 8000000
set_option linter.unusedVariables false
namespace Go.Proofs.YtimgkhdgliojgaaGreatDoor
structure Gdf (e:Me):Prop extends Gdm e where
 a:0≤e.a
 fk:e.k=7∨e.k=8→e.a≤65535
structure ChL1 (c:Chn) (q:ChF):Prop where
 unb:q.unb=decide (c.room=0)
 rm:0≤c.room
 sent:(q.sent.length:Int)=c.sends - c.recvs
 fr:c.room≠0→c.closed=false→0≤q.free∧q.free+q.sent.length+q.emp.length=c.room
 clo:q.clo.isSome=c.closed
def ChL (c:Option Chn) (q:ChF):Prop :=
 match c with
 | none=>q=ChF.new
 | some c=>ChL1 c q
structure FL (T:List Me) (M:CS) (F:FS) (H:List Vw):Prop where
 al:∀ g:Int,0≤g→(F.gs g.toNat).isSome=has g M.alive
 hg:H.map (·.g)=T.map (fun e=>e.g.toNat)
 ps:∀ e ∈ T,0≤e.g
 ch:∀ o,ChL (M.chans o) (F.ch o)
section
variable {T : List Me} {M : CS} {e : Me} {r : Gor} {F : FS} {H : List Vw} {v n : Vw} {c : Chn} {q : ChF} {g : Int}
theorem FL.new:FL [] CS.new FS.new []:=by
 refine ⟨fun g hg=>?_,rfl,fun e he=>(by cases he),fun o=>rfl⟩
 by_cases h:g=0
 ·subst h;rfl
 ·have h2:¬ (0:Int)=g:=fun e=>h e.symm
  have h3:g.toNat≠0:=by omega
  simp [CS.new,FS.new,has,look,setN_other _ _ h3,h2]
theorem ask_some (h:M.ask e r=0) (h1:10≤e.k) (h2:e.k≤13):∃ c,M.chans e.o=some c:=by
 cases hc:M.chans e.o with
 | none=>have:=(ask_chan h (by omega) h2).2 hc;omega
 | some c=>exact ⟨c,rfl⟩
theorem ask_send (h:M.ask e r=0) (hk:e.k=10) (hc:M.chans e.o=some c):c.closed=false∧¬ (0 < c.room∧c.room≤c.inside):=by
 unfold CS.ask CS.askChan at h
 rw [if_neg (by omega),if_neg (by omega),if_pos (by omega),hc] at h
 dsimp only at h
 rw [if_neg (by omega),if_pos hk] at h
 cases hd:c.closed with
 | true=>rw [hd,if_pos rfl] at h;omega
 | false =>
  rw [hd,if_neg (by decide)] at h
  refine ⟨rfl,fun hq=>?_⟩
  rw [if_pos hq] at h;omega
theorem askf_recv (h:M.ask e r=0) (hk:e.k=12) (ha:e.a=1) (hc:M.chans e.o=some c):c.inside≠0:=by
 unfold CS.ask CS.askChan at h
 rw [if_neg (by omega),if_neg (by omega),if_pos (by omega),hc] at h
 dsimp only at h
 rw [if_neg (by omega),if_neg (by omega),if_neg (by omega),if_pos hk,if_pos ha] at h
 intro hq
 rw [if_pos hq] at h;omega
theorem FL.send (h:FL T M F H) (hc:Can M e r) (hk:e.k=10) (hu:(F.ch e.o).unb=false) (hf:¬ 0 < (F.ch e.o).free):(F.ch e.o).emp≠[]:=by
 obtain ⟨c,hm⟩:=ask_some hc.ask (by omega) (by omega)
 obtain ⟨a1,a2⟩:=ask_send hc.ask hk hm
 have hl:=h.ch e.o
 rw [hm] at hl
 have hl:ChL1 c (F.ch e.o):=hl
 have hr:c.room≠0:=fun e9=>by rw [hl.unb,e9] at hu;cases hu
 obtain ⟨b1,b2⟩:=hl.fr hr a1
 have:=hl.rm
 have:=hl.sent
 unfold Chn.inside at a2
 intro e9
 rw [e9] at b2
 simp only [List.length_nil] at b2
 omega
theorem FL.recv (h:FL T M F H) (hc:Can M e r) (hk:e.k=12) (ha:e.a=1):(F.ch e.o).sent≠[]:=by
 obtain ⟨c,hm⟩:=ask_some hc.ask (by omega) (by omega)
 have a1:=askf_recv hc.ask hk ha hm
 have hl:=h.ch e.o
 rw [hm] at hl
 have hl:ChL1 c (F.ch e.o):=hl
 have:=hl.sent
 unfold Chn.inside at a1
 intro e9
 rw [e9] at this
 simp only [List.length_nil] at this
 omega
theorem FL.view (h:FL T M F H) (hc:Can M e r) (hg:0≤e.g):∃ v,F.gs e.g.toNat=some v:=by
 have:=h.al e.g hg
 rw [hc.al] at this
 exact Option.isSome_iff_exists.1 this
theorem FL.fork (h:FL T M F H) (hr:Rch T M) (hc:Can M e r) (hg:Gdf e) (hk:e.k=7):(∀ u ∈ H,u.g≠e.a.toNat)∧e.a.toNat≠e.g.toNat:=by
 have hG:=hr.lkG
 have hn:=ask_fork hc.ask hk
 have hb:bgT T e.a=false:=by rw [← hG.bg,hn];rfl
 have ha:=hg.a
 have hgg:=hg.g.1
 refine ⟨fun u hu e9=>?_,fun e9=>?_⟩
 ·have h1:u.g ∈ H.map (·.g):=List.mem_map.2 ⟨u,hu,rfl⟩
  rw [h.hg] at h1
  obtain ⟨x,hx,hx2⟩:=List.mem_map.1 h1
  have h2:=h.ps x hx
  have h3:=hG.own x hx
  have h4:x.g=e.a:=by omega
  rw [h4,hb] at h3;cases h3
 ·have h4:e.g=e.a:=by omega
  have h5:=hc.gs
  rw [h4,hn] at h5;cases h5
theorem Can.join (hc:Can M e r) (hg:Gdf e) (hk:e.k=8):e.a.toNat≠e.g.toNat:=by
 obtain ⟨q,_,_,hq,_⟩:=ask_join hc.ask hk
 have ha:=hg.a
 have hgg:=hg.g.1
 omega
theorem keep_ch (hk:¬ (9≤e.k∧e.k≤13)):(F.keep e n).ch=F.ch:=by
 unfold FS.keep
 rw [if_neg hk]
 repeat' split
 all_goals rfl
theorem keep_ch2 (hk:9≤e.k∧e.k≤13):(F.keep e n).ch=setF F.ch e.o ((F.ch e.o).keep e n):=by
 unfold FS.keep
 rw [if_neg (by omega),if_neg (by omega),if_pos hk]
theorem chNext_no (hk:¬ (9≤e.k∧e.k≤13)):chNext M e=M.chans:=by
 unfold chNext
 rw [if_neg (by omega)]
 cases M.chans e.o with
 | none=>rfl
 | some c=>dsimp only;rw [if_neg (by omega),if_neg (by omega),if_neg (by omega)]
theorem chNext_other {o:Int} (ho:o≠e.o):chNext M e o=M.chans o:=by
 unfold chNext
 cases M.chans e.o with
 | none =>
  dsimp only
  split
  ·exact setF_other _ _ ho
  ·rfl
 | some c =>
  dsimp only
  repeat' split
  all_goals first|rfl|exact setF_other _ _ ho
theorem len_tail {α:Type} {l:List α} (h:l≠[]):(l.tail.length:Int)=l.length - 1:=by
 cases l with
 | nil=>exact absurd rfl h
 | cons x l=>simp
theorem FL.chan (h:FL T M F H) (hc:Can M e r) (hg:Gdf e) (hk:9≤e.k∧e.k≤13):ChL (chNext M e e.o) ((F.ch e.o).keep e n):=by
 have hl:=h.ch e.o
 by_cases h9:e.k=9
 ·have hm:=(ask_chan hc.ask hk.1 hk.2).1 h9
  rw [hm] at hl
  have hl:F.ch e.o=ChF.new:=hl
  unfold chNext ChF.keep
  rw [if_pos h9,if_pos h9,setF_same,hl]
  exact ⟨rfl,hg.a,rfl,fun _ _=>⟨hg.a,by show e.a+((0:Nat):Int)+((0:Nat):Int)=e.a;omega⟩,rfl⟩
 obtain ⟨c,hm⟩:=ask_some hc.ask (by omega) hk.2
 rw [hm] at hl
 have hl:ChL1 c (F.ch e.o):=hl
 have hrm:=hl.rm
 have hse:=hl.sent
 unfold chNext ChF.keep
 rw [if_neg h9,if_neg h9,hm]
 dsimp only
 by_cases h10:e.k=10
 ·rw [if_pos h10,if_pos h10,setF_same]
  obtain ⟨a1,a2⟩:=ask_send hc.ask h10 hm
  refine ⟨hl.unb,hrm,?_,fun b1 b2=>?_,hl.clo⟩
  ·dsimp only
   rw [List.length_append,List.length_singleton]
   omega
  ·dsimp only at b1 b2 ⊢
   obtain ⟨d1,d2⟩:=hl.fr b1 b2
   have hu:(F.ch e.o).unb=false:=by rw [hl.unb];exact decide_eq_false b1
   simp only [hu,Bool.false_eq_true,if_false]
   rw [List.length_append,List.length_singleton]
   by_cases hf:0 < (F.ch e.o).free
   ·rw [if_pos hf,if_pos hf];omega
   ·have:=h.send hc h10 hu hf
    rw [if_neg hf,if_neg hf]
    have:=len_tail this
    omega
 rw [if_neg h10,if_neg h10]
 by_cases h11:e.k=11
 ·rw [if_pos h11,if_neg (by omega),if_neg (by omega),hm]
  exact ⟨hl.unb,hrm,hse,hl.fr,hl.clo⟩
 rw [if_neg h11]
 by_cases h12:e.k=12
 ·rw [if_pos h12,if_pos h12,setF_same]
  rcases hg.rc h12 with ha|ha
  ·rw [if_pos ha]
   refine ⟨hl.unb,hrm,?_,hl.fr,hl.clo⟩
   show ((F.ch e.o).sent.length:Int)=c.sends - (c.recvs+e.a)
   omega
  ·rw [if_neg (by omega)]
   have hn:=len_tail (h.recv hc h12 ha)
   refine ⟨hl.unb,hrm,?_,fun b1 b2=>?_,hl.clo⟩
   ·show ((F.ch e.o).sent.tail.length:Int)=c.sends - (c.recvs+e.a)
    omega
   ·dsimp only at b1 b2 ⊢
    obtain ⟨d1,d2⟩:=hl.fr b1 b2
    have hu:(F.ch e.o).unb=false:=by rw [hl.unb];exact decide_eq_false b1
    have hcl:(F.ch e.o).clo.isNone=true:=by
     have:=hl.clo
     rw [b2] at this
     cases hq:(F.ch e.o).clo with
     | none=>rfl
     | some d=>rw [hq] at this;cases this
    simp only [hu,Bool.false_eq_true,if_false]
    rw [if_pos hcl,List.length_append,List.length_singleton]
    omega
 have h13:e.k=13:=by omega
 rw [if_neg h12,if_neg h12,if_pos h13,if_pos h13,setF_same]
 exact ⟨hl.unb,hrm,hse,fun b1 b2=>(by cases b2),rfl⟩
theorem FL.step (h:FL T M F H) (hr:Rch T M) (hc:Can M e r) (hg:Gdf e) (hv:F.gs e.g.toNat=some v) (hn:n.g=e.g.toNat):FL (T++[e]) (M.next e) (F.next e n) (H++[n]):=by
 rw [hc.nx]
 have ha:=hg.a
 have hgg:=hg.g.1
 refine ⟨fun g h0=>?_,?_,fun x hx=>?_,fun o=>?_⟩
 ·rw [doo_alive]
  show (F.gor e n g.toNat).isSome=_
  have hs:(setN F.gs n.g (some n) g.toNat).isSome=has g M.alive:=by
   by_cases e9:g.toNat=n.g
   ·rw [e9,setN_same]
    have:g=e.g:=by omega
    rw [this,hc.al];rfl
   ·rw [setN_other _ _ e9];exact h.al g h0
  unfold FS.gor
  by_cases h7:e.k=7
  ·rw [if_pos h7,if_pos h7]
   unfold has
   rw [look_insE]
   by_cases e9:g=e.a
   ·subst e9;rw [if_pos rfl,setN_same];rfl
   ·have e8:g.toNat≠e.a.toNat:=by omega
    rw [if_neg e9,setN_other _ _ e8];exact hs
  ·rw [if_neg h7,if_neg h7]
   by_cases h8:e.k=8
   ·rw [if_pos h8,if_pos h8]
    unfold has
    rw [look_delE hr.lkG.ris]
    by_cases e9:g=e.a
    ·subst e9;rw [if_pos rfl,setN_same];rfl
    ·have e8:g.toNat≠e.a.toNat:=by omega
     rw [if_neg e9,setN_other _ _ e8];exact hs
   ·rw [if_neg h8,if_neg h8];exact hs
 ·rw [List.map_append,List.map_append,h.hg,List.map_singleton,List.map_singleton,hn]
 ·rcases List.mem_append.1 hx with hx|hx
  ·exact h.ps x hx
  ·cases List.mem_singleton.1 hx;exact hgg
 ·rw [doo_chans]
  show ChL (chNext M e o) ((F.keep e n).ch o)
  by_cases hk:9≤e.k∧e.k≤13
  ·rw [keep_ch2 hk]
   by_cases ho:o=e.o
   ·subst ho;rw [setF_same];exact h.chan hc hg hk
   ·rw [setF_other _ _ ho,chNext_other ho];exact h.ch o
  ·rw [keep_ch hk,chNext_no hk];exact h.ch o
end
inductive Rcf:List Me→CS→FS→List Vw→Prop
 | new:Rcf [] CS.new FS.new []
 | step {T:List Me} {M:CS} {F:FS} {H:List Vw} {e:Me} {v:Vw}:Rcf T M F H→Gdf e→M.why e=0→F.gs e.g.toNat=some v→Rcf (T++[e]) (M.next e) (F.next e (v.next (F.give e) F.taken)) (H++[v.next (F.give e) F.taken])
structure RcI (T:List Me) (M:CS) (F:FS) (H:List Vw):Prop where
 rch:Rch T M
 fl:FL T M F H
 fi:FI H F
theorem Rcf.all {T:List Me} {M:CS} {F:FS} {H:List Vw} (h:Rcf T M F H):RcI T M F H:=by
 induction h with
 | new=>exact ⟨Rch.new,FL.new,FI.new⟩
 | @step T M F H e v _ hg hw hv ih =>
  obtain ⟨r,hc⟩:=why_can hw
  have hvg:v.g=e.g.toNat:=(ih.fi.gs _ v hv).1
  have hv2:F.gs v.g=some v:=by rw [hvg];exact hv
  refine ⟨ih.rch.step hg.toGdm hw,ih.fl.step ih.rch hc hg hv hvg,ih.fi.step hv2 (fun hk=>?_) (fun hk=>?_)⟩
  ·rw [hvg];exact ih.fl.fork ih.rch hc hg hk
  ·rw [hvg];exact hc.join hg hk
theorem Rcf.view {T:List Me} {M:CS} {F:FS} {H:List Vw} {e:Me} (h:Rcf T M F H) (hg:Gdf e) (hw:M.why e=0):∃ v,F.gs e.g.toNat=some v:=by
 obtain ⟨r,hc⟩:=why_can hw
 exact h.all.fl.view hc hg.g.1
end Go.Proofs.YtimgkhdgliojgaaGreatDoor
namespace Go.Proofs.YtimgkhdgliojgaaGreatDoor
open Go.RowKit Go.Maps
section
variable {pl : Nat → Int → Int} {Z : Nat → Prop} {w : World} {ob : Nat} {k v r x1 x2 x3 x4 : Value} {m : Nat} {fr : Int} {eg ek eo ea : Int} {s : Value}
theorem mneq_some (W:World) (m:Nat):(binOp .neq 229 (.map (some m)) (.map none)).run Tryz.prog W=.ok (.bool true) W:=by
 have h:∀ d:Nat,(Op.equalIn (d+1) 229 (.map (some m)) (.map none)).run Tryz.prog W=.ok false W:=fun d=>by
  simp [Op.equalIn,run_underlying Tryz.underlying229]
 simp only [binOp]
 simp [Op.equal,Op.maxDepth,h 9999]
theorem mneq_none (W:World):(binOp .neq 229 (.map none) (.map none)).run Tryz.prog W=.ok (.bool false) W:=by
 have h:∀ d:Nat,(Op.equalIn (d+1) 229 (.map none) (.map none)).run Tryz.prog W=.ok true W:=fun d=>by
  simp [Op.equalIn,run_underlying Tryz.underlying229]
 simp only [binOp]
 simp [Op.equal,Op.maxDepth,h 9999]
theorem ch_unb (hob:w.heap[ob]?=some (.cells #[.int .u64 fr,x1,x2,.map (some m),x4] 231 (0,0))) :
  Calls Tryz.prog 249 #[.pointer (some ⟨ob,0,none⟩)] w fun e w'=>e=.returned (.bool true)∧w'=w:=by
 have q3:w.cell? ⟨ob,3,none⟩=some (.map (some m)):=cell_at hob rfl
 have ql:=lt_heap hob
 have E1:=mneq_some w m
 clear hob
 go_enter Tryz.func249,Tryz.ntmps249
 go_wp2
 go_ret
 exact ⟨rfl,rfl⟩
theorem ch_buf (hob:w.heap[ob]?=some (.cells #[.int .u64 fr,x1,x2,.map none,x4] 231 (0,0))) :
  Calls Tryz.prog 249 #[.pointer (some ⟨ob,0,none⟩)] w fun e w'=>e=.returned (.bool false)∧w'=w:=by
 have q3:w.cell? ⟨ob,3,none⟩=some (.map none):=cell_at hob rfl
 have ql:=lt_heap hob
 have E1:=mneq_none w
 clear hob
 go_enter Tryz.func249,Tryz.ntmps249
 go_wp2
 go_ret
 exact ⟨rfl,rfl⟩
theorem gs_unb (hob:w.heap[ob]?=some (.cells #[.int .u64 fr,x1,x2,.map (some m),x4] 231 (0,0))) :
  Calls Tryz.prog 250 #[.pointer (some ⟨ob,0,none⟩)] w fun e w'=>e=.returned (.pointer none)∧w'=w:=by
 have HC:=hide (ch_unb hob)
 clear hob
 go_enter Tryz.func250,Tryz.ntmps250
 go_wp2_with fail
 refine HC.out.mono ?_
 rintro e w1 ⟨rfl,rfl⟩
 go_wp2
 go_ret
 exact ⟨rfl,rfl⟩
theorem gs_free (hob:w.heap[ob]?=some (.cells #[.int .u64 fr,x1,x2,.map none,x4] 231 (0,0))) (hf:0 < fr) :
  Calls Tryz.prog 250 #[.pointer (some ⟨ob,0,none⟩)] w fun e w'=>e=.returned (.pointer none)∧w'=w:=by
 have HC:=hide (ch_buf hob)
 have q0:w.cell? ⟨ob,0,none⟩=some (.int .u64 fr):=cell_at hob rfl
 have ql:=lt_heap hob
 clear hob
 go_enter Tryz.func250,Tryz.ntmps250
 go_wp2_with fail
 refine HC.out.mono ?_
 rintro e w1 ⟨rfl,rfl⟩
 go_wp2
 go_ret
 exact ⟨rfl,rfl⟩
theorem gs_room {g off n cap:Nat} {o:Option Addr} (hob:w.heap[ob]?=some (.cells #[.int .u64 fr,x1,.slice (some ⟨g,off,none⟩) n cap,.map none,x4] 231 (0,0))) (hf:¬ 0 < fr) (hn:0 < n) (hg:w.cell? ⟨g,off,none⟩=some (.pointer o)) (hgl:g < w.heap.size) :
  Calls Tryz.prog 250 #[.pointer (some ⟨ob,0,none⟩)] w fun e w'=>e=.returned (.pointer o)∧w'=w:=by
 have HC:=hide (ch_buf hob)
 have q0:w.cell? ⟨ob,0,none⟩=some (.int .u64 fr):=cell_at hob rfl
 have q2:w.cell? ⟨ob,2,none⟩=some (.slice (some ⟨g,off,none⟩) n cap):=cell_at hob rfl
 have ql:=lt_heap hob
 clear hob
 go_enter Tryz.func250,Tryz.ntmps250
 go_wp2_with fail
 refine HC.out.mono ?_
 rintro e w1 ⟨rfl,rfl⟩
 go_wp2
 go_ret
 exact ⟨rfl,rfl⟩
theorem gr_none {o:Option Addr} (hob:w.heap[ob]?=some (.cells #[.int .u64 fr,x1,x2,x3,.pointer o] 231 (0,0))) :
  Calls Tryz.prog 251 #[.pointer (some ⟨ob,0,none⟩),.agg #[.int .i64 eg,.int .i64 ek,.int .u64 eo,.int .u64 0,s]] w fun e w'=>e=.returned (.pointer o)∧Below w.heap.size w w':=by
 have q4:w.cell? ⟨ob,4,none⟩=some (.pointer o):=cell_at hob rfl
 have ql:=lt_heap hob
 clear hob
 have HB:Hid (∀ x,Below w.heap.size w (w.alloc x)):=hide (fun x=>below_alloc1 w x)
 go_enter Tryz.func251,Tryz.ntmps251
 go_wp2
 go_ret
 exact ⟨rfl,HB.out _⟩
theorem gr_one {g off n cap:Nat} {o:Option Addr} (hob:w.heap[ob]?=some (.cells #[.int .u64 fr,.slice (some ⟨g,off,none⟩) n cap,x2,x3,x4] 231 (0,0))) (hn:0 < n) (hg:w.cell? ⟨g,off+1,none⟩=some (.pointer o)) (hgl:g < w.heap.size) :
  Calls Tryz.prog 251 #[.pointer (some ⟨ob,0,none⟩),.agg #[.int .i64 eg,.int .i64 ek,.int .u64 eo,.int .u64 1,s]] w fun e w'=>e=.returned (.pointer o)∧Below w.heap.size w w':=by
 have q1:w.cell? ⟨ob,1,none⟩=some (.slice (some ⟨g,off,none⟩) n cap):=cell_at hob rfl
 have ql:=lt_heap hob
 clear hob
 have HB:Hid (∀ x,Below w.heap.size w (w.alloc x)):=hide (fun x=>below_alloc1 w x)
 go_enter Tryz.func251,Tryz.ntmps251
 go_wp2
 go_ret
 exact ⟨rfl,HB.out _⟩
end
end Go.Proofs.YtimgkhdgliojgaaGreatDoor
namespace Go.Proofs.YtimgkhdgliojgaaGreatDoor
open Go.RowKit Go.Maps
theorem law16:Keyed Tryz.prog 74:=int_keyed Tryz.underlying74
theorem key16 {g:Int} (h0:0≤g) (h1:g≤65535):keyOf Tryz.prog 74 (.int .u16 g)=some (.int .u16 g):=keyOf_int_mk Tryz.underlying74 (WalkArith.wf_u16 ⟨h0,h1⟩)
section
variable {pl : Nat → Int → Int} {Z : Nat → Prop} {w : World} {ob m n : Nat} {k v r x1 x2 x3 x4 : Value} {fr : Int} {eg ek eo ea : Int} {s : Value} {o : Option Addr} {f : Int → Option Value}
theorem rc_look (h:HM w 74 .u16 m n (.pointer none) f) (h0:0≤eg) (h1:eg≤65535):(Instr.lookup 229 (.map (some m)) (.int .u16 eg) false).run Tryz.prog w=.ok ((f eg).getD (.pointer none)) w :=
 h.look law16 Tryz.underlying229 (by kernel_rfl) (key16 h0 h1)
theorem gives_send (hob:w.heap[ob]?=some (.cells #[.int .u64 fr,x1,x2,x3,x4] 231 (0,0))) (H:∀ W,Below w.heap.size w W→Calls Tryz.prog 250 #[.pointer (some ⟨ob,0,none⟩)] W fun e w'=>e=.returned (.pointer o)∧w'=W) :
  Calls Tryz.prog 247 #[.pointer (some ⟨ob,0,none⟩),.agg #[.int .i64 eg,.int .i64 10,.int .u64 eo,.int .u64 ea,s]] w fun e w'=>e=.returned (.pointer o)∧Below w.heap.size w w':=by
 have HC:=hide (H _ (below_alloc1 w (.cells #[.int .i64 eg,.int .i64 10,.int .u64 eo,.int .u64 ea,s] 35)))
 clear H hob
 have HB:Hid (∀ x,Below w.heap.size w (w.alloc x)):=hide (fun x=>below_alloc1 w x)
 go_enter Tryz.func247,Tryz.ntmps247
 go_wp2_with fail
 refine HC.out.mono ?_
 rintro e w1 ⟨rfl,rfl⟩
 go_wp2
 go_ret
 exact ⟨rfl,HB.out _⟩
theorem gives_recv (hob:w.heap[ob]?=some (.cells #[.int .u64 fr,x1,x2,x3,x4] 231 (0,0))) (H:∀ W,Below w.heap.size w W→Calls Tryz.prog 251 #[.pointer (some ⟨ob,0,none⟩),.agg #[.int .i64 eg,.int .i64 12,.int .u64 eo,.int .u64 ea,s]] W fun e w'=>e=.returned (.pointer o)∧Below W.heap.size W w') :
  Calls Tryz.prog 247 #[.pointer (some ⟨ob,0,none⟩),.agg #[.int .i64 eg,.int .i64 12,.int .u64 eo,.int .u64 ea,s]] w fun e w'=>e=.returned (.pointer o)∧Below w.heap.size w w':=by
 have HB:=hide (below_alloc1 w (.cells #[.int .i64 eg,.int .i64 12,.int .u64 eo,.int .u64 ea,s] 35))
 have HC:=hide (H _ HB.out)
 clear H hob
 go_enter Tryz.func247,Tryz.ntmps247
 go_wp2_with fail
 refine HC.out.mono ?_
 rintro e w1 ⟨rfl,hb1⟩
 have HB1:=hide (HB.out.trans (hb1.mono HB.out.size))
 clear hb1 HC HB
 go_wp2
 go_ret
 exact ⟨rfl,HB1.out⟩
theorem gives_none (h10:ek≠10) (h11:ek≠11) (h12:ek≠12) :
  Calls Tryz.prog 247 #[.pointer (some ⟨ob,0,none⟩),.agg #[.int .i64 eg,.int .i64 ek,.int .u64 eo,.int .u64 ea,s]] w fun e w'=>e=.returned (.pointer none)∧Below w.heap.size w w':=by
 have b1:(ek == 10)=false:=by rw [beq_eq_false_iff_ne];exact h10
 have b2:(ek == 11)=false:=by rw [beq_eq_false_iff_ne];exact h11
 have b3:(ek == 12)=false:=by rw [beq_eq_false_iff_ne];exact h12
 clear h10 h11 h12
 have HB:Hid (∀ x,Below w.heap.size w (w.alloc x)):=hide (fun x=>below_alloc1 w x)
 go_enter Tryz.func247,Tryz.ntmps247
 go_wp2
 go_ret
 exact ⟨rfl,HB.out _⟩
theorem gives_ack (hob:w.heap[ob]?=some (.cells #[.int .u64 fr,x1,x2,.map (some m),x4] 231 (0,0))) (hm:HM w 74 .u16 m n (.pointer none) f) (h0:0≤eg) (h1:eg≤65535) (hf:(f eg).getD (.pointer none)=.pointer o) :
  Calls Tryz.prog 247 #[.pointer (some ⟨ob,0,none⟩),.agg #[.int .i64 eg,.int .i64 11,.int .u64 eo,.int .u64 ea,s]] w fun e w'=>e=.returned (.pointer o)∧Below w.heap.size w w':=by
 obtain ⟨W,hW⟩:∃ W,W=w.alloc (.cells #[.int .i64 eg,.int .i64 11,.int .u64 eo,.int .u64 ea,s] 35):=⟨_,rfl⟩
 have hb:Below w.heap.size w W:=by rw [hW];exact below_alloc1 w _
 have hR:W.heap[w.heap.size]?=some (.cells #[.int .i64 eg,.int .i64 11,.int .u64 eo,.int .u64 ea,s] 35 (0,0)):=by rw [hW];exact heap_new _ _
 have HS:Hid (∀ X,Below W.heap.size W X→X.cell? ⟨ob,3,none⟩=some (.map (some m))∧X.cell? ⟨w.heap.size,0,none⟩=some (.int .i64 eg)∧(Instr.lookup 229 (.map (some m)) (.int .u16 eg) false).run Tryz.prog X=.ok (.pointer o) X):=hide (fun X hX=>by
  have hbX:=hb.trans (hX.mono hb.size)
  have h9:=rc_look (hm.below hbX) h0 h1
  rw [hf] at h9
  exact ⟨cell_at ((hbX.block ob (lt_heap hob)).trans hob) rfl,cell_at ((hX.block _ (lt_heap hR)).trans hR) rfl,h9⟩)
 have r1:W.cell? ⟨w.heap.size,1,none⟩=some (.int .i64 11):=cell_at hR rfl
 have rl:=lt_heap hR
 have hwr:IntKind.u16.wrap eg=eg:=by simp [IntKind.wrap,IntKind.bits,IntKind.signed];omega
 have HB:=hide hb
 have HW:=hide hW
 clear hob hm h0 h1 hf hb hR hW
 go_enter Tryz.func247,Tryz.ntmps247
 go_wp2_with fail
 rw [← HW.out]
 clear HW
 go_region_held3 (fun X=>X.cell? ⟨ob,3,none⟩=some (.map (some m))∧X.cell? ⟨w.heap.size,0,none⟩=some (.int .i64 eg)∧(Instr.lookup 229 (.map (some m)) (.int .u16 eg) false).run Tryz.prog X=.ok (.pointer o) X)
  (first|with_reducible exact HS.out _ (Below.refl _ _)|with_reducible exact HS.out _ (Below.refl _ _).drew)
  (fail)
 all_goals
  have HB4:=hide (HB.out.drew)
  clear HS
  go_wp2
  go_ret
  exact ⟨rfl,HB4.out⟩
end
end Go.Proofs.YtimgkhdgliojgaaGreatDoor
namespace Go.Proofs.YtimgkhdgliojgaaGreatDoor
open Go.RowKit Go.Maps
def Win (w:World) (size:Nat) (v:Value) (n:Nat) (xs:List Value):Prop :=
 xs.length=n * size∧((v=.slice none 0 0∧n=0)∨∃ g off cap,v=.slice (some ⟨g,off,none⟩) n cap∧n≤cap∧g < w.heap.size∧(∀ j u,xs[j]?=some u→w.cell? ⟨g,off+j,none⟩=some u)∧(∀ j,j < cap * size→(w.cell? ⟨g,off+j,none⟩).isSome=true∧w.frozen? ⟨g,off+j,none⟩=false))
section
variable {w w' : World} {size n : Nat} {v : Value} {xs : List Value}
theorem Win.nil (w:World) (size:Nat):Win w size (.slice none 0 0) 0 []:=⟨by simp,.inl ⟨rfl,rfl⟩⟩
theorem Win.own {base:Nat} {e:TypeId} (h:w.ownsRow base e size v n xs):Win w size v n xs:=by
 obtain ⟨h1,h2⟩:=h
 refine ⟨h1,h2.imp id ?_⟩
 rintro ⟨g,cap,cur,rfl,hg,hh,hn,hc,hs,ht⟩
 refine ⟨g,0,cap,rfl,hn,lt_heap hh,fun j u hj=>?_,fun j hj=>⟨?_,frz hh _⟩⟩
 ·have hj2:j < n * size:=by rw [← h1];exact (List.getElem?_eq_some_iff.1 hj).1
  rw [← ht,List.getElem?_take_of_lt hj2] at hj
  rw [Nat.zero_add]
  exact cell_at hh (by rw [← Array.getElem?_toList];exact hj)
 ·rw [Nat.zero_add]
  have:j < cur.size:=by omega
  rw [cell_at hh (Array.getElem?_eq_getElem this)];rfl
theorem Win.but {S:Nat→Prop} (h:Win w size v n xs) (hb:But S w w') (hS:∀ k,v.ownBlock=some k→¬ S k):Win w' size v n xs:=by
 obtain ⟨h1,h2⟩:=h
 refine ⟨h1,h2.imp id ?_⟩
 rintro ⟨g,off,cap,rfl,hn,hg,hc,hs⟩
 have hg2:=hb.block g hg (hS g rfl)
 refine ⟨g,off,cap,rfl,hn,Nat.lt_of_lt_of_le hg hb.size,fun j u hj=>?_,fun j hj=>?_⟩
 ·rw [World.cell?_of_block (a:=⟨g,off+j,none⟩) hg2];exact hc j u hj
 ·rw [World.cell?_of_block (a:=⟨g,off+j,none⟩) hg2,World.frozen?_of_block (a:=⟨g,off+j,none⟩) hg2];exact hs j hj
theorem Win.ex (h:Win w size v n xs) (hn:0 < n):∃ g off cap,v=.slice (some ⟨g,off,none⟩) n cap∧n≤cap∧g < w.heap.size∧(∀ j u,xs[j]?=some u→w.cell? ⟨g,off+j,none⟩=some u):=by
 obtain ⟨h1,h2⟩:=h
 rcases h2 with ⟨_,e⟩|⟨g,off,cap,rfl,a,b,c,d⟩
 ·omega
 ·exact ⟨g,off,cap,rfl,a,b,c⟩
theorem Win.cut {g off cap:Nat} (h:Win w size (.slice (some ⟨g,off,none⟩) n cap) n xs) (hn:0 < n):Win w size (.slice (some ⟨g,off+size,none⟩) (n - 1) (cap - 1)) (n - 1) (xs.drop size):=by
 obtain ⟨h1,h2⟩:=h
 rcases h2 with ⟨e,_⟩|⟨g',off',cap',e,a,b,c,d⟩
 ·cases e
 ·injection e with e1 e2 e3
  injection e1 with e1
  injection e1 with e4 e5 e6
  subst e3 e4 e5
  obtain ⟨m,rfl⟩:∃ m,n=m+1:=⟨n - 1,by omega⟩
  obtain ⟨c1,rfl⟩:∃ c1,cap=c1+1:=⟨cap - 1,by omega⟩
  have t1:(m+1) * size=m * size+size:=Nat.succ_mul m size
  have t2:(c1+1) * size=c1 * size+size:=Nat.succ_mul c1 size
  refine ⟨by rw [List.length_drop,h1,t1];simp,.inr ⟨g,off+size,c1+1 - 1,rfl,by omega,b,fun j u hj=>?_,fun j hj=>?_⟩⟩
  ·rw [List.getElem?_drop] at hj
   rw [Nat.add_assoc]
   exact c _ u hj
  ·rw [Nat.add_assoc]
   rw [Nat.add_sub_cancel] at hj
   exact d _ (by omega)
theorem but_setCells (g:Nat):∀ (vs:List Value) (o:Nat) (w:World),But (fun k=>k=g) w (w.setCells g o vs)
 | [],_,w=>But.refl _ w
 | v :: r,o,w=>by
  rw [World.setCells]
  exact ((But.refl (fun k=>k=g) w).setCell ⟨g,o,none⟩ (fun _=>rfl) v).trans (but_setCells g r (o+1) _) (fun _ _ e=>e)
theorem some_setCells (b:Nat):∀ (vs:List Value) (o:Nat) (w:World) (q:Addr),(w.cell? q).isSome=true→((w.setCells b o vs).cell? q).isSome=true
 | [],_,_,_,h=>h
 | v :: r,o,w,q,h=>by
  rw [World.setCells]
  refine some_setCells b r (o+1) _ q ?_
  by_cases e:q=⟨b,o,none⟩
  ·subst e
   obtain ⟨u,hu⟩:=Option.isSome_iff_exists.mp h
   rw [World.cell?_setCell_same _ _ _ hu];rfl
  ·rw [World.cell?_setCell_other _ _ _ _ (fun e9=>e e9.symm)];exact h
theorem run_append_win {P:Program} (t ty e:TypeId) (i:TypeInfo) (z:Value) (bytes:Nat) (ht:P.underlying t=some (.slice e)) (hi:P.info? e=some i) (hz:i.zero=some z)
  (hsize:i.size=size) (hby:i.bytes=bytes) (hzs:z.cells.size=size) (hsz:0 < size) (h:Win w size v n xs)
  (a:Addr) (m c:Nat) (news:List Value) (hl:news.length=m * size) (hnews:∀ j u,news[j]?=some u→w.cell? (a.add j)=some u) (h1:∀ u ∈ news,u.oneCell'=true)
  (h63:n+m≤maxLen) (hbytes:(n+m) * bytes≤140737488355328) :
  ∃ v' w',(Builtin.append_ #[t,t] ty #[v,.slice (some a) m c]).run P w=.ok v' w'∧Win w' size v' (n+m) (xs++news)∧But (fun k=>v.ownBlock=some k) w w'∧(∀ k,v'.ownBlock=some k→v.ownBlock=some k∨w.heap.size≤k):=by
 have hlen:(xs++news).length=(n+m) * size:=by rw [List.length_append,h.1,hl,Nat.add_mul]
 rcases h.2 with ⟨rfl,rfl⟩|⟨g,off,cap,rfl,hn,hg,hc,hs⟩
 ·have hx:xs=[]:=List.eq_nil_of_length_eq_zero (by simpa using h.1)
  subst hx
  obtain ⟨v',w',r1,r2,r3,r4,r5⟩:=run_append_own_at (P:=P) w w.heap.size t ty e i z size bytes ht hi hz hsize hby hzs hsz (.slice none 0 0) 0 [] (World.ownsRow_nil w w.heap.size e size) a m c news hl hnews h1 h63 hbytes (Nat.le_refl _)
  refine ⟨v',w',r1,Win.own r2,But.of_grown r3 (fun k e=>e),fun k hk=>?_⟩
  rcases r5 with r5|r5
  ·rw [r5] at hk;exact .inl hk
  ·rw [r5] at hk;cases hk;exact .inr (Nat.le_refl _)
 ·by_cases hr:n+m≤cap
  ·subst hsize
   have t1:(n+m) * i.size=n * i.size+m * i.size:=Nat.add_mul ..
   have t2:(n+m) * i.size≤cap * i.size:=Nat.mul_le_mul_right _ hr
   have hsp:∀ j,j < news.length→(w.cell? ⟨g,off+n * i.size+j,none⟩).isSome=true∧w.frozen? ⟨g,off+n * i.size+j,none⟩=false:=fun j hj=>by
    rw [Nat.add_assoc];exact hs _ (by omega)
   refine ⟨_,_,run_append_room_cells (P:=P) w t ty e i ht hi g off n cap a m c news hl hnews h1 hr (fun j hj=>(hsp j hj).1) (fun j hj=>(hsp j hj).2),⟨hlen,.inr ⟨g,off,cap,rfl,hr,Nat.lt_of_lt_of_le hg (but_setCells g _ _ w).size,fun j u hj=>?_,fun j hj=>?_⟩⟩,(but_setCells g _ _ w).mono (fun k e=>by rw [e];rfl),fun k hk=>.inl hk⟩
   ·by_cases hjx:j < xs.length
    ·rw [List.getElem?_append_left hjx] at hj
     have:=h.1
     rw [World.cell?_setCells_out g news _ w ⟨g,off+j,none⟩ (fun _ _=>.inl (by show off+j < off+n * i.size;omega))]
     exact hc j u hj
    ·have hjx:xs.length≤j:=by omega
     rw [List.getElem?_append_right hjx] at hj
     have:=h.1
     obtain ⟨hj3,hj4⟩:=List.getElem?_eq_some_iff.1 hj
     have h9:=World.cell?_setCells_in g news (off+n * i.size) w (fun j hj=>(hsp j hj).1) (j - xs.length) hj3
     rw [hj4] at h9
     have e9:off+n * i.size+(j - xs.length)=off+j:=by omega
     rw [e9] at h9
     exact h9
   ·rw [World.frozen?_setCells]
    exact ⟨some_setCells g _ _ w _ (hs j hj).1,(hs j hj).2⟩
  ·have hadd:∀ j u,xs[j]?=some u→w.cell? ((⟨g,off,none⟩:Addr).add j)=some u:=fun j u hj=>by rw [Addr.add_lit];exact hc j u hj
   obtain ⟨v',w',r1,r2,r3⟩:=run_append_arg_grows (P:=P) w t ty e i z size bytes ht hi hz hsize hby hzs hsz ⟨g,off,none⟩ n cap xs h.1 hadd a m c news hl hnews (by omega) h63 hbytes
   refine ⟨v',w',r1,Win.own r2,But.of_grown r3 (fun k e=>by cases e),fun k hk=>.inr ?_⟩
   rcases r2.2 with ⟨rfl,_⟩|⟨g2,cap2,cur,rfl,hb,_⟩
   ·cases hk
   ·cases hk;exact hb
end
end Go.Proofs.YtimgkhdgliojgaaGreatDoor
namespace Go.Proofs.YtimgkhdgliojgaaGreatDoor
open Go.RowKit Go.Maps
section
variable {pl : Nat → Int → Int} {Z : Nat → Prop} {w : World} {ob m n g : Nat} {k v r x1 x2 x3 x4 : Value} {fr tm l : Int} {c : Nat → Int} {eg ek eo ea : Int} {s : Value} {o : Option Addr} {f : Int → Option Value} {cs cs2 : Array Value} {ty : TypeId}
theorem but_set (hob:w.heap[ob]?=some (.cells cs ty (0,0))) {W:World} (hb:But (fun j=>j=ob) w W) (hW:W.heap[ob]?=some (.cells cs2 ty (0,0))) (i:Nat) (u:Value):(W.setCell ⟨ob,i,none⟩ u).heap[ob]?=some (.cells (cs2.setIfInBounds i u) ty (0,0))∧But (fun j=>j=ob) w (W.setCell ⟨ob,i,none⟩ u) :=
 ⟨set1_heap u hW,hb.setCell ⟨ob,i,none⟩ (fun _=>rfl) u⟩
theorem km_buf (hob:w.heap[ob]?=some (.cells #[.int .u64 fr,x1,x2,x3,x4] 231 (0,0))) (ha:ea≠0) :
  Calls Tryz.prog 252 #[.pointer (some ⟨ob,0,none⟩),.agg #[.int .i64 eg,.int .i64 ek,.int .u64 eo,.int .u64 ea,s]] w fun e w'=>e=.returned (.tuple #[])∧w'.heap[ob]?=some (.cells #[.int .u64 ea,x1,x2,x3,x4] 231 (0,0))∧But (fun j=>j=ob) w w':=by
 have HR:Hid (((w.setCell ⟨ob,0,none⟩ (.int .u64 ea)).alloc (.cells #[.int .i64 eg,.int .i64 ek,.int .u64 eo,.int .u64 ea,s] 35)).heap[ob]?=some (.cells #[.int .u64 ea,x1,x2,x3,x4] 231 (0,0))∧But (fun j=>j=ob) w ((w.setCell ⟨ob,0,none⟩ (.int .u64 ea)).alloc (.cells #[.int .i64 eg,.int .i64 ek,.int .u64 eo,.int .u64 ea,s] 35))):=hide (by
  obtain ⟨s1,s2⟩:=but_set hob (But.refl _ w) hob 0 (.int .u64 ea)
  have hb:=below_alloc1 (w.setCell ⟨ob,0,none⟩ (.int .u64 ea)) (.cells #[.int .i64 eg,.int .i64 ek,.int .u64 eo,.int .u64 ea,s] 35)
  exact ⟨(hb.block ob (lt_heap s1)).trans s1,s2.on hb⟩)
 have q0:w.cell? ⟨ob,0,none⟩=some (.int .u64 fr):=cell_at hob rfl
 have qf:w.frozen? ⟨ob,0,none⟩=false:=frz hob 0
 have ql:=lt_heap hob
 have b1:(ea == 0)=false:=by rw [beq_eq_false_iff_ne];exact ha
 clear hob ha
 go_enter Tryz.func252,Tryz.ntmps252
 go_wp2
 go_end0
 exact ⟨rfl,HR.out⟩
theorem km_end {ev:Obj} (hob:w.heap[ob]?=some (.cells #[.int .u64 fr,x1,x2,x3,x4] 231 (0,0))):(∃ mm,w.heap.size≤mm∧((((w.setCell ⟨ob,0,none⟩ (.int .u64 0)).setCell ⟨ob,3,none⟩ (.map (some (w.heap.size+1)))).alloc ev).alloc (.map #[] 0)).heap[ob]?=some (.cells #[.int .u64 0,x1,x2,.map (some mm),x4] 231 (0,0))∧HM ((((w.setCell ⟨ob,0,none⟩ (.int .u64 0)).setCell ⟨ob,3,none⟩ (.map (some (w.heap.size+1)))).alloc ev).alloc (.map #[] 0)) 74 .u16 mm 0 (.pointer none) (fun _=>none))∧But (fun j=>j=ob) w ((((w.setCell ⟨ob,0,none⟩ (.int .u64 0)).setCell ⟨ob,3,none⟩ (.map (some (w.heap.size+1)))).alloc ev).alloc (.map #[] 0)):=by
 obtain ⟨s1,s2⟩:=but_set hob (But.refl _ w) hob 0 (.int .u64 0)
 obtain ⟨s3,s4⟩:=but_set hob s2 s1 3 (.map (some (w.heap.size+1)))
 have hb:=below_alloc2 ((w.setCell ⟨ob,0,none⟩ (.int .u64 0)).setCell ⟨ob,3,none⟩ (.map (some (w.heap.size+1)))) ev (.map #[] 0)
 have hM:=HM.made (((w.setCell ⟨ob,0,none⟩ (.int .u64 0)).setCell ⟨ob,3,none⟩ (.map (some (w.heap.size+1)))).alloc ev) 74 .u16 (.pointer none)
 have hz:(((w.setCell ⟨ob,0,none⟩ (.int .u64 0)).setCell ⟨ob,3,none⟩ (.map (some (w.heap.size+1)))).alloc ev).heap.size=w.heap.size+1:=by simp [World.setCell,World.alloc]
 rw [hz] at hM
 exact ⟨⟨w.heap.size+1,by omega,(hb.block ob (lt_heap s3)).trans s3,hM⟩,s4.on hb⟩
theorem km_unb (hob:w.heap[ob]?=some (.cells #[.int .u64 fr,x1,x2,x3,x4] 231 (0,0))) :
  Calls Tryz.prog 252 #[.pointer (some ⟨ob,0,none⟩),.agg #[.int .i64 eg,.int .i64 ek,.int .u64 eo,.int .u64 0,s]] w fun e w'=>e=.returned (.tuple #[])∧(∃ mm,w.heap.size≤mm∧w'.heap[ob]?=some (.cells #[.int .u64 0,x1,x2,.map (some mm),x4] 231 (0,0))∧HM w' 74 .u16 mm 0 (.pointer none) (fun _=>none))∧But (fun j=>j=ob) w w':=by
 have HR:Hid (∀ ev:Obj,_):=hide (fun ev=>km_end (ev:=ev) hob)
 have q0:w.cell? ⟨ob,0,none⟩=some (.int .u64 fr):=cell_at hob rfl
 have qf:w.frozen? ⟨ob,0,none⟩=false:=frz hob 0
 have q3:w.cell? ⟨ob,3,none⟩=some x3:=cell_at hob rfl
 have qf3:w.frozen? ⟨ob,3,none⟩=false:=frz hob 3
 have ql:=lt_heap hob
 clear hob
 have hmm:=@run_makeMap Tryz.prog
 go_enter Tryz.func252,Tryz.ntmps252
 go_wp2
 go_end0
 exact ⟨rfl,HR.out _⟩
theorem kc_close (hpl:Rise2 pl) (hob:w.heap[ob]?=some (.cells #[.int .u64 fr,x1,x2,x3,r] 231 (0,0))) (hZ:¬ Z ob) (h:TQ pl Z w k c) (hv:Vok pl g tm l) :
  Calls Tryz.prog 248 #[.pointer (some ⟨ob,0,none⟩),.agg #[.int .i64 eg,.int .i64 13,.int .u64 eo,.int .u64 ea,s],.agg #[k,.int .i32 tm,.int .i32 l,.int .u16 (g:Int)]] w fun e w'=>e=.returned (.tuple #[])∧Kp pl Z w w' ob (fun x=>#[.int .u64 fr,x1,.slice none 0 0,x3,x]) 231 (vclk c g tm):=by
 obtain ⟨o,rfl⟩:=h.form
 obtain ⟨W,hW⟩:∃ W,W=(w.alloc (.cells #[.int .i64 eg,.int .i64 13,.int .u64 eo,.int .u64 ea,s] 35)).alloc (.cells #[.pointer o,.int .i32 tm,.int .i32 l,.int .u16 (g:Int)] 76):=⟨_,rfl⟩
 have hb:Below w.heap.size w W:=by rw [hW];exact below_alloc2 w _ _
 have HC:=hide (clock_any hpl (h.bel hb) hv.fg hv.ft hv.fl hv.fp hv.fz)
 have HB:=hide hb
 have HW:=hide hW
 have HOb:=hide hob
 have HZ:=hide hZ
 clear h hb hW hv hpl hob hZ
 go_enter Tryz.func248,Tryz.ntmps248
 go_wp2_with fail
 rw [← HW.out]
 clear HW
 refine HC.out.mono ?_
 rintro e w1 ⟨v1,rfl,hq,hb1⟩
 obtain ⟨o1,ho1⟩:=hq.form
 subst ho1
 have hbw:=HB.out.trans (hb1.mono HB.out.size)
 have hq2:TQ pl (Nz Z w w1) w1 (.pointer o1) (vclk c g tm):=hq.mono (Nz.up HB.out.size)
 obtain ⟨s1,s2,s3⟩:=kp_set HOb.out HZ.out hbw hq2 4 (.pointer o1)
 have h1:w1.heap[ob]?=some (.cells #[.int .u64 fr,x1,x2,x3,r] 231 (0,0)):=(hbw.block ob (lt_heap HOb.out)).trans HOb.out
 have z4:w1.cell? ⟨ob,4,none⟩=some r:=cell_at h1 rfl
 have zf:w1.frozen? ⟨ob,4,none⟩=false:=frz h1 4
 have zl:=lt_heap h1
 obtain ⟨w2,hw2⟩:∃ w2,w2=w1.setCell ⟨ob,4,none⟩ (.pointer o1):=⟨_,rfl⟩
 have HW2:=hide hw2
 rw [← hw2] at s1 s2 s3
 have y2:w2.cell? ⟨ob,2,none⟩=some x2:=cell_at s1 rfl
 have yf:w2.frozen? ⟨ob,2,none⟩=false:=frz s1 2
 have yl:=lt_heap s1
 have HR:Hid (Kp pl Z w (w2.setCell ⟨ob,2,none⟩ (.slice none 0 0)) ob (fun x=>#[.int .u64 fr,x1,.slice none 0 0,x3,x]) 231 (vclk c g tm)):=hide (by
  have hB2:But (fun j=>j=ob) w2 (w2.setCell ⟨ob,2,none⟩ (.slice none 0 0)):=(But.refl (fun j=>j=ob) w2).setCell ⟨ob,2,none⟩ (fun _=>rfl) _
  have hlt:=lt_heap HOb.out
  refine ⟨⟨_,set1_heap (i:=2) (.slice none 0 0) s1,(s2.but hB2 (fun j hj e=>?_)).mono (Nz.on hB2.size)⟩,s3.trans hB2 (fun _ _ e=>e)⟩
  have e9:j=ob:=e
  rcases hj with hj|hj
  ·exact HZ.out (e9 ▸ hj)
  ·omega)
 rw [HW2.out] at y2 yf yl HR
 clear HW2 hq hb1 hbw hq2 s1 s2 s3 h1 HC hw2
 go_wp2
 go_end0
 exact ⟨rfl,HR.out⟩
end
end Go.Proofs.YtimgkhdgliojgaaGreatDoor
