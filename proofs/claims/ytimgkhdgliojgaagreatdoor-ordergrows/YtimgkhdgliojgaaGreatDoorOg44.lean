import Derived.Test.YtimgkhdgliojgaaGreatDoorOg43
import Derived.Test.YtimgkhdgliojgaaGreatDoorOg38
import Derived.Laws.OwnMore
import Derived.OneCell
set_option maxRecDepth 8000
set_option maxHeartbeats 8000000
set_option linter.unusedVariables false
namespace Go.Proofs.YtimgkhdgliojgaaGreatDoor
open Go.RowKit Go.Maps
section
variable {pl : Nat → Int → Int} {L L1 L2 : LF} {w X Y w' w5 : World} {fb gm om N K vb : Nat} {F F' : FS} {fg fg' : Int → Option Value} {fo fo' : Int → Int → Option Value} {e : Me} {sk : Value} {s o : Int} {v V : Vw} {g : Nat} {c : Clk} {p o9 : Option Addr} {x : Ending}
def FS.own (F:FS) (g:Nat) (v:Vw):FS:={ F with taken:=F.taken+1,gs:=setN F.gs g (some v) }
theorem sm_own (s o:Int):Sm s o F (F.own g v):=⟨fun _=>⟨rfl,rfl⟩,fun _=>rfl,fun _=>rfl,fun _=>rfl,fun _=>rfl⟩
theorem sm_own_next (h:srt e.k=0) (s o:Int):Sm s o (F.own g v) (F.next e V):=by
 have h1:Sm s o F (F.next e V):=sm_0 h s o
 exact ⟨h1.s1,h1.s2,h1.s3,h1.s4,h1.s5⟩
theorem hm_drew {fk:Int→Option Value} (h:HM X 74 .u16 gm N (.pointer none) fk):HM X.drew 74 .u16 gm N (.pointer none) fk:=h.below (Below.refl _ _).drew
theorem take_fork (H : TkH pl L w fb gm om N K F fg fo e v) (h7 : e.k = 7) :
    Calls Tryz.prog 31 #[.pointer (some ⟨fb, 0, none⟩), .agg (evA e.g e.k e.o e.a sk)] w (TkR pl L w fb gm om N K F e v) := by
  have f0 : ¬ False := fun e => e
  obtain ⟨hg, hvg, vb, hvb, hlv, _⟩ := H.fm.vw _ v H.hv
  have hvb2 : vb ≠ fb := fun e9 => by have := H.fm.lf; rw [← e9, hlv] at this; cases this
  obtain ⟨ka, kne, kno⟩ := H.fk h7
  have h0 : srt e.k = 0 := by rw [h7]; rfl
  have h8 : e.k ≠ 8 := by omega
  have ha0 := H.a.1
  have hca : ((e.a.toNat : Nat) : Int) = e.a := by omega
  have hvl := H.fm.lt _ _ hlv
  have hfl := H.fm.lt _ _ H.fm.lf
  have hnN := H.nN
  refine (take_begun (Lb9 := fun k => Fl9 L k ∨ w.heap.size + 2 ≤ k) (A := e.a) (fgn := 238) (fkn := 239) (l := v.pl) (G := (v.g : Int)) (tm := v.tm) (tk := (F.taken : Int)) (gm := gm) (om := om) (vb := vb)
    (Q1 := fun V X => ∃ b L1, V = gPtr b ∧ FM pl L1 X fb gm om N K F fg fo ∧ LBk L w L1 ∧ L1 b = some (.vw e.a.toNat) ∧ X.heap[b]? = some (.cells #[.pointer none, .int .i32 0, .int .i32 0, .int .u16 e.a] 140 (0, 0)) ∧ w.heap.size + 2 ≤ b)
    (Q2 := fun V X o9 => ∃ b L1, V = gPtr b ∧ FM pl L1 X fb gm om N K F fg fo ∧ LBk L w L1 ∧ L1 b = some (.vw e.a.toNat) ∧ X.heap[b]? = some (.cells #[.pointer none, .int .i32 0, .int .i32 0, .int .u16 e.a] 140 (0, 0)) ∧ w.heap.size + 2 ≤ b ∧ TL pl L1 X (.pointer o9) (F.give e))
    (Q3 := fun V X p => ∃ b L1, V = gPtr b ∧ S3 pl L1 X fb gm om N K F fg fo e.g.toNat v vb p (F.give e) ∧ LBk L w L1 ∧ L1 b = some (.vw e.a.toNat) ∧ X.heap[b]? = some (.cells #[.pointer none, .int .i32 0, .int .i32 0, .int .u16 e.a] 140 (0, 0)) ∧ w.heap.size + 2 ≤ b)
    (Q5 := fun V X p => ∃ b L2 c1, V = gPtr b ∧ LBk L w L2 ∧ FM pl L2 X fb gm om N (K + 1) (F.own e.g.toNat (v.next (F.give e) F.taken)) fg fo ∧ (∃ ty, X.heap[vb]? = some (.cells (vC (.pointer p) (v.tm + 1) (F.taken : Int) (v.g : Int)) ty (0, 0))) ∧ TL pl L2 X (.pointer p) (lrn v.kn (F.give e) v.g v.tm) ∧ L2 b = some (.vw e.a.toNat) ∧ X.heap[b]? = some (.cells #[c1, .int .i32 0, .int .i32 0, .int .u16 e.a] 140 (0, 0)) ∧ TL pl L2 X c1 (v.next (F.give e) F.taken).clk)
    (Q6 := fun V X p => ∃ L2 fg', LBk L w L2 ∧ FM pl L2 X fb gm om (N + 1) (K + 1) (F.next e (v.next (F.give e) F.taken)) fg' fo ∧ (∃ ty, X.heap[vb]? = some (.cells (vC (.pointer p) (v.tm + 1) (F.taken : Int) (v.g : Int)) ty (0, 0))) ∧ TL pl L2 X (.pointer p) (lrn v.kn (F.give e) v.g v.tm))
    ?_ H.g.1 H.g.2 H.t0 (by have := H.nw.ft.2; omega) (by omega) H.nw.fl.2 (fun n V X => by kernel_rfl) (fun n V X => by kernel_rfl) (fun args X => run_enter Tryz.func238 (by kernel_rfl) rfl args X) (fun args X => run_enter Tryz.func239 (by kernel_rfl) rfl args X) ?_ (fun V X => by kernel_rfl) ?_ ?_ ?_).mono ?_
  · refine ⟨lab9 H.fm.lt, hvb2, fun X hb => ?_, fun X hb hX => ?_, ?_, ?_, ?_, ?_, ⟨.inl (fl_vw hlv hg), .inl ⟨_, H.fm.lf, trivial⟩⟩, ?_, ?_⟩
    · exact tk_look ((H.fm.hg f0).below hb) hvb H.g ((hb.block fb (lt_heap (H.fm.top f0))).trans (H.fm.top f0))
    · unfold evA
      rw [h7]
      refine (met_fork H.a.1 ka).mono ?_
      rintro x w1 ⟨rfl, hw1⟩
      have hb1 : Below X.heap.size X w1 := by rw [hw1]; exact below_alloc2 X _ _
      have hbeg : w1.heap[X.heap.size + 1]? = some (.cells #[.pointer none, .int .i32 0, .int .i32 0, .int .u16 e.a] 140 (0, 0)) := by rw [hw1]; exact heap_newS (by simp)
      have hlt := lw_lt H.fm.lt hX
      have hLE : LEx (LW L w) (fun k => if k = X.heap.size + 1 then some (.vw e.a.toNat) else LW L w k) X := fun k hk => if_neg (by omega)
      have hl2 : Llt (fun k => if k = X.heap.size + 1 then some (.vw e.a.toNat) else LW L w k) w1 := fun k l hk => by
        by_cases e9 : k = X.heap.size + 1
        · rw [e9]; exact lt_heap hbeg
        · have hk : (if k = X.heap.size + 1 then some (.vw e.a.toNat) else LW L w k) = some l := hk
          rw [if_neg e9] at hk; exact Nat.lt_of_lt_of_le (hlt k l hk) hb1.size
      exact ⟨_, rfl, ⟨X.heap.size + 1, _, rfl, (lw_fm H.fm hb hX).but (S := fun _ => False) (fun _ e => e) (But.of_below hb1) (fun _ e => e.elim) (fun _ _ _ e _ => e) hLE hl2 (Nat.le_refl _) (Nat.le_refl _), LBk.of H.fm.lt hX hLE, if_pos rfl, hbeg, by omega⟩, But.of_below hb1⟩
    · rintro V X ⟨b, L1, rfl, hF, _⟩
      exact tk_look (hF.hg f0) hvb H.g (hF.top f0)
    · rintro V X ⟨b, L1, rfl, hF, hLB, hlb, hbe, hbl⟩
      refine begun_none.mono ?_
      rintro x w2 ⟨rfl, hb⟩
      exact ⟨_, rfl, ⟨b, L1, rfl, hF.below (fun _ _ _ e _ => e) hb, hLB, hlb, (hb.block b (lt_heap hbe)).trans hbe, hbl, by rw [give_0 h0 h8]; exact TL.nil _ _ _⟩, But.of_below hb⟩
    · rintro V X o9 ⟨b, L1, rfl, hF, hLB, hlb, hbe, hbl, hT⟩
      refine (ln_any H.hpl hF H.hv hvb hT).mono ?_
      rintro x w3 ⟨rfl, p, hS, hb⟩
      exact ⟨rfl, p, ⟨b, L1, rfl, hS, hLB, hlb, (hb.block b (lt_heap hbe) (fun e9 => by have e9 : b = vb := e9; omega)).trans hbe, hbl⟩, hb.mono (fun k e9 => .inl (by rw [e9]; exact fl_vw hlv hg))⟩
    · rintro V X p ⟨b, L1, rfl, hS, _⟩
      exact ⟨hS.hv, hS.fx.top (by simp)⟩
    · rintro V X p Y ⟨b, L1, rfl, hS, hLB, hlb, hbe, hbl⟩ hY
      have h4 := hS.sets hY
      have hU : But (fun k => k = vb ∨ k = fb) X (tkU X vb fb v.tm F.taken) := (((But.refl (fun k => k = vb ∨ k = fb) X).setCell ⟨vb, 1, none⟩ (fun _ => .inl rfl) _).setCell ⟨vb, 2, none⟩ (fun _ => .inl rfl) _).setCell ⟨fb, 0, none⟩ (fun _ => .inr rfl) _
      have hbY := ((hU.on hY).block b (lt_heap hbe) (fun e9 => by have e9 : b = vb ∨ b = fb := e9; omega)).trans hbe
      have hZ : ¬ TW L1 Y b := fun h9 => by have := h9.1; rw [hlb] at this; cases this
      refine (begun_keeps H.hpl hbY hZ h4.ht H.nw).mono ?_
      rintro x w5 ⟨rfl, ⟨c1, k1, k2⟩, hb⟩
      have hT1 := TL.new k2 h4.fx.lt hb.size
      obtain ⟨q1, q2, q3⟩ := h4.kept H.hv hvb (F' := F.own e.g.toNat (v.next (F.give e) F.taken)) (Zs := fun l => l = .vw e.a.toNat) hb (fun k e9 _ => ⟨_, by rw [show k = b from e9]; exact hlb, rfl⟩) (fun s o l a1 a2 => by subst a1; exact a2.elim) (LEx.refl _ _) (h4.fx.lt.on hb.size) (by simp) (by simp) (by simp) (fun g u hu e9 => by
          injection e9 with e9
          rw [e9, kno] at hu; cases hu) rfl rfl (fun _ _ _ _ _ _ _ _ e9 => by cases e9) (fun s o _ => sm_own s o) (fun _ _ _ e9 => by cases e9)
      exact ⟨rfl, ⟨b, L1, c1, rfl, hLB, q1, q2, q3, hlb, k1, hT1⟩, hb.mono (fun k e9 => .inr (by rw [show k = b from e9]; exact hbl))⟩
    · rintro V X p ⟨b, L2, c1, rfl, hLB, hF, hh, hT, _⟩
      exact ⟨hh, top_next hF rfl⟩
  · rintro n V X Y ⟨b, L1, rfl, _⟩
    show (nilAhead (n + 1) 138 (.pointer (some ⟨b, 0, none⟩)) "hindsight/flow.keeps").run Tryz.prog X = .ok (some false) X
    kernel_rfl
  · rintro V X ⟨b, L1, rfl, _⟩
    exact ⟨b, rfl⟩
  · rintro V X p ⟨L2, fg', _, _, hh, _⟩
    exact hh
  · rintro b2 X p ⟨b, L2, c1, hbb, hLB, hF, ⟨ty, hh⟩, hT, hlb, hbe, hc1⟩
    have hb2 : b2 = b := gPtr_inj hbb
    subst hb2
    have hXd : Below X.heap.size X X.drew := (Below.refl _ _).drew
    obtain ⟨w6, r1, r2, r3⟩ := (hm_drew (hF.hg f0)).put law16 Tryz.underlying120 (by unfold maxLen; omega) (key16 H.a.1 ka) (gPtr b2)
    have hb6 : But (fun k => k = gm) X w6 := (But.of_below hXd).trans r3 (fun _ _ e => e)
    have hgm : vb ≠ gm := fun e9 => by have := H.fm.lg; rw [← e9, hlv] at this; cases this
    have hF6 := FM.fork (a := e.a.toNat) (b := b2) (u := ⟨(v.next (F.give e) F.taken).clk, 0, 0, e.a.toNat⟩) (F' := F.next e (v.next (F.give e) F.taken)) hF (by rw [hca]; exact r2) hb6 (Nat.le_succ N) (by omega) rfl hlb ⟨c1, _, by show X.heap[b2]? = some (.cells #[c1, .int .i32 0, .int .i32 0, .int .u16 ((e.a.toNat : Nat) : Int)] _ (0, 0)); rw [hca]; exact hbe, hc1⟩ (by
      show F.gor e (v.next (F.give e) F.taken) = _
      unfold FS.gor
      rw [if_pos h7]
      show setN (setN F.gs v.g _) _ _ = setN (setN F.gs e.g.toNat _) _ _
      rw [hvg]) (sm_own_next h0) rfl
    exact ⟨c1, (), hbe, w6, r1, ⟨L2, _, hLB, hF6, ⟨ty, (hb6.block vb (lt_heap hh) hgm).trans hh⟩, hT.but hb6 (fun k e9 _ e8 => by rw [e9, hF.lg] at e8; cases e8) (LEx.refl _ _)⟩, hb6.mono (fun k e9 => .inl ⟨.gm, by rw [e9]; exact H.fm.lg, trivial⟩)⟩
  · rintro x w' ⟨V, w5, p, rfl, ⟨L2, fg', hLB, hF, _, hT⟩, hb, hb2⟩
    exact tk_end rfl hT hF hLB (but_lb (S := fun _ => False) hb) hb2
end
end Go.Proofs.YtimgkhdgliojgaaGreatDoor
namespace Go.Proofs.YtimgkhdgliojgaaGreatDoor
open Go.RowKit Go.Maps
section
variable {pl : Nat → Int → Int} {L L1 L2 : LF} {w X Y w' w5 : World} {fb gm om N K vb : Nat} {F F' : FS} {fg fg' : Int → Option Value} {fo fo' : Int → Int → Option Value} {e : Me} {sk : Value} {s o : Int} {v V u : Vw} {g : Nat} {c : Clk} {p o9 : Option Addr} {x : Ending}
theorem vw_at {Xs:Lf→Prop} (h:FX Xs pl L w fb gm om N K F fg fo) (hv:F.gs g=some u) (hvb:fg (g:Int)=some (gPtr vb)) (hx:¬ Xs (.vw g)):VwC pl L w vb u:=by
 obtain ⟨_,_,vb2,a1,_,a2⟩:=h.vw g u hv
 rw [hvb] at a1
 injection a1 with a1
 rw [gPtr_inj a1]
 exact a2 hx
theorem take_join (H:TkH pl L w fb gm om N K F fg fo e v) (h8:e.k=8) :
  Calls Tryz.prog 31 #[.pointer (some ⟨fb,0,none⟩),.agg (evA e.g e.k e.o e.a sk)] w (TkR pl L w fb gm om N K F e v):=by
 have f0:¬ False:=fun e=>e
 obtain ⟨hg,hvg,vb,hvb,hlv,_⟩:=H.fm.vw _ v H.hv
 have hvb2:vb≠fb:=fun e9=>by have:=H.fm.lf;rw [← e9,hlv] at this;cases this
 obtain ⟨ka,kne,u,hu⟩:=H.jn h8
 obtain ⟨hga,hug,ub,hub,hlu,_⟩:=H.fm.vw _ u hu
 have h0:srt e.k=0:=by rw [h8];rfl
 have h7:e.k≠7:=by omega
 have ha0:=H.a.1
 have hca:((e.a.toNat:Nat):Int)=e.a:=by omega
 have hvl:=H.fm.lt _ _ hlv
 have hfl:=H.fm.lt _ _ H.fm.lf
 have hnN:=H.nN
 have hgive:F.give e=u.clk:=by
  unfold FS.give
  rw [if_neg (by omega),if_neg (by omega),if_pos h8,hu]
  rfl
 refine (take_ended (Lb9:=fun k=>Fl9 L k∨w.heap.size+2≤k) (A:=e.a) (fgn:=240) (fkn:=241) (l:=v.pl) (G:=(v.g:Int)) (tm:=v.tm) (tk:=(F.taken:Int)) (gm:=gm) (om:=om) (vb:=vb)
  (Q1:=fun V X=>∃ b L1,V=gPtr b∧FM pl L1 X fb gm om N K F fg fo∧LBk L w L1∧X.heap[b]?=some (.cells #[.pointer (some ⟨ub,0,none⟩)] 143 (0,0))∧w.heap.size+2≤b)
  (Q2:=fun V X o9=>∃ b L1,V=gPtr b∧FM pl L1 X fb gm om N K F fg fo∧LBk L w L1∧X.heap[b]?=some (.cells #[.pointer (some ⟨ub,0,none⟩)] 143 (0,0))∧w.heap.size+2≤b∧TL pl L1 X (.pointer o9) (F.give e))
  (Q3:=fun V X p=>∃ b L1,V=gPtr b∧S3 pl L1 X fb gm om N K F fg fo e.g.toNat v vb p (F.give e)∧LBk L w L1∧X.heap[b]?=some (.cells #[.pointer (some ⟨ub,0,none⟩)] 143 (0,0))∧w.heap.size+2≤b)
  (Q5:=fun V X p=>∃ b L2,V=gPtr b∧LBk L w L2∧FM pl L2 X fb gm om N (K+1) (F.own e.g.toNat (v.next (F.give e) F.taken)) fg fo∧(∃ ty,X.heap[vb]?=some (.cells (vC (.pointer p) (v.tm+1) (F.taken:Int) (v.g:Int)) ty (0,0)))∧TL pl L2 X (.pointer p) (lrn v.kn (F.give e) v.g v.tm)∧X.heap[b]?=some (.cells #[.pointer (some ⟨ub,0,none⟩)] 143 (0,0)))
  (Q6:=fun V X p=>∃ L2 fg',LBk L w L2∧FM pl L2 X fb gm om (N+1) (K+1) (F.next e (v.next (F.give e) F.taken)) fg' fo∧(∃ ty,X.heap[vb]?=some (.cells (vC (.pointer p) (v.tm+1) (F.taken:Int) (v.g:Int)) ty (0,0)))∧TL pl L2 X (.pointer p) (lrn v.kn (F.give e) v.g v.tm))
  ?_ H.g.1 H.g.2 H.t0 (by have:=H.nw.ft.2;omega) (by omega) H.nw.fl.2 (fun n V X=>by kernel_rfl) (fun n V X=>by kernel_rfl) (fun args X=>run_enter Tryz.func240 (by kernel_rfl) rfl args X) (fun args X=>run_enter Tryz.func241 (by kernel_rfl) rfl args X) ?_ (fun V X=>by kernel_rfl) (fun V X=>by kernel_rfl) ?_ ?_ ?_).mono ?_
 ·refine ⟨lab9 H.fm.lt,hvb2,fun X hb=>?_,fun X hb hX=>?_,?_,?_,?_,?_,⟨.inl (fl_vw hlv hg),.inl ⟨_,H.fm.lf,trivial⟩⟩,?_,?_⟩
  ·exact tk_look ((H.fm.hg f0).below hb) hvb H.g ((hb.block fb (lt_heap (H.fm.top f0))).trans (H.fm.top f0))
  ·unfold evA
   rw [h8]
   have hFX:=lw_fm H.fm hb hX
   refine (met_join H.a.1 ka (hFX.top f0) (hFX.hg f0) (o:=some ⟨ub,0,none⟩) (by rw [← hca,hub];rfl)).mono ?_
   rintro x w1 ⟨b,rfl,hbl,hbt,hbe⟩
   exact ⟨_,rfl,⟨b,LW L w,rfl,hFX.but (S:=fun _=>False) (fun _ e=>e) hbt (fun _ e=>e.elim) (fun _ _ _ e _=>e) (LEx.refl _ _) (hFX.lt.on hbt.size) (Nat.le_refl _) (Nat.le_refl _),LBk.of H.fm.lt hX (LEx.refl _ _),hbe,by omega⟩,hbt.mono (fun _ e=>e.elim)⟩
  ·rintro V X ⟨b,L1,rfl,hF,_⟩
   exact tk_look (hF.hg f0) hvb H.g (hF.top f0)
  ·rintro V X ⟨b,L1,rfl,hF,hLB,hbe,hbl⟩
   obtain ⟨ku,ty,hcu,hTu⟩:=vw_at hF hu hub f0
   refine (ended_gives H.hpl hbe hcu hTu (H.vk _ u hu)).mono ?_
   rintro x w2 ⟨y,rfl,hT,hb⟩
   have hT2:=TL.new hT hF.lt hb.size
   obtain ⟨o9,rfl⟩:=hT2.form
   exact ⟨o9,rfl,⟨b,L1,rfl,hF.below (fun _ _ _ e _=>e) hb,hLB,(hb.block b (lt_heap hbe)).trans hbe,hbl,by rw [hgive];exact hT2⟩,But.of_below hb⟩
  ·rintro V X o9 ⟨b,L1,rfl,hF,hLB,hbe,hbl,hT⟩
   refine (ln_any H.hpl hF H.hv hvb hT).mono ?_
   rintro x w3 ⟨rfl,p,hS,hb⟩
   exact ⟨rfl,p,⟨b,L1,rfl,hS,hLB,(hb.block b (lt_heap hbe) (fun e9=>by have e9:b=vb:=e9;omega)).trans hbe,hbl⟩,hb.mono (fun k e9=>.inl (by rw [e9];exact fl_vw hlv hg))⟩
  ·rintro V X p ⟨b,L1,rfl,hS,_⟩
   exact ⟨hS.hv,hS.fx.top (by simp)⟩
  ·rintro V X p Y ⟨b,L1,rfl,hS,hLB,hbe,hbl⟩ hY
   have h4:=hS.sets hY
   have hU:But (fun k=>k=vb∨k=fb) X (tkU X vb fb v.tm F.taken):=(((But.refl (fun k=>k=vb∨k=fb) X).setCell ⟨vb,1,none⟩ (fun _=>.inl rfl) _).setCell ⟨vb,2,none⟩ (fun _=>.inl rfl) _).setCell ⟨fb,0,none⟩ (fun _=>.inr rfl) _
   have hbY:=((hU.on hY).block b (lt_heap hbe) (fun e9=>by have e9:b=vb∨b=fb:=e9;omega)).trans hbe
   refine ended_still.mono ?_
   rintro x w5 ⟨rfl,hb⟩
   obtain ⟨q1,q2,q3⟩:=s4_still h4 H.hv hvb hb (F':=F.own e.g.toNat (v.next (F.give e) F.taken)) rfl rfl (fun s o=>sm_own s o)
   exact ⟨rfl,⟨b,L1,rfl,hLB,q1,q2,q3,(hb.block b (lt_heap hbY)).trans hbY⟩,But.of_below hb⟩
  ·rintro V X p ⟨b,L2,rfl,hLB,hF,hh,hT,_⟩
   exact ⟨hh,top_next hF rfl⟩
 ·rintro n V X Y ⟨b,L1,rfl,_⟩
  show (nilAhead (n + 1) 141 (.pointer (some ⟨b, 0, none⟩)) "hindsight/flow.keeps").run Tryz.prog X = .ok (some false) X
  kernel_rfl
 ·rintro V X ⟨b,L1,rfl,_⟩
  exact ⟨b,rfl⟩
 ·rintro V X p ⟨L2,fg',_,_,hh,_⟩
  exact hh
 ·rintro b2 X p ⟨b,L2,hbb,hLB,hF,⟨ty,hh⟩,hT,hbe⟩
  have hb2:b2=b:=gPtr_inj hbb
  subst hb2
  have hXd:Below X.heap.size X X.drew:=(Below.refl _ _).drew
  obtain ⟨w6,r1,r2,r3⟩:=(hm_drew (hF.hg f0)).del law16 Tryz.underlying120 (key16 H.a.1 ka) 0
  have hb6:But (fun k=>k=gm) X w6:=(But.of_below hXd).trans r3 (fun _ _ e=>e)
  have hgm:vb≠gm:=fun e9=>by have:=H.fm.lg;rw [← e9,hlv] at this;cases this
  have hFu:(F.own e.g.toNat (v.next (F.give e) F.taken)).gs e.a.toNat=some u:=by
   show setN F.gs e.g.toNat _ e.a.toNat=some u
   rw [setN_other _ _ (by rw [← hvg];exact kne)]
   exact hu
  obtain ⟨ku,tyu,hcu,_⟩:=vw_at hF hFu hub f0
  have hF6:=FM.join (a:=e.a.toNat) (F':=F.next e (v.next (F.give e) F.taken)) hF (N':=N+1) (by rw [hca];exact r2.up (Nat.le_succ N)) hb6 (Nat.le_succ N) (by
   show F.gor e (v.next (F.give e) F.taken)=_
   unfold FS.gor
   rw [if_neg h7,if_pos h8]
   show setN (setN F.gs v.g _) _ _=setN (setN F.gs e.g.toNat _) _ _
   rw [hvg]) (sm_own_next h0) rfl
  rw [hug,hca] at hcu
  exact ⟨(ku,u.tm,u.pl,tyu),ub,⟨hbe,hcu⟩,w6,r1,⟨L2,_,hLB,hF6,⟨ty,(hb6.block vb (lt_heap hh) hgm).trans hh⟩,hT.but hb6 (fun k e9 _ e8=>by rw [e9,hF.lg] at e8;cases e8) (LEx.refl _ _)⟩,hb6.mono (fun k e9=>.inl ⟨.gm,by rw [e9];exact H.fm.lg,trivial⟩)⟩
 ·rintro x w' ⟨V,w5,p,rfl,⟨L2,fg',hLB,hF,_,hT⟩,hb,hb2⟩
  exact tk_end rfl hT hF hLB (but_lb (S:=fun _=>False) hb) hb2
theorem Take_any (H:TkH pl L w fb gm om N K F fg fo e v) :
  Calls Tryz.prog 31 #[.pointer (some ⟨fb,0,none⟩),.agg (evA e.g e.k e.o e.a sk)] w (TkR pl L w fb gm om N K F e v):=by
 by_cases h7:e.k=7
 ·exact take_fork H h7
 by_cases h8:e.k=8
 ·exact take_join H h8
 by_cases h0:srt e.k=0
 ·exact take_no H h0 h7 h8
 ·exact take_sort H h0
end
end Go.Proofs.YtimgkhdgliojgaaGreatDoor
namespace Go.Proofs.YtimgkhdgliojgaaGreatDoor
open Go.RowKit Go.Maps
structure FN (pl:Nat→Int→Int) (w0 w:World) (L:LF) (fb gm om:Nat) (fg:Int→Option Value) (fo:Int→Int→Option Value):Prop where
 fm:∀ w2 L',Below w.heap.size w w2→(∀ k l,L k=some l→L' k=some l)→Llt L' w2→FM pl L' w2 fb gm om 1 0 FS.new fg fo
 nw:∀ k l,L k=some l→w0.heap.size≤k
 lt:Llt L w
section
theorem new_mem (pl:Nat→Int→Int) (w:World):∃ w3,(Instr.mapUpdate 120 (.map (some w.heap.size)) (.int .u16 0) (.pointer (some ⟨w.heap.size+1,0,none⟩))).run Tryz.prog ((w.alloc (.map #[] 0)).alloc (.cells #[.pointer none,.int .i32 0,.int .i32 0,.int .u16 0] 76))=.ok () w3∧∃ L fg fo,FN pl w ((w3.alloc (.map #[] 0)).alloc (.cells #[.int .i32 0,.map (some w.heap.size),.map (some w3.heap.size)] 123)) L (w3.heap.size+1) w.heap.size w3.heap.size fg fo∧Below w.heap.size w ((w3.alloc (.map #[] 0)).alloc (.cells #[.int .i32 0,.map (some w.heap.size),.map (some w3.heap.size)] 123)):=by
 have hm0:=HM.made w 74 .u16 (.pointer none)
 obtain ⟨W2,hW2⟩:∃ W2,W2=(w.alloc (.map #[] 0)).alloc (.cells #[.pointer none,.int .i32 0,.int .i32 0,.int .u16 0] 76):=⟨_,rfl⟩
 have hb12:Below (w.alloc (.map #[] 0)).heap.size (w.alloc (.map #[] 0)) W2:=by rw [hW2];exact below_alloc1 _ _
 have hv2:W2.heap[w.heap.size+1]?=some (.cells (vC (.pointer none) 0 0 0) 76 (0,0)):=by rw [hW2];exact heap_newS (by simp)
 have hs2:W2.heap.size=w.heap.size+2:=by rw [hW2];simp
 have hbw2:Below w.heap.size w W2:=by rw [hW2];exact below_alloc2 w _ _
 obtain ⟨w3,r1,r2,r3⟩:=(hm0.below hb12).put law16 Tryz.underlying120 (by unfold maxLen;omega) (key16 (g:=0) (by omega) (by omega)) (.pointer (some ⟨w.heap.size+1,0,none⟩))
 rw [← hW2]
 have hbw3:Below w.heap.size w w3:=hbw2.trans (r3.below (B:=w.heap.size) (by omega) (fun k e=>by rw [e];exact Nat.le_refl _))
 have hs3:w.heap.size+2≤w3.heap.size:=by have:=r3.size;omega
 refine ⟨w3,r1,?_⟩
 obtain ⟨n3,hn3⟩:∃ n3,n3=w3.heap.size:=⟨_,rfl⟩
 rw [← hn3]
 obtain ⟨w5,hw5⟩:∃ w5,w5=(w3.alloc (.map #[] 0)).alloc (.cells #[.int .i32 0,.map (some w.heap.size),.map (some n3)] 123):=⟨_,rfl⟩
 rw [← hw5]
 have hb35:Below w3.heap.size w3 w5:=by rw [hw5];exact below_alloc2 _ _ _
 have hsz:w5.heap.size=n3+2:=by rw [hw5,hn3];simp
 have ho5:SM w5 n3 0 (fun _ _=>none):=by
  have h1:=SM.made w3
  rw [← hn3] at h1
  rw [hw5]
  exact h1.but (S:=fun _=>False) (But.of_below (below_alloc1 _ _)) (fun e=>e)
 have hf5:w5.heap[n3+1]?=some (.cells #[.int .i32 0,.map (some w.heap.size),.map (some n3)] 123 (0,0)):=by rw [hw5];exact heap_newS (by rw [hn3];simp)
 have hv3:=(r3.block _ (lt_heap hv2) (fun e=>by have e9:w.heap.size+1=w.heap.size:=e;omega)).trans hv2
 have hv5:=(hb35.block _ (lt_heap hv3)).trans hv3
 refine ⟨fun k=>if k=w.heap.size then some .gm else if k=w.heap.size+1 then some (.vw 0) else if k=n3 then some .om else if k=n3+1 then some .top else none,_,fun _ _=>none,⟨fun w2 L' hb2 hLL hl2=>⟨hl2,hLL _ _ ?_,hLL _ _ ?_,hLL _ _ ?_,fun _=>(hb2.block _ (lt_heap hf5)).trans hf5,fun _=>(r2.below hb35).below hb2,fun _=>(ho5.up (Nat.zero_le _)).but (S:=fun _=>False) (But.of_below hb2) (fun e=>e),fun g hg hn=>?_,fun g v hv=>?_,fun s o hr hn=>?_,fun s o x hr hx=>?_⟩,fun k l hk=>?_,fun k l hk=>?_⟩,hbw3.trans (hb35.mono (by omega))⟩
 ·show (if _ then _ else _)=_
  rw [if_neg (by omega),if_neg (by omega),if_neg (by omega),if_pos rfl]
 ·exact if_pos rfl
 ·show (if _ then _ else _)=_
  rw [if_neg (by omega),if_neg (by omega),if_pos rfl]
 ·have hn:setN (fun _=>none) 0 (some (⟨zc,0,0,0⟩:Vw)) g=none:=hn
  by_cases e9:g=0
  ·subst e9;rw [setN_same] at hn;cases hn
  ·have e8:¬ (g:Int)=0:=by omega
   rw [setF_other _ _ e8]
 ·have hv:setN (fun _=>none) 0 (some (⟨zc,0,0,0⟩:Vw)) g=some v:=hv
  by_cases e9:g=0
  ·subst e9
   rw [setN_same] at hv
   cases hv
   refine ⟨by omega,rfl,w.heap.size+1,setF_same _ _ _,hLL _ _ ?_,fun _=>⟨_,_,(hb2.block _ (lt_heap hv5)).trans hv5,TL.nil _ _ _⟩⟩
   show (if _ then _ else _)=_
   rw [if_neg (by omega),if_pos rfl]
  ·rw [setN_other _ _ e9] at hv;cases hv
 ·exact ⟨fun _=>⟨rfl,rfl⟩,fun _=>rfl,fun _=>rfl,fun _=>rfl,fun _=>rfl⟩
 ·cases hx
 ·have hk:(if k=w.heap.size then some Lf.gm else if k=w.heap.size+1 then some (.vw 0) else if k=n3 then some .om else if k=n3+1 then some .top else none)=some l:=hk
  repeat' split at hk
  all_goals first|omega|(cases hk)
 ·have hk:(if k=w.heap.size then some Lf.gm else if k=w.heap.size+1 then some (.vw 0) else if k=n3 then some .om else if k=n3+1 then some .top else none)=some l:=hk
  repeat' split at hk
  all_goals first|omega|(cases hk)
theorem New_flow (pl:Nat→Int→Int) (w:World):Calls Tryz.prog 28 #[] w fun x w'=>∃ L fb gm om fg fo,x=.returned (gPtr fb)∧FN pl w w' L fb gm om fg fo∧Below w.heap.size w w':=by
 obtain ⟨w3,r1,L,fg,fo,hN,hb⟩:=new_mem pl w
 have HR:Hid (∃ L fb gm om fg fo,Ending.returned (.pointer (some ⟨w3.heap.size+1,0,none⟩))=.returned (gPtr fb)∧FN pl w ((w3.alloc (.map #[] 0)).alloc (.cells #[.int .i32 0,.map (some w.heap.size),.map (some w3.heap.size)] 123)) L fb gm om fg fo∧Below w.heap.size w ((w3.alloc (.map #[] 0)).alloc (.cells #[.int .i32 0,.map (some w.heap.size),.map (some w3.heap.size)] 123))):=hide ⟨L,_,_,_,fg,fo,rfl,hN,hb⟩
 have hmm:=@run_makeMap Tryz.prog
 clear hN hb
 go_enter Tryz.func28,Tryz.ntmps28
 go_wp2
 go_ret
 exact HR.out
end
end Go.Proofs.YtimgkhdgliojgaaGreatDoor
namespace Go.Proofs.YtimgkhdgliojgaaGreatDoor
open Go.RowKit Go.Maps
structure IsRun (es:List E6.Ev):Prop where
 len:es.length≤1048576
 chk:∀ e ∈ es,e.chk=0
 ok:∀ e ∈ es,e.ok
 run:(CS.new.run es 0).2=0
section
variable {es : List E6.Ev} {L : LF} {w : World} {fb gm om i : Nat} {fg : Int → Option Value} {fo : Int → Int → Option Value} {e : E6.Ev}
theorem IsRun.gdf (h:IsRun es):∀ e ∈ es,Gdf (me e):=fun e he=>by
 obtain ⟨h1,h2⟩:=gdm_of (h.chk e he) (h.ok e he)
 exact ⟨h1,(h.ok e he).ha.1,fun hk=>h2.fj hk⟩
noncomputable def plE (es:List E6.Ev):Nat→Int→Int:=plH (rsAt es es.length).H
theorem IsRun.rise (h:IsRun es):Rise2 (plE es):=by
 have hR:=(rs_rcf h.run h.gdf es.length (Nat.le_refl _)).1
 exact plH_rise hR.all.fi.hs hR.more
theorem IsRun.at (h:IsRun es) (hi:i≤es.length) {j:Nat} {v:Vw} (hj:(rsAt es i).H[j]?=some v):plE es v.g v.tm=(j:Int):=by
 have hR:=(rs_rcf h.run h.gdf es.length (Nat.le_refl _)).1
 refine plH_at hR.all.fi.hs ?_
 obtain ⟨h1,h2⟩:=rs_pre i es.length hi (Nat.le_refl _)
 rw [h1,List.getElem?_take] at hj
 split at hj
 ·exact hj
 ·cases hj
theorem tkh_at (h:IsRun es) (he:es[i]?=some e) (hF:FM (plE es) L w fb gm om (i+1) i (rsAt es i).F fg fo):TkH (plE es) L w fb gm om (i+1) i (rsAt es i).F fg fo (me e) ((rsAt es i).vw (me e)):=by
 have hlt:=(List.getElem?_eq_some_iff.1 he).1
 have hlen:=h.len
 have hmem:=List.mem_of_getElem? he
 obtain ⟨hR,hS⟩:=rs_rcf h.run h.gdf i (by omega)
 obtain ⟨hw,hv⟩:=hS e he
 have hI:=hR.all
 have hD:=hR.more
 have hgd:=h.gdf e hmem
 have hok:=h.ok e hmem
 obtain ⟨r,hc⟩:=why_can hw
 have hHl:(rsAt es i).H.length=i:=(rs_pre i i (Nat.le_refl _) (by omega)).2
 have hvg:=(hI.fi.gs _ _ hv).1
 have hvb:=hD.bd _ _ hv
 have hbeg:∀ g:Int,0≤g→((rsAt es i).F.gs g.toNat).isSome=true→((rsAt es i).M.gs g).isSome=true:=fun g h0 hs=>by
  rw [hI.fl.al g h0,hI.rch.lkG.al g] at hs
  rw [hI.rch.lkG.bg g]
  cases hq:bgT ((es.take i).map me) g with
  | true=>rfl
  | false=>rw [hq] at hs;cases hs
 refine ⟨h.rise,hF,hv,hgd.g,hok.ho,hok.ha,hI.ok hgd hc,fun g u hu=>?_,?_,hvb.1,by omega,by omega,fun hk=>?_,fun hk=>?_⟩
 ·obtain ⟨a1,a2,a3⟩:=hD.bd g u hu
  obtain ⟨b1,b2⟩:=hI.fi.gs g u hu
  by_cases ht:1≤u.tm
  ·obtain ⟨j,hj,hje⟩:=List.getElem_of_mem (b2.mem ht)
   have hj2:(rsAt es i).H[j]?=some u:=by rw [List.getElem?_eq_getElem hj,hje]
   have hp:=hD.pl j u hj2
   exact ⟨by rw [b1];exact hD.gb g u hu,⟨a1,by omega⟩,⟨by omega,by omega⟩,fun _=>by rw [hp];exact h.at (by omega) hj2,fun h9=>absurd ht h9⟩
  ·have hp:=a3 ht
   exact ⟨by rw [b1];exact hD.gb g u hu,⟨a1,by omega⟩,⟨by omega,by omega⟩,fun h9=>absurd h9 ht,fun _=>hp⟩
 ·have hgg:=hgd.g
  refine ⟨by rw [hvg];omega,⟨by omega,by omega⟩,⟨by omega,by rw [hI.fi.tk,hHl];omega⟩,fun _=>?_,fun h9=>by omega⟩
  have h1:(rsAt es (i+1)).H[i]?=some (((rsAt es i).vw (me e)).next ((rsAt es i).F.give (me e)) (rsAt es i).F.taken):=by
   rw [rsAt_succ he]
   show ((rsAt es i).H++[_])[i]?=_
   rw [List.getElem?_append_right (by omega),show i - (rsAt es i).H.length=0 by omega]
   rfl
  have h2:=h.at (i:=i+1) (by omega) h1
  rw [hI.fi.tk,hHl]
  exact h2
 ·obtain ⟨f1,f2⟩:=hI.fl.fork hI.rch hc hgd hk
  refine ⟨hgd.fk (.inl hk),by rw [hvg];exact f2,?_⟩
  have hn:=ask_fork hc.ask hk
  cases hq:(rsAt es i).F.gs (me e).a.toNat with
  | none=>rfl
  | some u =>
   have:=hbeg (me e).a hgd.a (by rw [hq];rfl)
   rw [hn] at this;cases this
 ·obtain ⟨q,_,ha,_⟩:=ask_join hc.ask hk
  refine ⟨hgd.fk (.inr hk),by rw [hvg];exact hc.join hgd hk,?_⟩
  have:=hI.fl.al (me e).a hgd.a
  rw [ha] at this
  exact Option.isSome_iff_exists.1 this
theorem take_run (h:IsRun es) (he:es[i]?=some e) (hF:FM (plE es) L w fb gm om (i+1) i (rsAt es i).F fg fo) {sk:Value} :
  Calls Tryz.prog 31 #[.pointer (some ⟨fb,0,none⟩),.agg (evA e.g e.k e.o e.a sk)] w fun x w'=>∃ p v L' fg' fo',(rsAt es (i+1)).H=(rsAt es i).H++[v]∧v.pl=(i:Int)∧v.g=e.g.toNat∧x=.returned (.agg #[.pointer p,.int .i32 v.tm,.int .i32 (i:Int),.int .u16 (v.g:Int)])∧TL (plE es) L' w' (.pointer p) v.kn∧FM (plE es) L' w' fb gm om (i+2) (i+1) (rsAt es (i+1)).F fg' fo'∧LEx L L' w∧But (Fl9 L) w w':=by
 have hlt:=(List.getElem?_eq_some_iff.1 he).1
 obtain ⟨hR,hS⟩:=rs_rcf h.run h.gdf i (by omega)
 obtain ⟨hw,hv⟩:=hS e he
 have hHl:(rsAt es i).H.length=i:=(rs_pre i i (Nat.le_refl _) (by omega)).2
 have htk:(rsAt es i).F.taken=i:=by rw [hR.all.fi.tk,hHl]
 have hvg:=(hR.all.fi.gs _ _ hv).1
 refine (Take_any (sk:=sk) (tkh_at h he hF)).mono ?_
 rintro x w' ⟨p,L',fg',fo',rfl,hT,hF',hL,hb⟩
 refine ⟨p,((rsAt es i).vw (me e)).next ((rsAt es i).F.give (me e)) (rsAt es i).F.taken,L',fg',fo',?_,?_,hvg,?_,hT,?_,hL,hb⟩
 ·rw [rsAt_succ he];rfl
 ·show (((rsAt es i).F.taken:Nat):Int)=_
  rw [htk]
 ·rw [htk];rfl
 ·rw [rsAt_succ he];exact hF'
end
end Go.Proofs.YtimgkhdgliojgaaGreatDoor
namespace Go.Proofs.YtimgkhdgliojgaaGreatDoor
open Go.RowKit Go.Maps
structure Vc where
 p:Option Addr
 tm:Int
 pl:Int
 g:Int
def layV:Lay Vc:=⟨fun x=>[.pointer x.p,.int .i32 x.tm,.int .i32 x.pl,.int .u16 x.g],4,by decide,fun _=>rfl,by intro a u hu;simp at hu;rcases hu with rfl|rfl|rfl|rfl <;> rfl⟩
def vcz:Vc:=⟨none,0,0,0⟩
theorem infoV:∃ i,Tryz.prog.info? 76=some i∧i.zero=some (.agg #[.pointer none,.int .i32 0,.int .i32 0,.int .u16 0])∧i.size=4∧i.bytes=24:=by
 have h:(Tryz.prog.info? 76).map (fun i=>(i.zero,i.size,i.bytes))=some (some (.agg #[.pointer none,.int .i32 0,.int .i32 0,.int .u16 0]),4,24):=by kernel_rfl
 cases hq:Tryz.prog.info? 76 with
 | none=>rw [hq] at h;cases h
 | some j=>rw [hq] at h;simp at h;exact ⟨j,rfl,h.1,h.2.1,h.2.2⟩
def vz4:Array Value:=#[.pointer none,.int .i32 0,.int .i32 0,.int .u16 0]
theorem fl_zeros:∀ n,(madeCells vz4 (n * 4)).toList=layV.fl (List.replicate n vcz)
 | 0=>by simp [madeCells,Lay.fl]
 | n+1=>by
  have ih:=fl_zeros n
  have e1:(madeCells vz4 ((n+1) * 4)).toList=(madeCells vz4 (n * 4)).toList++[vz4[(n * 4) % 4]!,vz4[(n * 4+1) % 4]!,vz4[(n * 4+2) % 4]!,vz4[(n * 4+3) % 4]!]:=by
   unfold madeCells
   rw [show (n+1) * 4=n * 4+1+1+1+1 by omega]
   simp only [Array.toList_map,Array.toList_range,List.range_succ,List.map_append,List.map_cons,List.map_nil,List.append_assoc,List.cons_append,List.nil_append]
   rfl
  rw [e1,ih,List.replicate_succ',show (n * 4) % 4=0 by omega,show (n * 4+1) % 4=1 by omega,show (n * 4+2) % 4=2 by omega,show (n * 4+3) % 4=3 by omega]
  unfold Lay.fl
  rw [List.flatMap_append]
  rfl
theorem made_views (w:World) (n:Nat) (hn:n≤1048576):(Instr.makeSlice 89 (.int .i64 (n:Int)) (.int .i64 (n:Int))).run Tryz.prog w=.ok (.slice (some ⟨w.heap.size,0,none⟩) n n) (w.alloc (.cells (madeCells vz4 (n * 4)) 76)):=by
 obtain ⟨i,hi,hz,hs,hb⟩:=infoV
 have h:=run_make (P:=Tryz.prog) w 89 76 i _ Tryz.underlying89 hi hz .i64 .i64 (n:Int) (n:Int) (by omega) (Int.le_refl _) (by rw [hb];omega) (by omega)
 rw [hs] at h
 exact h
theorem own_views (w:World) (n:Nat) (hn:n≤1048576) (base:Nat) (hb:base≤w.heap.size):Own layV 76 (w.alloc (.cells (madeCells vz4 (n * 4)) 76)) base (.slice (some ⟨w.heap.size,0,none⟩) n n) (List.replicate n vcz):=by
 unfold Own
 rw [List.length_replicate,← fl_zeros]
 refine ⟨by rw [Array.length_toList,size_madeCells];rfl,.inr ⟨w.heap.size,n,madeCells vz4 (n * 4),rfl,hb,heap_new _ _,Nat.le_refl _,by unfold maxLen;omega,size_madeCells _ _,?_⟩⟩
 rw [List.take_of_length_le (by rw [Array.length_toList,size_madeCells];exact Nat.le_refl _)]
def plc (H:List Vw) (g:Nat):List Int:=(H.filter (fun v=>v.g == g)).map (·.pl)
theorem plc_snoc (H:List Vw) (v:Vw) (g:Nat):plc (H++[v]) g=if v.g=g then plc H g++[v.pl] else plc H g:=by
 unfold plc
 rw [List.filter_append,List.map_append]
 by_cases e:v.g=g
 ·rw [if_pos e];simp [e]
 ·rw [if_neg e];simp [e]
structure OM (pl:Nat→Int→Int) (L:LF) (w:World) (ob eb pm n N:Nat) (V:List Vc) (H:List Vw) (fp:Int→Option Value):Prop where
 lo:L ob=some (.vw 70000)
 le:L eb=some (.vw 70001)
 lp:L pm=some (.vw 70002)
 hb:w.heap[ob]?=some (.cells #[.slice (some ⟨eb,0,none⟩) n n,.map (some pm)] 92 (0,0))
 ev:Own layV 76 w 0 (.slice (some ⟨eb,0,none⟩) n n) V
 vl:V.length=n
 vw:∀ (j:Nat) v,H[j]?=some v→∃ p,V[j]?=some ⟨p,v.tm,v.pl,(v.g:Int)⟩∧TL pl L w (.pointer p) v.kn
 hm:HM w 74 .u16 pm N (.slice none 0 0) fp
 pn:∀ g:Nat,g < 65536→fp (g:Int)=none→plc H g=[]
 pr:∀ (g:Nat) x,g < 65536→fp (g:Int)=some x→Win w 1 x (plc H g).length ((plc H g).map (Value.int .i32))∧∀ k,x.ownBlock=some k→L k=some (.vw (80000+g))
section
variable {pl : Nat → Int → Int} {L L' : LF} {w w' : World} {ob eb pm n N N' : Nat} {V : List Vc} {H : List Vw} {fp : Int → Option Value} {S : Nat → Prop}
theorem OM.but (h:OM pl L w ob eb pm n N V H fp) (hb:But S w w') (hS:∀ k,S k→k < w.heap.size→∃ l,L k=some l∧∀ m,70000≤m→l≠.vw m) (hL:LEx L L' w) (hl:Llt L w) (hN:N≤N'):OM pl L' w' ob eb pm n N' V H fp:=by
 have lk:∀ k l,L k=some l→L' k=some l:=fun k l hk=>(hL k (hl k l hk)).trans hk
 have no:∀ k m,70000≤m→L k=some (.vw m)→¬ S k:=fun k m hm hk hs=>by
  obtain ⟨l,h1,h2⟩:=hS k hs (hl _ _ hk)
  rw [hk] at h1
  cases h1
  exact h2 m hm rfl
 have hS2:∀ k,S k→k < w.heap.size→L k≠none:=fun k hs hk e=>by
  obtain ⟨l,h1,_⟩:=hS k hs hk
  rw [e] at h1;cases h1
 refine ⟨lk _ _ h.lo,lk _ _ h.le,lk _ _ h.lp,(hb.block ob (lt_heap h.hb) (no _ _ (by omega) h.lo)).trans h.hb,h.ev.but hb (fun k hk=>?_),h.vl,fun j v hv=>?_,(h.hm.but hb (no _ _ (by omega) h.lp)).up hN,h.pn,fun g x hg hx=>?_⟩
 ·cases hk;exact no _ _ (by omega) h.le
 ·obtain ⟨p,a,b⟩:=h.vw j v hv
  exact ⟨p,a,b.but hb hS2 hL⟩
 ·obtain ⟨a,b⟩:=h.pr g x hg hx
  exact ⟨a.but hb (fun k hk=>no _ _ (by omega) (b k hk)),fun k hk=>lk _ _ (b k hk)⟩
theorem OM.below (h:OM pl L w ob eb pm n N V H fp) (hl:Llt L w) (hb:Below w.heap.size w w'):OM pl L w' ob eb pm n N V H fp :=
 h.but (S:=fun _=>False) (But.of_below hb) (fun _ e=>e.elim) (LEx.refl _ _) hl (Nat.le_refl _)
end
end Go.Proofs.YtimgkhdgliojgaaGreatDoor
