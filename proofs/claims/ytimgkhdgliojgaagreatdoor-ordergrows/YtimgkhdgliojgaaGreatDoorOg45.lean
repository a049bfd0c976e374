import Derived.Test.YtimgkhdgliojgaaGreatDoorOg44
import Derived.Deep.DeepCutAuto
set_option maxRecDepth 8000
set_option maxHeartbeats 8000000
set_option linter.unusedVariables false
namespace Go.Proofs.YtimgkhdgliojgaaGreatDoor
open Go.RowKit Go.Maps
def Bw (a b:World):Prop:=Below a.heap.size a b
theorem bw_refl (a:World):Bw a a:=Below.refl _ _
theorem bw_alloc {a b:World} (h:Bw a b) (o:Obj):Bw a (b.alloc o):=h.trans ((below_alloc1 b o).mono h.size)
theorem bw_drew {a b:World} (h:Bw a b):Bw a b.drew:=h.drew
theorem bw_call {a b c:World} (h:Bw a b) (k:Below b.heap.size b c):Bw a c:=h.trans (k.mono h.size)
theorem sz_alloc (a:World) (o:Obj):(a.alloc o).heap.size=a.heap.size+1:=by simp
theorem sz_drew (a:World):a.drew.heap.size=a.heap.size:=rfl
def BS (es:List E6.Ev) (w1:World) (n ob eb pm fb gm om j:Nat) (wr:World):Prop :=
 ∃ L fg fo V fp,FM (plE es) L wr fb gm om (j+1) j (rsAt es j).F fg fo∧OM (plE es) L wr ob eb pm n j V (rsAt es j).H fp∧Below w1.heap.size w1 wr∧∀ k l,L k=some l→w1.heap.size≤k
theorem BS.bel {es:List E6.Ev} {w1 wr:World} {n ob eb pm fb gm om j:Nat} (h:BS es w1 n ob eb pm fb gm om j wr):Below w1.heap.size w1 wr:=by
 obtain ⟨_,_,_,_,_,_,_,h,_⟩:=h
 exact h
theorem BS.on {es:List E6.Ev} {w1 wr w2:World} {n ob eb pm fb gm om j:Nat} (h:BS es w1 n ob eb pm fb gm om j wr) (hb:Below wr.heap.size wr w2):BS es w1 n ob eb pm fb gm om j w2:=by
 obtain ⟨L,fg,fo,V,fp,a,b,c,d⟩:=h
 exact ⟨L,fg,fo,V,fp,a.below (fun _ _ _ e _=>e) hb,b.below a.lt hb,bw_call c hb,d⟩
def BT (es:List E6.Ev) (w1:World) (n ob eb pm fb gm om j:Nat) (p:Option Addr) (v:Vw) (wr:World):Prop :=
 ∃ L fg fo V fp,FM (plE es) L wr fb gm om (j+2) (j+1) (rsAt es (j+1)).F fg fo∧OM (plE es) L wr ob eb pm n j V (rsAt es j).H fp∧TL (plE es) L wr (.pointer p) v.kn∧(rsAt es (j+1)).H=(rsAt es j).H++[v]∧v.pl=(j:Int)∧v.g < 65536∧Below w1.heap.size w1 wr∧∀ k l,L k=some l→w1.heap.size≤k
theorem BS.take {es:List E6.Ev} {w1 wr:World} {n ob eb pm fb gm om j:Nat} {e:E6.Ev} {sk:Value} (hR:IsRun es) (he:es[j]?=some e) (h:BS es w1 n ob eb pm fb gm om j wr) :
  Calls Tryz.prog 31 #[.pointer (some ⟨fb,0,none⟩),.agg (evA e.g e.k e.o e.a sk)] wr fun x w2=>∃ p v,x=.returned (.agg #[.pointer p,.int .i32 v.tm,.int .i32 (j:Int),.int .u16 (v.g:Int)])∧BT es w1 n ob eb pm fb gm om j p v w2:=by
 obtain ⟨L,fg,fo,V,fp,a,b,c,d⟩:=h
 refine (take_run hR he a).mono ?_
 rintro x w2 ⟨p,v,L',fg',fo',h1,h2,h3,rfl,h5,h6,h7,h8⟩
 have hgd:=(hR.gdf e (List.mem_of_getElem? he)).g
 have hgd:0≤e.g∧e.g≤65535:=hgd
 refine ⟨p,v,rfl,L',fg',fo',V,fp,h6,b.but h8 (fun k hk _=>?_) h7 a.lt (Nat.le_refl _),h5,h1,h2,by rw [h3];omega,c.trans (h8.below c.size (fun k hk=>?_)),fun k l hk=>?_⟩
 ·obtain ⟨l,a1,a2⟩:=hk
  refine ⟨l,a1,fun m hm e9=>?_⟩
  rw [e9] at a2
  have a2:m < 65536:=a2
  omega
 ·obtain ⟨l,a1,_⟩:=hk
  exact d k l a1
 ·by_cases hlt:k < wr.heap.size
  ·rw [h7 k hlt] at hk;exact d k l hk
  ·have:=c.size;omega
theorem FX.drop6 {pl:Nat→Int→Int} {L:LF} {w:World} {fb gm om N K:Nat} {F:FS} {fg:Int→Option Value} {fo:Int→Int→Option Value} (h:FX (fun l=>∃ m,65536≤m∧l=.vw m) pl L w fb gm om N K F fg fo):FM pl L w fb gm om N K F fg fo:=by
 refine ⟨h.lt,h.lf,h.lg,h.lo,fun _=>h.top (by simp),fun _=>h.hg (by simp),fun _=>h.ho (by simp),h.gn,fun g v hv=>?_,h.on,fun s o x hr hx=>?_⟩
 ·obtain ⟨a1,a2,vb,a3,a4,a5⟩:=h.vw g v hv
  refine ⟨a1,a2,vb,a3,a4,fun _=>a5 (fun e9=>?_)⟩
  obtain ⟨m,hm,e9⟩:=e9
  injection e9 with e9
  omega
 ·obtain ⟨ob,a1,a2,a3⟩:=h.ob s o x hr hx
  exact ⟨ob,a1,a2,fun _=>a3 (by simp)⟩
theorem FM.ord {pl:Nat→Int→Int} {L L':LF} {w w':World} {fb gm om N K:Nat} {F:FS} {fg:Int→Option Value} {fo:Int→Int→Option Value} {S:Nat→Prop} (h:FM pl L w fb gm om N K F fg fo) (hb:But S w w') (hS:∀ k,S k→k < w.heap.size→∃ m,65536≤m∧L k=some (.vw m)) (hL:LEx L L' w) (hl:Llt L' w'):FM pl L' w' fb gm om N K F fg fo :=
 (h.but (Y:=fun l=>∃ m,65536≤m∧l=.vw m) (fun _ e=>e.elim) hb (fun k hk hlt=>by
  obtain ⟨m,a,b⟩:=hS k hk hlt
  exact ⟨_,b,m,a,rfl⟩) (fun s o l e9 h9=>by
  obtain ⟨m,_,e9⟩:=e9
  subst e9
  exact h9.elim) hL hl (Nat.le_refl _) (Nat.le_refl _)).drop6
def BU (es:List E6.Ev) (w1:World) (n ob eb pm fb gm om j vk:Nat) (p:Option Addr) (v:Vw) (wr:World):Prop :=
 ∃ L fg fo V fp,L vk=none∧FM (plE es) L wr fb gm om (j+2) (j+1) (rsAt es (j+1)).F fg fo∧OM (plE es) L wr ob eb pm n j V (rsAt es j).H fp∧V[j]?=some ⟨p,v.tm,(j:Int),(v.g:Int)⟩∧TL (plE es) L wr (.pointer p) v.kn∧(rsAt es (j+1)).H=(rsAt es j).H++[v]∧v.pl=(j:Int)∧v.g < 65536∧Below w1.heap.size w1 wr∧∀ k l,L k=some l→w1.heap.size≤k
theorem BT.store {es:List E6.Ev} {w1 w2 W:World} {n ob eb pm fb gm om j:Nat} {p:Option Addr} {v:Vw} (hR:IsRun es) (hj:j < n) (hjn:j≤es.length) (h0:BT es w1 n ob eb pm fb gm om j p v w2) (hb0:Below w2.heap.size w2 W) :
  ∃ y0 y1 y2 y3,W.cell? ⟨ob,0,none⟩=some (.slice (some ⟨eb,0,none⟩) n n)∧W.cell? ⟨eb,j * 4,none⟩=some (.pointer y0)∧W.cell? ⟨eb,j * 4+1,none⟩=some (.int .i32 y1)∧W.cell? ⟨eb,j * 4+2,none⟩=some (.int .i32 y2)∧W.cell? ⟨eb,j * 4+3,none⟩=some (.int .u16 y3)∧(∀ k,W.frozen? ⟨eb,k,none⟩=false)∧ob≠eb∧BU es w1 n ob eb pm fb gm om j w2.heap.size p v ((((W.setCell ⟨eb,j * 4,none⟩ (.pointer p)).setCell ⟨eb,j * 4+1,none⟩ (.int .i32 v.tm)).setCell ⟨eb,j * 4+2,none⟩ (.int .i32 (j:Int))).setCell ⟨eb,j * 4+3,none⟩ (.int .u16 (v.g:Int))):=by
 obtain ⟨L,fg,fo,V,fp,a0,b0,c0,d,e,f,g0,i⟩:=h0
 have hvk:L w2.heap.size=none:=no_lab a0.lt (Nat.le_refl _)
 have a:=a0.below (fun _ _ _ e _=>e) hb0
 have b:=b0.below a0.lt hb0
 have c:=c0.bel hb0
 have g:=bw_call g0 hb0
 obtain ⟨x,hx⟩:∃ x,V[j]?=some x:=⟨V[j]'(by rw [b.vl];exact hj),List.getElem?_eq_getElem _⟩
 have k0:=b.ev.cell hx 0 rfl
 have k1:=b.ev.cell hx 1 rfl
 have k2:=b.ev.cell hx 2 rfl
 have k3:=b.ev.cell hx 3 rfl
 have hne:ob≠eb:=fun e9=>by have:=b.lo;rw [e9,b.le] at this;cases this
 have hO:=Own.set b.ev b.vl (i:=j) (by rw [b.vl];exact hj) ⟨p,v.tm,(j:Int),(v.g:Int)⟩
 have hB:But (fun k=>k=eb) W ((((W.setCell ⟨eb,j * 4,none⟩ (.pointer p)).setCell ⟨eb,j * 4+1,none⟩ (.int .i32 v.tm)).setCell ⟨eb,j * 4+2,none⟩ (.int .i32 (j:Int))).setCell ⟨eb,j * 4+3,none⟩ (.int .u16 (v.g:Int))):=But.setC (j:=j * 4) [.pointer p,.int .i32 v.tm,.int .i32 (j:Int),.int .u16 (v.g:Int)] (But.refl (fun k=>k=eb) W) (fun _=>rfl)
 have hS2:∀ k,k=eb→k < W.heap.size→L k≠none:=fun k e9 _ e8=>by rw [e9,b.le] at e8;cases e8
 have no:∀ k l,L k=some l→l≠.vw 70001→¬ k=eb:=fun k l hk hl e9=>by rw [e9,b.le] at hk;exact hl (Option.some.inj hk).symm
 have hlen:(rsAt es j).H.length=j:=(rs_pre j j (Nat.le_refl _) hjn).2
 refine ⟨_,_,_,_,cell_at b.hb rfl,k0,k1,k2,k3,fun k=>b.ev.frozen k,hne,L,fg,fo,V.set j ⟨p,v.tm,(j:Int),(v.g:Int)⟩,fp,hvk,FM.ord a hB (fun k e9 _=>⟨70001,by omega,by rw [e9];exact b.le⟩) (LEx.refl _ _) (a.lt.on hB.size),⟨b.lo,b.le,b.lp,(hB.block ob (lt_heap b.hb) hne).trans b.hb,hO,by rw [List.length_set];exact b.vl,fun q u hu=>?_,b.hm.but hB (no _ _ b.lp (by simp)),b.pn,fun g9 x9 hg9 hx9=>?_⟩,?_,c.but hB hS2 (LEx.refl _ _),d,e,f,g.trans (hB.below g.size (fun k e9=>?_)),i⟩
 ·obtain ⟨p9,h1,h2⟩:=b.vw q u hu
  have hq:q < j:=by rw [← hlen];exact (List.getElem?_eq_some_iff.1 hu).1
  exact ⟨p9,by rw [List.getElem?_set_ne (by omega)];exact h1,h2.but hB hS2 (LEx.refl _ _)⟩
 ·obtain ⟨h1,h2⟩:=b.pr g9 x9 hg9 hx9
  exact ⟨h1.but hB (fun k hk=>no _ _ (h2 k hk) (by intro e9;injection e9 with e9;omega)),h2⟩
 ·exact List.getElem?_set_self (by rw [b.vl];exact hj)
 ·rw [e9];exact i _ _ b.le
theorem BU.on {es:List E6.Ev} {w1 wr w2:World} {n ob eb pm fb gm om j vk:Nat} {p:Option Addr} {v:Vw} (h:BU es w1 n ob eb pm fb gm om j vk p v wr) (hb:Below wr.heap.size wr w2):BU es w1 n ob eb pm fb gm om j vk p v w2:=by
 obtain ⟨L,fg,fo,V,fp,z,a,b,y,c,d,e,f,g,i⟩:=h
 exact ⟨L,fg,fo,V,fp,z,a.below (fun _ _ _ e _=>e) hb,b.below a.lt hb,y,c.bel hb,d,e,f,bw_call g hb,i⟩
theorem info_i32:∃ i,Tryz.prog.info? 21=some i∧i.zero=some (.int .i32 0)∧i.size=1∧i.bytes=4:=by
 have h:(Tryz.prog.info? 21).map (fun i=>(i.zero,i.size,i.bytes))=some (some (.int .i32 0),1,4):=by kernel_rfl
 cases hq:Tryz.prog.info? 21 with
 | none=>rw [hq] at h;cases h
 | some j=>rw [hq] at h;simp at h;exact ⟨j,rfl,h.1,h.2.1,h.2.2⟩
theorem BU.places {es:List E6.Ev} {w1 W:World} {n ob eb pm fb gm om j vk:Nat} {p:Option Addr} {v:Vw} (hR:IsRun es) (hjn:j < es.length) (hvk:vk < W.heap.size) (h:BU es w1 n ob eb pm fb gm om j vk p v W) :
  ∃ xa xn xc,W.cell? ⟨ob,1,none⟩=some (.map (some pm))∧(∀ X,Below W.heap.size W X→(Instr.lookup 90 (.map (some pm)) (.int .u16 (v.g:Int)) false).run Tryz.prog X=.ok (.slice xa xn xc) X) ∧
   ∃ va vn vc w2 w3,(Builtin.append_ #[93,93] 93 #[.slice xa xn xc,.slice (some ⟨W.heap.size,0,none⟩) 1 1]).run Tryz.prog (W.alloc (.cells #[.int .i32 (j:Int)] 21)).drew=.ok (.slice va vn vc) w2∧(Instr.mapUpdate 90 (.map (some pm)) (.int .u16 (v.g:Int)) (.slice va vn vc)).run Tryz.prog w2=.ok () w3 ∧
    (∀ X,(X=w2∨X=w3)→∀ k,(k=ob∨k=vk)→X.heap[k]?=W.heap[k]?)∧BS es w1 n ob eb pm fb gm om (j+1) w3:=by
 obtain ⟨L,fg,fo,V,fp,hvl,a,b,hVj,c,d,e,f,g,i⟩:=h
 have hlen:=hR.len
 have hHl:(rsAt es j).H.length=j:=(rs_pre j j (Nat.le_refl _) (by omega)).2
 have hpl:(plc (rsAt es j).H v.g).length≤j:=by
  unfold plc
  rw [List.length_map]
  exact Nat.le_trans (List.length_filter_le _ _) (by omega)
 obtain ⟨i0,hi,hz,hs,hby⟩:=info_i32
 obtain ⟨x,hxv,hxw,hxo⟩:∃ x,(fp (v.g:Int)).getD (.slice none 0 0)=x∧Win W 1 x (plc (rsAt es j).H v.g).length ((plc (rsAt es j).H v.g).map (Value.int .i32))∧∀ k,x.ownBlock=some k→L k=some (.vw (80000+v.g)):=by
  cases hq:fp (v.g:Int) with
  | none =>
   refine ⟨_,rfl,?_,fun k hk=>(by cases hk)⟩
   rw [b.pn v.g f hq]
   exact Win.nil W 1
  | some y =>
   obtain ⟨h1,h2⟩:=b.pr v.g y f hq
   exact ⟨y,rfl,h1,h2⟩
 obtain ⟨xa,xn,xc,hxs⟩:∃ xa xn xc,x=.slice xa xn xc:=by
  rcases hxw.2 with ⟨e9,_⟩|⟨g9,off,cap,e9,_⟩
  ·exact ⟨_,_,_,e9⟩
  ·exact ⟨_,_,_,e9⟩
 subst hxs
 have hbA:Below W.heap.size W (W.alloc (.cells #[.int .i32 (j:Int)] 21)).drew:=(below_alloc1 W _).drew
 have hcA:(W.alloc (.cells #[.int .i32 (j:Int)] 21)).drew.heap[W.heap.size]?=some (.cells #[.int .i32 (j:Int)] 21 (0,0)):=heap_new W _
 have hnw:∀ q u,[Value.int .i32 (j:Int)][q]?=some u→(W.alloc (.cells #[.int .i32 (j:Int)] 21)).drew.cell? ((⟨W.heap.size,0,none⟩:Addr).add q)=some u:=fun q u hq=>by
  match q,hq with
  | 0,hq=>simp at hq;subst hq;rw [Addr.add_lit];exact cell_at hcA rfl
 obtain ⟨v',w2,r1,r2,r3,r4⟩:=run_append_win (P:=Tryz.prog) 93 93 21 i0 _ 4 Tryz.underlying93 hi hz hs hby rfl (by omega) (hxw.but (S:=fun _=>False) (But.of_below hbA) (fun _ _ e=>e)) ⟨W.heap.size,0,none⟩ 1 1 [.int .i32 (j:Int)] rfl hnw (by intro u hu;simp at hu;subst hu;rfl) (by unfold maxLen;omega) (by omega)
 obtain ⟨va,vn,vc,hva⟩:∃ va vn vc,v'=.slice va vn vc:=by
  rcases r2.2 with ⟨e9,_⟩|⟨g9,off,cap,e9,_⟩
  ·exact ⟨_,_,_,e9⟩
  ·exact ⟨_,_,_,e9⟩
 subst hva
 have hpx:¬ (Value.slice xa xn xc).ownBlock=some pm:=fun e9=>by have:=hxo pm e9;rw [b.lp] at this;injection this with this;injection this with this;omega
 have hW2:But (fun k=>(Value.slice xa xn xc).ownBlock=some k) W w2:=(But.of_below hbA).trans r3 (fun _ _ e=>e)
 obtain ⟨w3,s1,s2,s3⟩:=(b.hm.but hW2 hpx).put law16 Tryz.underlying90 (by unfold maxLen;omega) (key16 (g:=(v.g:Int)) (by omega) (by omega)) (.slice va vn vc)
 have hW3:But (fun k=>k=pm∨(Value.slice xa xn xc).ownBlock=some k) W w3:=(hW2.mono (fun k e9=>.inr e9)).trans s3 (fun _ _ e9=>.inl e9)
 have hlk:∀ k l,L k=some l→l≠.vw 70002→l≠.vw (80000+v.g)→¬ (k=pm∨(Value.slice xa xn xc).ownBlock=some k):=fun k l hk n1 n2 e9=>by
  rcases e9 with e9|e9
  ·rw [e9,b.lp] at hk;exact n1 (Option.some.inj hk).symm
  ·rw [hxo k e9] at hk;exact n2 (Option.some.inj hk).symm
 have hnp:¬ (vk=pm∨(Value.slice xa xn xc).ownBlock=some vk):=fun e9=>by
  rcases e9 with e9|e9
  ·rw [e9,b.lp] at hvl;cases hvl
  ·rw [hxo vk e9] at hvl;cases hvl
 have hno:¬ (ob=pm∨(Value.slice xa xn xc).ownBlock=some ob):=hlk ob _ b.lo (by simp) (by intro e9;injection e9 with e9;omega)
 have hown2:∀ k,(Value.slice va vn vc).ownBlock=some k→(Value.slice xa xn xc).ownBlock=some k∨W.heap.size+1≤k:=fun k hk=>by
  rcases r4 k hk with h9|h9
  ·exact .inl h9
  ·refine .inr (Nat.le_trans ?_ h9)
   show W.heap.size+1≤(W.alloc _).heap.size
   rw [sz_alloc];exact Nat.le_refl _
 have hL:LEx L (labB L (.slice va vn vc) (.vw (80000+v.g))) W:=fun k hk=>by
  unfold labB
  by_cases e9:(Value.slice va vn vc).ownBlock=some k
  ·rw [if_pos e9]
   rcases hown2 k e9 with h9|h9
   ·exact (hxo k h9).symm
   ·omega
  ·rw [if_neg e9]
 have lk:∀ k l,L k=some l→labB L (.slice va vn vc) (.vw (80000+v.g)) k=some l:=fun k l hk=>(hL k (a.lt k l hk)).trans hk
 have hv3:=r2.but s3 (fun k hk e9=>by
  have e9:k=pm:=e9
  rw [e9] at hk
  rcases r4 pm hk with h9|h9
  ·exact hpx h9
  ·have:=a.lt _ _ b.lp
   have h8:(W.alloc (.cells #[.int .i32 (j:Int)] 21)).drew.heap.size=W.heap.size+1:=sz_alloc _ _
   omega)
 have hl3:Llt (labB L (.slice va vn vc) (.vw (80000+v.g))) w3:=fun k l hk=>by
  unfold labB at hk
  by_cases e9:(Value.slice va vn vc).ownBlock=some k
  ·exact hv3.lt e9
  ·rw [if_neg e9] at hk;exact Nat.lt_of_lt_of_le (a.lt k l hk) hW3.size
 have hS2:∀ k,(k=pm∨(Value.slice xa xn xc).ownBlock=some k)→k < W.heap.size→L k≠none:=fun k e9 _ e8=>by
  rcases e9 with e9|e9
  ·rw [e9,b.lp] at e8;cases e8
  ·rw [hxo k e9] at e8;cases e8
 have hHs:=d
 refine ⟨xa,xn,xc,cell_at b.hb rfl,fun X hX=>?_,va,vn,vc,w2,w3,r1,s1,fun X hX k hk=>?_,labB L (.slice va vn vc) (.vw (80000+v.g)),fg,fo,V,setF fp (v.g:Int) (some (.slice va vn vc)),a.ord hW3 (fun k e9 _=>?_) hL hl3,⟨lk _ _ b.lo,lk _ _ b.le,lk _ _ b.lp,(hW3.block ob (lt_heap b.hb) hno).trans b.hb,b.ev.but hW3 (fun k hk=>?_),b.vl,fun q u hu=>?_,s2,fun g9 hg9 hn9=>?_,fun g9 x9 hg9 hx9=>?_⟩,g.trans (hW3.below g.size (fun k e9=>?_)),fun k l hk=>?_⟩
 ·have h1:=(b.hm.below hX).look law16 Tryz.underlying90 (z:=.slice none 0 0) (e:=93) (by kernel_rfl) (key16 (g:=(v.g:Int)) (by omega) (by omega))
  rw [hxv] at h1;exact h1
 ·have hkl:k < W.heap.size:=by rcases hk with e9|e9;rw [e9];exact lt_heap b.hb;rw [e9];exact hvk
  have hkn:¬ (k=pm∨(Value.slice xa xn xc).ownBlock=some k):=by rcases hk with e9|e9;rw [e9];exact hno;rw [e9];exact hnp
  rcases hX with rfl|rfl
  ·exact hW2.block k hkl (fun e9=>hkn (.inr e9))
  ·exact hW3.block k hkl hkn
 ·rcases e9 with e9|e9
  ·exact ⟨70002,by omega,by rw [e9];exact b.lp⟩
  ·exact ⟨80000+v.g,by omega,hxo k e9⟩
 ·cases hk;exact hlk _ _ b.le (by simp) (by intro e9;injection e9 with e9;omega)
 ·rw [hHs] at hu
  by_cases e9:q < (rsAt es j).H.length
  ·rw [List.getElem?_append_left e9] at hu
   obtain ⟨p9,h1,h2⟩:=b.vw q u hu
   exact ⟨p9,h1,h2.but hW3 hS2 hL⟩
  ·have hq:=(List.getElem?_eq_some_iff.1 hu).1
   rw [List.length_append] at hq
   have hq:q < (rsAt es j).H.length+1:=hq
   have hqj:q=j:=by omega
   rw [List.getElem?_append_right (by omega),show q - (rsAt es j).H.length=0 by omega] at hu
   cases hu
   rw [hqj,e]
   exact ⟨p,hVj,c.but hW3 hS2 hL⟩
 ·by_cases e9:g9=v.g
  ·subst e9;rw [setF_same] at hn9;cases hn9
  ·have e8:¬ (g9:Int)=(v.g:Int):=by omega
   rw [setF_other _ _ e8] at hn9
   rw [hHs,plc_snoc,if_neg (fun q=>e9 q.symm)]
   exact b.pn g9 hg9 hn9
 ·by_cases e9:g9=v.g
  ·subst e9
   rw [setF_same] at hx9
   cases hx9
   refine ⟨?_,fun k hk=>if_pos hk⟩
   rw [hHs,plc_snoc,if_pos rfl,List.length_append,List.map_append,e]
   exact hv3
  ·have e8:¬ (g9:Int)=(v.g:Int):=by omega
   rw [setF_other _ _ e8] at hx9
   obtain ⟨h1,h2⟩:=b.pr g9 x9 hg9 hx9
   rw [hHs,plc_snoc,if_neg (fun q=>e9 q.symm)]
   exact ⟨h1.but hW3 (fun k hk=>hlk k _ (h2 k hk) (by intro q;injection q with q;omega) (by intro q;injection q with q;omega)),fun k hk=>lk _ _ (h2 k hk)⟩
 ·rcases e9 with e9|e9
  ·rw [e9];exact i _ _ b.lp
  ·exact i _ _ (hxo k e9)
 ·unfold labB at hk
  by_cases e9:(Value.slice va vn vc).ownBlock=some k
  ·rcases hown2 k e9 with h9|h9
   ·exact i _ _ (hxo k h9)
   ·have:=g.size;omega
  ·rw [if_neg e9] at hk;exact i k l hk
def B0 (es:List E6.Ev) (w1:World) (n:Nat) (so sf:Value) (wx:World):Prop :=
 ∃ L ob eb pm fb gm om fg fo,so=.pointer (some ⟨ob,0,none⟩)∧sf=.pointer (some ⟨fb,0,none⟩)∧FM (plE es) L wx fb gm om 1 0 FS.new fg fo∧OM (plE es) L wx ob eb pm n 0 (List.replicate n vcz) [] (fun _=>none)∧Below w1.heap.size w1 wx∧∀ k l,L k=some l→w1.heap.size≤k
theorem b0_of {es:List E6.Ev} {w1 X w8 wx:World} {n ob eb pm fb gm om:Nat} {L:LF} {fg:Int→Option Value} {fo:Int→Int→Option Value} (hN:FN (plE es) X w8 L fb gm om fg fo) (h1:Bw w1 X) (h8:Below X.heap.size X w8) (hx:Bw w8 wx)
  (ho:wx.heap[ob]?=some (.cells #[.slice (some ⟨eb,0,none⟩) n n,.map (some pm)] 92 (0,0))) (hO:Own layV 76 wx 0 (.slice (some ⟨eb,0,none⟩) n n) (List.replicate n vcz)) (hM:HM wx 74 .u16 pm 0 (.slice none 0 0) (fun _=>none))
  (d1:w1.heap.size≤ob∧(ob < X.heap.size∨w8.heap.size≤ob)) (d2:w1.heap.size≤eb∧(eb < X.heap.size∨w8.heap.size≤eb)) (d3:w1.heap.size≤pm∧(pm < X.heap.size∨w8.heap.size≤pm)) (n1:ob≠eb) (n2:ob≠pm) (n3:eb≠pm) :
  B0 es w1 n (.pointer (some ⟨ob,0,none⟩)) (gPtr fb) wx:=by
 have hfree:∀ k,(k < X.heap.size∨w8.heap.size≤k)→L k=none:=fun k hk=>by
  cases hq:L k with
  | none=>rfl
  | some l =>
   have a:=hN.nw k l hq
   have b:=hN.lt k l hq
   omega
 have hob:=lt_heap ho
 have heb:eb < wx.heap.size:=(hO.lt eb rfl).2
 have hpm:=hM.lt
 have h18:w1.heap.size≤X.heap.size:=h1.size
 have hx8:w8.heap.size≤wx.heap.size:=hx.size
 refine ⟨fun k=>if k=ob then some (.vw 70000) else if k=eb then some (.vw 70001) else if k=pm then some (.vw 70002) else L k,ob,eb,pm,fb,gm,om,fg,fo,rfl,rfl,hN.fm wx _ hx (fun k l hk=>?_) (fun k l hk=>?_),⟨if_pos rfl,?_,?_,ho,hO,List.length_replicate,fun j v hv=>(by cases hv),hM,fun g _ _=>rfl,fun g x _ hx9=>(by cases hx9)⟩,bw_call h1 (bw_call h8 hx),fun k l hk=>?_⟩
 ·show (if _ then _ else _)=_
  have z1:¬ k=ob:=fun e=>by rw [e,hfree ob d1.2] at hk;cases hk
  have z2:¬ k=eb:=fun e=>by rw [e,hfree eb d2.2] at hk;cases hk
  have z3:¬ k=pm:=fun e=>by rw [e,hfree pm d3.2] at hk;cases hk
  rw [if_neg z1,if_neg z2,if_neg z3];exact hk
 ·have hk:(if k=ob then some (Lf.vw 70000) else if k=eb then some (.vw 70001) else if k=pm then some (.vw 70002) else L k)=some l:=hk
  repeat' split at hk
  ·omega
  ·omega
  ·omega
  ·have:=hN.lt k l hk;omega
 ·show (if _ then _ else _)=_
  rw [if_neg (fun e=>n1 e.symm),if_pos rfl]
 ·show (if _ then _ else _)=_
  rw [if_neg (fun e=>n2 e.symm),if_neg (fun e=>n3 e.symm),if_pos rfl]
 ·have hk:(if k=ob then some (Lf.vw 70000) else if k=eb then some (.vw 70001) else if k=pm then some (.vw 70002) else L k)=some l:=hk
  repeat' split at hk
  ·omega
  ·omega
  ·omega
  ·have:=hN.nw k l hk;omega
theorem heap_newD {w:World} {o:Obj} {n:Nat} (h:w.heap.size=n):(w.alloc o).drew.heap[n]?=some o:=heap_newS h
theorem own_bw {a b:World} {base:Nat} {v:Value} {V:List Vc} (h:Own layV 76 a base v V) (hb:Bw a b):Own layV 76 b base v V:=h.below hb
theorem hm_bw {a b:World} {m N:Nat} {z:Value} {f:Int→Option Value} (h:HM a 74 .u16 m N z f) (hb:Bw a b):HM b 74 .u16 m N z f:=h.below hb
def OB (es:List E6.Ev) (w w':World) (ob:Nat):Prop:=∃ w1 eb pm fb gm om,Below w.heap.size w w1∧BS es w1 es.length ob eb pm fb gm om es.length w'
section
variable {w : World} {es : List E6.Ev}
theorem build_run (ad:Option Addr) (n c:Nat) (hK:E6.Kr w) (hr:E6.ERow w ad n es) (hok:∀ e ∈ es,e.ok) (hn:(n:Int)≤9223372036854775806) (h:IsRun es) (hV:runV es=(-1,0,0)) :
  Calls Tryz.prog 17 #[.slice ad n c] w fun x w'=>∃ ob,x=.returned (.tuple #[gPtr ob,.int .i64 (-1),.int .i64 0])∧OB es w w' ob:=by
 have HR:Hid (Calls Tryz.prog 39 #[.slice ad n c] w fun r w'=>r=.returned (.tuple #[.int .i64 (-1),.int .i64 0,.int .i64 0])∧Below w.heap.size w w'):=hide (by have h9:=Run_any ad n c es w hK hr hok hn;rw [hV] at h9;exact h9)
 have HN:Hid (∀ X,Calls Tryz.prog 28 #[] X fun x w'=>∃ L fb gm om fg fo,x=.returned (gPtr fb)∧FN (plE es) X w' L fb gm om fg fo∧Below X.heap.size X w'):=hide (fun X=>New_flow (plE es) X)
 have hmm:=@run_makeMap Tryz.prog
 have hn1:n≤1048576:=by have:=hr.len;have:=h.len;omega
 have hms:∀ X:World,(Instr.makeSlice 89 (.int .i64 (n:Int)) (.int .i64 (n:Int))).run Tryz.prog X=.ok (.slice (some ⟨X.heap.size,0,none⟩) n n) (X.alloc (.cells (madeCells vz4 (n * 4)) 76)):=fun X=>made_views X n hn1
 have HOw:Hid (∀ X:World,Own layV 76 (X.alloc (.cells (madeCells vz4 (n * 4)) 76)) 0 (.slice (some ⟨X.heap.size,0,none⟩) n n) (List.replicate n vcz)):=hide (fun X=>own_views X n hn1 0 (Nat.zero_le _))
 go_enter Tryz.func17,Tryz.ntmps17
 go_wp2_with fail
 refine HR.out.mono ?_
 rintro e1 w1 ⟨rfl,hb1⟩
 have HB1:=hide hb1
 clear hb1 HR
 go_upto_region 6 with fail
 go_cut [8,9] (fun so sf wx=>B0 es w1 n so sf wx)
 case first =>
  go_region_held3 (fun X=>True)
   (trivial)
   (first
    | (go_at_call 28;go_must (refine (HN.out _).mono ?_;rintro e8 w8 ⟨L,fb,gm,om,fg,fo,rfl,hFN,hb8⟩)))
  all_goals go_wp2_with fail
  all_goals go_meet
  all_goals
   have s8:=hb8.size
   try simp only [sz_alloc,sz_drew] at s8
   first
    | refine b0_of hFN ?_ hb8 ?_ (heap_newS ?_) ?_ ?_ ?_ ?_ ?_ ?_ ?_ ?_
    | refine b0_of hFN ?_ hb8 ?_ ((hb8.block _ ?_).trans (heap_newD ?_)) ?_ ?_ ?_ ?_ ?_ ?_ ?_ ?_
   all_goals first
    | ((repeat (first|exact bw_refl _|refine bw_drew ?_|refine bw_alloc ?_ _));done)
    | (have h9:=HOw.out w1;refine own_bw h9 ?_;((repeat (first|exact bw_refl _|refine bw_drew ?_|refine bw_alloc ?_ _|refine bw_call ?_ hb8));done))
    | (have h9:=HOw.out (w1.alloc (.map #[] 0));rw [sz_alloc] at h9;refine own_bw h9 ?_;((repeat (first|exact bw_refl _|refine bw_drew ?_|refine bw_alloc ?_ _|refine bw_call ?_ hb8));done))
    | (have h9:=HOw.out w8;refine own_bw h9 ?_;((repeat (first|exact bw_refl _|refine bw_drew ?_|refine bw_alloc ?_ _|refine bw_call ?_ hb8));done))
    | (have h9:=HOw.out (w8.alloc (.map #[] 0));rw [sz_alloc] at h9;refine own_bw h9 ?_;((repeat (first|exact bw_refl _|refine bw_drew ?_|refine bw_alloc ?_ _|refine bw_call ?_ hb8));done))
    | (have h9:=HM.made w1 74 .u16 (.slice none 0 0);refine hm_bw h9 ?_;((repeat (first|exact bw_refl _|refine bw_drew ?_|refine bw_alloc ?_ _|refine bw_call ?_ hb8));done))
    | (have h9:=HM.made (w1.alloc (.cells (madeCells vz4 (n * 4)) 76)) 74 .u16 (.slice none 0 0);rw [sz_alloc] at h9;refine hm_bw h9 ?_;((repeat (first|exact bw_refl _|refine bw_drew ?_|refine bw_alloc ?_ _|refine bw_call ?_ hb8));done))
    | (have h9:=HM.made w8 74 .u16 (.slice none 0 0);refine hm_bw h9 ?_;((repeat (first|exact bw_refl _|refine bw_drew ?_|refine bw_alloc ?_ _|refine bw_call ?_ hb8));done))
    | (have h9:=HM.made (w8.alloc (.cells (madeCells vz4 (n * 4)) 76)) 74 .u16 (.slice none 0 0);rw [sz_alloc] at h9;refine hm_bw h9 ?_;((repeat (first|exact bw_refl _|refine bw_drew ?_|refine bw_alloc ?_ _|refine bw_call ?_ hb8));done))
    | omega
    | (simp only [sz_alloc,sz_drew];omega)
    | simp only [sz_alloc]
 case rest =>
 obtain ⟨L0,ob,eb,pm,fb,gm,om,fg0,fo0,rfl,rfl,hF0,hO0,hbx,hnw0⟩:=hcut
 have HS0:Hid (BS es w1 n ob eb pm fb gm om 0 wc):=hide ⟨L0,fg0,fo0,_,_,hF0,hO0,hbx,hnw0⟩
 have HRow:=hide hr
 have HRun:=hide h
 clear hF0 hO0 hbx hnw0 HN HOw hms hmm hr h hV hK
 go_wp2
 go_loopw [35] (fun i wr=>∃ (j:Nat),j≤n∧i=.int .i64 j∧BS es w1 n ob eb pm fb gm om j wr) (fun i _=>n - (intOf i).toNat)
 case atStart=>exact ⟨0,Nat.zero_le _,rfl,HS0.out⟩
 case round =>
  obtain ⟨j,hj,rfl,hst⟩:=hrel
  have HS:=hide hst
  clear hst HS0
  by_cases hlt:j < n
  ·have hjI:(j:Int) < n:=by omega
   have hrr:=(HRow.out.bel HB1.out).bel HS.out.bel
   obtain ⟨b,off,e,rfl,hej,c0,c1,c2,c3,c4,hs⟩:=hrr.at hlt
   obtain ⟨W1,hW1⟩:∃ W1,W1=wr.alloc (.cells (evA e.g e.k e.o e.a (.slice e.sa e.ls.length e.sc)) 35):=⟨_,rfl⟩
   have hb1:Below wr.heap.size wr W1:=by rw [hW1];exact below_alloc1 wr _
   have HTk:=hide (BS.take HRun.out hej (HS.out.on hb1) (sk:=.slice e.sa e.ls.length e.sc))
   rw [hW1] at HTk
   unfold evA at HTk
   have HW1:=hide hW1
   clear hrr hej hs hW1 hb1
   go_wp2_with fail
   refine HTk.out.mono ?_
   rintro x2 w2 ⟨p,v,rfl,hB2⟩
   have HB2:=hide hB2
   clear hB2 HTk HW1 c0 c1 c2 c3 c4
   obtain ⟨W3,hW3⟩:∃ W3,W3=w2.alloc (.cells (vC (.pointer p) v.tm (j:Int) (v.g:Int)) 76):=⟨_,rfl⟩
   have hb3:Below w2.heap.size w2 W3:=by rw [hW3];exact below_alloc1 _ _
   have hv3:W3.heap[w2.heap.size]?=some (.cells (vC (.pointer p) v.tm (j:Int) (v.g:Int)) 76 (0,0)):=by rw [hW3];exact heap_new _ _
   obtain ⟨y0,y1,y2,y3,o0,k0,k1,k2,k3,hfz,hne,hBU⟩:=BT.store HRun.out hlt (by have:=HRow.out.len;omega) HB2.out hb3
   obtain ⟨v0,v1,v2,v3,vl⟩:=vc_cells hv3
   have ol:=World.block_lt_of_cell? W3 _ o0
   have el:=World.block_lt_of_cell? W3 _ k0
   have z0:=hfz (j * 4)
   have z1:=hfz (j * 4+1)
   have z2:=hfz (j * 4+2)
   have z3:=hfz (j * 4+3)
   have hneb:¬ w2.heap.size=eb:=fun e9=>by
    have:=HB2.out
    obtain ⟨L9,_,_,_,_,a9,b9,_⟩:=this
    have:=a9.lt _ _ b9.le
    omega
   have HV3:=hide hv3
   have HBU:=hide hBU
   have hj0:(0:Int)≤(j:Int):=by omega
   have hj1:(j:Int) < (n:Int):=by omega
   have HSK:Hid (∀ X,But (fun k=>k=eb) W3 X→X.cell? ⟨ob,0,none⟩=some (.slice (some ⟨eb,0,none⟩) n n)∧X.cell? ⟨w2.heap.size,0,none⟩=some (.pointer p)∧X.cell? ⟨w2.heap.size,1,none⟩=some (.int .i32 v.tm)∧X.cell? ⟨w2.heap.size,2,none⟩=some (.int .i32 (j:Int))∧X.cell? ⟨w2.heap.size,3,none⟩=some (.int .u16 (v.g:Int))):=hide (fun X hX=>⟨cell_but o0 hX hne,cell_but v0 hX hneb,cell_but v1 hX hneb,cell_but v2 hX hneb,cell_but v3 hX hneb⟩)
   have HK5:Hid (But (fun k=>k=eb) W3 ((((W3.setCell ⟨eb,j * 4,none⟩ (.pointer p)).setCell ⟨eb,j * 4+1,none⟩ (.int .i32 v.tm)).setCell ⟨eb,j * 4+2,none⟩ (.int .i32 (j:Int))).setCell ⟨eb,j * 4+3,none⟩ (.int .u16 (v.g:Int))).drew):=hide (But.setC (j:=j * 4) [.pointer p,.int .i32 v.tm,.int .i32 (j:Int),.int .u16 (v.g:Int)] (But.refl (fun k=>k=eb) W3) (fun _=>rfl)).drew
   unfold vC at hW3
   have HW3:=hide hW3
   clear hv3 hb3 hBU hfz hW3
   go_wp2_with fail
   rw [← HW3.out]
   clear HW3
   go_region_held3 (fun X=>X.cell? ⟨ob,0,none⟩=some (.slice (some ⟨eb,0,none⟩) n n)∧X.cell? ⟨w2.heap.size,0,none⟩=some (.pointer p)∧X.cell? ⟨w2.heap.size,1,none⟩=some (.int .i32 v.tm)∧X.cell? ⟨w2.heap.size,2,none⟩=some (.int .i32 (j:Int))∧X.cell? ⟨w2.heap.size,3,none⟩=some (.int .u16 (v.g:Int)))
    (first|with_reducible exact HSK.out _ (But.refl _ _)|with_reducible exact HSK.out _ (But.refl _ _).drew|with_reducible exact HSK.out _ HK5.out)
    (fail)
   obtain ⟨W4,hW4⟩:∃ W4,W4=((((W3.setCell ⟨eb,j * 4,none⟩ (.pointer p)).setCell ⟨eb,j * 4+1,none⟩ (.int .i32 v.tm)).setCell ⟨eb,j * 4+2,none⟩ (.int .i32 (j:Int))).setCell ⟨eb,j * 4+3,none⟩ (.int .u16 (v.g:Int))).drew:=⟨_,rfl⟩
   have hK4:But (fun k=>k=eb) W3 W4:=by rw [hW4];exact HK5.out
   have hv4:=(hK4.block _ (lt_heap HV3.out) hneb).trans HV3.out
   have hB4:BU es w1 n ob eb pm fb gm om j w2.heap.size p v W4:=by rw [hW4];exact HBU.out.on (Below.refl _ _).drew
   rw [← hW4]
   obtain ⟨xa,xn,xc,m1,hlk,va,vn,vc,w5,w6,happ,hput,hsame,hBS⟩:=hB4.places HRun.out (by have:=HRow.out.len;omega) (lt_heap hv4)
   have HBS:=hide hBS
   have HSp:Hid (∀ X,(X=W4.drew∨X=(W4.alloc (.cells #[.int .i32 (j:Int)] 21)).drew∨X=w5∨X=w6)→(fun X=>X.cell? ⟨ob,1,none⟩=some (.map (some pm))∧X.cell? ⟨w2.heap.size,2,none⟩=some (.int .i32 (j:Int))∧X.cell? ⟨w2.heap.size,3,none⟩=some (.int .u16 (v.g:Int))) X):=hide (fun X hX=>by
    have ho4:∃ cs ty,W4.heap[ob]?=some (.cells cs ty (0,0))∧cs[1]?=some (.map (some pm)):=by
     obtain ⟨L9,fg9,fo9,V9,fp9,_,_,b9,_⟩:=hB4
     exact ⟨_,_,b9.hb,rfl⟩
    obtain ⟨cs,ty,ho,hc⟩:=ho4
    have hX2:X.heap[ob]?=W4.heap[ob]?∧X.heap[w2.heap.size]?=W4.heap[w2.heap.size]?:=by
     rcases hX with e9|e9|e9|e9
     ·rw [e9];exact ⟨rfl,rfl⟩
     ·rw [e9];exact ⟨(below_alloc1 W4 _).block ob (lt_heap ho),(below_alloc1 W4 _).block _ (lt_heap hv4)⟩
     ·exact ⟨hsame X (.inl e9) ob (.inl rfl),hsame X (.inl e9) _ (.inr rfl)⟩
     ·exact ⟨hsame X (.inr e9) ob (.inl rfl),hsame X (.inr e9) _ (.inr rfl)⟩
    obtain ⟨_,_,q2,q3,_⟩:=vc_cells (hX2.2.trans hv4)
    exact ⟨cell_at (hX2.1.trans ho) hc,q2,q3⟩)
   have hl0:=hlk W4.drew (Below.refl _ _).drew
   have hl1:=hlk (W4.alloc (.cells #[.int .i32 (j:Int)] 21)).drew (below_alloc1 W4 _).drew
   have HOr:=hide hBS
   clear hlk hsame hBS hB4 hK4 hv4 hW4 HBU HB2 HV3 HSK HK5 o0 k0 k1 k2 k3 v0 v1 v2 v3 vl ol el z0 z1 z2 z3 hne hneb
   generalize w2.heap.size=vk at HSp ⊢
   go_wp2_with fail
   refine wp_region_noPanic ?_
   refine wp_region_held_drew (S:=(fun X=>X.cell? ⟨ob,1,none⟩=some (.map (some pm))∧X.cell? ⟨vk,2,none⟩=some (.int .i32 (j:Int))∧X.cell? ⟨vk,3,none⟩=some (.int .u16 (v.g:Int)))) (by kernel_rfl) (HSp.out _ (.inl rfl)) (fun hHeld=>?_)
   refine wpAnyH_take (i:=0) (oi:=_) (v:=?v0) rfl (by kernel_rfl) (by kernel_rfl) (by kernel_rfl) (fun _ _ _ h=>h) (Or.inl ⟨by rfl,?y0⟩) (by assumption) ?r0
   case y0=>(intro w' hSw;(try dsimp only at hSw);go_simp;try with_reducible rfl)
   refine wpAnyH_take (i:=1) (oi:=_) (v:=?v1) rfl (by kernel_rfl) (by kernel_rfl) (by kernel_rfl) (fun _ _ _ h=>h) (Or.inl ⟨by rfl,?y1⟩) (by assumption) ?r1
   case y1=>(intro w' hSw;(try dsimp only at hSw);go_simp;try with_reducible rfl)
   refine wpAnyH_take (i:=2) (oi:=_) (v:=?v2) rfl (by kernel_rfl) (by kernel_rfl) (by kernel_rfl) (fun _ _ _ h=>h) (Or.inl ⟨by rfl,?y2⟩) (by assumption) ?r2
   case y2=>(intro w' hSw;(try dsimp only at hSw);go_simp;try with_reducible rfl)
   refine wpAnyH_take (i:=3) (oi:=_) (v:=?v3) rfl (by kernel_rfl) (by kernel_rfl) (by kernel_rfl) (fun _ _ _ h=>h) (Or.inl ⟨by rfl,?y3⟩) (by assumption) ?r3
   case y3=>(intro w' hSw;(try dsimp only at hSw);go_simp;try with_reducible rfl)
   refine wpAnyH_take (i:=4) (oi:=_) (v:=?v4) rfl (by kernel_rfl) (by kernel_rfl) (by kernel_rfl) (fun _ _ _ h=>h) (Or.inl ⟨by rfl,?y4⟩) (by assumption) ?r4
   case y4=>(intro w' hSw;(try dsimp only at hSw);go_simp;try with_reducible rfl)
   refine wpAnyH_take (i:=5) (oi:=_) (v:=?v5) rfl (by kernel_rfl) (by kernel_rfl) (by kernel_rfl) (fun _ _ _ h=>h) (Or.inl ⟨by rfl,?y5⟩) (by assumption) ?r5
   case y5=>(intro w' hSw;(try dsimp only at hSw);go_simp;try with_reducible rfl)
   refine wpAnyH_take (i:=6) (oi:=_) (v:=?v6) rfl (by kernel_rfl) (by kernel_rfl) (by kernel_rfl) (fun _ _ _ h=>h) (Or.inl ⟨by rfl,?y6⟩) (by assumption) ?r6
   case y6=>(intro w' hSw;(try dsimp only at hSw);go_simp;try with_reducible rfl)
   refine wpAnyH_take (i:=7) (oi:=_) (v:=?v7) rfl (by kernel_rfl) (by kernel_rfl) (by kernel_rfl) (fun _ _ _ h=>h) (Or.inl ⟨by rfl,?y7⟩) (by assumption) ?r7
   case y7=>(intro w' hSw;(try dsimp only at hSw);go_simp;try with_reducible rfl)
   refine wpAnyH_take (i:=8) (oi:=_) (v:=?v8) rfl (by kernel_rfl) (by kernel_rfl) (by kernel_rfl) (fun _ _ _ h=>h) (Or.inl ⟨by rfl,?y8⟩) (by assumption) ?r8
   case y8=>(intro w' hSw;(try dsimp only at hSw);go_simp;try with_reducible rfl)
   refine wpAnyH_take (i:=9) (oi:=_) (v:=?v9) rfl (by kernel_rfl) (by kernel_rfl) (by kernel_rfl) (fun _ _ _ h=>h) (Or.inl ⟨by rfl,?y9⟩) (by assumption) ?r9
   case y9=>(intro w' hSw;(try dsimp only at hSw);go_simp;try with_reducible rfl)
   refine wpAnyH_take (i:=10) (oi:=_) (v:=?v10) rfl (by kernel_rfl) (by kernel_rfl) (by kernel_rfl) (fun _ _ _ h=>h) (Or.inl ⟨by rfl,?y10⟩) (by assumption) ?r10
   case y10=>(intro w' hSw;(try dsimp only at hSw);go_simp;try with_reducible rfl)
   refine wpAnyH_take (i:=11) (oi:=_) (v:=?v11) rfl (by kernel_rfl) (by kernel_rfl) (by kernel_rfl) (fun _ _ _ h=>h) (Or.inl ⟨by rfl,?y11⟩) (by assumption) ?r11
   case y11=>(intro w' hSw;(try dsimp only at hSw);go_simp;try with_reducible rfl)
   refine wpAnyH_take (i:=13) (oi:=_) (v:=?v13) rfl (by kernel_rfl) (by kernel_rfl) (by kernel_rfl) (fun _ _ _ h=>h) (Or.inl ⟨by rfl,?y13⟩) (by assumption) ?r13
   case y13=>(intro w' hSw;(try dsimp only at hSw);go_simp;try with_reducible rfl)
   refine wpAnyH_take (i:=14) (oi:=_) (v:=?v14) rfl (by kernel_rfl) (by kernel_rfl) (by kernel_rfl) (fun _ _ _ h=>h) (Or.inl ⟨by rfl,?y14⟩) (by assumption) ?r14
   case y14=>(intro w' hSw;(try dsimp only at hSw);go_simp;try with_reducible rfl)
   refine wpAnyH_ready (rs:=[12,15]) (by kernel_rfl) (by simp) ?_
   refine AllReadyH.cons (o:=_) rfl (fun KK hKK=>?_) (AllReadyH.cons (o:=_) rfl (fun KK hKK=>?_) AllReadyH.nil)
   ·go_simp
    refine hKK.out _ _ (HSp.out _ (.inl rfl)) (fun hHeld12=>?_)
    clear hKK KK
    refine wpAnyH_ready (rs:=[15]) (by kernel_rfl) (by simp) ?_
    refine AllReadyH.cons (o:=_) rfl (fun KK hKK=>?_) AllReadyH.nil
    go_simp
    refine hKK.out _ _ (HSp.out _ (.inr (.inl rfl))) (fun hHeld15=>?_)
    clear hKK KK
    refine wpAnyH_ready (rs:=[16]) (by kernel_rfl) (by simp) ?_
    refine AllReadyH.cons (o:=_) rfl (fun KK hKK=>?_) AllReadyH.nil
    refine wp_append_run (s:=.tmp 62) (x:=.tmp 65) rfl rfl rfl happ ?_
    refine hKK.out _ _ (HSp.out _ (.inr (.inr (.inl rfl)))) (fun hHeld16=>?_)
    clear hKK KK
    refine wpAnyH_ready (rs:=[17]) (by kernel_rfl) (by simp) ?_
    refine AllReadyH.cons (o:=_) rfl (fun KK hKK=>?_) AllReadyH.nil
    go_simp
    refine hKK.out _ _ (HSp.out _ (.inr (.inr (.inr rfl)))) (fun hHeld17=>?_)
    clear hKK KK
    refine wpAnyH_done (by kernel_rfl) ?_ _
    refine NoPanic.normal ?_
    clear hHeld
    go_wp2
    exact ⟨⟨j+1,by omega,by go_num,HBS.out⟩,by simp [intOf];omega⟩
   ·go_simp
    refine hKK.out _ _ (HSp.out _ (.inr (.inl rfl))) (fun hHeld15=>?_)
    clear hKK KK
    refine wpAnyH_ready (rs:=[12]) (by kernel_rfl) (by simp) ?_
    refine AllReadyH.cons (o:=_) rfl (fun KK hKK=>?_) AllReadyH.nil
    go_simp
    refine hKK.out _ _ (HSp.out _ (.inr (.inl rfl))) (fun hHeld12=>?_)
    clear hKK KK
    refine wpAnyH_ready (rs:=[16]) (by kernel_rfl) (by simp) ?_
    refine AllReadyH.cons (o:=_) rfl (fun KK hKK=>?_) AllReadyH.nil
    refine wp_append_run (s:=.tmp 62) (x:=.tmp 65) rfl rfl rfl happ ?_
    refine hKK.out _ _ (HSp.out _ (.inr (.inr (.inl rfl)))) (fun hHeld16=>?_)
    clear hKK KK
    refine wpAnyH_ready (rs:=[17]) (by kernel_rfl) (by simp) ?_
    refine AllReadyH.cons (o:=_) rfl (fun KK hKK=>?_) AllReadyH.nil
    go_simp
    refine hKK.out _ _ (HSp.out _ (.inr (.inr (.inr rfl)))) (fun hHeld17=>?_)
    clear hKK KK
    refine wpAnyH_done (by kernel_rfl) ?_ _
    refine NoPanic.normal ?_
    clear hHeld
    go_wp2
    exact ⟨⟨j+1,by omega,by go_num,HBS.out⟩,by simp [intOf];omega⟩
  ·have hjn:j=n:=by omega
   subst hjn
   have hjI:¬ ((j:Int) < (j:Int)):=by omega
   have HF:Hid (OB es w wr ob):=hide ⟨w1,eb,pm,fb,gm,om,HB1.out,by rw [HRow.out.len];exact HS.out⟩
   go_wp2
   go_ret3
   exact ⟨ob,rfl,HF.out⟩
end
end Go.Proofs.YtimgkhdgliojgaaGreatDoor
