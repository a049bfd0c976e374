import Derived.Test.YtimgkhdgliojgaaGreatDoorOg38
import Derived.DeepKeys4
set_option maxRecDepth 8000
set_option maxHeartbeats 8000000
set_option linter.unusedVariables false
namespace Go.Proofs.YtimgkhdgliojgaaGreatDoor
open Go.RowKit Go.Maps
section
variable {pl : Nat → Int → Int} {L L' : LF} {w W wm w' : World} {v u s : Value} {S : Nat → Prop} {o : Int} {m N ob : Nat} {q : ChF} {rv cv sv ev kv : Value} {xs ys : List Value} {V : Vw} {e : Me}
theorem EL.tail {l:List Clk} (h:EL pl L w l xs):EL pl L w l.tail (xs.drop 1):=by
 cases l with
 | nil=>have h:xs=[]:=h;subst h;rfl
 | cons c l =>
  obtain ⟨u,zs,h1,_,h2⟩:=h
  subst h1;exact h2
theorem SL.tail {l:List (Nat × Clk)} (h:SL pl L w l xs):SL pl L w l.tail (xs.drop 2):=by
 cases l with
 | nil=>have h:xs=[]:=h;subst h;rfl
 | cons c l =>
  obtain ⟨u,zs,h1,_,_,h2⟩:=h
  subst h1;exact h2
theorem tail_len {α:Type} (l:List α):l.tail.length=l.length - 1:=by cases l <;> rfl
theorem win_tail {size n:Nat} (hn:0 < n) (h:Win w size v n xs):∃ g off cap,v=.slice (some ⟨g,off,none⟩) n cap∧n≤cap∧g < w.heap.size∧(∀ j u,xs[j]?=some u→w.cell? ⟨g,off+j,none⟩=some u)∧(¬ cap=1→Win w size (.slice (some ⟨g,off+size,none⟩) (n - 1) (cap - 1)) (n - 1) (xs.drop size))∧(cap=1→n=1∧Win w size (.slice (some ⟨g,off,none⟩) 0 0) (n - 1) (xs.drop size)):=by
 obtain ⟨g,off,cap,rfl,h1,h2,h3⟩:=h.ex hn
 refine ⟨g,off,cap,rfl,h1,h2,h3,fun _=>h.cut hn,fun hc=>?_⟩
 have hn1:n=1:=by omega
 refine ⟨hn1,?_⟩
 have hd:xs.drop size=[]:=List.eq_nil_of_length_eq_zero (by rw [List.length_drop,h.1,hn1,Nat.one_mul,Nat.sub_self])
 rw [hd,hn1]
 exact Win.size0 h2 size
theorem ChX.nz (h:ChX pl L w ob o N q sv ev rv cv xs ys):¬ TW L w ob:=fun h9=>by have:=h9.1;rw [h.lb] at this;cases this
theorem ChX.nzs (h:ChX pl L w ob o N q sv ev rv cv xs ys):∀ k,sv.ownBlock=some k→¬ TW L w k:=fun k hk h9=>by have:=h9.1;rw [h.so k hk] at this;cases this
theorem ChX.nze (h:ChX pl L w ob o N q sv ev rv cv xs ys):∀ k,ev.ownBlock=some k→¬ TW L w k:=fun k hk h9=>by have:=h9.1;rw [h.eo k hk] at this;cases this
theorem ChX.nso (h:ChX pl L w ob o N q sv ev rv cv xs ys):sv.ownBlock≠some ob:=fun h9=>by have:=h.so ob h9;rw [h.lb] at this;cases this
theorem ChX.neo (h:ChX pl L w ob o N q sv ev rv cv xs ys):ev.ownBlock≠some ob:=fun h9=>by have:=h.eo ob h9;rw [h.lb] at this;cases this
theorem chs (hpl:Rise2 pl) (hl:Llt L w) (h:ChX pl L w ob o N q sv ev rv cv xs ys) (hk:TL pl L w kv V.kn) (hv:Vok pl V.g V.tm V.pl) (hN:N≤1048576) (H:ChOk q e) (h10:e.k=10) :
  Calls Tryz.prog 253 #[.pointer (some ⟨ob,0,none⟩),.agg #[kv,.int .i32 V.tm,.int .i32 V.pl,.int .u16 (V.g:Int)]] w fun x w'=>x=.returned (.tuple #[])∧KR L w w' 2 o (fun L'=>ChM pl L' w' ob o (N+1) (q.keep e V)):=by
 have hn:=Nat.le_trans h.sn hN
 have hq0:q.keep e V={ q with free:=if q.unb=true then q.free else if 0 < q.free then q.free - 1 else q.free,emp:=if q.unb=true then q.emp else if 0 < q.free then q.emp else q.emp.tail,sent:=q.sent++[(V.g,V.clk)] }:=by
  unfold ChF.keep
  rw [if_neg (by omega),if_pos h10]
 rcases h.rc with ⟨hu,hr⟩|⟨hu,m,f,hr,_⟩
 ·subst hr
  by_cases hf:0 < q.free
  ·rw [show q.keep e V={ q with free:=q.free - 1,emp:=q.emp,sent:=q.sent++[(V.g,V.clk)] } from by rw [hq0];simp [hu,hf]]
   refine (send_free hpl hf h.f1 h.hb h.nz hk hv h.sw h.nzs h.nso hn).mono ?_
   rintro x w' ⟨rfl,hks⟩
   have:=h.f1
   exact ⟨rfl,ch_sent hl h hks hv.fg (by omega) (by omega) h.ew h.eo h.el h.en⟩
  ·rw [show q.keep e V={ q with free:=q.free,emp:=q.emp.tail,sent:=q.sent++[(V.g,V.clk)] } from by rw [hq0];simp [hu,hf]]
   have hlen:0 < q.emp.length:=List.length_pos_iff.2 (H.snd h10 hu hf)
   obtain ⟨qb,qo,ec,rfl,h1,h2,_,h3,h4⟩:=win_tail hlen h.ew
   have hen:q.emp.tail.length≤N:=by rw [tail_len];have:=h.en;omega
   by_cases hc:ec=1
   ·obtain ⟨h5,h6⟩:=h4 hc
    have hob:=h.hb
    rw [h5,hc] at hob
    refine (send_cut1 hpl hf hob h.nz hk hv h.sw h.nzs h.nso hn).mono ?_
    rintro x w' ⟨rfl,hks⟩
    exact ⟨rfl,ch_sent hl h hks hv.fg h.f0 h.f1 (by rw [tail_len];exact h6) (fun k e9=>h.eo k e9) h.el.tail hen⟩
   ·refine (send_cut hpl hf hlen h1 hc h.hb h.nz hk hv h.sw h.nzs h.nso hn).mono ?_
    rintro x w' ⟨rfl,hks⟩
    exact ⟨rfl,ch_sent hl h hks hv.fg h.f0 h.f1 (by rw [tail_len];exact h3 hc) (fun k e9=>h.eo k e9) h.el.tail hen⟩
 ·subst hr
  rw [show q.keep e V={ q with free:=q.free,emp:=q.emp,sent:=q.sent++[(V.g,V.clk)] } from by rw [hq0];simp [hu]]
  refine (send_unb hpl h.hb h.nz hk hv h.sw h.nzs h.nso hn).mono ?_
  rintro x w' ⟨rfl,hks⟩
  exact ⟨rfl,ch_sent hl h hks hv.fg h.f0 h.f1 h.ew h.eo h.el h.en⟩
theorem chr (hpl:Rise2 pl) (hl:Llt L w) (h:ChX pl L w ob o N q sv ev rv cv xs ys) (hk:TL pl L w kv V.kn) (hv:Vok pl V.g V.tm V.pl) (hN:N≤1048576) (H:ChOk q e) (h12:e.k=12) (ha:e.a=1) {eg ek eo:Int} :
  Calls Tryz.prog 254 #[.pointer (some ⟨ob,0,none⟩),.agg #[.int .i64 eg,.int .i64 ek,.int .u64 eo,.int .u64 1,s],.agg #[kv,.int .i32 V.tm,.int .i32 V.pl,.int .u16 (V.g:Int)]] w fun x w'=>x=.returned (.tuple #[])∧KR L w w' 2 o (fun L'=>ChM pl L' w' ob o (N+1) (q.keep e V)):=by
 have hq0:q.keep e V={ q with sent:=q.sent.tail,rcv:=if q.unb=true then setN q.rcv ((q.sent.head?.map (·.1)).getD 0) (some V.clk) else q.rcv,emp:=if q.unb=true then q.emp else if q.clo.isNone then q.emp++[V.clk] else q.emp }:=by
  unfold ChF.keep
  rw [if_neg (by omega),if_neg (by omega),if_neg (by omega),if_pos h12,if_neg (by omega)]
 have hne:=H.rcv h12 ha
 have hlen:0 < q.sent.length:=List.length_pos_iff.2 hne
 obtain ⟨qb,qo,ec,rfl,h1,h2,hcells,h3,h4⟩:=win_tail hlen h.sw
 have hsn:q.sent.tail.length≤N:=by rw [tail_len];have:=h.sn;omega
 have hsl:=h.sl
 obtain ⟨fm,hfm1,hfm2,hfm3⟩:∃ fm:Nat,fm < 65536∧(q.sent.head?.map (·.1)).getD 0=fm∧w.cell? ⟨qb,qo,none⟩=some (.int .u16 (fm:Int)):=by
  cases hem:q.sent with
  | nil=>exact absurd hem hne
  | cons p l =>
   rw [hem] at hsl
   obtain ⟨u,zs,hz,hg,_,_⟩:=hsl
   exact ⟨p.1,hg,rfl,hcells 0 _ (by rw [hz];rfl)⟩
 rw [hfm2] at hq0
 have hE:Win w 2 (.slice (some ⟨qb,qo+2,none⟩) (q.sent.length - 1) (ec - 1)) q.sent.tail.length (xs.drop 2)∨ec=1:=by
  by_cases hc:ec=1
  ·exact .inr hc
  ·rw [tail_len];exact .inl (h3 hc)
 rcases h.rc with ⟨hu,hr⟩|⟨hu,m,f,hr,hrc⟩
 ·subst hr
  rcases h.cv with ⟨hcl,hcv⟩|⟨c9,p9,hcl,hcv,hT⟩
  ·subst hcv
   rw [show q.keep e V={ q with sent:=q.sent.tail,emp:=q.emp++[V.clk] } from by rw [hq0];simp [hu,hcl]]
   have hn:=Nat.le_trans h.en hN
   by_cases hc:ec=1
   ·obtain ⟨h5,h6⟩:=h4 hc
    have hob:=h.hb
    rw [h5,hc] at hob
    refine (recv_room1 hpl h.ew h.nze h.neo hn hob h.nz hk hv hfm3).mono ?_
    rintro x w' ⟨rfl,hks⟩
    exact ⟨rfl,ch_room hl h hks (se:=q.sent.tail) (by rw [tail_len];exact h6) (fun k e9=>h.so k e9) h.sl.tail hsn⟩
   ·refine (recv_room hpl hlen h1 hc h.ew h.nze h.neo hn h.hb h.nz hk hv hfm3).mono ?_
    rintro x w' ⟨rfl,hks⟩
    exact ⟨rfl,ch_room hl h hks (se:=q.sent.tail) (by rw [tail_len];exact h3 hc) (fun k e9=>h.so k e9) h.sl.tail hsn⟩
  ·subst hcv
   rw [show q.keep e V={ q with sent:=q.sent.tail,rcv:=q.rcv,emp:=q.emp } from by rw [hq0];simp [hu,hcl]]
   have fin:∀ w' sv',But (fun j=>j=ob) w w'→w'.heap[ob]?=some (.cells #[.int .u64 q.free,sv',ev,.map none,.pointer (some p9)] 231 (0,0))→Win w 2 sv' q.sent.tail.length (xs.drop 2)→(∀ k,sv'.ownBlock=some k→L k=some (.sn o))→KR L w w' 2 o (fun L'=>ChM pl L' w' ob o (N+1) { q with sent:=q.sent.tail,rcv:=q.rcv,emp:=q.emp }):=fun w' sv' hb hh hw hso=>by
    refine ch_put hl h hb hh h.f0 h.f1 hw hso h.sl.tail (by show q.sent.tail.length≤N+1;omega) h.ew h.eo h.el (by show q.emp.length≤N+1;have:=h.en;omega) rfl rfl ?_ (Nat.le_succ N)
    exact .inr ⟨c9,p9,hcl,rfl,hT.but hb (fun k e9 _ e8=>by rw [e9,h.lb] at e8;cases e8) (LEx.refl _ _)⟩
   by_cases hc:ec=1
   ·obtain ⟨h5,h6⟩:=h4 hc
    have hob:=h.hb
    rw [h5,hc] at hob
    refine (recv_closed1 hpl hob h.nz hk hv hfm3).mono ?_
    rintro x w' ⟨rfl,hh,hb⟩
    exact ⟨rfl,fin w' _ hb hh (by rw [tail_len];exact h6) (fun k e9=>h.so k e9)⟩
   ·refine (recv_closed hpl hlen h1 hc h.hb h.nz hk hv hfm3).mono ?_
    rintro x w' ⟨rfl,hh,hb⟩
    exact ⟨rfl,fin w' _ hb hh (by rw [tail_len];exact h3 hc) (fun k e9=>h.so k e9)⟩
 ·subst hr
  rw [show q.keep e V={ q with sent:=q.sent.tail,rcv:=setN q.rcv fm (some V.clk) } from by rw [hq0];simp [hu]]
  have hml:=hl _ _ hrc.lb
  have hmo:m≠ob:=fun e9=>by have:=hrc.lb;rw [e9,h.lb] at this;cases this
  have hZm:¬ TW L w m:=fun h9=>by have:=h9.1;rw [hrc.lb] at this;cases this
  by_cases hc:ec=1
  ·obtain ⟨h5,h6⟩:=h4 hc
   have hob:=h.hb
   rw [h5,hc] at hob
   refine (recv_unb1 hpl hrc.hm hml hmo hZm (by omega) (by omega) (by omega) hob h.nz hk hv hfm3).mono ?_
   rintro x w' ⟨rfl,hks⟩
   exact ⟨rfl,ch_rcv hl h hrc hu hks (se:=q.sent.tail) (by rw [tail_len];exact h6) (fun k e9=>h.so k e9) h.sl.tail hsn⟩
  ·refine (recv_unb hpl hlen h1 hc hrc.hm hml hmo hZm (by omega) (by omega) (by omega) h.hb h.nz hk hv hfm3).mono ?_
   rintro x w' ⟨rfl,hks⟩
   exact ⟨rfl,ch_rcv hl h hrc hu hks (se:=q.sent.tail) (by rw [tail_len];exact h3 hc) (fun k e9=>h.so k e9) h.sl.tail hsn⟩
theorem ChX.below (h:ChX pl L w ob o N q sv ev rv cv xs ys) (hl:Llt L w) (hb:Below w.heap.size w W):ChX pl L W ob o N q sv ev rv cv xs ys :=
 h.but (S:=fun _=>False) (But.of_below hb) (fun _ e=>e.elim) (fun _ _ e=>e.elim) (LEx.refl _ _) hl (Nat.le_refl _)
theorem ChX.up (h:ChX pl L w ob o N q sv ev rv cv xs ys) (hl:Llt L w):ChX pl L w ob o (N+1) q sv ev rv cv xs ys :=
 h.but (S:=fun _=>False) (But.refl _ _) (fun _ e=>e.elim) (fun _ _ e=>e.elim) (LEx.refl _ _) hl (Nat.le_succ _)
theorem ch_keeps (hpl:Rise2 pl) (hl:Llt L w) (h:ChM pl L w ob o N q) (hk:TL pl L w kv V.kn) (hv:Vok pl V.g V.tm V.pl) (h1:1≤V.tm) (hN:N≤1048576) (H:ChOk q e) (ha:0≤e.a∧e.a≤18446744073709551615) :
  Calls Tryz.prog 248 #[.pointer (some ⟨ob,0,none⟩),.agg #[.int .i64 e.g,.int .i64 e.k,.int .u64 e.o,.int .u64 e.a,s],.agg #[kv,.int .i32 V.tm,.int .i32 V.pl,.int .u16 (V.g:Int)]] w fun x w'=>x=.returned (.tuple #[])∧KR L w w' 2 o (fun L'=>ChM pl L' w' ob o (N+1) (q.keep e V)):=by
 obtain ⟨sv,ev,rv,cv,xs,ys,h⟩:=h
 obtain ⟨po,rfl⟩:=hk.form
 by_cases h9:e.k=9
 ·have hqn:=H.mak h9
  rw [h9]
  have hq0:q.keep e V={ q with free:=e.a,unb:=decide (e.a=0) }:=by
   unfold ChF.keep
   rw [if_pos h9]
  rw [hq0,hqn]
  rw [hqn] at h
  have hrv:rv=.map none:=by
   rcases h.rc with ⟨_,hr⟩|⟨hu,_⟩
   ·exact hr
   ·cases hu
  subst hrv
  refine keeps_make (fun W hW=>?_)
  have hX:=h.below hl hW
  by_cases ha0:e.a=0
  ·rw [ha0]
   refine (km_unb hX.hb).mono ?_
   rintro x w' ⟨rfl,⟨mm,hmm,hh,hm⟩,hb⟩
   exact ⟨rfl,KR.below hW hl (ch_mk0 (hl.on hW.size) hX hmm hh hm hb)⟩
  ·refine (km_buf hX.hb ha0).mono ?_
   rintro x w' ⟨rfl,hh,hb⟩
   refine ⟨rfl,KR.below hW hl (ch_put (hl.on hW.size) hX hb hh ha.1 ha.2 hX.sw hX.so hX.sl (Nat.zero_le _) hX.ew hX.eo hX.el (Nat.zero_le _) (decide_eq_false ha0) rfl ?_ (Nat.le_succ N))⟩
   exact hX.cv.but hb (fun k e9 _ e8=>by rw [e9,hX.lb] at e8;cases e8) (LEx.refl _ _)
 by_cases h10:e.k=10
 ·rw [h10]
  refine keeps_send (fun W hW=>?_)
  refine (chs hpl (hl.on hW.size) (h.below hl hW) (hk.bel hW) hv hN H h10).mono ?_
  rintro x w' ⟨rfl,hK⟩
  exact ⟨rfl,hK.below hW hl⟩
 by_cases h11:e.k=11
 ·rw [h11]
  have hu:=H.ack h11
  have hq0:q.keep e V={ q with rcv:=setN q.rcv V.g none }:=by
   unfold ChF.keep
   rw [if_neg h9,if_neg h10,if_pos h11]
  rw [hq0]
  rcases h.rc with ⟨hu2,_⟩|⟨_,m,f,hr,hrc⟩
  ·rw [hu2] at hu;cases hu
  subst hr
  have hml:=hl _ _ hrc.lb
  have hmo:m≠ob:=fun e9=>by have:=hrc.lb;rw [e9,h.lb] at this;cases this
  have:=hv.fg
  refine (keeps_ack h.hb hrc.hm hml hmo (by omega) (by omega)).mono ?_
  rintro x w' ⟨rfl,hm,hb⟩
  exact ⟨rfl,ch_ack hl h hrc hu hm hb⟩
 by_cases h12:e.k=12
 ·rw [h12]
  refine keeps_recv (fun W hW=>?_)
  rcases H.bit h12 with ha0|ha1
  ·have hq0:q.keep e V=q:=by
    unfold ChF.keep
    rw [if_neg h9,if_neg h10,if_neg h11,if_pos h12,if_pos ha0]
   rw [hq0,ha0]
   refine recv_zero.mono ?_
   rintro x w' ⟨rfl,hb⟩
   have hb2:Below w.heap.size w w':=hW.trans (hb.mono hW.size)
   exact ⟨rfl,KR.same (S:=fun _=>False) hl (But.of_below hb2) (fun _ e9=>e9.elim) ⟨sv,ev,rv,cv,xs,ys,(h.below hl hb2).up (hl.on hb2.size)⟩⟩
  ·rw [ha1]
   refine (chr hpl (hl.on hW.size) (h.below hl hW) (hk.bel hW) hv hN H h12 ha1).mono ?_
   rintro x w' ⟨rfl,hK⟩
   exact ⟨rfl,hK.below hW hl⟩
 by_cases h13:e.k=13
 ·rw [h13]
  have hq0:q.keep e V={ q with clo:=some V.clk,emp:=[] }:=by
   unfold ChF.keep
   rw [if_neg h9,if_neg h10,if_neg h11,if_neg h12,if_pos h13]
  rw [hq0]
  refine (kc_close hpl h.hb h.nz hk hv).mono ?_
  rintro x w' ⟨rfl,⟨u,hh,hq⟩,hb⟩
  refine ⟨rfl,ch_put hl h hb hh h.f0 h.f1 h.sw h.so h.sl (by show q.sent.length≤N+1;have:=h.sn;omega) (Win.nil w 1) (fun k e9=>by cases e9) rfl (Nat.zero_le _) rfl rfl ?_ (Nat.le_succ N)⟩
  have hT:=TL.new hq hl hb.size
  have hc1:1≤vclk V.kn V.g V.tm V.g:=by
   unfold vclk sgl
   rw [if_pos rfl]
   omega
  obtain ⟨p,rfl⟩:=hT.ptr hc1
  exact .inr ⟨_,p,rfl,rfl,hT⟩
 have hq0:q.keep e V=q:=by
  unfold ChF.keep
  rw [if_neg h9,if_neg h10,if_neg h11,if_neg h12,if_neg h13]
 rw [hq0]
 refine (keeps_other h9 h10 h11 h12 h13).mono ?_
 rintro x w' ⟨rfl,hb⟩
 exact ⟨rfl,KR.same (S:=fun _=>False) hl (But.of_below hb) (fun _ e9=>e9.elim) ⟨sv,ev,rv,cv,xs,ys,(h.below hl hb).up (hl.on hb.size)⟩⟩
end
end Go.Proofs.YtimgkhdgliojgaaGreatDoor
namespace Go.Proofs.YtimgkhdgliojgaaGreatDoor
open Go.RowKit Go.Maps
def Ob1 (pl:Nat→Int→Int) (L:LF) (w:World) (ob:Nat) (ty:TypeId) (c:Clk):Prop:=∃ v,w.heap[ob]?=some (.cells #[v] ty (0,0))∧TL pl L w v c
def Ob2 (pl:Nat→Int→Int) (L:LF) (w:World) (ob:Nat) (c d:Clk):Prop:=∃ r v,w.heap[ob]?=some (.cells #[r,v] 226 (0,0))∧TL pl L w r c∧TL pl L w v d
structure ObM (pl:Nat→Int→Int) (L:LF) (w:World) (ob:Nat) (s o:Int) (N:Nat) (F:FS):Prop where
 lb:L ob=some (.ob s o)
 s1:s=1→Ob2 pl L w ob (F.lr o) (F.lw o)
 s2:s=2→ChM pl L w ob o N (F.ch o)
 s3:s=3→Ob1 pl L w ob 234 (F.wg o)
 s4:s=4→Ob1 pl L w ob 237 (F.on o)
 s5:s=5→Ob1 pl L w ob 240 (F.ato o)
def gvF (s:Int):Nat:=if s=1 then 245 else if s=2 then 247 else if s=3 then 255 else if s=4 then 257 else 259
def kpF (s:Int):Nat:=if s=1 then 246 else if s=2 then 248 else if s=3 then 256 else if s=4 then 258 else 260
section
variable {pl : Nat → Int → Int} {L L' : LF} {w W wm w' : World} {v u sk : Value} {S : Nat → Prop} {o s : Int} {m N N' ob : Nat} {F F' : FS} {e : Me} {c d : Clk} {ty : TypeId}
theorem Ob1.but (h:Ob1 pl L w ob ty c) (hb:But S w w') (ho:¬ S ob) (hS:∀ k,S k→k < w.heap.size→L k≠none) (hL:LEx L L' w):Ob1 pl L' w' ob ty c:=by
 obtain ⟨v,h1,h2⟩:=h
 exact ⟨v,(hb.block ob (lt_heap h1) ho).trans h1,h2.but hb hS hL⟩
theorem Ob2.but (h:Ob2 pl L w ob c d) (hb:But S w w') (ho:¬ S ob) (hS:∀ k,S k→k < w.heap.size→L k≠none) (hL:LEx L L' w):Ob2 pl L' w' ob c d:=by
 obtain ⟨r,v,h1,h2,h3⟩:=h
 exact ⟨r,v,(hb.block ob (lt_heap h1) ho).trans h1,h2.but hb hS hL,h3.but hb hS hL⟩
structure Sm (s o:Int) (F F':FS):Prop where
 s1:s=1→F'.lr o=F.lr o∧F'.lw o=F.lw o
 s2:s=2→F'.ch o=F.ch o
 s3:s=3→F'.wg o=F.wg o
 s4:s=4→F'.on o=F.on o
 s5:s=5→F'.ato o=F.ato o
theorem Sm.refl (s o:Int) (F:FS):Sm s o F F:=⟨fun _=>⟨rfl,rfl⟩,fun _=>rfl,fun _=>rfl,fun _=>rfl,fun _=>rfl⟩
theorem ObM.but (h:ObM pl L w ob s o N F) (hb:But S w w') (hS:∀ k,S k→k < w.heap.size→L k≠none) (ho:∀ k l,S k→L k=some l→¬ l.of s o) (hL:LEx L L' w) (hl:Llt L w) (hN:N≤N') (hF:Sm s o F F'):ObM pl L' w' ob s o N' F':=by
 have hob:¬ S ob:=fun e=>ho ob _ e h.lb ⟨rfl,rfl⟩
 refine ⟨(hL ob (hl _ _ h.lb)).trans h.lb,fun e=>?_,fun e=>?_,fun e=>?_,fun e=>?_,fun e=>?_⟩
 ·rw [(hF.s1 e).1,(hF.s1 e).2];exact (h.s1 e).but hb hob hS hL
 ·rw [hF.s2 e];exact (h.s2 e).but hb hS (by subst e;exact ho) hL hl hN
 ·rw [hF.s3 e];exact (h.s3 e).but hb hob hS hL
 ·rw [hF.s4 e];exact (h.s4 e).but hb hob hS hL
 ·rw [hF.s5 e];exact (h.s5 e).but hb hob hS hL
theorem srt_1 (h:srt e.k=1):3≤e.k∧e.k≤6:=by unfold srt at h;repeat' split at h;all_goals omega
theorem srt_2 (h:srt e.k=2):9≤e.k∧e.k≤13:=by unfold srt at h;repeat' split at h;all_goals omega
theorem srt_3 (h:srt e.k=3):14≤e.k∧e.k≤15:=by unfold srt at h;repeat' split at h;all_goals omega
theorem srt_4 (h:srt e.k=4):e.k=16:=by unfold srt at h;repeat' split at h;all_goals omega
theorem srt_5 (h:srt e.k=5):17≤e.k∧e.k≤19:=by unfold srt at h;repeat' split at h;all_goals omega
theorem srt_bd (k:Int):0≤srt k∧srt k≤5:=by unfold srt;repeat' split;all_goals omega
theorem ob_gives (h:ObM pl L w ob (srt e.k) e.o N F) (h0:srt e.k≠0) (H:ChOk (F.ch e.o) e) (hg:0≤e.g∧e.g≤65535) :
  Calls Tryz.prog (gvF (srt e.k)) #[.pointer (some ⟨ob,0,none⟩),.agg #[.int .i64 e.g,.int .i64 e.k,.int .u64 e.o,.int .u64 e.a,sk]] w fun x w'=>∃ v,x=.returned v∧TL pl L w' v (F.give e)∧Below w.heap.size w w':=by
 have hb5:=srt_bd e.k
 by_cases e1:srt e.k=1
 ·have hk:=srt_1 e1
  rw [e1]
  show Calls Tryz.prog 245 _ _ _
  obtain ⟨r,v,h1,h2,h3⟩:=h.s1 e1
  obtain ⟨p1,rfl⟩:=h2.form
  obtain ⟨p2,rfl⟩:=h3.form
  unfold FS.give
  by_cases k3:e.k=3
  ·rw [if_pos k3,k3]
   refine (lock_acq h1).mono ?_
   rintro x w' ⟨rfl,hb⟩
   exact ⟨_,rfl,h3.bel hb,hb⟩
  ·rw [if_neg k3]
   by_cases k5:e.k=5
   ·rw [if_pos k5,k5]
    refine (lock_racq h1).mono ?_
    rintro x w' ⟨rfl,hb⟩
    exact ⟨_,rfl,h2.bel hb,hb⟩
   ·rw [if_neg k5,if_neg (by omega),if_neg (by omega),if_neg (by omega),if_neg (by omega),if_neg (by omega)]
    refine (lock_none k3 k5).mono ?_
    rintro x w' ⟨rfl,hb⟩
    exact ⟨_,rfl,TL.nil _ _ _,hb⟩
 by_cases e2:srt e.k=2
 ·have hk:=srt_2 e2
  rw [e2]
  show Calls Tryz.prog 247 _ _ _
  have hG:F.give e=(F.ch e.o).give e:=by
   unfold FS.give
   rw [if_neg (by omega),if_neg (by omega),if_neg (by omega),if_pos hk]
  rw [hG]
  exact ch_gives (h.s2 e2) H hg
 by_cases e3:srt e.k=3
 ·have hk:=srt_3 e3
  rw [e3]
  show Calls Tryz.prog 255 _ _ _
  obtain ⟨v,h1,h2⟩:=h.s3 e3
  obtain ⟨p1,rfl⟩:=h2.form
  unfold FS.give
  rw [if_neg (by omega),if_neg (by omega),if_neg (by omega),if_neg (by omega)]
  by_cases k15:e.k=15
  ·rw [if_pos k15,k15]
   refine (group_wait h1).mono ?_
   rintro x w' ⟨rfl,hb⟩
   exact ⟨_,rfl,h2.bel hb,hb⟩
  ·rw [if_neg k15,if_neg (by omega),if_neg (by omega)]
   refine (group_none k15).mono ?_
   rintro x w' ⟨rfl,hb⟩
   exact ⟨_,rfl,TL.nil _ _ _,hb⟩
 by_cases e4:srt e.k=4
 ·have hk:=srt_4 e4
  rw [e4]
  show Calls Tryz.prog 257 _ _ _
  obtain ⟨v,h1,h2⟩:=h.s4 e4
  obtain ⟨p1,rfl⟩:=h2.form
  unfold FS.give
  rw [if_neg (by omega),if_neg (by omega),if_neg (by omega),if_neg (by omega),if_neg (by omega),if_pos hk]
  refine (once_gives h1).mono ?_
  rintro x w' ⟨rfl,hb⟩
  exact ⟨_,rfl,h2.bel hb,hb⟩
 have e5:srt e.k=5:=by omega
 have hk:=srt_5 e5
 rw [e5]
 show Calls Tryz.prog 259 _ _ _
 obtain ⟨v,h1,h2⟩:=h.s5 e5
 obtain ⟨p1,rfl⟩:=h2.form
 unfold FS.give
 rw [if_neg (by omega),if_neg (by omega),if_neg (by omega),if_neg (by omega),if_neg (by omega),if_neg (by omega)]
 by_cases k18:e.k=18
 ·rw [if_neg (by omega),k18]
  refine atomic_store.mono ?_
  rintro x w' ⟨rfl,hb⟩
  exact ⟨_,rfl,TL.nil _ _ _,hb⟩
 ·rw [if_pos (by omega)]
  refine (atomic_gives k18 h1).mono ?_
  rintro x w' ⟨rfl,hb⟩
  exact ⟨_,rfl,h2.bel hb,hb⟩
end
end Go.Proofs.YtimgkhdgliojgaaGreatDoor
namespace Go.Proofs.YtimgkhdgliojgaaGreatDoor
open Go.RowKit Go.Maps
section
variable {pl : Nat → Int → Int} {L L' : LF} {w W wm w' : World} {v u sk kv : Value} {S : Nat → Prop} {o s : Int} {m N N' ob : Nat} {F F' : FS} {e : Me} {c d : Clk} {ty : TypeId} {V : Vw}
theorem keep_sm (h:¬ (s=srt e.k∧o=e.o)):Sm s o F (F.keep e V):=by
 have hs:∀ (f:Int→Clk) (u:Clk),o≠e.o→setF f e.o u o=f o:=fun f u ho=>setF_other _ _ ho
 unfold FS.keep
 by_cases h4:e.k=4
 ·rw [if_pos h4]
  refine ⟨fun e1=>?_,fun _=>rfl,fun _=>rfl,fun _=>rfl,fun _=>rfl⟩
  have ho:o≠e.o:=fun e9=>h ⟨by rw [e1,h4];rfl,e9⟩
  exact ⟨hs _ _ ho,hs _ _ ho⟩
 rw [if_neg h4]
 by_cases h6:e.k=6
 ·rw [if_pos h6]
  refine ⟨fun e1=>?_,fun _=>rfl,fun _=>rfl,fun _=>rfl,fun _=>rfl⟩
  have ho:o≠e.o:=fun e9=>h ⟨by rw [e1,h6];rfl,e9⟩
  exact ⟨rfl,hs _ _ ho⟩
 rw [if_neg h6]
 by_cases hc:9≤e.k∧e.k≤13
 ·rw [if_pos hc]
  refine ⟨fun _=>⟨rfl,rfl⟩,fun e1=>?_,fun _=>rfl,fun _=>rfl,fun _=>rfl⟩
  have ho:o≠e.o:=fun e9=>h ⟨by rw [e1];unfold srt;rw [if_neg (by omega),if_pos hc],e9⟩
  exact setF_other _ _ ho
 rw [if_neg hc]
 by_cases hw:e.k=14∨e.k=15
 ·rw [if_pos hw]
  split
  ·refine ⟨fun _=>⟨rfl,rfl⟩,fun _=>rfl,fun e1=>?_,fun _=>rfl,fun _=>rfl⟩
   have ho:o≠e.o:=fun e9=>h ⟨by rw [e1];unfold srt;rw [if_neg (by omega),if_neg (by omega),if_pos (by omega)],e9⟩
   exact hs _ _ ho
  ·exact Sm.refl _ _ _
 rw [if_neg hw]
 by_cases h16:e.k=16
 ·rw [if_pos h16]
  split
  ·refine ⟨fun _=>⟨rfl,rfl⟩,fun _=>rfl,fun _=>rfl,fun e1=>?_,fun _=>rfl⟩
   have ho:o≠e.o:=fun e9=>h ⟨by rw [e1,h16];rfl,e9⟩
   exact hs _ _ ho
  ·exact Sm.refl _ _ _
 rw [if_neg h16]
 by_cases ha:e.k=18∨e.k=19
 ·rw [if_pos ha]
  refine ⟨fun _=>⟨rfl,rfl⟩,fun _=>rfl,fun _=>rfl,fun _=>rfl,fun e1=>?_⟩
  have ho:o≠e.o:=fun e9=>h ⟨by rw [e1];unfold srt;rw [if_neg (by omega),if_neg (by omega),if_neg (by omega),if_neg (by omega),if_pos (by omega)],e9⟩
  exact hs _ _ ho
 ·rw [if_neg ha];exact Sm.refl _ _ _
theorem ObM.still (hl:Llt L w) (h:ObM pl L w ob s o N F) (hb:Below w.heap.size w w') (hF:Sm s o F F'):KR L w w' s o (fun L'=>ObM pl L' w' ob s o (N+1) F') :=
 KR.same (S:=fun _=>False) hl (But.of_below hb) (fun _ e=>e.elim) (h.but (S:=fun _=>False) (But.of_below hb) (fun _ e=>e.elim) (fun _ _ e=>e.elim) (LEx.refl _ _) hl (Nat.le_succ N) hF)
theorem ob1_kept (hl:Llt L w) (hL:L ob=some (.ob s o)) (hk:Kp pl (TW L w) w w' ob (fun x=>#[x]) ty c):KR L w w' s o (fun L'=>L' ob=some (.ob s o)∧Ob1 pl L' w' ob ty c):=by
 obtain ⟨⟨u,h1,h2⟩,hb⟩:=hk
 exact KR.same hl hb (fun k e _=>⟨.ob s o,by rw [e];exact hL,rfl,rfl⟩) ⟨hL,u,h1,TL.new h2 hl hb.size⟩
theorem KR.mono {P Q:LF→Prop} (h:KR L w w' s o P) (hPQ:∀ L',P L'→Q L'):KR L w w' s o Q:=by
 obtain ⟨⟨L',h1,h2,h3,h4⟩,hb⟩:=h
 exact ⟨⟨L',h1,h2,h3,hPQ L' h4⟩,hb⟩
theorem nzo (hL:L ob=some (.ob s o)):¬ TW L w ob:=fun h9=>by have:=h9.1;rw [hL] at this;cases this
theorem ob_keeps (hpl:Rise2 pl) (hl:Llt L w) (h:ObM pl L w ob (srt e.k) e.o N F) (h0:srt e.k≠0) (H:ChOk (F.ch e.o) e) (hk:TL pl L w kv V.kn) (hv:Vok pl V.g V.tm V.pl) (h1:1≤V.tm) (hN:N≤1048576) (ha:0≤e.a∧e.a≤18446744073709551615) :
  Calls Tryz.prog (kpF (srt e.k)) #[.pointer (some ⟨ob,0,none⟩),.agg #[.int .i64 e.g,.int .i64 e.k,.int .u64 e.o,.int .u64 e.a,sk],.agg #[kv,.int .i32 V.tm,.int .i32 V.pl,.int .u16 (V.g:Int)]] w fun x w'=>x=.returned (.tuple #[])∧KR L w w' (srt e.k) e.o (fun L'=>ObM pl L' w' ob (srt e.k) e.o (N+1) (F.keep e V)):=by
 have hb5:=srt_bd e.k
 by_cases e1:srt e.k=1
 ·have hkk:=srt_1 e1
  have hlb:=h.lb
  rw [e1] at hlb ⊢
  show Calls Tryz.prog 246 _ _ _
  obtain ⟨r,v,g1,g2,g3⟩:=h.s1 e1
  unfold FS.keep
  by_cases k4:e.k=4
  ·rw [if_pos k4,k4]
   refine (lock_release hpl g1 (nzo hlb) hk hv).mono ?_
   rintro x w' ⟨rfl,⟨u,q1,q2⟩,hb⟩
   have hT:=TL.new q2 hl hb.size
   refine ⟨rfl,KR.same hl hb (fun k e9 _=>⟨.ob 1 e.o,by rw [e9];exact hlb,rfl,rfl⟩) ⟨hlb,fun _=>⟨u,u,q1,?_,?_⟩,fun e9=>absurd e9 (by decide),fun e9=>absurd e9 (by decide),fun e9=>absurd e9 (by decide),fun e9=>absurd e9 (by decide)⟩⟩
   ·show TL pl L w' u (setF F.lr e.o V.clk e.o)
    rw [setF_same];exact hT
   ·show TL pl L w' u (setF F.lw e.o V.clk e.o)
    rw [setF_same];exact hT
  rw [if_neg k4]
  by_cases k6:e.k=6
  ·rw [if_pos k6,k6]
   refine (lock_rrelease hpl g1 (nzo hlb) hk g3 hv).mono ?_
   rintro x w' ⟨rfl,⟨u,q1,q2⟩,hb⟩
   have hT:=TL.new q2 hl hb.size
   refine ⟨rfl,KR.same hl hb (fun k e9 _=>⟨.ob 1 e.o,by rw [e9];exact hlb,rfl,rfl⟩) ⟨hlb,fun _=>⟨r,u,q1,?_,?_⟩,fun e9=>absurd e9 (by decide),fun e9=>absurd e9 (by decide),fun e9=>absurd e9 (by decide),fun e9=>absurd e9 (by decide)⟩⟩
   ·exact g2.but hb (fun k e9 _ e8=>by rw [e9,hlb] at e8;cases e8) (LEx.refl _ _)
   ·show TL pl L w' u (setF F.lw e.o (cmax (F.lw e.o) V.clk) e.o)
    rw [setF_same];exact hT
  rw [if_neg k6,if_neg (by omega),if_neg (by omega),if_neg (by omega),if_neg (by omega)]
  refine (lock_still k4 k6).mono ?_
  rintro x w' ⟨rfl,hb⟩
  rw [e1] at h
  exact ⟨rfl,h.still hl hb (Sm.refl _ _ _)⟩
 by_cases e2:srt e.k=2
 ·have hkk:=srt_2 e2
  have hlb:=h.lb
  rw [e2] at hlb ⊢
  show Calls Tryz.prog 248 _ _ _
  have hG:F.keep e V={ F with ch:=setF F.ch e.o ((F.ch e.o).keep e V) }:=by
   unfold FS.keep
   rw [if_neg (by omega),if_neg (by omega),if_pos hkk]
  rw [hG]
  refine (ch_keeps hpl hl (h.s2 e2) hk hv h1 hN H ha).mono ?_
  rintro x w' ⟨rfl,hK⟩
  refine ⟨rfl,hK.mono (fun L' hC=>?_)⟩
  have hlb2:L' ob=some (.ob 2 e.o):=by obtain ⟨_,_,_,_,_,_,hX⟩:=hC;exact hX.lb
  refine ⟨hlb2,fun e9=>absurd e9 (by decide),fun _=>?_,fun e9=>absurd e9 (by decide),fun e9=>absurd e9 (by decide),fun e9=>absurd e9 (by decide)⟩
  show ChM pl L' w' ob e.o (N+1) (setF F.ch e.o ((F.ch e.o).keep e V) e.o)
  rw [setF_same];exact hC
 by_cases e3:srt e.k=3
 ·have hkk:=srt_3 e3
  have hlb:=h.lb
  rw [e3] at hlb ⊢
  show Calls Tryz.prog 256 _ _ _
  obtain ⟨v,g1,g2⟩:=h.s3 e3
  unfold FS.keep
  rw [if_neg (by omega),if_neg (by omega),if_neg (by omega),if_pos (by omega)]
  by_cases hz:mzag e.a < 0
  ·rw [if_pos hz]
   refine (group_lowers hpl ha.1 ha.2 hz g1 (nzo hlb) hk g2 hv).mono ?_
   rintro x w' ⟨rfl,hK⟩
   refine ⟨rfl,(ob1_kept hl hlb hK).mono (fun L' hC=>⟨hC.1,fun e9=>absurd e9 (by decide),fun e9=>absurd e9 (by decide),fun _=>?_,fun e9=>absurd e9 (by decide),fun e9=>absurd e9 (by decide)⟩)⟩
   show Ob1 pl L' w' ob 234 (setF F.wg e.o (cmax (F.wg e.o) V.clk) e.o)
   rw [setF_same];exact hC.2
  ·rw [if_neg hz]
   refine (group_still ha.1 ha.2 hz).mono ?_
   rintro x w' ⟨rfl,hb⟩
   rw [e3] at h
   exact ⟨rfl,h.still hl hb (Sm.refl _ _ _)⟩
 by_cases e4:srt e.k=4
 ·have hkk:=srt_4 e4
  have hlb:=h.lb
  rw [e4] at hlb ⊢
  show Calls Tryz.prog 258 _ _ _
  obtain ⟨v,g1,g2⟩:=h.s4 e4
  unfold FS.keep
  rw [if_neg (by omega),if_neg (by omega),if_neg (by omega),if_neg (by omega),if_pos (by omega)]
  by_cases hz:e.a=1
  ·rw [if_pos hz,hz]
   refine (once_ran hpl g1 (nzo hlb) hk hv).mono ?_
   rintro x w' ⟨rfl,hK⟩
   refine ⟨rfl,(ob1_kept hl hlb hK).mono (fun L' hC=>⟨hC.1,fun e9=>absurd e9 (by decide),fun e9=>absurd e9 (by decide),fun e9=>absurd e9 (by decide),fun _=>?_,fun e9=>absurd e9 (by decide)⟩)⟩
   show Ob1 pl L' w' ob 237 (setF F.on e.o V.clk e.o)
   rw [setF_same];exact hC.2
  ·rw [if_neg hz]
   refine (once_still hz).mono ?_
   rintro x w' ⟨rfl,hb⟩
   rw [e4] at h
   exact ⟨rfl,h.still hl hb (Sm.refl _ _ _)⟩
 have e5:srt e.k=5:=by omega
 have hkk:=srt_5 e5
 have hlb:=h.lb
 rw [e5] at hlb ⊢
 show Calls Tryz.prog 260 _ _ _
 obtain ⟨v,g1,g2⟩:=h.s5 e5
 unfold FS.keep
 rw [if_neg (by omega),if_neg (by omega),if_neg (by omega),if_neg (by omega),if_neg (by omega)]
 by_cases hz:e.k=17
 ·rw [if_neg (by omega),hz]
  refine atomic_still.mono ?_
  rintro x w' ⟨rfl,hb⟩
  rw [e5] at h
  exact ⟨rfl,h.still hl hb (Sm.refl _ _ _)⟩
 ·rw [if_pos (by omega)]
  refine (atomic_gathers hpl hz g1 (nzo hlb) hk g2 hv).mono ?_
  rintro x w' ⟨rfl,hK⟩
  refine ⟨rfl,(ob1_kept hl hlb hK).mono (fun L' hC=>⟨hC.1,fun e9=>absurd e9 (by decide),fun e9=>absurd e9 (by decide),fun e9=>absurd e9 (by decide),fun e9=>absurd e9 (by decide),fun _=>?_⟩)⟩
  show Ob1 pl L' w' ob 240 (setF F.ato e.o (cmax (F.ato e.o) V.clk) e.o)
  rw [setF_same];exact hC.2
end
end Go.Proofs.YtimgkhdgliojgaaGreatDoor
namespace Go.Proofs.YtimgkhdgliojgaaGreatDoor
open Go.RowKit Go.Maps
theorem laidOutN:laidOutB Tryz.prog=true:=by kernel_rfl
theorem rowName:(179:TypeId) < Tryz.prog.types.size:=of_decide_eq_true (by kernel_rfl)
theorem cellsName:Tryz.prog.cellsOf 179=2:=by kernel_rfl
theorem lawName:Keyed Tryz.prog 179:=by
 refine Keyed.of_law (deep_law_laid laidOutN (m:=2) ?_ rowName ?_ ?_)
 ·omega
 ·kernel_rfl
 ·rw [Tryz.underlying179]
def nameV (s o:Int):Value:=.agg #[.int .i64 s,.int .u64 o]
def okey (s o:Int):Lit:=.string (keyBytes [.int .i64 s,.int .u64 o])
def Rng (s o:Int):Prop:=0≤s∧s≤5∧0≤o∧o≤18446744073709551615
theorem typeName:Tryz.prog.keyType 179=true:=by kernel_rfl
theorem cellsN3:Tryz.prog.cellsOf 3=1:=by kernel_rfl
theorem cellsN64:Tryz.prog.cellsOf 32=1:=by kernel_rfl
theorem litsName (d:Nat) {a b:Int} (w1:(Lit.int .i64 a).wf=true) (w2:(Lit.int .u64 b).wf=true):Tryz.prog.keyLits (d+2) 179 [.int .i64 a,.int .u64 b]=some [.int .i64 a,.int .u64 b]:=by
 simp [Program.keyLits,Tryz.underlying179,Tryz.underlying3,Tryz.underlying32,cellsName,cellsN3,cellsN64,w1,w2]
theorem keyName {s o:Int} (h:Rng s o):keyOf Tryz.prog 179 (nameV s o)=some (okey s o):=by
 obtain ⟨h1,h2,h3,h4⟩:=h
 have w1:(Lit.int .i64 s).wf=true:=WalkArith.wf_i64 (by omega)
 have w2:(Lit.int .u64 o).wf=true:=WalkArith.wf_u64 ⟨h3,h4⟩
 have hf:(nameV s o).formed Tryz.prog 179=true:=by simp [nameV,Value.formed,Tryz.underlying179,cellsName]
 have hk:Tryz.prog.keyLits (Tryz.prog.types.size+1) 179 (nameV s o).cells.toList=some [.int .i64 s,.int .u64 o]:=by
  have hs:Tryz.prog.types.size+1=(Tryz.prog.types.size - 1)+2:=by have:0 < Tryz.prog.types.size:=Nat.lt_of_le_of_lt (Nat.zero_le _) rowName;omega
  rw [hs]
  exact litsName _ w1 w2
 unfold keyOf
 rw [Tryz.underlying179,typeName,hf,hk]
 rfl
theorem okey_inj {s o s' o':Int} (h:Rng s o) (h':Rng s' o') (he:okey s o=okey s' o'):s=s'∧o=o':=by
 have:=lawName.inj (keyName h) (by rw [he];exact keyName h')
 simp [nameV] at this
 exact this
theorem okey_key (s o:Int):WideAt.IsKeyLit (okey s o):=by simp [okey,WideAt.IsKeyLit]
def setO (f:Int→Int→Option Value) (s o:Int) (v:Option Value):Int→Int→Option Value:=fun s' o'=>if s'=s∧o'=o then v else f s' o'
theorem setO_same (f:Int→Int→Option Value) (s o:Int) (v:Option Value):setO f s o v s o=v:=if_pos ⟨rfl,rfl⟩
theorem setO_other (f:Int→Int→Option Value) {s o s' o':Int} (v:Option Value) (h:¬ (s'=s∧o'=o)):setO f s o v s' o'=f s' o':=if_neg h
def SM (w:World) (b n:Nat) (f:Int→Int→Option Value):Prop :=
 ∃ D,w.ownsMap Tryz.prog 179 heldR b n D∧(∀ s o,Rng s o→D.atKey (okey s o) (.held .nilIface)=.held ((f s o).getD .nilIface))∧(∀ s o,Rng s o→Maps.has D (okey s o)=(f s o).isSome)
section
variable {w w' : World} {b n : Nat} {f : Int → Int → Option Value} {s o : Int}
theorem SM.but {S:Nat→Prop} (h:SM w b n f) (hb:But S w w') (hS:¬ S b):SM w' b n f:=by
 obtain ⟨D,h1,h2⟩:=h
 exact ⟨D,map_but h1 hb hS,h2⟩
theorem SM.up {m:Nat} (h:SM w b n f) (hm:n≤m):SM w b m f:=by
 obtain ⟨D,⟨es,cl,h1,h2,h3,h4⟩,h5⟩:=h
 exact ⟨D,⟨es,cl,h1,h2,Nat.le_trans h3 hm,h4⟩,h5⟩
theorem SM.lt (h:SM w b n f):b < w.heap.size:=by
 obtain ⟨D,⟨es,cl,h1,_⟩,_⟩:=h
 exact lt_heap h1
theorem SM.made (w:World):SM (w.alloc (.map #[] 0)) w.heap.size 0 (fun _ _=>none) :=
 ⟨.map [],World.ownsMap_made w Tryz.prog 179 heldR,fun s o _=>by rw [Maps.atKey_of_not_has rfl];rfl,fun s o _=>rfl⟩
theorem SM.look (h:SM w b n f) (hr:Rng s o):(Instr.lookup 121 (.map (some b)) (nameV s o) false).run Tryz.prog w=.ok ((f s o).getD .nilIface) w:=by
 obtain ⟨D,h1,h2,_⟩:=h
 have hz:(zeroValue 133).run Tryz.prog w=.ok .nilIface w:=by kernel_rfl
 obtain ⟨v,ps,hrun,hv⟩:=h1.lookup lawName Tryz.underlying121 hz (zd:=.held .nilIface) (zp:=[]) rfl (keyName hr)
 rw [h2 s o hr] at hv
 simp [heldR] at hv
 rw [hrun,hv.1]
theorem SM.put (h:SM w b n f) (hr:Rng s o) (hn:n < maxLen) (v:Value) :
  ∃ w',(Instr.mapUpdate 121 (.map (some b)) (nameV s o) v).run Tryz.prog w=.ok () w'∧SM w' b (n+1) (setO f s o (some v))∧But (fun k=>k=b) w w':=by
 obtain ⟨D,h1,h2,h3⟩:=h
 obtain ⟨w',hrun,r1,r2⟩:=h1.update (val:=v) lawName Tryz.underlying121 hn (keyName hr) (d:=.held v) (ps:=[]) (show heldR v=some (.held v,[]) from rfl)
 refine ⟨w',hrun,⟨_,r1,fun s' o' hr'=>?_,fun s' o' hr'=>?_⟩,But.of_grown r2 (fun k e=>(Option.some.inj e).symm)⟩
 ·by_cases hy:s'=s∧o'=o
  ·obtain ⟨rfl,rfl⟩:=hy;rw [Maps.atKey_put_same h1.isMap (okey_key _ _),setO_same];rfl
  ·rw [Maps.atKey_put_other (fun c=>hy (okey_inj hr' hr c)),setO_other f _ hy,h2 s' o' hr']
 ·by_cases hy:s'=s∧o'=o
  ·obtain ⟨rfl,rfl⟩:=hy;rw [Maps.has_put_same h1.isMap (okey_key _ _),setO_same];rfl
  ·rw [Maps.has_put_other (fun c=>hy (okey_inj hr' hr c)),setO_other f _ hy,h3 s' o' hr']
end
end Go.Proofs.YtimgkhdgliojgaaGreatDoor
