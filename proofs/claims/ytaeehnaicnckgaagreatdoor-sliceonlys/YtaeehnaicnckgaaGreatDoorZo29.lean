import Derived.Test.YtaeehnaicnckgaaGreatDoorZo28
import Derived.Test.YtaeehnaicnckgaaGreatDoorZo25
set_option maxRecDepth 8000
set_option maxHeartbeats 8000000
set_option linter.unusedVariables false
namespace Go.Proofs.YtaeehnaicnckgaaGreatDoor
theorem nxt_out {k:Int} {L:List Ent} (h:nxt k L=none):∀ q ∈ L,q.1 < k:=by
 induction L with
 | nil=>intro q hq;cases hq
 | cons p L ih =>
  unfold nxt at h
  by_cases hp:p.1 < k
  ·rw [if_pos hp] at h
   intro q hq
   rcases List.mem_cons.1 hq with rfl|hq
   ·exact hp
   ·exact ih h q hq
  ·rw [if_neg hp] at h;cases h
theorem nxt_in {k:Int} {p:Ent} {L:List Ent} (hr:Ris L) (h:nxt k L=some p):p ∈ L∧k≤p.1∧∀ q ∈ L,k≤q.1→p.1≤q.1:=by
 induction L with
 | nil=>cases h
 | cons x L ih =>
  unfold nxt at h
  by_cases hp:x.1 < k
  ·rw [if_pos hp] at h
   obtain ⟨h1,h2,h3⟩:=ih hr.tail h
   refine ⟨List.mem_cons_of_mem _ h1,h2,fun q hq hk=>?_⟩
   rcases List.mem_cons.1 hq with rfl|hq
   ·omega
   ·exact h3 q hq hk
  ·rw [if_neg hp] at h
   injection h with h
   subst h
   refine ⟨List.mem_cons_self ..,by omega,fun q hq hk=>?_⟩
   rcases List.mem_cons.1 hq with rfl|hq
   ·exact Int.le_refl _
   ·have:=hr.head q hq;omega
def lvR:List Me→Int→Int→Bool
 | [],_,_=>false
 | e :: R,o,a=>if e.k=20∧e.o=o∧e.a=a then true else if e.k=21∧e.o=o∧e.a=a then false else lvR R o a
def lvT (T:List Me) (o a:Int):Bool:=lvR T.reverse o a
section
variable {T : List Me} {M : CS} {e : Me} {r : Gor} {k o a x g : Int}
theorem lvT_snoc:lvT (T++[e]) o a=if e.k=20∧e.o=o∧e.a=a then true else if e.k=21∧e.o=o∧e.a=a then false else lvT T o a:=by
 unfold lvT
 rw [List.reverse_append]
 simp [lvR]
theorem doo_mem:(M.doo e r).tick.mem=if e.k=20 then insE (e.o+(e.a - 1)) e.o M.mem else if e.k=21 then delE (e.o+(e.a - 1)) M.mem else M.mem:=by
 show (M.doo e r).mem=_
 unfold CS.doo
 by_cases h3:e.k=3
 ·simp [h3]
 by_cases h4:e.k=4
 ·simp [h4]
 by_cases h5:e.k=5
 ·simp [h5]
 by_cases h6:e.k=6
 ·simp [h6]
 by_cases h7:e.k=7
 ·simp [h7]
 by_cases h8:e.k=8
 ·simp [h8]
 by_cases h9:e.k=9
 ·simp [h9]
 by_cases h10:e.k=10
 ·cases hc:M.chans e.o <;> simp [h10]
 by_cases h11:e.k=11
 ·simp [h11]
 by_cases h12:e.k=12
 ·cases hc:M.chans e.o <;> simp [h12]
 by_cases h13:e.k=13
 ·cases hc:M.chans e.o <;> simp [h13]
 by_cases h14:e.k=14
 ·simp [h14]
 by_cases h16:e.k=16
 ·simp [h16]
 by_cases h20:e.k=20
 ·simp [h20]
 by_cases h21:e.k=21
 ·simp [h21]
 simp [h3,h4,h5,h6,h7,h8,h9,h10,h11,h12,h13,h14,h16,h20,h21]
theorem ask_alloc (h:M.ask e r=0) (hk:e.k=20):∀ p,nxt e.o M.mem=some p→e.o+(e.a - 1) < p.2:=by
 intro p hp
 unfold CS.ask CS.askOther at h
 simp [hk] at h
 rw [hp] at h
 simp at h
 exact h
theorem ask_free (h:M.ask e r=0) (hk:e.k=21):nxt (e.o+(e.a - 1)) M.mem=some (e.o+(e.a - 1),e.o):=by
 unfold CS.ask CS.askOther at h
 simp [hk] at h
 exact h
structure LkA (T:List Me) (M:CS):Prop where
 ris:Ris M.mem
 le:∀ p ∈ M.mem,p.2≤p.1
 dis:∀ p ∈ M.mem,∀ q ∈ M.mem,p.1 < q.1→p.1 < q.2
 lv:∀ o a,lvT T o a=true ↔ look (o+(a - 1)) M.mem=some o
theorem LkA.new:LkA [] CS.new:=⟨List.Pairwise.nil,fun p hp=>(by cases hp),fun p hp=>(by cases hp),fun o a=>⟨fun h=>(by cases h),fun h=>(by cases h)⟩⟩
theorem LkA.step (h:LkA T M) (hsz:e.k=20→1≤e.a) (hc:Can M e r):LkA (T++[e]) (M.next e):=by
 rw [hc.nx]
 by_cases h20:e.k=20
 ·have ha:=ask_alloc hc.ask h20
  have h1:=hsz h20
  have hfar:∀ q ∈ M.mem,e.o≤q.1→e.o+(e.a - 1) < q.2:=fun q hq hk=>by
   cases hn:nxt e.o M.mem with
   | none=>have:=nxt_out hn q hq;omega
   | some p =>
    obtain ⟨p1,p2,p3⟩:=nxt_in h.ris hn
    have h2:=ha p hn
    have h3:=p3 q hq hk
    by_cases e9:p.1=q.1
    ·have:=look_of_mem h.ris (x:=p.1) (v:=p.2) p1
     have h4:=look_of_mem h.ris (x:=q.1) (v:=q.2) hq
     rw [← e9,this] at h4
     injection h4 with h4
     omega
    ·have:=h.dis p p1 q hq (by omega)
     have:=h.le p p1
     omega
  have hnew:look (e.o+(e.a - 1)) M.mem=none:=by
   cases hl:look (e.o+(e.a - 1)) M.mem with
   | none=>rfl
   | some v =>
    have hm:=look_mem hl
    have h2:e.o+(e.a - 1) < v:=hfar _ hm (by simp only;omega)
    have h3:v≤e.o+(e.a - 1):=h.le _ hm
    omega
  have hmem:(M.doo e r).tick.mem=insE (e.o+(e.a - 1)) e.o M.mem:=by rw [doo_mem,if_pos h20]
  refine ⟨by rw [hmem];exact h.ris.ins _ _,fun p hp=>?_,fun p hp q hq hlt=>?_,fun o a=>?_⟩
  ·rw [hmem] at hp
   rcases insE_mem p hp with rfl|hp
   ·simp only;omega
   ·exact h.le p hp
  ·rw [hmem] at hp hq
   rcases insE_mem p hp with rfl|hp
   ·rcases insE_mem q hq with rfl|hq
    ·omega
    ·exact hfar q hq (by simp only at hlt;omega)
   ·rcases insE_mem q hq with rfl|hq
    ·simp only at hlt ⊢
     by_cases hk:e.o≤p.1
     ·have:=hfar p hp hk
      have:=h.le p hp
      omega
     ·omega
    ·exact h.dis p hp q hq hlt
  ·rw [hmem,lvT_snoc,look_insE]
   by_cases hs:e.o=o∧e.a=a
   ·obtain ⟨rfl,rfl⟩:=hs
    rw [if_pos ⟨h20,rfl,rfl⟩,if_pos rfl];simp
   ·rw [if_neg (fun q=>hs q.2),if_neg (fun q=>hs q.2)]
    by_cases hk:o+(a - 1)=e.o+(e.a - 1)
    ·rw [if_pos hk]
     constructor
     ·intro hl
      have:=(h.lv o a).1 hl
      rw [hk,hnew] at this
      cases this
     ·intro hl
      injection hl with hl
      exact absurd ⟨hl,by omega⟩ hs
    ·rw [if_neg hk];exact h.lv o a
 ·by_cases h21:e.k=21
  ·have hf:=ask_free hc.ask h21
   obtain ⟨f1,_,_⟩:=nxt_in h.ris hf
   have hl:=look_of_mem h.ris f1
   have hmem:(M.doo e r).tick.mem=delE (e.o+(e.a - 1)) M.mem:=by rw [doo_mem,if_neg h20,if_pos h21]
   have hsub:=delE_sub (e.o+(e.a - 1)) M.mem
   refine ⟨by rw [hmem];exact h.ris.del _,fun p hp=>?_,fun p hp q hq hlt=>?_,fun o a=>?_⟩
   ·rw [hmem] at hp;exact h.le p (hsub.subset hp)
   ·rw [hmem] at hp hq;exact h.dis p (hsub.subset hp) q (hsub.subset hq) hlt
   ·rw [hmem,lvT_snoc,look_delE h.ris,if_neg (fun q=>h20 q.1)]
    by_cases hs:e.o=o∧e.a=a
    ·obtain ⟨rfl,rfl⟩:=hs
     rw [if_pos ⟨h21,rfl,rfl⟩,if_pos rfl];simp
    ·rw [if_neg (fun q=>hs q.2)]
     by_cases hk:o+(a - 1)=e.o+(e.a - 1)
     ·rw [if_pos hk]
      constructor
      ·intro hv
       have h2:=(h.lv o a).1 hv
       rw [hk,hl] at h2
       injection h2 with h2
       exact absurd ⟨h2,by omega⟩ hs
      ·intro hv;cases hv
     ·rw [if_neg hk];exact h.lv o a
  ·have hmem:(M.doo e r).tick.mem=M.mem:=by rw [doo_mem,if_neg h20,if_neg h21]
   refine ⟨by rw [hmem];exact h.ris,by rw [hmem];exact h.le,by rw [hmem];exact h.dis,fun o a=>?_⟩
   rw [hmem,lvT_snoc,if_neg (fun q=>h20 q.1),if_neg (fun q=>h21 q.1)]
   exact h.lv o a
theorem Rch.lkA (h:Rch T M):LkA T M:=by
 induction h with
 | new=>exact LkA.new
 | step _ hg hw ih=>obtain ⟨r,hc⟩:=why_can hw;exact ih.step hg.al hc
theorem LkA.over (h:LkA T M) (o a:Int):(∃ p,nxt o M.mem=some p∧p.2≤o+(a - 1)) ↔ ∃ o' a',lvT T o' a'=true∧o'≤o+(a - 1)∧o≤o'+(a' - 1):=by
 constructor
 ·rintro ⟨p,hp,h1⟩
  obtain ⟨p1,p2,_⟩:=nxt_in h.ris hp
  refine ⟨p.2,p.1 - p.2+1,(h.lv _ _).2 ?_,h1,by omega⟩
  have e1:p.2+(p.1 - p.2+1 - 1)=p.1:=by omega
  rw [e1]
  exact look_of_mem h.ris p1
 ·rintro ⟨o',a',hl,h1,h2⟩
  have hm:=look_mem ((h.lv _ _).1 hl)
  cases hn:nxt o M.mem with
  | none=>have:o'+(a' - 1) < o:=nxt_out hn _ hm;omega
  | some p =>
   obtain ⟨p1,p2,p3⟩:=nxt_in h.ris hn
   have h3:p.1≤o'+(a' - 1):=p3 _ hm h2
   refine ⟨p,rfl,?_⟩
   by_cases e9:p.1=o'+(a' - 1)
   ·have h4:=look_of_mem h.ris (x:=p.1) (v:=p.2) p1
    rw [e9,(h.lv _ _).1 hl] at h4
    injection h4 with h4
    omega
   ·have h5:p.1 < o':=h.dis p p1 _ hm (by simp only;omega)
    have:=h.le p p1
    omega
theorem LkA.free (h:LkA T M) (o a:Int):nxt (o+(a - 1)) M.mem=some (o+(a - 1),o) ↔ lvT T o a=true:=by
 rw [h.lv]
 constructor
 ·intro hn
  exact look_of_mem h.ris (nxt_in h.ris hn).1
 ·intro hl
  have hm:=look_mem hl
  cases hn:nxt (o+(a - 1)) M.mem with
  | none=>have:o+(a - 1) < o+(a - 1):=nxt_out hn _ hm;omega
  | some p =>
   obtain ⟨p1,p2,p3⟩:=nxt_in h.ris hn
   have h3:p.1≤o+(a - 1):=p3 _ hm (Int.le_refl _)
   have e9:p.1=o+(a - 1):=by omega
   have h4:=look_of_mem h.ris (x:=p.1) (v:=p.2) p1
   rw [e9,hl] at h4
   injection h4 with h4
   rw [← e9,h4]
end
end Go.Proofs.YtaeehnaicnckgaaGreatDoor
namespace Go.Proofs.YtaeehnaicnckgaaGreatDoor
def wrs (T:List Me) (g o:Int):Bool:=decide (cnG T g 4 o < cnG T g 3 o)
def rds (T:List Me) (g o:Int):Bool:=decide (cnG T g 6 o < cnG T g 5 o)
def anyWr (T:List Me) (o:Int):Bool:=T.any fun x=>decide (x.k=3∧x.o=o) && wrs T x.g o
def anyRd (T:List Me) (o:Int):Bool:=T.any fun x=>decide (x.k=5∧x.o=o) && rds T x.g o
def lvAny (p:Int→Int→Bool):List Me→Bool
 | []=>false
 | x :: T=>(decide (x.k=20) && !(T.any fun y=>decide (y.k=21∧y.o=x.o∧y.a=x.a)) && p x.o x.a) || lvAny p T
def ofLk (T:List Me) (e:Me):Int :=
 if e.k=3∧(anyWr T e.o=true∨anyRd T e.o=true) then 4
 else if e.k=4∧wrs T e.g e.o=false then 5
 else if e.k=5∧anyWr T e.o=true then 6
 else if e.k=6∧rds T e.g e.o=false then 7
 else 0
def ofGr (T:List Me) (e:Me):Int :=
 if e.k=7 then if bgT T e.a then 8 else 0
 else if bgT T e.a=false then 9
 else if nmd T 8 e.a then 10
 else if e.a=e.g then 11
 else if (dueT T e.a).isSome then 12
 else 0
section
variable {T : List Me} {M : CS} {e : Me} {r : Gor} {k o a x g : Int}
theorem wrs_iff:wrs T g o=true ↔ 0 < wT T g o:=by
 unfold wrs wT
 rw [decide_eq_true_iff]
 omega
theorem rds_iff:rds T g o=true ↔ 0 < rT T g o:=by
 unfold rds rT
 rw [decide_eq_true_iff]
 omega
theorem cnG_mem (h:0 < cnG T g k o):∃ x ∈ T,x.g=g∧x.k=k∧x.o=o:=by
 unfold cnG at h
 obtain ⟨x,hx,hp⟩:=List.countP_pos_iff.1 h
 exact ⟨x,hx,of_decide_eq_true hp⟩
theorem anyWr_iff:anyWr T o=true ↔ ∃ g,0 < wT T g o:=by
 unfold anyWr
 rw [List.any_eq_true]
 constructor
 ·rintro ⟨x,_,hx⟩
  rw [Bool.and_eq_true] at hx
  exact ⟨x.g,wrs_iff.1 hx.2⟩
 ·rintro ⟨g,hg⟩
  obtain ⟨x,hx,h1,h2,h3⟩:=cnG_mem (T:=T) (g:=g) (k:=3) (o:=o) (by unfold wT at hg;omega)
  refine ⟨x,hx,?_⟩
  rw [Bool.and_eq_true,h1]
  exact ⟨decide_eq_true ⟨h2,h3⟩,wrs_iff.2 hg⟩
theorem anyRd_iff:anyRd T o=true ↔ ∃ g,0 < rT T g o:=by
 unfold anyRd
 rw [List.any_eq_true]
 constructor
 ·rintro ⟨x,_,hx⟩
  rw [Bool.and_eq_true] at hx
  exact ⟨x.g,rds_iff.1 hx.2⟩
 ·rintro ⟨g,hg⟩
  obtain ⟨x,hx,h1,h2,h3⟩:=cnG_mem (T:=T) (g:=g) (k:=5) (o:=o) (by unfold rT at hg;omega)
  refine ⟨x,hx,?_⟩
  rw [Bool.and_eq_true,h1]
  exact ⟨decide_eq_true ⟨h2,h3⟩,rds_iff.2 hg⟩
theorem hv_has2 (h:LkL T M) (hr:M.gs g=some r):has o r.held=true ↔ 0 < hv M g o:=by
 constructor
 ·intro hh;have:=hv_has h hr hh;omega
 ·intro hp
  unfold hv at hp
  unfold has
  cases hq:look o r.held with
  | none=>simp [hr,hq] at hp
  | some v=>rfl
theorem ofLk_eq (h:LkL T M) (hr:M.gs e.g=some r) (hk:3≤e.k∧e.k≤6):M.askLock e r=ofLk T e:=by
 have hW:M.toWrite e.o=true ↔ anyWr T e.o=true:=by rw [h.anyW,anyWr_iff]
 have hA:0 < M.times e.o ↔ (anyWr T e.o=true∨anyRd T e.o=true):=by
  rw [h.any,anyWr_iff,anyRd_iff]
  constructor
  ·rintro ⟨g,hg|hg⟩
   ·exact .inl ⟨g,hg⟩
   ·exact .inr ⟨g,hg⟩
  ·rintro (⟨g,hg⟩|⟨g,hg⟩)
   ·exact ⟨g,.inl hg⟩
   ·exact ⟨g,.inr hg⟩
 have hH:=hv_has2 (o:=e.o) h hr
 have he:=h.eq e.g e.o
 have hn:=h.nn e.g e.o
 unfold CS.askLock ofLk
 have:e.k=3∨e.k=4∨e.k=5∨e.k=6:=by omega
 rcases this with h1|h1|h1|h1
 ·by_cases hq:0 < M.times e.o
  ·have:=hA.1 hq
   simp [h1,hq,this]
  ·have hq2:¬ (anyWr T e.o=true∨anyRd T e.o=true):=fun q=>hq (hA.2 q)
   simp only [h1,if_true,if_neg hq,if_neg hq2,true_and]
   simp
 ·have hw:(M.toWrite e.o=true∧has e.o r.held=true) ↔ wrs T e.g e.o=true:=by
   rw [wrs_iff,hH]
   constructor
   ·rintro ⟨q1,q2⟩
    have:=(h.wr _ q1).2 e.g
    omega
   ·intro q
    have q1:=(h.anyW e.o).2 ⟨e.g,q⟩
    have:=(h.wr _ q1).2 e.g
    exact ⟨q1,by omega⟩
  revert hw
  cases M.toWrite e.o <;> cases has e.o r.held <;> cases wrs T e.g e.o <;> simp [h1]
 ·revert hW
  cases M.toWrite e.o <;> cases anyWr T e.o <;> simp [h1]
 ·have hw:(M.toWrite e.o=false∧has e.o r.held=true) ↔ rds T e.g e.o=true:=by
   rw [rds_iff,hH]
   constructor
   ·rintro ⟨q1,q2⟩
    have:=h.fr _ q1 e.g
    omega
   ·intro q
    have q1:M.toWrite e.o=false:=by
     cases hz:M.toWrite e.o with
     | false=>rfl
     | true=>have:=(h.wr _ hz).2 e.g;omega
    have:=h.fr _ q1 e.g
    exact ⟨q1,by omega⟩
  revert hw
  cases M.toWrite e.o <;> cases has e.o r.held <;> cases rds T e.g e.o <;> simp [h1]
theorem ofGr_eq (hG:LkG T M) (hD:LkD T M) (hk:e.k=7∨e.k=8):M.askGor e=ofGr T e:=by
 unfold CS.askGor ofGr
 have hb:=hG.bg e.a
 rcases hk with h1|h1
 ·simp only [h1,if_true,hb]
 ·have h17:¬ e.k=7:=by omega
  simp only [if_neg h17]
  cases hq:M.gs e.a with
  | none =>
   rw [hq] at hb
   have hb2:bgT T e.a=false:=hb.symm
   simp [hb2]
  | some q =>
   rw [hq] at hb
   have hb2:bgT T e.a=true:=hb.symm
   have ha:=hG.al e.a
   rw [hb2,Bool.true_and] at ha
   have hd:=hD.du _ _ hq
   cases hj:nmd T 8 e.a with
   | true =>
    rw [hj] at ha
    simp [hb2,ha]
   | false =>
    rw [hj] at ha
    by_cases h2:e.a=e.g
    ·rw [h2] at hb2 ha
     simp [h2,hb2,ha]
    ·by_cases h3:0 < q.as_
     ·simp [hb2,ha,h2,hd,h3]
     ·simp [hb2,ha,h2,hd,h3]
end
end Go.Proofs.YtaeehnaicnckgaaGreatDoor
namespace Go.Proofs.YtaeehnaicnckgaaGreatDoor
set_option linter.unusedSimpArgs false
def ofCh (T:List Me) (e:Me):Int :=
 match roomT T e.o with
 | none=>if e.k=9 then 0 else 14
 | some c =>
  if e.k=9 then 13
  else if 0 < cnA T 13 e.o∧(e.k=10∨e.k=13) then 15
  else if e.k=10∧1≤c∧c≤(cnA T 10 e.o:Int) - cnT T 12 e.o 1 then 16
  else if e.k=12∧e.a=1∧cnA T 10 e.o≤cnT T 12 e.o 1 then 17
  else if e.k=12∧e.a=0∧¬ 0 < cnA T 13 e.o then 18
  else if e.k=12∧e.a=0∧cnT T 12 e.o 1 < cnA T 10 e.o then 19
  else if e.k=13∧c=0∧cnT T 12 e.o 1 < cnA T 10 e.o then 20
  else if e.k=11 then match dueT T e.g with
   | none=>21
   | some d=>if (cnT T 12 e.o 1:Int) < d.2 then 22 else 0
  else 0
def ovl (e:Me) (o a:Int):Bool:=decide (o≤e.o+(e.a - 1)∧e.o≤o+(a - 1))
def ofOt (T:List Me) (e:Me):Int :=
 if e.k=14 then if cnZ T e.o+mzag e.a < 0∨2147483647 < cnZ T e.o+mzag e.a then 23 else 0
 else if e.k=15 then if cnZ T e.o=0 then 0 else 24
 else if e.k=16 then if e.a=1∧0 < cnT T 16 e.o 1 then 25 else if e.a=0∧¬ 0 < cnT T 16 e.o 1 then 26 else 0
 else if e.k=20 then if lvAny (ovl e) T then 27 else 0
 else if e.k=21 then if lvAny (fun o a=>decide (o=e.o∧a=e.a)) T then 0 else 28
 else 0
section
variable {T : List Me} {M : CS} {e : Me} {r : Gor} {k o a x g : Int}
structure LkV (T:List Me):Prop where
 le:∀ o,cnT T 12 o 1≤cnA T 10 o
theorem ask_recv (h:M.ask e r=0) (hk:e.k=12) (ha:e.a=1) {c:Chn} (hc:M.chans e.o=some c):c.inside≠0:=by
 unfold CS.ask CS.askChan at h
 simp [hk,hc,ha] at h
 exact h
theorem LkV.step (h:LkV T) (hC:LkC T M) (hc:Can M e r):LkV (T++[e]):=by
 refine ⟨fun o=>?_⟩
 have h0:=h.le o
 rw [cnT_snoc,cnA_snoc]
 by_cases h1:e.k=12∧e.o=o∧e.a=1
 ·obtain ⟨k1,rfl,k3⟩:=h1
  have hq:=ask_chan hc.ask (by omega) (by omega)
  have hcc:=hC.ch e.o
  cases hr:roomT T e.o with
  | none=>rw [hr] at hcc;have:=hq.2 hcc;omega
  | some c =>
   rw [hr] at hcc
   have hi:=ask_recv hc.ask k1 k3 hcc
   simp only [Chn.inside] at hi
   rw [if_pos ⟨k1,rfl,k3⟩]
   split <;> omega
 ·rw [if_neg h1]
  split <;> omega
theorem Rch.lkV (h:Rch T M):LkV T:=by
 induction h with
 | new=>exact ⟨fun _=>Nat.le_refl _⟩
 | step h0 hg hw ih=>obtain ⟨r,hc⟩:=why_can hw;exact ih.step h0.lkC hc
theorem ofCh_eq (hC:LkC T M) (hV:LkV T) (hD:LkD T M) (hg:Gdm e) (hr:M.gs e.g=some r) (hk:9≤e.k∧e.k≤13):M.askChan e r=ofCh T e:=by
 have hcc:=hC.ch e.o
 have hle:=hV.le e.o
 unfold CS.askChan ofCh
 cases hq:roomT T e.o with
 | none =>
  rw [hq] at hcc
  rw [hcc]
  rfl
 | some c =>
  rw [hq] at hcc
  rw [hcc]
  have hd:=hD.du _ _ hr
  simp only [Option.map_some,Chn.inside]
  generalize cnA T 10 e.o=s at *
  generalize cnT T 12 e.o 1=v at *
  generalize cnA T 13 e.o=q at *
  have:e.k=9∨e.k=10∨e.k=11∨e.k=12∨e.k=13:=by omega
  rcases this with h1|h1|h1|h1|h1
  ·simp [h1]
  ·by_cases h2:0 < q
   ·simp [h1,h2]
   ·by_cases h3:0 < c∧c≤(s:Int) - v
    ·have h4:1≤c∧c≤(s:Int) - v:=⟨by omega,h3.2⟩
     simp [h1,h2,h3,h4]
    ·have h4:¬ (1≤c∧c≤(s:Int) - v):=fun q=>h3 ⟨by omega,q.2⟩
     simp only [h1,h2]
     simp
     split
     ·rename_i h9;exact absurd h9 h4
     ·exact if_neg h3
  ·rw [hd]
   by_cases h2:0 < r.as_
   ·by_cases h3:(v:Int) < r.as_
    ·simp [h1,h2,h3]
    ·simp [h1,h2,h3]
   ·simp [h1,h2]
  ·rcases hg.rc h1 with h2|h2
   ·by_cases h3:0 < q
    ·by_cases h4:v < s
     ·have h5:0 < (s:Int) - v:=by omega
      simp [h1,h2,h3,h4,h5]
     ·have h5:¬ 0 < (s:Int) - v:=by omega
      simp [h1,h2,h3,h4,h5]
    ·simp [h1,h2,h3]
   ·by_cases h4:s≤v
    ·have h5:(s:Int) - v=0:=by omega
     simp [h1,h2,h4,h5]
    ·have h5:¬ (s:Int) - v=0:=by omega
     simp [h1,h2,h4,h5]
  ·by_cases h2:0 < q
   ·simp [h1,h2]
   ·by_cases h3:c=0∧0 < (s:Int) - v
    ·have h4:c=0∧v < s:=⟨h3.1,by omega⟩
     simp only [h1,if_pos h3,if_pos h4,h2]
     simp [h4]
    ·have h4:¬ (c=0∧v < s):=fun q=>h3 ⟨q.1,by omega⟩
     simp only [h1,if_neg h3,if_neg h4,h2]
     simp
theorem lvR_snoc (R:List Me) (x:Me) (o a:Int):lvR (R++[x]) o a=(lvR R o a || (decide (x.k=20∧x.o=o∧x.a=a) && !(R.any fun y=>decide (y.k=21∧y.o=o∧y.a=a)))):=by
 induction R with
 | nil =>
  by_cases h:x.k=20∧x.o=o∧x.a=a
  ·simp [lvR,h]
  ·simp [lvR,h]
 | cons y R ih =>
  rw [List.cons_append,lvR,lvR,ih]
  by_cases h1:y.k=20∧y.o=o∧y.a=a
  ·simp [h1]
  ·by_cases h2:y.k=21∧y.o=o∧y.a=a
   ·simp [h2]
   ·rw [if_neg h1,if_neg h2,if_neg h1,if_neg h2,List.any_cons,decide_eq_false h2,Bool.false_or]
theorem lvT_cons (x:Me) (o a:Int):lvT (x :: T) o a=(lvT T o a || (decide (x.k=20∧x.o=o∧x.a=a) && !(T.any fun y=>decide (y.k=21∧y.o=o∧y.a=a)))):=by
 unfold lvT
 rw [List.reverse_cons,lvR_snoc,List.any_reverse]
theorem lvAny_iff (p:Int→Int→Bool):lvAny p T=true ↔ ∃ o a,lvT T o a=true∧p o a=true:=by
 induction T with
 | nil=>exact ⟨fun h=>(by cases h),fun ⟨_,_,h,_⟩=>(by cases h)⟩
 | cons x T ih =>
  rw [lvAny,Bool.or_eq_true,ih]
  constructor
  ·rintro (h|⟨o,a,h1,h2⟩)
   ·rw [Bool.and_eq_true,Bool.and_eq_true] at h
    refine ⟨x.o,x.a,?_,h.2⟩
    rw [lvT_cons,Bool.or_eq_true,Bool.and_eq_true]
    exact .inr ⟨decide_eq_true ⟨of_decide_eq_true h.1.1,rfl,rfl⟩,h.1.2⟩
   ·exact ⟨o,a,by rw [lvT_cons,h1];rfl,h2⟩
  ·rintro ⟨o,a,h1,h2⟩
   rw [lvT_cons,Bool.or_eq_true,Bool.and_eq_true] at h1
   rcases h1 with h1|⟨h3,h4⟩
   ·exact .inr ⟨o,a,h1,h2⟩
   ·obtain ⟨k1,rfl,rfl⟩:=of_decide_eq_true h3
    refine .inl ?_
    rw [Bool.and_eq_true,Bool.and_eq_true]
    exact ⟨⟨decide_eq_true k1,h4⟩,h2⟩
theorem ofOt_eq (hO:LkO T M) (hA:LkA T M):M.askOther e=ofOt T e:=by
 unfold CS.askOther ofOt
 rw [hO.ct,hO.on]
 by_cases h14:e.k=14
 ·simp [h14]
 by_cases h15:e.k=15
 ·simp [h15]
 by_cases h16:e.k=16
 ·simp [h16]
 by_cases h20:e.k=20
 ·have ho:=hA.over e.o e.a
  have hl:lvAny (ovl e) T=true ↔ ∃ p,nxt e.o M.mem=some p∧p.2≤e.o+(e.a - 1):=by
   rw [lvAny_iff,ho]
   constructor
   ·rintro ⟨o,a,h1,h2⟩;exact ⟨o,a,h1,of_decide_eq_true h2⟩
   ·rintro ⟨o,a,h1,h2⟩;exact ⟨o,a,h1,decide_eq_true h2⟩
  simp only [h20]
  simp
  cases hn:nxt e.o M.mem with
  | none =>
   have:lvAny (ovl e) T=false:=by
    cases h9:lvAny (ovl e) T with
    | false=>rfl
    | true=>obtain ⟨p,hp,_⟩:=hl.1 h9;rw [hn] at hp;cases hp
   simp [this]
  | some p =>
   by_cases hp:p.2≤e.o+(e.a - 1)
   ·have:=hl.2 ⟨p,hn,hp⟩
    simp [this,hp]
   ·have:lvAny (ovl e) T=false:=by
     cases h9:lvAny (ovl e) T with
     | false=>rfl
     | true=>obtain ⟨q,hq,h8⟩:=hl.1 h9;rw [hn] at hq;cases hq;exact absurd h8 hp
    simp [this,hp]
 by_cases h21:e.k=21
 ·have hf:=hA.free e.o e.a
  have hl:lvAny (fun o a=>decide (o=e.o∧a=e.a)) T=true ↔ nxt (e.o+(e.a - 1)) M.mem=some (e.o+(e.a - 1),e.o):=by
   rw [lvAny_iff,hf]
   constructor
   ·rintro ⟨o,a,h1,h2⟩
    obtain ⟨rfl,rfl⟩:=of_decide_eq_true h2
    exact h1
   ·intro h1;exact ⟨e.o,e.a,h1,decide_eq_true ⟨rfl,rfl⟩⟩
  simp only [if_neg h14,if_neg h15,if_neg h16,if_neg h20,if_pos h21]
  by_cases hn:nxt (e.o+(e.a - 1)) M.mem=some (e.o+(e.a - 1),e.o)
  ·rw [if_pos hn,if_pos (hl.2 hn)]
  ·rw [if_neg hn,if_neg (fun q=>hn (hl.1 q))]
 simp [h14,h15,h16,h20,h21]
def rsn (T:List Me) (e:Me):Int :=
 if bgT T e.g=false then 1
 else if nmd T 8 e.g then 2
 else if (match dueT T e.g with
  | none=>false
  | some d=>decide (e.k≠11∨e.o≠d.1)) then 3
 else if 3≤e.k∧e.k≤6 then ofLk T e
 else if e.k=7∨e.k=8 then ofGr T e
 else if 9≤e.k∧e.k≤13 then ofCh T e
 else ofOt T e
theorem ask_rsn (hL:LkL T M) (hG:LkG T M) (hD:LkD T M) (hC:LkC T M) (hV:LkV T) (hO:LkO T M) (hA:LkA T M) (hg:Gdm e) (hr:M.gs e.g=some r):M.ask e r=if 3≤e.k∧e.k≤6 then ofLk T e else if e.k=7∨e.k=8 then ofGr T e else if 9≤e.k∧e.k≤13 then ofCh T e else ofOt T e:=by
 unfold CS.ask
 by_cases h1:3≤e.k∧e.k≤6
 ·rw [if_pos h1,if_pos h1,ofLk_eq hL hr h1]
 ·rw [if_neg h1,if_neg h1]
  by_cases h2:e.k=7∨e.k=8
  ·rw [if_pos h2,if_pos (by omega),ofGr_eq hG hD h2]
  ·rw [if_neg h2]
   have h3:¬ (7≤e.k∧e.k≤8):=by omega
   rw [if_neg h3]
   by_cases h4:9≤e.k∧e.k≤13
   ·rw [if_pos h4,if_pos h4,ofCh_eq hC hV hD hg hr h4]
   ·rw [if_neg h4,if_neg h4,ofOt_eq hO hA]
theorem why_rsn (hL:LkL T M) (hG:LkG T M) (hD:LkD T M) (hC:LkC T M) (hV:LkV T) (hO:LkO T M) (hA:LkA T M) (hg:Gdm e):M.why e=rsn T e:=by
 unfold CS.why rsn
 have hb:=hG.bg e.g
 cases hr:M.gs e.g with
 | none =>
  rw [hr] at hb
  have hb2:bgT T e.g=false:=hb.symm
  rw [if_pos hb2]
 | some r =>
  rw [hr] at hb
  have hb2:bgT T e.g=true:=hb.symm
  rw [if_neg (by rw [hb2];decide)]
  have ha:=hG.al e.g
  rw [hb2,Bool.true_and] at ha
  have hd:=hD.du _ _ hr
  have hk:=ask_rsn hL hG hD hC hV hO hA hg hr
  have hact:M.act e=if has e.g M.alive then if 0 < r.as_∧(e.k≠11∨e.o≠r.to) then 3 else 0 else 2:=by unfold CS.act;rw [hr]
  simp only
  cases hj:nmd T 8 e.g with
  | true =>
   rw [hj] at ha
   have ha2:has e.g M.alive=false:=ha
   rw [hact,ha2]
   simp
  | false =>
   rw [hj] at ha
   have ha2:has e.g M.alive=true:=ha
   rw [hact,ha2,hd]
   by_cases h1:0 < r.as_
   ·by_cases h2:e.k≠11∨e.o≠r.to
    ·simp only [h1,h2]
     simp
     intro q1 q2
     rcases h2 with h2|h2
     ·exact absurd q1 h2
     ·exact absurd q2 h2
    ·have q1:e.k=11:=by omega
     have q2:e.o=r.to:=by omega
     rw [hk]
     simp [h1,q1,q2]
   ·simp only [h1,hk];simp
theorem Rch.why (h:Rch T M) (hg:Gdm e):M.why e=rsn T e:=why_rsn h.lkL h.lkG h.lkD h.lkC h.lkV h.lkO h.lkA hg
end
end Go.Proofs.YtaeehnaicnckgaaGreatDoor
namespace Go.Proofs.YtaeehnaicnckgaaGreatDoor
def fr:List Me→List Me→Nat→Int × Int
 | _,[],_=>(-1,0)
 | T,e :: es,i=>if rsn T e≠0 then ((i:Int),rsn T e) else fr (T++[e]) es (i+1)
theorem run_fr:∀ (es:List E6.Ev) (T:List Me) (M:CS) (i:Nat),Rch T M→(∀ e ∈ es,Gdm (me e))→M.run es i=fr T (es.map me) i:=by
 intro es
 induction es with
 | nil=>intro T M i _ _;rfl
 | cons e es ih =>
  intro T M i h hg
  have h1:=h.why (hg e (List.mem_cons_self ..))
  rw [CS.run,List.map_cons,fr,h1]
  by_cases hw:rsn T (me e)≠0
  ·rw [if_pos hw,if_pos hw]
  ·rw [if_neg hw,if_neg hw]
   exact ih _ _ _ (.step h (hg e (List.mem_cons_self ..)) (by rw [h1];omega)) fun x hx=>hg x (List.mem_cons_of_mem _ hx)
theorem chk_arg {g k o a:Int} {ls:List ByteArray} (h:E6.chk g k o a ls=0):E6.argB k.toNat a=true:=by
 unfold E6.chk at h
 split at h
 ·split at h
  ·cases h
  ·split at h
   ·split at h
    ·assumption
    ·cases h
   ·cases h
 ·cases h
theorem gdm_of {e:E6.Ev} (h:e.chk=0) (hok:e.ok):Gdm (me e)∧Eb e.g e.k e.o e.a:=by
 have hb:Eb e.g e.k e.o e.a:=chk_eb (ls:=e.ls) h hok.ho.1 hok.ho.2 hok.ha.1 hok.ha.2
 refine ⟨⟨⟨hb.ok.g0,hb.ok.g1⟩,fun hk=>?_,fun hk=>?_,fun hk=>?_⟩,hb⟩
 ·have h1:=chk_arg (g:=e.g) (k:=e.k) (o:=e.o) (a:=e.a) (ls:=e.ls) h
  have h2:e.k=16:=hk
  rw [h2] at h1
  have h3:=of_decide_eq_true h1
  have h4:e.a≤1:=h3.2
  have:=hok.ha
  show e.a=0∨e.a=1
  omega
 ·have:=hb.rc hk;have:=hok.ha;show e.a=0∨e.a=1;omega
 ·exact (hb.al (.inl hk)).1
def Mde (T:List Me):Prop:=∀ P e S,T=P++e :: S→e.k=10→(roomT P e.o).isSome=true
theorem Rch.mde {T:List Me} {M:CS} (h:Rch T M):Mde T:=by
 induction h with
 | new=>intro P e S h;exact absurd h (by simp)
 | @step T M e h0 hg hw ih =>
  intro P x S he hk
  rcases List.eq_nil_or_concat S with rfl|⟨S',y,rfl⟩
  ·have h1:=List.append_inj' he rfl
   obtain ⟨rfl,h2⟩:=h1
   cases h2
   obtain ⟨r,hc⟩:=why_can hw
   have h3:=ask_chan hc.ask (by omega) (by omega)
   have h4:=h0.lkC.ch e.o
   cases hq:roomT T e.o with
   | some _=>rfl
   | none =>
    rw [hq] at h4
    have:=h3.2 h4
    omega
  ·have h1:T++[e]=(P++x :: S')++[y]:=by rw [he];simp
   have h2:=List.append_inj' h1 rfl
   exact ih P x S' h2.1 hk
def Tj (es:List E6.Ev) (j:Nat):List Me:=(es.take j).map me
theorem Tj_succ {es:List E6.Ev} {j:Nat} {e:E6.Ev} (he:es[j]?=some e):Tj es (j+1)=Tj es j++[me e]:=by
 obtain ⟨hl,h9⟩:=List.getElem?_eq_some_iff.1 he
 unfold Tj
 rw [List.take_succ_eq_append_getElem hl,h9,List.map_append]
 rfl
theorem Tj_zero (es:List E6.Ev):Tj es 0=[]:=by unfold Tj;simp
theorem Tj_all {es:List E6.Ev} {n:Nat} (h:es.length=n):Tj es n=es.map me:=by
 unfold Tj;rw [← h,List.take_length]
theorem Tj_len {es:List E6.Ev} {n:Nat} (h:es.length=n) {j:Nat} (hj:j≤n):(Tj es j).length=j:=by
 unfold Tj;rw [List.length_map,List.length_take];omega
theorem Tj_split {es:List E6.Ev} {j:Nat} {e:E6.Ev} (he:es[j]?=some e):es.map me=Tj es j++me e :: (es.drop (j+1)).map me:=by
 obtain ⟨hl,h9⟩:=List.getElem?_eq_some_iff.1 he
 conv=>lhs;rw [← List.take_append_drop j es]
 rw [List.map_append,List.drop_eq_getElem_cons hl,h9]
 rfl
def cnX (T:List Me) (g k o:Int):Nat:=if g < 0 then cnA T k o else cnG T g k o
theorem cnX_nil (g k o:Int):cnX [] g k o=0:=by unfold cnX;split <;> rfl
theorem cnX_snoc {T:List Me} {e:Me} {g k o:Int}:cnX (T++[e]) g k o=cnX T g k o+(if (g < 0∨e.g=g)∧e.k=k∧e.o=o then 1 else 0):=by
 unfold cnX
 by_cases h:g < 0
 ·rw [if_pos h,if_pos h,cnA_snoc]
  congr 1
  by_cases h2:e.k=k∧e.o=o
  ·rw [if_pos h2,if_pos ⟨.inl h,h2⟩]
  ·rw [if_neg h2,if_neg (fun q=>h2 q.2)]
 ·rw [if_neg h,if_neg h]
  unfold cnG
  rw [List.countP_append]
  congr 1
  by_cases h2:e.g=g∧e.k=k∧e.o=o
  ·rw [if_pos ⟨.inr h2.1,h2.2⟩];simp [h2]
  ·rw [if_neg (fun q=>h2 ⟨q.1.resolve_left h,q.2⟩)];simp [h2]
theorem cnX_le (T:List Me) (g k o:Int):cnX T g k o≤T.length:=by
 unfold cnX cnA cnG
 split <;> exact List.countP_le_length
theorem cnT_le (T:List Me) (k o a:Int):cnT T k o a≤T.length:=List.countP_le_length
theorem cnX_all (T:List Me) (k o:Int):cnX T (-1) k o=cnA T k o:=if_pos (by decide)
theorem cnX_g {T:List Me} {g k o:Int} (h:0≤g):cnX T g k o=cnG T g k o:=if_neg (by omega)
theorem nmd_append (T U:List Me) (k x:Int):nmd (T++U) k x=(nmd T k x || nmd U k x):=by unfold nmd;rw [List.any_append]
theorem nmd_found {T U:List Me} {e:Me} {k x:Int} (h1:e.k=k) (h2:e.a=x):nmd (T++e :: U) k x=true:=by
 rw [nmd_append];unfold nmd;simp [h1,h2]
theorem roomT_append (T U:List Me) (o:Int):roomT (T++U) o=match roomT T o with
  | some r=>some r
  | none=>roomT U o:=by
 induction T with
 | nil=>rfl
 | cons x T ih =>
  rw [List.cons_append,roomT,roomT]
  by_cases h:x.k=9∧x.o=o
  ·rw [if_pos h,if_pos h]
  ·rw [if_neg h,if_neg h,ih]
end Go.Proofs.YtaeehnaicnckgaaGreatDoor
