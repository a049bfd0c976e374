import Derived.Test.YtimgkhdgliojgaaGreatDoorOg35
set_option maxRecDepth 8000
set_option maxHeartbeats 8000000
set_option linter.unusedVariables false
namespace Go.Proofs.YtimgkhdgliojgaaGreatDoor.E6
open Go.RowKit Go.Maps Go.Shelf
def Good (L:List ByteArray) (N:List Nd):Prop:=N.Nodup∧∀ n ∈ N,n.1 < N.length∧n.2 < L.length
structure Stt where
 L:List ByteArray
 N:List Nd
 id:Nat
def stp (s:Stt) (t:ByteArray):Stt:=⟨internL s.L t,s.N++[(s.id,place (internL s.L t) t)],s.N.length+1⟩
def runs (s:Stt) (r:List ByteArray):Stt:=r.foldl stp s
theorem runs_snoc (s:Stt) (r:List ByteArray) (t:ByteArray):runs s (r++[t])=stp (runs s r) t:=by simp [runs]
theorem total_append (a b:List ByteArray):total (a++b)=total a+total b:=by simp [total]
theorem total_sub {E:List ByteArray}:∀ {M:List ByteArray},E.Nodup→(∀ x ∈ E,x ∈ M)→total E≤total M∧E.length≤M.length:=by
 induction E with
 | nil=>intro M _ _;simp [total]
 | cons x E ih =>
  intro M hd hs
  obtain ⟨s,t,rfl⟩:=List.append_of_mem (hs x (by simp))
  have hd':=List.nodup_cons.1 hd
  have h:=ih (M:=s++t) hd'.2 (fun y hy=>by
   have:=hs y (by simp [hy])
   simp at this ⊢
   rcases this with h|h|h
   ·exact .inl h
   ·subst h;exact absurd hy hd'.1
   ·exact .inr h)
  rw [total_append] at h ⊢
  have e1:total (x :: E)=x.size+total E:=by simp [total]
  have e2:total (x :: t)=x.size+total t:=by simp [total]
  rw [e1,e2]
  simp only [List.length_append,List.length_cons] at h ⊢
  omega
theorem internL_old {L:List ByteArray} {s:ByteArray} (h:s ∈ L):internL L s=L:=by unfold internL;rw [isIn_iff.2 h];rfl
theorem internL_new {L:List ByteArray} {s:ByteArray} (h:s ∉ L) (hr:roomy L.length (total L) s.size=true):internL L s=L++[s]:=by
 unfold internL;rw [isIn_not.2 h,hr];rfl
theorem place_snoc {L:List ByteArray} {s:ByteArray} (h:s ∉ L):place (L++[s]) s=L.length:=by
 induction L with
 | nil=>simp [place]
 | cons x l ih =>
  rw [List.cons_append]
  unfold place
  rw [if_neg (by intro e;apply h;cases x;cases s;subst e;simp),ih (fun hm=>h (by simp [hm]))];simp
theorem place_lt {L:List ByteArray} {s:ByteArray} (h:s ∈ L):place L s < L.length:=(List.getElem?_eq_some_iff.1 (place_get h)).1
structure Mid (L0:List ByteArray) (N0:List Nd) (id0:Nat) (r:List ByteArray) (k:Nat) (s:Stt):Prop where
 ext:∃ E:List ByteArray,s.L=L0++E∧(E.Nodup∧∀ x ∈ E,x ∈ newS L0 r)
 nodes:s.N.length=N0.length+k
 idle:s.id≤s.N.length
 good:Good s.L s.N
 fresh:∀ t,r.reverse[k]?=some t→(s.id,place (internL s.L t) t) ∉ s.N
 nodup:s.L.Nodup
theorem Mid.room {L0:List ByteArray} {N0:List Nd} {id0 k:Nat} {r:List ByteArray} {s:Stt} (h:Mid L0 N0 id0 r k s) (hR:Roomy L0 N0.length r) {t:ByteArray} (ht:t ∈ r):t ∈ s.L∨roomy s.L.length (total s.L) t.size=true:=by
 by_cases hin:t ∈ s.L
 ·exact .inl hin
 ·right
  obtain ⟨E,hE,hd,hm⟩:=h.ext
  have hnot:t ∉ L0∧t ∉ E:=by rw [hE] at hin;simp at hin;exact hin
  have hnew:t ∈ newS L0 r:=(newS_mem _ _ _).2 ⟨ht,hnot.1⟩
  have h2:=total_sub (E:=t :: E) (M:=newS L0 r) (List.nodup_cons.2 ⟨hnot.2,hd⟩) (by intro x hx;rcases List.mem_cons.1 hx with rfl|hx;exact hnew;exact hm x hx)
  have e1:total (t :: E)=t.size+total E:=by simp [total]
  rw [e1] at h2
  have:=hR.each t hnew
  have:=hR.count
  have:=hR.sum
  unfold roomy
  apply decide_eq_true
  rw [hE,total_append,List.length_append]
  simp only [List.length_cons] at h2
  omega
theorem Mid.answers {L0:List ByteArray} {N0:List Nd} {id0 k:Nat} {r:List ByteArray} {s:Stt} (h:Mid L0 N0 id0 r k s) (hR:Roomy L0 N0.length r) {t:ByteArray} (ht:t ∈ r) :
  internV s.L t=.tuple #[.int .i64 (place (internL s.L t) t:Int),.int .i64 0]∧t ∈ internL s.L t:=by
 rcases h.room hR ht with hin|hr
 ·rw [internL_old hin];unfold internV;rw [isIn_iff.2 hin];exact ⟨rfl,hin⟩
 ·by_cases hin:t ∈ s.L
  ·rw [internL_old hin];unfold internV;rw [isIn_iff.2 hin];exact ⟨rfl,hin⟩
  ·rw [internL_new hin hr,place_snoc hin];unfold internV;rw [isIn_not.2 hin,hr];exact ⟨rfl,by simp⟩
theorem Mid.step {L0:List ByteArray} {N0:List Nd} {id0 k:Nat} {r:List ByteArray} {s:Stt} (h:Mid L0 N0 id0 r k s) (hR:Roomy L0 N0.length r) {t:ByteArray} (ht:r.reverse[k]?=some t):Mid L0 N0 id0 r (k+1) (stp s t):=by
 have htr:t ∈ r:=by have:=List.mem_of_getElem? ht;simpa using this
 have hin:=(h.answers hR htr).2
 have hL:∃ E,internL s.L t=s.L++E:=by
  unfold internL;split
  ·exact ⟨[],by simp⟩
  ·split
   ·exact ⟨_,rfl⟩
   ·exact ⟨[],by simp⟩
 obtain ⟨E',hE'⟩:=hL
 have hg:Good (stp s t).L (stp s t).N:=by
  refine ⟨?_,?_⟩
  ·show (s.N++[_]).Nodup
   rw [List.nodup_append]
   refine ⟨h.good.1,by simp,?_⟩
   intro a ha b hb
   simp at hb
   rintro rfl
   exact h.fresh t ht (by rw [← hb];exact ha)
  ·intro n hn
   show n.1 < (s.N++[_]).length∧n.2 < (internL s.L t).length
   have hl:s.L.length≤(internL s.L t).length:=by rw [hE'];simp
   rcases List.mem_append.1 hn with hn|hn
   ·have:=h.good.2 n hn;simp;omega
   ·simp at hn;subst hn
    have:=h.idle
    have:=place_lt hin
    simp;omega
 refine ⟨?_,by show (s.N++[_]).length=_;have:=h.nodes;simp;omega,by show s.N.length+1≤(s.N++[_]).length;simp,hg,?_,?_⟩
 ·obtain ⟨E,hE,hd,hm⟩:=h.ext
  show ∃ E,internL s.L t=_∧_
  by_cases hs:t ∈ s.L
  ·rw [internL_old hs];exact ⟨E,hE,hd,hm⟩
  ·have hr:=(h.room hR htr).resolve_left hs
   rw [internL_new hs hr,hE]
   have hnot:t ∉ L0∧t ∉ E:=by rw [hE] at hs;simp at hs;exact hs
   refine ⟨E++[t],by simp,?_,?_⟩
   ·rw [List.nodup_append]
    exact ⟨hd,by simp,by intro a ha b hb;simp at hb;rintro rfl;exact hnot.2 (by rw [← hb];exact ha)⟩
   ·intro x hx
    rcases List.mem_append.1 hx with hx|hx
    ·exact hm x hx
    ·simp at hx;subst hx;exact (newS_mem _ _ _).2 ⟨htr,hnot.1⟩
 ·intro u _ hm
  have:=(hg.2 _ hm).1
  have e1:(stp s t).id=s.N.length+1:=rfl
  have e2:(stp s t).N.length=s.N.length+1:=by show (s.N++[_]).length=_;simp
  simp only at this
  omega
 ·show (internL s.L t).Nodup
  by_cases hs:t ∈ s.L
  ·rw [internL_old hs];exact h.nodup
  ·have hr:=(h.room hR htr).resolve_left hs
   rw [internL_new hs hr,List.nodup_append]
   exact ⟨h.nodup,by simp,by intro a ha b hb;simp at hb;rintro rfl;exact hs (by rw [← hb];exact ha)⟩
theorem kn_le {L:List ByteArray} {N:List Nd}:∀ {r:List ByteArray} {id:Nat},id≤N.length→(kn L N id r).1≤N.length:=by
 intro r
 induction r with
 | nil=>intro id h;exact h
 | cons s r ih =>
  intro id h
  unfold kn
  split
  ·exact ih (nid_le _ _)
  ·exact h
theorem kn_len {L:List ByteArray} {N:List Nd}:∀ {r:List ByteArray} {id:Nat},(kn L N id r).2.length≤r.length∧(kn L N id r).2=r.drop (r.length - (kn L N id r).2.length):=by
 intro r
 induction r with
 | nil=>intro id;simp [kn]
 | cons s r ih =>
  intro id
  unfold kn
  split
  ·have h:=@ih (nid N (id,place L s))
   refine ⟨by simp;omega,?_⟩
   have e:(s :: r).length - (kn L N (nid N (id,place L s)) r).2.length=(r.length - (kn L N (nid N (id,place L s)) r).2.length)+1:=by simp;omega
   rw [e,List.drop_succ_cons]
   exact h.2
  ·simp
theorem kn_fresh {L:List ByteArray} {N:List Nd} (hf:∀ n ∈ N,n.2 < L.length):∀ {r:List ByteArray} {id:Nat} {t:ByteArray},(kn L N id r).2[0]?=some t→(t ∈ L∨roomy L.length (total L) t.size=true)→((kn L N id r).1,place (internL L t) t) ∉ N:=by
 intro r
 induction r with
 | nil=>intro id t h;simp [kn] at h
 | cons s r ih =>
  intro id t
  unfold kn
  split
  ·exact ih
  ·rename_i hc
   intro h hr
   simp at h
   subst h
   by_cases hs:s ∈ L
   ·rw [internL_old hs]
    intro hm
    exact hc ⟨isIn_iff.2 hs,by rw [nid,if_pos hm];omega⟩
   ·rw [internL_new hs (hr.resolve_left hs),place_snoc hs]
    intro hm
    have:=hf _ hm
    simp at this
theorem Mid.start {L:List ByteArray} {N:List Nd} {r0 r:List ByteArray} (hg:Good L N) (hd:L.Nodup) (hr:r=(kn L N 0 r0).2.reverse) (hR:Roomy L N.length r):Mid L N (kn L N 0 r0).1 r 0 ⟨L,N,(kn L N 0 r0).1⟩:=by
 have m0:Mid L N (kn L N 0 r0).1 [] 0 ⟨L,N,(kn L N 0 r0).1⟩:=⟨⟨[],by simp,by simp,by simp⟩,rfl,kn_le (Nat.zero_le _),hg,by simp,hd⟩
 refine ⟨⟨[],by simp,by simp,by simp⟩,rfl,m0.idle,hg,?_,hd⟩
 intro t ht
 have e:r.reverse=(kn L N 0 r0).2:=by rw [hr,List.reverse_reverse]
 rw [e] at ht
 refine kn_fresh (fun n hn=>(hg.2 n hn).2) ht ?_
 by_cases hs:t ∈ L
 ·exact .inl hs
 ·right
  have htr:t ∈ r:=by rw [hr,List.mem_reverse];exact List.mem_of_getElem? ht
  have hnew:t ∈ newS L r:=(newS_mem _ _ _).2 ⟨htr,hs⟩
  have h2:=total_sub (E:=[t]) (M:=newS L r) (by simp) (by intro x hx;simp at hx;subst hx;exact hnew)
  have e1:total [t]=t.size:=by simp [total]
  rw [e1] at h2
  have:=hR.each t hnew
  have:=hR.count
  have:=hR.sum
  unfold roomy
  apply decide_eq_true
  simp only [List.length_cons,List.length_nil] at h2
  omega
end Go.Proofs.YtimgkhdgliojgaaGreatDoor.E6
namespace Go.Proofs.YtimgkhdgliojgaaGreatDoor.E6
open Go.RowKit Go.Maps Go.Shelf
attribute [local go_sem] Oper.semAt_some
structure St (w:World) (T S:Nat→Prop) (tb fb:Nat) (L:List ByteArray) (N:List Nd):Prop where
 both:∃ tv tm v mb,Tab w tb T L tv tm∧Frs w fb tb S N v mb
 dis:∀ k,T k→¬ S k
 tlt:∀ k,T k→k < w.heap.size
 slt:∀ k,S k→k < w.heap.size
theorem St.but {w w':World} {T S U:Nat→Prop} {tb fb:Nat} {L:List ByteArray} {N:List Nd} (h:St w T S tb fb L N) (hb:But U w w') (hT:∀ k,T k→¬ U k) (hS:∀ k,S k→¬ U k):St w' T S tb fb L N:=by
 obtain ⟨tv,tm,v,mb,h1,h2⟩:=h.both
 exact ⟨⟨tv,tm,v,mb,h1.kept hb hT,h2.kept hb hS⟩,h.dis,fun k hk=>Nat.lt_of_lt_of_le (h.tlt k hk) hb.size,fun k hk=>Nat.lt_of_lt_of_le (h.slt k hk) hb.size⟩
theorem frozen_new (w:World) (u:Value) (t:TypeId) (j:Nat):(w.alloc (.cells #[u] t)).frozen? ⟨w.heap.size,j,none⟩=false:=frozen_of_row _ _ j _ t (heap_alloc_new w _)
theorem rest_eq {L:List ByteArray} {N:List Nd} (ls:List ByteArray):(kn L N 0 ls.reverse).2.reverse=ls.take (kn L N 0 ls.reverse).2.length:=by
 have h:=@kn_len L N ls.reverse 0
 have hl:=h.1
 rw [List.length_reverse] at hl
 have e:=h.2
 rw [List.length_reverse,List.drop_reverse,show ls.length - (ls.length - (kn L N 0 ls.reverse).2.length)=(kn L N 0 ls.reverse).2.length by omega] at e
 rw [e,List.reverse_reverse,← e]
theorem restV_form {w:World} {a:Option Addr} {n c m:Nat} {ls:List ByteArray} (hr:SRow w a n ls) (hm:m≤n) (hc:n≤c):∃ ra rc,restV a c m=.slice ra m rc∧m≤rc∧SRow w ra m (ls.take m)∧(m≠0→ra=a):=by
 unfold restV
 by_cases h:m=0
 ·subst h;exact ⟨none,0,by simp,Nat.le_refl _,⟨by simp,.inl rfl⟩,fun e=>absurd rfl e⟩
 ·rw [if_neg h];exact ⟨a,c,rfl,by omega,hr.take hm,fun _=>rfl⟩
def mids (L:List ByteArray) (N:List Nd) (id:Nat) (rest:List ByteArray) (k:Nat):Stt:=runs ⟨L,N,id⟩ (rest.take k)
theorem mids_all {L:List ByteArray} {N:List Nd} {id:Nat} {rest:List ByteArray} (h0:Mid L N id rest.reverse 0 ⟨L,N,id⟩) (hR:Roomy L N.length rest.reverse):∀ k,k≤rest.length→Mid L N id rest.reverse k (mids L N id rest k):=by
 intro k
 induction k with
 | zero=>intro _;exact h0
 | succ k ih =>
  intro hk
  have e:mids L N id rest (k+1)=stp (mids L N id rest k) (rest.getD k ByteArray.empty):=by
   unfold mids;rw [← runs_snoc,List.take_add_one,getD_get (by omega)];rfl
  rw [e]
  exact (ih (by omega)).step hR (by rw [List.reverse_reverse];exact getD_get (by omega))
structure Rnd (w0:World) (T S:Nat→Prop) (tb fb ib:Nat) (s:Stt) (W:World):Prop where
 st:∃ T' S',St W T' S' tb fb s.L s.N∧(∀ k,T' k→T k∨w0.heap.size+2≤k)∧(∀ k,S' k→S k∨w0.heap.size+2≤k)
 but:But (fun k=>T k∨S k∨k=ib) w0 W
 cell:W.cell? ⟨ib,0,none⟩=some (.int .i64 (s.id:Int))
 free:W.frozen? ⟨ib,0,none⟩=false
theorem cell_block {w w':World} {a:Addr} {u:Value} (h:w.cell? a=some u) (hb:w'.heap[a.block]?=w.heap[a.block]?):w'.cell? a=some u:=by
 rw [← h];unfold World.cell?;rw [hb]
theorem frozen_block {w w':World} {a:Addr} (hb:w'.heap[a.block]?=w.heap[a.block]?):w'.frozen? a=w.frozen? a:=by
 unfold World.frozen?;rw [hb]
theorem but_put (W:World) (l:Nat) (o:Obj):But (fun k=>k=l) W (W.putObj l o) :=
 ⟨rfl,rfl,rfl,by simp,fun k _ hk=>World.putObj_heap_other hk⟩
theorem Rnd.kept {w0:World} {T S:Nat→Prop} {tb fb ib:Nat} {s:Stt} {W W':World} {l:Nat} (h:Rnd w0 T S tb fb ib s W) (hb:But (fun k=>k=l) W W') (hl:l=w0.heap.size∨l=w0.heap.size+1) (hT:∀ k,T k∨S k∨k=ib→k < w0.heap.size):Rnd w0 T S tb fb ib s W':=by
 obtain ⟨T',S',hst,h1,h2⟩:=h.st
 have hne:∀ k,(T k∨S k∨k=ib)∨w0.heap.size+2≤k→¬ k=l:=by
  intro k hk e
  rcases hk with hk|hk
  ·have:=hT k hk;omega
  ·omega
 have hi:W'.heap[ib]?=W.heap[ib]?:=hb.block ib (World.block_lt_of_cell? W _ h.cell) (hne ib (.inl (.inr (.inr rfl))))
 refine ⟨⟨T',S',hst.but hb ?_ ?_,h1,h2⟩,?_,cell_block h.cell hi,(frozen_block (a:=⟨ib,0,none⟩) hi).trans h.free⟩
 ·intro k hk;exact hne k ((h1 k hk).imp (fun e=>.inl e) id)
 ·intro k hk;exact hne k ((h2 k hk).imp (fun e=>.inr (.inl e)) id)
 ·exact h.but.trans hb (fun i hi e=>by subst e;omega)
theorem intern_f {w:World} {T S:Nat→Prop} {tb fb:Nat} {L:List ByteArray} {N:List Nd} (h:St w T S tb fb L N) (hg:Good L N) (a:Option Addr) (n c:Nat) (ls:List ByteArray) (hr:SRow w a n ls) (hn:n≤16) (hc:n≤c) (hz:∀ s ∈ ls,s.size≤maxLen)
  (hrT:∀ b off,a=some ⟨b,off,none⟩→n≠0→¬ T b∧¬ S b) (hR:Roomy L N.length (kn L N 0 ls.reverse).2.reverse) :
  Calls Tryz.prog 136 #[.pointer (some ⟨fb,0,none⟩),.slice a n c] w fun e w'=>e=.returned (.tuple #[.int .i64 ((runs ⟨L,N,(kn L N 0 ls.reverse).1⟩ (kn L N 0 ls.reverse).2).id:Int),.int .i64 0]) ∧
   (∃ T' S',St w' T' S' tb fb (runs ⟨L,N,(kn L N 0 ls.reverse).1⟩ (kn L N 0 ls.reverse).2).L (runs ⟨L,N,(kn L N 0 ls.reverse).1⟩ (kn L N 0 ls.reverse).2).N∧(∀ k,T' k→T k∨w.heap.size≤k)∧(∀ k,S' k→S k∨w.heap.size≤k))∧But (fun k=>T k∨S k) w w':=by
 have H:Hid (St w T S tb fb L N):=h
 have hn':(n:Int)≤16:=by omega
 obtain ⟨W0,hW0⟩:∃ W0,W0=w.alloc (.cells #[.pointer (some ⟨fb,0,none⟩)] 191):=⟨_,rfl⟩
 have hb0:But (fun _=>False) w W0:=by rw [hW0];exact (But.refl _ _).alloc _
 have hS0:=h.but hb0 (fun _ _ e=>e) (fun _ _ e=>e)
 obtain ⟨tv,tm,v,mb,hT0,hF0⟩:=hS0.both
 have hr0:SRow W0 a n ls:=hr.but hb0 (fun _ _ _ _ e=>e)
 have HM:Hid _:=hide (missing_any fb tb W0 hF0.cell0)
 have HK:Hid _:=hide (known_any hT0 hF0 a n c ls hr0 hn hc hz)
 have x0:W0.cell? ⟨w.heap.size,0,none⟩=some (.pointer (some ⟨fb,0,none⟩)):=by rw [hW0];exact cell_new _ _ _
 have hB0:W0.heap.size=w.heap.size+1:=by rw [hW0];simp
 have hre:=rest_eq (L:=L) (N:=N) ls
 have hml:=(@kn_len L N ls.reverse 0).1
 have HKL:Hid ((kn L N 0 ls.reverse).1≤262144):=hide (Nat.le_trans (kn_le (Nat.zero_le _)) hF0.len)
 have HMid:Hid _:=hide (Mid.start (r0:=ls.reverse) hg hT0.nodup rfl hR)
 obtain ⟨id,rest,hk⟩:∃ id rest,kn L N 0 ls.reverse=(id,rest):=⟨_,_,rfl⟩
 rw [hk] at hR HK hre hml HMid HKL ⊢
 dsimp only at hR HK hre hml HMid HKL ⊢
 rw [List.length_reverse,hr.len] at hml
 obtain ⟨ra,rc,hrv,hrc,hrr,hra⟩:=restV_form hr0 hml hc
 rw [hrv] at HK
 rw [← hre] at hrr
 generalize hm:rest.length=m at HK hrv hrc hrr hra hml hre
 have H0:Hid (St W0 T S tb fb L N):=hS0
 have HRr:Hid (SRow W0 ra m rest.reverse):=hrr
 have HBb:Hid (But (fun _=>False) w W0):=hb0
 have HG:Hid (Good L N):=hg
 have HRm:Hid (Roomy L N.length rest.reverse):=hR
 have HZ:Hid (∀ s ∈ rest.reverse,s.size≤maxLen):=hide (fun s hs=>hz s (by rw [hre] at hs;exact List.mem_of_mem_take hs))
 have hra':Hid (∀ b off,ra=some ⟨b,off,none⟩→m≠0→¬ T b∧¬ S b):=hide (fun b off e hm0=>hrT b off (by rw [← hra hm0];exact e) (by omega))
 have hid:id≤262144:=HKL.out
 have HTS:Hid (∀ k,w.heap.size≤k→¬ T k∧¬ S k):=hide (fun k hk=>⟨fun e=>by have:=h.tlt k e;omega,fun e=>by have:=h.slt k e;omega⟩)
 have HRlt:Hid (∀ b off,ra=some ⟨b,off,none⟩→m≠0→b < w.heap.size):=hide (fun b off e hm0=>by
  obtain ⟨b',off',e',hc'⟩:=hr.at (i:=0) (by omega)
  have:ra=a:=hra hm0
  rw [this,e'] at e
  cases e
  exact World.block_lt_of_cell? w _ hc')
 have HMl:Hid (rest.length=m∧m≤16):=⟨hm,by omega⟩
 clear h hg hr hz hrT hR hb0 hS0 hT0 hF0 hr0 hk hre hrv hrr hra hm H HKL
 refine (callsIn_wide (n:=3)).1 ?_
 refine callsIn_of_wp_marks Tryz.func136 rfl trivial ?_ rfl
 simp only [Tryz.ntmps136,List.size_toArray,List.length_cons,List.length_nil,Nat.reduceAdd,Nat.reduceSub,Array.replicate_succ,Array.replicate_zero,List.push_toArray,List.append_toArray,List.nil_append,List.cons_append]
 gi_wp2_with fail
 rw [← hW0]
 have HW0:Hid _:=hide hW0
 clear hW0
 refine ⟨trivial,CallsIn.mono (callsIn_wide.2 HM.out) ?_⟩
 rintro e w' ⟨rfl,rfl⟩
 gi_wp2_with fail
 refine ⟨trivial,CallsIn.mono (callsIn_wide.2 HK.out) ?_⟩
 rintro e w1 ⟨rfl,j,hj⟩
 have x1:w1.cell? ⟨w.heap.size,0,none⟩=some (.pointer (some ⟨fb,0,none⟩)):=by rw [hj];exact cell_drewN x0 j
 have s1:w1.heap.size=w.heap.size+1:=by rw [hj];exact hB0
 have hb1:But (fun _=>False) w' w1:=by rw [hj];exact But.of_below (below_drewN (Below.refl _ _) j)
 obtain ⟨W2,hW2⟩:∃ W2,W2=w1.alloc (.cells #[.int .i64 (id:Int)] 3):=⟨_,rfl⟩
 have hb2:But (fun _=>False) w' W2:=by rw [hW2];exact hb1.alloc _
 have H2:Hid (St W2 T S tb fb L N):=hide (H0.out.but hb2 (fun _ _ e=>e) (fun _ _ e=>e))
 have R2:Hid (SRow W2 ra m rest.reverse):=hide (HRr.out.but hb2 (fun _ _ _ _ e=>e))
 have y2:W2.cell? ⟨w.heap.size+1,0,none⟩=some (.int .i64 (id:Int)):=by rw [hW2,← s1];exact cell_new _ _ _
 have z2:W2.frozen? ⟨w.heap.size+1,0,none⟩=false:=by rw [hW2,← s1];exact frozen_new _ _ _ _
 have x2:W2.cell? ⟨w.heap.size,0,none⟩=some (.pointer (some ⟨fb,0,none⟩)):=by
  rw [hW2,← x1];exact (World.cell?_alloc_old _ _ _ (by rw [s1];simp))
 have s2:W2.heap.size=w.heap.size+2:=by rw [hW2,World.size_alloc,s1]
 have B2:Hid (But (fun _=>False) w W2):=hide (HBb.out.trans hb2 (fun _ _ e=>e))
 clear hj hb1 hb2
 gi_wp2_with fail
 rw [← hW2]
 have HHW2:Hid _:=hide hW2
 obtain ⟨tv2,tm2,v2,mb2,hT2,hF2⟩:=H2.out.both
 have HRo:Hid _:=hide (hasRoom_any hT2 hF2 ra m rc rest.reverse R2.out HMl.out.2 hrc HZ.out)
 clear hW2 hT2 hF2 x1 s1 x0 hB0
 refine ⟨trivial,CallsIn.mono (callsIn_wide.2 HRo.out) ?_⟩
 rintro e w3 ⟨⟨b,rfl,hb⟩,j3,hj3⟩
 obtain rfl:b=true:=hb.2 HRm.out
 have b3:But (fun _=>False) W2 w3:=by rw [hj3];exact But.of_below (below_drewN (Below.refl _ _) j3)
 have y3:w3.cell? ⟨w.heap.size+1,0,none⟩=some (.int .i64 (id:Int)):=by rw [hj3];exact cell_drewN y2 j3
 have z3:w3.frozen? ⟨w.heap.size+1,0,none⟩=false:=by rw [hj3];exact z2
 have x3:w3.cell? ⟨w.heap.size,0,none⟩=some (.pointer (some ⟨fb,0,none⟩)):=by rw [hj3];exact cell_drewN x2 j3
 have s3:w3.heap.size=w.heap.size+2:=by rw [hj3];exact s2
 have H3:Hid (St w3 T S tb fb L N):=hide (H2.out.but b3 (fun _ _ e=>e) (fun _ _ e=>e))
 have R3:Hid (SRow w3 ra m rest.reverse):=hide (R2.out.but b3 (fun _ _ _ _ e=>e))
 have B3:Hid (But (fun _=>False) w w3):=hide (B2.out.trans b3 (fun _ _ e=>e))
 clear hj3 b3 y2 z2 x2 s2 hb
 gi_wp2_with fail
 refine ⟨trivial,CallsIn.mono (backward_in _ _ _ _ _) ?_⟩
 rintro e w4 ⟨rfl,hw4⟩
 have b4:But (fun _=>False) w3 w4:=by rw [hw4];exact (But.refl _ _).alloc _
 have s4:w4.heap.size=w.heap.size+3:=by rw [hw4,World.size_alloc,s3]
 have x4:w4.cell? ⟨w.heap.size,0,none⟩=some (.pointer (some ⟨fb,0,none⟩)):=cell_block x3 (b4.block _ (World.block_lt_of_cell? _ _ x3) (fun e=>e))
 have y4:w4.cell? ⟨w.heap.size+1,0,none⟩=some (.int .i64 (id:Int)):=cell_block y3 (b4.block _ (World.block_lt_of_cell? _ _ y3) (fun e=>e))
 have z4:w4.frozen? ⟨w.heap.size+1,0,none⟩=false:=(frozen_block (a:=⟨w.heap.size+1,0,none⟩) (b4.block _ (World.block_lt_of_cell? _ _ y3) (fun e=>e))).trans z3
 have v4:w4.cell? ⟨w.heap.size+2,0,none⟩=some (.slice ra m rc):=by rw [hw4,← s3];exact cell_new _ _ _
 have H4:Hid (St w4 T S tb fb L N):=hide (H3.out.but b4 (fun _ _ e=>e) (fun _ _ e=>e))
 have R4:Hid (SRow w4 ra m rest.reverse):=hide (R3.out.but b4 (fun _ _ _ _ e=>e))
 have B4:Hid (But (fun _=>False) w w4):=hide (B3.out.trans b4 (fun _ _ e=>e))
 have TS:Hid (∀ k,T k∨S k→k < w.heap.size):=hide (fun k hk=>by
  have h0:=HBb.out.size
  rcases hk with hk|hk
  ·by_cases hlt:k < w.heap.size
   ·exact hlt
   ·exact absurd hk (HTS.out k (by omega)).1
  ·by_cases hlt:k < w.heap.size
   ·exact hlt
   ·exact absurd hk (HTS.out k (by omega)).2)
 have HW4:Hid (w4=w3.alloc (.cells #[.slice ra m rc] 33)):=hw4
 clear hw4 b4
 gi_wp2_with fail
 have hmi:Hid (∀ k,k≤m→Mid L N id rest.reverse k (mids L N id rest k)):=hide (fun k hk=>mids_all HMid.out HRm.out k (by have:=HMl.out;omega))
 refine range_rounds (n:=3) (by omega) (gf:=202) (lb:=#[.pointer (some ⟨w.heap.size+2,0,none⟩)]) rfl (enters_of Tryz.func202 (by kernel_rfl) rfl)
  (fun k=>#[.int .i64 ((m - 1 - k:Nat):Int),.string (rest.reverse.getD (m - 1 - k) ByteArray.empty)]) m (fun _=>rfl)
  (fun k W=>Rnd w4 T S tb fb (w.heap.size+1) (mids L N id rest k) W) ?hI ?h0 ?hseq
  (fun k=>{ tmps:=#[Value.pointer (some ⟨fb,0,none⟩),Value.slice a n c,.pointer (some ⟨w.heap.size,0,none⟩),undef,.int .i64 0,.int .i64 0,.pointer (some ⟨w.heap.size+1,0,none⟩),.slice ra m rc,undef,
   .string (rest.reverse.getD (m - 1 - k) ByteArray.empty),undef,undef,.pointer (some ⟨fb,0,none⟩),.bool false,.slice a n c,.int .i64 n,.bool (decide ((16:Int) < (n:Int))),.tuple #[.int .i64 id,.slice ra m rc],.pointer (some ⟨fb,0,none⟩),.slice a n c,.tuple #[.int .i64 id,.slice ra m rc],.int .i64 id,.slice ra m rc,.pointer (some ⟨fb,0,none⟩),.slice ra m rc,.bool true,.bool false,.slice ra m rc,
   .func (Fn.func 202) #[] #[.pointer (some ⟨w.heap.size+2,0,none⟩)],.int .i64 ((m - 1 - k:Nat):Int),.string (rest.reverse.getD (m - 1 - k) ByteArray.empty),undef,undef,undef,undef,undef,undef,undef,undef,undef,undef,undef,undef,undef,undef,undef],defers:=[] }) ?assign ?body ?done
 case hI =>
  intro k W o o' h hl
  refine h.kept (but_put W _ o') (.inr rfl) ?_
  intro b hb
  rcases hb with hb|hb|hb
  ·have:=TS.out b (.inl hb);omega
  ·have:=TS.out b (.inr hb);omega
  ·omega
 case h0 =>
  intro o
  have b5:But (fun _=>False) w4 ((w4.alloc (.deferred (some []))).alloc (.loop o)):=((But.refl _ _).alloc _).alloc _
  refine ⟨⟨T,S,H4.out.but b5 (fun _ _ e=>e) (fun _ _ e=>e),fun _ e=>.inl e,fun _ e=>.inl e⟩,b5.mono (fun _ e=>e.elim),cell_block y4 (b5.block _ (World.block_lt_of_cell? _ _ y4) (fun e=>e)),(frozen_block (a:=⟨w.heap.size+1,0,none⟩) (b5.block _ (World.block_lt_of_cell? _ _ y4) (fun e=>e))).trans z4⟩
 case hseq =>
  intro l J W hJI hY h0
  refine back1_in 2 (by omega) l (w.heap.size+2) m rc ra rest.reverse HMl.out.2 J ?_ hY W h0
  intro k W1 hj
  have h:=hJI k W1 hj
  refine ⟨cell_block v4 (h.but.block _ (World.block_lt_of_cell? _ _ v4) ?_),R4.out.but h.but ?_⟩
  ·rintro (e|e|e)
   ·have:=TS.out _ (.inl e);simp only at this;omega
   ·have:=TS.out _ (.inr e);simp only at this;omega
   ·simp only at e;omega
  ·intro b off e hm0
   have hx:=hra'.out b off e hm0
   rintro (e1|e1|e1)
   ·exact hx.1 e1
   ·exact hx.2 e1
   ·have:=HRlt.out b off e hm0;omega
 case assign =>
  intro l k W K hK
  gi_wp2
  exact hK
 case body =>
  intro l k W hk h hlt
  have hml':=HMl.out
  obtain ⟨t,ht⟩:∃ t,t=rest.getD k ByteArray.empty:=⟨_,rfl⟩
  have htr:rest.reverse.getD (m - 1 - k) ByteArray.empty=t:=by
   rw [ht,List.getD_eq_getElem?_getD,List.getD_eq_getElem?_getD,List.getElem?_reverse (by omega)]
   congr 2;omega
  have hgt:rest[k]?=some t:=by rw [ht];exact getD_get (by omega)
  have htm:t ∈ rest.reverse:=by rw [List.mem_reverse];exact List.mem_of_getElem? hgt
  have M:=hmi.out k (by omega)
  have A:=M.answers HRm.out htm
  have hfresh:=M.fresh t (by rw [List.reverse_reverse];exact hgt)
  have hstep:mids L N id rest (k+1)=stp (mids L N id rest k) t:=by
   unfold mids;rw [← runs_snoc,List.take_add_one,hgt];rfl
  have hnl:=M.nodes
  have hnm:=HRm.out.nodes
  rw [List.length_reverse] at hnm
  have hil:=M.idle
  obtain ⟨T',S',hst,h1,h2⟩:=h.st
  obtain ⟨tv',tm',v',mb',hT',hF'⟩:=hst.both
  have hTS:∀ k,(T k∨S k∨k=w.heap.size+1)→k < w4.heap.size:=by
   rintro b (hb|hb|hb)
   ·have:=TS.out b (.inl hb);omega
   ·have:=TS.out b (.inr hb);omega
   ·omega
  have nT:∀ k,k < w4.heap.size+2→¬ T k→¬ T' k:=fun b hb hn e=>by rcases h1 b e with e|e;exact hn e;omega
  have nS:∀ k,k < w4.heap.size+2→¬ S k→¬ S' k:=fun b hb hn e=>by rcases h2 b e with e|e;exact hn e;omega
  have oldN:∀ k,w.heap.size≤k→¬ T k∧¬ S k:=HTS.out
  have xW:W.cell? ⟨w.heap.size,0,none⟩=some (.pointer (some ⟨fb,0,none⟩)):=cell_block x4 (h.but.block _ (World.block_lt_of_cell? _ _ x4) (by
   rintro (e|e|e)
   ·exact (oldN _ (Nat.le_refl _)).1 e
   ·exact (oldN _ (Nat.le_refl _)).2 e
   ·simp only at e;omega))
  have cW:=hF'.cell0
  have HQ:Hid (Calls Tryz.prog 174 #[.pointer (some ⟨tb,0,none⟩),.string t] W fun e w'=>e=.returned (.tuple #[.int .i64 (place (internL (mids L N id rest k).L t) t:Int),.int .i64 0])∧(∃ v' mv',Tab w' tb (fun k=>T' k∨(W.heap.size≤k∧k < w'.heap.size)) (internL (mids L N id rest k).L t) v' mv')∧But T' W w'):=hide (by
   have:=intern_any hT' t (HZ.out t htm)
   rwa [A.1] at this)
  have HXF:Hid _:=hide hF'
  have HR:Hid (Rnd w4 T S tb fb (w.heap.size+1) (mids L N id rest k) W):=h
  have HSt:Hid (St W T' S' tb fb (mids L N id rest k).L (mids L N id rest k).N):=hst
  have Hn1:Hid _:=hide h1
  have Hn2:Hid _:=hide h2
  have HnT:Hid _:=hide nT
  have HnS:Hid _:=hide nS
  have HOld:Hid _:=hide oldN
  have HnTS:Hid _:=hide hTS
  have HSp:Hid _:=hide hstep
  have HMd:Hid _:=hide M
  have HFr:Hid _:=hide hfresh
  have HIn:Hid _:=hide A.2
  have Hlt:Hid _:=hide hlt
  have yW:=h.cell
  have zW:=h.free
  generalize hsk:mids L N id rest k=s at HQ HXF HR HSt HSp HMd HFr HIn yW zW hnl hil
  clear h1 h2 nT nS oldN hTS hstep M hfresh A h hst hT' hF' ht htm hgt
  rw [htr]
  gi_wp2_with fail
  refine ⟨trivial,CallsIn.mono (CallsIn.inRound l (callsIn_wide.2 HQ.out)) ?_⟩
  rintro e w5 ⟨rfl,⟨tv5,tm5,hT5⟩,hB5⟩
  have hi5:¬ T' (w.heap.size+1):=HnT.out _ (by omega) (HOld.out _ (by omega)).1
  have x5:w5.cell? ⟨w.heap.size,0,none⟩=some (.pointer (some ⟨fb,0,none⟩)):=cell_block xW (hB5.block _ (World.block_lt_of_cell? _ _ xW) (HnT.out _ (by simp only;omega) (HOld.out _ (Nat.le_refl _)).1))
  have y5:w5.cell? ⟨w.heap.size+1,0,none⟩=some (.int .i64 (s.id:Int)):=cell_block yW (hB5.block _ (World.block_lt_of_cell? _ _ yW) hi5)
  have z5:w5.frozen? ⟨w.heap.size+1,0,none⟩=false:=(frozen_block (a:=⟨w.heap.size+1,0,none⟩) (hB5.block _ (World.block_lt_of_cell? _ _ yW) hi5)).trans zW
  have hF5:=HXF.out.kept hB5 (fun k hk e=>HSt.out.dis k e hk)
  have hp5:place (internL s.L t) t≤65536:=by have:=place_lt HIn.out;have:=hT5.len;omega
  have HP:Hid _:=hide (put_f hF5 (s.id,place (internL s.L t) t) (by dsimp only;omega) hp5 HFr.out (by omega))
  have HT5:Hid _:=hide hT5
  have HB5:Hid _:=hide hB5
  clear hT5 hB5 hF5 xW yW zW cW
  unfold nodeV at HP
  gi_wp2_with fail
  refine ⟨trivial,CallsIn.mono (CallsIn.inRound l (callsIn_wide.2 HP.out)) ?_⟩
  rintro e w6 ⟨rfl,⟨v6,hF6⟩,hB6⟩
  have hi6:¬ S' (w.heap.size+1):=HnS.out _ (by omega) (HOld.out _ (by omega)).2
  have y6:w6.cell? ⟨w.heap.size+1,0,none⟩=some (.int .i64 (s.id:Int)):=cell_block y5 (hB6.block _ (World.block_lt_of_cell? _ _ y5) hi6)
  have z6:w6.frozen? ⟨w.heap.size+1,0,none⟩=false:=(frozen_block (a:=⟨w.heap.size+1,0,none⟩) (hB6.block _ (World.block_lt_of_cell? _ _ y5) hi6)).trans z5
  have HF6:Hid _:=hide hF6
  have HB6:Hid _:=hide hB6
  clear hF6 hB6 x5 y5 z5
  gi_wp2
  have hlt':=Hlt.out
  have g5:=HB5.out.size
  have g6:=HB6.out.size
  have hz6:But (fun k=>k=w.heap.size+1) w6 (w6.setCell ⟨w.heap.size+1,0,none⟩ (.int .i64 (↑N.length+↑k+1))):=(But.refl (fun k=>k=w.heap.size+1) w6).setCell ⟨w.heap.size+1,0,none⟩ (fun _=>rfl) _
  have hall:But (fun b=>T' b∨S' b∨b=w.heap.size+1) W (w6.setCell ⟨w.heap.size+1,0,none⟩ (.int .i64 (↑N.length+↑k+1))) :=
   ((HB5.out.mono (T:=fun b=>T' b∨S' b∨b=w.heap.size+1) (fun _ e=>.inl e)).trans HB6.out (fun _ _ e=>.inr (.inl e))).trans hz6 (fun _ _ e=>.inr (.inr e))
  have hT6:=HT5.out.kept HB6.out (fun b hb e=>by
   rcases hb with hb|hb
   ·exact HSt.out.dis b hb e
   ·have:=HSt.out.slt b e;omega)
  have st6:St w6 (fun b=>T' b∨(W.heap.size≤b∧b < w5.heap.size)) (fun b=>S' b∨(w5.heap.size≤b∧b < w6.heap.size)) tb fb (internL s.L t) (s.N++[(s.id,place (internL s.L t) t)]):=by
   refine ⟨⟨_,_,_,_,hT6,HF6.out⟩,?_,?_,?_⟩
   ·rintro b (hb|hb) (hc|hc)
    ·exact HSt.out.dis b hb hc
    ·have:=HSt.out.tlt b hb;omega
    ·have:=HSt.out.slt b hc;omega
    ·omega
   ·rintro b (hb|hb)
    ·have:=HSt.out.tlt b hb;omega
    ·omega
   ·rintro b (hb|hb)
    ·have:=HSt.out.slt b hb;omega
    ·omega
  have st7:=st6.but hz6 (fun b hb e=>by subst e;rcases hb with hb|hb;exact hi5 hb;omega) (fun b hb e=>by subst e;rcases hb with hb|hb;exact hi6 hb;omega)
  refine ⟨⟨⟨_,_,by rw [HSp.out];exact st7,?_,?_⟩,?_,?_,?_⟩,?_,?_⟩
  ·rintro b (hb|hb)
   ·exact Hn1.out b hb
   ·right;omega
  ·rintro b (hb|hb)
   ·exact Hn2.out b hb
   ·right;omega
  ·refine HR.out.but.trans hall (fun b hb e=>?_)
   rcases e with e|e|e
   ·rcases Hn1.out b e with e|e
    ·exact .inl e
    ·omega
   ·rcases Hn2.out b e with e|e
    ·exact .inr (.inl e)
    ·omega
   ·exact .inr (.inr e)
  ·rw [HSp.out]
   have e1:(stp s t).id=s.N.length+1:=rfl
   rw [e1,hnl]
   exact World.cell?_setCell_same' _ _ _ (by rw [y6];rfl)
  ·rw [World.frozen?_setCell];exact z6
  ·refine hall.block _ (by omega) ?_
   rintro (e|e|e)
   ·exact HnT.out _ (by omega) (HOld.out _ (by omega)).1 e
   ·exact HnS.out _ (by omega) (HOld.out _ (by omega)).2 e
   ·omega
  ·refine hall.block _ (by omega) ?_
   rintro (e|e|e)
   ·exact HnT.out _ (by omega) (HOld.out _ (by omega)).1 e
   ·exact HnS.out _ (by omega) (HOld.out _ (by omega)).2 e
   ·omega
 case done =>
  intro W h hK
  have yW:=h.cell
  have HR:Hid _:=hide h
  have HKK:Hid _:=hide hK
  have hall:Hid (mids L N id rest m=runs ⟨L,N,id⟩ rest):=hide (by unfold mids;rw [List.take_of_length_le (by have:=HMl.out;omega)])
  clear h
  gi_wp2
  refine ⟨by simp,.inl ⟨_,_,rfl,run_takeDeferred HKK.out,?_⟩⟩
  have hTS:∀ k,(T k∨S k∨k=w.heap.size+1)→k < w4.heap.size:=by
   rintro b (hb|hb|hb)
   ·have:=TS.out b (.inl hb);omega
   ·have:=TS.out b (.inr hb);omega
   ·omega
  have hf:=HR.out.kept (but_put W w4.heap.size (.deferred none)) (.inl rfl) hTS
  rw [hall.out] at hf ⊢
  obtain ⟨T',S',hst,h1,h2⟩:=hf.st
  refine ⟨_,results_tmp2 rfl _ _ _,rfl,⟨T',S',hst,fun b hb=>?_,fun b hb=>?_⟩,?_⟩
  ·rcases h1 b hb with e|e
   ·exact .inl e
   ·right;omega
  ·rcases h2 b hb with e|e
   ·exact .inl e
   ·right;omega
  ·refine (B4.out.mono (fun _ e=>e.elim)).trans hf.but (fun b hb e=>?_)
   rcases e with e|e|e
   ·exact .inl e
   ·exact .inr e
   ·omega
end Go.Proofs.YtimgkhdgliojgaaGreatDoor.E6
