import Derived.Test.YthgelfdefkbfeaaGreatDoorZu24
import Derived.Test.YthgelfdefkbfeaaGreatDoorZu05
import Derived.Test.YthgelfdefkbfeaaGreatDoorZu06
import Derived.Test.YthgelfdefkbfeaaGreatDoorZu07
import Derived.Laws.OwnMore
import Derived.OneCell
import Derived.Laws.CopyOwn
import Derived.Test.YthgelfdefkbfeaaGreatDoorZu15
set_option maxRecDepth 8000
set_option maxHeartbeats 8000000
set_option linter.unusedVariables false
namespace Go.Proofs.YthgelfdefkbfeaaGreatDoor
open Go.RowKit Go.Maps
section
variable {w w' : World} {cb : Nat} {B : Bl} {F : Nat → Option Lb} {M : CS} {N : Nat} {g k o a : Int} {s : Value}
structure RSt (w wr:World) (cb:Nat) (M:CS):Prop where
 ck:∃ B F,Ck wr cb B F M (M.taken+1)∧∀ k,k < w.heap.size→F k=none
 inv:M.inv
 bel:Below w.heap.size w wr
theorem RSt.on {wr w2:World} (h:RSt w wr cb M) (hb:Below wr.heap.size wr w2):RSt w w2 cb M:=by
 obtain ⟨B,F,h1,h2⟩:=h.ck
 exact ⟨⟨B,F,h1.below hb,h2⟩,h.inv,h.bel.trans (hb.mono h.bel.size)⟩
theorem RSt.under {w0 wr:World} (hb:Below w0.heap.size w0 w) (h:RSt w wr cb M):RSt w0 wr cb M:=by
 obtain ⟨B,F,h1,h2⟩:=h.ck
 exact ⟨⟨B,F,h1,fun k hk=>h2 k (Nat.lt_of_lt_of_le hk hb.size)⟩,h.inv,hb.trans (h.bel.mono hb.size)⟩
theorem RSt.res {wr w2:World} {F:Nat→Option Lb} {M2:CS} (hF:∀ k,k < w.heap.size→F k=none) (hb:Below w.heap.size w wr) (h:CkR wr cb F M2 (M2.taken+1) w2) (hi:M2.inv):RSt w w2 cb M2:=by
 obtain ⟨B',F',h1,h2,h3⟩:=h
 refine ⟨⟨B',F',h1,fun k hk=>(h2 k (Nat.lt_of_lt_of_le hk hb.size)).trans (hF k hk)⟩,hi,hb.trans (h3.below hb.size (fun k e=>?_))⟩
 by_cases hk:k < w.heap.size
 ·exact absurd (hF k hk) e
 ·omega
theorem New_any (w:World):Calls Tryz.prog 29 #[] w fun e w'=>e=.returned (gPtr (w.heap.size+5))∧RSt w w' (w.heap.size+5) CS.new:=by
 obtain ⟨W,hW⟩:∃ W,W=(((((w.alloc (.map #[] 0)).alloc (.map #[] 0)).alloc (.map #[] 0)).alloc (.map #[] 0)).alloc (.map #[] 0)).alloc (.cells (ckc (newB w.heap.size) 0) 80):=⟨_,rfl⟩
 obtain ⟨h1,h2⟩:=new_ck w W hW
 have HBg:=hide (begin_any (x:=0) h1 (by decide) (by decide) (by decide) (by decide) rfl)
 have HB:=hide h2
 have HW:=hide hW
 unfold gPtr at HBg
 clear h1 h2 hW
 unfold ckc newB at HW
 dsimp only at HW
 have hmm:=@run_makeMap Tryz.prog
 go_enter Tryz.func29,Tryz.ntmps29
 go_wp2_with fail
 have HBg2:=HBg
 rw [HW.out] at HBg2
 refine HBg2.out.mono ?_
 rintro e w2 ⟨rfl,hr⟩
 rw [← HW.out] at hr
 have HR:=hide hr
 clear hr HBg HBg2
 go_wp2
 go_ret
 refine ⟨rfl,RSt.res (F:=newF w.heap.size) (M2:=CS.new) (fun k hk=>?_) HB.out HR.out new_inv⟩
 cases hq:newF w.heap.size k with
 | none=>rfl
 | some l=>have:=newF_lt hq;omega
def me (e:E6.Ev):Me:=⟨e.g,e.k,e.o,e.a⟩
def CS.run (M:CS):List E6.Ev→Nat→Int × Int
 | [],_=>(-1,0)
 | e :: es,i=>if M.why (me e)≠0 then ((i:Int),M.why (me e)) else (M.next (me e)).run es (i+1)
noncomputable def runV (es:List E6.Ev):Int × Int × Int:=if (E6.bounds es).2≠0 then ((E6.bounds es).1,0,(E6.bounds es).2) else ((CS.new.run es 0).1,(CS.new.run es 0).2,0)
theorem bnd_zero {es:List E6.Ev}:∀ {i:Nat} {L:List ByteArray} {N:List E6.Nd},(E6.bnd es i L N).2=0→∀ e ∈ es,e.chk=0:=by
 induction es with
 | nil=>intro i L N _ e he;cases he
 | cons x es ih =>
  intro i L N h e he
  rw [E6.bnd] at h
  by_cases hx:x.chk=0
  ·rw [if_pos hx] at h
   split at h
   ·rcases List.mem_cons.1 he with rfl|he
    ·exact hx
    ·exact ih h e he
   ·cases h
  ·rw [if_neg hx] at h;exact absurd h hx
theorem bounds_zero {es:List E6.Ev} (h:(E6.bounds es).2=0):es.length≤1048576∧∀ e ∈ es,e.chk=0:=by
 unfold E6.bounds at h
 split at h
 ·rename_i hl;exact ⟨hl,bnd_zero h⟩
 ·cases h
theorem why_zero {e:Me} (h:M.why e=0):∃ r,M.gs e.g=some r∧M.ask e r=0:=by
 unfold CS.why at h
 cases hq:M.gs e.g with
 | none=>rw [hq] at h;cases h
 | some r =>
  rw [hq] at h
  dsimp only at h
  refine ⟨r,rfl,?_⟩
  by_cases h1:M.act e≠0
  ·rw [if_pos h1] at h;exact absurd h h1
  ·rw [if_neg h1] at h;exact h
theorem next_taken {e:Me} (h:M.why e=0):(M.next e).taken=M.taken+1:=by
 obtain ⟨r,hg,_⟩:=why_zero h
 unfold CS.next CS.tick
 rw [hg]
 dsimp only
 rw [doo_taken]
theorem addS_inv {ls:List ByteArray} (hi:M.inv) (hE:E6.chk g k o a ls=0→Eb g k o a):(M.addS (E6.chk g k o a ls) ⟨g,k,o,a⟩).inv:=by
 unfold CS.addS
 split
 ·exact hi
 ·rename_i hc
  split
  ·exact hi
  ·split
   ·exact hi
   ·rename_i hw
    have hw':M.why ⟨g,k,o,a⟩=0:=by by_cases e:M.why ⟨g,k,o,a⟩=0;exact e;exact absurd e hw
    obtain ⟨r,hg,hask⟩:=why_zero hw'
    exact next_inv hi (hE (by by_cases e:E6.chk g k o a ls=0;exact e;exact absurd e hc)) hg hask
theorem RSt.add {wr:World} (h:RSt w wr cb M) (ht:M.taken≤1048576) (hK:E6.Kr w) (e:E6.Ev) (hok:e.ok) (hs:E6.SRow wr e.sa e.ls.length e.ls) :
  Calls Tryz.prog 30 #[gPtr cb,.agg #[.int .i64 e.g,.int .i64 e.k,.int .u64 e.o,.int .u64 e.a,.slice e.sa e.ls.length e.sc]] wr fun r w'=>r=.returned (.tuple #[.int .i64 (M.addY e.chk (me e)),.int .i64 (M.addE e.chk)])∧RSt w w' cb (M.addS e.chk (me e)):=by
 obtain ⟨B,F,h1,h2⟩:=h.ck
 have hsz:=hK.size
 refine (Add_any (sa:=e.sa) (sn:=e.ls.length) (sc:=e.sc) (ls:=e.ls) h1 h.inv ht (hK.below h.bel (by omega)) hs (by have:=hok.len;omega) hok.ho.1 hok.ho.2 hok.ha.1 hok.ha.2).mono ?_
 rintro r w' ⟨rfl,hr⟩
 exact ⟨rfl,RSt.res h2 h.bel hr (addS_inv h.inv (fun hc=>chk_eb hc hok.ho.1 hok.ho.2 hok.ha.1 hok.ha.2))⟩
theorem Run_any (ad:Option Addr) (n c:Nat) (es:List E6.Ev) (w:World) (hK:E6.Kr w) (hr:E6.ERow w ad n es) (hok:∀ e ∈ es,e.ok) (hn:(n:Int)≤9223372036854775806) :
  Calls Tryz.prog 17 #[.slice ad n c] w fun r w'=>r=.returned (.tuple #[.int .i64 (runV es).1,.int .i64 (runV es).2.1,.int .i64 (runV es).2.2])∧Below w.heap.size w w':=by
 obtain ⟨R,hR⟩:∃ R,R=runV es:=⟨_,rfl⟩
 rw [← hR]
 have HR:=hide hR
 have HBo:=hide (E6.bounds_any ad n c es w hK hr hok hn)
 have HK:=hide hK
 have HE:=hide hr
 have HO:=hide hok
 obtain ⟨bp,hbp⟩:∃ bp,bp=(E6.bounds es).1:=⟨_,rfl⟩
 obtain ⟨be,hbe⟩:∃ be,be=(E6.bounds es).2:=⟨_,rfl⟩
 rw [← hbp,← hbe] at HBo
 have HBp:=hide hbp
 have HBe:=hide hbe
 clear hR hK hr hok hbp hbe
 go_enter Tryz.func17,Tryz.ntmps17
 go_wp2_with fail
 refine HBo.out.mono ?_
 rintro e w1 ⟨rfl,hb1⟩
 have HB1:=hide hb1
 clear hb1 HBo
 by_cases h0:be=0
 ·have hne:(be != 0)=false:=by simp [h0]
  have hz:(E6.bounds es).2=0:=by rw [← HBe.out];exact h0
  obtain ⟨hlen,hchk⟩:=bounds_zero hz
  rw [HE.out.len] at hlen
  have HCk:=hide hchk
  have HRn:Hid (R=((CS.new.run es 0).1,(CS.new.run es 0).2,0)):=hide (by rw [HR.out];unfold runV;rw [if_neg (fun e=>e hz)])
  have hl:(n:Int)≤1048576:=by omega
  have HNw:=hide (New_any w1)
  unfold gPtr at HNw
  clear h0 hz hchk HR HBp HBe hlen
  go_wp2_with fail
  refine HNw.out.mono ?_
  rintro e w2 ⟨rfl,hrs⟩
  have HS:=hide (RSt.under HB1.out hrs)
  generalize w1.heap.size+5=cb at HS ⊢
  clear hrs HNw HB1
  go_wp2
  go_loopw [24] (fun i wr=>∃ (j:Nat) (M:CS),j≤n∧i=.int .i64 j∧RSt w wr cb M∧M.taken=j∧(R=((M.run (es.drop j) j).1,(M.run (es.drop j) j).2,0))) (fun i _=>n - (intOf i).toNat)
  case atStart=>exact ⟨0,CS.new,Nat.zero_le _,rfl,HS.out,rfl,HRn.out⟩
  case round =>
   obtain ⟨j,M,hj,rfl,hst,htk,hRj⟩:=hrel
   have HS':=hide hst
   have HTk:=hide htk
   clear hst HS htk HRn
   by_cases hlt:j < n
   ·have hjI:(j:Int) < n:=by omega
    have hrr:=HE.out.bel HS'.out.bel
    obtain ⟨b,off,e,rfl,hej,c0,c1,c2,c3,c4,hs⟩:=hrr.at hlt
    have hme:=HO.out e (List.mem_of_getElem? hej)
    have hck:=HCk.out e (List.mem_of_getElem? hej)
    have hdrop:es.drop j=e :: es.drop (j+1):=by
     obtain ⟨hl',he'⟩:=List.getElem?_eq_some_iff.1 hej
     rw [List.drop_eq_getElem_cons hl',he']
    rw [hdrop,CS.run] at hRj
    have HRj:=hide hRj
    obtain ⟨W1,hW1⟩:∃ W1,W1=wr.alloc (.cells #[.int .i64 e.g,.int .i64 e.k,.int .u64 e.o,.int .u64 e.a,.slice e.sa e.ls.length e.sc] 43):=⟨_,rfl⟩
    have hb1:Below wr.heap.size wr W1:=by rw [hW1];exact below_alloc1 wr _
    have hS1:=HS'.out.on hb1
    have HAd:=hide (hS1.add (by rw [HTk.out];omega) HK.out e hme (E6.SRow.bel hs hb1))
    unfold gPtr at HAd
    rw [hck] at HAd
    obtain ⟨z1,z2,z3⟩:=add_why (M:=M) (by rw [HTk.out];omega) (me e)
    rw [z1,z2,z3] at HAd
    obtain ⟨Y,hY⟩:∃ Y,Y=M.why (me e):=⟨_,rfl⟩
    rw [← hY] at HAd
    have HY:=hide hY
    rw [hW1] at HAd
    have HW1:=hide hW1
    clear hrr hej hs hme hck hdrop hRj hW1 hb1 hS1 z1 z2 z3 hY
    go_wp2_with fail
    refine HAd.out.mono ?_
    rintro r w3 ⟨rfl,hs3⟩
    have HS3:=hide hs3
    clear hs3 HAd HW1 c0 c1 c2 c3 c4
    by_cases hY0:Y=0
    ·have hYb:(Y != 0)=false:=by simp [hY0]
     have hw0:M.why (me e)=0:=by rw [← HY.out];exact hY0
     have HS4:Hid (RSt w w3 cb (M.next (me e))):=hide (by have h9:=HS3.out;rw [if_neg (fun e=>e hY0)] at h9;exact h9)
     have HTn:=hide (next_taken hw0)
     have HRn:Hid (R=(((M.next (me e)).run (es.drop (j+1)) (j+1)).1,((M.next (me e)).run (es.drop (j+1)) (j+1)).2,0)):=hide (by rw [HRj.out,if_neg (fun e=>e hw0)])
     clear hY0 hw0 HS3
     go_wp2
     exact ⟨⟨j+1,_,by omega,by go_num,HS4.out,by rw [HTn.out,HTk.out],HRn.out⟩,by simp [intOf];omega⟩
    ·have hYb:(Y != 0)=true:=by simp [hY0]
     have HRn:Hid (R=((j:Int),Y,0)):=hide (by rw [HRj.out,if_pos (by rw [← HY.out];exact hY0),HY.out])
     have HS4:Hid (Below w.heap.size w w3):=hide HS3.out.bel
     clear hY0 HS3
     go_wp2
     go_ret3
     exact ⟨by rw [HRn.out];rfl,HS4.out⟩
   ·have HRn:Hid (R=(-1,0,0)):=hide (by rw [hRj,List.drop_eq_nil_of_le (by rw [HE.out.len];omega)];rfl)
    clear hRj
    go_wp2
    go_ret3
    exact ⟨by rw [HRn.out];rfl,HS'.out.bel⟩
 ·have hne:(be != 0)=true:=by simp [h0]
  have HRn:Hid (R=(bp,0,be)):=hide (by rw [HR.out];unfold runV;rw [if_pos (by rw [← HBe.out];exact h0),HBp.out,HBe.out])
  clear h0
  go_wp2
  go_ret3
  exact ⟨by rw [HRn.out];rfl,HB1.out⟩
end
end Go.Proofs.YthgelfdefkbfeaaGreatDoor
namespace Go.Proofs.YthgelfdefkbfeaaGreatDoor.E6
open Go.RowKit Go.Maps Go.Shelf
theorem ecells_get {l:List Ev} {i:Nat} {e:Ev} (h:l[i]?=some e) {t:Nat} (ht:t < 5):(ecells l)[i * 5+t]?=(ecell e)[t]?:=by
 induction l generalizing i with
 | nil=>simp at h
 | cons x l ih =>
  cases i with
  | zero =>
   simp at h;subst h
   rw [ecells,Nat.zero_mul,Nat.zero_add,List.getElem?_append_left (by simpa [ecell] using ht)]
  | succ i =>
   rw [ecells,List.getElem?_append_right (by simp [ecell];omega)]
   have e1:(i+1) * 5+t - (ecell x).length=i * 5+t:=by simp [ecell];omega
   rw [e1]
   exact ih (by simpa using h)
theorem Tw.form {w0 wr:World} {es fs:List Ev} {n:Nat} {v:Value} (h:Tw w0 wr es n fs v):∃ a c,v=.slice a n c∧ERow wr a n fs∧n≤c:=by
 have ho:=h.own
 rcases ho.2 with ⟨hv,h0⟩|⟨g,cap,cur,hv,hb,hg,hn,hm,hs,ht⟩
 ·subst h0;exact ⟨none,0,hv,⟨h.len,.inl rfl⟩,Nat.le_refl _⟩
 ·refine ⟨some ⟨g,0,none⟩,cap,hv,⟨h.len,.inr ⟨g,0,rfl,fun i f hf=>?_⟩⟩,hn⟩
  have hc:∀ t (ht:t < 5),wr.cell? ⟨g,0+i * 5+t,none⟩=(ecell f)[t]?:=by
   intro t ht5
   have hlt:=(List.getElem?_eq_some_iff.1 hf).1
   subst hv
   have:=ho.cellAt (i * 5+t) (by rw [h.len] at hlt;omega)
   rw [Nat.zero_add,this,ecells_get hf ht5]
  obtain ⟨e,_,_,_,_,h5⟩:=h.each i f hf
  exact ⟨hc 0 (by omega),hc 1 (by omega),hc 2 (by omega),hc 3 (by omega),hc 4 (by omega),SRow.of_own h5⟩
def Twins:List Ev→List Ev→Prop
 | [],[]=>True
 | e :: r,f :: q=>e.twin f∧Twins r q
 | _,_=>False
theorem twins_of {es fs:List Ev} (hl:fs.length=es.length) (h:∀ (i:Nat) f,fs[i]?=some f→∃ e,es[i]?=some e∧e.twin f):Twins es fs:=by
 induction es generalizing fs with
 | nil=>cases fs with
  | nil=>trivial
  | cons _ _=>simp at hl
 | cons e es ih=>cases fs with
  | nil=>simp at hl
  | cons f fs =>
   refine ⟨?_,ih (by simpa using hl) (fun i g hg=>?_)⟩
   ·obtain ⟨e',h1,h2⟩:=h 0 f rfl
    simp at h1;subst h1;exact h2
   ·obtain ⟨e',h1,h2⟩:=h (i+1) g (by simpa using hg)
    exact ⟨e',by simpa using h1,h2⟩
theorem Twins.len {es fs:List Ev} (h:Twins es fs):fs.length=es.length:=by
 induction es generalizing fs with
 | nil=>cases fs with
  | nil=>rfl
  | cons _ _=>exact h.elim
 | cons x es ih=>cases fs with
  | nil=>exact h.elim
  | cons y fs=>simp [ih h.2]
theorem Ev.twin.chk {e f:Ev} (h:e.twin f):f.chk=e.chk:=by
 obtain ⟨h1,h2,h3,h4,h5⟩:=h
 unfold Ev.chk;rw [h1,h2,h3,h4,h5]
theorem bnd_twins {es fs:List Ev} (h:Twins es fs):∀ i L N,bnd fs i L N=bnd es i L N:=by
 induction es generalizing fs with
 | nil=>cases fs with
  | nil=>intros;rfl
  | cons _ _=>exact h.elim
 | cons x es ih=>cases fs with
  | nil=>exact h.elim
  | cons y fs =>
   intro i L N
   rw [bnd,bnd,h.1.chk,h.1.2.2.2.2,ih h.2]
theorem bounds_twins {es fs:List Ev} (h:Twins es fs):bounds fs=bounds es:=by
 unfold bounds;rw [h.len,bnd_twins h]
theorem Tw.twins {w0 wr:World} {es fs:List Ev} {n:Nat} {v:Value} (h:Tw w0 wr es n fs v) (hl:es.length=n):Twins es fs :=
 twins_of (by rw [h.len,hl]) fun i f hf=>by obtain ⟨e,h1,h2,_⟩:=h.each i f hf;exact ⟨e,h1,h2⟩
theorem Tw.ok {w0 wr:World} {es fs:List Ev} {n:Nat} {v:Value} (h:Tw w0 wr es n fs v) (hok:∀ e ∈ es,e.ok):∀ f ∈ fs,f.ok:=by
 intro f hf
 obtain ⟨i,hi,e0⟩:=List.getElem_of_mem hf
 obtain ⟨e,h1,⟨_,_,t3,t4,t5⟩,h3,h4,_⟩:=h.each i f (by rw [List.getElem?_eq_getElem hi,e0])
 have ho:=hok e (List.mem_of_getElem? h1)
 exact ⟨by rw [t3];exact ho.ho,by rw [t4];exact ho.ha,by rw [t5];exact ho.len,by rw [t5];exact ho.sz,h3,h4⟩
end Go.Proofs.YthgelfdefkbfeaaGreatDoor.E6
namespace Go.Proofs.YthgelfdefkbfeaaGreatDoor
open Go.RowKit Go.Maps
theorem run_twins {es fs:List E6.Ev} (h:E6.Twins es fs):∀ (M:CS) (i:Nat),M.run fs i=M.run es i:=by
 induction es generalizing fs with
 | nil=>cases fs with
  | nil=>intros;rfl
  | cons _ _=>exact h.elim
 | cons x es ih=>cases fs with
  | nil=>exact h.elim
  | cons y fs =>
   intro M i
   have e1:me y=me x:=by obtain ⟨h1,h2,h3,h4,_⟩:=h.1;unfold me;rw [h1,h2,h3,h4]
   rw [CS.run,CS.run,e1,ih h.2]
theorem runV_twins {es fs:List E6.Ev} (h:E6.Twins es fs):runV fs=runV es:=by
 unfold runV;rw [E6.bounds_twins h,run_twins h]
theorem run_bd:∀ (es:List E6.Ev) (M:CS) (k:Nat),((M.run es k).1=-1∧(M.run es k).2=0)∨((k:Int)≤(M.run es k).1∧(M.run es k).1 < k+es.length∧(M.run es k).2≠0):=by
 intro es
 induction es with
 | nil=>intro M k;exact .inl ⟨rfl,rfl⟩
 | cons e es ih =>
  intro M k
  rw [CS.run]
  by_cases h:M.why (me e)≠0
  ·rw [if_pos h]
   refine .inr ⟨Int.le_refl _,?_,h⟩
   dsimp only
   rw [List.length_cons]
   omega
  ·rw [if_neg h]
   rcases ih (M.next (me e)) (k+1) with h1|⟨h1,h2,h3⟩
   ·exact .inl h1
   ·refine .inr ⟨by omega,?_,h3⟩
    rw [List.length_cons]
    omega
end Go.Proofs.YthgelfdefkbfeaaGreatDoor
namespace Go.Proofs.YthgelfdefkbfeaaGreatDoor
open Go.RowKit Go.Maps Go.Shelf
def sI:Lay Int:=⟨fun x=>[.int .i64 x],1,by decide,fun _=>rfl,by intro a u hu;simp at hu;subst hu;rfl⟩
def sB:Lay Bool:=⟨fun x=>[.bool x],1,by decide,fun _=>rfl,by intro a u hu;simp at hu;subst hu;rfl⟩
theorem row_cell {α:Type} {y:Lay α} {w:World} {a:Option Addr} {n i:Nat} {L:List α} {x:α} (h:TRow y w a n L) (hx:L[i]?=some x):∃ b off,a=some ⟨b,off,none⟩∧∀ t u,(y.cs x)[t]?=some u→w.cell? ⟨b,off+i * y.z+t,none⟩=some u:=by
 have hl:=get_lt hx
 obtain ⟨b,off,ha,_,hc⟩:=h.at (by rw [h.len] at hl;omega)
 exact ⟨b,off,ha,fun t u hu=>hc i x hx t u hu⟩
theorem sI_cell {w:World} {a:Option Addr} {n i:Nat} {L:List Int} {x:Int} (h:TRow sI w a n L) (hx:L[i]?=some x):∃ b off,a=some ⟨b,off,none⟩∧w.cell? ⟨b,off+i,none⟩=some (.int .i64 x):=by
 obtain ⟨b,off,ha,hc⟩:=row_cell h hx
 refine ⟨b,off,ha,?_⟩
 have h1:w.cell? ⟨b,off+i * 1+0,none⟩=some (.int .i64 x):=hc 0 _ rfl
 rw [Nat.mul_one,Nat.add_zero] at h1
 exact h1
theorem sB_cell {w:World} {a:Option Addr} {n i:Nat} {L:List Bool} {x:Bool} (h:TRow sB w a n L) (hx:L[i]?=some x):∃ b off,a=some ⟨b,off,none⟩∧w.cell? ⟨b,off+i,none⟩=some (.bool x):=by
 obtain ⟨b,off,ha,hc⟩:=row_cell h hx
 refine ⟨b,off,ha,?_⟩
 have h1:w.cell? ⟨b,off+i * 1+0,none⟩=some (.bool x):=hc 0 _ rfl
 rw [Nat.mul_one,Nat.add_zero] at h1
 exact h1
theorem drew_onS {w wr:World} (h:∃ m,wr=w.drewN m) (r:Nat):∃ m,wr.drewN r=w.drewN m:=by
 obtain ⟨m,rfl⟩:=h
 refine ⟨m+r,?_⟩
 induction r with
 | zero=>rfl
 | succ r ih=>rw [← World.drew_drewN,ih,World.drew_drewN];rfl
end Go.Proofs.YthgelfdefkbfeaaGreatDoor
namespace Go.Proofs.YthgelfdefkbfeaaGreatDoor
open Go.RowKit Go.Maps Go.Shelf
def plc (ks:List Bool):Nat→List Nat
 | 0=>[]
 | i+1=>if ks[i]?=some true then plc ks i++[i] else plc ks i
section
variable {ks : List Bool} {i j n p k : Nat}
theorem plc_t (h:ks[i]?=some true):plc ks (i+1)=plc ks i++[i]:=by rw [plc,if_pos h]
theorem plc_f (h:ks[i]?=some false):plc ks (i+1)=plc ks i:=by rw [plc,if_neg (by rw [h];decide)]
theorem plc_le (ks:List Bool):∀ i,(plc ks i).length≤i
 | 0=>Nat.le_refl _
 | i+1=>by
  have:=plc_le ks i
  rw [plc]
  split
  ·rw [List.length_append];show (plc ks i).length+1≤i+1;omega
  ·omega
theorem plc_lt (ks:List Bool):∀ i p,p ∈ plc ks i→p < i
 | 0,p,h=>by cases h
 | i+1,p,h=>by
  rw [plc] at h
  split at h
  ·rcases List.mem_append.1 h with h|h
   ·have:=plc_lt ks i p h;omega
   ·have:p=i:=by simpa using h
    omega
  ·have:=plc_lt ks i p h;omega
end
def intP (P:List Nat):List Int:=P.map fun p:Nat=>(p:Int)
theorem intP_len (P:List Nat):(intP P).length=P.length:=by unfold intP;rw [List.length_map]
theorem intP_snoc (P:List Nat) (p:Nat):intP (P++[p])=intP P++[(p:Int)]:=by unfold intP;rw [List.map_append];rfl
theorem intP_at {P:List Nat} {k p:Nat} (h:P[k]?=some p):(intP P)[k]?=some (p:Int):=by
 unfold intP
 rw [List.getElem?_map,h];rfl
end Go.Proofs.YthgelfdefkbfeaaGreatDoor
namespace Go.Proofs.YthgelfdefkbfeaaGreatDoor
open Go.RowKit Go.Maps Go.Shelf
section
variable {w w2 w3 : World} {g k o a : Int} {s s' : Value} {g' : Nat} {cs cs' : Array Value}
end
end Go.Proofs.YthgelfdefkbfeaaGreatDoor
namespace Go.Proofs.YthgelfdefkbfeaaGreatDoor
open Go.RowKit Go.Maps Go.Shelf
theorem sInfoI:(Tryz.prog.info? 3).map (fun i=>(i.zero,i.size,i.bytes))=some (some (.int .i64 0),1,8):=by kernel_rfl
section
variable {w0 wr w2 w3 : World} {L fs : List E6.Ev} {n j b : Nat} {e f : E6.Ev}
end
end Go.Proofs.YthgelfdefkbfeaaGreatDoor
namespace Go.Proofs.YthgelfdefkbfeaaGreatDoor
open Go.RowKit Go.Maps Go.Shelf
theorem made_ints (w:World) (n:Nat) (hn:n * 8≤140737488355328):∃ w',(Instr.makeSlice 34 (.int .i64 0) (.int .i64 (n:Int))).run Tryz.prog w=.ok (.slice (some ⟨w.heap.size,0,none⟩) 0 n) w'∧Own sI 3 w' w.heap.size (.slice (some ⟨w.heap.size,0,none⟩) 0 n) []∧w.grownBy w' none:=by
 obtain ⟨i0,hi,hz0,hz1,hz2⟩:=info_parts sInfoI
 exact run_make_own (P:=Tryz.prog) w w.heap.size 34 3 i0 _ 1 Tryz.underlying34 hi hz0 hz1 .i64 .i64 n (by rw [hz2];omega) (by unfold maxLen;omega) (Nat.le_refl _)
structure Li (w0 wr:World) (v:Value) (P:List Int):Prop where
 own:Own sI 3 wr w0.heap.size v P
 bel:Below w0.heap.size w0 wr
theorem Li.on {w0 wr w':World} {v:Value} {P:List Int} (h:Li w0 wr v P) (hb:Below wr.heap.size wr w'):Li w0 w' v P:=⟨h.own.below hb,h.bel.trans (hb.mono h.bel.size)⟩
theorem Li.push {w0 wr w':World} {v v':Value} {P Q:List Int} (h:Li w0 wr v P) (ho:Own sI 3 w' w0.heap.size v' Q) (hg:wr.grownBy w' v.ownBlock):Li w0 w' v' Q :=
 ⟨ho,h.bel.grown hg h.bel.size (fun k hk=>(h.own.lt k hk).1)⟩
theorem places_any (a:Option Addr) (n c:Nat) (ks:List Bool) (w:World) (hb:TRow sB w a n ks) (hn:n * 56≤140737488355328) :
  Calls Tryz.prog 20 #[.slice a n c] w fun r w'=>∃ v,r=.returned v∧Li w w' v (intP (plc ks n)):=by
 have HB:=hide hb
 have HN:=hide hn
 have HL:=hide hb.len
 have hnM:(n:Int)≤9223372036854775806:=by omega
 have HMk:=hide (fun X m (h:m * 8≤140737488355328)=>made_ints X m h)
 obtain ⟨i0,hi0,hz0,hz1,hz2⟩:=info_parts sInfoI
 clear hb hn
 go_enter Tryz.func20,Tryz.ntmps20
 go_wp2
 go_loopw [3,11] (fun s3 s11 wr=>∃ i k:Nat,i≤n∧s11=.int .i64 i∧s3=.int .i64 k∧Hid (k=(plc ks i).length)∧k≤i∧wr=w) (fun _ s _=>n - (intOf s).toNat)
 case atStart=>exact ⟨0,0,Nat.zero_le _,rfl,rfl,hide rfl,Nat.le_refl _,rfl⟩
 case round =>
  obtain ⟨i,k,hi,rfl,rfl,HK,hki,hwr⟩:=hrel
  rw [hwr]
  clear hwr
  by_cases hlt:i < n
  ·have hiI:(i:Int) < n:=by omega
   have hi0':(0:Int)≤i:=by omega
   have hkI:(k:Int)≤i:=by omega
   obtain ⟨x,hx⟩:∃ x,ks[i]?=some x:=⟨_,List.getElem?_eq_getElem (by rw [HL.out];exact hlt)⟩
   obtain ⟨b1,o1,e1,d1⟩:=sB_cell HB.out hx
   subst e1
   cases x with
   | false =>
    have HK2:Hid (k=(plc ks (i+1)).length):=hide (by rw [plc_f hx];exact HK.out)
    clear hx
    go_wp2
    exact ⟨⟨i+1,k,by omega,by go_num,rfl,HK2,by omega,trivial⟩,by simp [intOf];omega⟩
   | true =>
    have HK2:Hid (k+1=(plc ks (i+1)).length):=hide (by rw [plc_t hx,List.length_append,HK.out];rfl)
    clear hx
    go_wp2
    exact ⟨⟨i+1,k+1,by omega,by go_num,by go_num,HK2,by omega,trivial⟩,by simp [intOf];omega⟩
  ·have h9:i=n:=by omega
   subst h9
   have hiI:¬ (i:Int) < i:=by omega
   obtain ⟨w1,hmk,hown,hgr⟩:=HMk.out w k (by have:=HN.out;omega)
   have HLi:Hid (Li w w1 (.slice (some ⟨w.heap.size,0,none⟩) 0 k) (intP (plc ks 0))):=hide ⟨hown,⟨hgr.os,hgr.tape,hgr.output,hgr.size,fun k hk=>hgr.block k hk (by simp)⟩⟩
   have hk0:(0:Int)≤k:=by omega
   have hkI:(k:Int)≤i:=by omega
   clear hown hgr HMk HK hlt
   go_wp2
   rename World=>Wk
   go_loopw [6,23] (fun s6 s23 wr=>∃ j:Nat,j≤i∧s23=.int .i64 j∧Hid (Li w wr s6 (intP (plc ks j)))) (fun _ s _=>i - (intOf s).toNat)
   case atStart=>exact ⟨0,Nat.zero_le _,rfl,HLi⟩
   case round =>
    obtain ⟨j,hj,rfl,HJ⟩:=hrel
    clear HLi hmk
    by_cases hlj:j < i
    ·have hjI:(j:Int) < i:=by omega
     have hj0:(0:Int)≤j:=by omega
     obtain ⟨x,hx⟩:∃ x,ks[j]?=some x:=⟨_,List.getElem?_eq_getElem (by rw [HL.out];exact hlj)⟩
     obtain ⟨b1,o1,e1,d1⟩:=sB_cell (HB.out.below HJ.out.bel) hx
     subst e1
     cases x with
     | false =>
      have HJ2:Hid (intP (plc ks (j+1))=intP (plc ks j)):=hide (by rw [plc_f hx])
      clear hx
      go_wp2
      exact ⟨⟨j+1,by omega,by go_num,hide (by rw [HJ2.out];exact HJ.out)⟩,by simp [intOf];omega⟩
     | true =>
      have HJ2:Hid (intP (plc ks (j+1))=intP (plc ks j)++[(j:Int)]):=hide (by rw [plc_t hx,intP_snoc])
      have HJ3:=hide (HJ.out.on (below_alloc1 wr (.cells #[.int .i64 (j:Int)] 3)))
      have HT:=hide (TRow.one (y:=sI) (w:=wr.alloc (.cells #[.int .i64 (j:Int)] 3)) (B:=wr.heap.size) (x:=(j:Int)) (heap_new wr (.cells #[.int .i64 (j:Int)] 3)))
      have HLn:Hid ((intP (plc ks j)).length≤j):=hide (by rw [intP_len];exact plc_le ks j)
      clear hx
      generalize intP (plc ks j)=PP at HJ HJ2 HJ3 HLn
      go_wp2_with (at_builtin;refine append_lay sI _ 34 3 i0 _ 8 Tryz.underlying34 hi0 hz0 hz1 hz2 rfl rfl _ _ rfl w.heap.size _ PP rfl HJ3.out.own _ 1 1 [(j:Int)] rfl HT.out (fun e=>by cases e) ?b1 ?b2 HJ3.out.bel.size ?_)
      case b1=>unfold maxLen;have:=HLn.out;have:=HN.out;omega
      case b2=>have:=HLn.out;have:=HN.out;omega
      intro v' w' o2 g2 l2
      have HJ4:Hid (Li w w' v' (intP (plc ks (j+1)))):=hide (by rw [HJ2.out];exact HJ3.out.push o2 g2)
      clear o2 g2 l2
      go_wp2
      exact ⟨⟨j+1,by omega,by go_num,HJ4⟩,by simp [intOf];omega⟩
    ·have h9:j=i:=by omega
     subst h9
     have hjI:¬ (j:Int) < j:=by omega
     go_wp2
     go_ret
     exact ⟨_,rfl,HJ.out⟩
end Go.Proofs.YthgelfdefkbfeaaGreatDoor
namespace Go.Proofs.YthgelfdefkbfeaaGreatDoor
open Go.RowKit Go.Maps Go.Shelf
theorem Li.frm {w0 w1:World} {v:Value} {P:List Int} (h:Li w0 w1 v P):∃ a c,v=.slice a P.length c∧TRow sI w1 a P.length P:=by
 obtain ⟨a,c,rfl,_,_⟩:=own_form h.own
 exact ⟨a,c,rfl,h.own.row rfl⟩
end Go.Proofs.YthgelfdefkbfeaaGreatDoor
namespace Go.Proofs.YthgelfdefkbfeaaGreatDoor
open Go.RowKit Go.Maps Go.Shelf
end Go.Proofs.YthgelfdefkbfeaaGreatDoor
namespace Go.Proofs.YthgelfdefkbfeaaGreatDoor
open Go.RowKit Go.Maps Go.Shelf
end Go.Proofs.YthgelfdefkbfeaaGreatDoor
namespace Go.Proofs.YthgelfdefkbfeaaGreatDoor
def cnA (T:List Me) (k o:Int):Nat:=T.countP fun e=>decide (e.k=k∧e.o=o)
def cnT (T:List Me) (k o a:Int):Nat:=T.countP fun e=>decide (e.k=k∧e.o=o∧e.a=a)
def cnZ:List Me→Int→Int
 | [],_=>0
 | e :: T,o=>(if e.k=14∧e.o=o then mzag e.a else 0)+cnZ T o
def roomT:List Me→Int→Option Int
 | [],_=>none
 | e :: T,o=>if e.k=9∧e.o=o then some e.a else roomT T o
structure Gdm (e:Me):Prop where
 g:0≤e.g∧e.g≤65535
 on:e.k=16→e.a=0∨e.a=1
 rc:e.k=12→e.a=0∨e.a=1
 al:e.k=20→1≤e.a
inductive Rch:List Me→CS→Prop
 | new:Rch [] CS.new
 | step {T:List Me} {M:CS} {e:Me}:Rch T M→Gdm e→M.why e=0→Rch (T++[e]) (M.next e)
section
variable {T : List Me} {M : CS} {e : Me} {r : Gor} {k o a x g : Int}
theorem cnA_snoc:cnA (T++[e]) k o=cnA T k o+(if e.k=k∧e.o=o then 1 else 0):=by
 unfold cnA
 rw [List.countP_append]
 congr 1
 by_cases h:e.k=k∧e.o=o
 ·rw [if_pos h];simp [h]
 ·rw [if_neg h];simp [h]
theorem cnT_snoc:cnT (T++[e]) k o a=cnT T k o a+(if e.k=k∧e.o=o∧e.a=a then 1 else 0):=by
 unfold cnT
 rw [List.countP_append]
 congr 1
 by_cases h:e.k=k∧e.o=o∧e.a=a
 ·rw [if_pos h];simp [h]
 ·rw [if_neg h];simp [h]
theorem roomT_snoc:roomT (T++[e]) o=match roomT T o with
  | some r=>some r
  | none=>if e.k=9∧e.o=o then some e.a else none:=by
 induction T with
 | nil=>simp [roomT]
 | cons x T ih =>
  rw [List.cons_append,roomT,roomT]
  by_cases h:x.k=9∧x.o=o
  ·rw [if_pos h,if_pos h]
  ·rw [if_neg h,if_neg h,ih]
structure Can (M:CS) (e:Me) (r:Gor):Prop where
 gs:M.gs e.g=some r
 al:has e.g M.alive=true
 du:0 < r.as_→e.k=11∧e.o=r.to
 ask:M.ask e r=0
 nx:M.next e=(M.doo e r).tick
theorem why_can (h:M.why e=0):∃ r,Can M e r:=by
 unfold CS.why at h
 cases hg:M.gs e.g with
 | none=>rw [hg] at h;simp at h
 | some r =>
  rw [hg] at h
  simp only at h
  have h0:M.act e=0:=by
   by_cases h0:M.act e=0
   ·exact h0
   ·rw [if_pos h0] at h;exact h
  rw [if_neg (by simp [h0])] at h
  unfold CS.act at h0
  rw [hg] at h0
  simp only at h0
  by_cases ha:has e.g M.alive=true
  ·rw [if_pos ha] at h0
   refine ⟨r,hg,ha,fun h1=>?_,h,?_⟩
   ·by_cases h2:e.k≠11∨e.o≠r.to
    ·rw [if_pos ⟨h1,h2⟩] at h0;simp at h0
    ·omega
   ·unfold CS.next;rw [hg]
  ·rw [if_neg ha] at h0;simp at h0
def chNext (M:CS) (e:Me):Int→Option Chn :=
 if e.k=9 then setF M.chans e.o (some ⟨e.a,0,0,false⟩)
 else match M.chans e.o with
  | none=>M.chans
  | some c=>if e.k=10 then setF M.chans e.o (some { c with sends:=c.sends+1 }) else if e.k=12 then setF M.chans e.o (some { c with recvs:=c.recvs+e.a }) else if e.k=13 then setF M.chans e.o (some { c with closed:=true }) else M.chans
theorem doo_chans:(M.doo e r).tick.chans=chNext M e:=by
 show (M.doo e r).chans=_
 unfold CS.doo chNext
 by_cases h3:e.k=3
 ·cases hc:M.chans e.o <;> simp [h3]
 by_cases h4:e.k=4
 ·cases hc:M.chans e.o <;> simp [h4]
 by_cases h5:e.k=5
 ·cases hc:M.chans e.o <;> simp [h5]
 by_cases h6:e.k=6
 ·cases hc:M.chans e.o <;> simp [h6]
 by_cases h7:e.k=7
 ·cases hc:M.chans e.o <;> simp [h7]
 by_cases h8:e.k=8
 ·cases hc:M.chans e.o <;> simp [h8]
 by_cases h9:e.k=9
 ·simp [h9]
 by_cases h10:e.k=10
 ·cases hc:M.chans e.o <;> simp [h10]
 by_cases h11:e.k=11
 ·cases hc:M.chans e.o <;> simp [h11]
 by_cases h12:e.k=12
 ·cases hc:M.chans e.o <;> simp [h12]
 by_cases h13:e.k=13
 ·cases hc:M.chans e.o <;> simp [h13]
 by_cases h14:e.k=14
 ·cases hc:M.chans e.o <;> simp [h14]
 by_cases h16:e.k=16
 ·cases hc:M.chans e.o <;> simp [h16]
 by_cases h20:e.k=20
 ·cases hc:M.chans e.o <;> simp [h20]
 by_cases h21:e.k=21
 ·cases hc:M.chans e.o <;> simp [h21]
 cases hc:M.chans e.o <;> simp [h3,h4,h5,h6,h7,h8,h9,h10,h11,h12,h13,h14,h16,h20,h21]
structure LkC (T:List Me) (M:CS):Prop where
 ch:∀ o,M.chans o=(roomT T o).map fun c=>⟨c,(cnA T 10 o:Int),(cnT T 12 o 1:Int),decide (0 < cnA T 13 o)⟩
 no:∀ o,roomT T o=none→cnA T 10 o=0∧cnT T 12 o 1=0∧cnA T 13 o=0
theorem LkC.new:LkC [] CS.new:=⟨fun _=>rfl,fun _ _=>⟨rfl,rfl,rfl⟩⟩
theorem ask_chan (h:M.ask e r=0) (h1:9≤e.k) (h2:e.k≤13):e.k=9 ↔ M.chans e.o=none:=by
 unfold CS.ask CS.askChan at h
 rw [if_neg (by omega),if_neg (by omega),if_pos ⟨h1,h2⟩] at h
 cases hc:M.chans e.o with
 | none =>
  rw [hc] at h
  simp only at h
  by_cases hk:e.k=9
  ·exact ⟨fun _=>rfl,fun _=>hk⟩
  ·rw [if_neg hk] at h;simp at h
 | some c =>
  rw [hc] at h
  simp only at h
  refine ⟨fun hk=>?_,fun e9=>by cases e9⟩
  rw [if_pos hk] at h
  simp at h
theorem LkC.step (h:LkC T M) (hg:Gdm e) (hc:Can M e r):LkC (T++[e]) (M.next e):=by
 rw [hc.nx]
 have hq:9≤e.k→e.k≤13→(e.k=9 ↔ roomT T e.o=none):=fun h1 h2=>by
  rw [ask_chan hc.ask h1 h2,h.ch];simp
 refine ⟨fun o=>?_,fun o hr=>?_⟩
 ·rw [doo_chans,roomT_snoc,cnA_snoc,cnT_snoc,cnA_snoc]
  unfold chNext
  by_cases ho:e.o=o
  ·subst ho
   by_cases h9:e.k=9
   ·have hn:=(hq (by omega) (by omega)).1 h9
    obtain ⟨n1,n2,n3⟩:=h.no _ hn
    rw [if_pos h9,setF_same,hn]
    simp [h9,n1,n2,n3]
   ·rw [if_neg h9,h.ch]
    cases hr:roomT T e.o with
    | none =>
     have hk:¬ (9≤e.k∧e.k≤13):=fun hk=>h9 ((hq hk.1 hk.2).2 hr)
     simp [h9,h.ch,hr]
    | some c =>
     simp only [Option.map_some]
     by_cases h10:e.k=10
     ·rw [if_pos h10,setF_same];simp [h10]
     ·rw [if_neg h10]
      by_cases h12:e.k=12
      ·rw [if_pos h12,setF_same]
       rcases hg.rc h12 with ha|ha <;> simp [h12,ha]
      ·rw [if_neg h12]
       by_cases h13:e.k=13
       ·rw [if_pos h13,setF_same];simp [h13]
       ·rw [if_neg h13,h.ch,hr];simp [h10,h12,h13]
  ·have ho2:o≠e.o:=fun e9=>ho e9.symm
   have e1:(if e.k=9 then setF M.chans e.o (some ⟨e.a,0,0,false⟩) else match M.chans e.o with
    | none=>M.chans
    | some c=>if e.k=10 then setF M.chans e.o (some { c with sends:=c.sends+1 }) else if e.k=12 then setF M.chans e.o (some { c with recvs:=c.recvs+e.a }) else if e.k=13 then setF M.chans e.o (some { c with closed:=true }) else M.chans) o=M.chans o:=by
    cases M.chans e.o with
    | none =>
     simp only
     split
     ·exact setF_other _ _ ho2
     ·rfl
    | some c =>
     simp only
     repeat' split
     all_goals first|rfl|exact setF_other _ _ ho2
   rw [e1,h.ch]
   cases hr:roomT T o with
   | none=>simp [ho]
   | some c=>simp [ho]
 ·rw [roomT_snoc] at hr
  cases hr2:roomT T o with
  | some c=>rw [hr2] at hr;cases hr
  | none =>
   rw [hr2] at hr
   simp only at hr
   obtain ⟨n1,n2,n3⟩:=h.no _ hr2
   have h9:¬ (e.k=9∧e.o=o):=fun e9=>by rw [if_pos e9] at hr;cases hr
   have hk:∀ q:Int,10≤q→q≤13→e.k=q→e.o≠o:=fun q q1 q2 q3 q4=>by
    subst q4
    exact h9 ⟨(hq (by omega) (by omega)).2 hr2,rfl⟩
   rw [cnA_snoc,cnT_snoc,cnA_snoc,n1,n2,n3]
   refine ⟨?_,?_,?_⟩
   ·rw [if_neg (fun e9=>hk 10 (by omega) (by omega) e9.1 e9.2)]
   ·rw [if_neg (fun e9=>hk 12 (by omega) (by omega) e9.1 e9.2.1)]
   ·rw [if_neg (fun e9=>hk 13 (by omega) (by omega) e9.1 e9.2)]
theorem Rch.lkC (h:Rch T M):LkC T M:=by
 induction h with
 | new=>exact LkC.new
 | step _ hg hw ih=>obtain ⟨r,hc⟩:=why_can hw;exact ih.step hg hc
end
end Go.Proofs.YthgelfdefkbfeaaGreatDoor
