import Derived.Test.YtimgkhdgliojgaaGreatDoorOg35
import Derived.Test.YtimgkhdgliojgaaGreatDoorOg37
import Derived.Test.YtimgkhdgliojgaaGreatDoorOg25
set_option maxRecDepth 8000
set_option maxHeartbeats 8000000
set_option linter.unusedVariables false
namespace Go.Proofs.YtimgkhdgliojgaaGreatDoor
open Go.RowKit Go.Maps
section
variable {w w' : World} {cb : Nat} {B : Bl} {F : Nat → Option Lb} {M : CS} {N : Nat} {g k o a : Int} {s : Value}
structure RSt (w wr:World) (cb:Nat) (M:CS):Prop where
 ck:∃ B F,Ck wr cb B F M (M.taken+1)∧∀ k,k < w.heap.size→F k=none
 inv:M.inv
 bel:Below w.heap.size w wr
theorem RSt.on {wr w2:World} (h:RSt w wr cb M) (hb:Below wr.heap.size wr w2):RSt w w2 cb M:=by
 obtain ⟨B,F,h1,h2⟩:=h.ck
 exact ⟨⟨B,F,h1.below hb,h2⟩,h.inv,h.bel.trans (hb.mono h.bel.size)⟩
theorem RSt.under {w0 wr:World} (hb:Below w0.heap.size w0 w) (h:RSt w wr cb M):RSt w0 wr cb M:=by
 obtain ⟨B,F,h1,h2⟩:=h.ck
 exact ⟨⟨B,F,h1,fun k hk=>h2 k (Nat.lt_of_lt_of_le hk hb.size)⟩,h.inv,hb.trans (h.bel.mono hb.size)⟩
theorem RSt.res {wr w2:World} {F:Nat→Option Lb} {M2:CS} (hF:∀ k,k < w.heap.size→F k=none) (hb:Below w.heap.size w wr) (h:CkR wr cb F M2 (M2.taken+1) w2) (hi:M2.inv):RSt w w2 cb M2:=by
 obtain ⟨B',F',h1,h2,h3⟩:=h
 refine ⟨⟨B',F',h1,fun k hk=>(h2 k (Nat.lt_of_lt_of_le hk hb.size)).trans (hF k hk)⟩,hi,hb.trans (h3.below hb.size (fun k e=>?_))⟩
 by_cases hk:k < w.heap.size
 ·exact absurd (hF k hk) e
 ·omega
theorem New_any (w:World):Calls Tryz.prog 27 #[] w fun e w'=>e=.returned (gPtr (w.heap.size+5))∧RSt w w' (w.heap.size+5) CS.new:=by
 obtain ⟨W,hW⟩:∃ W,W=(((((w.alloc (.map #[] 0)).alloc (.map #[] 0)).alloc (.map #[] 0)).alloc (.map #[] 0)).alloc (.map #[] 0)).alloc (.cells (ckc (newB w.heap.size) 0) 117):=⟨_,rfl⟩
 obtain ⟨h1,h2⟩:=new_ck w W hW
 have HBg:=hide (begin_any (x:=0) h1 (by decide) (by decide) (by decide) (by decide) rfl)
 have HB:=hide h2
 have HW:=hide hW
 unfold gPtr at HBg
 clear h1 h2 hW
 unfold ckc newB at HW
 dsimp only at HW
 have hmm:=@run_makeMap Tryz.prog
 go_enter Tryz.func27,Tryz.ntmps27
 go_wp2_with fail
 have HBg2:=HBg
 rw [HW.out] at HBg2
 refine HBg2.out.mono ?_
 rintro e w2 ⟨rfl,hr⟩
 rw [← HW.out] at hr
 have HR:=hide hr
 clear hr HBg HBg2
 go_wp2
 go_ret
 refine ⟨rfl,RSt.res (F:=newF w.heap.size) (M2:=CS.new) (fun k hk=>?_) HB.out HR.out new_inv⟩
 cases hq:newF w.heap.size k with
 | none=>rfl
 | some l=>have:=newF_lt hq;omega
def me (e:E6.Ev):Me:=⟨e.g,e.k,e.o,e.a⟩
def CS.run (M:CS):List E6.Ev→Nat→Int × Int
 | [],_=>(-1,0)
 | e :: es,i=>if M.why (me e)≠0 then ((i:Int),M.why (me e)) else (M.next (me e)).run es (i+1)
noncomputable def runV (es:List E6.Ev):Int × Int × Int:=if (E6.bounds es).2≠0 then ((E6.bounds es).1,0,(E6.bounds es).2) else ((CS.new.run es 0).1,(CS.new.run es 0).2,0)
theorem bnd_zero {es:List E6.Ev}:∀ {i:Nat} {L:List ByteArray} {N:List E6.Nd},(E6.bnd es i L N).2=0→∀ e ∈ es,e.chk=0:=by
 induction es with
 | nil=>intro i L N _ e he;cases he
 | cons x es ih =>
  intro i L N h e he
  rw [E6.bnd] at h
  by_cases hx:x.chk=0
  ·rw [if_pos hx] at h
   split at h
   ·rcases List.mem_cons.1 he with rfl|he
    ·exact hx
    ·exact ih h e he
   ·cases h
  ·rw [if_neg hx] at h;exact absurd h hx
theorem bounds_zero {es:List E6.Ev} (h:(E6.bounds es).2=0):es.length≤1048576∧∀ e ∈ es,e.chk=0:=by
 unfold E6.bounds at h
 split at h
 ·rename_i hl;exact ⟨hl,bnd_zero h⟩
 ·cases h
theorem why_zero {e:Me} (h:M.why e=0):∃ r,M.gs e.g=some r∧M.ask e r=0:=by
 unfold CS.why at h
 cases hq:M.gs e.g with
 | none=>rw [hq] at h;cases h
 | some r =>
  rw [hq] at h
  dsimp only at h
  refine ⟨r,rfl,?_⟩
  by_cases h1:M.act e≠0
  ·rw [if_pos h1] at h;exact absurd h h1
  ·rw [if_neg h1] at h;exact h
theorem next_taken {e:Me} (h:M.why e=0):(M.next e).taken=M.taken+1:=by
 obtain ⟨r,hg,_⟩:=why_zero h
 unfold CS.next CS.tick
 rw [hg]
 dsimp only
 rw [doo_taken]
theorem addS_inv {ls:List ByteArray} (hi:M.inv) (hE:E6.chk g k o a ls=0→Eb g k o a):(M.addS (E6.chk g k o a ls) ⟨g,k,o,a⟩).inv:=by
 unfold CS.addS
 split
 ·exact hi
 ·rename_i hc
  split
  ·exact hi
  ·split
   ·exact hi
   ·rename_i hw
    have hw':M.why ⟨g,k,o,a⟩=0:=by by_cases e:M.why ⟨g,k,o,a⟩=0;exact e;exact absurd e hw
    obtain ⟨r,hg,hask⟩:=why_zero hw'
    exact next_inv hi (hE (by by_cases e:E6.chk g k o a ls=0;exact e;exact absurd e hc)) hg hask
theorem RSt.add {wr:World} (h:RSt w wr cb M) (ht:M.taken≤1048576) (hK:E6.Kr w) (e:E6.Ev) (hok:e.ok) (hs:E6.SRow wr e.sa e.ls.length e.ls) :
  Calls Tryz.prog 30 #[gPtr cb,.agg #[.int .i64 e.g,.int .i64 e.k,.int .u64 e.o,.int .u64 e.a,.slice e.sa e.ls.length e.sc]] wr fun r w'=>r=.returned (.tuple #[.int .i64 (M.addY e.chk (me e)),.int .i64 (M.addE e.chk)])∧RSt w w' cb (M.addS e.chk (me e)):=by
 obtain ⟨B,F,h1,h2⟩:=h.ck
 have hsz:=hK.size
 refine (Add_any (sa:=e.sa) (sn:=e.ls.length) (sc:=e.sc) (ls:=e.ls) h1 h.inv ht (hK.below h.bel (by omega)) hs (by have:=hok.len;omega) hok.ho.1 hok.ho.2 hok.ha.1 hok.ha.2).mono ?_
 rintro r w' ⟨rfl,hr⟩
 exact ⟨rfl,RSt.res h2 h.bel hr (addS_inv h.inv (fun hc=>chk_eb hc hok.ho.1 hok.ho.2 hok.ha.1 hok.ha.2))⟩
theorem Run_any (ad:Option Addr) (n c:Nat) (es:List E6.Ev) (w:World) (hK:E6.Kr w) (hr:E6.ERow w ad n es) (hok:∀ e ∈ es,e.ok) (hn:(n:Int)≤9223372036854775806) :
  Calls Tryz.prog 39 #[.slice ad n c] w fun r w'=>r=.returned (.tuple #[.int .i64 (runV es).1,.int .i64 (runV es).2.1,.int .i64 (runV es).2.2])∧Below w.heap.size w w':=by
 obtain ⟨R,hR⟩:∃ R,R=runV es:=⟨_,rfl⟩
 rw [← hR]
 have HR:=hide hR
 have HBo:=hide (E6.bounds_any ad n c es w hK hr hok hn)
 have HK:=hide hK
 have HE:=hide hr
 have HO:=hide hok
 obtain ⟨bp,hbp⟩:∃ bp,bp=(E6.bounds es).1:=⟨_,rfl⟩
 obtain ⟨be,hbe⟩:∃ be,be=(E6.bounds es).2:=⟨_,rfl⟩
 rw [← hbp,← hbe] at HBo
 have HBp:=hide hbp
 have HBe:=hide hbe
 clear hR hK hr hok hbp hbe
 go_enter Tryz.func39,Tryz.ntmps39
 go_wp2_with fail
 refine HBo.out.mono ?_
 rintro e w1 ⟨rfl,hb1⟩
 have HB1:=hide hb1
 clear hb1 HBo
 by_cases h0:be=0
 ·have hne:(be != 0)=false:=by simp [h0]
  have hz:(E6.bounds es).2=0:=by rw [← HBe.out];exact h0
  obtain ⟨hlen,hchk⟩:=bounds_zero hz
  rw [HE.out.len] at hlen
  have HCk:=hide hchk
  have HRn:Hid (R=((CS.new.run es 0).1,(CS.new.run es 0).2,0)):=hide (by rw [HR.out];unfold runV;rw [if_neg (fun e=>e hz)])
  have hl:(n:Int)≤1048576:=by omega
  have HNw:=hide (New_any w1)
  unfold gPtr at HNw
  clear h0 hz hchk HR HBp HBe hlen
  go_wp2_with fail
  refine HNw.out.mono ?_
  rintro e w2 ⟨rfl,hrs⟩
  have HS:=hide (RSt.under HB1.out hrs)
  generalize w1.heap.size+5=cb at HS ⊢
  clear hrs HNw HB1
  go_wp2
  go_loopw [24] (fun i wr=>∃ (j:Nat) (M:CS),j≤n∧i=.int .i64 j∧RSt w wr cb M∧M.taken=j∧(R=((M.run (es.drop j) j).1,(M.run (es.drop j) j).2,0))) (fun i _=>n - (intOf i).toNat)
  case atStart=>exact ⟨0,CS.new,Nat.zero_le _,rfl,HS.out,rfl,HRn.out⟩
  case round =>
   obtain ⟨j,M,hj,rfl,hst,htk,hRj⟩:=hrel
   have HS':=hide hst
   have HTk:=hide htk
   clear hst HS htk HRn
   by_cases hlt:j < n
   ·have hjI:(j:Int) < n:=by omega
    have hrr:=HE.out.bel HS'.out.bel
    obtain ⟨b,off,e,rfl,hej,c0,c1,c2,c3,c4,hs⟩:=hrr.at hlt
    have hme:=HO.out e (List.mem_of_getElem? hej)
    have hck:=HCk.out e (List.mem_of_getElem? hej)
    have hdrop:es.drop j=e :: es.drop (j+1):=by
     obtain ⟨hl',he'⟩:=List.getElem?_eq_some_iff.1 hej
     rw [List.drop_eq_getElem_cons hl',he']
    rw [hdrop,CS.run] at hRj
    have HRj:=hide hRj
    obtain ⟨W1,hW1⟩:∃ W1,W1=wr.alloc (.cells #[.int .i64 e.g,.int .i64 e.k,.int .u64 e.o,.int .u64 e.a,.slice e.sa e.ls.length e.sc] 35):=⟨_,rfl⟩
    have hb1:Below wr.heap.size wr W1:=by rw [hW1];exact below_alloc1 wr _
    have hS1:=HS'.out.on hb1
    have HAd:=hide (hS1.add (by rw [HTk.out];omega) HK.out e hme (E6.SRow.bel hs hb1))
    unfold gPtr at HAd
    rw [hck] at HAd
    obtain ⟨z1,z2,z3⟩:=add_why (M:=M) (by rw [HTk.out];omega) (me e)
    rw [z1,z2,z3] at HAd
    obtain ⟨Y,hY⟩:∃ Y,Y=M.why (me e):=⟨_,rfl⟩
    rw [← hY] at HAd
    have HY:=hide hY
    rw [hW1] at HAd
    have HW1:=hide hW1
    clear hrr hej hs hme hck hdrop hRj hW1 hb1 hS1 z1 z2 z3 hY
    go_wp2_with fail
    refine HAd.out.mono ?_
    rintro r w3 ⟨rfl,hs3⟩
    have HS3:=hide hs3
    clear hs3 HAd HW1 c0 c1 c2 c3 c4
    by_cases hY0:Y=0
    ·have hYb:(Y != 0)=false:=by simp [hY0]
     have hw0:M.why (me e)=0:=by rw [← HY.out];exact hY0
     have HS4:Hid (RSt w w3 cb (M.next (me e))):=hide (by have h9:=HS3.out;rw [if_neg (fun e=>e hY0)] at h9;exact h9)
     have HTn:=hide (next_taken hw0)
     have HRn:Hid (R=(((M.next (me e)).run (es.drop (j+1)) (j+1)).1,((M.next (me e)).run (es.drop (j+1)) (j+1)).2,0)):=hide (by rw [HRj.out,if_neg (fun e=>e hw0)])
     clear hY0 hw0 HS3
     go_wp2
     exact ⟨⟨j+1,_,by omega,by go_num,HS4.out,by rw [HTn.out,HTk.out],HRn.out⟩,by simp [intOf];omega⟩
    ·have hYb:(Y != 0)=true:=by simp [hY0]
     have HRn:Hid (R=((j:Int),Y,0)):=hide (by rw [HRj.out,if_pos (by rw [← HY.out];exact hY0),HY.out])
     have HS4:Hid (Below w.heap.size w w3):=hide HS3.out.bel
     clear hY0 HS3
     go_wp2
     go_ret3
     exact ⟨by rw [HRn.out];rfl,HS4.out⟩
   ·have HRn:Hid (R=(-1,0,0)):=hide (by rw [hRj,List.drop_eq_nil_of_le (by rw [HE.out.len];omega)];rfl)
    clear hRj
    go_wp2
    go_ret3
    exact ⟨by rw [HRn.out];rfl,HS'.out.bel⟩
 ·have hne:(be != 0)=true:=by simp [h0]
  have HRn:Hid (R=(bp,0,be)):=hide (by rw [HR.out];unfold runV;rw [if_pos (by rw [← HBe.out];exact h0),HBp.out,HBe.out])
  clear h0
  go_wp2
  go_ret3
  exact ⟨by rw [HRn.out];rfl,HB1.out⟩
end
end Go.Proofs.YtimgkhdgliojgaaGreatDoor
namespace Go.Proofs.YtimgkhdgliojgaaGreatDoor
theorem chk_arg {g k o a:Int} {ls:List ByteArray} (h:E6.chk g k o a ls=0):E6.argB k.toNat a=true:=by
 unfold E6.chk at h
 split at h
 ·split at h
  ·cases h
  ·split at h
   ·split at h
    ·assumption
    ·cases h
   ·cases h
 ·cases h
theorem gdm_of {e:E6.Ev} (h:e.chk=0) (hok:e.ok):Gdm (me e)∧Eb e.g e.k e.o e.a:=by
 have hb:Eb e.g e.k e.o e.a:=chk_eb (ls:=e.ls) h hok.ho.1 hok.ho.2 hok.ha.1 hok.ha.2
 refine ⟨⟨⟨hb.ok.g0,hb.ok.g1⟩,fun hk=>?_,fun hk=>?_,fun hk=>?_⟩,hb⟩
 ·have h1:=chk_arg (g:=e.g) (k:=e.k) (o:=e.o) (a:=e.a) (ls:=e.ls) h
  have h2:e.k=16:=hk
  rw [h2] at h1
  have h3:=of_decide_eq_true h1
  have h4:e.a≤1:=h3.2
  have:=hok.ha
  show e.a=0∨e.a=1
  omega
 ·have:=hb.rc hk;have:=hok.ha;show e.a=0∨e.a=1;omega
 ·exact (hb.al (.inl hk)).1
structure RcD (F:FS) (H:List Vw):Prop where
 dn:∀ g u,F.gs g=some u→∀ s,1≤s→s≤u.tm→∃ z ∈ H,z.g=u.g∧z.tm=s
 dh:∀ v ∈ H,∀ s,1≤s→s≤v.tm→∃ z ∈ H,z.g=v.g∧z.tm=s
 pl:∀ (j:Nat) v,H[j]?=some v→v.pl=(j:Int)
 bd:∀ g u,F.gs g=some u→0≤u.tm∧u.tm≤H.length∧(¬ 1≤u.tm→u.pl=0)
 gb:∀ g u,F.gs g=some u→g < 65536
 hb:∀ v ∈ H,v.g < 65536
theorem Rcf.more {T:List Me} {M:CS} {F:FS} {H:List Vw} (h:Rcf T M F H):RcD F H:=by
 induction h with
 | new =>
  refine ⟨fun g u hu s h1 h2=>?_,fun v hv=>(by cases hv),fun j v hv=>(by cases hv),fun g u hu=>?_,fun g u hu=>?_,fun v hv=>(by cases hv)⟩
  all_goals
   have hu:setN (fun _=>none) 0 (some (⟨zc,0,0,0⟩:Vw)) g=some u:=hu
   by_cases e9:g=0
   ·subst e9
    rw [setN_same] at hu
    cases hu
    first
     | (have h2:s≤0:=h2;omega)
     | exact ⟨Int.le_refl 0,Int.le_refl 0,fun _=>rfl⟩
     | omega
   ·rw [setN_other _ _ e9] at hu;cases hu
 | @step T M F H e v hR hg hw hv ih =>
  have hI:=hR.all
  obtain ⟨r,hc⟩:=why_can hw
  have hvg:v.g=e.g.toNat:=(hI.fi.gs _ v hv).1
  obtain ⟨n,hn⟩:∃ n,n=v.next (F.give e) F.taken:=⟨_,rfl⟩
  have hng:n.g=v.g:=by rw [hn];rfl
  have hnt:n.tm=v.tm+1:=by rw [hn];rfl
  have hnp:n.pl=(H.length:Int):=by rw [hn];show ((F.taken:Nat):Int)=_;rw [hI.fi.tk]
  rw [← hn]
  have hgg:=hg.g
  have hvb:=ih.bd _ v hv
  have hmem:∀ z ∈ H,z ∈ H++[n]:=fun z hz=>List.mem_append.2 (.inl hz)
  have hlast:n ∈ H++[n]:=List.mem_append.2 (.inr (List.mem_singleton.2 rfl))
  have dnn:∀ s,1≤s→s≤n.tm→∃ z ∈ H++[n],z.g=n.g∧z.tm=s:=fun s h1 h2=>by
   by_cases e9:s=n.tm
   ·exact ⟨n,hlast,rfl,e9.symm⟩
   ·obtain ⟨z,a,b,c⟩:=ih.dn _ v hv s h1 (by omega)
    exact ⟨z,hmem z a,b.trans hng.symm,c⟩
  have hgor:∀ g u,F.gor e n g=some u→u=n∧g=n.g∨u.tm=0∧u.pl=0∧g=e.a.toNat∧e.k=7∨F.gs g=some u:=fun g u hu=>by
   have key:setN F.gs n.g (some n) g=some u→u=n∧g=n.g∨u.tm=0∧u.pl=0∧g=e.a.toNat∧e.k=7∨F.gs g=some u:=fun hq=>by
    by_cases e9:g=n.g
    ·subst e9;rw [setN_same] at hq;cases hq;exact .inl ⟨rfl,rfl⟩
    ·rw [setN_other _ _ e9] at hq;exact .inr (.inr hq)
   unfold FS.gor at hu
   split at hu
   ·rename_i h7
    by_cases e9:g=e.a.toNat
    ·subst e9;rw [setN_same] at hu;cases hu;exact .inr (.inl ⟨rfl,rfl,rfl,h7⟩)
    ·rw [setN_other _ _ e9] at hu;exact key hu
   ·split at hu
    ·by_cases e9:g=e.a.toNat
     ·subst e9;rw [setN_same] at hu;cases hu
     ·rw [setN_other _ _ e9] at hu;exact key hu
    ·exact key hu
  refine ⟨fun g u hu s h1 h2=>?_,fun z hz s h1 h2=>?_,fun j z hz=>?_,fun g u hu=>?_,fun g u hu=>?_,fun z hz=>?_⟩
  ·rcases hgor g u hu with ⟨rfl,_⟩|⟨h3,_⟩|h3
   ·exact dnn s h1 h2
   ·omega
   ·obtain ⟨z,a,b⟩:=ih.dn g u h3 s h1 h2
    exact ⟨z,hmem z a,b⟩
  ·rcases List.mem_append.1 hz with hz|hz
   ·obtain ⟨y,a,b⟩:=ih.dh z hz s h1 h2
    exact ⟨y,hmem y a,b⟩
   ·cases List.mem_singleton.1 hz
    exact dnn s h1 h2
  ·have hjl:=(List.getElem?_eq_some_iff.1 hz).1
   rw [List.length_append] at hjl
   have hjl:j < H.length+1:=hjl
   by_cases e9:j < H.length
   ·rw [List.getElem?_append_left e9] at hz;exact ih.pl j z hz
   ·rw [List.getElem?_append_right (by omega),show j - H.length=0 by omega] at hz
    cases hz
    rw [hnp];omega
  ·rw [List.length_append]
   show 0≤u.tm∧u.tm≤((H.length+1:Nat):Int)∧_
   rcases hgor g u hu with ⟨rfl,_⟩|⟨h3,h4,_⟩|h3
   ·exact ⟨by omega,by omega,fun h9=>by omega⟩
   ·exact ⟨by omega,by omega,fun _=>h4⟩
   ·have:=ih.bd g u h3
    exact ⟨this.1,by omega,this.2.2⟩
  ·rcases hgor g u hu with ⟨_,h3⟩|⟨_,_,h3,h7⟩|h3
   ·rw [h3,hng,hvg];omega
   ·have:=hg.fk (.inl h7)
    have:=hg.a
    omega
   ·exact ih.gb g u h3
  ·rcases List.mem_append.1 hz with hz|hz
   ·exact ih.hb z hz
   ·cases List.mem_singleton.1 hz
    rw [hng,hvg];omega
open Classical in
noncomputable def plH (H:List Vw) (g:Nat) (t:Int):Int:=if h:∃ (j:Nat) (v:Vw),H[j]?=some v∧v.g=g∧v.tm=t then ((Classical.choose h:Nat):Int) else (H.length:Int)+t
section
variable {H : List Vw} {F : FS}
theorem plH_at (hH:Hs H) {j:Nat} {v:Vw} (h:H[j]?=some v):plH H v.g v.tm=(j:Int):=by
 have hex:∃ (j:Nat) (u:Vw),H[j]?=some u∧u.g=v.g∧u.tm=v.tm:=⟨j,v,h,rfl,rfl⟩
 unfold plH
 rw [dif_pos hex]
 obtain ⟨u,h1,h2,h3⟩:=Classical.choose_spec hex
 generalize Classical.choose hex=i at h1
 by_cases e1:i < j
 ·have:=hH.ris i j u v h1 h h2 e1;omega
 ·by_cases e2:j < i
  ·have:=hH.ris j i v u h h1 h2.symm e2;omega
  ·omega
theorem plH_none {g:Nat} {t:Int} (h:¬ ∃ (j:Nat) (v:Vw),H[j]?=some v∧v.g=g∧v.tm=t):plH H g t=(H.length:Int)+t:=by
 unfold plH
 rw [dif_neg h]
theorem plH_rise (hH:Hs H) (hd:RcD F H):Rise2 (plH H):=by
 intro x s t h1 h2
 by_cases ht:∃ (j:Nat) (v:Vw),H[j]?=some v∧v.g=x∧v.tm=t
 ·obtain ⟨j,v,a,b,c⟩:=ht
  obtain ⟨z,hz,zg,zt⟩:=hd.dh v (List.mem_of_getElem? a) s h1 (by omega)
  obtain ⟨i,hi,he⟩:=List.getElem_of_mem hz
  have hi2:H[i]?=some z:=by rw [List.getElem?_eq_getElem hi,he]
  have p1:=plH_at hH a
  have p2:=plH_at hH hi2
  rw [b,c] at p1
  rw [zg,b,zt] at p2
  rw [p1,p2]
  by_cases e1:i < j
  ·omega
  ·by_cases e2:j < i
   ·have:=hH.ris j i v z a hi2 zg.symm e2;omega
   ·have e3:i=j:=by omega
    subst e3
    rw [a] at hi2
    cases hi2
    omega
 ·rw [plH_none ht]
  by_cases hs:∃ (j:Nat) (v:Vw),H[j]?=some v∧v.g=x∧v.tm=s
  ·obtain ⟨j,v,a,b,c⟩:=hs
   have p1:=plH_at hH a
   rw [b,c] at p1
   have:=(List.getElem?_eq_some_iff.1 a).1
   rw [p1]
   omega
  ·rw [plH_none hs];omega
end
structure Rs3 where
 M:CS
 F:FS
 H:List Vw
def Rs3.new:Rs3:=⟨CS.new,FS.new,[]⟩
def Rs3.vw (S:Rs3) (e:Me):Vw:=(S.F.gs e.g.toNat).getD ⟨zc,0,0,0⟩
def Rs3.step (S:Rs3) (e:Me):Rs3:=⟨S.M.next e,S.F.next e ((S.vw e).next (S.F.give e) S.F.taken),S.H++[(S.vw e).next (S.F.give e) S.F.taken]⟩
def Rs3.run (S:Rs3) (T:List Me):Rs3:=T.foldl Rs3.step S
def rsAt (es:List E6.Ev) (i:Nat):Rs3:=Rs3.new.run ((es.take i).map me)
section
variable {es : List E6.Ev}
theorem rsAt_succ {i:Nat} {e:E6.Ev} (h:es[i]?=some e):rsAt es (i+1)=(rsAt es i).step (me e):=by
 have hi:=(List.getElem?_eq_some_iff.1 h)
 have ht:es.take (i+1)=es.take i++[e]:=by
  rw [List.take_add_one,h];rfl
 unfold rsAt Rs3.run
 rw [ht,List.map_append,List.foldl_append]
 rfl
theorem run_why:∀ (es:List E6.Ev) (S:Rs3) (n:Nat),(S.M.run es n).2=0→∀ (j:Nat) e,es[j]?=some e→(S.run ((es.take j).map me)).M.why (me e)=0
 | [],S,n,_,j,e,h=>by cases h
 | x :: es,S,n,hr,j,e,h=>by
  rw [CS.run] at hr
  by_cases hw:S.M.why (me x)=0
  ·rw [if_neg (fun q=>q hw)] at hr
   cases j with
   | zero=>cases h;exact hw
   | succ j =>
    have h:es[j]?=some e:=h
    exact run_why es (S.step (me x)) (n+1) hr j e h
  ·rw [if_pos hw] at hr;exact absurd hr hw
theorem rs_rcf (hr:(CS.new.run es 0).2=0) (hg:∀ e ∈ es,Gdf (me e)):∀ i,i≤es.length→Rcf ((es.take i).map me) (rsAt es i).M (rsAt es i).F (rsAt es i).H∧∀ e,es[i]?=some e→(rsAt es i).M.why (me e)=0∧(rsAt es i).F.gs (me e).g.toNat=some ((rsAt es i).vw (me e))
 | 0,_=>by
  refine ⟨Rcf.new,fun e he=>?_⟩
  have hw:=run_why es Rs3.new 0 hr 0 e he
  obtain ⟨v,hv⟩:=Rcf.view Rcf.new (hg e (List.mem_of_getElem? he)) hw
  refine ⟨hw,?_⟩
  show FS.new.gs _=some ((FS.new.gs _).getD _)
  rw [hv];rfl
 | i+1,hi=>by
  obtain ⟨h1,h2⟩:=rs_rcf hr hg i (by omega)
  have hlt:i < es.length:=by omega
  obtain ⟨e,he⟩:∃ e,es[i]?=some e:=⟨es[i],List.getElem?_eq_getElem hlt⟩
  obtain ⟨hw,hv⟩:=h2 e he
  have ht:es.take (i+1)=es.take i++[e]:=by
   rw [List.take_add_one,he];rfl
  have h3:Rcf ((es.take (i+1)).map me) (rsAt es (i+1)).M (rsAt es (i+1)).F (rsAt es (i+1)).H:=by
   rw [rsAt_succ he,ht,List.map_append]
   exact Rcf.step h1 (hg e (List.mem_of_getElem? he)) hw hv
  refine ⟨h3,fun e2 he2=>?_⟩
  have hw2:=run_why es Rs3.new 0 hr (i+1) e2 he2
  obtain ⟨v2,hv2⟩:=Rcf.view h3 (hg e2 (List.mem_of_getElem? he2)) hw2
  refine ⟨hw2,?_⟩
  show (rsAt es (i+1)).F.gs _=some (((rsAt es (i+1)).F.gs _).getD _)
  rw [hv2];rfl
theorem rs_pre:∀ i n,i≤n→n≤es.length→(rsAt es i).H=(rsAt es n).H.take i∧(rsAt es i).H.length=i:=by
 have hlen:∀ i,i≤es.length→(rsAt es i).H.length=i:=fun i=>by
  induction i with
  | zero=>intro _;rfl
  | succ i ih =>
   intro hi
   obtain ⟨e,he⟩:∃ e,es[i]?=some e:=⟨es[i]'(by omega),List.getElem?_eq_getElem (by omega)⟩
   rw [rsAt_succ he]
   show ((rsAt es i).H++[_]).length=i+1
   rw [List.length_append,ih (by omega)]
   rfl
 intro i n hin hn
 refine ⟨?_,hlen i (by omega)⟩
 obtain ⟨d,rfl⟩:∃ d,n=i+d:=⟨n - i,by omega⟩
 induction d with
 | zero=>rw [Nat.add_zero,List.take_of_length_le (by rw [hlen i (by omega)];exact Nat.le_refl _)]
 | succ d ih =>
  obtain ⟨e,he⟩:∃ e,es[i+d]?=some e:=⟨es[i+d]'(by omega),List.getElem?_eq_getElem (by omega)⟩
  rw [show i+(d+1)=(i+d)+1 by omega,rsAt_succ he]
  show _=((rsAt es (i+d)).H++[_]).take i
  rw [List.take_append_of_le_length (by rw [hlen (i+d) (by omega)];omega)]
  exact ih (by omega) (by omega)
end
end Go.Proofs.YtimgkhdgliojgaaGreatDoor
namespace Go.Proofs.YtimgkhdgliojgaaGreatDoor
open Go.RowKit Go.Maps
structure KR (L:LF) (w w':World) (s o:Int) (P:LF→Prop):Prop where
 ex:∃ L',LEx L L' w∧Llt L' w'∧(∀ k l,w.heap.size≤k→L' k=some l→l.of s o)∧P L'
 bt:But (fun k=>∃ l,L k=some l∧l.of s o) w w'
section
variable {pl : Nat → Int → Int} {L L' : LF} {w W wm w' : World} {v u : Value} {S : Nat → Prop} {f : Int → Option Value} {r : Nat → Option Clk} {o s : Int} {m N N' ob g : Nat} {q q' : ChF} {rv cv sv ev cv' sv' ev' kv : Value} {xs ys xs' ys' : List Value} {P : LF → Prop} {c : Clk} {V : Vw} {em : List Clk} {fr : Int}
theorem KR.below (hW:Below w.heap.size w W) (hl:Llt L w) (h:KR L W w' s o P):KR L w w' s o P:=by
 obtain ⟨L',h1,h2,h3,h4⟩:=h.ex
 refine ⟨⟨L',fun k hk=>h1 k (Nat.lt_of_lt_of_le hk hW.size),h2,fun k l hk he=>?_,h4⟩,(But.of_below hW).trans h.bt (fun _ _ e=>e)⟩
 by_cases hq:W.heap.size≤k
 ·exact h3 k l hq he
 ·have:=h1 k (by omega)
  rw [he] at this
  have:=hl k l this.symm
  omega
theorem but_lab (hb:But S w w') (hS:∀ k,S k→k < w.heap.size→∃ l,L k=some l∧l.of s o):But (fun k=>∃ l,L k=some l∧l.of s o) w w' :=
 ⟨hb.os,hb.tape,hb.output,hb.size,fun k hk hn=>hb.block k hk (fun e=>hn (hS k e hk))⟩
theorem KR.same (hl:Llt L w) (hb:But S w w') (hS:∀ k,S k→k < w.heap.size→∃ l,L k=some l∧l.of s o) (hP:P L):KR L w w' s o P:=by
 refine ⟨⟨L,LEx.refl _ _,hl.on hb.size,fun k l hk he=>?_,hP⟩,but_lab hb hS⟩
 have:=hl k l he;omega
def labB (L:LF) (v:Value) (l:Lf):LF:=fun k=>if v.ownBlock=some k then some l else L k
theorem ch_put (hl:Llt L w) (h:ChX pl L w ob o N q sv ev rv cv xs ys) (hb:But (fun j=>j=ob) w w') (hh:w'.heap[ob]?=some (.cells #[.int .u64 q'.free,sv',ev',rv,cv'] 231 (0,0))) (f0:0≤q'.free) (f1:q'.free≤18446744073709551615)
  (hs:Win w 2 sv' q'.sent.length xs') (hso:∀ k,sv'.ownBlock=some k→L k=some (.sn o)) (hsl:SL pl L w q'.sent xs') (hsn:q'.sent.length≤N')
  (he:Win w 1 ev' q'.emp.length ys') (heo:∀ k,ev'.ownBlock=some k→L k=some (.em o)) (hel:EL pl L w q'.emp ys') (hen:q'.emp.length≤N')
  (hu:q'.unb=q.unb) (hr:q'.rcv=q.rcv) (hcv:CvM pl L w' q'.clo cv') (hN:N≤N'):KR L w w' 2 o (fun L'=>ChM pl L' w' ob o N' q'):=by
 have hS:∀ k,k=ob→k < w.heap.size→L k≠none:=fun k e _=>by rw [e,h.lb];exact fun e=>by cases e
 have no:∀ k l,L k=some l→l≠.ob 2 o→¬ k=ob:=fun k l hk hne e=>by rw [e,h.lb] at hk;exact hne (Option.some.inj hk).symm
 refine KR.same hl hb (fun k e _=>⟨.ob 2 o,by rw [e];exact h.lb,rfl,rfl⟩) ⟨sv',ev',rv,cv',xs',ys',h.lb,hh,f0,f1,hs.but hb (fun k hk=>no k _ (hso k hk) (by simp)),hso,SL.but hb hS (LEx.refl _ _) hsl,hsn,he.but hb (fun k hk=>no k _ (heo k hk) (by simp)),heo,EL.but hb hS (LEx.refl _ _) hel,hen,?_,hcv⟩
 have h9:=h.rc.but hb hS (fun k e hk=>no k _ hk (by simp) e) (LEx.refl _ _) hl hN
 unfold RcV at h9 ⊢
 rw [hu,hr];exact h9
theorem Win.size0 {g off:Nat} (hg:g < w.heap.size) (size:Nat):Win w size (.slice (some ⟨g,off,none⟩) 0 0) 0 []:=⟨by simp,.inr ⟨g,off,0,rfl,Nat.le_refl _,hg,fun j u hj=>(by simp at hj),fun j hj=>(by simp at hj)⟩⟩
theorem Win.lt {size n:Nat} (h:Win w size v n xs) {k:Nat} (hk:v.ownBlock=some k):k < w.heap.size:=by
 rcases h.2 with ⟨rfl,_⟩|⟨g,off,cap,rfl,_,hg,_⟩
 ·cases hk
 ·cases hk;exact hg
theorem ch_sent (hl:Llt L w) (h:ChX pl L w ob o N q sv ev rv cv xs ys) (hk:Ks pl (TW L w) w w' ob fr sv ev' rv cv q.sent.length g xs c) (hg:g < 65536) (f0:0≤fr) (f1:fr≤18446744073709551615)
  (he:Win w 1 ev' em.length ys') (heo:∀ k,ev'.ownBlock=some k→L k=some (.em o)) (hel:EL pl L w em ys') (hen:em.length≤N):KR L w w' 2 o (fun L'=>ChM pl L' w' ob o (N+1) { q with free:=fr,emp:=em,sent:=q.sent++[(g,c)] }):=by
 obtain ⟨⟨sv',u,h1,h2,wm,h3,h4,h5,h6⟩,hb⟩:=hk
 have hS:∀ k,(k=ob∨sv.ownBlock=some k)→k < w.heap.size→∃ l,L k=some l∧l.of 2 o:=fun k e _=>by
  rcases e with e|e
  ·exact ⟨.ob 2 o,by rw [e];exact h.lb,rfl,rfl⟩
  ·exact ⟨.sn o,h.so k e,rfl,rfl⟩
 have hS2:∀ k,(k=ob∨sv.ownBlock=some k)→k < w.heap.size→L k≠none:=fun k e hk e9=>by
  obtain ⟨l,hl9,_⟩:=hS k e hk
  rw [hl9] at e9;cases e9
 have no:∀ k l,L k=some l→l≠.ob 2 o→l≠.sn o→¬ (k=ob∨sv.ownBlock=some k):=fun k l hk n1 n2 e=>by
  rcases e with e|e
  ·rw [e,h.lb] at hk;exact n1 (Option.some.inj hk).symm
  ·rw [h.so k e] at hk;exact n2 (Option.some.inj hk).symm
 have hL:LEx L (labB L sv' (.sn o)) w:=fun k hk=>by
  unfold labB
  by_cases e:sv'.ownBlock=some k
  ·rw [if_pos e]
   rcases h6 k e with h9|h9
   ·exact (h.so k h9).symm
   ·omega
  ·rw [if_neg e]
 have lk:∀ k l,L k=some l→labB L sv' (.sn o) k=some l:=fun k l hk=>(hL k (hl k l hk)).trans hk
 have hnn:∀ k,w.heap.size≤k→L k=none:=fun k hk=>by
  cases hq:L k with
  | none=>rfl
  | some l=>have:=hl k l hq;omega
 refine ⟨⟨labB L sv' (.sn o),hL,fun k l hk=>?_,fun k l hk he9=>?_,sv',ev',rv,cv,xs++[.int .u16 (g:Int),u],ys',lk _ _ h.lb,h1,f0,f1,?_,fun k hk=>if_pos hk,?_,?_,he.but hb (fun k hk=>no k _ (heo k hk) (by simp) (by simp)),fun k hk=>lk _ _ (heo k hk),EL.but hb hS2 hL hel,by show em.length≤N+1;omega,?_,h.cv.but hb hS2 hL⟩,but_lab hb hS⟩
 ·unfold labB at hk
  by_cases e:sv'.ownBlock=some k
  ·exact h2.lt e
  ·rw [if_neg e] at hk;exact Nat.lt_of_lt_of_le (hl k l hk) hb.size
 ·unfold labB at he9
  by_cases e:sv'.ownBlock=some k
  ·rw [if_pos e] at he9;cases he9;exact ⟨rfl,rfl⟩
  ·rw [if_neg e,hnn k hk] at he9;cases he9
 ·show Win w' 2 sv' (q.sent++[(g,c)]).length _
  rw [List.length_append];exact h2
 ·refine SL.snoc hg (TL.nz h3 hL hb.size h5 (fun k hk hk2=>?_)) (SL.but hb hS2 hL h.sl)
  unfold labB
  rw [if_neg (fun e=>?_)]
  ·exact hnn k hk
  ·rcases h6 k e with h9|h9
   ·have:=h.sw.lt h9;omega
   ·omega
 ·show (q.sent++[(g,c)]).length≤N+1
  rw [List.length_append,List.length_singleton]
  have:=h.sn;omega
 ·exact h.rc.but (q:=q) hb hS2 (fun k e hk=>no k _ hk (by simp) (by simp) e) hL hl (Nat.le_succ N)
theorem ch_room (hl:Llt L w) (h:ChX pl L w ob o N q sv ev rv cv xs ys) {se:List (Nat × Clk)} (hk:Ke pl (TW L w) w w' ob q.free sv' ev rv cv q.emp.length ys c)
  (he:Win w 2 sv' se.length xs') (heo:∀ k,sv'.ownBlock=some k→L k=some (.sn o)) (hel:SL pl L w se xs') (hen:se.length≤N):KR L w w' 2 o (fun L'=>ChM pl L' w' ob o (N+1) { q with sent:=se,emp:=q.emp++[c] }):=by
 obtain ⟨⟨ev',u,h1,h2,wm,h3,h4,h5,h6⟩,hb⟩:=hk
 have hS:∀ k,(k=ob∨ev.ownBlock=some k)→k < w.heap.size→∃ l,L k=some l∧l.of 2 o:=fun k e _=>by
  rcases e with e|e
  ·exact ⟨.ob 2 o,by rw [e];exact h.lb,rfl,rfl⟩
  ·exact ⟨.em o,h.eo k e,rfl,rfl⟩
 have hS2:∀ k,(k=ob∨ev.ownBlock=some k)→k < w.heap.size→L k≠none:=fun k e hk e9=>by
  obtain ⟨l,hl9,_⟩:=hS k e hk
  rw [hl9] at e9;cases e9
 have no:∀ k l,L k=some l→l≠.ob 2 o→l≠.em o→¬ (k=ob∨ev.ownBlock=some k):=fun k l hk n1 n2 e=>by
  rcases e with e|e
  ·rw [e,h.lb] at hk;exact n1 (Option.some.inj hk).symm
  ·rw [h.eo k e] at hk;exact n2 (Option.some.inj hk).symm
 have hL:LEx L (labB L ev' (.em o)) w:=fun k hk=>by
  unfold labB
  by_cases e:ev'.ownBlock=some k
  ·rw [if_pos e]
   rcases h6 k e with h9|h9
   ·exact (h.eo k h9).symm
   ·omega
  ·rw [if_neg e]
 have lk:∀ k l,L k=some l→labB L ev' (.em o) k=some l:=fun k l hk=>(hL k (hl k l hk)).trans hk
 have hnn:∀ k,w.heap.size≤k→L k=none:=fun k hk=>by
  cases hq:L k with
  | none=>rfl
  | some l=>have:=hl k l hq;omega
 refine ⟨⟨labB L ev' (.em o),hL,fun k l hk=>?_,fun k l hk he9=>?_,sv',ev',rv,cv,xs',ys++[u],lk _ _ h.lb,h1,h.f0,h.f1,he.but hb (fun k hk=>no k _ (heo k hk) (by simp) (by simp)),fun k hk=>lk _ _ (heo k hk),SL.but hb hS2 hL hel,by show se.length≤N+1;omega,?_,fun k hk=>if_pos hk,?_,?_,?_,h.cv.but hb hS2 hL⟩,but_lab hb hS⟩
 ·unfold labB at hk
  by_cases e:ev'.ownBlock=some k
  ·exact h2.lt e
  ·rw [if_neg e] at hk;exact Nat.lt_of_lt_of_le (hl k l hk) hb.size
 ·unfold labB at he9
  by_cases e:ev'.ownBlock=some k
  ·rw [if_pos e] at he9;cases he9;exact ⟨rfl,rfl⟩
  ·rw [if_neg e,hnn k hk] at he9;cases he9
 ·show Win w' 1 ev' (q.emp++[c]).length _
  rw [List.length_append];exact h2
 ·refine EL.snoc (TL.nz h3 hL hb.size h5 (fun k hk hk2=>?_)) (EL.but hb hS2 hL h.el)
  unfold labB
  rw [if_neg (fun e=>?_)]
  ·exact hnn k hk
  ·rcases h6 k e with h9|h9
   ·have:=h.ew.lt h9;omega
   ·omega
 ·show (q.emp++[c]).length≤N+1
  rw [List.length_append,List.length_singleton]
  have:=h.en;omega
 ·exact h.rc.but (q:=q) hb hS2 (fun k e hk=>no k _ hk (by simp) (by simp) e) hL hl (Nat.le_succ N)
theorem ch_rcv (hl:Llt L w) (h:ChX pl L w ob o N q sv ev (.map (some m)) cv xs ys) (hr:RcM pl L w o m N f q.rcv) (hu:q.unb=true) {se:List (Nat × Clk)} {fm:Nat} (hk:Kr pl (TW L w) w w' ob m N q.free sv' ev cv (fm:Int) f c)
  (he:Win w 2 sv' se.length xs') (heo:∀ k,sv'.ownBlock=some k→L k=some (.sn o)) (hel:SL pl L w se xs') (hen:se.length≤N):KR L w w' 2 o (fun L'=>ChM pl L' w' ob o (N+1) { q with sent:=se,rcv:=setN q.rcv fm (some c) }):=by
 obtain ⟨⟨h1,u,h2,h3⟩,hb⟩:=hk
 have hS:∀ k,(k=ob∨k=m)→k < w.heap.size→∃ l,L k=some l∧l.of 2 o:=fun k e _=>by
  rcases e with e|e
  ·exact ⟨.ob 2 o,by rw [e];exact h.lb,rfl,rfl⟩
  ·exact ⟨.rc o,by rw [e];exact hr.lb,rfl,rfl⟩
 have hS2:∀ k,(k=ob∨k=m)→k < w.heap.size→L k≠none:=fun k e hk e9=>by
  obtain ⟨l,hl9,_⟩:=hS k e hk
  rw [hl9] at e9;cases e9
 have no:∀ k l,L k=some l→l≠.ob 2 o→l≠.rc o→¬ (k=ob∨k=m):=fun k l hk n1 n2 e=>by
  rcases e with e|e
  ·rw [e,h.lb] at hk;exact n1 (Option.some.inj hk).symm
  ·rw [e,hr.lb] at hk;exact n2 (Option.some.inj hk).symm
 have hL:=LEx.refl L w
 refine KR.same hl hb hS ⟨sv',ev,.map (some m),cv,xs',ys,h.lb,h1,h.f0,h.f1,he.but hb (fun k hk=>no k _ (heo k hk) (by simp) (by simp)),heo,SL.but hb hS2 hL hel,by show se.length≤N+1;omega,h.ew.but hb (fun k hk=>no k _ (h.eo k hk) (by simp) (by simp)),h.eo,EL.but hb hS2 hL h.el,Nat.le_succ_of_le h.en,.inr ⟨hu,m,_,rfl,hr.lb,h2,fun g hg=>?_⟩,h.cv.but hb hS2 hL⟩
 obtain ⟨r1,r2⟩:=(hr.rf.but hb hS2 hL) g hg
 have hT:=TL.new h3 hl hb.size
 by_cases e:g=fm
 ·subst e
  refine ⟨fun e9=>?_,fun c2 e9=>?_⟩
  ·have e9:setN q.rcv g (some c) g=none:=e9
   rw [setN_same] at e9;cases e9
  ·have e9:setN q.rcv g (some c) g=some c2:=e9
   rw [setN_same] at e9
   cases e9
   exact ⟨u,setF_same _ _ _,hT⟩
 ·have e2:¬ (g:Int)=(fm:Int):=by omega
  show (setN q.rcv fm (some c) g=none→_)∧∀ c2,setN q.rcv fm (some c) g=some c2→_
  rw [setN_other _ _ e,setF_other _ _ e2]
  exact ⟨r1,r2⟩
theorem ch_ack (hl:Llt L w) (h:ChX pl L w ob o N q sv ev (.map (some m)) cv xs ys) (hr:RcM pl L w o m N f q.rcv) (hu:q.unb=true) {g9:Nat} (hm:HM w' 74 .u16 m N (.pointer none) (setF f (g9:Int) none)) (hb:But (fun j=>j=m) w w'):KR L w w' 2 o (fun L'=>ChM pl L' w' ob o (N+1) { q with rcv:=setN q.rcv g9 none }):=by
 have hS:∀ k,k=m→k < w.heap.size→∃ l,L k=some l∧l.of 2 o:=fun k e _=>⟨.rc o,by rw [e];exact hr.lb,rfl,rfl⟩
 have hS2:∀ k,k=m→k < w.heap.size→L k≠none:=fun k e hk e9=>by rw [e,hr.lb] at e9;cases e9
 have no:∀ k l,L k=some l→l≠.rc o→¬ k=m:=fun k l hk n2 e=>by rw [e,hr.lb] at hk;exact n2 (Option.some.inj hk).symm
 have hL:=LEx.refl L w
 refine KR.same hl hb hS ⟨sv,ev,.map (some m),cv,xs,ys,h.lb,(hb.block ob (lt_heap h.hb) (no ob _ h.lb (by simp))).trans h.hb,h.f0,h.f1,h.sw.but hb (fun k hk=>no k _ (h.so k hk) (by simp)),h.so,SL.but hb hS2 hL h.sl,Nat.le_succ_of_le h.sn,h.ew.but hb (fun k hk=>no k _ (h.eo k hk) (by simp)),h.eo,EL.but hb hS2 hL h.el,Nat.le_succ_of_le h.en,.inr ⟨hu,m,_,rfl,hr.lb,hm.up (Nat.le_succ N),fun g hg=>?_⟩,h.cv.but hb hS2 hL⟩
 obtain ⟨r1,r2⟩:=(hr.rf.but hb hS2 hL) g hg
 by_cases e:g=g9
 ·subst e
  refine ⟨fun _=>setF_same _ _ _,fun c2 e9=>?_⟩
  have e9:setN q.rcv g none g=some c2:=e9
  rw [setN_same] at e9
  cases e9
 ·have e2:¬ (g:Int)=(g9:Int):=by omega
  show (setN q.rcv g9 none g=none→_)∧∀ c2,setN q.rcv g9 none g=some c2→_
  rw [setN_other _ _ e,setF_other _ _ e2]
  exact ⟨r1,r2⟩
theorem HM.lt {kt:TypeId} {kk:IntKind} {z:Value} (h:HM w kt kk m N z f):m < w.heap.size:=by
 obtain ⟨D,⟨es,cl,h1,_⟩,_⟩:=h
 exact lt_heap h1
theorem ch_mk0 (hl:Llt L w) (h:ChX pl L w ob o N ChF.new sv ev rv cv xs ys) (hmm:w.heap.size≤m) (hh:w'.heap[ob]?=some (.cells #[.int .u64 0,sv,ev,.map (some m),cv] 231 (0,0))) (hm:HM w' 74 .u16 m 0 (.pointer none) (fun _=>none)) (hb:But (fun j=>j=ob) w w'):KR L w w' 2 o (fun L'=>ChM pl L' w' ob o (N+1) { ChF.new with free:=0,unb:=true }):=by
 have hS:∀ k,k=ob→k < w.heap.size→∃ l,L k=some l∧l.of 2 o:=fun k e _=>⟨.ob 2 o,by rw [e];exact h.lb,rfl,rfl⟩
 have hS2:∀ k,k=ob→k < w.heap.size→L k≠none:=fun k e hk e9=>by rw [e,h.lb] at e9;cases e9
 have no:∀ k l,L k=some l→l≠.ob 2 o→¬ k=ob:=fun k l hk n2 e=>by rw [e,h.lb] at hk;exact n2 (Option.some.inj hk).symm
 have hL:LEx L (labB L (.slice (some ⟨m,0,none⟩) 0 0) (.rc o)) w:=fun k hk=>by
  unfold labB
  rw [if_neg (fun e=>?_)]
  have e9:m=k:=Option.some.inj e
  omega
 have lk:∀ k l,L k=some l→labB L (.slice (some ⟨m,0,none⟩) 0 0) (.rc o) k=some l:=fun k l hk=>(hL k (hl k l hk)).trans hk
 refine ⟨⟨labB L (.slice (some ⟨m,0,none⟩) 0 0) (.rc o),hL,fun k l hk=>?_,fun k l hk he9=>?_,sv,ev,.map (some m),cv,xs,ys,lk _ _ h.lb,hh,Int.le_refl 0,(by show (0:Int)≤18446744073709551615;omega),h.sw.but hb (fun k hk=>no k _ (h.so k hk) (by simp)),fun k hk=>lk _ _ (h.so k hk),SL.but hb hS2 hL h.sl,Nat.le_succ_of_le h.sn,h.ew.but hb (fun k hk=>no k _ (h.eo k hk) (by simp)),fun k hk=>lk _ _ (h.eo k hk),EL.but hb hS2 hL h.el,Nat.le_succ_of_le h.en,.inr ⟨rfl,m,_,rfl,if_pos rfl,hm.up (Nat.zero_le _),fun g hg=>⟨fun _=>rfl,fun c e9=>(by cases e9)⟩⟩,h.cv.but hb hS2 hL⟩,but_lab hb hS⟩
 ·unfold labB at hk
  by_cases e:(Value.slice (some ⟨m,0,none⟩) 0 0).ownBlock=some k
  ·cases e;exact hm.lt
  ·rw [if_neg e] at hk;exact Nat.lt_of_lt_of_le (hl k l hk) hb.size
 ·unfold labB at he9
  by_cases e:(Value.slice (some ⟨m,0,none⟩) 0 0).ownBlock=some k
  ·rw [if_pos e] at he9;cases he9;exact ⟨rfl,rfl⟩
  ·rw [if_neg e] at he9;have:=hl k l he9;omega
end
end Go.Proofs.YtimgkhdgliojgaaGreatDoor
