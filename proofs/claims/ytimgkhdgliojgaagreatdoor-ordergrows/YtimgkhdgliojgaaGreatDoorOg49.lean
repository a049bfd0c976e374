import Derived.Test.YtimgkhdgliojgaaGreatDoorOg48
set_option maxRecDepth 8000
set_option maxHeartbeats 8000000
set_option linter.unusedVariables false
namespace Go.Proofs.YtimgkhdgliojgaaGreatDoor
open Go.RowKit Go.Maps
theorem chk_low {g k o a:Int} {ls:List ByteArray} (h:k≤0):E6.chk g k o a ls=60:=by
 unfold E6.chk
 rw [if_neg (by omega)]
theorem tkl_le (c:Nat→Int) (a:Nat):∀ n,(tkl c a n).length≤n
 | 0=>Nat.le_refl _
 | n+1=>by
  have h:=tkl_le c a n
  rw [tkl,List.length_append]
  split
  ·show (tkl c a n).length+1≤n+1;omega
  ·show (tkl c a n).length+0≤n+1;omega
theorem ok_take {es:List E6.Ev} (h:∀ e ∈ es,e.ok) (k:Nat):∀ e ∈ es.take k,e.ok:=fun e he=>h e (List.mem_of_mem_take he)
theorem csame_yes (a b:Option Addr) (na ca nb cb:Nat) (c:Nat→Int) (w:World) (hA:TRow layK w a na (tks c)) (hB:TRow layK w b nb (tks c)) :
  Calls Tryz.prog 14 #[.slice a na ca,.slice b nb cb] w fun e w'=>e=.returned (.bool true)∧Below w.heap.size w w':=by
 have h1:=hA.len
 have h2:(tks c).length≤65536:=tkl_le c 0 65536
 have h9:=csame_any a b na ca nb cb _ _ w hA hB (by omega)
 rw [decide_eq_true rfl] at h9
 exact h9
theorem tadd_low {es:List E6.Ev} {w0 w:World} {rb cb fb q:Nat} (hR:IsRun es) (hK:E6.Kr w0) (hq:q≤es.length) (x:E6.Ev) (hx:x.ok) (y:Int) (hy:y≤0) (hT:TX es (fun _=>False) w0 w rb cb fb (rsAt es q).M q) (hs:E6.SRow w x.sa x.ls.length x.ls) :
  Calls Tryz.prog 12 #[.pointer (some ⟨rb,0,none⟩),.agg #[.int .i64 x.g,.int .i64 y,.int .u64 x.o,.int .u64 x.a,.slice x.sa x.ls.length x.sc]] w fun r w'=>r=.returned (.tuple #[.slice none 0 0,.int .i64 60])∧TX es (fun _=>False) w0 w' rb cb fb (rsAt es q).M q:=by
 have hc:(⟨x.g,y,x.o,x.a,x.sa,x.sc,x.ls⟩:E6.Ev).chk=60:=chk_low hy
 have h1:=(rs_inv hR q hq).2
 have h2:=hR.len
 have h9:=tadd_bad (e:=⟨x.g,y,x.o,x.a,x.sa,x.sc,x.ls⟩) hK (by rw [hc];decide) ⟨hx.ho,hx.ha,hx.len,hx.sz,hx.cap,hx.nil⟩ (by omega) hT hs
 rw [hc] at h9
 exact h9
theorem grows_any (a:Option Addr) (n c:Nat) (es:List E6.Ev) (a1:Option Addr) (n1 c1:Nat) (bs:List E6.Ev) (cut:Int) (w:World) (hK:E6.Kr w) (hr:E6.ERow w a n es) (hok:∀ e ∈ es,e.ok) (hn:n * 56≤140737488355328) (hc:n≤c) (hr1:E6.ERow w a1 n1 bs) (hok1:∀ e ∈ bs,e.ok) (hn1:n1 * 56≤140737488355328) :
  Calls Tryz.prog 6 #[.slice a n c,.slice a1 n1 c1,.int .i64 cut] w fun e w'=>e=.returned (.bool true)∧Below w.heap.size w w':=by
 have hsz:=hK.size
 have HAl:=hide (alive_any w hK)
 have HK:=hide hK
 have HR:=hide hr
 have HOk:=hide hok
 have HR1:=hide hr1
 have HOk1:=hide hok1
 have hnI:(n:Int)≤9223372036854775806:=by omega
 have hn1I:(n1:Int)≤9223372036854775806:=by omega
 have hcI:(n:Int)≤c:=by omega
 have HLn:=hide hr.len
 obtain ⟨p,r,f,hV⟩:∃ p r f,runV es=(p,r,f):=⟨_,_,_,rfl⟩
 have HV:=hide hV
 clear hK hr hok hn hr1 hok1 hn1 hV hc
 go_enter Tryz.func6,Tryz.ntmps6
 go_wp2_with fail
 refine HAl.out.mono ?_
 rintro e1 w1 ⟨rfl,hb1⟩
 have HB1:=hide hb1
 have HBd:=hide (Build_x a n c (HK.out.below hb1 (by omega)) (HR.out.bel hb1) HOk.out hnI HV.out)
 obtain ⟨E,hE⟩:∃ E,E=(if f≠0 then f else if r≠0 then 160 else 0):=⟨_,rfl⟩
 rw [← hE] at HBd
 have HE:=hide hE
 clear hb1 HAl hE
 go_wp2_with fail
 refine HBd.out.mono ?_
 rintro e2 w2 ⟨o,rfl,hb2,hrun,hnone⟩
 have HB2:=hide (bw_call HB1.out hb2)
 have HRn:=hide hrun
 clear hb2 HBd HB1 hrun hnone
 have hcase:(∃ k:Nat,cut=(k:Int)∧k≤n∧decide (cut < 0)=false∧decide ((n:Int) < cut)=false)∨decide (cut < 0)=true∨(decide (cut < 0)=false∧decide ((n:Int) < cut)=true):=by
  by_cases h1:cut < 0
  ·exact .inr (.inl (decide_eq_true h1))
  ·by_cases h2:(n:Int) < cut
   ·exact .inr (.inr ⟨decide_eq_false h1,decide_eq_true h2⟩)
   ·exact .inl ⟨cut.toNat,by omega,by omega,decide_eq_false h1,decide_eq_false h2⟩
 rcases hcase with ⟨k,rfl,hk,d1,d2⟩|d1|⟨d1,d2⟩
 ·have d3:decide (n < k)=false:=decide_eq_false (by omega)
  go_upto_region 7 with fail
  clear d1 d2 d3
  have h0k:(0:Int)≤(k:Int):=by omega
  have hkcI:(k:Int)≤(c:Int):=by omega
  have HK2:=hide hk
  obtain ⟨p2,r2,f2,hV2⟩:∃ p2 r2 f2,runV (es.take k)=(p2,r2,f2):=⟨_,_,_,rfl⟩
  have HV2:=hide hV2
  have HBd2:=hide (Build_x a k c (HK.out.below HB2.out (by omega)) (erow_pre (HR.out.bel HB2.out) hk) (ok_take HOk.out k) (by omega) hV2)
  obtain ⟨E2,hE2⟩:∃ E2,E2=(if f2≠0 then f2 else if r2≠0 then 160 else 0):=⟨_,rfl⟩
  rw [← hE2] at HBd2
  have HE2:=hide hE2
  clear hE2 hV2 hk
  go_wp2_with fail
  refine HBd2.out.mono ?_
  rintro e3 w3 ⟨o2,rfl,hb3,hrun2,hnone2⟩
  have HB3:=hide (bw_call HB2.out hb3)
  have HRn2:=hide hrun2
  have HRnO:=hide (fun h1 h2=>by obtain ⟨q1,q2,ob,q3,q4⟩:=HRn.out h1 h2;exact (⟨q1,q2,ob,q3,q4.on hb3⟩:IsRun es∧p=-1∧∃ ob,o=some ⟨ob,0,none⟩∧OA es w3 ob))
  have HNw:=hide (tnew_any es w3)
  clear hb3 HBd2 hrun2 hnone2 HRn
  by_cases hf:f≠0
  ·have hEf:E=f:=by rw [HE.out,if_pos hf]
   have b1:(E == 0)=false:=by rw [beq_eq_false_iff_ne,hEf];exact hf
   have b2:(E == 160)=false:=by rw [beq_eq_false_iff_ne,hEf];exact rv_ne HV.out hf
   have b3:(E != 0)=true:=by simp [bne,b1]
   clear hf hEf
   go_wp2_with fail
   refine HNw.out.mono ?_
   rintro e4 w4 ⟨rb,cb,fb,rfl,hT⟩
   have HB4:=hide (bw_call HB3.out hT.bel)
   clear hT HNw
   go_wp2
   go_ret
   exact ⟨rfl,HB4.out⟩
  have hf0:f=0:=by omega
  subst hf0
  by_cases hr0:r≠0
  ·have hEf:E=160:=by rw [HE.out,if_neg (by omega),if_pos hr0]
   have HEf:=hide hEf
   have hD:(decide ((p:Int) < k)=false)∨(decide ((p:Int) < k)=true∧E2=160∧p2=p):=by
    by_cases h9:p < k
    ·have h8:=rv_take_bad HV.out hr0 h9
     rw [HV2.out] at h8
     cases h8
     exact .inr ⟨decide_eq_true h9,by rw [HE2.out,if_neg (by omega),if_pos hr0],rfl⟩
    ·exact .inl (decide_eq_false h9)
   have bpp:(p != p)=false:=by simp
   clear hr0 HEf
   subst hEf
   rcases hD with hD|⟨hD,hE2,hp2⟩
   ·go_wp2_with fail
    refine HNw.out.mono ?_
    rintro e4 w4 ⟨rb,cb,fb,rfl,hT⟩
    have HB4:=hide (bw_call HB3.out hT.bel)
    clear hT HNw
    go_wp2
    go_ret
    exact ⟨rfl,HB4.out⟩
   ·subst hE2
    subst hp2
    go_wp2_with fail
    refine HNw.out.mono ?_
    rintro e4 w4 ⟨rb,cb,fb,rfl,hT⟩
    have HB4:=hide (bw_call HB3.out hT.bel)
    clear hT HNw
    go_wp2
    go_ret
    exact ⟨rfl,HB4.out⟩
  have hr1:r=0:=by omega
  subst hr1
  obtain ⟨hRun,hp,ob,ho,hOA⟩:=HRnO.out rfl rfl
  have hE0:E=0:=by rw [HE.out,if_neg (by omega),if_neg (by omega)]
  subst hp
  subst ho
  have h8:=rv_take_ok HV.out k
  rw [HV2.out] at h8
  cases h8
  obtain ⟨hRun2,_,ob2,ho2,hOA2⟩:=HRn2.out rfl rfl
  have hE20:E2=0:=by rw [HE2.out,if_neg (by omega),if_neg (by omega)]
  subst ho2
  have HRun:=hide hRun
  have HRun2:=hide hRun2
  have HO3:=hide (And.intro hOA hOA2)
  clear hRun hRun2 hOA hOA2 HRnO HRn2 HV HV2 hf hr0 HE HE2
  subst hE0
  subst hE20
  go_wp2_with fail
  refine HNw.out.mono ?_
  rintro e4 w4 ⟨rb,cb,fb,rfl,hT⟩
  have HX4:=hide hT
  have HB4:=hide (bw_call HB3.out hT.bel)
  have HK3:=hide (HK.out.below HB3.out (by omega))
  have HR3:=hide (HR.out.bel HB3.out)
  have HS3:=hide (HR1.out.bel HB3.out)
  clear hT HNw HK HR HR1 HB2
  go_wp2
  go_loopw [15] (fun s wr=>∃ q:Nat,q≤n∧s=.int .i64 q∧Hid (TX es (fun _=>False) w3 wr rb cb fb (rsAt es q).M q)) (fun s _=>n - (intOf s).toNat)
  case atStart=>exact ⟨0,Nat.zero_le _,rfl,HX4⟩
  case round =>
   obtain ⟨q,hq,rfl,HX⟩:=hrel
   clear HX4 HB4
   by_cases hlt:q < n
   ·have hqI:(q:Int) < n:=by omega
    have hq0:(0:Int)≤q:=by omega
    have hqE:q≤es.length:=by rw [HLn.out];omega
    by_cases hq1:q < n1
    ·have hq1I:(q:Int) < n1:=by omega
     obtain ⟨b1,off1,x,ha1,hx,x0,x1,x2,x3,x4,hsx⟩:=(HS3.out.bel HX.out.bel).at hq1
     have hxo:=HOk1.out x (List.mem_of_getElem? hx)
     obtain ⟨y,hy⟩:∃ y,IntKind.i64.wrap (-x.k)=y:=⟨_,rfl⟩
     have hyb:-9223372036854775808≤y∧y≤9223372036854775807:=by rw [← hy,IntKind.wrap_i64];omega
     have hyE:=hy
     subst ha1
     by_cases hyp:0 < y
     ·have hyd:decide (0 < y)=true:=decide_eq_true hyp
      obtain ⟨z,hz⟩:∃ z,IntKind.i64.wrap (-y)=z:=⟨_,rfl⟩
      have hz0:z≤0:=by rw [← hz,IntKind.wrap_i64];omega
      clear hyE hyb
      obtain ⟨W2,hW2⟩:∃ W2,W2=wr.alloc (.cells #[.int .i64 x.g,.int .i64 z,.int .u64 x.o,.int .u64 x.a,.slice x.sa x.ls.length x.sc] 35):=⟨_,rfl⟩
      have hb2:Below wr.heap.size wr W2:=by rw [hW2];exact below_alloc1 _ _
      have HLw:=hide (tadd_low HRun.out HK3.out hqE x hxo z (by omega) (HX.out.on hb2) (E6.SRow.bel hsx hb2))
      rw [hW2] at HLw
      clear hxo hx hsx hb2 hW2 HX
      go_wp2_with fail
      refine HLw.out.mono ?_
      rintro eA wA ⟨rfl,hXA⟩
      have HXA:=hide hXA
      clear hXA HLw x0 x1 x2 x3 x4
      obtain ⟨b0,off0,e,ha,he,c0,c1,c2,c3,c4,hs⟩:=(HR3.out.bel HXA.out.bel).at hlt
      have HAd:=hide (tadd_run HRun.out HK3.out he HXA.out hs)
      subst ha
      clear he hs
      go_wp2_with fail
      refine HAd.out.mono ?_
      rintro e5 w5 ⟨la,ln,lc,v,rfl,hv,hT5,hlc,hX5⟩
      have HV5:=hide hv
      have HX5:=hide hX5
      have HT5:=hide hT5
      have HC6:=hide (Clock_of HRun.out (HO3.out.1.on hX5.bel) hv)
      clear hv hT5 hlc hX5 HAd HXA c0 c1 c2 c3 c4
      go_wp2_with fail
      refine HC6.out.mono ?_
      rintro e6 w6 ⟨ka,kn,kc,rfl,hT6,hkc,hb6⟩
      have HX6:=hide (HX5.out.on hb6)
      have HT6:=hide hT6
      have HS7:=hide (csame_yes la ka ln lc kn kc v.clk w6 (HT5.out.below hb6) hT6)
      clear hT6 hkc hb6 HC6 HX5 HT5
      go_wp2_with fail
      refine HS7.out.mono ?_
      rintro e7 w7 ⟨rfl,hb7⟩
      have HX7:=hide (HX6.out.on hb7)
      have HT7:=hide (HT6.out.below hb7)
      clear hb7 HS7 HX6 HT6
      by_cases hqk:q < k
      ·have hqkI:(q:Int) < k:=by omega
       have HC8:=hide (Clock_of HRun2.out (HO3.out.2.on HX7.out.bel) ((vws_take hqk).trans HV5.out))
       clear hqk
       go_wp2_with fail
       refine HC8.out.mono ?_
       rintro e8 w8 ⟨ma,mn,mc,rfl,hT8,hmc,hb8⟩
       have HX8:=hide (HX7.out.on hb8)
       have HS9:=hide (csame_yes ma ka mn mc kn kc v.clk w8 hT8 (HT7.out.below hb8))
       clear hT8 hmc hb8 HC8 HX7 HT7
       go_wp2_with fail
       refine HS9.out.mono ?_
       rintro e9 w9 ⟨rfl,hb9⟩
       have HX9:=hide (HX8.out.on hb9)
       clear hb9 HS9 HX8
       go_wp2
       exact ⟨⟨q+1,by omega,by go_num,HX9⟩,by simp [intOf];omega⟩
      ·have hqkI:¬ (q:Int) < k:=by omega
       clear hqk HT7
       go_wp2
       exact ⟨⟨q+1,by omega,by go_num,HX7⟩,by simp [intOf];omega⟩
     ·have hyd:decide (0 < y)=false:=decide_eq_false hyp
      have hy0:y≤0:=by omega
      clear hyE hyb
      obtain ⟨W2,hW2⟩:∃ W2,W2=wr.alloc (.cells #[.int .i64 x.g,.int .i64 y,.int .u64 x.o,.int .u64 x.a,.slice x.sa x.ls.length x.sc] 35):=⟨_,rfl⟩
      have hb2:Below wr.heap.size wr W2:=by rw [hW2];exact below_alloc1 _ _
      have HLw:=hide (tadd_low HRun.out HK3.out hqE x hxo y (by omega) (HX.out.on hb2) (E6.SRow.bel hsx hb2))
      rw [hW2] at HLw
      clear hxo hx hsx hb2 hW2 HX
      go_wp2_with fail
      refine HLw.out.mono ?_
      rintro eA wA ⟨rfl,hXA⟩
      have HXA:=hide hXA
      clear hXA HLw x0 x1 x2 x3 x4
      obtain ⟨b0,off0,e,ha,he,c0,c1,c2,c3,c4,hs⟩:=(HR3.out.bel HXA.out.bel).at hlt
      have HAd:=hide (tadd_run HRun.out HK3.out he HXA.out hs)
      subst ha
      clear he hs
      go_wp2_with fail
      refine HAd.out.mono ?_
      rintro e5 w5 ⟨la,ln,lc,v,rfl,hv,hT5,hlc,hX5⟩
      have HV5:=hide hv
      have HX5:=hide hX5
      have HT5:=hide hT5
      have HC6:=hide (Clock_of HRun.out (HO3.out.1.on hX5.bel) hv)
      clear hv hT5 hlc hX5 HAd HXA c0 c1 c2 c3 c4
      go_wp2_with fail
      refine HC6.out.mono ?_
      rintro e6 w6 ⟨ka,kn,kc,rfl,hT6,hkc,hb6⟩
      have HX6:=hide (HX5.out.on hb6)
      have HT6:=hide hT6
      have HS7:=hide (csame_yes la ka ln lc kn kc v.clk w6 (HT5.out.below hb6) hT6)
      clear hT6 hkc hb6 HC6 HX5 HT5
      go_wp2_with fail
      refine HS7.out.mono ?_
      rintro e7 w7 ⟨rfl,hb7⟩
      have HX7:=hide (HX6.out.on hb7)
      have HT7:=hide (HT6.out.below hb7)
      clear hb7 HS7 HX6 HT6
      by_cases hqk:q < k
      ·have hqkI:(q:Int) < k:=by omega
       have HC8:=hide (Clock_of HRun2.out (HO3.out.2.on HX7.out.bel) ((vws_take hqk).trans HV5.out))
       clear hqk
       go_wp2_with fail
       refine HC8.out.mono ?_
       rintro e8 w8 ⟨ma,mn,mc,rfl,hT8,hmc,hb8⟩
       have HX8:=hide (HX7.out.on hb8)
       have HS9:=hide (csame_yes ma ka mn mc kn kc v.clk w8 hT8 (HT7.out.below hb8))
       clear hT8 hmc hb8 HC8 HX7 HT7
       go_wp2_with fail
       refine HS9.out.mono ?_
       rintro e9 w9 ⟨rfl,hb9⟩
       have HX9:=hide (HX8.out.on hb9)
       clear hb9 HS9 HX8
       go_wp2
       exact ⟨⟨q+1,by omega,by go_num,HX9⟩,by simp [intOf];omega⟩
      ·have hqkI:¬ (q:Int) < k:=by omega
       clear hqk HT7
       go_wp2
       exact ⟨⟨q+1,by omega,by go_num,HX7⟩,by simp [intOf];omega⟩
    ·have hq1I:¬ (q:Int) < n1:=by omega
     have HXA:=HX
     clear HX
     obtain ⟨b0,off0,e,ha,he,c0,c1,c2,c3,c4,hs⟩:=(HR3.out.bel HXA.out.bel).at hlt
     have HAd:=hide (tadd_run HRun.out HK3.out he HXA.out hs)
     subst ha
     clear he hs
     go_wp2_with fail
     refine HAd.out.mono ?_
     rintro e5 w5 ⟨la,ln,lc,v,rfl,hv,hT5,hlc,hX5⟩
     have HV5:=hide hv
     have HX5:=hide hX5
     have HT5:=hide hT5
     have HC6:=hide (Clock_of HRun.out (HO3.out.1.on hX5.bel) hv)
     clear hv hT5 hlc hX5 HAd HXA c0 c1 c2 c3 c4
     go_wp2_with fail
     refine HC6.out.mono ?_
     rintro e6 w6 ⟨ka,kn,kc,rfl,hT6,hkc,hb6⟩
     have HX6:=hide (HX5.out.on hb6)
     have HT6:=hide hT6
     have HS7:=hide (csame_yes la ka ln lc kn kc v.clk w6 (HT5.out.below hb6) hT6)
     clear hT6 hkc hb6 HC6 HX5 HT5
     go_wp2_with fail
     refine HS7.out.mono ?_
     rintro e7 w7 ⟨rfl,hb7⟩
     have HX7:=hide (HX6.out.on hb7)
     have HT7:=hide (HT6.out.below hb7)
     clear hb7 HS7 HX6 HT6
     by_cases hqk:q < k
     ·have hqkI:(q:Int) < k:=by omega
      have HC8:=hide (Clock_of HRun2.out (HO3.out.2.on HX7.out.bel) ((vws_take hqk).trans HV5.out))
      clear hqk
      go_wp2_with fail
      refine HC8.out.mono ?_
      rintro e8 w8 ⟨ma,mn,mc,rfl,hT8,hmc,hb8⟩
      have HX8:=hide (HX7.out.on hb8)
      have HS9:=hide (csame_yes ma ka mn mc kn kc v.clk w8 hT8 (HT7.out.below hb8))
      clear hT8 hmc hb8 HC8 HX7 HT7
      go_wp2_with fail
      refine HS9.out.mono ?_
      rintro e9 w9 ⟨rfl,hb9⟩
      have HX9:=hide (HX8.out.on hb9)
      clear hb9 HS9 HX8
      go_wp2
      exact ⟨⟨q+1,by omega,by go_num,HX9⟩,by simp [intOf];omega⟩
     ·have hqkI:¬ (q:Int) < k:=by omega
      clear hqk HT7
      go_wp2
      exact ⟨⟨q+1,by omega,by go_num,HX7⟩,by simp [intOf];omega⟩
   ·have hqI:¬ (q:Int) < n:=by omega
    have HB9:=hide (bw_call HB3.out HX.out.bel)
    go_wp2
    go_ret
    exact ⟨rfl,HB9.out⟩
 ·go_upto_region 7 with fail
  clear d1
  have hk:n≤n:=Nat.le_refl _
  have h0k:(0:Int)≤(n:Int):=by omega
  have hkcI:(n:Int)≤(c:Int):=by omega
  have HK2:=hide hk
  obtain ⟨p2,r2,f2,hV2⟩:∃ p2 r2 f2,runV (es.take n)=(p2,r2,f2):=⟨_,_,_,rfl⟩
  have HV2:=hide hV2
  have HBd2:=hide (Build_x a n c (HK.out.below HB2.out (by omega)) (erow_pre (HR.out.bel HB2.out) hk) (ok_take HOk.out n) (by omega) hV2)
  obtain ⟨E2,hE2⟩:∃ E2,E2=(if f2≠0 then f2 else if r2≠0 then 160 else 0):=⟨_,rfl⟩
  rw [← hE2] at HBd2
  have HE2:=hide hE2
  clear hE2 hV2 hk
  go_wp2_with fail
  refine HBd2.out.mono ?_
  rintro e3 w3 ⟨o2,rfl,hb3,hrun2,hnone2⟩
  have HB3:=hide (bw_call HB2.out hb3)
  have HRn2:=hide hrun2
  have HRnO:=hide (fun h1 h2=>by obtain ⟨q1,q2,ob,q3,q4⟩:=HRn.out h1 h2;exact (⟨q1,q2,ob,q3,q4.on hb3⟩:IsRun es∧p=-1∧∃ ob,o=some ⟨ob,0,none⟩∧OA es w3 ob))
  have HNw:=hide (tnew_any es w3)
  clear hb3 HBd2 hrun2 hnone2 HRn
  by_cases hf:f≠0
  ·have hEf:E=f:=by rw [HE.out,if_pos hf]
   have b1:(E == 0)=false:=by rw [beq_eq_false_iff_ne,hEf];exact hf
   have b2:(E == 160)=false:=by rw [beq_eq_false_iff_ne,hEf];exact rv_ne HV.out hf
   have b3:(E != 0)=true:=by simp [bne,b1]
   clear hf hEf
   go_wp2_with fail
   refine HNw.out.mono ?_
   rintro e4 w4 ⟨rb,cb,fb,rfl,hT⟩
   have HB4:=hide (bw_call HB3.out hT.bel)
   clear hT HNw
   go_wp2
   go_ret
   exact ⟨rfl,HB4.out⟩
  have hf0:f=0:=by omega
  subst hf0
  by_cases hr0:r≠0
  ·have hEf:E=160:=by rw [HE.out,if_neg (by omega),if_pos hr0]
   have HEf:=hide hEf
   have hD:(decide ((p:Int) < n)=false)∨(decide ((p:Int) < n)=true∧E2=160∧p2=p):=by
    by_cases h9:p < n
    ·have h8:=rv_take_bad HV.out hr0 h9
     rw [HV2.out] at h8
     cases h8
     exact .inr ⟨decide_eq_true h9,by rw [HE2.out,if_neg (by omega),if_pos hr0],rfl⟩
    ·exact .inl (decide_eq_false h9)
   have bpp:(p != p)=false:=by simp
   clear hr0 HEf
   subst hEf
   rcases hD with hD|⟨hD,hE2,hp2⟩
   ·go_wp2_with fail
    refine HNw.out.mono ?_
    rintro e4 w4 ⟨rb,cb,fb,rfl,hT⟩
    have HB4:=hide (bw_call HB3.out hT.bel)
    clear hT HNw
    go_wp2
    go_ret
    exact ⟨rfl,HB4.out⟩
   ·subst hE2
    subst hp2
    go_wp2_with fail
    refine HNw.out.mono ?_
    rintro e4 w4 ⟨rb,cb,fb,rfl,hT⟩
    have HB4:=hide (bw_call HB3.out hT.bel)
    clear hT HNw
    go_wp2
    go_ret
    exact ⟨rfl,HB4.out⟩
  have hr1:r=0:=by omega
  subst hr1
  obtain ⟨hRun,hp,ob,ho,hOA⟩:=HRnO.out rfl rfl
  have hE0:E=0:=by rw [HE.out,if_neg (by omega),if_neg (by omega)]
  subst hp
  subst ho
  have h8:=rv_take_ok HV.out n
  rw [HV2.out] at h8
  cases h8
  obtain ⟨hRun2,_,ob2,ho2,hOA2⟩:=HRn2.out rfl rfl
  have hE20:E2=0:=by rw [HE2.out,if_neg (by omega),if_neg (by omega)]
  subst ho2
  have HRun:=hide hRun
  have HRun2:=hide hRun2
  have HO3:=hide (And.intro hOA hOA2)
  clear hRun hRun2 hOA hOA2 HRnO HRn2 HV HV2 hf hr0 HE HE2
  subst hE0
  subst hE20
  go_wp2_with fail
  refine HNw.out.mono ?_
  rintro e4 w4 ⟨rb,cb,fb,rfl,hT⟩
  have HX4:=hide hT
  have HB4:=hide (bw_call HB3.out hT.bel)
  have HK3:=hide (HK.out.below HB3.out (by omega))
  have HR3:=hide (HR.out.bel HB3.out)
  have HS3:=hide (HR1.out.bel HB3.out)
  clear hT HNw HK HR HR1 HB2
  go_wp2
  go_loopw [15] (fun s wr=>∃ q:Nat,q≤n∧s=.int .i64 q∧Hid (TX es (fun _=>False) w3 wr rb cb fb (rsAt es q).M q)) (fun s _=>n - (intOf s).toNat)
  case atStart=>exact ⟨0,Nat.zero_le _,rfl,HX4⟩
  case round =>
   obtain ⟨q,hq,rfl,HX⟩:=hrel
   clear HX4 HB4
   by_cases hlt:q < n
   ·have hqI:(q:Int) < n:=by omega
    have hq0:(0:Int)≤q:=by omega
    have hqE:q≤es.length:=by rw [HLn.out];omega
    by_cases hq1:q < n1
    ·have hq1I:(q:Int) < n1:=by omega
     obtain ⟨b1,off1,x,ha1,hx,x0,x1,x2,x3,x4,hsx⟩:=(HS3.out.bel HX.out.bel).at hq1
     have hxo:=HOk1.out x (List.mem_of_getElem? hx)
     obtain ⟨y,hy⟩:∃ y,IntKind.i64.wrap (-x.k)=y:=⟨_,rfl⟩
     have hyb:-9223372036854775808≤y∧y≤9223372036854775807:=by rw [← hy,IntKind.wrap_i64];omega
     have hyE:=hy
     subst ha1
     by_cases hyp:0 < y
     ·have hyd:decide (0 < y)=true:=decide_eq_true hyp
      obtain ⟨z,hz⟩:∃ z,IntKind.i64.wrap (-y)=z:=⟨_,rfl⟩
      have hz0:z≤0:=by rw [← hz,IntKind.wrap_i64];omega
      clear hyE hyb
      obtain ⟨W2,hW2⟩:∃ W2,W2=wr.alloc (.cells #[.int .i64 x.g,.int .i64 z,.int .u64 x.o,.int .u64 x.a,.slice x.sa x.ls.length x.sc] 35):=⟨_,rfl⟩
      have hb2:Below wr.heap.size wr W2:=by rw [hW2];exact below_alloc1 _ _
      have HLw:=hide (tadd_low HRun.out HK3.out hqE x hxo z (by omega) (HX.out.on hb2) (E6.SRow.bel hsx hb2))
      rw [hW2] at HLw
      clear hxo hx hsx hb2 hW2 HX
      go_wp2_with fail
      refine HLw.out.mono ?_
      rintro eA wA ⟨rfl,hXA⟩
      have HXA:=hide hXA
      clear hXA HLw x0 x1 x2 x3 x4
      obtain ⟨b0,off0,e,ha,he,c0,c1,c2,c3,c4,hs⟩:=(HR3.out.bel HXA.out.bel).at hlt
      have HAd:=hide (tadd_run HRun.out HK3.out he HXA.out hs)
      subst ha
      clear he hs
      go_wp2_with fail
      refine HAd.out.mono ?_
      rintro e5 w5 ⟨la,ln,lc,v,rfl,hv,hT5,hlc,hX5⟩
      have HV5:=hide hv
      have HX5:=hide hX5
      have HT5:=hide hT5
      have HC6:=hide (Clock_of HRun.out (HO3.out.1.on hX5.bel) hv)
      clear hv hT5 hlc hX5 HAd HXA c0 c1 c2 c3 c4
      go_wp2_with fail
      refine HC6.out.mono ?_
      rintro e6 w6 ⟨ka,kn,kc,rfl,hT6,hkc,hb6⟩
      have HX6:=hide (HX5.out.on hb6)
      have HT6:=hide hT6
      have HS7:=hide (csame_yes la ka ln lc kn kc v.clk w6 (HT5.out.below hb6) hT6)
      clear hT6 hkc hb6 HC6 HX5 HT5
      go_wp2_with fail
      refine HS7.out.mono ?_
      rintro e7 w7 ⟨rfl,hb7⟩
      have HX7:=hide (HX6.out.on hb7)
      have HT7:=hide (HT6.out.below hb7)
      clear hb7 HS7 HX6 HT6
      have hqk:=hlt
      have HC8:=hide (Clock_of HRun2.out (HO3.out.2.on HX7.out.bel) ((vws_take hqk).trans HV5.out))
      go_wp2_with fail
      refine HC8.out.mono ?_
      rintro e8 w8 ⟨ma,mn,mc,rfl,hT8,hmc,hb8⟩
      have HX8:=hide (HX7.out.on hb8)
      have HS9:=hide (csame_yes ma ka mn mc kn kc v.clk w8 hT8 (HT7.out.below hb8))
      clear hT8 hmc hb8 HC8 HX7 HT7
      go_wp2_with fail
      refine HS9.out.mono ?_
      rintro e9 w9 ⟨rfl,hb9⟩
      have HX9:=hide (HX8.out.on hb9)
      clear hb9 HS9 HX8
      go_wp2
      exact ⟨⟨q+1,by omega,by go_num,HX9⟩,by simp [intOf];omega⟩
     ·have hyd:decide (0 < y)=false:=decide_eq_false hyp
      have hy0:y≤0:=by omega
      clear hyE hyb
      obtain ⟨W2,hW2⟩:∃ W2,W2=wr.alloc (.cells #[.int .i64 x.g,.int .i64 y,.int .u64 x.o,.int .u64 x.a,.slice x.sa x.ls.length x.sc] 35):=⟨_,rfl⟩
      have hb2:Below wr.heap.size wr W2:=by rw [hW2];exact below_alloc1 _ _
      have HLw:=hide (tadd_low HRun.out HK3.out hqE x hxo y (by omega) (HX.out.on hb2) (E6.SRow.bel hsx hb2))
      rw [hW2] at HLw
      clear hxo hx hsx hb2 hW2 HX
      go_wp2_with fail
      refine HLw.out.mono ?_
      rintro eA wA ⟨rfl,hXA⟩
      have HXA:=hide hXA
      clear hXA HLw x0 x1 x2 x3 x4
      obtain ⟨b0,off0,e,ha,he,c0,c1,c2,c3,c4,hs⟩:=(HR3.out.bel HXA.out.bel).at hlt
      have HAd:=hide (tadd_run HRun.out HK3.out he HXA.out hs)
      subst ha
      clear he hs
      go_wp2_with fail
      refine HAd.out.mono ?_
      rintro e5 w5 ⟨la,ln,lc,v,rfl,hv,hT5,hlc,hX5⟩
      have HV5:=hide hv
      have HX5:=hide hX5
      have HT5:=hide hT5
      have HC6:=hide (Clock_of HRun.out (HO3.out.1.on hX5.bel) hv)
      clear hv hT5 hlc hX5 HAd HXA c0 c1 c2 c3 c4
      go_wp2_with fail
      refine HC6.out.mono ?_
      rintro e6 w6 ⟨ka,kn,kc,rfl,hT6,hkc,hb6⟩
      have HX6:=hide (HX5.out.on hb6)
      have HT6:=hide hT6
      have HS7:=hide (csame_yes la ka ln lc kn kc v.clk w6 (HT5.out.below hb6) hT6)
      clear hT6 hkc hb6 HC6 HX5 HT5
      go_wp2_with fail
      refine HS7.out.mono ?_
      rintro e7 w7 ⟨rfl,hb7⟩
      have HX7:=hide (HX6.out.on hb7)
      have HT7:=hide (HT6.out.below hb7)
      clear hb7 HS7 HX6 HT6
      have hqk:=hlt
      have HC8:=hide (Clock_of HRun2.out (HO3.out.2.on HX7.out.bel) ((vws_take hqk).trans HV5.out))
      go_wp2_with fail
      refine HC8.out.mono ?_
      rintro e8 w8 ⟨ma,mn,mc,rfl,hT8,hmc,hb8⟩
      have HX8:=hide (HX7.out.on hb8)
      have HS9:=hide (csame_yes ma ka mn mc kn kc v.clk w8 hT8 (HT7.out.below hb8))
      clear hT8 hmc hb8 HC8 HX7 HT7
      go_wp2_with fail
      refine HS9.out.mono ?_
      rintro e9 w9 ⟨rfl,hb9⟩
      have HX9:=hide (HX8.out.on hb9)
      clear hb9 HS9 HX8
      go_wp2
      exact ⟨⟨q+1,by omega,by go_num,HX9⟩,by simp [intOf];omega⟩
    ·have hq1I:¬ (q:Int) < n1:=by omega
     have HXA:=HX
     clear HX
     obtain ⟨b0,off0,e,ha,he,c0,c1,c2,c3,c4,hs⟩:=(HR3.out.bel HXA.out.bel).at hlt
     have HAd:=hide (tadd_run HRun.out HK3.out he HXA.out hs)
     subst ha
     clear he hs
     go_wp2_with fail
     refine HAd.out.mono ?_
     rintro e5 w5 ⟨la,ln,lc,v,rfl,hv,hT5,hlc,hX5⟩
     have HV5:=hide hv
     have HX5:=hide hX5
     have HT5:=hide hT5
     have HC6:=hide (Clock_of HRun.out (HO3.out.1.on hX5.bel) hv)
     clear hv hT5 hlc hX5 HAd HXA c0 c1 c2 c3 c4
     go_wp2_with fail
     refine HC6.out.mono ?_
     rintro e6 w6 ⟨ka,kn,kc,rfl,hT6,hkc,hb6⟩
     have HX6:=hide (HX5.out.on hb6)
     have HT6:=hide hT6
     have HS7:=hide (csame_yes la ka ln lc kn kc v.clk w6 (HT5.out.below hb6) hT6)
     clear hT6 hkc hb6 HC6 HX5 HT5
     go_wp2_with fail
     refine HS7.out.mono ?_
     rintro e7 w7 ⟨rfl,hb7⟩
     have HX7:=hide (HX6.out.on hb7)
     have HT7:=hide (HT6.out.below hb7)
     clear hb7 HS7 HX6 HT6
     have hqk:=hlt
     have HC8:=hide (Clock_of HRun2.out (HO3.out.2.on HX7.out.bel) ((vws_take hqk).trans HV5.out))
     go_wp2_with fail
     refine HC8.out.mono ?_
     rintro e8 w8 ⟨ma,mn,mc,rfl,hT8,hmc,hb8⟩
     have HX8:=hide (HX7.out.on hb8)
     have HS9:=hide (csame_yes ma ka mn mc kn kc v.clk w8 hT8 (HT7.out.below hb8))
     clear hT8 hmc hb8 HC8 HX7 HT7
     go_wp2_with fail
     refine HS9.out.mono ?_
     rintro e9 w9 ⟨rfl,hb9⟩
     have HX9:=hide (HX8.out.on hb9)
     clear hb9 HS9 HX8
     go_wp2
     exact ⟨⟨q+1,by omega,by go_num,HX9⟩,by simp [intOf];omega⟩
   ·have hqI:¬ (q:Int) < n:=by omega
    have HB9:=hide (bw_call HB3.out HX.out.bel)
    go_wp2
    go_ret
    exact ⟨rfl,HB9.out⟩
 ·go_upto_region 7 with fail
  clear d1 d2
  have hk:n≤n:=Nat.le_refl _
  have h0k:(0:Int)≤(n:Int):=by omega
  have hkcI:(n:Int)≤(c:Int):=by omega
  have HK2:=hide hk
  obtain ⟨p2,r2,f2,hV2⟩:∃ p2 r2 f2,runV (es.take n)=(p2,r2,f2):=⟨_,_,_,rfl⟩
  have HV2:=hide hV2
  have HBd2:=hide (Build_x a n c (HK.out.below HB2.out (by omega)) (erow_pre (HR.out.bel HB2.out) hk) (ok_take HOk.out n) (by omega) hV2)
  obtain ⟨E2,hE2⟩:∃ E2,E2=(if f2≠0 then f2 else if r2≠0 then 160 else 0):=⟨_,rfl⟩
  rw [← hE2] at HBd2
  have HE2:=hide hE2
  clear hE2 hV2 hk
  go_wp2_with fail
  refine HBd2.out.mono ?_
  rintro e3 w3 ⟨o2,rfl,hb3,hrun2,hnone2⟩
  have HB3:=hide (bw_call HB2.out hb3)
  have HRn2:=hide hrun2
  have HRnO:=hide (fun h1 h2=>by obtain ⟨q1,q2,ob,q3,q4⟩:=HRn.out h1 h2;exact (⟨q1,q2,ob,q3,q4.on hb3⟩:IsRun es∧p=-1∧∃ ob,o=some ⟨ob,0,none⟩∧OA es w3 ob))
  have HNw:=hide (tnew_any es w3)
  clear hb3 HBd2 hrun2 hnone2 HRn
  by_cases hf:f≠0
  ·have hEf:E=f:=by rw [HE.out,if_pos hf]
   have b1:(E == 0)=false:=by rw [beq_eq_false_iff_ne,hEf];exact hf
   have b2:(E == 160)=false:=by rw [beq_eq_false_iff_ne,hEf];exact rv_ne HV.out hf
   have b3:(E != 0)=true:=by simp [bne,b1]
   clear hf hEf
   go_wp2_with fail
   refine HNw.out.mono ?_
   rintro e4 w4 ⟨rb,cb,fb,rfl,hT⟩
   have HB4:=hide (bw_call HB3.out hT.bel)
   clear hT HNw
   go_wp2
   go_ret
   exact ⟨rfl,HB4.out⟩
  have hf0:f=0:=by omega
  subst hf0
  by_cases hr0:r≠0
  ·have hEf:E=160:=by rw [HE.out,if_neg (by omega),if_pos hr0]
   have HEf:=hide hEf
   have hD:(decide ((p:Int) < n)=false)∨(decide ((p:Int) < n)=true∧E2=160∧p2=p):=by
    by_cases h9:p < n
    ·have h8:=rv_take_bad HV.out hr0 h9
     rw [HV2.out] at h8
     cases h8
     exact .inr ⟨decide_eq_true h9,by rw [HE2.out,if_neg (by omega),if_pos hr0],rfl⟩
    ·exact .inl (decide_eq_false h9)
   have bpp:(p != p)=false:=by simp
   clear hr0 HEf
   subst hEf
   rcases hD with hD|⟨hD,hE2,hp2⟩
   ·go_wp2_with fail
    refine HNw.out.mono ?_
    rintro e4 w4 ⟨rb,cb,fb,rfl,hT⟩
    have HB4:=hide (bw_call HB3.out hT.bel)
    clear hT HNw
    go_wp2
    go_ret
    exact ⟨rfl,HB4.out⟩
   ·subst hE2
    subst hp2
    go_wp2_with fail
    refine HNw.out.mono ?_
    rintro e4 w4 ⟨rb,cb,fb,rfl,hT⟩
    have HB4:=hide (bw_call HB3.out hT.bel)
    clear hT HNw
    go_wp2
    go_ret
    exact ⟨rfl,HB4.out⟩
  have hr1:r=0:=by omega
  subst hr1
  obtain ⟨hRun,hp,ob,ho,hOA⟩:=HRnO.out rfl rfl
  have hE0:E=0:=by rw [HE.out,if_neg (by omega),if_neg (by omega)]
  subst hp
  subst ho
  have h8:=rv_take_ok HV.out n
  rw [HV2.out] at h8
  cases h8
  obtain ⟨hRun2,_,ob2,ho2,hOA2⟩:=HRn2.out rfl rfl
  have hE20:E2=0:=by rw [HE2.out,if_neg (by omega),if_neg (by omega)]
  subst ho2
  have HRun:=hide hRun
  have HRun2:=hide hRun2
  have HO3:=hide (And.intro hOA hOA2)
  clear hRun hRun2 hOA hOA2 HRnO HRn2 HV HV2 hf hr0 HE HE2
  subst hE0
  subst hE20
  go_wp2_with fail
  refine HNw.out.mono ?_
  rintro e4 w4 ⟨rb,cb,fb,rfl,hT⟩
  have HX4:=hide hT
  have HB4:=hide (bw_call HB3.out hT.bel)
  have HK3:=hide (HK.out.below HB3.out (by omega))
  have HR3:=hide (HR.out.bel HB3.out)
  have HS3:=hide (HR1.out.bel HB3.out)
  clear hT HNw HK HR HR1 HB2
  go_wp2
  go_loopw [15] (fun s wr=>∃ q:Nat,q≤n∧s=.int .i64 q∧Hid (TX es (fun _=>False) w3 wr rb cb fb (rsAt es q).M q)) (fun s _=>n - (intOf s).toNat)
  case atStart=>exact ⟨0,Nat.zero_le _,rfl,HX4⟩
  case round =>
   obtain ⟨q,hq,rfl,HX⟩:=hrel
   clear HX4 HB4
   by_cases hlt:q < n
   ·have hqI:(q:Int) < n:=by omega
    have hq0:(0:Int)≤q:=by omega
    have hqE:q≤es.length:=by rw [HLn.out];omega
    by_cases hq1:q < n1
    ·have hq1I:(q:Int) < n1:=by omega
     obtain ⟨b1,off1,x,ha1,hx,x0,x1,x2,x3,x4,hsx⟩:=(HS3.out.bel HX.out.bel).at hq1
     have hxo:=HOk1.out x (List.mem_of_getElem? hx)
     obtain ⟨y,hy⟩:∃ y,IntKind.i64.wrap (-x.k)=y:=⟨_,rfl⟩
     have hyb:-9223372036854775808≤y∧y≤9223372036854775807:=by rw [← hy,IntKind.wrap_i64];omega
     have hyE:=hy
     subst ha1
     by_cases hyp:0 < y
     ·have hyd:decide (0 < y)=true:=decide_eq_true hyp
      obtain ⟨z,hz⟩:∃ z,IntKind.i64.wrap (-y)=z:=⟨_,rfl⟩
      have hz0:z≤0:=by rw [← hz,IntKind.wrap_i64];omega
      clear hyE hyb
      obtain ⟨W2,hW2⟩:∃ W2,W2=wr.alloc (.cells #[.int .i64 x.g,.int .i64 z,.int .u64 x.o,.int .u64 x.a,.slice x.sa x.ls.length x.sc] 35):=⟨_,rfl⟩
      have hb2:Below wr.heap.size wr W2:=by rw [hW2];exact below_alloc1 _ _
      have HLw:=hide (tadd_low HRun.out HK3.out hqE x hxo z (by omega) (HX.out.on hb2) (E6.SRow.bel hsx hb2))
      rw [hW2] at HLw
      clear hxo hx hsx hb2 hW2 HX
      go_wp2_with fail
      refine HLw.out.mono ?_
      rintro eA wA ⟨rfl,hXA⟩
      have HXA:=hide hXA
      clear hXA HLw x0 x1 x2 x3 x4
      obtain ⟨b0,off0,e,ha,he,c0,c1,c2,c3,c4,hs⟩:=(HR3.out.bel HXA.out.bel).at hlt
      have HAd:=hide (tadd_run HRun.out HK3.out he HXA.out hs)
      subst ha
      clear he hs
      go_wp2_with fail
      refine HAd.out.mono ?_
      rintro e5 w5 ⟨la,ln,lc,v,rfl,hv,hT5,hlc,hX5⟩
      have HV5:=hide hv
      have HX5:=hide hX5
      have HT5:=hide hT5
      have HC6:=hide (Clock_of HRun.out (HO3.out.1.on hX5.bel) hv)
      clear hv hT5 hlc hX5 HAd HXA c0 c1 c2 c3 c4
      go_wp2_with fail
      refine HC6.out.mono ?_
      rintro e6 w6 ⟨ka,kn,kc,rfl,hT6,hkc,hb6⟩
      have HX6:=hide (HX5.out.on hb6)
      have HT6:=hide hT6
      have HS7:=hide (csame_yes la ka ln lc kn kc v.clk w6 (HT5.out.below hb6) hT6)
      clear hT6 hkc hb6 HC6 HX5 HT5
      go_wp2_with fail
      refine HS7.out.mono ?_
      rintro e7 w7 ⟨rfl,hb7⟩
      have HX7:=hide (HX6.out.on hb7)
      have HT7:=hide (HT6.out.below hb7)
      clear hb7 HS7 HX6 HT6
      have hqk:=hlt
      have HC8:=hide (Clock_of HRun2.out (HO3.out.2.on HX7.out.bel) ((vws_take hqk).trans HV5.out))
      go_wp2_with fail
      refine HC8.out.mono ?_
      rintro e8 w8 ⟨ma,mn,mc,rfl,hT8,hmc,hb8⟩
      have HX8:=hide (HX7.out.on hb8)
      have HS9:=hide (csame_yes ma ka mn mc kn kc v.clk w8 hT8 (HT7.out.below hb8))
      clear hT8 hmc hb8 HC8 HX7 HT7
      go_wp2_with fail
      refine HS9.out.mono ?_
      rintro e9 w9 ⟨rfl,hb9⟩
      have HX9:=hide (HX8.out.on hb9)
      clear hb9 HS9 HX8
      go_wp2
      exact ⟨⟨q+1,by omega,by go_num,HX9⟩,by simp [intOf];omega⟩
     ·have hyd:decide (0 < y)=false:=decide_eq_false hyp
      have hy0:y≤0:=by omega
      clear hyE hyb
      obtain ⟨W2,hW2⟩:∃ W2,W2=wr.alloc (.cells #[.int .i64 x.g,.int .i64 y,.int .u64 x.o,.int .u64 x.a,.slice x.sa x.ls.length x.sc] 35):=⟨_,rfl⟩
      have hb2:Below wr.heap.size wr W2:=by rw [hW2];exact below_alloc1 _ _
      have HLw:=hide (tadd_low HRun.out HK3.out hqE x hxo y (by omega) (HX.out.on hb2) (E6.SRow.bel hsx hb2))
      rw [hW2] at HLw
      clear hxo hx hsx hb2 hW2 HX
      go_wp2_with fail
      refine HLw.out.mono ?_
      rintro eA wA ⟨rfl,hXA⟩
      have HXA:=hide hXA
      clear hXA HLw x0 x1 x2 x3 x4
      obtain ⟨b0,off0,e,ha,he,c0,c1,c2,c3,c4,hs⟩:=(HR3.out.bel HXA.out.bel).at hlt
      have HAd:=hide (tadd_run HRun.out HK3.out he HXA.out hs)
      subst ha
      clear he hs
      go_wp2_with fail
      refine HAd.out.mono ?_
      rintro e5 w5 ⟨la,ln,lc,v,rfl,hv,hT5,hlc,hX5⟩
      have HV5:=hide hv
      have HX5:=hide hX5
      have HT5:=hide hT5
      have HC6:=hide (Clock_of HRun.out (HO3.out.1.on hX5.bel) hv)
      clear hv hT5 hlc hX5 HAd HXA c0 c1 c2 c3 c4
      go_wp2_with fail
      refine HC6.out.mono ?_
      rintro e6 w6 ⟨ka,kn,kc,rfl,hT6,hkc,hb6⟩
      have HX6:=hide (HX5.out.on hb6)
      have HT6:=hide hT6
      have HS7:=hide (csame_yes la ka ln lc kn kc v.clk w6 (HT5.out.below hb6) hT6)
      clear hT6 hkc hb6 HC6 HX5 HT5
      go_wp2_with fail
      refine HS7.out.mono ?_
      rintro e7 w7 ⟨rfl,hb7⟩
      have HX7:=hide (HX6.out.on hb7)
      have HT7:=hide (HT6.out.below hb7)
      clear hb7 HS7 HX6 HT6
      have hqk:=hlt
      have HC8:=hide (Clock_of HRun2.out (HO3.out.2.on HX7.out.bel) ((vws_take hqk).trans HV5.out))
      go_wp2_with fail
      refine HC8.out.mono ?_
      rintro e8 w8 ⟨ma,mn,mc,rfl,hT8,hmc,hb8⟩
      have HX8:=hide (HX7.out.on hb8)
      have HS9:=hide (csame_yes ma ka mn mc kn kc v.clk w8 hT8 (HT7.out.below hb8))
      clear hT8 hmc hb8 HC8 HX7 HT7
      go_wp2_with fail
      refine HS9.out.mono ?_
      rintro e9 w9 ⟨rfl,hb9⟩
      have HX9:=hide (HX8.out.on hb9)
      clear hb9 HS9 HX8
      go_wp2
      exact ⟨⟨q+1,by omega,by go_num,HX9⟩,by simp [intOf];omega⟩
    ·have hq1I:¬ (q:Int) < n1:=by omega
     have HXA:=HX
     clear HX
     obtain ⟨b0,off0,e,ha,he,c0,c1,c2,c3,c4,hs⟩:=(HR3.out.bel HXA.out.bel).at hlt
     have HAd:=hide (tadd_run HRun.out HK3.out he HXA.out hs)
     subst ha
     clear he hs
     go_wp2_with fail
     refine HAd.out.mono ?_
     rintro e5 w5 ⟨la,ln,lc,v,rfl,hv,hT5,hlc,hX5⟩
     have HV5:=hide hv
     have HX5:=hide hX5
     have HT5:=hide hT5
     have HC6:=hide (Clock_of HRun.out (HO3.out.1.on hX5.bel) hv)
     clear hv hT5 hlc hX5 HAd HXA c0 c1 c2 c3 c4
     go_wp2_with fail
     refine HC6.out.mono ?_
     rintro e6 w6 ⟨ka,kn,kc,rfl,hT6,hkc,hb6⟩
     have HX6:=hide (HX5.out.on hb6)
     have HT6:=hide hT6
     have HS7:=hide (csame_yes la ka ln lc kn kc v.clk w6 (HT5.out.below hb6) hT6)
     clear hT6 hkc hb6 HC6 HX5 HT5
     go_wp2_with fail
     refine HS7.out.mono ?_
     rintro e7 w7 ⟨rfl,hb7⟩
     have HX7:=hide (HX6.out.on hb7)
     have HT7:=hide (HT6.out.below hb7)
     clear hb7 HS7 HX6 HT6
     have hqk:=hlt
     have HC8:=hide (Clock_of HRun2.out (HO3.out.2.on HX7.out.bel) ((vws_take hqk).trans HV5.out))
     go_wp2_with fail
     refine HC8.out.mono ?_
     rintro e8 w8 ⟨ma,mn,mc,rfl,hT8,hmc,hb8⟩
     have HX8:=hide (HX7.out.on hb8)
     have HS9:=hide (csame_yes ma ka mn mc kn kc v.clk w8 hT8 (HT7.out.below hb8))
     clear hT8 hmc hb8 HC8 HX7 HT7
     go_wp2_with fail
     refine HS9.out.mono ?_
     rintro e9 w9 ⟨rfl,hb9⟩
     have HX9:=hide (HX8.out.on hb9)
     clear hb9 HS9 HX8
     go_wp2
     exact ⟨⟨q+1,by omega,by go_num,HX9⟩,by simp [intOf];omega⟩
   ·have hqI:¬ (q:Int) < n:=by omega
    have HB9:=hide (bw_call HB3.out HX.out.bel)
    go_wp2
    go_ret
    exact ⟨rfl,HB9.out⟩
end Go.Proofs.YtimgkhdgliojgaaGreatDoor
