import Derived.Test.YtaeehnaicnckgaaGreatDoorZo36
import Derived.Test.YtaeehnaicnckgaaGreatDoorZo05
set_option maxRecDepth 8000
set_option maxHeartbeats 8000000
set_option linter.unusedVariables false
namespace Go.Proofs.YtaeehnaicnckgaaGreatDoor.E6
open Go.RowKit Go.Maps Go.Shelf
theorem stkB_deep {ls:List ByteArray} {n:Nat} (hl:ls.length=n) (h:16 < n):stkB ls=false:=by
 unfold stkB;rw [decide_eq_false (by omega)];rfl
theorem stkB_all {ls:List ByteArray} {n:Nat} (hl:ls.length=n) (h:n≤16):stkB ls=ls.all fun s=>decide (s.size≤65536):=by
 unfold stkB;rw [decide_eq_true (by omega)];rfl
theorem classes (k:Int):((k == 7)=true∧(k == 8)=false∧spanB k=false)∨((k == 7)=false∧(k == 8)=true∧spanB k=false)∨((k == 7)=false∧(k == 8)=false∧spanB k=false)∨((k == 7)=false∧(k == 8)=false∧spanB k=true):=by
 by_cases h7:k=7
 ·subst h7;exact .inl ⟨rfl,rfl,rfl⟩
 ·by_cases h8:k=8
  ·subst h8;exact .inr (.inl ⟨rfl,rfl,rfl⟩)
  ·have e7:(k == 7)=false:=by rw [beq_eq_false_iff_ne];exact h7
   have e8:(k == 8)=false:=by rw [beq_eq_false_iff_ne];exact h8
   cases hs:spanB k
   ·exact .inr (.inr (.inl ⟨e7,e8,rfl⟩))
   ·exact .inr (.inr (.inr ⟨e7,e8,rfl⟩))
theorem rcheck_any (g k o a:Int) (sa:Option Addr) (sn sc:Nat) (ls:List ByteArray) (w:World) (hr:SRow w sa sn ls) (hn:(sn:Int)≤9223372036854775806) (ho:0≤o∧o≤18446744073709551615) (ha:0≤a∧a≤18446744073709551615) :
  Calls Tryz.prog 106 #[.agg #[.int .i64 g,.int .i64 k,.int .u64 o,.int .u64 a,.slice sa sn sc]] w fun e w'=>e=.returned (.int .i64 (chk g k o a ls))∧Below w.heap.size w w':=by
 obtain ⟨R,hR⟩:∃ R,R=chk g k o a ls:=⟨_,rfl⟩
 rw [← hR]
 obtain ⟨W1,hW1⟩:∃ W1,W1=w.alloc (.cells #[.int .i64 g,.int .i64 k,.int .u64 o,.int .u64 a,.slice sa sn sc] 43):=⟨_,rfl⟩
 have hb1:Below w.heap.size w W1:=by rw [hW1];exact below_new w _
 have hs1:=hr.bel hb1
 have he1:EvB W1 w.heap.size g k o a sa sn sc:=by rw [hW1];exact EvB.new
 have HL:Hid (ls.length=sn):=hr.len
 have HB:Hid _:=hide hb1
 have HS:Hid _:=hide hs1
 have HE:Hid _:=hide he1
 have HW:Hid _:=hide hW1
 clear hb1 hs1 he1 hr hW1
 by_cases hk:1≤k∧k≤22
 ·have k1:decide (k < 1)=false:=by simp;omega
  have k2:decide (22 < k)=false:=by simp;omega
  by_cases hg:g < 0∨65536≤g
  ·have HN:Hid (R=61):=hide (by rw [hR];unfold chk;rw [if_pos hk,if_pos hg])
   clear hR hk
   rcases hg with hg|hg
   ·go_enter Tryz.func106,Tryz.ntmps106
    go_wp2
    go_ret
    exact ⟨by rw [HN.out];rfl,by rw [← HW.out];exact HB.out⟩
   ·have g1:decide (g < 0)=false:=by simp;omega
    go_enter Tryz.func106,Tryz.ntmps106
    go_wp2
    go_ret
    exact ⟨by rw [HN.out];rfl,by rw [← HW.out];exact HB.out⟩
  ·have g1:decide (g < 0)=false:=by simp;omega
   have g2:decide (65536≤g)=false:=by simp;omega
   have hF:=chk_flags (o:=o) (a:=a) (ls:=ls) hk hg
   rw [← hR] at hF
   have HA:Hid _:=hide (rargs_any k (w.alloc (.cells #[.int .i64 g,.int .i64 k,.int .u64 o,.int .u64 a,.slice sa sn sc] 43)) hk)
   have HSp:Hid _:=hide (rspans_any k W1)
   have HOv:Hid _:=hide (rover_any g k o a sa sn sc W1 ho ha)
   have p0:=HE.out.c0
   have p1:=HE.out.c1
   have p2:=HE.out.c2
   have p3:=HE.out.c3
   have p4:=HE.out.c4
   have hfit:argB k.toNat a=(decide (rlo (ksort k.toNat)≤a) && decide (a≤rhi (ksort k.toNat))):=by unfold argB lo hi;rw [Bool.eq_iff_iff];simp
   rw [hfit] at hF
   generalize rlo (ksort k.toNat)=l at HA hF
   generalize rhi (ksort k.toNat)=m at HA hF
   clear hR hk hg hfit ho ha
   obtain ⟨d1,e1⟩:∃ d,decide (l≤a)=d:=⟨_,rfl⟩
   obtain ⟨d2,e2⟩:∃ d,decide (a≤m)=d:=⟨_,rfl⟩
   obtain ⟨z,ez⟩:∃ z,(o != 0)=z:=⟨_,rfl⟩
   rw [e1,e2,ez] at hF
   rcases classes k with ⟨e7,e8,es⟩|⟨e7,e8,es⟩|⟨e7,e8,es⟩|⟨e7,e8,es⟩
   ·rw [e7,e8,es] at hF
    rw [es] at HSp
    have HF:Hid _:=hide hF
    clear hF
    cases z
    ·cases d1
     ·go_enter Tryz.func106,Tryz.ntmps106
      go_wp2_with fail
      refine HA.out.mono ?_
      rintro e w' ⟨rfl,hw⟩
      rw [← HW.out] at hw
      subst hw
      go_wp2_with fail
      refine HSp.out.mono ?_
      rintro e w' ⟨rfl,rfl⟩
      go_wp2
      go_ret
      exact ⟨by rw [HF.out];rfl,HB.out⟩
     ·cases d2
      ·go_enter Tryz.func106,Tryz.ntmps106
       go_wp2_with fail
       refine HA.out.mono ?_
       rintro e w' ⟨rfl,hw⟩
       rw [← HW.out] at hw
       subst hw
       go_wp2_with fail
       refine HSp.out.mono ?_
       rintro e w' ⟨rfl,rfl⟩
       go_wp2
       go_ret
       exact ⟨by rw [HF.out];rfl,HB.out⟩
      ·go_enter Tryz.func106,Tryz.ntmps106
       go_wp2_with fail
       refine HA.out.mono ?_
       rintro e w' ⟨rfl,hw⟩
       rw [← HW.out] at hw
       subst hw
       go_wp2_with fail
       refine HSp.out.mono ?_
       rintro e w' ⟨rfl,rfl⟩
       by_cases h16:sn≤16
       ·have h16I:(sn:Int)≤16:=by omega
        have HX:Hid _:=hide (stkB_all HL.out h16)
        clear p0 p1 p2 p3
        go_wp2
        go_loopw [6] (fun i wr=>∃ j:Nat,j≤sn∧i=.int .i64 j∧wr=w'∧((ls.take j).all fun s=>decide (s.size≤65536))=true) (fun i _=>sn - (intOf i).toNat)
        case atStart=>exact ⟨0,Nat.zero_le _,rfl,rfl,by simp⟩
        case round =>
         obtain ⟨j,hj,rfl,rfl,hall⟩:=hrel
         have HAll:Hid _:=hide hall
         clear hall
         by_cases hlt:j < sn
         ·obtain ⟨b1,o1,rfl,hc1⟩:=HS.out.at hlt
          have hjI:(j:Int) < sn:=by omega
          have HT':Hid _:=hide (@all_take_succ ls (fun s=>decide (s.size≤65536)) j (by rw [HL.out];exact hlt) HAll.out)
          have HF':Hid _:=hide (@all_false ls (fun s=>decide (s.size≤65536)) j (by rw [HL.out];exact hlt))
          generalize ls.getD j ByteArray.empty=x at hc1 HT' HF'
          by_cases hx:x.size≤65536
          ·have hxI:(x.size:Int)≤65536:=by omega
           have HN:Hid _:=hide (HT'.out (decide_eq_true hx))
           clear hx
           go_wp2
           exact ⟨⟨j+1,by omega,by go_num,by trivial,HN.out⟩,by simp [intOf];omega⟩
          ·have hxI:(65536:Int) < (x.size:Int):=by omega
           have HN:Hid (R=64):=hide (by rw [HF.out,HX.out,HF'.out (decide_eq_false hx)];rfl)
           clear hx
           go_wp2
           go_ret
           exact ⟨by rw [HN.out];rfl,HB.out⟩
         ·have HN:Hid (R=0):=hide (by
           have h0:=HAll.out
           rw [List.take_of_length_le (by rw [HL.out];omega)] at h0
           rw [HF.out,HX.out,h0];rfl)
          go_wp2
          go_ret
          exact ⟨by rw [HN.out];rfl,HB.out⟩
       ·have h16I:(16:Int) < sn:=by omega
        have HN:Hid (R=64):=hide (by rw [HF.out,stkB_deep HL.out (by omega)];rfl)
        go_wp2
        go_ret
        exact ⟨by rw [HN.out];rfl,HB.out⟩
    ·cases d1
     ·go_enter Tryz.func106,Tryz.ntmps106
      go_wp2_with fail
      refine HA.out.mono ?_
      rintro e w' ⟨rfl,hw⟩
      rw [← HW.out] at hw
      subst hw
      go_wp2
      go_ret
      exact ⟨by rw [HF.out];rfl,HB.out⟩
     ·cases d2
      ·go_enter Tryz.func106,Tryz.ntmps106
       go_wp2_with fail
       refine HA.out.mono ?_
       rintro e w' ⟨rfl,hw⟩
       rw [← HW.out] at hw
       subst hw
       go_wp2
       go_ret
       exact ⟨by rw [HF.out];rfl,HB.out⟩
      ·go_enter Tryz.func106,Tryz.ntmps106
       go_wp2_with fail
       refine HA.out.mono ?_
       rintro e w' ⟨rfl,hw⟩
       rw [← HW.out] at hw
       subst hw
       go_wp2
       go_ret
       exact ⟨by rw [HF.out];rfl,HB.out⟩
   ·rw [e7,e8,es] at hF
    rw [es] at HSp
    have HF:Hid _:=hide hF
    clear hF
    cases z
    ·cases d1
     ·go_enter Tryz.func106,Tryz.ntmps106
      go_wp2_with fail
      refine HA.out.mono ?_
      rintro e w' ⟨rfl,hw⟩
      rw [← HW.out] at hw
      subst hw
      go_wp2_with fail
      refine HSp.out.mono ?_
      rintro e w' ⟨rfl,rfl⟩
      go_wp2
      go_ret
      exact ⟨by rw [HF.out];rfl,HB.out⟩
     ·cases d2
      ·go_enter Tryz.func106,Tryz.ntmps106
       go_wp2_with fail
       refine HA.out.mono ?_
       rintro e w' ⟨rfl,hw⟩
       rw [← HW.out] at hw
       subst hw
       go_wp2_with fail
       refine HSp.out.mono ?_
       rintro e w' ⟨rfl,rfl⟩
       go_wp2
       go_ret
       exact ⟨by rw [HF.out];rfl,HB.out⟩
      ·go_enter Tryz.func106,Tryz.ntmps106
       go_wp2_with fail
       refine HA.out.mono ?_
       rintro e w' ⟨rfl,hw⟩
       rw [← HW.out] at hw
       subst hw
       go_wp2_with fail
       refine HSp.out.mono ?_
       rintro e w' ⟨rfl,rfl⟩
       by_cases h16:sn≤16
       ·have h16I:(sn:Int)≤16:=by omega
        have HX:Hid _:=hide (stkB_all HL.out h16)
        clear p0 p1 p2 p3
        go_wp2
        go_loopw [6] (fun i wr=>∃ j:Nat,j≤sn∧i=.int .i64 j∧wr=w'∧((ls.take j).all fun s=>decide (s.size≤65536))=true) (fun i _=>sn - (intOf i).toNat)
        case atStart=>exact ⟨0,Nat.zero_le _,rfl,rfl,by simp⟩
        case round =>
         obtain ⟨j,hj,rfl,rfl,hall⟩:=hrel
         have HAll:Hid _:=hide hall
         clear hall
         by_cases hlt:j < sn
         ·obtain ⟨b1,o1,rfl,hc1⟩:=HS.out.at hlt
          have hjI:(j:Int) < sn:=by omega
          have HT':Hid _:=hide (@all_take_succ ls (fun s=>decide (s.size≤65536)) j (by rw [HL.out];exact hlt) HAll.out)
          have HF':Hid _:=hide (@all_false ls (fun s=>decide (s.size≤65536)) j (by rw [HL.out];exact hlt))
          generalize ls.getD j ByteArray.empty=x at hc1 HT' HF'
          by_cases hx:x.size≤65536
          ·have hxI:(x.size:Int)≤65536:=by omega
           have HN:Hid _:=hide (HT'.out (decide_eq_true hx))
           clear hx
           go_wp2
           exact ⟨⟨j+1,by omega,by go_num,by trivial,HN.out⟩,by simp [intOf];omega⟩
          ·have hxI:(65536:Int) < (x.size:Int):=by omega
           have HN:Hid (R=64):=hide (by rw [HF.out,HX.out,HF'.out (decide_eq_false hx)];rfl)
           clear hx
           go_wp2
           go_ret
           exact ⟨by rw [HN.out];rfl,HB.out⟩
         ·have HN:Hid (R=0):=hide (by
           have h0:=HAll.out
           rw [List.take_of_length_le (by rw [HL.out];omega)] at h0
           rw [HF.out,HX.out,h0];rfl)
          go_wp2
          go_ret
          exact ⟨by rw [HN.out];rfl,HB.out⟩
       ·have h16I:(16:Int) < sn:=by omega
        have HN:Hid (R=64):=hide (by rw [HF.out,stkB_deep HL.out (by omega)];rfl)
        go_wp2
        go_ret
        exact ⟨by rw [HN.out];rfl,HB.out⟩
    ·cases d1
     ·go_enter Tryz.func106,Tryz.ntmps106
      go_wp2_with fail
      refine HA.out.mono ?_
      rintro e w' ⟨rfl,hw⟩
      rw [← HW.out] at hw
      subst hw
      go_wp2
      go_ret
      exact ⟨by rw [HF.out];rfl,HB.out⟩
     ·cases d2
      ·go_enter Tryz.func106,Tryz.ntmps106
       go_wp2_with fail
       refine HA.out.mono ?_
       rintro e w' ⟨rfl,hw⟩
       rw [← HW.out] at hw
       subst hw
       go_wp2
       go_ret
       exact ⟨by rw [HF.out];rfl,HB.out⟩
      ·go_enter Tryz.func106,Tryz.ntmps106
       go_wp2_with fail
       refine HA.out.mono ?_
       rintro e w' ⟨rfl,hw⟩
       rw [← HW.out] at hw
       subst hw
       go_wp2
       go_ret
       exact ⟨by rw [HF.out];rfl,HB.out⟩
   ·rw [e7,e8,es] at hF
    rw [es] at HSp
    have HF:Hid _:=hide hF
    clear hF
    cases z <;> (
     cases d1
     ·go_enter Tryz.func106,Tryz.ntmps106
      go_wp2_with fail
      refine HA.out.mono ?_
      rintro e w' ⟨rfl,hw⟩
      rw [← HW.out] at hw
      subst hw
      go_wp2_with fail
      refine HSp.out.mono ?_
      rintro e w' ⟨rfl,rfl⟩
      go_wp2
      go_ret
      exact ⟨by rw [HF.out];rfl,HB.out⟩
     ·cases d2
      ·go_enter Tryz.func106,Tryz.ntmps106
       go_wp2_with fail
       refine HA.out.mono ?_
       rintro e w' ⟨rfl,hw⟩
       rw [← HW.out] at hw
       subst hw
       go_wp2_with fail
       refine HSp.out.mono ?_
       rintro e w' ⟨rfl,rfl⟩
       go_wp2
       go_ret
       exact ⟨by rw [HF.out];rfl,HB.out⟩
      ·go_enter Tryz.func106,Tryz.ntmps106
       go_wp2_with fail
       refine HA.out.mono ?_
       rintro e w' ⟨rfl,hw⟩
       rw [← HW.out] at hw
       subst hw
       go_wp2_with fail
       refine HSp.out.mono ?_
       rintro e w' ⟨rfl,rfl⟩
       by_cases h16:sn≤16
       ·have h16I:(sn:Int)≤16:=by omega
        have HX:Hid _:=hide (stkB_all HL.out h16)
        clear p0 p1 p2 p3
        go_wp2
        go_loopw [6] (fun i wr=>∃ j:Nat,j≤sn∧i=.int .i64 j∧wr=w'∧((ls.take j).all fun s=>decide (s.size≤65536))=true) (fun i _=>sn - (intOf i).toNat)
        case atStart=>exact ⟨0,Nat.zero_le _,rfl,rfl,by simp⟩
        case round =>
         obtain ⟨j,hj,rfl,rfl,hall⟩:=hrel
         have HAll:Hid _:=hide hall
         clear hall
         by_cases hlt:j < sn
         ·obtain ⟨b1,o1,rfl,hc1⟩:=HS.out.at hlt
          have hjI:(j:Int) < sn:=by omega
          have HT':Hid _:=hide (@all_take_succ ls (fun s=>decide (s.size≤65536)) j (by rw [HL.out];exact hlt) HAll.out)
          have HF':Hid _:=hide (@all_false ls (fun s=>decide (s.size≤65536)) j (by rw [HL.out];exact hlt))
          generalize ls.getD j ByteArray.empty=x at hc1 HT' HF'
          by_cases hx:x.size≤65536
          ·have hxI:(x.size:Int)≤65536:=by omega
           have HN:Hid _:=hide (HT'.out (decide_eq_true hx))
           clear hx
           go_wp2
           exact ⟨⟨j+1,by omega,by go_num,by trivial,HN.out⟩,by simp [intOf];omega⟩
          ·have hxI:(65536:Int) < (x.size:Int):=by omega
           have HN:Hid (R=64):=hide (by rw [HF.out,HX.out,HF'.out (decide_eq_false hx)];rfl)
           clear hx
           go_wp2
           go_ret
           exact ⟨by rw [HN.out];rfl,HB.out⟩
         ·have HN:Hid (R=0):=hide (by
           have h0:=HAll.out
           rw [List.take_of_length_le (by rw [HL.out];omega)] at h0
           rw [HF.out,HX.out,h0];rfl)
          go_wp2
          go_ret
          exact ⟨by rw [HN.out];rfl,HB.out⟩
       ·have h16I:(16:Int) < sn:=by omega
        have HN:Hid (R=64):=hide (by rw [HF.out,stkB_deep HL.out (by omega)];rfl)
        go_wp2
        go_ret
        exact ⟨by rw [HN.out];rfl,HB.out⟩)
   ·rw [e7,e8,es] at hF
    rw [es] at HSp
    have HF:Hid _:=hide hF
    clear hF
    cases z <;> (
     cases d1
     ·go_enter Tryz.func106,Tryz.ntmps106
      go_wp2_with fail
      refine HA.out.mono ?_
      rintro e w' ⟨rfl,hw⟩
      rw [← HW.out] at hw
      subst hw
      go_wp2_with fail
      refine HSp.out.mono ?_
      rintro e w' ⟨rfl,rfl⟩
      go_wp2
      go_ret
      exact ⟨by rw [HF.out];rfl,HB.out⟩
     ·cases d2
      ·go_enter Tryz.func106,Tryz.ntmps106
       go_wp2_with fail
       refine HA.out.mono ?_
       rintro e w' ⟨rfl,hw⟩
       rw [← HW.out] at hw
       subst hw
       go_wp2_with fail
       refine HSp.out.mono ?_
       rintro e w' ⟨rfl,rfl⟩
       go_wp2
       go_ret
       exact ⟨by rw [HF.out];rfl,HB.out⟩
      ·go_enter Tryz.func106,Tryz.ntmps106
       go_wp2_with fail
       refine HA.out.mono ?_
       rintro e w' ⟨rfl,hw⟩
       rw [← HW.out] at hw
       subst hw
       go_wp2_with fail
       refine HSp.out.mono ?_
       rintro e w' ⟨rfl,rfl⟩
       go_wp2_with fail
       refine HOv.out.mono ?_
       rintro e w2 ⟨rfl,hb2⟩
       have HB2:Hid _:=hide (HB.out.trans (hb2.mono HB.out.size))
       have HS2:Hid _:=hide (HS.out.bel hb2)
       have HE2:Hid _:=hide (HE.out.below hb2)
       clear p0 p1 p2 p3 p4
       have p0:=HE2.out.c0
       have p1:=HE2.out.c1
       have p2:=HE2.out.c2
       have p3:=HE2.out.c3
       have p4:=HE2.out.c4
       clear hb2
       cases hov:overB o a
       ·rw [hov] at HF
        by_cases h16:sn≤16
        ·have h16I:(sn:Int)≤16:=by omega
         have HX:Hid _:=hide (stkB_all HL.out h16)
         clear p0 p1 p2 p3
         go_wp2
         go_loopw [6] (fun i wr=>∃ j:Nat,j≤sn∧i=.int .i64 j∧wr=w2∧((ls.take j).all fun s=>decide (s.size≤65536))=true) (fun i _=>sn - (intOf i).toNat)
         case atStart=>exact ⟨0,Nat.zero_le _,rfl,rfl,by simp⟩
         case round =>
          obtain ⟨j,hj,rfl,rfl,hall⟩:=hrel
          have HAll:Hid _:=hide hall
          clear hall
          by_cases hlt:j < sn
          ·obtain ⟨b1,o1,rfl,hc1⟩:=HS2.out.at hlt
           have hjI:(j:Int) < sn:=by omega
           have HT':Hid _:=hide (@all_take_succ ls (fun s=>decide (s.size≤65536)) j (by rw [HL.out];exact hlt) HAll.out)
           have HF':Hid _:=hide (@all_false ls (fun s=>decide (s.size≤65536)) j (by rw [HL.out];exact hlt))
           generalize ls.getD j ByteArray.empty=x at hc1 HT' HF'
           by_cases hx:x.size≤65536
           ·have hxI:(x.size:Int)≤65536:=by omega
            have HN:Hid _:=hide (HT'.out (decide_eq_true hx))
            clear hx
            go_wp2
            exact ⟨⟨j+1,by omega,by go_num,by trivial,HN.out⟩,by simp [intOf];omega⟩
           ·have hxI:(65536:Int) < (x.size:Int):=by omega
            have HN:Hid (R=64):=hide (by rw [HF.out,HX.out,HF'.out (decide_eq_false hx)];rfl)
            clear hx
            go_wp2
            go_ret
            exact ⟨by rw [HN.out];rfl,HB2.out⟩
          ·have HN:Hid (R=0):=hide (by
            have h0:=HAll.out
            rw [List.take_of_length_le (by rw [HL.out];omega)] at h0
            rw [HF.out,HX.out,h0];rfl)
           go_wp2
           go_ret
           exact ⟨by rw [HN.out];rfl,HB2.out⟩
        ·have h16I:(16:Int) < sn:=by omega
         have HN:Hid (R=64):=hide (by rw [HF.out,stkB_deep HL.out (by omega)];rfl)
         go_wp2
         go_ret
         exact ⟨by rw [HN.out];rfl,HB2.out⟩
       ·rw [hov] at HF
        go_wp2
        go_ret
        exact ⟨by rw [HF.out];rfl,HB2.out⟩)
 ·have HN:Hid (R=60):=hide (by rw [hR];unfold chk;rw [if_neg hk])
  clear hR
  by_cases k1:k < 1
  ·clear hk
   go_enter Tryz.func106,Tryz.ntmps106
   go_wp2
   go_ret
   exact ⟨by rw [HN.out];rfl,by rw [← HW.out];exact HB.out⟩
  ·have k1':decide (k < 1)=false:=by simp;omega
   have k2:decide (22 < k)=true:=by simp;omega
   clear hk
   go_enter Tryz.func106,Tryz.ntmps106
   go_wp2
   go_ret
   exact ⟨by rw [HN.out];rfl,by rw [← HW.out];exact HB.out⟩
end Go.Proofs.YtaeehnaicnckgaaGreatDoor.E6
namespace Go.Proofs.YtaeehnaicnckgaaGreatDoor.E6
open Go.RowKit Go.Maps Go.Shelf
structure BRt (w0 wr:World) (tb fb:Nat) (L:List ByteArray) (N:List Nd):Prop where
 st:∃ T S,RSt wr T S tb fb L N∧∀ k,T k∨S k→w0.heap.size≤k
 fit:∃ P,Fit L N P
 bel:Below w0.heap.size w0 wr
theorem BRt.below {w0 wr w':World} {tb fb:Nat} {L:List ByteArray} {N:List Nd} (h:BRt w0 wr tb fb L N) (hb:Below wr.heap.size wr w'):BRt w0 w' tb fb L N:=by
 obtain ⟨T,S,h1,h2⟩:=h.st
 exact ⟨⟨T,S,h1.below hb,h2⟩,h.fit,h.bel.trans (hb.mono h.bel.size)⟩
theorem brt_intern {w0 wr:World} {tb fb:Nat} {L:List ByteArray} {N:List Nd} (h:BRt w0 wr tb fb L N) (e:Ev) (hok:e.ok) (hs0:e.at w0) (h0:e.chk=0) :
  Calls Tryz.prog 107 #[.pointer (some ⟨fb,0,none⟩),.slice e.sa e.ls.length e.sc] wr fun r w'=>∃ id:Nat,
   (Roomy L N.length (left L N e.ls).2.reverse→r=.returned (.tuple #[.int .i64 (id:Int),.int .i64 0])∧BRt w0 w' tb fb (after L N e.ls).L (after L N e.ls).N) ∧
   (¬ Roomy L N.length (left L N e.ls).2.reverse→r=.returned (.tuple #[.int .i64 (id:Int),.int .i64 3])∧Below w0.heap.size w0 w'):=by
 obtain ⟨T,S,hst,hold⟩:=h.st
 obtain ⟨P,hfit⟩:=h.fit
 have hs:SRow wr e.sa e.ls.length e.ls:=SRow.bel hs0 h.bel
 have h16:=chk_zero h0
 refine (rintern_u P hst hfit.good hfit.nodup e.sa e.ls.length e.sc e.ls hs (by omega) hok.sz (fun b off ea hn=>?_)).mono ?_
 ·have hb:=SRow.old hs0 ea hn
  constructor
  ·intro hT;have:=hold b (.inl hT);omega
  ·intro hS;have:=hold b (.inr hS);omega
 ·rintro r w' ⟨id,er,L',N',P',rfl,hres,⟨T',S',hst',m1,m2⟩,hb⟩
  have hbel:Below w0.heap.size w0 w':=h.bel.trans (hb.below h.bel.size hold)
  refine ⟨id,fun hR=>?_,fun hR=>?_⟩
  ·have hf:=(hres.fit hfit).1
   cases hres with
   | deep hd=>omega
   | full _ hn=>exact absurd hR hn
   | ok _ _ =>
    refine ⟨rfl,⟨T',S',hst',fun k hk=>?_⟩,⟨_,hf⟩,hbel⟩
    have hsz:=h.bel.size
    rcases hk with hk|hk
    ·rcases m1 k hk with e1|e1
     ·exact hold k (.inl e1)
     ·omega
    ·rcases m2 k hk with e1|e1
     ·exact hold k (.inr e1)
     ·omega
  ·cases hres with
   | deep hd=>omega
   | full _ _=>exact ⟨rfl,hbel⟩
   | ok _ hr=>exact absurd hr hR
theorem rtab_new (w:World):RTab (w.alloc (.cells #[.slice none 0 0,.int .i64 0] 169)) w.heap.size (fun k=>k=w.heap.size) [] (.slice none 0 0) :=
 ⟨heap_alloc_new w _,World.ownsRow_nil _ _ _ _,rfl,by simp [Value.ownBlock],by simp,by simp,by simp,by simp [total]⟩
theorem brt_new {w w1 w2:World} (hw1:w1=w.alloc (.cells #[.slice none 0 0,.int .i64 0] 169)) (hF:RFr w2 w1.heap.size w.heap.size (fun k=>k=w1.heap.size) [] (.slice none 0 0)) (hw2:w2=w1.alloc (.cells #[.pointer (some ⟨w.heap.size,0,none⟩),.slice none 0 0] 167)):BRt w w2 w.heap.size w1.heap.size [] []:=by
 have hb1:Below w.heap.size w w1:=by rw [hw1];exact below_new w _
 have hb2:Below w1.heap.size w1 w2:=by rw [hw2];exact below_new w1 _
 have hz1:w1.heap.size=w.heap.size+1:=by rw [hw1];simp
 have hz2:w2.heap.size=w1.heap.size+1:=by rw [hw2];simp
 have ht:RTab w2 w.heap.size (fun k=>k=w.heap.size) [] (.slice none 0 0):=by
  have h0:=rtab_new w
  rw [← hw1] at h0
  exact h0.kept (T:=fun _=>False) (But.of_below hb2) (fun _ _ e=>e)
 exact ⟨⟨_,_,⟨⟨_,_,ht,hF⟩,fun k h1 h2=>by omega,fun k h1=>by omega,fun k h1=>by omega⟩,fun k hk=>by rcases hk with e|e <;> omega⟩,⟨[],Fit.nil⟩,hb1.trans (hb2.mono hb1.size)⟩
theorem rbounds_any (a:Option Addr) (n c:Nat) (es:List Ev) (w:World) (hr:ERow w a n es) (hok:∀ e ∈ es,e.ok) (hn:(n:Int)≤9223372036854775806) :
  Calls Tryz.prog 50 #[.slice a n c] w fun r w'=>r=.returned (.tuple #[.int .i64 (bounds es).1,.int .i64 (bounds es).2])∧Below w.heap.size w w':=by
 obtain ⟨R,hR⟩:∃ R,R=bounds es:=⟨_,rfl⟩
 rw [← hR]
 unfold bounds at hR
 rw [hr.len] at hR
 by_cases hlarge:n≤1048576
 ·rw [if_pos hlarge] at hR
  have hl:(n:Int)≤1048576:=by omega
  have HR:Hid _:=hide hR
  have HE:Hid _:=hide hr
  have HO:Hid _:=hide hok
  have HN:Hid _:=hide (rnew_any w)
  clear hR hlarge hr hok hn
  go_enter Tryz.func50,Tryz.ntmps50
  go_wp2_with fail
  refine HN.out.mono ?_
  rintro e w1 ⟨rfl,hw1⟩
  have HF:Hid _:=hide (rnew_f w.heap.size w1)
  have HW1:Hid _:=hide hw1
  clear hw1
  go_wp2_with fail
  refine HF.out.mono ?_
  rintro e w2 ⟨rfl,hF,hw2⟩
  have HB:Hid (BRt w w2 w.heap.size w1.heap.size [] []):=hide (brt_new HW1.out hF hw2)
  generalize w1.heap.size=fb at HB ⊢
  clear hF hw2 HF HN HW1
  go_wp2
  go_loopw [5] (fun i wr=>∃ (j:Nat) (L:List ByteArray) (N:List Nd),j≤n∧i=.int .i64 j∧BRt w wr w.heap.size fb L N∧R=bnd (es.drop j) j L N) (fun i _=>n - (intOf i).toNat)
  case atStart=>exact ⟨0,[],[],Nat.zero_le _,rfl,HB.out,HR.out⟩
  case round =>
   obtain ⟨j,L,N,hj,rfl,hbst,hRj⟩:=hrel
   have HB':Hid _:=hide hbst
   clear hbst HB
   by_cases hlt:j < n
   ·have hjI:(j:Int) < n:=by omega
    have hrr:=HE.out.bel HB'.out.bel
    obtain ⟨b,off,e,rfl,hej,c0,c1,c2,c3,c4,hs⟩:=hrr.at hlt
    obtain ⟨b',off',e',hba',hej',q0,q1,q2,q3,q4,hs0⟩:=HE.out.at hlt
    rw [hej] at hej'
    cases hej'
    cases hba'
    have hme:=HO.out e (List.mem_of_getElem? hej)
    have hdrop:es.drop j=e :: es.drop (j+1):=by
     obtain ⟨hl',he'⟩:=List.getElem?_eq_some_iff.1 hej
     rw [List.drop_eq_getElem_cons hl',he']
    rw [hdrop,bnd] at hRj
    have HRj:Hid _:=hide hRj
    have HM:Hid _:=hide hme
    have HS0:Hid _:=hide hs0
    have HQ4:Hid _:=hide q4
    have hlen:(e.ls.length:Int)≤9223372036854775806:=by have:=hme.len;omega
    have HC:Hid _:=hide (rcheck_any e.g e.k e.o e.a e.sa e.ls.length e.sc e.ls wr (SRow.bel hs0 HB'.out.bel) hlen hme.ho hme.ha)
    clear hrr hej hs hs0 hme hdrop hRj hlen q0 q1 q2 q3 q4
    go_wp2_with fail
    refine HC.out.mono ?_
    rintro r w3 ⟨rfl,hb3⟩
    have HB3:Hid _:=hide (HB'.out.below hb3)
    have p4:=cell_bel HQ4.out HB3.out.bel
    clear hb3 HC c0 c1 c2 c3 c4
    obtain ⟨ck,hck⟩:∃ ck,ck=chk e.g e.k e.o e.a e.ls:=⟨_,rfl⟩
    rw [← hck]
    by_cases h0:ck=0
    ·have hne:(ck != 0)=false:=by simp [h0]
     have HI:Hid _:=hide (brt_intern HB3.out e HM.out HS0.out (hck.symm.trans h0))
     have HC0:Hid (e.chk=0):=hide (hck.symm.trans h0)
     clear h0 hck
     go_wp2_with fail
     refine HI.out.mono ?_
     rintro r w4 ⟨id,hyes,hno⟩
     by_cases hR:Roomy L N.length (left L N e.ls).2.reverse
     ·obtain ⟨rfl,hB4⟩:=hyes hR
      have HN:Hid (R=bnd (es.drop (j+1)) (j+1) (after L N e.ls).L (after L N e.ls).N):=hide (by rw [HRj.out,if_pos HC0.out,if_pos hR])
      have HB4:Hid _:=hide hB4
      clear hyes hno hR hB4
      go_wp2
      exact ⟨⟨j+1,_,_,by omega,by go_num,HB4.out,HN.out⟩,by simp [intOf];omega⟩
     ·obtain ⟨rfl,hb4⟩:=hno hR
      have HN:Hid (R=((j:Int),3)):=hide (by rw [HRj.out,if_pos HC0.out,if_neg hR])
      have HB4:Hid _:=hide hb4
      clear hyes hno hR hb4
      go_wp2
      go_ret2
      exact ⟨by rw [HN.out];rfl,HB4.out⟩
    ·have hne:(ck != 0)=true:=by simp [h0]
     have HN:Hid (R=((j:Int),ck)):=hide (by rw [HRj.out,if_neg (by show ¬ chk e.g e.k e.o e.a e.ls=0;rw [← hck];exact h0)];show ((j:Int),chk e.g e.k e.o e.a e.ls)=_;rw [← hck])
     clear h0 hck
     go_wp2
     go_ret2
     exact ⟨by rw [HN.out];rfl,HB3.out.bel⟩
   ·have HN:Hid (R=(-1,0)):=hide (by rw [hRj,List.drop_eq_nil_of_le (by rw [HE.out.len];omega)];rfl)
    clear hRj
    go_wp2
    go_ret2
    exact ⟨by rw [HN.out];rfl,HB'.out.bel⟩
 ·rw [if_neg hlarge] at hR
  have hl:(1048576:Int) < n:=by omega
  have HN:Hid _:=hide hR
  clear hR hlarge hr hok
  go_enter Tryz.func50,Tryz.ntmps50
  go_wp2
  go_ret2
  exact ⟨by rw [HN.out];rfl,Below.refl _ _⟩
end Go.Proofs.YtaeehnaicnckgaaGreatDoor.E6
