import Derived.Test.YtaeehnaicnckgaaGreatDoorZo29
import Derived.Test.YtaeehnaicnckgaaGreatDoorZo19
import Derived.Deep.RegionHeld3
set_option maxRecDepth 8000
set_option maxHeartbeats 8000000
set_option linter.unusedVariables false
namespace Go.Proofs.YtaeehnaicnckgaaGreatDoor
open Go.RowKit Go.Maps
theorem beq_t {a b:Int} (h:a=b):(a == b)=true:=by simp [h]
theorem beq_f {a b:Int} (h:¬ a=b):(a == b)=false:=by simp [h]
theorem bne_t {a b:Int} (h:¬ a=b):(a != b)=true:=by simp [h]
theorem bne_f {a b:Int} (h:a=b):(a != b)=false:=by simp [h]
theorem rcount_any (ad:Option Addr) (n c:Nat) (es:List E6.Ev) (w:World) (hr:E6.ERow w ad n es) (hn:(n:Int)≤1048576) (g kd ob:Int) :
  Calls Tryz.prog 152 #[.slice ad n c,.int .i64 g,.int .i64 kd,.int .u64 ob] w fun e w'=>e=.returned (.int .i64 (cnX (es.map me) g kd ob:Int))∧w'=w:=by
 have HE:=hide hr
 clear hr
 go_enter Tryz.func152,Tryz.ntmps152
 go_wp2
 go_loopw [9,10] (fun m i wr=>∃ (j:Nat),j≤n∧i=.int .i64 j∧m=.int .i64 (cnX (Tj es j) g kd ob:Int)∧wr=w) (fun _ i _=>n - (intOf i).toNat)
 case atStart=>exact ⟨0,Nat.zero_le _,rfl,by rw [Tj_zero];rw [cnX_nil];rfl,rfl⟩
 case round =>
  obtain ⟨j,hj,rfl,rfl,rfl⟩:=hrel
  have hNl:cnX (Tj es j) g kd ob≤j:=by
   have h1:=cnX_le (Tj es j) g kd ob
   rw [Tj_len HE.out.len hj] at h1
   exact h1
  by_cases hlt:j < n
  ·have hjI:(j:Int) < n:=by omega
   obtain ⟨b,off,e,rfl,hej,c0,c1,c2,c3,c4,hs⟩:=HE.out.at hlt
   have HS:Hid (cnX (Tj es (j+1)) g kd ob=cnX (Tj es j) g kd ob+(if (g < 0∨e.g=g)∧e.k=kd∧e.o=ob then 1 else 0)):=hide (by have h1:=cnX_snoc (T:=Tj es j) (e:=me e) (g:=g) (k:=kd) (o:=ob);rw [← Tj_succ hej] at h1;exact h1)
   clear hs hej
   generalize cnX (Tj es j) g kd ob=N at HS hNl ⊢
   have hNI:(N:Int)≤1048576:=by omega
   by_cases hg:g < 0
   ·have hgb:decide (g < 0)=true:=decide_eq_true hg
    by_cases hk:e.k=kd
    ·have hkb:=beq_t hk
     by_cases ho:e.o=ob
     ·have hob:=beq_t ho
      have h8:(g < 0∨e.g=g)∧e.k=kd∧e.o=ob:=⟨.inl hg,hk,ho⟩
      have h9:(cnX (Tj es (j+1)) g kd ob:Int)=N+1:=by have:=HS.out;rw [if_pos h8] at this;omega
      clear HS h8
      go_wp2
      exact ⟨⟨j+1,by omega,by go_num,by first|rw [h9]|simp only [h9],by first|trivial|rfl⟩,by simp [intOf];omega⟩
     ·have hob:=beq_f ho
      have h8:¬ ((g < 0∨e.g=g)∧e.k=kd∧e.o=ob):=fun q=>ho q.2.2
      have h9:(cnX (Tj es (j+1)) g kd ob:Int)=N:=by have:=HS.out;rw [if_neg h8] at this;omega
      clear HS h8
      go_wp2
      exact ⟨⟨j+1,by omega,by go_num,by first|rw [h9]|simp only [h9],by first|trivial|rfl⟩,by simp [intOf];omega⟩
    ·have hkb:=beq_f hk
     have h8:¬ ((g < 0∨e.g=g)∧e.k=kd∧e.o=ob):=fun q=>hk q.2.1
     have h9:(cnX (Tj es (j+1)) g kd ob:Int)=N:=by have:=HS.out;rw [if_neg h8] at this;omega
     clear HS h8
     go_wp2
     exact ⟨⟨j+1,by omega,by go_num,by first|rw [h9]|simp only [h9],by first|trivial|rfl⟩,by simp [intOf];omega⟩
   ·have hgb:decide (g < 0)=false:=decide_eq_false hg
    by_cases hgg:e.g=g
    ·have hge:=beq_t hgg
     by_cases hk:e.k=kd
     ·have hkb:=beq_t hk
      by_cases ho:e.o=ob
      ·have hob:=beq_t ho
       have h8:(g < 0∨e.g=g)∧e.k=kd∧e.o=ob:=⟨.inr hgg,hk,ho⟩
       have h9:(cnX (Tj es (j+1)) g kd ob:Int)=N+1:=by have:=HS.out;rw [if_pos h8] at this;omega
       clear HS h8
       go_wp2
       exact ⟨⟨j+1,by omega,by go_num,by first|rw [h9]|simp only [h9],by first|trivial|rfl⟩,by simp [intOf];omega⟩
      ·have hob:=beq_f ho
       have h8:¬ ((g < 0∨e.g=g)∧e.k=kd∧e.o=ob):=fun q=>ho q.2.2
       have h9:(cnX (Tj es (j+1)) g kd ob:Int)=N:=by have:=HS.out;rw [if_neg h8] at this;omega
       clear HS h8
       go_wp2
       exact ⟨⟨j+1,by omega,by go_num,by first|rw [h9]|simp only [h9],by first|trivial|rfl⟩,by simp [intOf];omega⟩
     ·have hkb:=beq_f hk
      have h8:¬ ((g < 0∨e.g=g)∧e.k=kd∧e.o=ob):=fun q=>hk q.2.1
      have h9:(cnX (Tj es (j+1)) g kd ob:Int)=N:=by have:=HS.out;rw [if_neg h8] at this;omega
      clear HS h8
      go_wp2
      exact ⟨⟨j+1,by omega,by go_num,by first|rw [h9]|simp only [h9],by first|trivial|rfl⟩,by simp [intOf];omega⟩
    ·have hge:=beq_f hgg
     have h8:¬ ((g < 0∨e.g=g)∧e.k=kd∧e.o=ob):=fun q=>q.1.elim hg hgg
     have h9:(cnX (Tj es (j+1)) g kd ob:Int)=N:=by have:=HS.out;rw [if_neg h8] at this;omega
     clear HS h8
     go_wp2
     exact ⟨⟨j+1,by omega,by go_num,by first|rw [h9]|simp only [h9],by first|trivial|rfl⟩,by simp [intOf];omega⟩
  ·have h9:j=n:=by omega
   subst h9
   have h8:=Tj_all HE.out.len
   rw [h8] at hNl ⊢
   go_wp2
   go_ret
   exact ⟨rfl,rfl⟩
theorem rtold_any (ad:Option Addr) (n c:Nat) (es:List E6.Ev) (w:World) (hr:E6.ERow w ad n es) (hn:(n:Int)≤1048576) (kd ob x:Int) :
  Calls Tryz.prog 156 #[.slice ad n c,.int .i64 kd,.int .u64 ob,.int .u64 x] w fun e w'=>e=.returned (.int .i64 (cnT (es.map me) kd ob x:Int))∧w'=w:=by
 have HE:=hide hr
 clear hr
 go_enter Tryz.func156,Tryz.ntmps156
 go_wp2
 go_loopw [9,10] (fun m i wr=>∃ (j:Nat),j≤n∧i=.int .i64 j∧m=.int .i64 (cnT (Tj es j) kd ob x:Int)∧wr=w) (fun _ i _=>n - (intOf i).toNat)
 case atStart=>exact ⟨0,Nat.zero_le _,rfl,by rw [Tj_zero];rfl,rfl⟩
 case round =>
  obtain ⟨j,hj,rfl,rfl,rfl⟩:=hrel
  have hNl:cnT (Tj es j) kd ob x≤j:=by
   have h1:=cnT_le (Tj es j) kd ob x
   rw [Tj_len HE.out.len hj] at h1
   exact h1
  by_cases hlt:j < n
  ·have hjI:(j:Int) < n:=by omega
   obtain ⟨b,off,e,rfl,hej,c0,c1,c2,c3,c4,hs⟩:=HE.out.at hlt
   have HS:Hid (cnT (Tj es (j+1)) kd ob x=cnT (Tj es j) kd ob x+(if e.k=kd∧e.o=ob∧e.a=x then 1 else 0)):=hide (by have h1:=cnT_snoc (T:=Tj es j) (e:=me e) (k:=kd) (o:=ob) (a:=x);rw [← Tj_succ hej] at h1;exact h1)
   clear hs hej
   generalize cnT (Tj es j) kd ob x=N at HS hNl ⊢
   have hNI:(N:Int)≤1048576:=by omega
   by_cases hk:e.k=kd
   ·have hkb:=beq_t hk
    by_cases ho:e.o=ob
    ·have hob:=beq_t ho
     by_cases ha:e.a=x
     ·have hab:=beq_t ha
      have h8:e.k=kd∧e.o=ob∧e.a=x:=⟨hk,ho,ha⟩
      have h9:(cnT (Tj es (j+1)) kd ob x:Int)=N+1:=by have:=HS.out;rw [if_pos h8] at this;omega
      clear HS h8
      go_wp2
      exact ⟨⟨j+1,by omega,by go_num,by first|rw [h9]|simp only [h9],by first|trivial|rfl⟩,by simp [intOf];omega⟩
     ·have hab:=beq_f ha
      have h8:¬ (e.k=kd∧e.o=ob∧e.a=x):=fun q=>ha q.2.2
      have h9:(cnT (Tj es (j+1)) kd ob x:Int)=N:=by have:=HS.out;rw [if_neg h8] at this;omega
      clear HS h8
      go_wp2
      exact ⟨⟨j+1,by omega,by go_num,by first|rw [h9]|simp only [h9],by first|trivial|rfl⟩,by simp [intOf];omega⟩
    ·have hob:=beq_f ho
     have h8:¬ (e.k=kd∧e.o=ob∧e.a=x):=fun q=>ho q.2.1
     have h9:(cnT (Tj es (j+1)) kd ob x:Int)=N:=by have:=HS.out;rw [if_neg h8] at this;omega
     clear HS h8
     go_wp2
     exact ⟨⟨j+1,by omega,by go_num,by first|rw [h9]|simp only [h9],by first|trivial|rfl⟩,by simp [intOf];omega⟩
   ·have hkb:=beq_f hk
    have h8:¬ (e.k=kd∧e.o=ob∧e.a=x):=fun q=>hk q.1
    have h9:(cnT (Tj es (j+1)) kd ob x:Int)=N:=by have:=HS.out;rw [if_neg h8] at this;omega
    clear HS h8
    go_wp2
    exact ⟨⟨j+1,by omega,by go_num,by first|rw [h9]|simp only [h9],by first|trivial|rfl⟩,by simp [intOf];omega⟩
  ·have h9:j=n:=by omega
   subst h9
   have h8:=Tj_all HE.out.len
   rw [h8] at hNl ⊢
   go_wp2
   go_ret
   exact ⟨rfl,rfl⟩
theorem rnamed_any (ad:Option Addr) (n c:Nat) (es:List E6.Ev) (w:World) (hr:E6.ERow w ad n es) (hn:(n:Int)≤1048576) (kd x:Int) :
  Calls Tryz.prog 145 #[.slice ad n c,.int .i64 kd,.int .u64 x] w fun e w'=>e=.returned (.bool (nmd (es.map me) kd x))∧w'=w:=by
 obtain ⟨R,hR⟩:∃ R,R=nmd (es.map me) kd x:=⟨_,rfl⟩
 rw [← hR]
 have HR:=hide hR
 have HE:=hide hr
 clear hr hR
 go_enter Tryz.func145,Tryz.ntmps145
 go_wp2
 go_loopw [7] (fun i wr=>∃ (j:Nat),j≤n∧i=.int .i64 j∧nmd (Tj es j) kd x=false∧wr=w) (fun i _=>n - (intOf i).toNat)
 case atStart=>exact ⟨0,Nat.zero_le _,rfl,by rw [Tj_zero];rfl,rfl⟩
 case round =>
  obtain ⟨j,hj,rfl,hN,rfl⟩:=hrel
  by_cases hlt:j < n
  ·have hjI:(j:Int) < n:=by omega
   obtain ⟨b,off,e,rfl,hej,c0,c1,c2,c3,c4,hs⟩:=HE.out.at hlt
   have HS:Hid (nmd (Tj es (j+1)) kd x=(false || decide (e.k=kd∧e.a=x))):=hide (by rw [Tj_succ hej,nmd_snoc,hN];rfl)
   have HF:Hid (e.k=kd→e.a=x→nmd (es.map me) kd x=true):=hide (fun h1 h2=>by rw [Tj_split hej];exact nmd_found h1 h2)
   clear hs hej hN
   by_cases hk:e.k=kd
   ·have hkb:=beq_t hk
    by_cases ha:e.a=x
    ·have hab:=beq_t ha
     have H9:Hid (R=true):=hide (HR.out.trans (HF.out hk ha))
     clear HF HS HR
     go_wp2
     go_ret
     exact ⟨by rw [H9.out];rfl,rfl⟩
    ·have hab:=beq_f ha
     have h9:nmd (Tj es (j+1)) kd x=false:=by rw [HS.out];simp [ha]
     clear HF HS
     go_wp2
     exact ⟨⟨j+1,by omega,by go_num,h9,by first|trivial|rfl⟩,by simp [intOf];omega⟩
   ·have hkb:=beq_f hk
    have h9:nmd (Tj es (j+1)) kd x=false:=by rw [HS.out];simp [hk]
    clear HF HS
    go_wp2
    exact ⟨⟨j+1,by omega,by go_num,h9,by first|trivial|rfl⟩,by simp [intOf];omega⟩
  ·have h9:j=n:=by omega
   subst h9
   rw [Tj_all HE.out.len] at hN
   have H9:Hid (R=false):=hide (HR.out.trans hN)
   clear hN HR
   go_wp2
   go_ret
   exact ⟨by rw [H9.out];rfl,rfl⟩
def roomI (T:List Me) (o:Int):Int:=(roomT T o).getD (-1)
theorem rroom_any (ad:Option Addr) (n c:Nat) (es:List E6.Ev) (w:World) (hr:E6.ERow w ad n es) (hn:(n:Int)≤1048576) (hg:∀ e ∈ es,Eb e.g e.k e.o e.a) (ob:Int) :
  Calls Tryz.prog 146 #[.slice ad n c,.int .u64 ob] w fun e w'=>e=.returned (.int .i64 (roomI (es.map me) ob))∧w'=w:=by
 obtain ⟨R,hR⟩:∃ R,R=roomI (es.map me) ob:=⟨_,rfl⟩
 rw [← hR]
 have HR:=hide hR
 have HE:=hide hr
 have HG:=hide hg
 clear hr hg hR
 go_enter Tryz.func146,Tryz.ntmps146
 go_wp2
 go_loopw [5] (fun i wr=>∃ (j:Nat),j≤n∧i=.int .i64 j∧roomT (Tj es j) ob=none∧wr=w) (fun i _=>n - (intOf i).toNat)
 case atStart=>exact ⟨0,Nat.zero_le _,rfl,by rw [Tj_zero];rfl,rfl⟩
 case round =>
  obtain ⟨j,hj,rfl,hN,rfl⟩:=hrel
  by_cases hlt:j < n
  ·have hjI:(j:Int) < n:=by omega
   obtain ⟨b,off,e,rfl,hej,c0,c1,c2,c3,c4,hs⟩:=HE.out.at hlt
   have HS:Hid (roomT (Tj es (j+1)) ob=if e.k=9∧e.o=ob then some e.a else none):=hide (by rw [Tj_succ hej,roomT_snoc,hN];rfl)
   have HF:Hid (e.k=9→e.o=ob→roomI (es.map me) ob=e.a):=hide (fun h1 h2=>by
    unfold roomI
    rw [Tj_split hej,roomT_append,hN]
    show (roomT (me e :: _) ob).getD (-1)=_
    rw [roomT,if_pos ⟨h1,h2⟩];rfl)
   have hb:=HG.out e (List.mem_of_getElem? hej)
   clear hs hej hN
   by_cases hk:e.k=9
   ·have hkb:=beq_t hk
    by_cases ha:e.o=ob
    ·have hab:=beq_t ha
     have H9:Hid (R=e.a):=hide (HR.out.trans (HF.out hk ha))
     have hm:=hb.mc hk
     have h0:=hb.ok.a0
     have hw1:IntKind.i64.wrap e.a=e.a:=by rw [IntKind.wrap_i64];omega
     clear HF HS HR hb hk ha
     go_wp2
     go_ret
     exact ⟨by rw [H9.out];rfl,rfl⟩
    ·have hab:=beq_f ha
     have h9:roomT (Tj es (j+1)) ob=none:=by rw [HS.out,if_neg (fun q=>ha q.2)]
     clear HF HS hb
     go_wp2
     exact ⟨⟨j+1,by omega,by go_num,h9,by first|trivial|rfl⟩,by simp [intOf];omega⟩
   ·have hkb:=beq_f hk
    have h9:roomT (Tj es (j+1)) ob=none:=by rw [HS.out,if_neg (fun q=>hk q.1)]
    clear HF HS hb
    go_wp2
    exact ⟨⟨j+1,by omega,by go_num,h9,by first|trivial|rfl⟩,by simp [intOf];omega⟩
  ·have h9:j=n:=by omega
   subst h9
   rw [Tj_all HE.out.len] at hN
   have h8:roomI (es.map me) ob=-1:=by unfold roomI;rw [hN];rfl
   have H9:Hid (R=-1):=hide (HR.out.trans h8)
   clear hN h8 HR
   go_wp2
   go_ret
   exact ⟨by rw [H9.out];rfl,rfl⟩
end Go.Proofs.YtaeehnaicnckgaaGreatDoor
namespace Go.Proofs.YtaeehnaicnckgaaGreatDoor
open Go.RowKit Go.Maps
theorem rbegun_any (ad:Option Addr) (n c:Nat) (es:List E6.Ev) (w:World) (hr:E6.ERow w ad n es) (hn:(n:Int)≤1048576) (g:Int) (h0:0≤g) (h1:g≤65535) :
  Calls Tryz.prog 108 #[.slice ad n c,.int .i64 g] w fun e w'=>e=.returned (.bool (bgT (es.map me) g))∧w'=w:=by
 have hw1:IntKind.u64.wrap g=g:=by rw [IntKind.wrap_u64];omega
 have HC:=hide (rnamed_any ad n c es w hr hn 7 g)
 obtain ⟨R,hR⟩:∃ R,R=bgT (es.map me) g:=⟨_,rfl⟩
 rw [← hR]
 by_cases hg:g=0
 ·have hb:=beq_t hg
  have H9:Hid (R=true):=hide (by rw [hR];unfold bgT;rw [decide_eq_true hg];rfl)
  clear hr hR hg
  go_enter Tryz.func108,Tryz.ntmps108
  go_wp2
  go_ret
  exact ⟨by rw [H9.out];rfl,rfl⟩
 ·have hb:=beq_f hg
  have H9:Hid (R=nmd (es.map me) 7 g):=hide (by rw [hR];unfold bgT;rw [decide_eq_false hg];rfl)
  clear hr hR hg
  go_enter Tryz.func108,Tryz.ntmps108
  go_wp2_with fail
  refine HC.out.mono ?_
  rintro e w1 ⟨rfl,rfl⟩
  rw [← H9.out]
  clear HC H9
  go_wp2
  go_ret
  exact ⟨rfl,rfl⟩
theorem rjoined_any (ad:Option Addr) (n c:Nat) (es:List E6.Ev) (w:World) (hr:E6.ERow w ad n es) (hn:(n:Int)≤1048576) (g:Int) (h0:0≤g) (h1:g≤65535) :
  Calls Tryz.prog 109 #[.slice ad n c,.int .i64 g] w fun e w'=>e=.returned (.bool (nmd (es.map me) 8 g))∧w'=w:=by
 have hw1:IntKind.u64.wrap g=g:=by rw [IntKind.wrap_u64];omega
 have HC:=hide (rnamed_any ad n c es w hr hn 8 g)
 generalize nmd (es.map me) 8 g=R at HC ⊢
 clear hr
 go_enter Tryz.func109,Tryz.ntmps109
 go_wp2_with fail
 refine HC.out.mono ?_
 rintro e w1 ⟨rfl,rfl⟩
 clear HC
 go_wp2
 go_ret
 exact ⟨rfl,rfl⟩
theorem rsends_any (ad:Option Addr) (n c:Nat) (es:List E6.Ev) (w:World) (hr:E6.ERow w ad n es) (hn:(n:Int)≤1048576) (ob:Int) :
  Calls Tryz.prog 147 #[.slice ad n c,.int .u64 ob] w fun e w'=>e=.returned (.int .i64 (cnA (es.map me) 10 ob:Int))∧w'=w:=by
 have HC:=hide (rcount_any ad n c es w hr hn (-1) 10 ob)
 rw [cnX_all] at HC
 generalize cnA (es.map me) 10 ob=R at HC ⊢
 clear hr
 go_enter Tryz.func147,Tryz.ntmps147
 go_wp2_with fail
 refine HC.out.mono ?_
 rintro e w1 ⟨rfl,rfl⟩
 clear HC
 go_wp2
 go_ret
 exact ⟨rfl,rfl⟩
theorem rrecvs_any (ad:Option Addr) (n c:Nat) (es:List E6.Ev) (w:World) (hr:E6.ERow w ad n es) (hn:(n:Int)≤1048576) (ob:Int) :
  Calls Tryz.prog 153 #[.slice ad n c,.int .u64 ob] w fun e w'=>e=.returned (.int .i64 (cnT (es.map me) 12 ob 1:Int))∧w'=w:=by
 have HC:=hide (rtold_any ad n c es w hr hn 12 ob 1)
 generalize cnT (es.map me) 12 ob 1=R at HC ⊢
 clear hr
 go_enter Tryz.func153,Tryz.ntmps153
 go_wp2_with fail
 refine HC.out.mono ?_
 rintro e w1 ⟨rfl,rfl⟩
 clear HC
 go_wp2
 go_ret
 exact ⟨rfl,rfl⟩
theorem lt_cast {a b:Nat}:decide ((a:Int) < b)=decide (a < b):=by
 by_cases h:a < b
 ·rw [decide_eq_true h,decide_eq_true (by omega)]
 ·rw [decide_eq_false h,decide_eq_false (by omega)]
theorem rwrites_any (ad:Option Addr) (n c:Nat) (es:List E6.Ev) (w:World) (hr:E6.ERow w ad n es) (hn:(n:Int)≤1048576) (g ob:Int) (h0:0≤g) :
  Calls Tryz.prog 150 #[.slice ad n c,.int .i64 g,.int .u64 ob] w fun e w'=>e=.returned (.bool (wrs (es.map me) g ob))∧w'=w:=by
 have HC:=hide (rcount_any ad n c es w hr hn g 3 ob)
 have HD:=hide (rcount_any ad n c es w hr hn g 4 ob)
 rw [cnX_g h0] at HC HD
 unfold wrs
 generalize cnG (es.map me) g 3 ob=A at HC ⊢
 generalize cnG (es.map me) g 4 ob=B at HD ⊢
 obtain ⟨R,hR⟩:∃ R,R=decide (B < A):=⟨_,rfl⟩
 rw [← hR]
 have h9:decide ((B:Int) < A)=R:=by rw [hR];exact lt_cast
 clear hr hR
 go_enter Tryz.func150,Tryz.ntmps150
 go_wp2_with fail
 refine HC.out.mono ?_
 rintro e w1 ⟨rfl,rfl⟩
 clear HC
 go_wp2_with fail
 refine HD.out.mono ?_
 rintro e w1 ⟨rfl,rfl⟩
 clear HD
 go_wp2
 go_ret
 first
  | exact ⟨rfl,rfl⟩
  | (refine ⟨?_,rfl⟩;rw [← h9];first|rfl|(congr 2;simp))
theorem rreads_any (ad:Option Addr) (n c:Nat) (es:List E6.Ev) (w:World) (hr:E6.ERow w ad n es) (hn:(n:Int)≤1048576) (g ob:Int) (h0:0≤g) :
  Calls Tryz.prog 151 #[.slice ad n c,.int .i64 g,.int .u64 ob] w fun e w'=>e=.returned (.bool (rds (es.map me) g ob))∧w'=w:=by
 have HC:=hide (rcount_any ad n c es w hr hn g 5 ob)
 have HD:=hide (rcount_any ad n c es w hr hn g 6 ob)
 rw [cnX_g h0] at HC HD
 unfold rds
 generalize cnG (es.map me) g 5 ob=A at HC ⊢
 generalize cnG (es.map me) g 6 ob=B at HD ⊢
 obtain ⟨R,hR⟩:∃ R,R=decide (B < A):=⟨_,rfl⟩
 rw [← hR]
 have h9:decide ((B:Int) < A)=R:=by rw [hR];exact lt_cast
 clear hr hR
 go_enter Tryz.func151,Tryz.ntmps151
 go_wp2_with fail
 refine HC.out.mono ?_
 rintro e w1 ⟨rfl,rfl⟩
 clear HC
 go_wp2_with fail
 refine HD.out.mono ?_
 rintro e w1 ⟨rfl,rfl⟩
 clear HD
 go_wp2
 go_ret
 first
  | exact ⟨rfl,rfl⟩
  | (refine ⟨?_,rfl⟩;rw [← h9];first|rfl|(congr 2;simp))
def anyWrP (T:List Me) (o:Int) (x:Me):Bool:=decide (x.k=3∧x.o=o) && wrs T x.g o
theorem ranyWrites_any (ad:Option Addr) (n c:Nat) (es:List E6.Ev) (w:World) (hr:E6.ERow w ad n es) (hn:(n:Int)≤1048576) (hg:∀ e ∈ es,Eb e.g e.k e.o e.a) (ob:Int) :
  Calls Tryz.prog 148 #[.slice ad n c,.int .u64 ob] w fun e w'=>e=.returned (.bool (anyWr (es.map me) ob))∧w'=w:=by
 obtain ⟨R,hR⟩:∃ R,R=anyWr (es.map me) ob:=⟨_,rfl⟩
 rw [← hR]
 have HR:Hid (R=(es.map me).any (anyWrP (es.map me) ob)):=hide hR
 have HE:=hide hr
 have HG:=hide hg
 clear hr hg hR
 go_enter Tryz.func148,Tryz.ntmps148
 go_wp2
 go_loopw [5] (fun i wr=>∃ (j:Nat),j≤n∧i=.int .i64 j∧(Tj es j).any (anyWrP (es.map me) ob)=false∧wr=w) (fun i _=>n - (intOf i).toNat)
 case atStart=>exact ⟨0,Nat.zero_le _,rfl,by rw [Tj_zero];rfl,rfl⟩
 case round =>
  obtain ⟨j,hj,rfl,hN,rfl⟩:=hrel
  by_cases hlt:j < n
  ·have hjI:(j:Int) < n:=by omega
   have HC:=hide fun g (h:0≤g)=>rwrites_any ad n c es wr HE.out hn g ob h
   obtain ⟨b,off,e,rfl,hej,c0,c1,c2,c3,c4,hs⟩:=HE.out.at hlt
   have HS:Hid ((Tj es (j+1)).any (anyWrP (es.map me) ob)=anyWrP (es.map me) ob (me e)):=hide (by rw [Tj_succ hej,List.any_append,hN];simp)
   have HF:Hid (anyWrP (es.map me) ob (me e)=true→R=true):=hide (fun h1=>by rw [HR.out,Tj_split hej,List.any_append,List.any_cons,← Tj_split hej,h1];simp)
   have hb:=HG.out e (List.mem_of_getElem? hej)
   have HCe:=hide (HC.out e.g hb.ok.g0)
   clear hs hej hN hb HC
   by_cases hk:e.k=3
   ·have hkb:=beq_t hk
    by_cases ha:e.o=ob
    ·have hab:=beq_t ha
     obtain ⟨Y,hY⟩:∃ Y,Y=wrs (es.map me) e.g ob:=⟨_,rfl⟩
     rw [← hY] at HCe
     have hP:anyWrP (es.map me) ob (me e)=Y:=by
      unfold anyWrP
      rw [decide_eq_true (show (me e).k=3∧(me e).o=ob from ⟨hk,ha⟩),hY];rfl
     have HP:=hide hP
     clear hY hP
     go_wp2_with fail
     refine HCe.out.mono ?_
     rintro r w1 ⟨rfl,rfl⟩
     clear HCe
     cases Y with
     | true =>
      have H9:Hid (R=true):=hide (HF.out HP.out)
      clear HF HS HR HP
      go_wp2
      go_ret
      exact ⟨by rw [H9.out];rfl,rfl⟩
     | false =>
      have h9:=HS.out.trans HP.out
      clear HF HS HP
      go_wp2
      exact ⟨⟨j+1,by omega,by go_num,h9,by first|trivial|rfl⟩,by simp [intOf];omega⟩
    ·have hab:=beq_f ha
     have h9:=HS.out.trans (show anyWrP (es.map me) ob (me e)=false by unfold anyWrP;rw [decide_eq_false (fun q=>ha q.2)];rfl)
     clear HF HS HCe
     go_wp2
     exact ⟨⟨j+1,by omega,by go_num,h9,by first|trivial|rfl⟩,by simp [intOf];omega⟩
   ·have hkb:=beq_f hk
    have h9:=HS.out.trans (show anyWrP (es.map me) ob (me e)=false by unfold anyWrP;rw [decide_eq_false (fun q=>hk q.1)];rfl)
    clear HF HS HCe
    go_wp2
    exact ⟨⟨j+1,by omega,by go_num,h9,by first|trivial|rfl⟩,by simp [intOf];omega⟩
  ·have h9:j=n:=by omega
   subst h9
   rw [Tj_all HE.out.len] at hN
   have H9:Hid (R=false):=hide (HR.out.trans hN)
   clear hN HR
   go_wp2
   go_ret
   exact ⟨by rw [H9.out];rfl,rfl⟩
def anyRdP (T:List Me) (o:Int) (x:Me):Bool:=decide (x.k=5∧x.o=o) && rds T x.g o
theorem ranyReads_any (ad:Option Addr) (n c:Nat) (es:List E6.Ev) (w:World) (hr:E6.ERow w ad n es) (hn:(n:Int)≤1048576) (hg:∀ e ∈ es,Eb e.g e.k e.o e.a) (ob:Int) :
  Calls Tryz.prog 149 #[.slice ad n c,.int .u64 ob] w fun e w'=>e=.returned (.bool (anyRd (es.map me) ob))∧w'=w:=by
 obtain ⟨R,hR⟩:∃ R,R=anyRd (es.map me) ob:=⟨_,rfl⟩
 rw [← hR]
 have HR:Hid (R=(es.map me).any (anyRdP (es.map me) ob)):=hide hR
 have HE:=hide hr
 have HG:=hide hg
 clear hr hg hR
 go_enter Tryz.func149,Tryz.ntmps149
 go_wp2
 go_loopw [5] (fun i wr=>∃ (j:Nat),j≤n∧i=.int .i64 j∧(Tj es j).any (anyRdP (es.map me) ob)=false∧wr=w) (fun i _=>n - (intOf i).toNat)
 case atStart=>exact ⟨0,Nat.zero_le _,rfl,by rw [Tj_zero];rfl,rfl⟩
 case round =>
  obtain ⟨j,hj,rfl,hN,rfl⟩:=hrel
  by_cases hlt:j < n
  ·have hjI:(j:Int) < n:=by omega
   have HC:=hide fun g (h:0≤g)=>rreads_any ad n c es wr HE.out hn g ob h
   obtain ⟨b,off,e,rfl,hej,c0,c1,c2,c3,c4,hs⟩:=HE.out.at hlt
   have HS:Hid ((Tj es (j+1)).any (anyRdP (es.map me) ob)=anyRdP (es.map me) ob (me e)):=hide (by rw [Tj_succ hej,List.any_append,hN];simp)
   have HF:Hid (anyRdP (es.map me) ob (me e)=true→R=true):=hide (fun h1=>by rw [HR.out,Tj_split hej,List.any_append,List.any_cons,← Tj_split hej,h1];simp)
   have hb:=HG.out e (List.mem_of_getElem? hej)
   have HCe:=hide (HC.out e.g hb.ok.g0)
   clear hs hej hN hb HC
   by_cases hk:e.k=5
   ·have hkb:=beq_t hk
    by_cases ha:e.o=ob
    ·have hab:=beq_t ha
     obtain ⟨Y,hY⟩:∃ Y,Y=rds (es.map me) e.g ob:=⟨_,rfl⟩
     rw [← hY] at HCe
     have hP:anyRdP (es.map me) ob (me e)=Y:=by
      unfold anyRdP
      rw [decide_eq_true (show (me e).k=5∧(me e).o=ob from ⟨hk,ha⟩),hY];rfl
     have HP:=hide hP
     clear hY hP
     go_wp2_with fail
     refine HCe.out.mono ?_
     rintro r w1 ⟨rfl,rfl⟩
     clear HCe
     cases Y with
     | true =>
      have H9:Hid (R=true):=hide (HF.out HP.out)
      clear HF HS HR HP
      go_wp2
      go_ret
      exact ⟨by rw [H9.out];rfl,rfl⟩
     | false =>
      have h9:=HS.out.trans HP.out
      clear HF HS HP
      go_wp2
      exact ⟨⟨j+1,by omega,by go_num,h9,by first|trivial|rfl⟩,by simp [intOf];omega⟩
    ·have hab:=beq_f ha
     have h9:=HS.out.trans (show anyRdP (es.map me) ob (me e)=false by unfold anyRdP;rw [decide_eq_false (fun q=>ha q.2)];rfl)
     clear HF HS HCe
     go_wp2
     exact ⟨⟨j+1,by omega,by go_num,h9,by first|trivial|rfl⟩,by simp [intOf];omega⟩
   ·have hkb:=beq_f hk
    have h9:=HS.out.trans (show anyRdP (es.map me) ob (me e)=false by unfold anyRdP;rw [decide_eq_false (fun q=>hk q.1)];rfl)
    clear HF HS HCe
    go_wp2
    exact ⟨⟨j+1,by omega,by go_num,h9,by first|trivial|rfl⟩,by simp [intOf];omega⟩
  ·have h9:j=n:=by omega
   subst h9
   rw [Tj_all HE.out.len] at hN
   have H9:Hid (R=false):=hide (HR.out.trans hN)
   clear hN HR
   go_wp2
   go_ret
   exact ⟨by rw [H9.out];rfl,rfl⟩
end Go.Proofs.YtaeehnaicnckgaaGreatDoor
namespace Go.Proofs.YtaeehnaicnckgaaGreatDoor
open Go.RowKit Go.Maps
theorem erow_cut {w:World} {a:Option Addr} {n:Nat} {es:List E6.Ev} (h:E6.ERow w a n es) {j:Nat} (hj:j≤n):E6.ERow w a j (es.take j):=by
 refine ⟨by rw [List.length_take,h.len];omega,?_⟩
 rcases h.cells with h0|⟨b,off,e,hc⟩
 ·exact .inl (by omega)
 ·refine .inr ⟨b,off,e,fun i f hf=>hc i f ?_⟩
  rw [List.getElem?_take] at hf
  split at hf
  ·exact hf
  ·cases hf
def dueV (T:List Me) (g:Int):Int × Int × Bool:=match dueT T g with
 | none=>(0,0,false)
 | some d=>(d.1,d.2,true)
theorem dueV_eq {T U:List Me} {g:Int} (h:dueT T g=dueT U g):dueV T g=dueV U g:=by unfold dueV;rw [h]
theorem due_room {es:List E6.Ev} {m:Nat} {e:E6.Ev} (hm:Mde (es.map me)) (he:es[m]?=some e) (hk:e.k=10):∃ r,roomT (Tj es m) e.o=some r∧roomI (es.map me) e.o=r:=by
 have h1:=hm _ _ _ (Tj_split he) hk
 obtain ⟨r,hr⟩:=Option.isSome_iff_exists.1 h1
 refine ⟨r,hr,?_⟩
 unfold roomI
 have hr2:roomT (Tj es m) e.o=some r:=hr
 rw [Tj_split he,roomT_append,hr2]
 rfl
theorem rdue_any (ad:Option Addr) (n c:Nat) (es:List E6.Ev) (w:World) (hr:E6.ERow w ad n es) (hn:(n:Int)≤1048576) (hc:(n:Int)≤c) (hg:∀ e ∈ es,Eb e.g e.k e.o e.a) (hm:Mde (es.map me)) (g:Int) :
  Calls Tryz.prog 110 #[.slice ad n c,.int .i64 g] w fun e w'=>e=.returned (.tuple #[.int .u64 (dueV (es.map me) g).1,.int .i64 (dueV (es.map me) g).2.1,.bool (dueV (es.map me) g).2.2])∧Below w.heap.size w w':=by
 obtain ⟨R,hR⟩:∃ R,R=dueV (es.map me) g:=⟨_,rfl⟩
 rw [← hR]
 have HR:Hid (R=dueV (Tj es n) g):=hide (by rw [Tj_all hr.len];exact hR)
 have HE:=hide hr
 have HG:=hide hg
 have HM:=hide hm
 clear hr hg hR hm
 go_enter Tryz.func110,Tryz.ntmps110
 go_wp2
 go_loopw [7] (fun i wr=>∃ (j:Nat),j≤n∧i=.int .i64 ((j:Int) - 1)∧R=dueV (Tj es j) g∧wr=w) (fun i _=>(intOf i+1).toNat)
 case atStart=>exact ⟨n,Nat.le_refl _,by go_num,HR.out,rfl⟩
 case round =>
  obtain ⟨j,hj,hi,hN,rfl⟩:=hrel
  cases j with
  | zero =>
   subst hi
   have H9:Hid (R=(0,0,false)):=hide (by rw [hN,Tj_zero];rfl)
   clear hN HR
   go_wp2
   go_ret3
   exact ⟨by rw [H9.out];rfl,Below.refl _ _⟩
  | succ m =>
   obtain rfl:=hi.trans (show (.int .i64 (((m+1:Nat):Int) - 1):Value)=.int .i64 (m:Int) by rw [show ((m+1:Nat):Int) - 1=m by omega])
   clear hi
   have hmI:(m:Int) < n:=by omega
   have hm0:decide ((0:Int)≤m)=true:=decide_eq_true (by omega)
   have hm1:(m:Int)+1≤c:=by omega
   have hm2:(m:Int)≤1048576:=by omega
   have HCr:=hide fun ob=>rroom_any ad n c es wr HE.out hn HG.out ob
   have HSd:=hide fun ob=>rsends_any ad (m+1) c (es.take (m+1)) wr.drew ((erow_cut HE.out hj).bel (Below.refl _ _).drew) (by omega) ob
   obtain ⟨b,off,e,rfl,hej,c0,c1,c2,c3,c4,hs⟩:=HE.out.at (i:=m) (by omega)
   have hD:R=dueV (Tj es m++[me e]) g:=by rw [hN,Tj_succ hej]
   have HD:=hide hD
   have HSn:=hide (dueT_snoc (T:=Tj es m) (e:=me e) (g:=g))
   have HRm:=hide fun hk=>due_room HM.out hej hk
   have HCn:Hid (e.k=10→cnA ((es.take (m+1)).map me) 10 e.o=cnA (Tj es m) 10 e.o+1):=hide (fun hk=>by
    have h1:=cnA_snoc (T:=Tj es m) (e:=me e) (k:=10) (o:=e.o)
    rw [← Tj_succ hej,if_pos (show (me e).k=10∧(me e).o=e.o from ⟨hk,rfl⟩)] at h1
    exact h1)
   have HCe:=hide (HCr.out e.o)
   have HSe:=hide (HSd.out e.o)
   clear hs hej hN hD HCr HSd
   by_cases hgg:e.g=g
   ·have hgb:=beq_t hgg
    by_cases hk:e.k=10
    ·have hkb:=bne_f hk
     obtain ⟨r,hr1,hr2⟩:=HRm.out hk
     rw [hr2] at HCe
     have HR1:=hide hr1
     clear hr1 hr2 HRm
     go_wp2_with fail
     refine HCe.out.mono ?_
     rintro z w1 ⟨rfl,hw1⟩
     obtain rfl:wr=w1:=hw1.symm
     clear HCe
     by_cases h0:r=0
     ·have hrb:=bne_f h0
      have HB0:=hide (Below.refl wr.heap.size wr)
      have HBd:=hide ((Below.refl wr.heap.size wr).drew)
      have HSx:Hid (∀ X,Below wr.heap.size wr X→X.cell? ⟨b,off+m * 5+2,none⟩=some (.int .u64 e.o)):=hide (fun X hX=>E6.cell_bel c2 hX)
      have H9:Hid (R=(e.o,(cnA ((es.take (m+1)).map me) 10 e.o:Int),true)):=hide (by
       rw [HD.out]
       unfold dueV
       rw [HSn.out,if_pos (show (me e).g=g from hgg),if_pos (show (me e).k=10∧roomT (Tj es m) (me e).o=some 0 from ⟨hk,HR1.out.trans (congrArg some h0)⟩),HCn.out hk]
       rfl)
      generalize cnA ((es.take (m+1)).map me) 10 e.o=NN at HSe H9
      have hx1:IntKind.i64.wrap ((m:Int)+1)=(m:Int)+1:=by rw [IntKind.wrap_i64];omega
      have hx3:(0:Int)≤(m:Int)+1:=by omega
      have hx5:((m:Int)+1).toNat=m+1:=by omega
      clear HD HSn HR1 HCn h0 hk hgg
      go_wp2_with fail
      go_region_held3 (fun X=>X.cell? ⟨b,off+m * 5+2,none⟩=some (.int .u64 e.o))
       (first|with_reducible exact HSx.out _ HB0.out|with_reducible exact HSx.out _ HBd.out|with_reducible exact HSx.out _ HB7.out)
       (first|(go_at_call 147;go_must (refine HSe.out.mono ?_;rintro e9 w7 ⟨rfl,h7⟩;have HB7:Hid (Below wr.heap.size wr w7):=hide (by rw [h7];exact (Below.refl _ _).drew);clear h7)))
      go_wp2
      go_ret3
      exact ⟨by rw [H9.out];rfl,HB7.out⟩
     ·have hrb:=bne_t h0
      have H9:Hid (R=(0,0,false)):=hide (by
       rw [HD.out]
       unfold dueV
       rw [HSn.out,if_pos (show (me e).g=g from hgg),if_neg (show ¬ ((me e).k=10∧roomT (Tj es m) (me e).o=some 0) from fun q=>h0 (Option.some.inj (HR1.out.symm.trans q.2)))])
      clear HD HSn HR1 HCn h0 hk hgg HSe HR
      go_wp2
      go_ret3
      exact ⟨by rw [H9.out];rfl,Below.refl _ _⟩
    ·have hkb:=bne_t hk
     have H9:Hid (R=(0,0,false)):=hide (by
      rw [HD.out]
      unfold dueV
      rw [HSn.out,if_pos (show (me e).g=g from hgg),if_neg (show ¬ ((me e).k=10∧roomT (Tj es m) (me e).o=some 0) from fun q=>hk q.1)])
     clear HD HSn HRm HCn hk hgg HSe HCe HR
     go_wp2
     go_ret3
     exact ⟨by rw [H9.out];rfl,Below.refl _ _⟩
   ·have hgb:=beq_f hgg
    have h9:R=dueV (Tj es m) g:=by
     rw [HD.out]
     exact dueV_eq (by rw [HSn.out,if_neg (show ¬ (me e).g=g from hgg)])
    clear HD HSn HRm HCn hgg HSe HCe HR
    go_wp2
    exact ⟨⟨m,by omega,by go_num,h9,by first|trivial|rfl⟩,by simp [intOf]⟩
end Go.Proofs.YtaeehnaicnckgaaGreatDoor
