import Derived.Test.YthgelfdefkbfeaaGreatDoorZu18
set_option maxRecDepth 8000
set_option maxHeartbeats 8000000
set_option linter.unusedVariables false
namespace Go.Proofs.YthgelfdefkbfeaaGreatDoor
open Go.RowKit Go.Maps
section
variable {w w' : World} {cb : Nat} {B : Bl} {F : Nat → Option Lb} {M : CS} {N : Nat} {g k o a : Int} {s : Value}
theorem neqE (a b c d:Int) (w:World):(binOp .neq 148 (.agg #[.int .u64 a,.int .u64 b]) (.agg #[.int .u64 c,.int .u64 d])).run Tryz.prog w=.ok (.bool (decide (¬ (a=c∧b=d)))) w:=by
 have hu:Tryz.prog.underlying 148=some (.struct (Tryz.prog.fieldsOf 148)):=by simp [Program.fieldsOf,Tryz.underlying148]
 have hp:Tryz.prog.stoodInHeld 148=false:=by kernel_rfl
 rw [run_neq_struct,show (10000:Nat)=9998+1+1 from rfl,run_equalIn_struct w _ _ _ _ hu hp]
 simp only [Program.fieldsOf,Tryz.underlying148]
 by_cases h1:a=c <;> by_cases h2:b=d <;> simp [Op.eqFields,go_sem,Tryz.underlying33,h1,h2]
theorem zag_any (n:Int) (w:World) (h1:0≤n) (h2:n≤18446744073709551615) :
  Calls Tryz.prog 136 #[.int .u64 n] w fun e w'=>e=.returned (.int .i64 (mzag n))∧w'=w:=by
 have H:Hid (_=zag n):=zag_val n h1 h2
 go_enter Tryz.func136,Tryz.ntmps136
 go_wp2
 go_ret
 exact ⟨ret_int H.out,rfl⟩
theorem always_any:Calls Tryz.prog 66 #[gPtr cb,.agg (evC g k o a s)] w fun e w'=>e=.returned (.int .i64 0)∧Below w.heap.size w w':=by
 have HB:=hide (below_alloc1 w (.cells (evC g k o a s) 43))
 unfold gPtr evC
 unfold evC at HB
 go_enter Tryz.func66,Tryz.ntmps66
 go_wp2
 go_ret
 exact ⟨rfl,HB.out⟩
theorem mayWait_any (h:Ck w cb B F M N) (ho:EOk g o a) :
  Calls Tryz.prog 92 #[gPtr cb,.agg (evC g k o a s)] w fun e w'=>e=.returned (.int .i64 (if M.cnt o=0 then 0 else 24))∧Below w.heap.size w w':=by
 obtain ⟨W,hW⟩:∃ W,W=w.alloc (.cells (evC g k o a s) 43):=⟨_,rfl⟩
 have hb:Below w.heap.size w W:=by rw [hW];exact below_alloc1 w _
 have hC:=h.below hb
 have hE:W.heap[w.heap.size]?=some (.cells (evC g k o a s) 43 (0,0)):=by rw [hW];exact heap_new _ _
 obtain ⟨p0,p1,p2,p3,p4⟩:=evc0 hE
 obtain ⟨R,hR⟩:∃ R:Int,R=(if M.cnt o=0 then 0 else 24:Int):=⟨_,rfl⟩
 rw [← hR]
 have HR:=hide hR
 have HB:=hide hb
 have HW:=hide hW
 have HC:=hide hC
 have HE:=hide hE
 have hlt:=h.clt
 have hltW:cb < W.heap.size:=hC.clt
 have hleW:w.heap.size < W.heap.size:=(Array.getElem?_eq_some_iff.1 hE).1
 have HO:=hide ho
 have t5:=hC.c5
 have hl:=fun q=>(hC.drew q).lkK ho
 clear h hC hb hW hR hE ho
 unfold gPtr evC
 unfold evC at HW
 generalize M.cnt o=ct at *
 go_enter Tryz.func92,Tryz.ntmps92
 go_wp2_with fail
 rw [← HW.out]
 clear HW
 go_quiet (fail)
 by_cases hc:ct=0
 ·have hd:(ct != 0)=false:=by simp [hc]
  have HN:Hid (R=0):=hide (by rw [HR.out];exact if_pos hc)
  clear HR
  go_wp2
  go_ret
  exact ⟨by rw [HN.out];rfl,below_drewN HB.out _⟩
 ·have hd:(ct != 0)=true:=by simp [hc]
  have HN:Hid (R=24):=hide (by rw [HR.out];exact if_neg hc)
  clear HR
  go_wp2
  go_ret
  exact ⟨by rw [HN.out];rfl,below_drewN HB.out _⟩
theorem mayCount_any (h:Ck w cb B F M N) (ho:EOk g o a) (hok:M.ok) (ha:a≤4294967295) :
  Calls Tryz.prog 90 #[gPtr cb,.agg (evC g k o a s)] w fun e w'=>e=.returned (.int .i64 (if M.cnt o+mzag a < 0∨2147483647 < M.cnt o+mzag a then 23 else 0))∧Below w.heap.size w w':=by
 obtain ⟨W,hW⟩:∃ W,W=w.alloc (.cells (evC g k o a s) 43):=⟨_,rfl⟩
 have hb:Below w.heap.size w W:=by rw [hW];exact below_alloc1 w _
 have hC:=h.below hb
 have hE:W.heap[w.heap.size]?=some (.cells (evC g k o a s) 43 (0,0)):=by rw [hW];exact heap_new _ _
 obtain ⟨p0,p1,p2,p3,p4⟩:=evc0 hE
 obtain ⟨R,hR⟩:∃ R:Int,R=(if M.cnt o+mzag a < 0∨2147483647 < M.cnt o+mzag a then 23 else 0:Int):=⟨_,rfl⟩
 rw [← hR]
 have HR:=hide hR
 have HB:=hide hb
 have HW:=hide hW
 have HC:=hide hC
 have HE:=hide hE
 have hlt:=h.clt
 have hltW:cb < W.heap.size:=hC.clt
 have hleW:w.heap.size < W.heap.size:=(Array.getElem?_eq_some_iff.1 hE).1
 have HO:=hide ho
 have t5:=hC.c5
 have hl:=fun q=>(hC.drew q).lkK ho
 obtain ⟨ct0,ct1⟩:=hok.ct o
 have HZ:=hide (fun W=>zag_any a W ho.a0 ho.a1)
 have hz:-4294967296≤mzag a∧mzag a≤4294967296:=by have:=ho.a0;unfold mzag;split <;> omega
 obtain ⟨z0,z1⟩:=hz
 clear h hC hb hW hR hE ho hok
 unfold gPtr evC
 unfold evC at HW
 generalize M.cnt o=ct at *
 generalize mzag a=zg at *
 go_enter Tryz.func90,Tryz.ntmps90
 go_wp2_with fail
 rw [← HW.out]
 clear HW
 have hwz:IntKind.i64.wrap (ct+zg)=ct+zg:=by rw [IntKind.wrap_i64];omega
 go_quiet ((go_at_call 136;exact Calls.quiet_of_same (HZ.out _)))
 by_cases h0:ct+zg < 0
 ·have hd:decide (ct+zg < 0)=true:=decide_eq_true h0
  have HN:Hid (R=23):=hide (by rw [HR.out];exact if_pos (.inl h0))
  clear HR
  go_wp2
  go_ret
  exact ⟨by rw [HN.out];rfl,below_drewN HB.out _⟩
 ·have hd:decide (ct+zg < 0)=false:=decide_eq_false h0
  by_cases h1:2147483647 < ct+zg
  ·have hd1:decide (2147483647 < ct+zg)=true:=decide_eq_true h1
   have HN:Hid (R=23):=hide (by rw [HR.out];exact if_pos (.inr h1))
   clear HR
   go_wp2
   go_ret
   exact ⟨by rw [HN.out];rfl,below_drewN HB.out _⟩
  ·have hd1:decide (2147483647 < ct+zg)=false:=decide_eq_false h1
   have HN:Hid (R=0):=hide (by rw [HR.out];exact if_neg (by omega))
   clear HR
   go_wp2
   go_ret
   exact ⟨by rw [HN.out];rfl,below_drewN HB.out _⟩
theorem mayRunOnce_any (h:Ck w cb B F M N) (ho:EOk g o a) :
  Calls Tryz.prog 93 #[gPtr cb,.agg (evC g k o a s)] w fun e w'=>e=.returned (.int .i64 (if a=1∧M.once o=true then 25 else if a=0∧¬ M.once o=true then 26 else 0))∧Below w.heap.size w w':=by
 obtain ⟨W,hW⟩:∃ W,W=w.alloc (.cells (evC g k o a s) 43):=⟨_,rfl⟩
 have hb:Below w.heap.size w W:=by rw [hW];exact below_alloc1 w _
 have hC:=h.below hb
 have hE:W.heap[w.heap.size]?=some (.cells (evC g k o a s) 43 (0,0)):=by rw [hW];exact heap_new _ _
 obtain ⟨p0,p1,p2,p3,p4⟩:=evc0 hE
 obtain ⟨R,hR⟩:∃ R:Int,R=(if a=1∧M.once o=true then 25 else if a=0∧¬ M.once o=true then 26 else 0:Int):=⟨_,rfl⟩
 rw [← hR]
 have HR:=hide hR
 have HB:=hide hb
 have HW:=hide hW
 have HC:=hide hC
 have HE:=hide hE
 have hlt:=h.clt
 have hltW:cb < W.heap.size:=hC.clt
 have hleW:w.heap.size < W.heap.size:=(Array.getElem?_eq_some_iff.1 hE).1
 have HO:=hide ho
 have t6:=hC.c6
 have hl:=fun q=>(hC.drew q).lkO ho
 have HOn0:Hid (M.once o=M.once o):=hide rfl
 clear h hC hb hW hR hE ho
 unfold gPtr evC
 unfold evC at HW
 generalize hon:M.once o=on at *
 go_enter Tryz.func93,Tryz.ntmps93
 go_wp2_with fail
 rw [← HW.out]
 clear HW
 have HOn:=hide hon
 clear hon
 have HS:Hid (∀ X,Below W.heap.size W X→X.cell? ⟨cb,6,none⟩=some (.map (some B.om))∧X.cell? ⟨w.heap.size,2,none⟩=some (.int .u64 o)∧(Instr.lookup 75 (.map (some B.om)) (.int .u64 o) true).run Tryz.prog X=.ok (.tuple #[.agg #[],.bool on]) X):=hide (fun X hX=>by
  have hCX:=HC.out.below hX
  have h9:=hCX.lkO HO.out
  rw [HOn.out] at h9
  exact ⟨hCX.c6,(hX.cell (p:=⟨w.heap.size,2,none⟩) hleW).trans p2,h9⟩)
 go_region_held3 (fun X=>X.cell? ⟨cb,6,none⟩=some (.map (some B.om))∧X.cell? ⟨w.heap.size,2,none⟩=some (.int .u64 o)∧(Instr.lookup 75 (.map (some B.om)) (.int .u64 o) true).run Tryz.prog X=.ok (.tuple #[.agg #[],.bool on]) X)
  (first|with_reducible exact HS.out _ (Below.refl _ _)|with_reducible exact HS.out _ (Below.refl _ _).drew|with_reducible exact HS.out _ ((below_alloc1 W _).drew)|with_reducible exact HS.out _ (below_alloc1 W _))
  (fail)
 all_goals
  have HB4:=hide ((Below.on HB.out (below_alloc1 W (.cells #[] 159))).drew)
  have q3:(W.alloc (.cells #[] 159)).drew.cell? ⟨w.heap.size,3,none⟩=some (.int .u64 a):=((below_alloc1 W _).drew.cell (p:=⟨w.heap.size,3,none⟩) hleW).trans p3
  clear HS hl
  by_cases h1:a=1
  ·have hd1:(a == 1)=true:=by simp [h1]
   have hd0:(a == 0)=false:=by simp [h1]
   cases on with
   | true =>
    have HN:Hid (R=25):=hide (by rw [HR.out];simp [h1])
    clear HR
    go_wp2
    go_ret
    exact ⟨by rw [HN.out];rfl,HB4.out⟩
   | false =>
    have HN:Hid (R=0):=hide (by rw [HR.out];simp [h1])
    clear HR
    go_wp2
    go_ret
    exact ⟨by rw [HN.out];rfl,HB4.out⟩
  ·have hd1:(a == 1)=false:=by simp [h1]
   by_cases h0:a=0
   ·have hd0:(a == 0)=true:=by simp [h0]
    cases on with
    | true =>
     have HN:Hid (R=0):=hide (by rw [HR.out];simp [h0])
     clear HR
     go_wp2
     go_ret
     exact ⟨by rw [HN.out];rfl,HB4.out⟩
    | false =>
     have HN:Hid (R=26):=hide (by rw [HR.out];simp [h0])
     clear HR
     go_wp2
     go_ret
     exact ⟨by rw [HN.out];rfl,HB4.out⟩
   ·have hd0:(a == 0)=false:=by simp [h0]
    have HN:Hid (R=0):=hide (by rw [HR.out];simp [h0,h1])
    clear HR
    go_wp2
    go_ret
    exact ⟨by rw [HN.out];rfl,HB4.out⟩
theorem bytesOf_any (h0:0≤o) (h1:1≤a) (h2:o+(a - 1)≤18446744073709551615) (ha:a≤18446744073709551615):Calls Tryz.prog 137 #[.agg (evC g k o a s)] w fun e w'=>e=.returned (.tuple #[.int .u64 o,.int .u64 (o+(a - 1))])∧Below w.heap.size w w':=by
 obtain ⟨W,hW⟩:∃ W,W=w.alloc (.cells (evC g k o a s) 43):=⟨_,rfl⟩
 have hb:Below w.heap.size w W:=by rw [hW];exact below_alloc1 w _
 have hE:W.heap[w.heap.size]?=some (.cells (evC g k o a s) 43 (0,0)):=by rw [hW];exact heap_new _ _
 obtain ⟨p0,p1,p2,p3,p4⟩:=evc0 hE
 have HB:=hide hb
 have HW:=hide hW
 have w1:IntKind.u64.wrap (a - 1)=a - 1:=by rw [IntKind.wrap_u64];omega
 have w2:IntKind.u64.wrap (o+(a - 1))=o+(a - 1):=by rw [IntKind.wrap_u64];omega
 clear hb hW hE
 unfold evC
 unfold evC at HW
 go_enter Tryz.func137,Tryz.ntmps137
 go_wp2_with fail
 rw [← HW.out]
 clear HW
 go_quiet (fail)
 go_wp2
 go_ret2
 exact ⟨rfl,below_drewN HB.out _⟩
theorem mayAllocate_any (h:Ck w cb B F M N) (ho:EOk g o a) (h1:1≤a) (h2:o+(a - 1)≤18446744073709551615) :
  Calls Tryz.prog 95 #[gPtr cb,.agg (evC g k o a s)] w fun e w'=>e=.returned (.int .i64 (match nxt o M.mem with|none=>0|some p=>if p.2≤o+(a - 1) then 27 else 0))∧Below w.heap.size w w':=by
 obtain ⟨W,hW⟩:∃ W,W=w.alloc (.cells (evC g k o a s) 43):=⟨_,rfl⟩
 have hb:Below w.heap.size w W:=by rw [hW];exact below_alloc1 w _
 have hC:=h.below hb
 have hE:W.heap[w.heap.size]?=some (.cells (evC g k o a s) 43 (0,0)):=by rw [hW];exact heap_new _ _
 obtain ⟨p0,p1,p2,p3,p4⟩:=evc0 hE
 obtain ⟨R,hR⟩:∃ R:Int,R=(match nxt o M.mem with|none=>0|some p=>if p.2≤o+(a - 1) then 27 else 0:Int):=⟨_,rfl⟩
 rw [← hR]
 have HR:=hide hR
 have HB:=hide hb
 have HW:=hide hW
 have HC:=hide hC
 have HE:=hide hE
 have hlt:=h.clt
 have hltW:cb < W.heap.size:=hC.clt
 have hleW:w.heap.size < W.heap.size:=(Array.getElem?_eq_some_iff.1 hE).1
 have HO:=hide ho
 have t7:=hC.c7
 have HBy:=hide (bytesOf_any (w:=W) (g:=g) (k:=k) (s:=s) ho.o0 h1 h2 ho.a1)
 unfold evC at HBy
 clear h hC hb hW hR hE ho
 unfold gPtr evC
 unfold evC at HW
 go_enter Tryz.func95,Tryz.ntmps95
 go_wp2_with fail
 rw [← HW.out]
 clear HW
 refine HBy.out.mono ?_
 rintro e w2 ⟨rfl,hb2⟩
 have HB2:=hide hb2
 have HC2:=hide (HC.out.below hb2)
 have HNx:=hide (rise_next (rb:=cb) (ro:=7) (k:=o) HC2.out.c7 (HC2.out.me nf))
 have HB4:=hide (Below.on HB.out HB2.out)
 clear hb2 HBy t7
 generalize hla:o+(a - 1)=la at *
 clear hla
 go_wp2_with fail
 refine HNx.out.mono ?_
 rintro e w3 ⟨rfl,hb3⟩
 have HB5:=hide (Below.on HB4.out hb3)
 clear hb3 HNx
 unfold nxtV
 cases hx:nxt o M.mem with
 | none =>
  rw [hx] at HR
  dsimp only at HR ⊢
  have HN:Hid (R=0):=hide (by rw [HR.out])
  clear HR
  go_wp2
  go_ret
  exact ⟨by rw [HN.out];rfl,HB5.out.alloc (Nat.le_trans HB5.out.size (Nat.le_refl _)) _⟩
 | some p =>
  rw [hx] at HR
  dsimp only at HR ⊢
  by_cases hz:p.2≤la
  ·have hd:decide (p.2≤la)=true:=decide_eq_true hz
   have HN:Hid (R=27):=hide (by rw [HR.out];exact if_pos hz)
   clear HR
   go_wp2
   go_ret
   exact ⟨by rw [HN.out];rfl,HB5.out.alloc (Nat.le_trans HB5.out.size (Nat.le_refl _)) _⟩
  ·have hd:decide (p.2≤la)=false:=decide_eq_false hz
   have HN:Hid (R=0):=hide (by rw [HR.out];exact if_neg hz)
   clear HR
   go_wp2
   go_ret
   exact ⟨by rw [HN.out];rfl,HB5.out.alloc (Nat.le_trans HB5.out.size (Nat.le_refl _)) _⟩
theorem mayFree_any (h:Ck w cb B F M N) (ho:EOk g o a) (h1:1≤a) (h2:o+(a - 1)≤18446744073709551615) :
  Calls Tryz.prog 97 #[gPtr cb,.agg (evC g k o a s)] w fun e w'=>e=.returned (.int .i64 (if nxt (o+(a - 1)) M.mem=some (o+(a - 1),o) then 0 else 28))∧Below w.heap.size w w':=by
 obtain ⟨W,hW⟩:∃ W,W=w.alloc (.cells (evC g k o a s) 43):=⟨_,rfl⟩
 have hb:Below w.heap.size w W:=by rw [hW];exact below_alloc1 w _
 have hC:=h.below hb
 have hE:W.heap[w.heap.size]?=some (.cells (evC g k o a s) 43 (0,0)):=by rw [hW];exact heap_new _ _
 obtain ⟨p0,p1,p2,p3,p4⟩:=evc0 hE
 obtain ⟨R,hR⟩:∃ R:Int,R=(if nxt (o+(a - 1)) M.mem=some (o+(a - 1),o) then 0 else 28:Int):=⟨_,rfl⟩
 rw [← hR]
 have HR:=hide hR
 have HB:=hide hb
 have HW:=hide hW
 have HC:=hide hC
 have HE:=hide hE
 have hlt:=h.clt
 have hltW:cb < W.heap.size:=hC.clt
 have hleW:w.heap.size < W.heap.size:=(Array.getElem?_eq_some_iff.1 hE).1
 have HO:=hide ho
 have t7:=hC.c7
 have HBy:=hide (bytesOf_any (w:=W) (g:=g) (k:=k) (s:=s) ho.o0 h1 h2 ho.a1)
 unfold evC at HBy
 clear h hC hb hW hR hE ho
 unfold gPtr evC
 unfold evC at HW
 go_enter Tryz.func97,Tryz.ntmps97
 go_wp2_with fail
 rw [← HW.out]
 clear HW
 refine HBy.out.mono ?_
 rintro e w2 ⟨rfl,hb2⟩
 have HB2:=hide hb2
 have HC2:=hide (HC.out.below hb2)
 have HNx:=hide (rise_next (rb:=cb) (ro:=7) (k:=o+(a - 1)) HC2.out.c7 (HC2.out.me nf))
 have HB4:=hide (Below.on HB.out HB2.out)
 clear hb2 HBy t7
 generalize hla:o+(a - 1)=la at *
 clear hla
 go_wp2_with fail
 refine HNx.out.mono ?_
 rintro e w3 ⟨rfl,hb3⟩
 have HB5:=hide (Below.on HB4.out hb3)
 clear hb3 HNx
 unfold nxtV
 have hne:=neqE
 cases hx:nxt la M.mem with
 | none =>
  rw [hx] at HR
  dsimp only at HR ⊢
  have HN:Hid (R=28):=hide (by rw [HR.out];simp)
  clear HR
  go_wp2
  go_ret
  exact ⟨by rw [HN.out];rfl,HB5.out.alloc (Nat.le_trans HB5.out.size (Nat.le_refl _)) _⟩
 | some p =>
  rw [hx] at HR
  dsimp only at HR ⊢
  by_cases hz:p.1=la∧p.2=o
  ·have hd:decide (¬ (p.1=la∧p.2=o))=false:=decide_eq_false (fun h=>h hz)
   obtain ⟨p1,p2⟩:=p
   obtain ⟨hz1,hz2⟩:=hz
   dsimp only at hz1 hz2
   subst hz1 hz2
   have HN:Hid (R=0):=hide (by rw [HR.out];simp)
   clear HR
   go_wp2
   go_ret
   exact ⟨by rw [HN.out];rfl,HB5.out.alloc (Nat.le_trans HB5.out.size (Nat.le_refl _)) _⟩
  ·have hd:decide (¬ (p.1=la∧p.2=o))=true:=decide_eq_true hz
   have HZ:=hide hz
   have HN:Hid (R=28):=hide (by rw [HR.out];exact if_neg (fun e=>HZ.out (by injection e with e;rw [e];exact ⟨rfl,rfl⟩)))
   clear HR
   go_wp2
   go_ret
   exact ⟨by rw [HN.out];rfl,HB5.out.alloc (Nat.le_trans HB5.out.size (Nat.le_refl _)) _⟩
end
end Go.Proofs.YthgelfdefkbfeaaGreatDoor
namespace Go.Proofs.YthgelfdefkbfeaaGreatDoor
open Go.RowKit Go.Maps
section
variable {w w' : World} {cb : Nat} {B : Bl} {F : Nat → Option Lb} {M : CS} {N : Nat} {g k o a : Int} {s : Value}
theorem setF_map {α β:Type} (m:α→β) (f:Int→Option α) (x:Int) (v:Option α):(fun y=>(setF f x v y).map m)=setF (fun y=>(f y).map m) x (v.map m):=by
 funext y
 by_cases hy:y=x
 ·subst hy;rw [setF_same,setF_same]
 ·rw [setF_other _ _ hy,setF_other _ _ hy]
def HeS (F:Nat→Option Lb) (B:Bl) (g:Int) (k:Nat):Prop:=F k=some (.he g)∨k=B.gb g
theorem CkX.goP (h:Ck w cb B F M N) {r:Gor} (hg:M.gs g=some r):¬ (fun k=>F k=some (.he g)) (B.gb g):=by
 intro e
 have e1:F (B.gb g)=some (.he g):=e
 rw [(h.gor g r hg nf).1] at e1
 cases e1
theorem CkX.lkG1 (h:Ck w cb B F M N) {r:Gor} (hg:M.gs g=some r) (ho:EOk g o a):(Instr.lookup 71 (.map (some B.gm)) (.int .i64 g) false).run Tryz.prog w=.ok (.pointer (some ⟨B.gb g,0,none⟩)) w:=by
 have h9:=h.lkG (x:=g) (by have:=ho.g0;omega) (by have:=ho.g1;omega)
 unfold gAd at h9
 rw [hg] at h9
 exact h9
theorem CkX.heRead {eb:Nat} (h:Ck w cb B F M N) {r:Gor} (hg:M.gs g=some r) (ho:EOk g o a) (hE:w.heap[eb]?=some (.cells (evC g k o a s) 43 (0,0))) (hFe:F eb=none) {X:World} (hX:But (HeS F B g) w X) :
  X.cell? ⟨cb,1,none⟩=some (.map (some B.gm))∧X.cell? ⟨eb,0,none⟩=some (.int .i64 g)∧X.cell? ⟨eb,2,none⟩=some (.int .u64 o)∧(Instr.lookup 71 (.map (some B.gm)) (.int .i64 g) false).run Tryz.prog X=.ok (.pointer (some ⟨B.gb g,0,none⟩)) X:=by
 have hgl:=(h.gor g r hg nf).1
 obtain ⟨p0,p1,p2,p3,p4⟩:=evc0 hE
 have ne:∀ {k:Nat} {l:Lb},F k=some l→l≠.he g→l≠.go g→¬ HeS F B g k:=by
  intro k l hk h1 h2 e
  rcases e with e|e
  ·rw [hk] at e;exact h1 (Option.some.inj e)
  ·rw [e,hgl] at hk;exact h2 (Option.some.inj hk).symm
 have nee:¬ HeS F B g eb:=by
  intro e
  rcases e with e|e
  ·rw [hFe] at e;cases e
  ·rw [e,hgl] at hFe;cases hFe
 have hm:=(h.mg nf).2.but hX (ne (h.mg nf).1 (by simp) (by simp))
 refine ⟨cell_but h.c1 hX (ne h.top (by simp) (by simp)),cell_but p0 hX nee,cell_but p2 hX nee,?_⟩
 have h9:=hm.look (x:=g) lawI Tryz.underlying71 (zeroPG X) (keyI (by have:=ho.g0;omega) (by have:=ho.g1;omega))
 rw [h9]
 have e:(fG B M g).getD (.pointer none)=.pointer (some ⟨B.gb g,0,none⟩):=by unfold fG;rw [hg];rfl
 rw [e]
theorem acquire_any (h:Ck w cb B F M N) (ho:EOk g o a) (hN:N≤2000000) (hok:M.ok) {r:Gor} (hg:M.gs g=some r) :
  Calls Tryz.prog 69 #[gPtr cb,.agg (evC g k o a s)] w fun e w'=>e=.returned (.tuple #[])∧CkR w cb F { M with locks:=setF M.locks o (some (true,1)),gs:=setF M.gs g (some { r with held:=insE o 1 r.held }) } (N+1) w':=by
 obtain ⟨W,hW⟩:∃ W,W=w.alloc (.cells (evC g k o a s) 43):=⟨_,rfl⟩
 have hb:Below w.heap.size w W:=by rw [hW];exact below_alloc1 w _
 have hC:=h.below hb
 have hCd:Ck W.drew cb B F M N:=hC.below (Below.refl _ _).drew
 have hE:W.heap[w.heap.size]?=some (.cells (evC g k o a s) 43 (0,0)):=by rw [hW];exact heap_new _ _
 obtain ⟨p0,p1,p2,p3,p4⟩:=evc0 hE
 have hmax:N < maxLen:=by unfold maxLen;omega
 have HB:=hide hb
 have HW:=hide hW
 have HC:=hide hC
 have hlt:=h.clt
 have hltW:cb < W.heap.size:=hC.clt
 have hleW:w.heap.size < W.heap.size:=(Array.getElem?_eq_some_iff.1 hE).1
 have hFe:F w.heap.size=none:=by
  cases hq:F w.heap.size with
  | none=>rfl
  | some l=>have:=h.lt _ _ hq;omega
 obtain ⟨w1,hup,hm1,hb1⟩:=(hCd.ml nf).2.put lawU Tryz.underlying72 hmax (keyU ho.o0 ho.o1) (lockV ((true,1)))
 have hm1':HM w1 33 .u64 B.lm (N+1) (.agg #[.bool false,.int .i64 0]) (fun x=>(setF M.locks o (some ((true,1))) x).map lockV):=by rw [setF_map];exact hm1
 obtain ⟨hC1,hB1⟩:=hCd.setL (Nat.le_succ N) hm1' hb1
 have t3:=hC.c3
 have hFl:=(hC.ml nf).1
 have HSL:Hid (∀ X,But (fun k=>k=B.lm) W X→X.cell? ⟨cb,3,none⟩=some (.map (some B.lm))∧X.cell? ⟨w.heap.size,2,none⟩=some (.int .u64 o)):=hide (fun X hX=>⟨cell_but t3 hX (fun e=>by have e9:cb=B.lm:=e;rw [← e9,hC.top] at hFl;cases hFl),cell_but p2 hX (fun e=>by have e9:w.heap.size=B.lm:=e;rw [← e9,hFe] at hFl;cases hFl)⟩)
 have HK1:Hid (But (fun k=>k=B.lm) W w1):=hide ((But.refl (fun k=>k=B.lm) W).drew.trans hb1 (fun _ _ e=>e))
 have hE1:w1.heap[w.heap.size]?=some (.cells (evC g k o a s) 43 (0,0)):=(HK1.out.block _ hleW (fun e=>by have e9:w.heap.size=B.lm:=e;rw [← e9,hFe] at hFl;cases hFl)).trans hE
 have HBW:Hid (But (fun k=>F k≠none) W.drew w1):=hide hB1
 have hg1:({ M with locks:=setF M.locks o (some (true,1)) }:CS).gs g=some r:=hg
 have HSG:Hid (∀ X,But (HeS F B g) w1 X→X.cell? ⟨cb,1,none⟩=some (.map (some B.gm))∧X.cell? ⟨w.heap.size,0,none⟩=some (.int .i64 g)∧X.cell? ⟨w.heap.size,2,none⟩=some (.int .u64 o)∧(Instr.lookup 71 (.map (some B.gm)) (.int .i64 g) false).run Tryz.prog X=.ok (.pointer (some ⟨B.gb g,0,none⟩)) X):=hide (fun X hX=>hC1.heRead hg1 ho hE1 hFe hX)
 have hC1d:Ck w1.drew cb B F { M with locks:=setF M.locks o (some (true,1)) } (N+1):=hC1.below (Below.refl _ _).drew
 have HP:=hide (rise_put (rb:=B.gb g) (ro:=0) (k:=o) (x:=1) (hC1d.gor g r hg1 nf).2 rfl (hC1d.he g r hg1 nf) (hC1d.goP hg1) (by have:=(hok.gor g r hg).2.2.2.1;have:=hok.tk;omega))
 have HC1d:=hide hC1d
 have HG1:=hide hg1
 have hup':(Instr.mapUpdate 72 (.map (some B.lm)) (.int .u64 o) (.agg #[.bool true,.int .i64 1])).run Tryz.prog W.drew=.ok () w1:=hup
 have HO:=hide ho
 clear h hb hW hmax hC hCd hE p0 p1 p2 p3 p4 hm1 hm1' hC1 hb1 hB1 t3 hFl hFe hE1 hC1d hg1 hg hok hup ho
 unfold gPtr evC
 unfold evC at HW
 go_enter Tryz.func69,Tryz.ntmps69
 go_wp2_with fail
 rw [← HW.out]
 clear HW
 go_region_held3 (fun X=>X.cell? ⟨cb,3,none⟩=some (.map (some B.lm))∧X.cell? ⟨w.heap.size,2,none⟩=some (.int .u64 o))
  (first|with_reducible exact HSL.out _ (But.refl _ _)|with_reducible exact HSL.out _ (But.refl _ _).drew|with_reducible exact HSL.out _ HK1.out)
  (fail)
 clear HSL hup'
 go_wp2_with fail
 go_region_held3 (fun X=>X.cell? ⟨cb,1,none⟩=some (.map (some B.gm))∧X.cell? ⟨w.heap.size,0,none⟩=some (.int .i64 g)∧X.cell? ⟨w.heap.size,2,none⟩=some (.int .u64 o)∧(Instr.lookup 71 (.map (some B.gm)) (.int .i64 g) false).run Tryz.prog X=.ok (.pointer (some ⟨B.gb g,0,none⟩)) X)
  (first|with_reducible exact HSG.out _ (But.refl _ _)|with_reducible exact HSG.out _ (But.refl _ _).drew|with_reducible exact HSG.out _ HK3.out)
  (first|(go_at_call 63;go_must (refine HP.out.mono ?_;rintro e w3 ⟨rfl,hrp⟩;have HRP:=hide hrp;have HK3:Hid (But (HeS F B g) w1 w3):=hide ((But.refl (HeS F B g) w1).drew.trans hrp.choose_spec.2.2 (fun _ _ e=>e));clear hrp)))
 go_wp2
 go_end0
 exact ⟨rfl,CkR.below HB.out (CkR.below (Below.refl _ _).drew (CkR.trans (FEx.refl _ _) HBW.out (CkR.below (Below.refl _ _).drew (HC1d.out.setH HG1.out HRP.out))))⟩
end
end Go.Proofs.YthgelfdefkbfeaaGreatDoor
namespace Go.Proofs.YthgelfdefkbfeaaGreatDoor
open Go.RowKit Go.Maps
section
variable {w w' : World} {cb : Nat} {B : Bl} {F : Nat → Option Lb} {M : CS} {N : Nat} {g k o a : Int} {s : Value}
theorem release_any (h:Ck w cb B F M N) (ho:EOk g o a) (hN:N≤2000000) (hok:M.ok) {r:Gor} (hg:M.gs g=some r) {u:Int} (hl:look o r.held=some u) :
  Calls Tryz.prog 71 #[gPtr cb,.agg (evC g k o a s)] w fun e w'=>e=.returned (.tuple #[])∧CkR w cb F { M with locks:=setF M.locks o none,gs:=setF M.gs g (some { r with held:=delE o r.held }) } (N+1) w':=by
 obtain ⟨W,hW⟩:∃ W,W=w.alloc (.cells (evC g k o a s) 43):=⟨_,rfl⟩
 have hb:Below w.heap.size w W:=by rw [hW];exact below_alloc1 w _
 have hC:=h.below hb
 have hCd:Ck W.drew cb B F M N:=hC.below (Below.refl _ _).drew
 have hE:W.heap[w.heap.size]?=some (.cells (evC g k o a s) 43 (0,0)):=by rw [hW];exact heap_new _ _
 obtain ⟨p0,p1,p2,p3,p4⟩:=evc0 hE
 have hmax:N < maxLen:=by unfold maxLen;omega
 have HB:=hide hb
 have HW:=hide hW
 have HC:=hide hC
 have hlt:=h.clt
 have hltW:cb < W.heap.size:=hC.clt
 have hleW:w.heap.size < W.heap.size:=(Array.getElem?_eq_some_iff.1 hE).1
 have hFe:F w.heap.size=none:=by
  cases hq:F w.heap.size with
  | none=>rfl
  | some l=>have:=h.lt _ _ hq;omega
 obtain ⟨w1,hup,hm1,hb1⟩:=(hCd.ml nf).2.del lawU Tryz.underlying72 (keyU ho.o0 ho.o1) 0
 have hm1':HM w1 33 .u64 B.lm (N+1) (.agg #[.bool false,.int .i64 0]) (fun x=>(setF M.locks o none x).map lockV):=by rw [setF_map];exact hm1.up (Nat.le_succ N)
 obtain ⟨hC1,hB1⟩:=hCd.setL (Nat.le_succ N) hm1' hb1
 have t3:=hC.c3
 have hFl:=(hC.ml nf).1
 have HSL:Hid (∀ X,But (fun k=>k=B.lm) W X→X.cell? ⟨cb,3,none⟩=some (.map (some B.lm))∧X.cell? ⟨w.heap.size,2,none⟩=some (.int .u64 o)):=hide (fun X hX=>⟨cell_but t3 hX (fun e=>by have e9:cb=B.lm:=e;rw [← e9,hC.top] at hFl;cases hFl),cell_but p2 hX (fun e=>by have e9:w.heap.size=B.lm:=e;rw [← e9,hFe] at hFl;cases hFl)⟩)
 have HK1:Hid (But (fun k=>k=B.lm) W w1):=hide ((But.refl (fun k=>k=B.lm) W).drew.trans hb1 (fun _ _ e=>e))
 have hE1:w1.heap[w.heap.size]?=some (.cells (evC g k o a s) 43 (0,0)):=(HK1.out.block _ hleW (fun e=>by have e9:w.heap.size=B.lm:=e;rw [← e9,hFe] at hFl;cases hFl)).trans hE
 have HBW:Hid (But (fun k=>F k≠none) W.drew w1):=hide hB1
 have hg1:({ M with locks:=setF M.locks o none }:CS).gs g=some r:=hg
 have HSG:Hid (∀ X,But (HeS F B g) w1 X→X.cell? ⟨cb,1,none⟩=some (.map (some B.gm))∧X.cell? ⟨w.heap.size,0,none⟩=some (.int .i64 g)∧X.cell? ⟨w.heap.size,2,none⟩=some (.int .u64 o)∧(Instr.lookup 71 (.map (some B.gm)) (.int .i64 g) false).run Tryz.prog X=.ok (.pointer (some ⟨B.gb g,0,none⟩)) X):=hide (fun X hX=>hC1.heRead hg1 ho hE1 hFe hX)
 have hC1d:Ck w1.drew cb B F { M with locks:=setF M.locks o none } (N+1):=hC1.below (Below.refl _ _).drew
 have HC1:=hide hC1
 have HC1d:=hide hC1d
 have HG1:=hide hg1
 have HP:=hide (rise_remove (rb:=B.gb g) (ro:=0) (k:=o) (hC1d.gor g r hg1 nf).2 rfl (hC1d.he g r hg1 nf) (hC1d.goP hg1) (by have:=(hok.gor g r hg).2.2.2.1;have:=hok.tk;omega) hl)
 have HO:=hide ho
 clear h hb hW hmax hC hCd hE p0 p1 p2 p3 p4 hm1 hm1' hC1 hb1 hB1 t3 hFl hFe hE1 hC1d hg1 hg hok ho hl
 unfold gPtr evC
 unfold evC at HW
 go_enter Tryz.func71,Tryz.ntmps71
 go_wp2_with fail
 rw [← HW.out]
 clear HW
 go_region_held3 (fun X=>X.cell? ⟨cb,3,none⟩=some (.map (some B.lm))∧X.cell? ⟨w.heap.size,2,none⟩=some (.int .u64 o))
  (first|with_reducible exact HSL.out _ (But.refl _ _)|with_reducible exact HSL.out _ (But.refl _ _).drew|with_reducible exact HSL.out _ HK1.out)
  (fail)
 clear HSL hup
 go_wp2_with fail
 go_region_held3 (fun X=>X.cell? ⟨cb,1,none⟩=some (.map (some B.gm))∧X.cell? ⟨w.heap.size,0,none⟩=some (.int .i64 g)∧X.cell? ⟨w.heap.size,2,none⟩=some (.int .u64 o)∧(Instr.lookup 71 (.map (some B.gm)) (.int .i64 g) false).run Tryz.prog X=.ok (.pointer (some ⟨B.gb g,0,none⟩)) X)
  (first|with_reducible exact HSG.out _ (But.refl _ _)|with_reducible exact HSG.out _ (But.refl _ _).drew|with_reducible exact HSG.out _ HK3.out)
  (first|(go_at_call 131;go_must (refine HP.out.mono ?_;rintro e w3 ⟨rfl,hrp⟩;have HRP:=hide hrp;have HK3:Hid (But (HeS F B g) w1 w3):=hide ((But.refl (HeS F B g) w1).drew.trans hrp.choose_spec.2.2 (fun _ _ e=>e));clear hrp)))
 go_wp2
 go_end0
 exact ⟨rfl,CkR.below HB.out (CkR.below (Below.refl _ _).drew (CkR.trans (FEx.refl _ _) HBW.out (CkR.below (Below.refl _ _).drew (HC1d.out.setH HG1.out HRP.out))))⟩
end
end Go.Proofs.YthgelfdefkbfeaaGreatDoor
