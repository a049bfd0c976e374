import Derived.Test.YtimgkhdgliojgaaGreatDoorOg17
set_option maxRecDepth 8000
set_option maxHeartbeats 8000000
set_option linter.unusedVariables false
namespace Go.Proofs.YtimgkhdgliojgaaGreatDoor
open Go.RowKit Go.Maps
section
variable {w w' : World} {cb : Nat} {B : Bl} {F : Nat → Option Lb} {M : CS} {N : Nat} {g k o a : Int} {s : Value}
theorem neqE (a b c d:Int) (w:World):(binOp .neq 206 (.agg #[.int .u64 a,.int .u64 b]) (.agg #[.int .u64 c,.int .u64 d])).run Tryz.prog w=.ok (.bool (decide (¬ (a=c∧b=d)))) w:=by
 have hu:Tryz.prog.underlying 206=some (.struct (Tryz.prog.fieldsOf 206)):=by simp [Program.fieldsOf,Tryz.underlying206]
 have hp:Tryz.prog.stoodInHeld 206=false:=by kernel_rfl
 rw [run_neq_struct,show (10000:Nat)=9998+1+1 from rfl,run_equalIn_struct w _ _ _ _ hu hp]
 simp only [Program.fieldsOf,Tryz.underlying206]
 by_cases h1:a=c <;> by_cases h2:b=d <;> simp [Op.eqFields,go_sem,Tryz.underlying32,h1,h2]
theorem zag_any (n:Int) (w:World) (h1:0≤n) (h2:n≤18446744073709551615) :
  Calls Tryz.prog 151 #[.int .u64 n] w fun e w'=>e=.returned (.int .i64 (mzag n))∧w'=w:=by
 have H:Hid (_=zag n):=zag_val n h1 h2
 go_enter Tryz.func151,Tryz.ntmps151
 go_wp2
 go_ret
 exact ⟨ret_int H.out,rfl⟩
theorem always_any:Calls Tryz.prog 87 #[gPtr cb,.agg (evC g k o a s)] w fun e w'=>e=.returned (.int .i64 0)∧Below w.heap.size w w':=by
 have HB:=hide (below_alloc1 w (.cells (evC g k o a s) 35))
 unfold gPtr evC
 unfold evC at HB
 go_enter Tryz.func87,Tryz.ntmps87
 go_wp2
 go_ret
 exact ⟨rfl,HB.out⟩
theorem mayWait_any (h:Ck w cb B F M N) (ho:EOk g o a) :
  Calls Tryz.prog 113 #[gPtr cb,.agg (evC g k o a s)] w fun e w'=>e=.returned (.int .i64 (if M.cnt o=0 then 0 else 24))∧Below w.heap.size w w':=by
 obtain ⟨W,hW⟩:∃ W,W=w.alloc (.cells (evC g k o a s) 35):=⟨_,rfl⟩
 have hb:Below w.heap.size w W:=by rw [hW];exact below_alloc1 w _
 have hC:=h.below hb
 have hE:W.heap[w.heap.size]?=some (.cells (evC g k o a s) 35 (0,0)):=by rw [hW];exact heap_new _ _
 obtain ⟨p0,p1,p2,p3,p4⟩:=evc0 hE
 obtain ⟨R,hR⟩:∃ R:Int,R=(if M.cnt o=0 then 0 else 24:Int):=⟨_,rfl⟩
 rw [← hR]
 have HR:=hide hR
 have HB:=hide hb
 have HW:=hide hW
 have HC:=hide hC
 have HE:=hide hE
 have hlt:=h.clt
 have hltW:cb < W.heap.size:=hC.clt
 have hleW:w.heap.size < W.heap.size:=(Array.getElem?_eq_some_iff.1 hE).1
 have HO:=hide ho
 have t5:=hC.c5
 have hl:=fun q=>(hC.drew q).lkK ho
 clear h hC hb hW hR hE ho
 unfold gPtr evC
 unfold evC at HW
 generalize M.cnt o=ct at *
 go_enter Tryz.func113,Tryz.ntmps113
 go_wp2_with fail
 rw [← HW.out]
 clear HW
 go_quiet (fail)
 by_cases hc:ct=0
 ·have hd:(ct != 0)=false:=by simp [hc]
  have HN:Hid (R=0):=hide (by rw [HR.out];exact if_pos hc)
  clear HR
  go_wp2
  go_ret
  exact ⟨by rw [HN.out];rfl,below_drewN HB.out _⟩
 ·have hd:(ct != 0)=true:=by simp [hc]
  have HN:Hid (R=24):=hide (by rw [HR.out];exact if_neg hc)
  clear HR
  go_wp2
  go_ret
  exact ⟨by rw [HN.out];rfl,below_drewN HB.out _⟩
theorem mayCount_any (h:Ck w cb B F M N) (ho:EOk g o a) (hok:M.ok) (ha:a≤4294967295) :
  Calls Tryz.prog 111 #[gPtr cb,.agg (evC g k o a s)] w fun e w'=>e=.returned (.int .i64 (if M.cnt o+mzag a < 0∨2147483647 < M.cnt o+mzag a then 23 else 0))∧Below w.heap.size w w':=by
 obtain ⟨W,hW⟩:∃ W,W=w.alloc (.cells (evC g k o a s) 35):=⟨_,rfl⟩
 have hb:Below w.heap.size w W:=by rw [hW];exact below_alloc1 w _
 have hC:=h.below hb
 have hE:W.heap[w.heap.size]?=some (.cells (evC g k o a s) 35 (0,0)):=by rw [hW];exact heap_new _ _
 obtain ⟨p0,p1,p2,p3,p4⟩:=evc0 hE
 obtain ⟨R,hR⟩:∃ R:Int,R=(if M.cnt o+mzag a < 0∨2147483647 < M.cnt o+mzag a then 23 else 0:Int):=⟨_,rfl⟩
 rw [← hR]
 have HR:=hide hR
 have HB:=hide hb
 have HW:=hide hW
 have HC:=hide hC
 have HE:=hide hE
 have hlt:=h.clt
 have hltW:cb < W.heap.size:=hC.clt
 have hleW:w.heap.size < W.heap.size:=(Array.getElem?_eq_some_iff.1 hE).1
 have HO:=hide ho
 have t5:=hC.c5
 have hl:=fun q=>(hC.drew q).lkK ho
 obtain ⟨ct0,ct1⟩:=hok.ct o
 have HZ:=hide (fun W=>zag_any a W ho.a0 ho.a1)
 have hz:-4294967296≤mzag a∧mzag a≤4294967296:=by have:=ho.a0;unfold mzag;split <;> omega
 obtain ⟨z0,z1⟩:=hz
 clear h hC hb hW hR hE ho hok
 unfold gPtr evC
 unfold evC at HW
 generalize M.cnt o=ct at *
 generalize mzag a=zg at *
 go_enter Tryz.func111,Tryz.ntmps111
 go_wp2_with fail
 rw [← HW.out]
 clear HW
 have hwz:IntKind.i64.wrap (ct+zg)=ct+zg:=by rw [IntKind.wrap_i64];omega
 go_quiet ((go_at_call 151;exact Calls.quiet_of_same (HZ.out _)))
 by_cases h0:ct+zg < 0
 ·have hd:decide (ct+zg < 0)=true:=decide_eq_true h0
  have HN:Hid (R=23):=hide (by rw [HR.out];exact if_pos (.inl h0))
  clear HR
  go_wp2
  go_ret
  exact ⟨by rw [HN.out];rfl,below_drewN HB.out _⟩
 ·have hd:decide (ct+zg < 0)=false:=decide_eq_false h0
  by_cases h1:2147483647 < ct+zg
  ·have hd1:decide (2147483647 < ct+zg)=true:=decide_eq_true h1
   have HN:Hid (R=23):=hide (by rw [HR.out];exact if_pos (.inr h1))
   clear HR
   go_wp2
   go_ret
   exact ⟨by rw [HN.out];rfl,below_drewN HB.out _⟩
  ·have hd1:decide (2147483647 < ct+zg)=false:=decide_eq_false h1
   have HN:Hid (R=0):=hide (by rw [HR.out];exact if_neg (by omega))
   clear HR
   go_wp2
   go_ret
   exact ⟨by rw [HN.out];rfl,below_drewN HB.out _⟩
theorem mayRunOnce_any (h:Ck w cb B F M N) (ho:EOk g o a) :
  Calls Tryz.prog 114 #[gPtr cb,.agg (evC g k o a s)] w fun e w'=>e=.returned (.int .i64 (if a=1∧M.once o=true then 25 else if a=0∧¬ M.once o=true then 26 else 0))∧Below w.heap.size w w':=by
 obtain ⟨W,hW⟩:∃ W,W=w.alloc (.cells (evC g k o a s) 35):=⟨_,rfl⟩
 have hb:Below w.heap.size w W:=by rw [hW];exact below_alloc1 w _
 have hC:=h.below hb
 have hE:W.heap[w.heap.size]?=some (.cells (evC g k o a s) 35 (0,0)):=by rw [hW];exact heap_new _ _
 obtain ⟨p0,p1,p2,p3,p4⟩:=evc0 hE
 obtain ⟨R,hR⟩:∃ R:Int,R=(if a=1∧M.once o=true then 25 else if a=0∧¬ M.once o=true then 26 else 0:Int):=⟨_,rfl⟩
 rw [← hR]
 have HR:=hide hR
 have HB:=hide hb
 have HW:=hide hW
 have HC:=hide hC
 have HE:=hide hE
 have hlt:=h.clt
 have hltW:cb < W.heap.size:=hC.clt
 have hleW:w.heap.size < W.heap.size:=(Array.getElem?_eq_some_iff.1 hE).1
 have HO:=hide ho
 have t6:=hC.c6
 have hl:=fun q=>(hC.drew q).lkO ho
 have HOn0:Hid (M.once o=M.once o):=hide rfl
 clear h hC hb hW hR hE ho
 unfold gPtr evC
 unfold evC at HW
 generalize hon:M.once o=on at *
 go_enter Tryz.func114,Tryz.ntmps114
 go_wp2_with fail
 rw [← HW.out]
 clear HW
 have HOn:=hide hon
 clear hon
 have HS:Hid (∀ X,Below W.heap.size W X→X.cell? ⟨cb,6,none⟩=some (.map (some B.om))∧X.cell? ⟨w.heap.size,2,none⟩=some (.int .u64 o)∧(Instr.lookup 112 (.map (some B.om)) (.int .u64 o) true).run Tryz.prog X=.ok (.tuple #[.agg #[],.bool on]) X):=hide (fun X hX=>by
  have hCX:=HC.out.below hX
  have h9:=hCX.lkO HO.out
  rw [HOn.out] at h9
  exact ⟨hCX.c6,(hX.cell (p:=⟨w.heap.size,2,none⟩) hleW).trans p2,h9⟩)
 go_region_held3 (fun X=>X.cell? ⟨cb,6,none⟩=some (.map (some B.om))∧X.cell? ⟨w.heap.size,2,none⟩=some (.int .u64 o)∧(Instr.lookup 112 (.map (some B.om)) (.int .u64 o) true).run Tryz.prog X=.ok (.tuple #[.agg #[],.bool on]) X)
  (first|with_reducible exact HS.out _ (Below.refl _ _)|with_reducible exact HS.out _ (Below.refl _ _).drew|with_reducible exact HS.out _ ((below_alloc1 W _).drew)|with_reducible exact HS.out _ (below_alloc1 W _))
  (fail)
 all_goals
  have HB4:=hide ((Below.on HB.out (below_alloc1 W (.cells #[] 180))).drew)
  have q3:(W.alloc (.cells #[] 180)).drew.cell? ⟨w.heap.size,3,none⟩=some (.int .u64 a):=((below_alloc1 W _).drew.cell (p:=⟨w.heap.size,3,none⟩) hleW).trans p3
  clear HS hl
  by_cases h1:a=1
  ·have hd1:(a == 1)=true:=by simp [h1]
   have hd0:(a == 0)=false:=by simp [h1]
   cases on with
   | true =>
    have HN:Hid (R=25):=hide (by rw [HR.out];simp [h1])
    clear HR
    go_wp2
    go_ret
    exact ⟨by rw [HN.out];rfl,HB4.out⟩
   | false =>
    have HN:Hid (R=0):=hide (by rw [HR.out];simp [h1])
    clear HR
    go_wp2
    go_ret
    exact ⟨by rw [HN.out];rfl,HB4.out⟩
  ·have hd1:(a == 1)=false:=by simp [h1]
   by_cases h0:a=0
   ·have hd0:(a == 0)=true:=by simp [h0]
    cases on with
    | true =>
     have HN:Hid (R=0):=hide (by rw [HR.out];simp [h0])
     clear HR
     go_wp2
     go_ret
     exact ⟨by rw [HN.out];rfl,HB4.out⟩
    | false =>
     have HN:Hid (R=26):=hide (by rw [HR.out];simp [h0])
     clear HR
     go_wp2
     go_ret
     exact ⟨by rw [HN.out];rfl,HB4.out⟩
   ·have hd0:(a == 0)=false:=by simp [h0]
    have HN:Hid (R=0):=hide (by rw [HR.out];simp [h0,h1])
    clear HR
    go_wp2
    go_ret
    exact ⟨by rw [HN.out];rfl,HB4.out⟩
theorem bytesOf_any (h0:0≤o) (h1:1≤a) (h2:o+(a - 1)≤18446744073709551615) (ha:a≤18446744073709551615):Calls Tryz.prog 152 #[.agg (evC g k o a s)] w fun e w'=>e=.returned (.tuple #[.int .u64 o,.int .u64 (o+(a - 1))])∧Below w.heap.size w w':=by
 obtain ⟨W,hW⟩:∃ W,W=w.alloc (.cells (evC g k o a s) 35):=⟨_,rfl⟩
 have hb:Below w.heap.size w W:=by rw [hW];exact below_alloc1 w _
 have hE:W.heap[w.heap.size]?=some (.cells (evC g k o a s) 35 (0,0)):=by rw [hW];exact heap_new _ _
 obtain ⟨p0,p1,p2,p3,p4⟩:=evc0 hE
 have HB:=hide hb
 have HW:=hide hW
 have w1:IntKind.u64.wrap (a - 1)=a - 1:=by rw [IntKind.wrap_u64];omega
 have w2:IntKind.u64.wrap (o+(a - 1))=o+(a - 1):=by rw [IntKind.wrap_u64];omega
 clear hb hW hE
 unfold evC
 unfold evC at HW
 go_enter Tryz.func152,Tryz.ntmps152
 go_wp2_with fail
 rw [← HW.out]
 clear HW
 go_quiet (fail)
 go_wp2
 go_ret2
 exact ⟨rfl,below_drewN HB.out _⟩
theorem mayAllocate_any (h:Ck w cb B F M N) (ho:EOk g o a) (h1:1≤a) (h2:o+(a - 1)≤18446744073709551615) :
  Calls Tryz.prog 116 #[gPtr cb,.agg (evC g k o a s)] w fun e w'=>e=.returned (.int .i64 (match nxt o M.mem with|none=>0|some p=>if p.2≤o+(a - 1) then 27 else 0))∧Below w.heap.size w w':=by
 obtain ⟨W,hW⟩:∃ W,W=w.alloc (.cells (evC g k o a s) 35):=⟨_,rfl⟩
 have hb:Below w.heap.size w W:=by rw [hW];exact below_alloc1 w _
 have hC:=h.below hb
 have hE:W.heap[w.heap.size]?=some (.cells (evC g k o a s) 35 (0,0)):=by rw [hW];exact heap_new _ _
 obtain ⟨p0,p1,p2,p3,p4⟩:=evc0 hE
 obtain ⟨R,hR⟩:∃ R:Int,R=(match nxt o M.mem with|none=>0|some p=>if p.2≤o+(a - 1) then 27 else 0:Int):=⟨_,rfl⟩
 rw [← hR]
 have HR:=hide hR
 have HB:=hide hb
 have HW:=hide hW
 have HC:=hide hC
 have HE:=hide hE
 have hlt:=h.clt
 have hltW:cb < W.heap.size:=hC.clt
 have hleW:w.heap.size < W.heap.size:=(Array.getElem?_eq_some_iff.1 hE).1
 have HO:=hide ho
 have t7:=hC.c7
 have HBy:=hide (bytesOf_any (w:=W) (g:=g) (k:=k) (s:=s) ho.o0 h1 h2 ho.a1)
 unfold evC at HBy
 clear h hC hb hW hR hE ho
 unfold gPtr evC
 unfold evC at HW
 go_enter Tryz.func116,Tryz.ntmps116
 go_wp2_with fail
 rw [← HW.out]
 clear HW
 refine HBy.out.mono ?_
 rintro e w2 ⟨rfl,hb2⟩
 have HB2:=hide hb2
 have HC2:=hide (HC.out.below hb2)
 have HNx:=hide (rise_next (rb:=cb) (ro:=7) (k:=o) HC2.out.c7 (HC2.out.me nf))
 have HB4:=hide (Below.on HB.out HB2.out)
 clear hb2 HBy t7
 generalize hla:o+(a - 1)=la at *
 clear hla
 go_wp2_with fail
 refine HNx.out.mono ?_
 rintro e w3 ⟨rfl,hb3⟩
 have HB5:=hide (Below.on HB4.out hb3)
 clear hb3 HNx
 unfold nxtV
 cases hx:nxt o M.mem with
 | none =>
  rw [hx] at HR
  dsimp only at HR ⊢
  have HN:Hid (R=0):=hide (by rw [HR.out])
  clear HR
  go_wp2
  go_ret
  exact ⟨by rw [HN.out];rfl,HB5.out.alloc (Nat.le_trans HB5.out.size (Nat.le_refl _)) _⟩
 | some p =>
  rw [hx] at HR
  dsimp only at HR ⊢
  by_cases hz:p.2≤la
  ·have hd:decide (p.2≤la)=true:=decide_eq_true hz
   have HN:Hid (R=27):=hide (by rw [HR.out];exact if_pos hz)
   clear HR
   go_wp2
   go_ret
   exact ⟨by rw [HN.out];rfl,HB5.out.alloc (Nat.le_trans HB5.out.size (Nat.le_refl _)) _⟩
  ·have hd:decide (p.2≤la)=false:=decide_eq_false hz
   have HN:Hid (R=0):=hide (by rw [HR.out];exact if_neg hz)
   clear HR
   go_wp2
   go_ret
   exact ⟨by rw [HN.out];rfl,HB5.out.alloc (Nat.le_trans HB5.out.size (Nat.le_refl _)) _⟩
theorem mayFree_any (h:Ck w cb B F M N) (ho:EOk g o a) (h1:1≤a) (h2:o+(a - 1)≤18446744073709551615) :
  Calls Tryz.prog 118 #[gPtr cb,.agg (evC g k o a s)] w fun e w'=>e=.returned (.int .i64 (if nxt (o+(a - 1)) M.mem=some (o+(a - 1),o) then 0 else 28))∧Below w.heap.size w w':=by
 obtain ⟨W,hW⟩:∃ W,W=w.alloc (.cells (evC g k o a s) 35):=⟨_,rfl⟩
 have hb:Below w.heap.size w W:=by rw [hW];exact below_alloc1 w _
 have hC:=h.below hb
 have hE:W.heap[w.heap.size]?=some (.cells (evC g k o a s) 35 (0,0)):=by rw [hW];exact heap_new _ _
 obtain ⟨p0,p1,p2,p3,p4⟩:=evc0 hE
 obtain ⟨R,hR⟩:∃ R:Int,R=(if nxt (o+(a - 1)) M.mem=some (o+(a - 1),o) then 0 else 28:Int):=⟨_,rfl⟩
 rw [← hR]
 have HR:=hide hR
 have HB:=hide hb
 have HW:=hide hW
 have HC:=hide hC
 have HE:=hide hE
 have hlt:=h.clt
 have hltW:cb < W.heap.size:=hC.clt
 have hleW:w.heap.size < W.heap.size:=(Array.getElem?_eq_some_iff.1 hE).1
 have HO:=hide ho
 have t7:=hC.c7
 have HBy:=hide (bytesOf_any (w:=W) (g:=g) (k:=k) (s:=s) ho.o0 h1 h2 ho.a1)
 unfold evC at HBy
 clear h hC hb hW hR hE ho
 unfold gPtr evC
 unfold evC at HW
 go_enter Tryz.func118,Tryz.ntmps118
 go_wp2_with fail
 rw [← HW.out]
 clear HW
 refine HBy.out.mono ?_
 rintro e w2 ⟨rfl,hb2⟩
 have HB2:=hide hb2
 have HC2:=hide (HC.out.below hb2)
 have HNx:=hide (rise_next (rb:=cb) (ro:=7) (k:=o+(a - 1)) HC2.out.c7 (HC2.out.me nf))
 have HB4:=hide (Below.on HB.out HB2.out)
 clear hb2 HBy t7
 generalize hla:o+(a - 1)=la at *
 clear hla
 go_wp2_with fail
 refine HNx.out.mono ?_
 rintro e w3 ⟨rfl,hb3⟩
 have HB5:=hide (Below.on HB4.out hb3)
 clear hb3 HNx
 unfold nxtV
 have hne:=neqE
 cases hx:nxt la M.mem with
 | none =>
  rw [hx] at HR
  dsimp only at HR ⊢
  have HN:Hid (R=28):=hide (by rw [HR.out];simp)
  clear HR
  go_wp2
  go_ret
  exact ⟨by rw [HN.out];rfl,HB5.out.alloc (Nat.le_trans HB5.out.size (Nat.le_refl _)) _⟩
 | some p =>
  rw [hx] at HR
  dsimp only at HR ⊢
  by_cases hz:p.1=la∧p.2=o
  ·have hd:decide (¬ (p.1=la∧p.2=o))=false:=decide_eq_false (fun h=>h hz)
   obtain ⟨p1,p2⟩:=p
   obtain ⟨hz1,hz2⟩:=hz
   dsimp only at hz1 hz2
   subst hz1 hz2
   have HN:Hid (R=0):=hide (by rw [HR.out];simp)
   clear HR
   go_wp2
   go_ret
   exact ⟨by rw [HN.out];rfl,HB5.out.alloc (Nat.le_trans HB5.out.size (Nat.le_refl _)) _⟩
  ·have hd:decide (¬ (p.1=la∧p.2=o))=true:=decide_eq_true hz
   have HZ:=hide hz
   have HN:Hid (R=28):=hide (by rw [HR.out];exact if_neg (fun e=>HZ.out (by injection e with e;rw [e];exact ⟨rfl,rfl⟩)))
   clear HR
   go_wp2
   go_ret
   exact ⟨by rw [HN.out];rfl,HB5.out.alloc (Nat.le_trans HB5.out.size (Nat.le_refl _)) _⟩
end
end Go.Proofs.YtimgkhdgliojgaaGreatDoor
