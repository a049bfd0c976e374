import Derived.Test.YthgelfdefkbfeaaGreatDoorZu09
set_option maxRecDepth 8000
set_option maxHeartbeats 8000000
set_option linter.unusedVariables false
namespace Go.Proofs.YthgelfdefkbfeaaGreatDoor
open Go.RowKit Go.Lib
theorem sizeE:(Tryz.prog.info? 148).map (·.size)=some layN.z:=by kernel_rfl
theorem insE_end (v:Value) (L:List Ent) (x:Ent) (vb:Nat) (w:World) (h:Own layN 148 w 0 v L) (hv:w.heap[vb]?=some (.cells (layN.cs x).toArray 148 (0,0))) (hn:(L.length:Int)≤4000000) :
  Calls Tryz.prog 129 #[v,.int .i64 (L.length:Int),.slice (some ⟨vb,0,none⟩) 1 1] w fun r w'=>∃ v',r=.returned v'∧Own layN 148 w' 0 v' (L++[x])∧But (fun b=>v.ownBlock=some b) w w'∧(v'.ownBlock=v.ownBlock∨∃ b,v'.ownBlock=some b∧w.heap.size≤b):=by
 obtain ⟨i0,hi,hz0,hz1,hz2⟩:=info_parts Tryz.infoN
 obtain ⟨a,c,rfl,h0,hcn⟩:=own_form h
 have HR:=hide (TRow.one hv)
 have HO:=hide h
 have HH0:=hide h0
 have HN:=hide hn
 have hcI:(L.length:Int)≤(c:Int):=by omega
 clear h hv h0
 generalize hnl:L.length=n at *
 have HL:=hide hnl
 clear hnl
 cases a with
 | none =>
  obtain ⟨rfl,rfl⟩:=HH0.out rfl
  go_enter Tryz.func129,Tryz.ntmps129
  go_wp2_with (at_builtin;refine append_lay layN _ 149 148 i0 _ 16 Tryz.underlying149 hi hz0 hz1 hz2 rfl rfl _ _ rfl 0 _ L rfl HO.out _ 1 1 [x] rfl HR.out (fun e=>by cases e) ?b1 ?b2 (Nat.zero_le _) ?_)
  case b1=>unfold maxLen;have:=HL.out;omega
  case b2=>have:=HL.out;omega
  intro v' w' o1 g1 l1
  go_wp2
  go_ret
  exact ⟨v',rfl,o1,But.of_grown g1 (fun _ e=>e),l1.imp id fun e=>⟨_,e,Nat.le_refl _⟩⟩
 | some ad =>
  by_cases hcc:c=n
  ·subst hcc
   go_enter Tryz.func129,Tryz.ntmps129
   go_wp2_with (at_builtin;refine append_lay layN _ 149 148 i0 _ 16 Tryz.underlying149 hi hz0 hz1 hz2 rfl rfl _ _ rfl 0 _ L rfl HO.out _ 1 1 [x] rfl HR.out (fun e=>by cases e) ?b1 ?b2 (Nat.zero_le _) ?_)
   case b1=>unfold maxLen;have:=HL.out;have:=HN.out;omega
   case b2=>have:=HL.out;have:=HN.out;omega
   intro v' w' o1 g1 l1
   go_wp2
   go_ret
   exact ⟨v',rfl,o1,But.of_grown g1 (fun _ e=>e),l1.imp id fun e=>⟨_,e,Nat.le_refl _⟩⟩
  ·go_enter Tryz.func129,Tryz.ntmps129
   go_wp2_with (at_builtin;refine append_lay layN _ 149 148 i0 _ 16 Tryz.underlying149 hi hz0 hz1 hz2 rfl rfl _ _ rfl 0 _ L rfl HO.out _ 1 1 [x] rfl HR.out (fun e=>by cases e) ?b1 ?b2 (Nat.zero_le _) ?_)
   case b1=>unfold maxLen;have:=HL.out;have:=HN.out;omega
   case b2=>have:=HL.out;have:=HN.out;omega
   intro v' w' o1 g1 l1
   go_wp2
   go_ret
   exact ⟨v',rfl,o1,But.of_grown g1 (fun _ e=>e),l1.imp id fun e=>⟨_,e,Nat.le_refl _⟩⟩
theorem insE_room (g n c i:Nat) (L:List Ent) (x:Ent) (vb:Nat) (w:World) (h:Own layN 148 w 0 (.slice (some ⟨g,0,none⟩) n c) L) (hnl:L.length=n) (hi:i < n) (hroom:n+1≤c) (hv:w.heap[vb]?=some (.cells (layN.cs x).toArray 148 (0,0))) (hne:vb≠g) (hn:(n:Int)≤4000000) :
  Calls Tryz.prog 129 #[.slice (some ⟨g,0,none⟩) n c,.int .i64 (i:Int),.slice (some ⟨vb,0,none⟩) 1 1] w fun r w'=>r=.returned (.slice (some ⟨g,0,none⟩) (n+1) c)∧Own layN 148 w' 0 (.slice (some ⟨g,0,none⟩) (n+1) c) (L.take i++x :: L.drop i)∧But (fun b=>b=g) w w':=by
 obtain ⟨cur,hg,hsz,hfl,_,_,hmx⟩:=h.raw
 have hov:∀ lb cb,(callFunc 166 #[.slice (some ⟨vb,0,none⟩) 1 1,.slice (some ⟨g,(i+1) * 2,none⟩) lb cb]).run Tryz.prog w=.ok (.value (.bool false)) w:=fun lb cb=>by
  rw [run_callFunc_extern Tryz.func166 (by kernel_rfl) (by kernel_rfl) (by kernel_rfl) (e:=Extern.SlicesOverlaps.overlaps #[149,149] #[4]) (by kernel_rfl),
   Lib.run_overlaps_apart w 149 4 148 Tryz.underlying149 2 (fun w=>by kernel_rfl) ⟨vb,0,none⟩ ⟨g,(i+1) * 2,none⟩ 1 1 lb cb hne 148 148 (layN.cs x).toArray.size cur.size (by simp [World.shape?,hv]) (by simp [World.shape?,hg]) (by rw [hsz];show c * 2≠0;omega) (frz hv 0) (frz hv _)]
  rfl
 have hrow:=h.row hnl
 have hdn:TRow layN w (some ⟨g,i * 2,none⟩) (n - i) (L.drop i):=by have:=hrow.drop i (by omega);rw [Nat.zero_add] at this;exact this
 have hdl:(L.drop i).length=n - i:=by rw [List.length_drop,hnl]
 have hcp1:∀ ty dc sc,(Builtin.copy_ #[149,149] ty #[.slice (some ⟨g,(i+1) * 2,none⟩) (n - i) dc,.slice (some ⟨g,i * 2,none⟩) (n+1 - i) sc]).run Tryz.prog w.drew=  .ok (goInt ((n - i:Nat):Int)) (w.drew.setRow g (spl layN.z cur (i+1) (layN.fl (L.drop i)))):=fun ty dc sc =>
  run_copyR (w:=w.drew) layN 149 148 Tryz.underlying149 sizeE ty g cur 148 hg (i+1) _ dc _ _ sc (L.drop i) (n - i) (hdn.below ((Below.refl _ _).drew)) (by simp only [Nat.min_def];split <;> omega) (by omega) (by rw [hsz];show (i+1) * 2+(n - i) * 2≤c * 2;omega)
 obtain ⟨cur1,hcur1⟩:∃ cur1,cur1=spl layN.z cur (i+1) (layN.fl (L.drop i)):=⟨_,rfl⟩
 have hs1:cur1.size=c * layN.z:=by rw [hcur1,spl_size (by rw [layN.fl_len,hdl,hsz];show (i+1) * 2+(n - i) * 2≤c * 2;omega),hsz]
 obtain ⟨W1,hW1⟩:∃ W1,W1=w.drew.setRow g cur1:=⟨_,rfl⟩
 have hg1:W1.heap[g]?=some (.cells cur1 148 (0,0)):=by rw [hW1];exact setRow_heap w.drew g cur cur1 148 (0,0) hg
 have hb1:But (fun b=>b=g) w W1:=by
  rw [hW1]
  exact (But.refl (fun b=>b=g) w).drew.trans (T:=fun b=>b=g) ⟨rfl,rfl,rfl,by simp [World.setRow],fun q _ hq=>setRow_other w.drew g q _ hq⟩ (fun _ _ e=>e)
 have hv1:W1.heap[vb]?=some (.cells (layN.cs x).toArray 148 (0,0)):=(hb1.block vb (Array.getElem?_eq_some_iff.1 hv).1 hne).trans hv
 have hcp2:∀ ty dc,(Builtin.copy_ #[149,149] ty #[.slice (some ⟨g,i * 2,none⟩) (n+1 - i) dc,.slice (some ⟨vb,0,none⟩) 1 1]).run Tryz.prog W1=.ok (goInt ((1:Nat):Int)) (W1.setRow g (spl layN.z cur1 i (layN.fl [x]))):=fun ty dc =>
  run_copyR layN 149 148 Tryz.underlying149 sizeE ty g cur1 148 hg1 i _ dc _ _ 1 [x] 1 (TRow.one hv1) (by simp only [Nat.min_def];split <;> omega) (by omega) (by rw [hs1];show i * 2+1 * 2≤c * 2;omega)
 have hN:=spl_shift layN x hsz hfl (by omega:i < L.length) (by omega:L.length+1≤c)
 rw [← hcur1] at hN hcp1
 rw [← hW1] at hcp1
 have hLl:(L.take i++x :: L.drop i).length=n+1:=by rw [List.length_append,List.length_take,List.length_cons,hdl];omega
 rw [layN.fl_one] at hcp2
 have hOwn:Own layN 148 (W1.setRow g (spl layN.z cur1 i (layN.cs x))) 0 (.slice (some ⟨g,0,none⟩) (n+1) c) (L.take i++x :: L.drop i):=by
  have:=Own.of_raw (base:=0) (setRow_heap W1 g cur1 _ 148 (0,0) hg1) hN.1 hN.2 (by rw [hLl];exact hroom) (Nat.zero_le _) hmx
  rwa [hLl] at this
 have HOwn:=hide hOwn
 have HBut:Hid (But (fun b=>b=g) w (W1.setRow g (spl layN.z cur1 i (layN.cs x)))):=hide (hb1.trans (T:=fun b=>b=g) ⟨rfl,rfl,rfl,by simp [World.setRow],fun q _ hq=>setRow_other W1 g q _ hq⟩ (fun _ _ e=>e))
 have hiI:(i:Int) < n:=by omega
 have hcI:(n:Int)+1≤(c:Int):=by omega
 have hi63:(c:Int)≤9223372036854775807:=by unfold maxLen at hmx;omega
 have n1:¬ (c=i):=by omega
 have n2:¬ (c=i+1):=by omega
 have n3:¬ ((i:Int)=(n:Int)):=by omega
 have HCP1:=hide hcp1
 have HCP2:=hide hcp2
 clear hOwn hb1 hv1 hs1 hg1 hcur1 hN hcp1 hcp2 hrow hdn hdl hfl hsz hLl hmx h hv hg hnl hne hroom hW1
 have hw1:IntKind.i64.wrap ((i:Int)+1)=(i:Int)+1:=by rw [IntKind.wrap_i64];omega
 have hb1':(0:Int)≤(i:Int)+1:=by omega
 have htn:((i:Int)+1).toNat=i+1:=by omega
 have hb3:(i:Int)≤(n:Int):=by omega
 have hb4:(i:Int)≤(n:Int)+1:=by omega
 have hb5:(i:Int)+1≤(n:Int)+1:=by omega
 go_enter Tryz.func129,Tryz.ntmps129
 go_wp2_with (simp only [hov])
 go_region_law (refine step_copy_run rfl (.tmp 73) (.tmp 76) 149 149 rfl (.slice (some ⟨g,(i+1) * 2,none⟩) (n - i) (c - (i+1))) (.slice (some ⟨g,i * 2,none⟩) (n+1 - i) (c - i)) (by simp [Act.eval,Act.put]) (by simp [Act.eval,Act.put]) (HCP1.out _ _ _) ?_)
 go_wp2_with (refine wpList_copy_run rfl _ _ 149 149 rfl _ _ rfl rfl (HCP2.out _ _) ?_)
 go_ret
 exact ⟨rfl,HOwn.out,HBut.out⟩
theorem insE_grow (g n i : Nat) (L : List Ent) (x : Ent) (vb : Nat) (w : World) (h : Own layN 148 w 0 (.slice (some ⟨g, 0, none⟩) n n) L) (hnl : L.length = n) (hi : i < n) (hv : w.heap[vb]? = some (.cells (layN.cs x).toArray 148 (0, 0))) (hn : (n : Int) ≤ 4000000) :
    Calls Tryz.prog 129 #[.slice (some ⟨g, 0, none⟩) n n, .int .i64 (i : Int), .slice (some ⟨vb, 0, none⟩) 1 1] w fun r w' => ∃ G, r = .returned (.slice (some ⟨w.heap.size, 0, none⟩) (n + 1) G) ∧ Own layN 148 w' 0 (.slice (some ⟨w.heap.size, 0, none⟩) (n + 1) G) (L.take i ++ x :: L.drop i) ∧ Below w.heap.size w w' := by
  obtain ⟨i0, hi0, hz0, hz1, hz2⟩ := info_parts Tryz.infoN
  have hrow := h.row hnl
  have hgl : g < w.heap.size := (h.lt g rfl).2
  have hvl : vb < w.heap.size := (Array.getElem?_eq_some_iff.1 hv).1
  have hdn : TRow layN w (some ⟨g, i * 2, none⟩) (n - i) (L.drop i) := by have := hrow.drop i (by omega); rw [Nat.zero_add] at this; exact this
  have hdl : (L.drop i).length = n - i := by rw [List.length_drop, hnl]
  have htk : (L.take i).length = i := by rw [List.length_take]; omega
  have hold : (Builtin.firstCells i0.size i (.slice (some ⟨g, 0, none⟩) i n)).run Tryz.prog w.drew = .ok (layN.fl (L.take i)).toArray w.drew := by
    rw [hz1]
    exact run_firstCells_some w.drew 2 i ⟨g, 0, none⟩ i n (layN.fl (L.take i)) (by rw [layN.fl_len, htk]; rfl) ((hrow.cut i (by omega)).below ((Below.refl _ w).drew)).news
  have hik : i + (n + 1 - i) = n + 1 := by omega
  have hrz : ∀ ty, (Builtin.append_ #[149, 3] ty #[.slice (some ⟨g, 0, none⟩) i n, .int .i64 ((n : Int) + 1 - (i : Int))]).run Tryz.prog w =
      .ok (.slice (some ⟨w.heap.size, 0, none⟩) (n + 1) (grownCap w (n + 1) n 148)) (w.drew.alloc (.cells ((layN.fl (L.take i)).toArray ++ Builtin.zeroCells (.agg #[.int .u64 0, .int .u64 0] : Value).cells (n + 1 - i) ++ Builtin.zeroCells (.agg #[.int .u64 0, .int .u64 0] : Value).cells (grownCap w (n + 1) n 148 - (n + 1))) 148)) := fun ty => by
    have h9 := Lib.run_append_grow_zeros w 149 3 ty 148 i0 _ .i64 .i64 Tryz.underlying149 Tryz.underlying3 hi0 hz0 (some ⟨g, 0, none⟩) i n (layN.fl (L.take i)) hold (n + 1 - i) (by omega) (by omega) (by omega) (by omega) (by rw [hz2]; omega) (by rw [hz2, hik]; exact growslice_fits (by omega) (by omega))
    rw [hik] at h9
    rw [show (n : Int) + 1 - (i : Int) = ((n + 1 - i : Nat) : Int) by omega]
    exact h9
  obtain ⟨G, hG⟩ : ∃ G, G = grownCap w (n + 1) n 148 := ⟨_, rfl⟩
  have hGn : n + 1 ≤ G := by rw [hG]; exact grownCap_ge w _ _ _
  have hGm : G ≤ maxLen := by rw [hG]; exact grownCap_le_maxLen w (n + 1) n 148 (by unfold maxLen; omega)
  rw [← hG] at hrz
  obtain ⟨ROW, hROW⟩ : ∃ ROW : Array Value, ROW = (layN.fl (L.take i)).toArray ++ Builtin.zeroCells (.agg #[.int .u64 0, .int .u64 0] : Value).cells (n + 1 - i) ++ Builtin.zeroCells (.agg #[.int .u64 0, .int .u64 0] : Value).cells (G - (n + 1)) := ⟨_, rfl⟩
  rw [← hROW] at hrz
  have hRs : ROW.size = G * layN.z := by
    rw [hROW]
    simp only [Array.size_append, List.size_toArray, layN.fl_len, htk]
    show i * 2 + _ + _ = G * 2
    simp [Builtin.zeroCells, Value.cells]
    omega
  have hRt : ROW.toList.take (i * layN.z) = layN.fl (L.take i) := by
    rw [hROW, Array.toList_append, Array.toList_append, List.append_assoc]
    exact take_app _ _ _ (by show (layN.fl (L.take i)).length = _; rw [layN.fl_len, htk])
  obtain ⟨W1, hW1⟩ : ∃ W1, W1 = w.drew.alloc (.cells ROW 148) := ⟨_, rfl⟩
  rw [← hW1] at hrz
  have hb1 : Below w.heap.size w W1 := by rw [hW1]; exact ((Below.refl w.heap.size w).drew).alloc (Nat.le_refl _) _
  have hg1 : W1.heap[w.heap.size]? = some (.cells ROW 148 (0, 0)) := by rw [hW1]; exact heap_new w.drew _
  have hv1 : W1.heap[vb]? = some (.cells (layN.cs x).toArray 148 (0, 0)) := (hb1.block vb hvl).trans hv
  have hcp1 : ∀ ty dc, (Builtin.copy_ #[149, 149] ty #[.slice (some ⟨w.heap.size, i * 2, none⟩) (n + 1 - i) dc, .slice (some ⟨vb, 0, none⟩) 1 1]).run Tryz.prog W1 = .ok (goInt ((1 : Nat) : Int)) (W1.setRow w.heap.size (spl layN.z ROW i (layN.fl [x]))) := fun ty dc =>
    run_copyR (w := W1) layN 149 148 Tryz.underlying149 sizeE ty w.heap.size ROW 148 hg1 i _ dc _ _ 1 [x] 1 (TRow.one hv1) (by simp only [Nat.min_def]; split <;> omega) (by omega) (by rw [hRs]; show i * 2 + 1 * 2 ≤ G * 2; omega)
  rw [layN.fl_one] at hcp1
  obtain ⟨cur1, hcur1⟩ : ∃ cur1, cur1 = spl layN.z ROW i (layN.cs x) := ⟨_, rfl⟩
  have hs1 : cur1.size = G * layN.z := by rw [hcur1, spl_size (by rw [layN.len, hRs]; show i * 2 + 2 ≤ G * 2; omega), hRs]
  rw [← hcur1] at hcp1
  obtain ⟨W2, hW2⟩ : ∃ W2, W2 = W1.setRow w.heap.size cur1 := ⟨_, rfl⟩
  rw [← hW2] at hcp1
  have hg2 : W2.heap[w.heap.size]? = some (.cells cur1 148 (0, 0)) := by rw [hW2]; exact setRow_heap W1 w.heap.size ROW cur1 148 (0, 0) hg1
  have hb2 : Below w.heap.size w W2 := by rw [hW2]; exact hb1.trans ⟨rfl, rfl, rfl, by simp [World.setRow], fun q hq => setRow_other W1 w.heap.size q _ (by omega)⟩
  have hcp2 : ∀ ty dc sc, (Builtin.copy_ #[149, 149] ty #[.slice (some ⟨w.heap.size, (i + 1) * 2, none⟩) (n - i) dc, .slice (some ⟨g, i * 2, none⟩) (n - i) sc]).run Tryz.prog W2.drew = .ok (goInt ((n - i : Nat) : Int)) (W2.drew.setRow w.heap.size (spl layN.z cur1 (i + 1) (layN.fl (L.drop i)))) := fun ty dc sc =>
    run_copyR (w := W2.drew) layN 149 148 Tryz.underlying149 sizeE ty w.heap.size cur1 148 hg2 (i + 1) _ dc _ _ sc (L.drop i) (n - i) (hdn.below hb2.drew) (by simp only [Nat.min_def]; split <;> omega) (by omega) (by rw [hs1]; show (i + 1) * 2 + (n - i) * 2 ≤ G * 2; omega)
  have hN := spl_new layN (L := L) x hRs hRt (by omega : i < L.length) (by omega : L.length + 1 ≤ G)
  rw [← hcur1] at hN
  have hLl : (L.take i ++ x :: L.drop i).length = n + 1 := by rw [List.length_append, htk, List.length_cons, hdl]; omega
  have hOwn : Own layN 148 (W2.drew.setRow w.heap.size (spl layN.z cur1 (i + 1) (layN.fl (L.drop i)))) 0 (.slice (some ⟨w.heap.size, 0, none⟩) (n + 1) G) (L.take i ++ x :: L.drop i) := by
    have := Own.of_raw (base := 0) (setRow_heap W2.drew w.heap.size cur1 _ 148 (0, 0) hg2) hN.1 hN.2 (by rw [hLl]; exact hGn) (Nat.zero_le _) hGm
    rwa [hLl] at this
  have HOwn := hide hOwn
  have HBel : Hid (Below w.heap.size w (W2.drew.setRow w.heap.size (spl layN.z cur1 (i + 1) (layN.fl (L.drop i))))) := hide (hb2.drew.trans ⟨rfl, rfl, rfl, by simp [World.setRow], fun q hq => setRow_other W2.drew w.heap.size q _ (by omega)⟩)
  have hiI : (i : Int) < n := by omega
  have hcI : (n : Int) + 1 ≤ (G : Int) := by omega
  have hi63 : (G : Int) ≤ 9223372036854775807 := by unfold maxLen at hGm; omega
  have n1 : ¬ (G = i) := by omega
  have n2 : ¬ (G = i + 1) := by omega
  have n3 : ¬ ((i : Int) = (n : Int)) := by omega
  have n4 : ¬ (n = i) := by omega
  have HCP1 := hide hcp1
  have HCP2 := hide hcp2
  have HRZ := hide hrz
  clear hOwn hb1 hv1 hs1 hg1 hcur1 hN hcp1 hcp2 hrow hdn hdl hLl hGm h hv hnl hW1 hW2 hb2 hg2 hRs hRt hROW hG hrz hold hik htk hGn hvl hgl
  have hw1 : IntKind.i64.wrap ((i : Int) + 1) = (i : Int) + 1 := by rw [IntKind.wrap_i64]; omega
  have hb1' : (0 : Int) ≤ (i : Int) + 1 := by omega
  have htn : ((i : Int) + 1).toNat = i + 1 := by omega
  have hb3 : (i : Int) ≤ (n : Int) := by omega
  have hb4 : (i : Int) ≤ (n : Int) + 1 := by omega
  have hb5 : (i : Int) + 1 ≤ (n : Int) + 1 := by omega
  go_enter Tryz.func129, Tryz.ntmps129
  go_wp2_with (first
    | (at_builtin; refine Lib.wpList_append_run _ rfl _ _ _ _ rfl _ _ rfl rfl _ _ (HRZ.out _) ?_)
    | (refine wpList_copy_run rfl _ _ 149 149 rfl _ _ rfl rfl (HCP1.out _ _) ?_))
  go_region_law (refine step_copy_run rfl (.tmp 50) (.tmp 53) 149 149 rfl (.slice (some ⟨w.heap.size, (i + 1) * 2, none⟩) (n - i) (G - (i + 1))) (.slice (some ⟨g, i * 2, none⟩) (n - i) (n - i)) (by simp [Act.eval, Act.put]) (by simp [Act.eval, Act.put]) (HCP2.out _ _ _) ?_)
  go_wp2
  go_ret
  exact ⟨_, rfl, HOwn.out, HBel.out⟩
theorem insE_any (v:Value) (L:List Ent) (i:Nat) (x:Ent) (vb:Nat) (w:World) (h:Own layN 148 w 0 v L) (hi:i≤L.length) (hv:w.heap[vb]?=some (.cells (layN.cs x).toArray 148 (0,0))) (hne:v.ownBlock≠some vb) (hn:(L.length:Int)≤4000000) :
  Calls Tryz.prog 129 #[v,.int .i64 (i:Int),.slice (some ⟨vb,0,none⟩) 1 1] w fun r w'=>∃ v',r=.returned v'∧Own layN 148 w' 0 v' (L.take i++x :: L.drop i)∧But (fun b=>v.ownBlock=some b) w w'∧(v'.ownBlock=v.ownBlock∨∃ b,v'.ownBlock=some b∧w.heap.size≤b):=by
 by_cases he:i=L.length
 ·subst he
  rw [List.take_length,List.drop_length]
  exact insE_end v L x vb w h hv hn
 ·obtain ⟨g,c,rfl,_,hg,hc⟩:=h.frm (by omega)
  by_cases hroom:L.length+1≤c
  ·refine (insE_room g L.length c i L x vb w h rfl (by omega) hroom hv (fun e=>hne (by rw [e];rfl)) hn).mono ?_
   rintro r w' ⟨rfl,o,b⟩
   exact ⟨_,rfl,o,b.mono (fun k e=>by rw [e];rfl),.inl rfl⟩
  ·obtain rfl:c=L.length:=by omega
   refine (insE_grow g L.length i L x vb w h rfl (by omega) hv hn).mono ?_
   rintro r w' ⟨G,rfl,o,b⟩
   exact ⟨_,rfl,o,But.of_below b,.inr ⟨_,rfl,Nat.le_refl _⟩⟩
end Go.Proofs.YthgelfdefkbfeaaGreatDoor
namespace Go.Proofs.YthgelfdefkbfeaaGreatDoor
open Go.RowKit Go.Lib
theorem zeroVE (w:World):(zeroValue 148).run Tryz.prog w=.ok (.agg #[.int .u64 0,.int .u64 0]) w:=by kernel_rfl
theorem delE_mid (g n c i:Nat) (L:List Ent) (w:World) (h:Own layN 148 w 0 (.slice (some ⟨g,0,none⟩) n c) L) (hnl:L.length=n) (hi:i < n) (hcc:¬ c=i+1) (hn:(n:Int)≤4000000) :
  Calls Tryz.prog 170 #[.slice (some ⟨g,0,none⟩) n c,.int .i64 (i:Int),.int .i64 ((i:Int)+1)] w fun r w'=>r=.returned (.slice (some ⟨g,0,none⟩) (n - 1) c)∧Own layN 148 w' 0 (.slice (some ⟨g,0,none⟩) (n - 1) c) (L.take i++L.drop (i+1))∧But (fun b=>b=g) w w':=by
 obtain ⟨i0,hi0,hz0,hz1,hz2⟩:=info_parts Tryz.infoN
 have hcn:n≤c:=by obtain ⟨_,_,_,_,hc,_⟩:=h.raw;omega
 have hmx:c≤maxLen:=by obtain ⟨_,_,_,_,_,_,hc⟩:=h.raw;exact hc
 have hrow:=h.row hnl
 have hcut:Own layN 148 w 0 (.slice (some ⟨g,0,none⟩) i c) (L.take i):=h.cut hnl (by omega)
 have htk:(L.take i).length=i:=by rw [List.length_take];omega
 have hdl:(L.drop (i+1)).length=n - (i+1):=by rw [List.length_drop,hnl]
 have hdn:TRow layN w (some ⟨g,(i+1) * 2,none⟩) (n - (i+1)) (L.drop (i+1)):=by have:=hrow.drop (i+1) (by omega);rw [Nat.zero_add] at this;exact this
 have hcut9:w.drew.ownsRow 0 148 2 (.slice (some ⟨g,0,none⟩) i c) i (layN.fl (L.take i)):=by
  have h9:w.ownsRow 0 148 layN.z (.slice (some ⟨g,0,none⟩) i c) (L.take i).length (layN.fl (L.take i)):=hcut
  rw [htk] at h9
  exact h9
 obtain ⟨W1,hrun,hown,hgr⟩:=run_append_fits (P:=Tryz.prog) w.drew 0 149 149 148 i0 2 Tryz.underlying149 hi0 hz1 g i c (layN.fl (L.take i)) hcut9 ⟨g,(i+1) * 2,none⟩ (n - (i+1)) (c - (i+1)) (layN.fl (L.drop (i+1))) (by rw [layN.fl_len,hdl];rfl) (hdn.below ((Below.refl _ w).drew)).news (layN.fl_cell _) (by omega)
 have hsum:i+(n - (i+1))=n - 1:=by omega
 rw [hsum] at hrun hown
 rw [← layN.fl_app] at hown
 have hLl:(L.take i++L.drop (i+1)).length=n - 1:=by rw [List.length_append,htk,hdl];omega
 have hown2:Own layN 148 W1 0 (.slice (some ⟨g,0,none⟩) (n - 1) c) (L.take i++L.drop (i+1)):=by
  unfold Own;rw [hLl];exact hown
 obtain ⟨cur,hg,hsz,hfl,_,_,_⟩:=hown2.raw
 have hcl:∀ ty cc,(Builtin.clear_ #[149] ty #[.slice (some ⟨g,(n - 1) * 2,none⟩) 1 cc]).run Tryz.prog W1=.ok (.tuple #[]) (W1.setRow g (spl layN.z cur (n - 1) (layN.cs (0,0)))):=fun ty cc =>
  run_clearR layN 149 148 Tryz.underlying149 _ zeroVE (0,0) (by simp [Builtin.zeroCells,Value.cells,layN];rfl) ty g cur 148 hg (n - 1) cc (by rw [hsz];show (n - 1) * 2+2≤c * 2;omega)
 have hb1:But (fun b=>b=g) w W1:=(But.refl (fun b=>b=g) w).drew.grown hgr (fun k _ e=>by injection e with e;exact e.symm)
 have hOwn:Own layN 148 (W1.setRow g (spl layN.z cur (n - 1) (layN.cs (0,0)))) 0 (.slice (some ⟨g,0,none⟩) (n - 1) c) (L.take i++L.drop (i+1)):=by
  have h9:=Own.of_raw (y:=layN) (L:=L.take i++L.drop (i+1)) (base:=0) (c:=c) (setRow_heap W1 g cur (spl layN.z cur (n - 1) (layN.cs (0,0))) 148 (0,0) hg) (by rw [spl_size (by rw [layN.len,hsz];show (n - 1) * 2+2≤c * 2;omega),hsz])
   (by rw [hLl,spl_take (by rw [hsz];show (n - 1) * 2≤c * 2;omega),← hLl];exact hfl) (by rw [hLl];omega) (Nat.zero_le _) hmx
  rwa [hLl] at h9
 have hBut:But (fun b=>b=g) w (W1.setRow g (spl layN.z cur (n - 1) (layN.cs (0,0)))):=(hb1.trans (T:=fun b=>b=g) ⟨rfl,rfl,rfl,by simp [World.setRow],fun q _ hq=>setRow_other W1 g q _ hq⟩ (fun _ _ e=>e))
 have hiI:(i:Int) < n:=by omega
 have hcI:(n:Int)≤(c:Int):=by omega
 have hi63:(c:Int)≤9223372036854775807:=by unfold maxLen at hmx;omega
 have n1:¬ (c=i):=by omega
 have n3:¬ ((i:Int)=(i:Int)+1):=by omega
 have n5:¬ (c=n - 1):=by omega
 have n7:((i:Int) == (i:Int)+1)=false:=by rw [beq_eq_false_iff_ne];omega
 have hw1:IntKind.i64.wrap ((i:Int)+1)=(i:Int)+1:=by rw [IntKind.wrap_i64];omega
 have hb1':(0:Int)≤(i:Int)+1:=by omega
 have htn:((i:Int)+1).toNat=i+1:=by omega
 have hb3:(i:Int)≤(n:Int):=by omega
 have hb5:(i:Int)+1≤(n:Int):=by omega
 have hb6:(i:Int)≤(c:Int):=by omega
 have hm1:n - (n - 1)=1:=by omega
 have hm2:n - 1≤n:=by omega
 have HCL:=hide hcl
 have HOwn:=hide hOwn
 have HBut:=hide hBut
 have HRUN:=hide hrun
 clear hOwn hBut hb1 hcl hrow hdn hdl hfl hsz hLl hmx h hnl hcut htk hcut9 hown hown2 hgr hg hrun hsum
 go_enter Tryz.func170,Tryz.ntmps170
 go_wp2_with fail
 go_region_law (refine step_append_run rfl (.tmp 22) (.tmp 25) 149 149 rfl (.slice (some ⟨g,0,none⟩) i c) (.slice (some ⟨g,(i+1) * 2,none⟩) (n - (i+1)) (c - (i+1))) (by simp [Act.eval,Act.put]) (by simp [Act.eval,Act.put]) HRUN.out ?_)
 go_wp2_with (refine wpList_clear_run rfl _ 149 rfl _ rfl (HCL.out _ _) ?_)
 go_ret
 exact ⟨rfl,HOwn.out,HBut.out⟩
theorem delE_end (g n c i:Nat) (L:List Ent) (w:World) (h:Own layN 148 w 0 (.slice (some ⟨g,0,none⟩) n c) L) (hnl:L.length=n) (hi:i < n) (hcc:c=i+1) (hn:(n:Int)≤4000000) :
  Calls Tryz.prog 170 #[.slice (some ⟨g,0,none⟩) n c,.int .i64 (i:Int),.int .i64 ((i:Int)+1)] w fun r w'=>r=.returned (.slice (some ⟨g,0,none⟩) (n - 1) c)∧Own layN 148 w' 0 (.slice (some ⟨g,0,none⟩) (n - 1) c) (L.take i++L.drop (i+1))∧But (fun b=>b=g) w w':=by
 obtain ⟨i0,hi0,hz0,hz1,hz2⟩:=info_parts Tryz.infoN
 have hcn:n≤c:=by obtain ⟨_,_,_,_,hc,_⟩:=h.raw;omega
 have hmx:c≤maxLen:=by obtain ⟨_,_,_,_,_,_,hc⟩:=h.raw;exact hc
 have hrow:=h.row hnl
 have hcut:Own layN 148 w 0 (.slice (some ⟨g,0,none⟩) i c) (L.take i):=h.cut hnl (by omega)
 have htk:(L.take i).length=i:=by rw [List.length_take];omega
 have hdl:(L.drop (i+1)).length=n - (i+1):=by rw [List.length_drop,hnl]
 have hdn:TRow layN w (some ⟨g,0,none⟩) (n - (i+1)) (L.drop (i+1)):=⟨hdl,.inl (by omega)⟩
 have hcut9:w.drew.ownsRow 0 148 2 (.slice (some ⟨g,0,none⟩) i c) i (layN.fl (L.take i)):=by
  have h9:w.ownsRow 0 148 layN.z (.slice (some ⟨g,0,none⟩) i c) (L.take i).length (layN.fl (L.take i)):=hcut
  rw [htk] at h9
  exact h9
 obtain ⟨W1,hrun,hown,hgr⟩:=run_append_fits (P:=Tryz.prog) w.drew 0 149 149 148 i0 2 Tryz.underlying149 hi0 hz1 g i c (layN.fl (L.take i)) hcut9 ⟨g,0,none⟩ (n - (i+1)) (c - (i+1)) (layN.fl (L.drop (i+1))) (by rw [layN.fl_len,hdl];rfl) (hdn.below ((Below.refl _ w).drew)).news (layN.fl_cell _) (by omega)
 have hsum:i+(n - (i+1))=n - 1:=by omega
 rw [hsum] at hrun hown
 rw [← layN.fl_app] at hown
 have hLl:(L.take i++L.drop (i+1)).length=n - 1:=by rw [List.length_append,htk,hdl];omega
 have hown2:Own layN 148 W1 0 (.slice (some ⟨g,0,none⟩) (n - 1) c) (L.take i++L.drop (i+1)):=by
  unfold Own;rw [hLl];exact hown
 obtain ⟨cur,hg,hsz,hfl,_,_,_⟩:=hown2.raw
 have hcl:∀ ty cc,(Builtin.clear_ #[149] ty #[.slice (some ⟨g,(n - 1) * 2,none⟩) 1 cc]).run Tryz.prog W1=.ok (.tuple #[]) (W1.setRow g (spl layN.z cur (n - 1) (layN.cs (0,0)))):=fun ty cc =>
  run_clearR layN 149 148 Tryz.underlying149 _ zeroVE (0,0) (by simp [Builtin.zeroCells,Value.cells,layN];rfl) ty g cur 148 hg (n - 1) cc (by rw [hsz];show (n - 1) * 2+2≤c * 2;omega)
 have hb1:But (fun b=>b=g) w W1:=(But.refl (fun b=>b=g) w).drew.grown hgr (fun k _ e=>by injection e with e;exact e.symm)
 have hOwn:Own layN 148 (W1.setRow g (spl layN.z cur (n - 1) (layN.cs (0,0)))) 0 (.slice (some ⟨g,0,none⟩) (n - 1) c) (L.take i++L.drop (i+1)):=by
  have h9:=Own.of_raw (y:=layN) (L:=L.take i++L.drop (i+1)) (base:=0) (c:=c) (setRow_heap W1 g cur (spl layN.z cur (n - 1) (layN.cs (0,0))) 148 (0,0) hg) (by rw [spl_size (by rw [layN.len,hsz];show (n - 1) * 2+2≤c * 2;omega),hsz])
   (by rw [hLl,spl_take (by rw [hsz];show (n - 1) * 2≤c * 2;omega),← hLl];exact hfl) (by rw [hLl];omega) (Nat.zero_le _) hmx
  rwa [hLl] at h9
 have hBut:But (fun b=>b=g) w (W1.setRow g (spl layN.z cur (n - 1) (layN.cs (0,0)))):=(hb1.trans (T:=fun b=>b=g) ⟨rfl,rfl,rfl,by simp [World.setRow],fun q _ hq=>setRow_other W1 g q _ hq⟩ (fun _ _ e=>e))
 have hiI:(i:Int) < n:=by omega
 have hcI:(n:Int)≤(c:Int):=by omega
 have hi63:(c:Int)≤9223372036854775807:=by unfold maxLen at hmx;omega
 have n1:¬ (c=i):=by omega
 have n3:¬ ((i:Int)=(i:Int)+1):=by omega
 have n5:¬ (c=n - 1):=by omega
 have n7:((i:Int) == (i:Int)+1)=false:=by rw [beq_eq_false_iff_ne];omega
 have hw1:IntKind.i64.wrap ((i:Int)+1)=(i:Int)+1:=by rw [IntKind.wrap_i64];omega
 have hb1':(0:Int)≤(i:Int)+1:=by omega
 have htn:((i:Int)+1).toNat=i+1:=by omega
 have hb3:(i:Int)≤(n:Int):=by omega
 have hb5:(i:Int)+1≤(n:Int):=by omega
 have hb6:(i:Int)≤(c:Int):=by omega
 have hm1:n - (n - 1)=1:=by omega
 have hm2:n - 1≤n:=by omega
 obtain rfl:n=i+1:=by omega
 subst hcc
 simp only [Nat.sub_self,Nat.add_sub_cancel] at hrun hcl hOwn hBut ⊢
 clear n5 hm1 hm2 n7 hcI hiI n1
 have n5:¬ (i+1=i):=by omega
 have n6:(i:Int)≤(i:Int)+1:=by omega
 have n7:((i:Int) == (i:Int)+1)=false:=by rw [beq_eq_false_iff_ne];omega
 have HCL:=hide hcl
 have HOwn:=hide hOwn
 have HBut:=hide hBut
 have HRUN:=hide hrun
 clear hOwn hBut hb1 hcl hrow hdn hdl hfl hsz hLl hmx h hnl hcut htk hcut9 hown hown2 hgr hg hrun hsum
 go_enter Tryz.func170,Tryz.ntmps170
 go_wp2_with fail
 go_region_law (refine step_append_run rfl (.tmp 22) (.tmp 25) 149 149 rfl (.slice (some ⟨g,0,none⟩) i (i+1)) (.slice (some ⟨g,0,none⟩) 0 0) (by simp [Act.eval,Act.put]) (by simp [Act.eval,Act.put]) HRUN.out ?_)
 go_wp2_with (refine wpList_clear_run rfl _ 149 rfl _ rfl (HCL.out _ _) ?_)
 go_ret
 exact ⟨rfl,HOwn.out,HBut.out⟩
theorem delE_any (v:Value) (L:List Ent) (i:Nat) (w:World) (h:Own layN 148 w 0 v L) (hi:i < L.length) (hn:(L.length:Int)≤4000000) :
  Calls Tryz.prog 170 #[v,.int .i64 (i:Int),.int .i64 ((i:Int)+1)] w fun r w'=>∃ v',r=.returned v'∧Own layN 148 w' 0 v' (L.take i++L.drop (i+1))∧But (fun b=>v.ownBlock=some b) w w'∧v'.ownBlock=v.ownBlock:=by
 obtain ⟨g,c,rfl,_,hg,hc⟩:=h.frm (by omega)
 by_cases hcc:c=i+1
 ·refine (delE_end g L.length c i L w h rfl hi hcc hn).mono ?_
  rintro r w' ⟨rfl,o,b⟩
  exact ⟨_,rfl,o,b.mono (fun k e=>by rw [e];rfl),rfl⟩
 ·refine (delE_mid g L.length c i L w h rfl hi hcc hn).mono ?_
  rintro r w' ⟨rfl,o,b⟩
  exact ⟨_,rfl,o,b.mono (fun k e=>by rw [e];rfl),rfl⟩
end Go.Proofs.YthgelfdefkbfeaaGreatDoor
