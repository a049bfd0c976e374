/-
  The document's Next.
-/
import Derived.Test.YtdlpffbeladgaaaMgH
namespace Go.Proofs.Ytdlpffbeladgaaa
open Go.RowKit
theorem results_ctt {P : Program} {fn : Func} {p t u : Tmp} {ty : TypeId} (h : fn.results = #[.cell p ty, .tmp t, .tmp u]) (tmps : Array Value) (w : World) (g : Nat) (ty' : TypeId) (cs : Array Value) (fr : Nat × Nat) (d : TypeDesc) (v1 v2 : Value)
    (hp : tmps.getD p undef = .pointer (some ⟨g, 0, none⟩)) (hg : w.heap[g]? = some (.cells cs ty' fr))
    (hu : P.underlying ty = some d) (hd : (match d with | .struct _ | .array _ _ => true | _ => false) = true) (hi : (P.info? ty).map (·.size) = some cs.size)
    (hp1 : tmps.getD t undef = v1) (hp2 : tmps.getD u undef = v2) :
    (results fn tmps).run P w = .ok (.tuple #[.agg cs, v1, v2]) w := by
  have hp' : tmps[p]?.getD undef = .pointer (some ⟨g, 0, none⟩) := by simpa using hp
  have hp1' : tmps[t]?.getD undef = v1 := by simpa using hp1
  have hp2' : tmps[u]?.getD undef = v2 := by simpa using hp2
  simp [results, h, hp', hp1', hp2', asAddr, run_loadVar_row w g ty' ty cs fr d hg hu hd hi]
theorem Rowz.but {S : Nat → Prop} {w w' : World} {base : Nat} {v : Value} {rws : List Rw} {Gs : List (Int × List Rc)} (h : Rowz w base v rws Gs) (hb : But S w w') (hS : ∀ q cur T, w.heap[q]? = some (.cells cur T (0, 0)) → (T = 38 ∨ T = 41) → ¬ S q) : Rowz w' base v rws Gs :=
  ⟨h.own.but hb (fun q hq e => by obtain ⟨cur, hc⟩ := own_ty h.own hq; exact hS q cur _ hc (.inl rfl) e), h.len, fun k rw G h1 h2 => ⟨(h.each k rw G h1 h2).1, (h.each k rw G h1 h2).2.but hb (fun q hq e => by obtain ⟨cur, hc⟩ := own_ty (h.each k rw G h1 h2).2 hq; exact hS q cur _ hc (.inr rfl) e)⟩, h.one⟩
theorem Own.setN {w : World} {base g n c k : Nat} {L : List Int} (h : Own layN 3 w base (.slice (some ⟨g, 0, none⟩) n c) L) (hn : L.length = n) (hk : k < L.length) (a : Int) : Own layN 3 (w.setCell ⟨g, k, none⟩ (.int .i64 a)) base (.slice (some ⟨g, 0, none⟩) n c) (L.set k a) := by
  have h1 := h.set hn hk a
  simpa [layN, setC] using h1
/-- The document's merger, a block of another's turned. -/
theorem RMg.butE {w w' : World} {base p B : Nat} {vr va : Value} {Gs : List (Int × List Rc)} {As : List Nat} {nx : Int} (h : RMg w base p vr va Gs As nx) (hb : But (fun q => q = B) w w') (hp : p ≠ B) (hB : ∃ cs, w.heap[B]? = some (.cells cs 46 (0, 0))) : RMg w' base p vr va Gs As nx := by
  obtain ⟨cs, hc⟩ := hB
  obtain ⟨rws, hz⟩ := h.rows
  refine ⟨(hb.block p (get_lt' h.blk) hp).trans h.blk, ⟨rws, hz.but hb (fun q cur T h1 h2 e => ?_)⟩, h.ats.but hb (fun q hq e => ?_), h.len, h.most, h.ge⟩
  · have e9 : q = B := e
    rw [e9, hc] at h1
    cases h1
    rcases h2 with h2 | h2 <;> exact absurd h2 (by decide)
  · obtain ⟨cur, hcu⟩ := own_ty h.ats hq
    have e9 : q = B := e
    rw [e9, hc] at hcu
    cases hcu
theorem drop_split {L : List Rc} {n : Nat} {r : Rc} (h : L[n]? = some r) : L.drop n = r :: L.drop (n + 1) := by
  have hl := get_lt h
  rw [List.getElem?_eq_getElem hl] at h
  rw [List.drop_eq_getElem_cons hl, Option.some.inj h]
set_option maxRecDepth 8000 in
set_option maxHeartbeats 12800000 in
theorem rnext_any {w : World} {base p : Nat} {vr va : Value} {Gs : List (Int × List Rc)} {As : List Nat} {nx : Int} (h : RMg w base p vr va Gs As nx) (hst : ∀ G ∈ Gs, Rising G.2 ∧ G.2.length ≤ 1048576) (hg : (Gs.length : Int) ≤ 65536) (hx0 : 0 ≤ nx) (hx1 : nx ≤ 1048576) :
    Calls Try.prog 17 #[.pointer (some ⟨p, 0, none⟩)] w fun r w' => (∃ (k n : Nat) (G : Int × List Rc) (x : Rc), Gs[k]? = some G ∧ As[k]? = some n ∧ Pick (leftR Gs As) k x (G.2.drop (n + 1)) ∧ x.stamp = nx ∧ r = .returned (.tuple #[.agg #[.int .i64 G.1, .int .i64 x.kind, .int .u64 x.obj, .int .u64 x.arg, .slice none 0 0], .int .i64 x.stack, .int .i64 0]) ∧ RMg w' base p vr va Gs (As.set k (n + 1)) (nx + 1) ∧ But (fun q => q = p ∨ va.ownBlock = some q) w w')
      ∨ (∃ f, f ≠ 0 ∧ Flt (leftR Gs As) nx f ∧ r = .returned (.tuple #[.agg #[.int .i64 0, .int .i64 0, .int .u64 0, .int .u64 0, .slice none 0 0], .int .i64 0, .int .i64 f]) ∧ Below w.heap.size w w') := by
  obtain ⟨rws, hz⟩ := h.rows
  obtain ⟨a1, c1, hv1, -⟩ := hz.form
  obtain ⟨a2, c2, hv2, -, -⟩ := own_form h.ats
  rw [List.length_map, h.len] at hv2
  obtain ⟨N, hN⟩ : ∃ N, N = Gs.length := ⟨_, rfl⟩
  rw [← hN] at hv1 hv2 hg
  subst hv1; subst hv2
  have x0 : w.cell? ⟨p, 0, none⟩ = some (.slice a1 N c1) := cell_at h.blk rfl
  have x1 : w.cell? ⟨p, 1, none⟩ = some (.slice a2 N c2) := cell_at h.blk rfl
  have x2 : w.cell? ⟨p, 2, none⟩ = some (.int .i64 nx) := cell_at h.blk rfl
  have hp : p < w.heap.size := (Array.getElem?_eq_some_iff.1 h.blk).1
  have HX : Hid (∀ X, Below w.heap.size w X → X.cell? ⟨p, 0, none⟩ = some (.slice a1 N c1) ∧ X.cell? ⟨p, 1, none⟩ = some (.slice a2 N c2) ∧ X.cell? ⟨p, 2, none⟩ = some (.int .i64 nx)) := hide (fun X hX => ⟨(hX.cell (p := ⟨p, 0, none⟩) hp).trans x0, (hX.cell (p := ⟨p, 1, none⟩) hp).trans x1, (hX.cell (p := ⟨p, 2, none⟩) hp).trans x2⟩)
  have HZ : Hid (Rdz w a1 N rws Gs) := hide (hz.reads (by rw [hz.len, hN]))
  have HA : Hid (TRow layN w a2 N (As.map fun k : Nat => (k : Int))) := hide (h.ats.row (by rw [List.length_map, h.len, hN]))
  have HR : Hid _ := hide h
  have HRL : Hid (rws.length = N) := hide (by rw [hz.len, hN])
  have HGL : Hid _ := hide hN
  have HST : Hid _ := hide hst
  obtain ⟨Ls, hLs⟩ : ∃ Ls, Ls = leftR Gs As := ⟨_, rfl⟩
  have HLs : Hid _ := hide hLs
  rw [← hLs]
  clear hz h hN x0 x1 x2 hst hLs
  obtain ⟨w2, hw2⟩ : ∃ w2, w2 = (w.alloc (.cells #[.int .i64 0, .int .i64 0, .int .u64 0, .int .u64 0, .slice none 0 0] 46)).alloc (.cells #[.int .i64 0, .int .i64 0, .int .u64 0, .int .u64 0, .slice none 0 0] 46) := ⟨_, rfl⟩
  have b2 : Below w.heap.size w w2 := by rw [hw2]; exact below_alloc2 _ _ _
  have s2 : w2.heap.size = w.heap.size + 2 := by rw [hw2]; simp
  have HB2 : Hid _ := hide b2
  have HS2 : Hid _ := hide s2
  have HW2 : Hid _ := hide hw2
  clear b2 s2 hw2
  go_enter Try.func17, Try.ntmps17
  go_wp2_with fail
  rw [← HW2.out]
  go_loopw [6, 7, 8] (fun bs lv i wr => ∃ (k : Nat) (b l : Int), bs = .int .i64 b ∧ lv = .int .i64 l ∧ i = .int .i64 k ∧ k ≤ N ∧ -1 ≤ b ∧ b < (N : Int) ∧ Hid (Bst Ls k b l) ∧ Hid (Below w2.heap.size w2 wr)) (fun _ _ i _ => N - numV i)
  case atStart => exact ⟨0, -1, 1048576, rfl, rfl, rfl, Nat.zero_le _, by omega, by omega, hide (Bst.zero _), hide (Below.refl _ _)⟩
  case round =>
    obtain ⟨k, b, l, rfl, rfl, rfl, hk, hb0, hb1, HBS, HB⟩ := hrel
    have HBw : Hid (Below w.heap.size w wr) := hide (HB2.out.trans (HB.out.mono HB2.out.size))
    obtain ⟨x0, x1, x2⟩ := HX.out _ HBw.out
    by_cases hlt : k < N
    · have hltI : (k : Int) < (N : Int) := by omega
      obtain ⟨q, hq⟩ : ∃ r, rws[k]? = some r := ⟨_, List.getElem?_eq_getElem (by rw [HRL.out]; exact hlt)⟩
      obtain ⟨G, hG⟩ : ∃ r, Gs[k]? = some r := ⟨_, List.getElem?_eq_getElem (by rw [← HGL.out]; exact hlt)⟩
      obtain ⟨n, hn⟩ : ∃ r, As[k]? = some r := ⟨_, List.getElem?_eq_getElem (by rw [HR.out.len, ← HGL.out]; exact hlt)⟩
      have A1 := HZ.out.below HBw.out
      obtain ⟨b1, o1, rfl, _, hc1⟩ := A1.row.at (by omega)
      obtain ⟨b2, o2, rfl, _, hc2⟩ := (HA.out.below HBw.out).at (by omega)
      obtain ⟨-, pr, -, -⟩ := A1.each k q G hq hG
      have y1 := hc1 k q hq 1 _ rfl
      have y2 := hc2 k (n : Int) (by rw [List.getElem?_map, hn]; rfl) 0 _ rfl
      have hmo := HR.out.most k n G hn hG
      obtain ⟨hri, hGl⟩ := HST.out G (List.mem_of_getElem? hG)
      have hLk := leftR_at hG hn
      rw [← HLs.out] at hLk
      obtain ⟨q0, pa, pn, pc⟩ := q
      dsimp only at pr
      have hpl := pr.len
      rw [hpl] at hGl hmo
      simp only [layW, layN, Nat.add_zero, Nat.mul_one] at y1 y2
      have hpI : (pn : Int) ≤ 1048576 := by omega
      by_cases hnp : n < pn
      · obtain ⟨x, hx⟩ : ∃ x, G.2[n]? = some x := ⟨_, List.getElem?_eq_getElem (by rw [hpl]; exact hnp)⟩
        obtain ⟨d1, f1, rfl, _, hc3⟩ := pr.at (by omega)
        have u0 := hc3 n x hx 0 _ rfl
        simp only [layR, Nat.add_zero] at u0
        rw [drop_split hx] at hLk
        have hxs := (hri.2 x (List.mem_of_getElem? hx)).2
        have hnI : (n : Int) < (pn : Int) := by omega
        have hnd : decide ((n : Int) < (pn : Int)) = true := decide_eq_true hnI
        have hnd2 : decide (n < pn) = true := decide_eq_true hnp
        have hn0 : (0 : Int) ≤ (n : Int) := by omega
        by_cases hls : x.stamp < l
        · have HN : Hid _ := hide (HBS.out.turn hLk hls)
          have hld : decide (x.stamp < l) = true := decide_eq_true hls
          clear A1 hc1 hc2 hc3 hq hG hn pr hLk hri hGl hmo hpl hx HBS hxs
          go_wp2_with fail
          go_quiet (fail)
          go_upto_region 11 with fail
          generalize hwd : wr.drewN _ = wd
          have HBd : Hid (Below wr.heap.size wr wd) := hide (by rw [← hwd]; exact below_drewN (Below.refl _ _) _)
          clear hwd
          have BW : Below w.heap.size w wd := HBw.out.trans (HBd.out.mono HBw.out.size)
          obtain ⟨z0, z1, z2⟩ := HX.out _ BW
          have y1' := (HBd.out.cell (p := ⟨b1, o1 + k * 2 + 1, none⟩) (World.block_lt_of_cell? wr _ y1)).trans y1
          have y2' := (HBd.out.cell (p := ⟨b2, o2 + k, none⟩) (World.block_lt_of_cell? wr _ y2)).trans y2
          have u0' := (HBd.out.cell (p := ⟨d1, f1 + n * 5, none⟩) (World.block_lt_of_cell? wr _ u0)).trans u0
          clear BW x0 x1 x2 y1 y2 u0 hld hls
          go_wp2_with fail
          go_quiet (fail)
          go_wp2
          exact ⟨⟨k + 1, (k : Int), x.stamp, rfl, rfl, by go_num, by omega, by omega, by omega, HN, hide (below_drewN (HB.out.trans (HBd.out.mono HB.out.size)) _)⟩, by simp [numV]; omega⟩
        · have HN : Hid _ := hide (HBS.out.keep hLk hxs hls)
          have hld : decide (x.stamp < l) = false := decide_eq_false hls
          clear A1 hc1 hc2 hc3 hq hG hn pr hLk hri hGl hmo hpl hx HBS hxs
          go_wp2_with fail
          go_quiet (fail)
          go_wp2
          exact ⟨⟨k + 1, b, l, rfl, rfl, by go_num, by omega, hb0, hb1, HN, hide (below_drewN HB.out _)⟩, by simp [numV]; omega⟩
      · have e9 : n = pn := by omega
        subst e9
        rw [List.drop_of_length_le (by rw [hpl]; exact Nat.le_refl _)] at hLk
        have HN : Hid _ := hide (HBS.out.skip hLk)
        have hnI : ¬ (n : Int) < (n : Int) := by omega
        have hnd : decide ((n : Int) < (n : Int)) = false := decide_eq_false hnI
        have hnd2 : decide (n < n) = false := decide_eq_false (by omega)
        clear A1 hc1 hc2 hq hG hn pr hLk hri hGl hmo hpl HBS hnp
        go_wp2_with fail
        go_quiet (fail)
        go_wp2
        exact ⟨⟨k + 1, b, l, rfl, rfl, by go_num, by omega, hb0, hb1, HN, hide (below_drewN HB.out _)⟩, by simp [numV]; omega⟩
    · have hltI : ¬ (k : Int) < (N : Int) := by omega
      obtain rfl : k = N := by omega
      have hlen : Ls.length = k := by rw [HLs.out, leftR_len HR.out.len, HGL.out]
      have hbs := HBS.out
      rw [← hlen] at hbs
      have HDN : Hid _ := hide hbs.done
      have HLN : Hid _ := hide hlen
      have r0 : wr.heap[w.heap.size]? = some (.cells #[.int .i64 0, .int .i64 0, .int .u64 0, .int .u64 0, .slice none 0 0] 46 (0, 0)) := (HB.out.block _ (by have := HS2.out; omega)).trans (by rw [HW2.out]; exact heap_old (heap_new _ _))
      have r1 : wr.heap[w.heap.size + 1]? = some (.cells #[.int .i64 0, .int .i64 0, .int .u64 0, .int .u64 0, .slice none 0 0] 46 (0, 0)) := (HB.out.block _ (by have := HS2.out; omega)).trans (by rw [HW2.out]; exact heap_new2 _ _ _)
      have e0 : wr.cell? ⟨w.heap.size + 1, 0, none⟩ = some (.int .i64 0) := cell_at r1 rfl
      have e1 : wr.cell? ⟨w.heap.size + 1, 1, none⟩ = some (.int .i64 0) := cell_at r1 rfl
      have e2 : wr.cell? ⟨w.heap.size + 1, 2, none⟩ = some (.int .u64 0) := cell_at r1 rfl
      have e3 : wr.cell? ⟨w.heap.size + 1, 3, none⟩ = some (.int .u64 0) := cell_at r1 rfl
      have e4 : wr.cell? ⟨w.heap.size + 1, 4, none⟩ = some (.slice none 0 0) := cell_at r1 rfl
      clear hbs hlen HBS
      rcases HDN.out with ⟨rfl, hno⟩ | ⟨kb, x, t, rfl, rfl, hkb, hpk⟩
      · have HNO : Hid _ := hide hno
        clear hno HDN
        go_wp2_with (refine wpList_store_row rfl 46 (.tmp 2) (.tmp 82) rfl w.heap.size #[.int .i64 0, .int .i64 0, .int .u64 0, .int .u64 0, .slice none 0 0] rfl rfl 46 #[.int .i64 0, .int .i64 0, .int .u64 0, .int .u64 0, .slice none 0 0] r0 (by kernel_rfl) rfl (by simp [Value.oneCell']) ?_)
        refine bodyPost_ret (results_ctt Try.results17 _ _ w.heap.size _ _ _ _ _ _ rfl (setRow_heap _ _ _ _ _ _ r0) Try.underlying46 rfl (by kernel_rfl) rfl rfl) rfl ?_
        exact .inr ⟨90, by decide, .inl ⟨rfl, HNO.out⟩, rfl, HBw.out.trans ((but_setRow _ _ _).below HBw.out.size (fun q hq => by have e : q = w.heap.size := hq; omega))⟩
      · have hkd : decide ((kb : Int) < 0) = false := decide_eq_false (by omega)
        have hkn : ¬ (kb : Int) < 0 := by omega
        have HPK : Hid _ := hide hpk
        clear hpk HDN
        by_cases hlo : x.stamp < nx
        · have HFL : Hid (Flt Ls nx 101) := hide (.inr ⟨kb, x, t, HPK.out, by rw [if_pos hlo]⟩)
          have hld : decide (x.stamp < nx) = true := decide_eq_true hlo
          go_wp2_with (refine wpList_store_row rfl 46 (.tmp 2) (.tmp 89) rfl w.heap.size #[.int .i64 0, .int .i64 0, .int .u64 0, .int .u64 0, .slice none 0 0] rfl rfl 46 #[.int .i64 0, .int .i64 0, .int .u64 0, .int .u64 0, .slice none 0 0] r0 (by kernel_rfl) rfl (by simp [Value.oneCell']) ?_)
          refine bodyPost_ret (results_ctt Try.results17 _ _ w.heap.size _ _ _ _ _ _ rfl (setRow_heap _ _ _ _ _ _ r0) Try.underlying46 rfl (by kernel_rfl) rfl rfl) rfl ?_
          exact .inr ⟨101, by decide, HFL.out, rfl, HBw.out.trans ((but_setRow _ _ _).below HBw.out.size (fun q hq => by have e : q = w.heap.size := hq; omega))⟩
        · by_cases hhi : nx < x.stamp
          · have HFL : Hid (Flt Ls nx 100) := hide (.inr ⟨kb, x, t, HPK.out, by rw [if_neg hlo, if_pos hhi]⟩)
            have hld : decide (x.stamp < nx) = false := decide_eq_false hlo
            have hhd : decide (nx < x.stamp) = true := decide_eq_true hhi
            go_wp2_with (refine wpList_store_row rfl 46 (.tmp 2) (.tmp 96) rfl w.heap.size #[.int .i64 0, .int .i64 0, .int .u64 0, .int .u64 0, .slice none 0 0] rfl rfl 46 #[.int .i64 0, .int .i64 0, .int .u64 0, .int .u64 0, .slice none 0 0] r0 (by kernel_rfl) rfl (by simp [Value.oneCell']) ?_)
            refine bodyPost_ret (results_ctt Try.results17 _ _ w.heap.size _ _ _ _ _ _ rfl (setRow_heap _ _ _ _ _ _ r0) Try.underlying46 rfl (by kernel_rfl) rfl rfl) rfl ?_
            exact .inr ⟨100, by decide, HFL.out, rfl, HBw.out.trans ((but_setRow _ _ _).below HBw.out.size (fun q hq => by have e : q = w.heap.size := hq; omega))⟩
          · have hld : decide (x.stamp < nx) = false := decide_eq_false hlo
            have hhd : decide (nx < x.stamp) = false := decide_eq_false hhi
            have hsx : x.stamp = nx := by omega
            have hkI : (kb : Int) < (k : Int) := by have := HLN.out; omega
            have hkN : kb < k := by omega
            obtain ⟨G, hG⟩ : ∃ r, Gs[kb]? = some r := ⟨_, List.getElem?_eq_getElem (by rw [← HGL.out]; exact hkN)⟩
            obtain ⟨n, hn⟩ : ∃ r, As[kb]? = some r := ⟨_, List.getElem?_eq_getElem (by rw [HR.out.len, ← HGL.out]; exact hkN)⟩
            obtain ⟨q, hq⟩ : ∃ r, rws[kb]? = some r := ⟨_, List.getElem?_eq_getElem (by rw [HRL.out]; exact hkN)⟩
            have hLk := leftR_at hG hn
            rw [← HLs.out, HPK.out.at_] at hLk
            have hdr := Option.some.inj hLk
            have hxn : G.2[n]? = some x := by
              have h9 : (G.2.drop n)[0]? = some x := by rw [← hdr]; rfl
              rw [List.getElem?_drop] at h9
              simpa using h9
            have htt : t = G.2.drop (n + 1) := by
              rw [drop_split hxn] at hdr
              injection hdr
            subst htt
            have A1 := HZ.out.below HBw.out
            obtain ⟨b1, o1, rfl, hb1l, hc1⟩ := A1.row.at (by omega)
            obtain ⟨pg, pr, -, -⟩ := A1.each kb q G hq hG
            obtain ⟨g2, c9, hva, hg2, _⟩ := HR.out.ats.frm (by rw [List.length_map, HR.out.len, ← HGL.out]; omega)
            injection hva with ea2 eN ec
            subst ea2
            clear eN ec
            have v0 := hc1 kb q hq 0 _ rfl
            have v1 := hc1 kb q hq 1 _ rfl
            obtain ⟨b9, o9, e9, hb9, hc2⟩ := (HA.out.below HBw.out).at (by omega)
            cases e9
            have v2 := hc2 kb (n : Int) (by rw [List.getElem?_map, hn]; rfl) 0 _ rfl
            obtain ⟨hri, hGl⟩ := HST.out G (List.mem_of_getElem? hG)
            obtain ⟨q0, pa, pn, pc⟩ := q
            dsimp only at pr pg
            subst pg
            have hpl := pr.len
            have hnp : n < pn := by have := get_lt hxn; omega
            have hnI : (n : Int) < (pn : Int) := by omega
            have hn0 : (0 : Int) ≤ (n : Int) := by omega
            have hpI : (pn : Int) ≤ 1048576 := by omega
            obtain ⟨d1, f1, rfl, hd1, hc3⟩ := pr.at (by omega)
            have u0 := hc3 n x hxn 0 _ rfl; have u1 := hc3 n x hxn 1 _ rfl; have u2 := hc3 n x hxn 2 _ rfl; have u3 := hc3 n x hxn 3 _ rfl; have u4 := hc3 n x hxn 4 _ rfl
            simp only [layW, layN, layR, Nat.add_zero, Nat.mul_one, Nat.zero_add] at v0 v1 v2 u0 u1 u2 u3 u4
            have HS : Hid (∀ X, Below wr.heap.size wr X → X.cell? ⟨p, 0, none⟩ = some (.slice (some ⟨b1, o1, none⟩) k c1) ∧ X.cell? ⟨p, 1, none⟩ = some (.slice (some ⟨g2, 0, none⟩) k c2) ∧ X.cell? ⟨b1, o1 + kb * 2, none⟩ = some (.int .i64 G.1) ∧ X.cell? ⟨b1, o1 + kb * 2 + 1, none⟩ = some (.slice (some ⟨d1, f1, none⟩) pn pc) ∧ X.cell? ⟨d1, f1 + n * 5, none⟩ = some (.int .i64 x.stamp) ∧ X.cell? ⟨d1, f1 + n * 5 + 1, none⟩ = some (.int .i64 x.kind) ∧ X.cell? ⟨d1, f1 + n * 5 + 2, none⟩ = some (.int .u64 x.obj) ∧ X.cell? ⟨d1, f1 + n * 5 + 3, none⟩ = some (.int .u64 x.arg) ∧ X.cell? ⟨d1, f1 + n * 5 + 4, none⟩ = some (.int .i64 x.stack) ∧ X.cell? ⟨g2, kb, none⟩ = some (.int .i64 (n : Int))) := hide (fun X hX => ⟨(hX.cell (p := ⟨p, 0, none⟩) (World.block_lt_of_cell? wr _ x0)).trans x0, (hX.cell (p := ⟨p, 1, none⟩) (World.block_lt_of_cell? wr _ x1)).trans x1, (hX.cell (p := ⟨b1, o1 + kb * 2, none⟩) hb1l).trans v0, (hX.cell (p := ⟨b1, o1 + kb * 2 + 1, none⟩) hb1l).trans v1, (hX.cell (p := ⟨d1, f1 + n * 5, none⟩) hd1).trans u0, (hX.cell (p := ⟨d1, f1 + n * 5 + 1, none⟩) hd1).trans u1, (hX.cell (p := ⟨d1, f1 + n * 5 + 2, none⟩) hd1).trans u2, (hX.cell (p := ⟨d1, f1 + n * 5 + 3, none⟩) hd1).trans u3, (hX.cell (p := ⟨d1, f1 + n * 5 + 4, none⟩) hd1).trans u4, (hX.cell (p := ⟨g2, kb, none⟩) hb9).trans v2⟩)
            have HNL : Hid (n + 1 ≤ G.2.length) := hide (by have := get_lt hxn; omega)
            have HZB : Hid (b1 < w.heap.size) := hide (by
              obtain ⟨rws8, hz8⟩ := HR.out.rows
              exact (hz8.own.lt b1 rfl).2)
            have HG : Hid _ := hide hG
            have HAN : Hid _ := hide hn
            have HSX : Hid _ := hide hsx
            clear A1 hc1 hc2 hc3 hq hG hn hLk hdr hxn pr hpl hri hGl v0 v1 v2 u0 u1 u2 u3 u4 hsx hnp
            go_wp2_with fail
            refine wp_region_noPanic ?_
            refine wp_region_held_drew (S := fun X => X.cell? ⟨p, 0, none⟩ = some (.slice (some ⟨b1, o1, none⟩) k c1) ∧ X.cell? ⟨p, 1, none⟩ = some (.slice (some ⟨g2, 0, none⟩) k c2) ∧ X.cell? ⟨b1, o1 + kb * 2, none⟩ = some (.int .i64 G.1) ∧ X.cell? ⟨b1, o1 + kb * 2 + 1, none⟩ = some (.slice (some ⟨d1, f1, none⟩) pn pc) ∧ X.cell? ⟨d1, f1 + n * 5, none⟩ = some (.int .i64 x.stamp) ∧ X.cell? ⟨d1, f1 + n * 5 + 1, none⟩ = some (.int .i64 x.kind) ∧ X.cell? ⟨d1, f1 + n * 5 + 2, none⟩ = some (.int .u64 x.obj) ∧ X.cell? ⟨d1, f1 + n * 5 + 3, none⟩ = some (.int .u64 x.arg) ∧ X.cell? ⟨d1, f1 + n * 5 + 4, none⟩ = some (.int .i64 x.stack) ∧ X.cell? ⟨g2, kb, none⟩ = some (.int .i64 (n : Int))) (by kernel_rfl) (HS.out _ (Below.refl _ _).drew) (fun hHeld => ?_)
            refine wpAnyH_take (i := 0) (oi := _) (v := ?v0) rfl (by kernel_rfl) (by kernel_rfl) (by kernel_rfl) (fun _ _ _ h => h) (Or.inl ⟨by rfl, ?y0⟩) (by assumption) ?r0
            case y0 => (intro w' hSw; (try dsimp only at hSw); go_simp; try with_reducible rfl)
            refine wpAnyH_take (i := 1) (oi := _) (v := ?v1) rfl (by kernel_rfl) (by kernel_rfl) (by kernel_rfl) (fun _ _ _ h => h) (Or.inl ⟨by rfl, ?y1⟩) (by assumption) ?r1
            case y1 => (intro w' hSw; (try dsimp only at hSw); go_simp; try with_reducible rfl)
            refine wpAnyH_take (i := 2) (oi := _) (v := ?v2) rfl (by kernel_rfl) (by kernel_rfl) (by kernel_rfl) (fun _ _ _ h => h) (Or.inl ⟨by rfl, ?y2⟩) (by assumption) ?r2
            case y2 => (intro w' hSw; (try dsimp only at hSw); go_simp; try with_reducible rfl)
            refine wpAnyH_take (i := 3) (oi := _) (v := ?v3) rfl (by kernel_rfl) (by kernel_rfl) (by kernel_rfl) (fun _ _ _ h => h) (Or.inl ⟨by rfl, ?y3⟩) (by assumption) ?r3
            case y3 => (intro w' hSw; (try dsimp only at hSw); go_simp; try with_reducible rfl)
            refine wpAnyH_take (i := 4) (oi := _) (v := ?v4) rfl (by kernel_rfl) (by kernel_rfl) (by kernel_rfl) (fun _ _ _ h => h) (Or.inl ⟨by rfl, ?y4⟩) (by assumption) ?r4
            case y4 => (intro w' hSw; (try dsimp only at hSw); go_simp; try with_reducible rfl)
            refine wpAnyH_take (i := 5) (oi := _) (v := ?v5) rfl (by kernel_rfl) (by kernel_rfl) (by kernel_rfl) (fun _ _ _ h => h) (Or.inl ⟨by rfl, ?y5⟩) (by assumption) ?r5
            case y5 => (intro w' hSw; (try dsimp only at hSw); go_simp; try with_reducible rfl)
            refine wpAnyH_take (i := 6) (oi := _) (v := ?v6) rfl (by kernel_rfl) (by kernel_rfl) (by kernel_rfl) (fun _ _ _ h => h) (Or.inl ⟨by rfl, ?y6⟩) (by assumption) ?r6
            case y6 => (intro w' hSw; (try dsimp only at hSw); go_simp; try with_reducible rfl)
            refine wpAnyH_take (i := 7) (oi := _) (v := ?v7) rfl (by kernel_rfl) (by kernel_rfl) (by kernel_rfl) (fun _ _ _ h => h) (Or.inl ⟨by rfl, ?y7⟩) (by assumption) ?r7
            case y7 => (intro w' hSw; (try dsimp only at hSw); go_simp; try with_reducible rfl)
            refine wpAnyH_take (i := 8) (oi := _) (v := ?v8) rfl (by kernel_rfl) (by kernel_rfl) (by kernel_rfl) (fun _ _ _ h => h) (Or.inl ⟨by rfl, ?y8⟩) (by assumption) ?r8
            case y8 => (intro w' hSw; (try dsimp only at hSw); go_simp; try with_reducible rfl)
            refine wpAnyH_take (i := 9) (oi := _) (v := ?v9) rfl (by kernel_rfl) (by kernel_rfl) (by kernel_rfl) (fun _ _ _ h => h) (Or.inl ⟨by rfl, ?y9⟩) (by assumption) ?r9
            case y9 => (intro w' hSw; (try dsimp only at hSw); go_simp; try with_reducible rfl)
            refine wpAnyH_take (i := 10) (oi := _) (v := ?v10) rfl (by kernel_rfl) (by kernel_rfl) (by kernel_rfl) (fun _ _ _ h => h) (Or.inl ⟨by rfl, ?y10⟩) (by assumption) ?r10
            case y10 => (intro w' hSw; (try dsimp only at hSw); go_simp; try with_reducible rfl)
            refine wpAnyH_take (i := 11) (oi := _) (v := ?v11) rfl (by kernel_rfl) (by kernel_rfl) (by kernel_rfl) (fun _ _ _ h => h) (Or.inl ⟨by rfl, ?y11⟩) (by assumption) ?r11
            case y11 => (intro w' hSw; (try dsimp only at hSw); go_simp; try with_reducible rfl)
            refine wpAnyH_take (i := 12) (oi := _) (v := ?v12) rfl (by kernel_rfl) (by kernel_rfl) (by kernel_rfl) (fun _ _ _ h => h) (Or.inl ⟨by rfl, ?y12⟩) (by assumption) ?r12
            case y12 => (intro w' hSw; (try dsimp only at hSw); go_simp; try with_reducible rfl)
            refine wpAnyH_take (i := 13) (oi := _) (v := ?v13) rfl (by kernel_rfl) (by kernel_rfl) (by kernel_rfl) (fun _ _ _ h => h) (Or.inl ⟨by rfl, ?y13⟩) (by assumption) ?r13
            case y13 => (intro w' hSw; (try dsimp only at hSw); go_simp; try with_reducible rfl)
            refine wpAnyH_take (i := 14) (oi := _) (v := ?v14) rfl (by kernel_rfl) (by kernel_rfl) (by kernel_rfl) (fun _ _ _ h => h) (Or.inl ⟨by rfl, ?y14⟩) (by assumption) ?r14
            case y14 => (intro w' hSw; (try dsimp only at hSw); go_simp; try with_reducible rfl)
            refine wpAnyH_take (i := 15) (oi := _) (v := ?v15) rfl (by kernel_rfl) (by kernel_rfl) (by kernel_rfl) (fun _ _ _ h => h) (Or.inl ⟨by rfl, ?y15⟩) (by assumption) ?r15
            case y15 => (intro w' hSw; (try dsimp only at hSw); go_simp; try with_reducible rfl)
            refine wpAnyH_take (i := 16) (oi := _) (v := ?v16) rfl (by kernel_rfl) (by kernel_rfl) (by kernel_rfl) (fun _ _ _ h => h) (Or.inl ⟨by rfl, ?y16⟩) (by assumption) ?r16
            case y16 => (intro w' hSw; (try dsimp only at hSw); go_simp; try with_reducible rfl)
            refine wpAnyH_ready (rs := [17]) (by kernel_rfl) (by simp) ?_
            refine AllReadyH.cons (o := _) rfl (fun KK hKK => ?_) AllReadyH.nil
            go_simp
            refine hKK.out _ _ (HS.out _ ((Below.refl _ _).drew.alloc (by simp) _)) (fun hHeld17 => ?_)
            clear hKK KK
            refine wpAnyH_ready (rs := [18]) (by kernel_rfl) (by simp) ?_
            refine AllReadyH.cons (o := _) rfl (fun KK hKK => ?_) AllReadyH.nil
            rw [if_pos (by rfl)]
            refine wp_store_row 41 (.tmp 9) (.tmp 113) rfl wr.heap.size #[.int .i64 x.stamp, .int .i64 x.kind, .int .u64 x.obj, .int .u64 x.arg, .int .i64 x.stack] rfl rfl 41 #[.int .i64 0, .int .i64 0, .int .u64 0, .int .u64 0, .int .i64 0] (heap_new _ _) (by kernel_rfl) rfl (by simp [Value.oneCell']) ?_
            have B1 : Below wr.heap.size wr ((wr.alloc (.cells #[.int .i64 0, .int .i64 0, .int .u64 0, .int .u64 0, .int .i64 0] 41)).drew.setRow wr.heap.size #[.int .i64 x.stamp, .int .i64 x.kind, .int .u64 x.obj, .int .u64 x.arg, .int .i64 x.stack]) := (below_alloc1 wr _).drew.trans ((but_setRow _ _ _).below (by simp) (fun q hq => by have e : q = wr.heap.size := hq; omega))
            have R1 : ((wr.alloc (.cells #[.int .i64 0, .int .i64 0, .int .u64 0, .int .u64 0, .int .i64 0] 41)).drew.setRow wr.heap.size #[.int .i64 x.stamp, .int .i64 x.kind, .int .u64 x.obj, .int .u64 x.arg, .int .i64 x.stack]).heap[wr.heap.size]? = some (.cells #[.int .i64 x.stamp, .int .i64 x.kind, .int .u64 x.obj, .int .u64 x.arg, .int .i64 x.stack] 41 (0, 0)) := setRow_heap _ wr.heap.size _ _ _ _ (show (wr.alloc (.cells #[.int .i64 0, .int .i64 0, .int .u64 0, .int .u64 0, .int .i64 0] 41)).drew.heap[wr.heap.size]? = some (.cells #[.int .i64 0, .int .i64 0, .int .u64 0, .int .u64 0, .int .i64 0] 41 (0, 0)) from heap_new wr _)
            generalize hU1 : (wr.alloc (.cells #[.int .i64 0, .int .i64 0, .int .u64 0, .int .u64 0, .int .i64 0] 41)).drew.setRow wr.heap.size #[.int .i64 x.stamp, .int .i64 x.kind, .int .u64 x.obj, .int .u64 x.arg, .int .i64 x.stack] = U1 at B1 R1
            have HB1 : Hid _ := hide B1
            have HR1 : Hid _ := hide R1
            clear B1 R1 hU1
            refine hKK.out _ _ (HS.out _ HB1.out) (fun hHeld18 => ?_)
            clear hKK KK
            refine wpAnyH_done (by kernel_rfl) ?_ _
            refine NoPanic.normal ?_
            clear x0 x1 x2 e0 e1 e2 e3 e4 r1 hHeld hHeld17 hHeld18
            obtain ⟨x0, x1, v0, v1, -, -, -, -, -, v2⟩ := HS.out _ HB1.out
            have BU : Below w.heap.size w U1 := HBw.out.trans (HB1.out.mono HBw.out.size)
            have x2 := (HX.out _ BU).2.2
            have HBU : Hid _ := hide BU
            have hpb := (BU.block p hp).trans HR.out.blk
            obtain ⟨cu2, hcu2⟩ := own_ty (HR.out.ats.below BU) (b := g2) rfl
            have hpg : ¬ p = g2 := fun e => by
              rw [e, hcu2] at hpb
              simp at hpb
            have HPB : Hid _ := hide hpb
            have HCU : Hid _ := hide hcu2
            have fz2 := frz hcu2 kb
            have hwn : IntKind.i64.wrap ((n : Int) + 1) = (n : Int) + 1 := by rw [IntKind.wrap_i64]; omega
            have hwx : IntKind.i64.wrap (nx + 1) = nx + 1 := by rw [IntKind.wrap_i64]; omega
            have HS9 : Hid (∀ X, But (fun q => q = g2) U1 X → X.cell? ⟨p, 1, none⟩ = some (.slice (some ⟨g2, 0, none⟩) k c2)) := hide (fun X hX => cell_but x1 hX hpg)
            have HOA : Hid (Own layN 3 ((U1.setCell ⟨g2, kb, none⟩ (.int .i64 ((n : Int) + 1))).drew) base (.slice (some ⟨g2, 0, none⟩) k c2) ((As.set kb (n + 1)).map fun k : Nat => (k : Int))) := hide (by
              have h8 := (HR.out.ats.below BU).setN (k := kb) (by rw [List.length_map, HR.out.len, HGL.out]) (by rw [List.length_map, HR.out.len, ← HGL.out]; exact hkN) ((n : Int) + 1)
              rw [List.map_set]
              exact h8.but (But.refl (fun _ => False) _).drew (fun _ _ e => e))
            clear BU hpb hcu2
            go_wp2_with fail
            refine wp_region_noPanic ?_
            refine wp_region_held_drew (S := fun X => X.cell? ⟨p, 1, none⟩ = some (.slice (some ⟨g2, 0, none⟩) k c2)) (by kernel_rfl) (HS9.out _ (But.refl _ _).drew) (fun hHeld => ?_)
            refine wpAnyH_take (i := 0) (oi := _) (v := ?v0b) rfl (by kernel_rfl) (by kernel_rfl) (by kernel_rfl) (fun _ _ _ h => h) (Or.inl ⟨by rfl, ?y0b⟩) (by assumption) ?r0b
            case y0b => (intro w' hSw; (try dsimp only at hSw); go_simp; try with_reducible rfl)
            refine wpAnyH_take (i := 1) (oi := _) (v := ?v1b) rfl (by kernel_rfl) (by kernel_rfl) (by kernel_rfl) (fun _ _ _ h => h) (Or.inl ⟨by rfl, ?y1b⟩) (by assumption) ?r1b
            case y1b => (intro w' hSw; (try dsimp only at hSw); go_simp; try with_reducible rfl)
            refine wpAnyH_take (i := 2) (oi := _) (v := ?v2b) rfl (by kernel_rfl) (by kernel_rfl) (by kernel_rfl) (fun _ _ _ h => h) (Or.inl ⟨by rfl, ?y2b⟩) (by assumption) ?r2b
            case y2b => (intro w' hSw; (try dsimp only at hSw); go_simp; try with_reducible rfl)
            refine wpAnyH_take (i := 3) (oi := _) (v := ?v3b) rfl (by kernel_rfl) (by kernel_rfl) (by kernel_rfl) (fun _ _ _ h => h) (Or.inl ⟨by rfl, ?y3b⟩) (by assumption) ?r3b
            case y3b => (intro w' hSw; (try dsimp only at hSw); go_simp; try with_reducible rfl)
            refine wpAnyH_take (i := 4) (oi := _) (v := ?v4b) rfl (by kernel_rfl) (by kernel_rfl) (by kernel_rfl) (fun _ _ _ h => h) (Or.inl ⟨by rfl, ?y4b⟩) (by assumption) ?r4b
            case y4b => (intro w' hSw; (try dsimp only at hSw); go_simp; try with_reducible rfl)
            refine wpAnyH_take (i := 5) (oi := _) (v := ?v5b) rfl (by kernel_rfl) (by kernel_rfl) (by kernel_rfl) (fun _ _ _ h => h) (Or.inl ⟨by rfl, ?y5b⟩) (by assumption) ?r5b
            case y5b => (intro w' hSw; (try dsimp only at hSw); go_simp; try with_reducible rfl)
            refine wpAnyH_take (i := 6) (oi := _) (v := ?v6b) rfl (by kernel_rfl) (by kernel_rfl) (by kernel_rfl) (fun _ _ _ h => h) (Or.inl ⟨by rfl, ?y6b⟩) (by assumption) ?r6b
            case y6b => (intro w' hSw; (try dsimp only at hSw); go_simp; try with_reducible rfl)
            refine wpAnyH_take (i := 7) (oi := _) (v := ?v7b) rfl (by kernel_rfl) (by kernel_rfl) (by kernel_rfl) (fun _ _ _ h => h) (Or.inl ⟨by rfl, ?y7b⟩) (by assumption) ?r7b
            case y7b => (intro w' hSw; (try dsimp only at hSw); go_simp; try with_reducible rfl)
            refine wpAnyH_take (i := 8) (oi := _) (v := ?v8b) rfl (by kernel_rfl) (by kernel_rfl) (by kernel_rfl) (fun _ _ _ h => h) (Or.inl ⟨by rfl, ?y8b⟩) (by assumption) ?r8b
            case y8b => (intro w' hSw; (try dsimp only at hSw); go_simp; try with_reducible rfl)
            refine wpAnyH_take (i := 9) (oi := _) (v := ?v9b) rfl (by kernel_rfl) (by kernel_rfl) (by kernel_rfl) (fun _ _ _ h => h) (Or.inl ⟨by rfl, ?y9b⟩) (by assumption) ?r9b
            case y9b => (intro w' hSw; (try dsimp only at hSw); go_simp; try with_reducible rfl)
            refine wpAnyH_take (i := 10) (oi := _) (v := ?v10b) rfl (by kernel_rfl) (by kernel_rfl) (by kernel_rfl) (fun _ _ _ h => h) (Or.inl ⟨by rfl, ?y10b⟩) (by assumption) ?r10b
            case y10b => (intro w' hSw; (try dsimp only at hSw); go_simp; try with_reducible rfl)
            refine wpAnyH_ready (rs := [11]) (by kernel_rfl) (by simp) ?_
            refine AllReadyH.cons (o := _) rfl (fun KK hKK => ?_) AllReadyH.nil
            go_simp
            refine hKK.out _ _ (HS9.out _ (But.refl _ _).drew) (fun hHeld11 => ?_)
            clear hKK KK
            refine wpAnyH_take (i := 12) (oi := _) (v := ?v12b) rfl (by kernel_rfl) (by kernel_rfl) (by kernel_rfl) (fun _ _ _ h => h) (Or.inl ⟨by rfl, ?y12b⟩) (by assumption) ?r12b
            case y12b => (intro w' hSw; (try dsimp only at hSw); go_simp; try with_reducible rfl)
            refine wpAnyH_take (i := 13) (oi := _) (v := ?v13b) rfl (by kernel_rfl) (by kernel_rfl) (by kernel_rfl) (fun _ _ _ h => h) (Or.inl ⟨by rfl, ?y13b⟩) (by assumption) ?r13b
            case y13b => (intro w' hSw; (try dsimp only at hSw); go_simp; try with_reducible rfl)
            refine wpAnyH_ready (rs := [14]) (by kernel_rfl) (by simp) ?_
            refine AllReadyH.cons (o := _) rfl (fun KK hKK => ?_) AllReadyH.nil
            go_simp
            have B2 : But (fun q => q = g2) U1 ((U1.setCell ⟨g2, kb, none⟩ (.int .i64 ((n : Int) + 1))).drew) := ((But.refl (fun q => q = g2) U1).setCell ⟨g2, kb, none⟩ (fun _ => rfl) _).drew
            have O2 : Own layN 3 ((U1.setCell ⟨g2, kb, none⟩ (.int .i64 ((n : Int) + 1))).drew) base (.slice (some ⟨g2, 0, none⟩) k c2) ((As.set kb (n + 1)).map fun k : Nat => (k : Int)) := HOA.out
            generalize hU2 : (U1.setCell ⟨g2, kb, none⟩ (.int .i64 ((n : Int) + 1))).drew = U2 at B2 O2
            have HB9 : Hid _ := hide B2
            have HO2 : Hid _ := hide O2
            clear B2 O2 hU2
            refine hKK.out _ _ (HS9.out _ HB9.out) (fun hHeld14 => ?_)
            clear hKK KK
            refine wpAnyH_done (by kernel_rfl) ?_ _
            refine NoPanic.normal ?_
            have HV0 : Hid _ := hide v0
            have HR0 : Hid _ := hide r0
            clear x0 x1 v0 v1 v2 fz2 hHeld11 hHeld14 r0 hwn
            have hp2 := (HB9.out.block p (by have := HBU.out.size; omega) hpg).trans HPB.out
            have x2' : U2.cell? ⟨p, 2, none⟩ = some (.int .i64 nx) := cell_at hp2 rfl
            have fz3 := frz hp2 2
            have HP2 : Hid _ := hide hp2
            clear x2 hp2
            go_wp2_with fail
            clear x2' fz3
            have hp2 := HP2.out
            have r0 := HR0.out
            have v0 := HV0.out
            have zwr := HBw.out.size
            have zU1 := HB1.out.size
            obtain ⟨rws9, hz9⟩ := HR.out.rows
            have hz1 := hz9.below HBU.out
            obtain ⟨cb1, hcb1⟩ := own_ty hz1.own (b := b1) rfl
            have hg2w : g2 < w.heap.size := (HR.out.ats.lt g2 rfl).2
            have hbg : ¬ b1 = g2 := fun e => by rw [e, HCU.out] at hcb1; simp at hcb1
            have hbp : ¬ b1 = p := fun e => by rw [e, HPB.out] at hcb1; simp at hcb1
            have hz2 := hz1.but HB9.out (fun q cur T h1 h2 e => by have e9 : q = g2 := e; rw [e9, HCU.out] at h1; simp at h1; rcases h2 with h2 | h2 <;> (rw [← h1.2] at h2; exact absurd h2 (by decide)))
            have B3 : But (fun q => q = p) U2 (U2.setCell ⟨p, 2, none⟩ (.int .i64 (nx + 1))) := but_setC U2 ⟨p, 2, none⟩ _
            have P3 := set1_heap (i := 2) (.int .i64 (nx + 1)) hp2
            have hz3 := hz2.but B3 (fun q cur T h1 h2 e => by have e9 : q = p := e; rw [e9, hp2] at h1; simp at h1; rcases h2 with h2 | h2 <;> (rw [← h1.2] at h2; exact absurd h2 (by decide)))
            have O3 := HO2.out.but B3 (fun q hq e => hpg (by have e9 : q = p := e; have e8 : (some g2 : Option Nat) = some q := hq; rw [← e9]; exact (Option.some.inj e8).symm))
            have BT : But (fun q => q = p ∨ (Value.slice (some ⟨g2, 0, none⟩) k c2).ownBlock = some q) w (U2.setCell ⟨p, 2, none⟩ (.int .i64 (nx + 1))) := ((But.of_below (S := fun q => q = p ∨ (Value.slice (some ⟨g2, 0, none⟩) k c2).ownBlock = some q) HBU.out).trans HB9.out (fun q _ e => .inr (by have e9 : q = g2 := e; rw [e9]; rfl))).trans B3 (fun _ _ e => .inl e)
            have v0' := cell_but (cell_but v0 HB9.out hbg) B3 hbp
            have q3 := (B3.block wr.heap.size (by have := HB9.out.size; have := get_lt' HR1.out; omega) (by omega)).trans ((HB9.out.block wr.heap.size (get_lt' HR1.out) (by omega)).trans HR1.out)
            have r3 := (B3.block w.heap.size (by have := HB9.out.size; have := get_lt' r0; omega) (by omega)).trans ((HB9.out.block w.heap.size (by have := get_lt' r0; omega) (by omega)).trans ((HB1.out.block _ (get_lt' r0)).trans r0))
            have HRM : Hid (RMg (U2.setCell ⟨p, 2, none⟩ (.int .i64 (nx + 1))) base p (.slice (some ⟨b1, o1, none⟩) k c1) (.slice (some ⟨g2, 0, none⟩) k c2) Gs (As.set kb (n + 1)) (nx + 1)) := hide ⟨P3, ⟨_, hz3⟩, O3, by rw [List.length_set]; exact HR.out.len, fun j m G' h1 h2 => (by
              by_cases ej : j = kb
              · subst ej
                rw [List.getElem?_set_self (get_lt HAN.out)] at h1
                rw [HG.out] at h2
                cases h2; cases h1
                exact HNL.out
              · rw [List.getElem?_set_ne (fun e => ej e.symm)] at h1
                exact HR.out.most j m G' h1 h2), HR.out.ge⟩
            generalize hU3 : U2.setCell ⟨p, 2, none⟩ (.int .i64 (nx + 1)) = U3 at P3 BT v0' q3 r3 HRM
            have HU3 : Hid _ := hide hU3
            have w0 : U3.cell? ⟨p, 0, none⟩ = some (.slice (some ⟨b1, o1, none⟩) k c1) := cell_at P3 rfl
            have c1' : U3.cell? ⟨wr.heap.size, 1, none⟩ = some (.int .i64 x.kind) := cell_at q3 rfl
            have c2' : U3.cell? ⟨wr.heap.size, 2, none⟩ = some (.int .u64 x.obj) := cell_at q3 rfl
            have c3' : U3.cell? ⟨wr.heap.size, 3, none⟩ = some (.int .u64 x.arg) := cell_at q3 rfl
            have c4' : U3.cell? ⟨wr.heap.size, 4, none⟩ = some (.int .i64 x.stack) := cell_at q3 rfl
            have HS3 : Hid (∀ X, But (fun q => q = w.heap.size) U3 X → X.cell? ⟨p, 0, none⟩ = some (.slice (some ⟨b1, o1, none⟩) k c1) ∧ X.cell? ⟨b1, o1 + kb * 2, none⟩ = some (.int .i64 G.1) ∧ X.cell? ⟨wr.heap.size, 1, none⟩ = some (.int .i64 x.kind) ∧ X.cell? ⟨wr.heap.size, 2, none⟩ = some (.int .u64 x.obj) ∧ X.cell? ⟨wr.heap.size, 3, none⟩ = some (.int .u64 x.arg) ∧ X.cell? ⟨wr.heap.size, 4, none⟩ = some (.int .i64 x.stack)) := hide (fun X hX => ⟨cell_but w0 hX (by show ¬ p = w.heap.size; omega), cell_but v0' hX (by show ¬ b1 = w.heap.size; have := HZB.out; omega), cell_but c1' hX (by show ¬ wr.heap.size = w.heap.size; have := get_lt' r0; omega), cell_but c2' hX (by show ¬ wr.heap.size = w.heap.size; have := get_lt' r0; omega), cell_but c3' hX (by show ¬ wr.heap.size = w.heap.size; have := get_lt' r0; omega), cell_but c4' hX (by show ¬ wr.heap.size = w.heap.size; have := get_lt' r0; omega)⟩)
            have HR3 : Hid _ := hide r3
            have HBT : Hid _ := hide BT
            clear v0 hU3 w0 c1' c2' c3' c4' P3 BT v0' q3 r3 hz9 hz1 hz2 hz3 hcb1 B3 O3 r0 hp2
            clear hk hlt hltI hHeld hpg hbg hbp zwr zU1 hg2w hwx hkd hld hhd hlo hhi
            refine wp_region_noPanic ?_
            refine wp_region_held_drew (S := fun X => X.cell? ⟨p, 0, none⟩ = some (.slice (some ⟨b1, o1, none⟩) k c1) ∧ X.cell? ⟨b1, o1 + kb * 2, none⟩ = some (.int .i64 G.1) ∧ X.cell? ⟨wr.heap.size, 1, none⟩ = some (.int .i64 x.kind) ∧ X.cell? ⟨wr.heap.size, 2, none⟩ = some (.int .u64 x.obj) ∧ X.cell? ⟨wr.heap.size, 3, none⟩ = some (.int .u64 x.arg) ∧ X.cell? ⟨wr.heap.size, 4, none⟩ = some (.int .i64 x.stack)) (by kernel_rfl) (HS3.out _ (But.refl _ _).drew) (fun hHeld => ?_)
            refine wpAnyH_take (i := 0) (oi := _) (v := ?v0c) rfl (by kernel_rfl) (by kernel_rfl) (by kernel_rfl) (fun _ _ _ h => h) (Or.inl ⟨by rfl, ?y0c⟩) (by assumption) ?r0c
            case y0c => (intro w' hSw; (try dsimp only at hSw); go_simp; try with_reducible rfl)
            refine wpAnyH_take (i := 1) (oi := _) (v := ?v1c) rfl (by kernel_rfl) (by kernel_rfl) (by kernel_rfl) (fun _ _ _ h => h) (Or.inl ⟨by rfl, ?y1c⟩) (by assumption) ?r1c
            case y1c => (intro w' hSw; (try dsimp only at hSw); go_simp; try with_reducible rfl)
            refine wpAnyH_take (i := 2) (oi := _) (v := ?v2c) rfl (by kernel_rfl) (by kernel_rfl) (by kernel_rfl) (fun _ _ _ h => h) (Or.inl ⟨by rfl, ?y2c⟩) (by assumption) ?r2c
            case y2c => (intro w' hSw; (try dsimp only at hSw); go_simp; try with_reducible rfl)
            refine wpAnyH_take (i := 3) (oi := _) (v := ?v3c) rfl (by kernel_rfl) (by kernel_rfl) (by kernel_rfl) (fun _ _ _ h => h) (Or.inl ⟨by rfl, ?y3c⟩) (by assumption) ?r3c
            case y3c => (intro w' hSw; (try dsimp only at hSw); go_simp; try with_reducible rfl)
            refine wpAnyH_take (i := 4) (oi := _) (v := ?v4c) rfl (by kernel_rfl) (by kernel_rfl) (by kernel_rfl) (fun _ _ _ h => h) (Or.inl ⟨by rfl, ?y4c⟩) (by assumption) ?r4c
            case y4c => (intro w' hSw; (try dsimp only at hSw); go_simp; try with_reducible rfl)
            refine wpAnyH_take (i := 5) (oi := _) (v := ?v5c) rfl (by kernel_rfl) (by kernel_rfl) (by kernel_rfl) (fun _ _ _ h => h) (Or.inl ⟨by rfl, ?y5c⟩) (by assumption) ?r5c
            case y5c => (intro w' hSw; (try dsimp only at hSw); go_simp; try with_reducible rfl)
            refine wpAnyH_take (i := 6) (oi := _) (v := ?v6c) rfl (by kernel_rfl) (by kernel_rfl) (by kernel_rfl) (fun _ _ _ h => h) (Or.inl ⟨by rfl, ?y6c⟩) (by assumption) ?r6c
            case y6c => (intro w' hSw; (try dsimp only at hSw); go_simp; try with_reducible rfl)
            refine wpAnyH_take (i := 7) (oi := _) (v := ?v7c) rfl (by kernel_rfl) (by kernel_rfl) (by kernel_rfl) (fun _ _ _ h => h) (Or.inl ⟨by rfl, ?y7c⟩) (by assumption) ?r7c
            case y7c => (intro w' hSw; (try dsimp only at hSw); go_simp; try with_reducible rfl)
            refine wpAnyH_take (i := 8) (oi := _) (v := ?v8c) rfl (by kernel_rfl) (by kernel_rfl) (by kernel_rfl) (fun _ _ _ h => h) (Or.inl ⟨by rfl, ?y8c⟩) (by assumption) ?r8c
            case y8c => (intro w' hSw; (try dsimp only at hSw); go_simp; try with_reducible rfl)
            refine wpAnyH_take (i := 9) (oi := _) (v := ?v9c) rfl (by kernel_rfl) (by kernel_rfl) (by kernel_rfl) (fun _ _ _ h => h) (Or.inl ⟨by rfl, ?y9c⟩) (by assumption) ?r9c
            case y9c => (intro w' hSw; (try dsimp only at hSw); go_simp; try with_reducible rfl)
            refine wpAnyH_take (i := 10) (oi := _) (v := ?v10c) rfl (by kernel_rfl) (by kernel_rfl) (by kernel_rfl) (fun _ _ _ h => h) (Or.inl ⟨by rfl, ?y10c⟩) (by assumption) ?r10c
            case y10c => (intro w' hSw; (try dsimp only at hSw); go_simp; try with_reducible rfl)
            refine wpAnyH_take (i := 11) (oi := _) (v := ?v11c) rfl (by kernel_rfl) (by kernel_rfl) (by kernel_rfl) (fun _ _ _ h => h) (Or.inl ⟨by rfl, ?y11c⟩) (by assumption) ?r11c
            case y11c => (intro w' hSw; (try dsimp only at hSw); go_simp; try with_reducible rfl)
            refine wpAnyH_take (i := 12) (oi := _) (v := ?v12c) rfl (by kernel_rfl) (by kernel_rfl) (by kernel_rfl) (fun _ _ _ h => h) (Or.inl ⟨by rfl, ?y12c⟩) (by assumption) ?r12c
            case y12c => (intro w' hSw; (try dsimp only at hSw); go_simp; try with_reducible rfl)
            refine wpAnyH_take (i := 13) (oi := _) (v := ?v13c) rfl (by kernel_rfl) (by kernel_rfl) (by kernel_rfl) (fun _ _ _ h => h) (Or.inl ⟨by rfl, ?y13c⟩) (by assumption) ?r13c
            case y13c => (intro w' hSw; (try dsimp only at hSw); go_simp; try with_reducible rfl)
            refine wpAnyH_take (i := 14) (oi := _) (v := ?v14c) rfl (by kernel_rfl) (by kernel_rfl) (by kernel_rfl) (fun _ _ _ h => h) (Or.inl ⟨by rfl, ?y14c⟩) (by assumption) ?r14c
            case y14c => (intro w' hSw; (try dsimp only at hSw); go_simp; try with_reducible rfl)
            refine wpAnyH_take (i := 15) (oi := _) (v := ?v15c) rfl (by kernel_rfl) (by kernel_rfl) (by kernel_rfl) (fun _ _ _ h => h) (Or.inl ⟨by rfl, ?y15c⟩) (by assumption) ?r15c
            case y15c => (intro w' hSw; (try dsimp only at hSw); go_simp; try with_reducible rfl)
            refine wpAnyH_take (i := 16) (oi := _) (v := ?v16c) rfl (by kernel_rfl) (by kernel_rfl) (by kernel_rfl) (fun _ _ _ h => h) (Or.inl ⟨by rfl, ?y16c⟩) (by assumption) ?r16c
            case y16c => (intro w' hSw; (try dsimp only at hSw); go_simp; try with_reducible rfl)
            have y0 : U3.cell? ⟨w.heap.size, 0, none⟩ = some (.int .i64 0) := cell_at HR3.out rfl
            have g0 := frz HR3.out 0
            have y1 : U3.cell? ⟨w.heap.size, 1, none⟩ = some (.int .i64 0) := cell_at HR3.out rfl
            have g1 := frz HR3.out 1
            have y2 : U3.cell? ⟨w.heap.size, 2, none⟩ = some (.int .u64 0) := cell_at HR3.out rfl
            have g2 := frz HR3.out 2
            have y3 : U3.cell? ⟨w.heap.size, 3, none⟩ = some (.int .u64 0) := cell_at HR3.out rfl
            have g3 := frz HR3.out 3
            have y4 : U3.cell? ⟨w.heap.size, 4, none⟩ = some (.slice none 0 0) := cell_at HR3.out rfl
            have g4 := frz HR3.out 4
            refine wpAnyH_ready (rs := [17]) (by kernel_rfl) (by simp) ?_
            refine AllReadyH.cons (o := _) rfl (fun KK hKK => ?_) AllReadyH.nil
            go_simp
            have B4 : But (fun q => q = w.heap.size) U3 ((((((U3.setCell ⟨w.heap.size, 0, none⟩ (.int .i64 G.1)).setCell ⟨w.heap.size, 1, none⟩ (.int .i64 x.kind)).setCell ⟨w.heap.size, 2, none⟩ (.int .u64 x.obj)).setCell ⟨w.heap.size, 3, none⟩ (.int .u64 x.arg)).setCell ⟨w.heap.size, 4, none⟩ (.slice none 0 0)).drew) := ((((((But.refl (fun q => q = w.heap.size) U3).setCell ⟨w.heap.size, 0, none⟩ (fun _ => rfl) _).setCell ⟨w.heap.size, 1, none⟩ (fun _ => rfl) _).setCell ⟨w.heap.size, 2, none⟩ (fun _ => rfl) _).setCell ⟨w.heap.size, 3, none⟩ (fun _ => rfl) _).setCell ⟨w.heap.size, 4, none⟩ (fun _ => rfl) _).drew
            have p4 : ((((((U3.setCell ⟨w.heap.size, 0, none⟩ (.int .i64 G.1)).setCell ⟨w.heap.size, 1, none⟩ (.int .i64 x.kind)).setCell ⟨w.heap.size, 2, none⟩ (.int .u64 x.obj)).setCell ⟨w.heap.size, 3, none⟩ (.int .u64 x.arg)).setCell ⟨w.heap.size, 4, none⟩ (.slice none 0 0)).drew).heap[w.heap.size]? = some (.cells #[.int .i64 G.1, .int .i64 x.kind, .int .u64 x.obj, .int .u64 x.arg, .slice none 0 0] 46 (0, 0)) := (set1_heap (i := 4) (.slice none 0 0) (set1_heap (i := 3) (.int .u64 x.arg) (set1_heap (i := 2) (.int .u64 x.obj) (set1_heap (i := 1) (.int .i64 x.kind) (set1_heap (i := 0) (.int .i64 G.1) HR3.out)))))
            generalize hU4 : (((((U3.setCell ⟨w.heap.size, 0, none⟩ (.int .i64 G.1)).setCell ⟨w.heap.size, 1, none⟩ (.int .i64 x.kind)).setCell ⟨w.heap.size, 2, none⟩ (.int .u64 x.obj)).setCell ⟨w.heap.size, 3, none⟩ (.int .u64 x.arg)).setCell ⟨w.heap.size, 4, none⟩ (.slice none 0 0)).drew = U4 at B4 p4
            have HB4' : Hid _ := hide B4
            have HP4 : Hid _ := hide p4
            clear B4 p4 hU4 y0 y1 y2 y3 y4 g0 g1 g2 g3 g4
            refine hKK.out _ _ (HS3.out _ HB4'.out) (fun hHeld17 => ?_)
            clear hKK KK
            refine wpAnyH_ready (rs := [18]) (by kernel_rfl) (by simp) ?_
            refine AllReadyH.cons (o := _) rfl (fun KK hKK => ?_) AllReadyH.nil
            go_simp
            refine hKK.out _ _ (HS3.out _ HB4'.out) (fun hHeld18 => ?_)
            clear hKK KK
            refine wpAnyH_ready (rs := [19]) (by kernel_rfl) (by simp) ?_
            refine AllReadyH.cons (o := _) rfl (fun KK hKK => ?_) AllReadyH.nil
            go_simp
            refine hKK.out _ _ (HS3.out _ HB4'.out) (fun hHeld19 => ?_)
            clear hKK KK
            refine wpAnyH_done (by kernel_rfl) ?_ _
            refine NoPanic.normal ?_
            go_wp2_with fail
            refine bodyPost_ret (results_ctt Try.results17 _ _ w.heap.size _ _ _ _ _ _ rfl HP4.out Try.underlying46 rfl (by kernel_rfl) rfl rfl) rfl ?_
            refine .inl ⟨kb, n, G, x, HG.out, HAN.out, HPK.out, HSX.out, rfl, HRM.out.butE HB4'.out (by have := hp; omega) ⟨_, HR3.out⟩, ?_⟩
            exact HBT.out.trans HB4'.out (fun q hq e => by have e9 : q = w.heap.size := e; omega)
end Go.Proofs.Ytdlpffbeladgaaa
