/-
  DecodeHead, the document's: the walk.
-/
import Derived.Test.YtgonbakoidkafaaHeadD
namespace Go.Proofs.Ytgonbakoidkafaa
open Go.RowKit
theorem rdh_zero (a : Option Addr) (c : Nat) (w : World) :
    Calls Try.prog 11 #[.slice a 0 c] w fun e w' => e = .returned (errV 10) ∧ Below w.heap.size w w' := by
  go_enter Try.func11, Try.ntmps11
  go_wp2
  refine bodyPost_ret (v := errV 10) (by simp [results, Try.results11, go_sem, errV, hcs, zer]) rfl ⟨rfl, below_alloc1 _ _⟩
theorem rdh_one (b off n c : Nat) (z : Int) (w : World) (hn : 0 < n) (hc : w.cell? ⟨b, off, none⟩ = some (.int .u8 z)) (hz : z ≠ 1) :
    Calls Try.prog 11 #[.slice (some ⟨b, off, none⟩) n c] w fun e w' => e = .returned (errV 32) ∧ Below w.heap.size w w' := by
  have hn' : (0 : Int) < (n : Int) := by omega
  have hne : ((n : Int) == 0) = false := by simp; omega
  have hz' : (z != 1) = true := by simp [hz]
  have hc' : ∀ o, (w.alloc o).cell? ⟨b, off, none⟩ = some (.int .u8 z) := fun o => ((below_alloc1 w o).cell (p := ⟨b, off, none⟩) (World.block_lt_of_cell? w _ hc)).trans hc
  clear hz hc
  go_enter Try.func11, Try.ntmps11
  go_wp2
  refine bodyPost_ret (v := errV 32) (by simp [results, Try.results11, go_sem, errV, hcs, zer]) rfl ⟨rfl, below_alloc1 _ _⟩
set_option maxHeartbeats 1600000 in
theorem rdh_core (b off n c : Nat) (zs : List Int) (w : World) (hr : Row w (some ⟨b, off, none⟩) n zs) (hn : (n : Int) ≤ 9223372036854700000) (hn0 : 0 < n) (hc : w.cell? ⟨b, off, none⟩ = some (.int .u8 1)) :
    Calls Try.prog 11 #[.slice (some ⟨b, off, none⟩) n c] w fun e w' => e = .returned (dhGo zs 5 0 1 zer) ∧ Below w.heap.size w w' := by
  obtain ⟨R, hR⟩ : ∃ R, dhGo zs 5 0 1 zer = R := ⟨_, rfl⟩
  have HR := hide hR
  rw [hR]
  have hn' : (0 : Int) < (n : Int) := by omega
  have hne : ((n : Int) == 0) = false := by simp; omega
  have hc' : ∀ o, (w.alloc o).cell? ⟨b, off, none⟩ = some (.int .u8 1) := fun o => ((below_alloc1 w o).cell (p := ⟨b, off, none⟩) (World.block_lt_of_cell? w _ hc)).trans hc
  have Hr := hide hr
  clear hR hc hr
  go_enter Try.func11, Try.ntmps11
  go_wp2_with fail
  refine (mo_any _).mono ?_
  rintro r w1 ⟨rfl, hb1⟩
  have h2 : HBlk w1 w.heap.size 23 zer := HBlk.below (heap_alloc_new w (.cells (hcs zer) 23)) hb1 (by simp)
  have hb0 : Below w.heap.size w w1 := Below.on (below_alloc1 w _) hb1
  have hs1 : w.heap.size < w1.heap.size := h2.lt
  have X2 := hide h2
  have X0 := hide hb0
  clear h2 hb0 hb1 hc'
  go_wp2
  change Code.wp _ _ _ _ (((w1.alloc (.cells (hcs tp) 46)).alloc (.cells (hcs lst) 46)).alloc (.cells (hcs zer) 46))
  have g1 : HBlk ((w1.alloc (.cells (hcs tp) 46)).alloc (.cells (hcs lst) 46)) w1.heap.size 46 tp := heap_alloc2_old w1 _ _
  have g2 : HBlk ((w1.alloc (.cells (hcs tp) 46)).alloc (.cells (hcs lst) 46)) (w1.heap.size + 1) 46 lst := heap_alloc2_new w1 _ _
  have g3 : HBlk ((w1.alloc (.cells (hcs tp) 46)).alloc (.cells (hcs lst) 46)) w.heap.size 23 zer := X2.out.below (below_alloc2 w1 _ _) hs1
  have g4 : Below w.heap.size w ((w1.alloc (.cells (hcs tp) 46)).alloc (.cells (hcs lst) 46)) := Below.on X0.out (below_alloc2 w1 _ _)
  have s1 : ((w1.alloc (.cells (hcs tp) 46)).alloc (.cells (hcs lst) 46)).heap.size = w1.heap.size + 2 := by simp
  generalize (w1.alloc (.cells (hcs tp) 46)).alloc (.cells (hcs lst) 46) = W2 at g1 g2 g3 g4 s1 ⊢
  have g5 : HBlk (W2.alloc (.cells (hcs zer) 46)) (w1.heap.size + 2) 46 zer := by rw [← s1]; exact heap_alloc_new W2 _
  have HT := hide (g1.below (below_alloc1 W2 (.cells (hcs zer) 46)) g1.lt)
  have HL := hide (g2.below (below_alloc1 W2 (.cells (hcs zer) 46)) g2.lt)
  have H2 := hide (g3.below (below_alloc1 W2 (.cells (hcs zer) 46)) g3.lt)
  have HB := hide (Below.on g4 (below_alloc1 W2 (.cells (hcs zer) 46)))
  have H4 := hide g5
  clear g1 g2 g3 g4 g5 s1 X2 X0
  generalize W2.alloc (.cells (hcs zer) 46) = W3 at HT HL H2 HB H4 ⊢
  obtain ⟨T, hT⟩ : ∃ T, T = w1.heap.size := ⟨_, rfl⟩
  rw [← hT] at HT HL H4 hs1 ⊢
  clear hT
  go_loopw [7, 8] (fun sat si wr => ∃ (k : Nat) (p : Int) (G : Nat → Int), k ≤ 5 ∧ si = .int .i64 k ∧ sat = .int .i64 p ∧ 0 ≤ p ∧ p ≤ n ∧ (∀ i, k ≤ i → G i = 0) ∧ dhGo zs (5 - k) k p G = R ∧ HBlk wr w.heap.size 23 zer ∧ HBlk wr (T + 2) 46 G ∧ HBlk wr T 46 tp ∧ HBlk wr (T + 1) 46 lst ∧ Below w.heap.size w wr)
    (fun _ si _ => 5 - (intOf si).toNat)
  case atStart => exact ⟨0, 1, zer, by omega, rfl, rfl, by omega, by omega, fun i _ => rfl, HR.out, H2.out, H4.out, HT.out, HL.out, HB.out⟩
  case round =>
    obtain ⟨k, p, G, hk, rfl, rfl, hp0, hp1, hZ, hgo, h2, h4, ht, hl, hb⟩ := hrel
    have hlen := Hr.out.len
    clear HR H2 H4 HB HT HL
    by_cases hlt : k < 5
    · obtain ⟨f, hf⟩ : ∃ f, 5 - k = f + 1 := ⟨4 - k, by omega⟩
      rw [hf] at hgo
      have hfk : f = 5 - (k + 1) := by omega
      have rc := rru_any (some ⟨b, off, none⟩) n c p zs wr (Hr.out.below hb) hn
      have hbd := rdAt_bd zs p Hr.out.u8
      have hpl := rdAt_place zs p
      obtain ⟨q3, hq⟩ : ∃ q3, rdAt zs p = q3 := ⟨_, rfl⟩
      obtain ⟨x, q, r⟩ := q3
      have HQ := hide hq
      rw [hq] at rc hbd hpl
      simp only [out3] at rc hbd hpl
      have hx0 := hbd.1
      have hx1 := hbd.2.1
      have HGO := hide hgo
      have HZ := hide hZ
      have H2 := hide h2
      have H4 := hide h4
      have HT := hide ht
      have HL := hide hl
      have HB := hide hb
      have RC := hide rc
      clear hq hgo hZ rc hbd hf h2 h4 hb ht hl
      by_cases h0 : r = 0
      · subst h0
        obtain ⟨hpq, hqn, _⟩ := hpl rfl
        rw [hlen] at hqn
        clear hpl hlen
        have hck := H4.out.cell hlt
        have hfr := H4.out.free k
        have hct := HT.out.cell hlt
        have hcl := HL.out.cell hlt
        have hk0 : (0 : Int) ≤ (k : Int) := by omega
        have hk1 : (k : Int) < 5 := by omega
        have lb := lst_bd k
        have tb := tp_bd k
        obtain ⟨lo, hlo⟩ : ∃ lo, lst k = lo := ⟨_, rfl⟩
        obtain ⟨hi, hhi⟩ : ∃ hi, tp k = hi := ⟨_, rfl⟩
        obtain ⟨g, hg⟩ : ∃ g, G k = g := ⟨_, rfl⟩
        rw [hlo] at hcl lb
        rw [hhi] at hct tb
        rw [hg] at hck
        have HLO := hide hlo
        have HHI := hide hhi
        have lb0 := lb.1
        have lb1 := lb.2
        have tb0 := tb.1
        have tb1 := tb.2
        clear hlo hhi hg lb tb
        by_cases c1 : x < lo
        · go_wp2_with fail
          refine RC.out.mono ?_
          rintro e w4 ⟨rfl, rfl⟩
          clear RC
          go_wp2_with (refine wpList_store_row rfl 23 (.tmp 2) (.tmp 54) rfl w.heap.size (hcs zer) rfl rfl 23 (hcs zer) H2.out Try.size23 rfl (hcs_one _) ?_)
          refine bodyPost_ret (v := errV 32) (by exact results_cell_tmp Try.results11 _ _ w.heap.size 23 (hcs zer) (0, 0) _ rfl (setRow_heap _ _ _ _ _ _ H2.out) Try.underlying23 rfl Try.size23) rfl ⟨ret_eq (HGO.out.symm.trans (dhGo_bad HQ.out (.inl (by rw [HLO.out]; exact c1)))), below_setRow HB.out (Nat.le_refl _) _⟩
        · by_cases c2 : hi < x
          · go_wp2_with fail
            refine RC.out.mono ?_
            rintro e w4 ⟨rfl, rfl⟩
            clear RC
            go_wp2_with (refine wpList_store_row rfl 23 (.tmp 2) (.tmp 54) rfl w.heap.size (hcs zer) rfl rfl 23 (hcs zer) H2.out Try.size23 rfl (hcs_one _) ?_)
            refine bodyPost_ret (v := errV 32) (by exact results_cell_tmp Try.results11 _ _ w.heap.size 23 (hcs zer) (0, 0) _ rfl (setRow_heap _ _ _ _ _ _ H2.out) Try.underlying23 rfl Try.size23) rfl ⟨ret_eq (HGO.out.symm.trans (dhGo_bad HQ.out (.inr (by rw [HHI.out]; exact c2)))), below_setRow HB.out (Nat.le_refl _) _⟩
          · go_wp2_with fail
            refine RC.out.mono ?_
            rintro e w4 ⟨rfl, rfl⟩
            clear RC
            go_wp2
            have E := HGO.out
            rw [dhGo_ok HQ.out (by rw [HLO.out, HHI.out]; omega), hfk] at E
            refine ⟨⟨k + 1, q, upd G k x, by omega, by go_num, rfl, by omega, by omega, fun i hi => ?_, E, H2.out.other (by simp only; omega) _, H4.out.set hlt x, HT.out.other (by simp only; omega) _, HL.out.other (by simp only; omega) _, HB.out.setCell (by simp only; omega) _⟩, by simp [intOf]; omega⟩
            unfold upd
            rw [if_neg (by omega)]; exact HZ.out i (by omega)
      · have hr0 : (r != 0) = true := by simp [h0]
        have H0 := hide h0
        clear h0 hpl hlen
        go_wp2_with fail
        refine RC.out.mono ?_
        rintro e w4 ⟨rfl, rfl⟩
        clear RC
        go_wp2_with (refine wpList_store_row rfl 23 (.tmp 2) (.tmp 38) rfl w.heap.size (hcs zer) rfl rfl 23 (hcs zer) H2.out Try.size23 rfl (hcs_one _) ?_)
        refine bodyPost_ret (v := errV r) (by exact results_cell_tmp Try.results11 _ _ w.heap.size 23 (hcs zer) (0, 0) _ rfl (setRow_heap _ _ _ _ _ _ H2.out) Try.underlying23 rfl Try.size23) rfl ⟨ret_eq (HGO.out.symm.trans (dhGo_err HQ.out H0.out)), below_setRow HB.out (Nat.le_refl _) _⟩
    · have hk5 : k = 5 := by omega
      subst hk5
      have HGO := hide hgo
      have H2 := hide h2
      have HB := hide hb
      have c0 := h4.cell (k := 0) (by omega)
      have c1 := h4.cell (k := 1) (by omega)
      have c2 := h4.cell (k := 2) (by omega)
      have c3 := h4.cell (k := 3) (by omega)
      have c4 := h4.cell (k := 4) (by omega)
      clear hgo h2 h4 hb hZ ht hl
      by_cases hpn : p < (n : Int)
      · have E : Hid (R = errV 33) := by have e := HGO.out; rw [Nat.sub_self, dhGo, if_pos (by omega)] at e; exact e.symm
        clear hlen
        go_wp2_with (refine wpList_store_row rfl 23 (.tmp 2) (.tmp 64) rfl w.heap.size (hcs zer) rfl rfl 23 (hcs zer) H2.out Try.size23 rfl (hcs_one _) ?_)
        refine bodyPost_ret (v := errV 33) (by exact results_cell_tmp Try.results11 _ _ w.heap.size 23 (hcs zer) (0, 0) _ rfl (setRow_heap _ _ _ _ _ _ H2.out) Try.underlying23 rfl Try.size23) rfl ⟨ret_eq E.out, below_setRow HB.out (Nat.le_refl _) _⟩
      · have E : Hid (R = .tuple #[.agg (hcs G), .int .i64 0]) := by have e := HGO.out; rw [Nat.sub_self, dhGo, if_neg (by omega)] at e; exact e.symm
        clear hlen
        go_wp2_with (refine wpList_store_row rfl 23 (.tmp 2) (.tmp 75) rfl w.heap.size (hcs G) rfl rfl 23 (hcs zer) H2.out Try.size23 rfl (hcs_one _) ?_)
        refine bodyPost_ret (v := .tuple #[.agg (hcs G), .int .i64 0]) (by exact results_cell_tmp Try.results11 _ _ w.heap.size 23 (hcs G) (0, 0) _ rfl (setRow_heap _ _ _ _ _ _ H2.out) Try.underlying23 rfl Try.size23) rfl ⟨ret_eq E.out, below_setRow HB.out (Nat.le_refl _) _⟩
end Go.Proofs.Ytgonbakoidkafaa
