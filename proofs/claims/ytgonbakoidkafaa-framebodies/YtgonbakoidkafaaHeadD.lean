/-
  DecodeHead, the program's: the walk.
-/
import Derived.Test.YtgonbakoidkafaaHeadC
namespace Go.Proofs.Ytgonbakoidkafaa
open Go.RowKit
/-- A head in block b. -/
def HBlk (w : World) (b : Nat) (T : TypeId) (G : Nat → Int) : Prop := w.heap[b]? = some (.cells (hcs G) T (0, 0))
theorem HBlk.cell {w : World} {b : Nat} {T : TypeId} {G : Nat → Int} (h : HBlk w b T G) {k : Nat} (hk : k < 5) : w.cell? ⟨b, k, none⟩ = some (.int .i64 (G k)) := by
  rw [cell_of_row w b k (hcs G) T (0, 0) h, hcs_get G k hk]
theorem HBlk.free {w : World} {b : Nat} {T : TypeId} {G : Nat → Int} (h : HBlk w b T G) (k : Nat) : w.frozen? ⟨b, k, none⟩ = false := frozen_of_row w b k _ T h
theorem HBlk.below {w w' : World} {b B : Nat} {T : TypeId} {G : Nat → Int} (h : HBlk w b T G) (hb : Below B w w') (hlt : b < B) : HBlk w' b T G := (hb.block b hlt).trans h
theorem hcs_one (G : Nat → Int) : (hcs G).all (·.oneCell') = true := by simp [hcs, Value.oneCell']
theorem HBlk.lt {w : World} {b : Nat} {T : TypeId} {G : Nat → Int} (h : HBlk w b T G) : b < w.heap.size := by
  obtain ⟨hlt, _⟩ := Array.getElem?_eq_some_iff.1 h
  exact hlt
theorem HBlk.set {w : World} {b : Nat} {T : TypeId} {G : Nat → Int} (h : HBlk w b T G) {k : Nat} (hk : k < 5) (x : Int) : HBlk (w.setCell ⟨b, k, none⟩ (.int .i64 x)) b T (upd G k x) := by
  unfold HBlk
  rw [setCell_eq_setRow w b k (hcs G) T (0, 0) _ h, hcs_upd G k x hk]
  exact setRow_heap w b _ _ T (0, 0) h
theorem HBlk.other {w : World} {b : Nat} {T : TypeId} {G : Nat → Int} (h : HBlk w b T G) {a : Addr} (ha : b ≠ a.block) (v : Value) : HBlk (w.setCell a v) b T G := (Below.heap_setCell w a v b ha).trans h
set_option maxHeartbeats 1600000 in
theorem dh_core (b off n c : Nat) (zs : List Int) (w : World) (hr : Row w (some ⟨b, off, none⟩) n zs) (hn : (n : Int) ≤ 9223372036854700000) (hn0 : 0 < n) (hc : w.cell? ⟨b, off, none⟩ = some (.int .u8 1)) :
    Calls Try.prog 10 #[.slice (some ⟨b, off, none⟩) n c] w fun e w' => e = .returned (dhGo zs 5 0 1 zer) ∧ Below w.heap.size w w' := by
  obtain ⟨R, hR⟩ : ∃ R, dhGo zs 5 0 1 zer = R := ⟨_, rfl⟩
  have HR := hide hR
  rw [hR]
  have hn' : (0 : Int) < (n : Int) := by omega
  have hne : ((n : Int) == 0) = false := by simp; omega
  have hc' : ∀ o, (w.alloc o).cell? ⟨b, off, none⟩ = some (.int .u8 1) := fun o => ((below_alloc1 w o).cell (p := ⟨b, off, none⟩) (World.block_lt_of_cell? w _ hc)).trans hc
  have Hr := hide hr
  clear hR hc hr
  go_enter Try.func10, Try.ntmps10
  go_wp2_with fail
  refine (fo_any (w.heap.size + 1) _).mono ?_
  rintro r w3 ⟨rfl, hb3⟩
  have h2 : HBlk w3 w.heap.size 23 zer := HBlk.below (heap_alloc2_old w (.cells (hcs zer) 23) (.cells (hcs zer) 23)) hb3 (Nat.lt_of_lt_of_le (by omega) (Nat.le_of_eq (show w.heap.size + 2 = _ by simp)))
  have h4 : HBlk w3 (w.heap.size + 1) 23 zer := HBlk.below (heap_alloc2_new w (.cells (hcs zer) 23) (.cells (hcs zer) 23)) hb3 (Nat.lt_of_lt_of_le (by omega) (Nat.le_of_eq (show w.heap.size + 2 = _ by simp)))
  have hb : Below w.heap.size w w3 := Below.on (below_alloc2 w _ _) hb3
  have H2 := hide h2
  have H4 := hide h4
  have HB := hide hb
  clear h2 h4 hb hb3 hc'
  go_wp2
  go_loopw [5, 21] (fun sat si wr => ∃ (k : Nat) (p : Int) (G : Nat → Int), k ≤ 5 ∧ si = .int .i64 k ∧ sat = .int .i64 p ∧ 0 ≤ p ∧ p ≤ n ∧ (∀ i, i < k → lst i ≤ G i ∧ G i ≤ tp i) ∧ (∀ i, k ≤ i → G i = 0) ∧ dhGo zs (5 - k) k p G = R ∧ HBlk wr w.heap.size 23 zer ∧ HBlk wr (w.heap.size + 1) 23 G ∧ Below w.heap.size w wr)
    (fun _ si _ => 5 - (intOf si).toNat)
  case atStart => exact ⟨0, 1, zer, by omega, rfl, rfl, by omega, by omega, fun i hi => by omega, fun i _ => rfl, HR.out, H2.out, H4.out, HB.out⟩
  case round =>
    obtain ⟨k, p, G, hk, rfl, rfl, hp0, hp1, hG, hZ, hgo, h2, h4, hb⟩ := hrel
    have hlen := Hr.out.len
    clear HR H2 H4 HB
    by_cases hlt : k < 5
    · obtain ⟨f, hf⟩ : ∃ f, 5 - k = f + 1 := ⟨4 - k, by omega⟩
      rw [hf] at hgo
      have hfk : f = 5 - (k + 1) := by omega
      have hidx := ptr_index (w.heap.size + 1) k hlt
      have rc := rc_any (some ⟨b, off, none⟩) n c p zs wr (Hr.out.below hb) hn
      have hbd := rdAt_bd zs p Hr.out.u8
      have hpl := rdAt_place zs p
      obtain ⟨q3, hq⟩ : ∃ q3, rdAt zs p = q3 := ⟨_, rfl⟩
      obtain ⟨x, q, r⟩ := q3
      have HQ := hide hq
      rw [hq] at rc hbd hpl
      simp only [out3] at rc hbd hpl
      have hx0 := hbd.1
      have hx1 := hbd.2.1
      have HGO := hide hgo
      have HG := hide hG
      have HZ := hide hZ
      have H2 := hide h2
      have H4 := hide h4
      have HB := hide hb
      have RC := hide rc
      clear hq hgo hG hZ rc hbd hf h2 h4 hb
      by_cases h0 : r = 0
      · subst h0
        obtain ⟨hpq, hqn, _⟩ := hpl rfl
        rw [hlen] at hqn
        clear hpl hlen
        obtain ⟨y, hy⟩ : ∃ y, y = min x 9223372036854775807 := ⟨_, rfl⟩
        rw [← hy] at RC
        have hck := H4.out.cell hlt
        have hfr := H4.out.free k
        have hm := hm_cells (upd G k y) (wr.setCell ⟨w.heap.size + 1, k, none⟩ (.int .i64 y))
        rw [okG hlt HG.out HZ.out y] at hm
        have L4 := hide (H4.out.set hlt y)
        have L2 := hide (H2.out.other (a := ⟨w.heap.size + 1, k, none⟩) (by simp) (.int .i64 y))
        have LB := hide (HB.out.setCell (p := ⟨w.heap.size + 1, k, none⟩) (by simp) (.int .i64 y))
        by_cases hbnd : lst k ≤ x ∧ x ≤ tp k
        · have hyx : y = x := by have := tp_bd k; omega
          subst hyx
          rw [decide_eq_true hbnd] at hm
          have HM := hide hm
          clear hm hy
          go_wp2_with fail
          refine RC.out.mono ?_
          rintro e w4 ⟨rfl, rfl⟩
          clear RC
          go_wp2_with (first
            | (refine wpList_load_row rfl 23 (.tmp 4) rfl (w.heap.size + 1) rfl 23 _ (0, 0) _ L4.out Try.underlying23 rfl Try.size23 ?_)
            | (go_at_call 14; refine HM.out.mono ?_; rintro e w5 ⟨rfl, hb5⟩))
          have hb5s := hb5.size
          have N2 := L2.out.below hb5 L2.out.lt
          have N4 := L4.out.below hb5 L4.out.lt
          have NB := LB.out.trans (hb5.mono LB.out.size)
          have E := HGO.out
          rw [dhGo_ok HQ.out (by omega), hfk] at E
          refine ⟨⟨k + 1, q, upd G k y, by omega, by go_num, rfl, by omega, by omega, fun i hi => ?_, fun i hi => ?_, E, N2, N4, NB⟩, by simp [intOf]; omega⟩
          · unfold upd
            by_cases e : i = k
            · rw [if_pos e, e]; exact hbnd
            · rw [if_neg e]; exact HG.out i (by omega)
          · unfold upd
            rw [if_neg (by omega)]; exact HZ.out i (by omega)
        · have hbn2 : ¬ (lst k ≤ y ∧ y ≤ tp k) := by have := tp_bd k; have := lst_bd k; omega
          rw [decide_eq_false hbn2] at hm
          have HM := hide hm
          have HBn := hide hbnd
          clear hm hy hbn2 hbnd
          go_wp2_with fail
          refine RC.out.mono ?_
          rintro e w4 ⟨rfl, rfl⟩
          clear RC
          go_wp2_with (first
            | (refine wpList_load_row rfl 23 (.tmp 4) rfl (w.heap.size + 1) rfl 23 _ (0, 0) _ L4.out Try.underlying23 rfl Try.size23 ?_)
            | (go_at_call 14; refine HM.out.mono ?_; rintro e w5 ⟨rfl, hb5⟩; have N2 := hide (L2.out.below hb5 L2.out.lt); have NB := hide (LB.out.trans (hb5.mono LB.out.size)); clear hb5)
            | (refine wpList_store_row rfl 23 (.tmp 2) (.tmp 41) rfl w.heap.size (hcs zer) rfl rfl 23 (hcs zer) N2.out Try.size23 rfl (hcs_one _) ?_))
          refine bodyPost_ret (v := errV 32) (by exact results_cell_tmp Try.results10 _ _ w.heap.size 23 (hcs zer) (0, 0) _ rfl (setRow_heap _ _ _ _ _ _ N2.out) Try.underlying23 rfl Try.size23) rfl ⟨ret_eq (HGO.out.symm.trans (dhGo_bad HQ.out (by have := HBn.out; omega))), below_setRow NB.out (Nat.le_refl _) _⟩
      · have hr0 : (r != 0) = true := by simp [h0]
        have H0 := hide h0
        clear h0 hpl hlen
        go_wp2_with fail
        refine RC.out.mono ?_
        rintro e w4 ⟨rfl, rfl⟩
        clear RC
        go_wp2_with (refine wpList_store_row rfl 23 (.tmp 2) (.tmp 33) rfl w.heap.size (hcs zer) rfl rfl 23 (hcs zer) H2.out Try.size23 rfl (hcs_one _) ?_)
        refine bodyPost_ret (v := errV r) (by exact results_cell_tmp Try.results10 _ _ w.heap.size 23 (hcs zer) (0, 0) _ rfl (setRow_heap _ _ _ _ _ _ H2.out) Try.underlying23 rfl Try.size23) rfl ⟨ret_eq (HGO.out.symm.trans (dhGo_err HQ.out H0.out)), below_setRow HB.out (Nat.le_refl _) _⟩
    · have hk5 : k = 5 := by omega
      subst hk5
      have HGO := hide hgo
      have H2 := hide h2
      have H4 := hide h4
      have HB := hide hb
      clear hgo h2 h4 hb hG hZ
      by_cases hpn : p < (n : Int)
      · have E : Hid (R = errV 33) := by have e := HGO.out; rw [Nat.sub_self, dhGo, if_pos (by omega)] at e; exact e.symm
        clear hlen
        go_wp2_with (refine wpList_store_row rfl 23 (.tmp 2) (.tmp 48) rfl w.heap.size (hcs zer) rfl rfl 23 (hcs zer) H2.out Try.size23 rfl (hcs_one _) ?_)
        refine bodyPost_ret (v := errV 33) (by exact results_cell_tmp Try.results10 _ _ w.heap.size 23 (hcs zer) (0, 0) _ rfl (setRow_heap _ _ _ _ _ _ H2.out) Try.underlying23 rfl Try.size23) rfl ⟨ret_eq E.out, below_setRow HB.out (Nat.le_refl _) _⟩
      · have E : Hid (R = .tuple #[.agg (hcs G), .int .i64 0]) := by have e := HGO.out; rw [Nat.sub_self, dhGo, if_neg (by omega)] at e; exact e.symm
        clear hlen
        go_wp2_with (first
          | (refine wpList_load_row rfl 23 (.tmp 4) rfl (w.heap.size + 1) rfl 23 _ (0, 0) _ H4.out Try.underlying23 rfl Try.size23 ?_)
          | (refine wpList_store_row rfl 23 (.tmp 2) (.tmp 49) rfl w.heap.size (hcs G) rfl rfl 23 (hcs zer) H2.out Try.size23 rfl (hcs_one _) ?_))
        refine bodyPost_ret (v := .tuple #[.agg (hcs G), .int .i64 0]) (by exact results_cell_tmp Try.results10 _ _ w.heap.size 23 (hcs G) (0, 0) _ rfl (setRow_heap _ _ _ _ _ _ H2.out) Try.underlying23 rfl Try.size23) rfl ⟨ret_eq E.out, below_setRow HB.out (Nat.le_refl _) _⟩
end Go.Proofs.Ytgonbakoidkafaa
