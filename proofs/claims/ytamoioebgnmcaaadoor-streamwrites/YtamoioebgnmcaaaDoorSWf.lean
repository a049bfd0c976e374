/-
  The document's Put, a body full.
-/
import Derived.Test.YtamoioebgnmcaaaDoorSWe
namespace Go.Proofs.YtamoioebgnmcaaaDoor
open Go.RowKit
attribute [local go_sem] Oper.semAt_some
set_option maxHeartbeats 3200000 in
set_option maxRecDepth 8000 in
theorem rwput_full {w : World} {p base : Nat} {lim last : Int} {ra : Option Addr} {rn rc : Nat} {cur : List Rc} (t k o a q : Int) (h : w.heap[p]? = some (.cells (rwc lim (.slice ra rn rc) last) 81 (0, 0))) (ho : w.ownsRow base 52 5 (.slice ra rn rc) rn (flat cur)) (hbase : base ≤ w.heap.size) (hr : (⟨t, k, o, a, q⟩ : Rc).ok) (hf : flt last ⟨t, k, o, a, q⟩ = 0) (hn : rn ≤ 1048576)
    (hs : strE 0 (cur ++ [⟨t, k, o, a, q⟩]) = 0) (hok : ∀ x ∈ cur ++ [(⟨t, k, o, a, q⟩ : Rc)], x.ok) (hlim : 64 ≤ lim ∧ lim ≤ 1048576) (y : List Int) (hZ : cutS lim.toNat [] St.zero (cur ++ [⟨t, k, o, a, q⟩]) = [encs St.zero cur, y]) (hu8 : ∀ z ∈ encs St.zero cur, 0 ≤ z ∧ z ≤ 255) :
    Calls Tryd.prog 31 #[.pointer (some ⟨p, 0, none⟩), .agg #[.int .i64 t, .int .i64 k, .int .u64 o, .int .u64 a, .int .i64 q]] w fun e w' => ∃ g ai ci, e = .returned (.tuple #[.slice ai (encs St.zero cur).length ci, .int .i64 0]) ∧ Row w' ai (encs St.zero cur).length (encs St.zero cur) ∧ w'.heap[p]? = some (.cells (rwc lim (.slice (some ⟨g, 0, none⟩) 1 1) t) 81 (0, 0)) ∧ w'.ownsRow base 52 5 (.slice (some ⟨g, 0, none⟩) 1 1) 1 (flat [⟨t, k, o, a, q⟩]) ∧ But (fun g => g = p ∨ (Value.slice ra rn rc).ownBlock = some g) w w' ∧ w.heap.size ≤ g := by
  obtain ⟨W0, hW0⟩ : ∃ W0, W0 = w.alloc (.cells #[.int .i64 t, .int .i64 k, .int .u64 o, .int .u64 a, .int .i64 q] 52) := ⟨_, rfl⟩
  have b0 : Below w.heap.size w W0 := by rw [hW0]; exact below_alloc1 _ _
  have LR : W0.heap[w.heap.size]? = some (.cells #[.int .i64 t, .int .i64 k, .int .u64 o, .int .u64 a, .int .i64 q] 52 (0, 0)) := by rw [hW0]; exact heap_new _ _
  have LW := (b0.block p (lt_of_heap h)).trans h
  have hpl := lt_of_heap h
  obtain ⟨x0, x1, x2, x3, x4⟩ := r5_cells LR
  obtain ⟨c0, c1, c2⟩ := r3_cells LW
  have FA := fun W => rfault_any last t k o a q W hr
  rw [hf] at FA
  have HLR : Hid _ := hide LR
  have HLW : Hid _ := hide LW
  have HKS : Hid (∀ X, Below W0.heap.size W0 X → X.cell? ⟨p, 2, none⟩ = some (.int .i64 last) ∧ X.cell? ⟨w.heap.size, 0, none⟩ = some (.int .i64 t) ∧ X.cell? ⟨w.heap.size, 1, none⟩ = some (.int .i64 k) ∧ X.cell? ⟨w.heap.size, 2, none⟩ = some (.int .u64 o) ∧ X.cell? ⟨w.heap.size, 3, none⟩ = some (.int .u64 a) ∧ X.cell? ⟨w.heap.size, 4, none⟩ = some (.int .i64 q)) := hide (fun X hX => by
    have h1 := (hX.block _ (lt_of_heap HLR.out)).trans HLR.out
    have h2 := (hX.block _ (lt_of_heap HLW.out)).trans HLW.out
    obtain ⟨y0, y1, y2, y3, y4⟩ := r5_cells h1
    exact ⟨(r3_cells h2).2.2, y0, y1, y2, y3, y4⟩)
  have HB0 : Hid _ := hide b0
  have HW0 : Hid _ := hide hW0
  have HO : Hid _ := hide ho
  have HS : Hid _ := hide hs
  have HOK : Hid _ := hide hok
  have HLM : Hid _ := hide hlim
  have HZ : Hid _ := hide hZ
  have hs0 := b0.size
  clear h ho hr hf hs hok hlim hZ LR LW hW0 b0 c0 c1
  go_enter Tryd.func31, Tryd.ntmps31
  go_upto_region 3 with fail
  rw [← HW0.out]
  go_region_held3 (fun X => X.cell? ⟨p, 2, none⟩ = some (.int .i64 last) ∧ X.cell? ⟨w.heap.size, 0, none⟩ = some (.int .i64 t) ∧ X.cell? ⟨w.heap.size, 1, none⟩ = some (.int .i64 k) ∧ X.cell? ⟨w.heap.size, 2, none⟩ = some (.int .u64 o) ∧ X.cell? ⟨w.heap.size, 3, none⟩ = some (.int .u64 a) ∧ X.cell? ⟨w.heap.size, 4, none⟩ = some (.int .i64 q)) (first | exact HKS.out _ B1 | exact HKS.out _ (Below.refl _ _).drew | exact HKS.out _ (Below.refl _ _)) (first
    | (go_at_call 37; go_must (
       refine (FA _).mono ?_
       rintro e w1 ⟨rfl, hb1⟩
       have B1 : Below W0.heap.size W0 w1 := (Below.refl _ _).drew.trans hb1)))
  have L1 := (B1.block p (lt_of_heap HLW.out)).trans HLW.out
  have R1 := (B1.block _ (lt_of_heap HLR.out)).trans HLR.out
  have hs1 := B1.size
  clear x0 x1 x2 x3 x4 c2
  obtain ⟨x0, x1, x2, x3, x4⟩ := r5_cells R1
  obtain ⟨c0, c1, c2⟩ := r3_cells L1
  have f2 := frz L1 2
  obtain ⟨W2, hW2⟩ : ∃ W2, W2 = w1.setCell ⟨p, 2, none⟩ (.int .i64 t) := ⟨_, rfl⟩
  have b2 : But (fun g => g = p) w1 W2 := by rw [hW2]; exact (But.refl (fun g => g = p) w1).setCell ⟨p, 2, none⟩ (fun _ => rfl) _
  have L2 : W2.heap[p]? = some (.cells (rwc lim (.slice ra rn rc) t) 81 (0, 0)) := by rw [hW2]; exact set1_heap _ L1
  have hne : w.heap.size ≠ p := by omega
  have R2 := (b2.block w.heap.size (lt_of_heap R1) hne).trans R1
  have bw1 : Below w.heap.size w w1 := HB0.out.trans (B1.mono HB0.out.size)
  have HB2 : Hid (But (fun g => g = p ∨ (Value.slice ra rn rc).ownBlock = some g) w W2) := hide ((But.of_below bw1).trans (b2.mono (fun _ e => .inl e)) (fun _ _ e => e))
  have HO2 : Hid (W2.ownsRow base 52 5 (.slice ra rn rc) rn (flat cur)) := hide (own_but (own_below HO.out bw1) b2 (fun g hg e => own_ne_cells (own_below HO.out bw1) L1 (by decide) (by rw [← (e : g = p)]; exact hg)))
  have HL2 : Hid _ := hide L2
  have HR2 : Hid _ := hide R2
  have hs2 : w.heap.size + 1 ≤ W2.heap.size := by have h9 := lt_of_heap R2; omega
  have HW2 : Hid _ := hide hW2
  clear hb1 B1 L1 R1 b2 hW2 bw1 FA HKS
  go_upto_region 7 with fail
  rw [← HW2.out]
  clear x0 x1 x2 x3 x4 c0 c1 c2 f2
  obtain ⟨x0, x1, x2, x3, x4⟩ := r5_cells R2
  obtain ⟨c0, c1, c2⟩ := r3_cells L2
  clear L2 R2
  go_cut [24] from 24 to 33 (fun _ wx => ∃ g c, Hid (wx.heap[p]? = some (.cells (rwc lim (.slice (some ⟨g, 0, none⟩) (rn + 1) c) t) 81 (0, 0))) ∧ Hid (wx.ownsRow base 52 5 (.slice (some ⟨g, 0, none⟩) (rn + 1) c) (rn + 1) (flat (cur ++ [⟨t, k, o, a, q⟩]))) ∧ Hid (But (fun g => g = p ∨ (Value.slice ra rn rc).ownBlock = some g) w wx) ∧ Hid ((Value.slice ra rn rc).ownBlock = some g ∨ w.heap.size ≤ g) ∧ Hid (wx.heap[w.heap.size]? = some (.cells #[.int .i64 t, .int .i64 k, .int .u64 o, .int .u64 a, .int .i64 q] 52 (0, 0))))
  case first J K' hJ hK =>
    obtain ⟨W3, hW3⟩ : ∃ W3, W3 = W2.drew := ⟨_, rfl⟩
    have b3 : Below W2.heap.size W2 W3 := by rw [hW3]; exact (Below.refl _ _).drew
    have L3 := (b3.block p (lt_of_heap HL2.out)).trans HL2.out
    have R3 := (b3.block _ (lt_of_heap HR2.out)).trans HR2.out
    have HO3 : Hid _ := hide (own_below HO2.out b3)
    have HR3 : Hid _ := hide R3
    have K1 : Hid _ := hide (r5_cells R3)
    have q1 := (r3_cells L3).2.1
    have hs3 := b3.size
    have hp3 := lt_of_heap L3
    have HB3 : Hid (But (fun g => g = p ∨ (Value.slice ra rn rc).ownBlock = some g) w W3) := hide (HB2.out.trans (But.of_below (S := fun g => g = p ∨ (Value.slice ra rn rc).ownBlock = some g) b3) (fun _ _ e => e))
    have HL3 : Hid _ := hide L3
    have HW3 : Hid _ := hide hW3
    have hnp : (Value.slice ra rn rc).ownBlock ≠ some p := own_ne_cells HO3.out L3 (by decide)
    have hnr : (Value.slice ra rn rc).ownBlock ≠ some w.heap.size := fun e9 => by have := (HO.out.lt _ e9).2; omega
    have hw3' : w.heap.size < W3.heap.size := by omega
    have K2 : Hid (∀ ob : Obj, (W3.alloc ob).cell? ⟨w.heap.size, 0, none⟩ = some (.int .i64 t) ∧ (W3.alloc ob).cell? ⟨w.heap.size, 1, none⟩ = some (.int .i64 k) ∧ (W3.alloc ob).cell? ⟨w.heap.size, 2, none⟩ = some (.int .u64 o) ∧ (W3.alloc ob).cell? ⟨w.heap.size, 3, none⟩ = some (.int .u64 a) ∧ (W3.alloc ob).cell? ⟨w.heap.size, 4, none⟩ = some (.int .i64 q)) := hide (fun ob => by
      exact r5_cells ((Below.heap_alloc _ _ _ hw3').trans R3))
    clear hW3 b3 L3 R3 x0 x1 x2 x3 x4 c0 c1 c2
    refine wp_region_noPanic ?_
    refine wp_region_held_drew (S := fun X => X.cell? ⟨w.heap.size, 0, none⟩ = some (.int .i64 t) ∧ X.cell? ⟨w.heap.size, 1, none⟩ = some (.int .i64 k) ∧ X.cell? ⟨w.heap.size, 2, none⟩ = some (.int .u64 o) ∧ X.cell? ⟨w.heap.size, 3, none⟩ = some (.int .u64 a) ∧ X.cell? ⟨w.heap.size, 4, none⟩ = some (.int .i64 q)) (by kernel_rfl) (by rw [← HW3.out]; exact K1.out) (fun hHeld => ?_)
    rw [← HW3.out] at hHeld ⊢
    refine wpAnyH_take (i := 0) (oi := _) (v := ?v0) rfl (by kernel_rfl) (by kernel_rfl) (by kernel_rfl) (fun _ _ _ h => h) (Or.inl ⟨by rfl, ?y0⟩) (by assumption) ?r0
    case y0 => (intro w' hSw; (try dsimp only at hSw); go_simp; try with_reducible rfl)
    refine wpAnyH_take (i := 1) (oi := _) (v := ?v1) rfl (by kernel_rfl) (by kernel_rfl) (by kernel_rfl) (fun _ _ _ h => h) (Or.inl ⟨by rfl, ?y1⟩) (by assumption) ?r1
    case y1 => (intro w' hSw; (try dsimp only at hSw); go_simp; try with_reducible rfl)
    refine wpAnyH_take (i := 2) (oi := _) (v := ?v2) rfl (by kernel_rfl) (by kernel_rfl) (by kernel_rfl) (fun _ _ _ h => h) (Or.inl ⟨by rfl, ?y2⟩) (by assumption) ?r2
    case y2 => (intro w' hSw; (try dsimp only at hSw); go_simp; try with_reducible rfl)
    refine wpAnyH_take (i := 3) (oi := _) (v := ?v3) rfl (by kernel_rfl) (by kernel_rfl) (by kernel_rfl) (fun _ _ _ h => h) (Or.inl ⟨by rfl, ?y3⟩) (by assumption) ?r3
    case y3 => (intro w' hSw; (try dsimp only at hSw); go_simp; try with_reducible rfl)
    refine wpAnyH_take (i := 5) (oi := _) (v := ?v5) rfl (by kernel_rfl) (by kernel_rfl) (by kernel_rfl) (fun _ _ _ h => h) (Or.inl ⟨by rfl, ?y5⟩) (by assumption) ?r5
    case y5 => (intro w' hSw; (try dsimp only at hSw); go_simp; try with_reducible rfl)
    refine wpAnyH_ready (rs := [4, 6]) (by kernel_rfl) (by simp) ?_
    refine AllReadyH.cons (o := _) rfl (fun KK hKK => ?_) (AllReadyH.cons (o := _) rfl (fun KK hKK => ?_) AllReadyH.nil)
    · go_simp
      refine hKK.out _ _ K1.out (fun hHeld4 => ?_)
      clear hKK KK
      refine wpAnyH_ready (rs := [6]) (by kernel_rfl) (by simp) ?_
      refine AllReadyH.cons (o := _) rfl (fun KK hKK => ?_) AllReadyH.nil
      go_simp
      refine hKK.out _ _ (K2.out _) (fun hHeld6 => ?_)
      clear hKK KK hHeld4 hHeld
      refine wpAnyH_ready (rs := [7]) (by kernel_rfl) (by simp) ?_
      refine AllReadyH.cons (o := _) rfl (fun KK hKK => ?_) AllReadyH.nil
      refine step_rec (W3.alloc (.cells #[.int .i64 t, .int .i64 k, .int .u64 o, .int .u64 a, .int .i64 q] 52)) rfl (.tmp 28) (.tmp 30) rfl base (.slice ra rn rc) rn cur rfl (HO3.out.alloc _) W3.heap.size ⟨t, k, o, a, q⟩ rfl (heap_new _ _) (by omega) (by simp; omega) ?_
      intro g8 c8 w8 o8 gr8 hl8
      have HLC : Hid ((Value.slice ra rn rc).ownBlock = some g8 ∨ w.heap.size ≤ g8) := hide (hl8.imp id (fun e => by rw [e]; simp; omega))
      have B8 : But (fun g => g = p ∨ (Value.slice ra rn rc).ownBlock = some g) w w8 := (HB3.out.alloc _).grown gr8 (fun _ _ e => .inr e)
      have H8 : w8.heap[p]? = some (.cells (rwc lim (.slice ra rn rc) t) 81 (0, 0)) := ((gr8.block p (by simp; omega) (fun e9 => hnp e9.symm)).trans (Below.heap_alloc _ _ _ hp3)).trans HL3.out
      have K8 : w8.cell? ⟨w.heap.size, 0, none⟩ = some (.int .i64 t) ∧ w8.cell? ⟨w.heap.size, 1, none⟩ = some (.int .i64 k) ∧ w8.cell? ⟨w.heap.size, 2, none⟩ = some (.int .u64 o) ∧ w8.cell? ⟨w.heap.size, 3, none⟩ = some (.int .u64 a) ∧ w8.cell? ⟨w.heap.size, 4, none⟩ = some (.int .i64 q) := by
        obtain ⟨k0, k1, k2, k3, k4⟩ := K2.out (.cells #[.int .i64 t, .int .i64 k, .int .u64 o, .int .u64 a, .int .i64 q] 52)
        exact ⟨gr8.cell (a := ⟨w.heap.size, 0, none⟩) k0 (fun e9 => hnr e9.symm), gr8.cell (a := ⟨w.heap.size, 1, none⟩) k1 (fun e9 => hnr e9.symm), gr8.cell (a := ⟨w.heap.size, 2, none⟩) k2 (fun e9 => hnr e9.symm), gr8.cell (a := ⟨w.heap.size, 3, none⟩) k3 (fun e9 => hnr e9.symm), gr8.cell (a := ⟨w.heap.size, 4, none⟩) k4 (fun e9 => hnr e9.symm)⟩
      refine hKK.out _ _ K8 (fun hHeld7 => ?_)
      clear hKK KK
      refine wpAnyH_take (i := 8) (oi := _) (v := ?v8p) rfl (by kernel_rfl) (by kernel_rfl) (by kernel_rfl) (fun _ _ _ h => h) (Or.inl ⟨by rfl, ?y8p⟩) (by assumption) ?r8p
      case y8p => (intro w' hSw; (try dsimp only at hSw); go_simp; try with_reducible rfl)
      refine wpAnyH_take (i := 9) (oi := _) (v := ?v9p) rfl (by kernel_rfl) (by kernel_rfl) (by kernel_rfl) (fun _ _ _ h => h) (Or.inl ⟨by rfl, ?y9p⟩) (by assumption) ?r9p
      case y9p => (intro w' hSw; (try dsimp only at hSw); go_simp; try with_reducible rfl)
      refine wpAnyH_ready (rs := [10]) (by kernel_rfl) (by simp) ?_
      refine AllReadyH.cons (o := _) rfl (fun KK hKK => ?_) AllReadyH.nil
      have r1 := (r3_cells H8).2.1
      have fz := frz H8 1
      have hpw : ¬ p = w.heap.size := by omega
      have hwp : ¬ w.heap.size = p := by omega
      go_simp
      refine hKK.out _ _ (by obtain ⟨k0, k1, k2, k3, k4⟩ := K8; go_simp) (fun hHeld10 => ?_)
      clear hKK KK hHeld10 hHeld7
      refine wpAnyH_done (by kernel_rfl) ?_ _
      refine NoPanic.normal ?_
      obtain ⟨w9, hw9⟩ : ∃ w9, w9 = w8.setCell ⟨p, 1, none⟩ (.slice (some ⟨g8, 0, none⟩) (rn + 1) c8) := ⟨_, rfl⟩
      rw [← hw9]
      have H9 : w9.heap[p]? = some (.cells (rwc lim (.slice (some ⟨g8, 0, none⟩) (rn + 1) c8) t) 81 (0, 0)) := by rw [hw9]; exact set1_heap _ H8
      have B9 : But (fun k => k = p) w8 w9 := by rw [hw9]; exact (But.refl (fun k => k = p) w8).setCell ⟨p, 1, none⟩ (fun _ => rfl) _
      have O9 : w9.ownsRow base 52 5 (.slice (some ⟨g8, 0, none⟩) (rn + 1) c8) (rn + 1) (flat (cur ++ [⟨t, k, o, a, q⟩])) := own_but o8 B9 (fun k hk e9 => own_ne_cells o8 H8 (by decide) (by rw [← (e9 : k = p)]; exact hk))
      have B10 : But (fun g => g = p ∨ (Value.slice ra rn rc).ownBlock = some g) w w9 := B8.trans (B9.mono (fun _ e => .inl e)) (fun _ _ e => e)
      have R8 := ((gr8.block w.heap.size (by simp; omega) (fun e9 => hnr e9.symm)).trans (Below.heap_alloc _ _ _ hw3')).trans HR3.out
      have R9 := (B9.block w.heap.size (lt_of_heap R8) hwp).trans R8
      refine hK _ _ (Met.intro (hJ _ _ ?_))
      (repeat apply Exists.intro)
      exact ⟨⟨g8, c8, hide H9, hide O9, hide B10, HLC, hide R9⟩, rfl⟩
    · go_simp
      refine hKK.out _ _ (K2.out _) (fun hHeld6 => ?_)
      clear hKK KK
      have q4 := ((below_alloc1 W3 (.cells #[.int .i64 t, .int .i64 k, .int .u64 o, .int .u64 a, .int .i64 q] 52)).cell (p := ⟨p, 1, none⟩) hp3).trans q1
      refine wpAnyH_ready (rs := [4]) (by kernel_rfl) (by simp) ?_
      refine AllReadyH.cons (o := _) rfl (fun KK hKK => ?_) AllReadyH.nil
      go_simp
      refine hKK.out _ _ (K2.out _) (fun hHeld4 => ?_)
      clear hKK KK hHeld4 hHeld q4
      refine wpAnyH_ready (rs := [7]) (by kernel_rfl) (by simp) ?_
      refine AllReadyH.cons (o := _) rfl (fun KK hKK => ?_) AllReadyH.nil
      refine step_rec (W3.alloc (.cells #[.int .i64 t, .int .i64 k, .int .u64 o, .int .u64 a, .int .i64 q] 52)) rfl (.tmp 28) (.tmp 30) rfl base (.slice ra rn rc) rn cur rfl (HO3.out.alloc _) W3.heap.size ⟨t, k, o, a, q⟩ rfl (heap_new _ _) (by omega) (by simp; omega) ?_
      intro g8 c8 w8 o8 gr8 hl8
      have HLC : Hid ((Value.slice ra rn rc).ownBlock = some g8 ∨ w.heap.size ≤ g8) := hide (hl8.imp id (fun e => by rw [e]; simp; omega))
      have B8 : But (fun g => g = p ∨ (Value.slice ra rn rc).ownBlock = some g) w w8 := (HB3.out.alloc _).grown gr8 (fun _ _ e => .inr e)
      have H8 : w8.heap[p]? = some (.cells (rwc lim (.slice ra rn rc) t) 81 (0, 0)) := ((gr8.block p (by simp; omega) (fun e9 => hnp e9.symm)).trans (Below.heap_alloc _ _ _ hp3)).trans HL3.out
      have K8 : w8.cell? ⟨w.heap.size, 0, none⟩ = some (.int .i64 t) ∧ w8.cell? ⟨w.heap.size, 1, none⟩ = some (.int .i64 k) ∧ w8.cell? ⟨w.heap.size, 2, none⟩ = some (.int .u64 o) ∧ w8.cell? ⟨w.heap.size, 3, none⟩ = some (.int .u64 a) ∧ w8.cell? ⟨w.heap.size, 4, none⟩ = some (.int .i64 q) := by
        obtain ⟨k0, k1, k2, k3, k4⟩ := K2.out (.cells #[.int .i64 t, .int .i64 k, .int .u64 o, .int .u64 a, .int .i64 q] 52)
        exact ⟨gr8.cell (a := ⟨w.heap.size, 0, none⟩) k0 (fun e9 => hnr e9.symm), gr8.cell (a := ⟨w.heap.size, 1, none⟩) k1 (fun e9 => hnr e9.symm), gr8.cell (a := ⟨w.heap.size, 2, none⟩) k2 (fun e9 => hnr e9.symm), gr8.cell (a := ⟨w.heap.size, 3, none⟩) k3 (fun e9 => hnr e9.symm), gr8.cell (a := ⟨w.heap.size, 4, none⟩) k4 (fun e9 => hnr e9.symm)⟩
      refine hKK.out _ _ K8 (fun hHeld7 => ?_)
      clear hKK KK
      refine wpAnyH_take (i := 8) (oi := _) (v := ?v8s) rfl (by kernel_rfl) (by kernel_rfl) (by kernel_rfl) (fun _ _ _ h => h) (Or.inl ⟨by rfl, ?y8s⟩) (by assumption) ?r8s
      case y8s => (intro w' hSw; (try dsimp only at hSw); go_simp; try with_reducible rfl)
      refine wpAnyH_take (i := 9) (oi := _) (v := ?v9s) rfl (by kernel_rfl) (by kernel_rfl) (by kernel_rfl) (fun _ _ _ h => h) (Or.inl ⟨by rfl, ?y9s⟩) (by assumption) ?r9s
      case y9s => (intro w' hSw; (try dsimp only at hSw); go_simp; try with_reducible rfl)
      refine wpAnyH_ready (rs := [10]) (by kernel_rfl) (by simp) ?_
      refine AllReadyH.cons (o := _) rfl (fun KK hKK => ?_) AllReadyH.nil
      have r1 := (r3_cells H8).2.1
      have fz := frz H8 1
      have hpw : ¬ p = w.heap.size := by omega
      have hwp : ¬ w.heap.size = p := by omega
      go_simp
      refine hKK.out _ _ (by obtain ⟨k0, k1, k2, k3, k4⟩ := K8; go_simp) (fun hHeld10 => ?_)
      clear hKK KK hHeld10 hHeld7
      refine wpAnyH_done (by kernel_rfl) ?_ _
      refine NoPanic.normal ?_
      obtain ⟨w9, hw9⟩ : ∃ w9, w9 = w8.setCell ⟨p, 1, none⟩ (.slice (some ⟨g8, 0, none⟩) (rn + 1) c8) := ⟨_, rfl⟩
      rw [← hw9]
      have H9 : w9.heap[p]? = some (.cells (rwc lim (.slice (some ⟨g8, 0, none⟩) (rn + 1) c8) t) 81 (0, 0)) := by rw [hw9]; exact set1_heap _ H8
      have B9 : But (fun k => k = p) w8 w9 := by rw [hw9]; exact (But.refl (fun k => k = p) w8).setCell ⟨p, 1, none⟩ (fun _ => rfl) _
      have O9 : w9.ownsRow base 52 5 (.slice (some ⟨g8, 0, none⟩) (rn + 1) c8) (rn + 1) (flat (cur ++ [⟨t, k, o, a, q⟩])) := own_but o8 B9 (fun k hk e9 => own_ne_cells o8 H8 (by decide) (by rw [← (e9 : k = p)]; exact hk))
      have B10 : But (fun g => g = p ∨ (Value.slice ra rn rc).ownBlock = some g) w w9 := B8.trans (B9.mono (fun _ e => .inl e)) (fun _ _ e => e)
      have R8 := ((gr8.block w.heap.size (by simp; omega) (fun e9 => hnr e9.symm)).trans (Below.heap_alloc _ _ _ hw3')).trans HR3.out
      have R9 := (B9.block w.heap.size (lt_of_heap R8) hwp).trans R8
      refine hK _ _ (Met.intro (hJ _ _ ?_))
      (repeat apply Exists.intro)
      exact ⟨⟨g8, c8, hide H9, hide O9, hide B10, HLC, hide R9⟩, rfl⟩
  case rest =>
  obtain ⟨g, c, HL8, HO8, HB8, -, HR8⟩ := hcut
  rename World => w9
  have hpl9 := lt_of_heap HL8.out
  obtain ⟨d0, d1, d2⟩ := r3_cells HL8.out
  have HKT : Hid (∀ X, Below w9.heap.size w9 X → X.cell? ⟨p, 1, none⟩ = some (.slice (some ⟨g, 0, none⟩) (rn + 1) c) ∧ X.cell? ⟨p, 0, none⟩ = some (.int .i64 lim)) := hide (fun X hX => ⟨(hX.cell (p := ⟨p, 1, none⟩) hpl9).trans d1, (hX.cell (p := ⟨p, 0, none⟩) hpl9).trans d0⟩)
  have RB : Hid (∀ W, Below w9.heap.size w9 W → Calls Tryd.prog 38 #[.slice (some ⟨g, 0, none⟩) (rn + 1) c, .int .i64 lim] W fun e w' => Below W.heap.size W w' ∧ ∃ ao co vals, e = .returned (.slice ao 2 co) ∧ Lists w' W.heap.size (.slice ao 2 co) [encs St.zero cur, y] vals) := hide (fun W hW => by
    have h9 := rbodies_any (some ⟨g, 0, none⟩) (rn + 1) c (cur ++ [⟨t, k, o, a, q⟩]) lim W (RRow.of_own (own_below HO8.out hW)) HOK.out HS.out HLM.out
    rw [HZ.out] at h9
    exact h9)
  clear x0 x1 x2 x3 x4 c0 c1 c2
  go_wp2_with fail
  go_region_held3 (fun X => X.cell? ⟨p, 1, none⟩ = some (.slice (some ⟨g, 0, none⟩) (rn + 1) c) ∧ X.cell? ⟨p, 0, none⟩ = some (.int .i64 lim)) (first | exact HKT.out _ B7 | exact HKT.out _ (Below.refl _ _).drew | exact HKT.out _ (Below.refl _ _)) (first
    | (go_at_call 38; go_must (
       refine (RB.out _ (Below.refl _ _).drew).mono ?_
       rintro e w7 ⟨hb7, ao, co, vals, rfl, ls⟩
       have B7 : Below w9.heap.size w9 w7 := (Below.refl _ _).drew.trans hb7)))
  have L7 := (B7.block p hpl9).trans HL8.out
  have R7 := (B7.block _ (lt_of_heap HR8.out)).trans HR8.out
  have hp7 := lt_of_heap L7
  obtain ⟨x0, x1, x2, x3, x4⟩ := r5_cells R7
  have d7 := (r3_cells L7).2.1
  have f7 := frz L7 1
  have HB7 : Hid (But (fun g => g = p ∨ (Value.slice ra rn rc).ownBlock = some g) w w7) := hide (HB8.out.trans (But.of_below (S := fun g => g = p ∨ (Value.slice ra rn rc).ownBlock = some g) B7) (fun _ _ e => e))
  obtain ⟨ai, ci, h1, h2⟩ := ls.each 0 _ rfl
  obtain ⟨lb, hao⟩ : ∃ lb, ao = some ⟨lb, 0, none⟩ := by
    rcases ls.own.2 with ⟨_, e9⟩ | ⟨g9, cap9, cur9, e9, _⟩
    · simp at e9
    · cases e9; exact ⟨g9, rfl⟩
  subst hao
  have hlb : lb ≠ p := fun e => own_ne_cells ls.own L7 (by decide) (by rw [e]; rfl)
  have z1 : w7.cell? ⟨lb, 0, none⟩ = some (.slice ai (encs St.zero cur).length ci) := ls.own.cells (g := lb) rfl 0 _ h1
  have hlbl := World.block_lt_of_cell? w7 _ z1
  obtain ⟨W8, hW8⟩ : ∃ W8, W8 = (w7.setCell ⟨p, 1, none⟩ (.slice (some ⟨w7.heap.size, 0, none⟩) 1 1)).alloc (.cells #[.int .i64 t, .int .i64 k, .int .u64 o, .int .u64 a, .int .i64 q] 52) := ⟨_, rfl⟩
  have bA : But (fun g => g = p) w7 W8 := by rw [hW8]; exact ((But.refl (fun g => g = p) w7).setCell ⟨p, 1, none⟩ (fun _ => rfl) _).alloc _
  have hsz7 : (w7.setCell ⟨p, 1, none⟩ (.slice (some ⟨w7.heap.size, 0, none⟩) 1 1)).heap.size = w7.heap.size := by simp [World.setCell]
  have L8 : W8.heap[p]? = some (.cells (rwc lim (.slice (some ⟨w7.heap.size, 0, none⟩) 1 1) t) 81 (0, 0)) := by rw [hW8]; exact (Below.heap_alloc _ _ _ (by rw [hsz7]; exact hp7)).trans (set1_heap _ L7)
  have N8 : W8.heap[w7.heap.size]? = some (.cells #[.int .i64 t, .int .i64 k, .int .u64 o, .int .u64 a, .int .i64 q] 52 (0, 0)) := by
    rw [hW8]
    exact heap_newS hsz7
  have z8 : W8.cell? ⟨lb, 0, none⟩ = some (.slice ai (encs St.zero cur).length ci) := by
    rw [← z1]
    unfold World.cell?
    rw [bA.block lb hlbl hlb]
  have HR9 : Hid (Row W8 ai (encs St.zero cur).length (encs St.zero cur)) := hide (own_row_u8 (own_but h2 bA (fun g hg e => own_ne_cells h2 L7 (by decide) (by rw [← (e : g = p)]; exact hg))) (u8_of_mem hu8))
  have hb79 := HB7.out.size
  have HO9 : Hid (W8.ownsRow base 52 5 (.slice (some ⟨w7.heap.size, 0, none⟩) 1 1) 1 (flat [⟨t, k, o, a, q⟩])) := hide ⟨by simp [flat_len], .inr ⟨w7.heap.size, 1, _, rfl, by omega, N8, Nat.le_refl _, by decide, rfl, rfl⟩⟩
  have HL9 : Hid _ := hide L8
  have HB9 : Hid (But (fun g => g = p ∨ (Value.slice ra rn rc).ownBlock = some g) w W8) := hide (HB7.out.trans (bA.mono (fun _ e => .inl e)) (fun _ _ e => e))
  have HW8 : Hid _ := hide hW8
  have HSZ : Hid (w.heap.size ≤ w7.heap.size) := hide (by omega)
  have hwsz : w.heap.size < w7.heap.size := lt_of_heap R7
  clear hb7 B7 d0 d1 d2 HKT ls h1 h2 bA hsz7 L8 N8 L7 R7 z1 hW8 hb79
  go_upto_region 12 with fail
  rw [← HW8.out]
  go_wp2
  go_ret2
  exact ⟨_, ai, ⟨ci, rfl⟩, HR9.out, HL9.out, HO9.out, HB9.out, HSZ.out⟩
end Go.Proofs.YtamoioebgnmcaaaDoor
