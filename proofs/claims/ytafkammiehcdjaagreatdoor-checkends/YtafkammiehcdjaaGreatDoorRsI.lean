/-
  remove; keys.
-/
import Derived.Test.YtafkammiehcdjaaGreatDoorRsH
namespace Go.Proofs.YtafkammiehcdjaaGreatDoor
open Go.RowKit
set_option maxRecDepth 8000 in
set_option maxHeartbeats 1000000 in
theorem rise_remove {rb ro : Nat} {k u0 : Int} {w : World} {cs : Array Value} {T : TypeId} {v : Value} {P : Nat → Prop} {L : List Ent} (hrb : w.heap[rb]? = some (.cells cs T (0, 0))) (hro : cs[ro]? = some v) (h : Rise w P v L) (hPr : ¬ P rb) (hfew : (L.length : Int) + 1 ≤ 2000000) (hk : look k L = some u0) :
    Calls Tryz.prog 120 #[.pointer (some ⟨rb, ro, none⟩), .int .u64 k] w fun r w' => r = .returned (.tuple #[]) ∧ RP w P rb ro cs T (delE k L) w' := by
  obtain ⟨ps, h1, h2, rfl⟩ := h.ex
  have hlen := pcs_len h2
  have hps : ps ≠ [] := fun e => by rw [e] at hk; cases hk
  obtain ⟨pg, c1, rfl, _, _, _⟩ := h1.own.frm (List.length_pos_iff.2 hps)
  have hPS : PutS w P rb ro cs T pg c1 ps k := ⟨hrb, hro, h1, hPr, hps, h.ris, fun p hp => (h2 p (List.dropLast_subset _ hp)).1, .inr (fun p hp => (h2 p hp).1), fun p hp => (h2 p hp).2, hfew, by omega⟩
  have HS := hide hPS
  have HAll : Hid (∀ p ∈ ps, p.es ≠ []) := hide (fun p hp => (h2 p hp).1)
  have HK := hide hk
  clear h h1 h2 hlen hPr hfew hrb hro hPS hk hps
  go_enter Tryz.func120, Tryz.ntmps120
  go_wp2_with fail
  refine HS.out.seek.mono ?_
  rintro e w2 ⟨i, j, is, rfl, hsk, hb2⟩
  obtain rfl : is = true := by rw [hsk.look HS.out.ris, HK.out]; rfl
  obtain ⟨p, hp⟩ := get_ex (L := ps) (i := i) (by have := hsk.lt; simpa using this)
  have hpm := List.mem_of_getElem? hp
  have hrb2 : w2.heap[rb]? = some (.cells cs T (0, 0)) := (hb2.block rb (Array.getElem?_eq_some_iff.1 HS.out.holder).1).trans HS.out.holder
  have hP2 := HS.out.pcs.below hb2
  have d0 : w2.cell? ⟨rb, ro, none⟩ = some (.slice (some ⟨pg, 0, none⟩) ps.length c1) := cell_at hrb2 HS.out.held
  have d1 : w2.cell? ⟨pg, i * 1 + 0, none⟩ = some (.slice p.a p.es.length p.c) := hP2.own.cell hp 0 rfl
  rw [Nat.mul_one, Nat.add_zero] at d1
  have hiN : i < ps.length := get_lt hp
  have hiI : (i : Int) < (ps.length : Int) := by omega
  have hpl := HS.out.len p hpm
  have HB2 := hide hb2
  have HSk := hide hsk
  have HP0 := hide hp
  have hpgP : P pg := HS.out.pcs.vin pg rfl
  have hne : ¬ rb = pg := fun e => HS.out.out (by rw [e]; exact hpgP)
  have hrow := hP2.each p hpm
  have HPp := hide (HS.out.pcs.pin p hpm)
  have HNE := hide hne
  have hltg : pg < w2.heap.size := (hP2.own.lt pg rfl).2
  have HPL := hide hpl
  have HPgn := hide (pcs_ne hP2 rfl hrow)
  obtain ⟨u, hu⟩ := hsk.is.1 rfl
  rw [esOf_getD hp] at hu
  have HU := hide hu
  have hjN : j < p.es.length := get_lt hu
  clear hsk hb2 hp hP2 hrb2 hpgP hpl hu HK
  have HI := hide (fun (W9 : World) (hb9 : Below w2.heap.size w2 W9) => delE_any p.val p.es j W9 (hrow.below hb9) hjN (by have := HPL.out; omega))
  have hwj : IntKind.i64.wrap ((j : Int) + 1) = (j : Int) + 1 := by have := HPL.out; rw [IntKind.wrap_i64]; omega
  clear hrow hpm
  go_wp2_with fail
  refine wp_region_noPanic ?_
  refine wp_region_held_drew (S := fun X => X.cell? ⟨rb, ro, none⟩ = some (.slice (some ⟨pg, 0, none⟩) ps.length c1)) (by kernel_rfl) (d0) (fun hHeld => ?_)
  refine wpAnyH_take (i := 0) (oi := _) (v := ?v0_1) rfl (by kernel_rfl) (by kernel_rfl) (by kernel_rfl) (fun _ _ _ h => h) (Or.inl ⟨by rfl, ?y0_1⟩) (by assumption) ?r0_1
  case y0_1 => (intro w' hSw; (try dsimp only at hSw); go_simp; try with_reducible rfl)
  refine wpAnyH_take (i := 1) (oi := _) (v := ?v1_1) rfl (by kernel_rfl) (by kernel_rfl) (by kernel_rfl) (fun _ _ _ h => h) (Or.inl ⟨by rfl, ?y1_1⟩) (by assumption) ?r1_1
  case y1_1 => (intro w' hSw; (try dsimp only at hSw); go_simp; try with_reducible rfl)
  refine wpAnyH_take (i := 2) (oi := _) (v := ?v2_1) rfl (by kernel_rfl) (by kernel_rfl) (by kernel_rfl) (fun _ _ _ h => h) (Or.inl ⟨by rfl, ?y2_1⟩) (by assumption) ?r2_1
  case y2_1 => (intro w' hSw; (try dsimp only at hSw); go_simp; try with_reducible rfl)
  refine wpAnyH_take (i := 3) (oi := _) (v := ?v3_1) rfl (by kernel_rfl) (by kernel_rfl) (by kernel_rfl) (fun _ _ _ h => h) (Or.inl ⟨by rfl, ?y3_1⟩) (by assumption) ?r3_1
  case y3_1 => (intro w' hSw; (try dsimp only at hSw); go_simp; try with_reducible rfl)
  refine wpAnyH_take (i := 4) (oi := _) (v := ?v4_1) rfl (by kernel_rfl) (by kernel_rfl) (by kernel_rfl) (fun _ _ _ h => h) (Or.inl ⟨by rfl, ?y4_1⟩) (by assumption) ?r4_1
  case y4_1 => (intro w' hSw; (try dsimp only at hSw); go_simp; try with_reducible rfl)
  refine wpAnyH_take (i := 5) (oi := _) (v := ?v5_1) rfl (by kernel_rfl) (by kernel_rfl) (by kernel_rfl) (fun _ _ _ h => h) (Or.inl ⟨by rfl, ?y5_1⟩) (by assumption) ?r5_1
  case y5_1 => (intro w' hSw; (try dsimp only at hSw); go_simp; try with_reducible rfl)
  refine wpAnyH_take (i := 6) (oi := _) (v := ?v6_1) rfl (by kernel_rfl) (by kernel_rfl) (by kernel_rfl) (fun _ _ _ h => h) (Or.inl ⟨by rfl, ?y6_1⟩) (by assumption) ?r6_1
  case y6_1 => (intro w' hSw; (try dsimp only at hSw); go_simp; try with_reducible rfl)
  refine wpAnyH_take (i := 7) (oi := _) (v := ?v7_1) rfl (by kernel_rfl) (by kernel_rfl) (by kernel_rfl) (fun _ _ _ h => h) (Or.inl ⟨by rfl, ?y7_1⟩) (by assumption) ?r7_1
  case y7_1 => (intro w' hSw; (try dsimp only at hSw); go_simp; try with_reducible rfl)
  refine wpAnyH_take (i := 8) (oi := _) (v := ?v8_1) rfl (by kernel_rfl) (by kernel_rfl) (by kernel_rfl) (fun _ _ _ h => h) (Or.inl ⟨by rfl, ?y8_1⟩) (by assumption) ?r8_1
  case y8_1 => (intro w' hSw; (try dsimp only at hSw); go_simp; try with_reducible rfl)
  refine wpAnyH_take (i := 9) (oi := _) (v := ?v9_1) rfl (by kernel_rfl) (by kernel_rfl) (by kernel_rfl) (fun _ _ _ h => h) (Or.inl ⟨by rfl, ?y9_1⟩) (by assumption) ?r9_1
  case y9_1 => (intro w' hSw; (try dsimp only at hSw); go_simp; try with_reducible rfl)
  refine wpAnyH_take (i := 10) (oi := _) (v := ?v10_1) rfl (by kernel_rfl) (by kernel_rfl) (by kernel_rfl) (fun _ _ _ h => h) (Or.inl ⟨by rfl, ?y10_1⟩) (by assumption) ?r10_1
  case y10_1 => (intro w' hSw; (try dsimp only at hSw); go_simp; try with_reducible rfl)
  refine wpAnyH_take (i := 12) (oi := _) (v := ?v12_1) rfl (by kernel_rfl) (by kernel_rfl) (by kernel_rfl) (fun _ _ _ h => h) (Or.inl ⟨by rfl, ?y12_1⟩) (by assumption) ?r12_1
  case y12_1 => (intro w' hSw; (try dsimp only at hSw); go_simp; try with_reducible rfl)
  refine wpAnyH_take (i := 13) (oi := _) (v := ?v13_1) rfl (by kernel_rfl) (by kernel_rfl) (by kernel_rfl) (fun _ _ _ h => h) (Or.inl ⟨by rfl, ?y13_1⟩) (by assumption) ?r13_1
  case y13_1 => (intro w' hSw; (try dsimp only at hSw); go_simp; try with_reducible rfl)
  refine wpAnyH_take (i := 14) (oi := _) (v := ?v14_1) rfl (by kernel_rfl) (by kernel_rfl) (by kernel_rfl) (fun _ _ _ h => h) (Or.inl ⟨by rfl, ?y14_1⟩) (by assumption) ?r14_1
  case y14_1 => (intro w' hSw; (try dsimp only at hSw); go_simp; try with_reducible rfl)
  refine wpAnyH_ready (rs := [11]) (by kernel_rfl) (by simp) ?_
  refine AllReadyH.cons (o := _) rfl (fun KK hKK => ?_) AllReadyH.nil
  go_simp
  refine hKK.out _ _ (d0) (fun hHeld11 => ?_)
  clear hKK KK
  refine wpAnyH_ready (rs := [15]) (by kernel_rfl) (by simp) ?_
  refine AllReadyH.cons (o := _) rfl (fun KK hKK => ?_) AllReadyH.nil
  go_simp
  refine (HI.out _ ((Below.refl w2.heap.size w2).drew)).mono ?_
  rintro e w3 ⟨v3, rfl, o3, b3, l3⟩
  obtain ⟨a3, n3, c3, rfl⟩ : ∃ a3 n3 c3, v3 = .slice a3 n3 c3 := by obtain ⟨a3, c3, hv3, _, _⟩ := own_form o3; exact ⟨a3, _, c3, hv3⟩
  have k3 : w3.cell? ⟨rb, ro, none⟩ = some (.slice (some ⟨pg, 0, none⟩) ps.length c1) := cell_but (w := w2.drew) d0 b3 (fun e => HS.out.out (HPp.out rb e))
  have k4 : w3.cell? ⟨pg, i, none⟩ = some (.slice p.a p.es.length p.c) := cell_but (w := w2.drew) d1 b3 (fun e => HPgn.out e)
  have f4 : w3.frozen? ⟨pg, i, none⟩ = false := by obtain ⟨cu, hcu⟩ := own_ty (HS.out.pcs.own.below HB2.out) rfl; exact frz ((b3.block pg hltg (fun e => HPgn.out e)).trans hcu) i
  have O3 := hide o3
  have B3 := hide b3
  have L3 := hide l3
  clear o3 b3 l3
  refine hKK.out _ _ (k3) (fun hHeld15 => ?_)
  clear hKK KK
  refine wpAnyH_take (i := 16) (oi := _) (v := ?v16_3) rfl (by kernel_rfl) (by kernel_rfl) (by kernel_rfl) (fun _ _ _ h => h) (Or.inl ⟨by rfl, ?y16_3⟩) (by assumption) ?r16_3
  case y16_3 => (intro w' hSw; (try dsimp only at hSw); go_simp; try with_reducible rfl)
  refine wpAnyH_ready (rs := [17]) (by kernel_rfl) (by simp) ?_
  refine AllReadyH.cons (o := _) rfl (fun KK hKK => ?_) AllReadyH.nil
  go_simp
  refine hKK.out _ _ (cell_but k3 ((But.refl (fun b => b = pg) w3).setCell ⟨pg, i, none⟩ (fun _ => rfl) _) HNE.out) (fun hHeld17 => ?_)
  clear hKK KK
  refine wpAnyH_done (by kernel_rfl) ?_ _
  refine NoPanic.normal ?_
  have hPN := put_no HS.out HB2.out ((Below.refl w2.heap.size w2).drew) HP0.out O3.out B3.out (.inl L3.out) rfl
  have hqe : (p.es.take j ++ p.es.drop (j + 1)).length = n3 := by
    obtain ⟨a', c', hf9, _, _⟩ := own_form O3.out
    injection hf9 with e1 e2 e3
    exact e2.symm
  obtain ⟨w4, hw4⟩ : ∃ w4, w4 = w3.setCell ⟨pg, i, none⟩ (.slice a3 n3 c3) := ⟨_, rfl⟩
  rw [← hw4] at hPN ⊢
  have e0 : w4.cell? ⟨rb, ro, none⟩ = some (.slice (some ⟨pg, 0, none⟩) ps.length c1) := cell_at hPN.holder HS.out.held
  have e1 : w4.cell? ⟨pg, i, none⟩ = some (.slice a3 n3 c3) := by
    have h9 := hPN.pcs.own.cell (i := i) (a := ⟨a3, c3, p.es.take j ++ p.es.drop (j + 1)⟩) (by rw [List.getElem?_set, if_pos rfl, if_pos hiN]) 0 rfl
    have h8 : w4.cell? ⟨pg, i * 1 + 0, none⟩ = some (.slice a3 (p.es.take j ++ p.es.drop (j + 1)).length c3) := h9
    rw [Nat.mul_one, Nat.add_zero, hqe] at h8
    exact h8
  have HPN := hide hPN
  have HQE := hide hqe
  clear hPN hqe hw4 k3 k4 f4 d0 d1 hHeld hHeld11 hHeld15 hHeld17 HI hltg hne O3 B3 L3
  by_cases h0 : n3 = 0
  · subst h0
    have HV := hide (delP_any _ _ i w4 HPN.out.pcs.own (by rw [List.length_set]; exact hiN) (by rw [List.length_set]; have := HS.out.many; omega))
    have hwi : wrap64 ((i : Int) + 1) = (i : Int) + 1 := by have := HS.out.many; unfold wrap64; omega
    have hmI : (ps.length : Int) ≤ 2000000 := HS.out.many
    have frb := frz HPN.out.holder ro
    go_wp2_with fail
    refine HV.out.mono ?_
    rintro e w5 ⟨v5, rfl, o5, b5, l5⟩
    obtain ⟨a5, n5, c5, rfl⟩ : ∃ a5 n5 c5, v5 = .slice a5 n5 c5 := by obtain ⟨a5, c5, hv5, _, _⟩ := own_form o5; exact ⟨a5, _, c5, hv5⟩
    have HG := hide (HPN.out.gone HS.out HAll.out HSk.out HP0.out HU.out rfl (List.length_eq_zero_iff.1 HQE.out) o5 b5 l5)
    have r5 : w5.heap[rb]? = some (.cells cs T (0, 0)) := (b5.block rb (by have := (Array.getElem?_eq_some_iff.1 HPN.out.holder).1; exact this) (fun e => HNE.out (Option.some.inj (show some pg = some rb from e)).symm)).trans HPN.out.holder
    have q5 : w5.cell? ⟨rb, ro, none⟩ = some (.slice (some ⟨pg, 0, none⟩) ps.length c1) := cell_at r5 HS.out.held
    have f5 := frz r5 ro
    clear o5 b5 l5 HV e0 e1 r5 frb
    go_wp2
    go_end0
    exact ⟨rfl, HG.out⟩
  · have hb0 : ((n3 : Int) == 0) = false := by rw [beq_eq_false_iff_ne]; omega
    go_wp2
    go_end0
    exact ⟨rfl, HPN.out.less HS.out HSk.out HP0.out HU.out rfl (fun e => h0 (by rw [← HQE.out]; exact congrArg List.length e))⟩
end Go.Proofs.YtafkammiehcdjaaGreatDoor
