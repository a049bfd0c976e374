/-
  The first ones are taken out.
-/
import Derived.Test.YtdmlehbamdcjcaaHpGI
namespace Go.Proofs.Ytdmlehbamdcjcaa
open Go.RowKit
theorem Try.infoTI : (Try.prog.info? 27).map (fun i => (i.zero, i.size, i.bytes)) = some (some (.agg #[.int .i64 0, .int .i64 0]), 2, 16) := by kernel_rfl
theorem field_runI (w : World) (a0 a1 ua : Int) : (Instr.field 77 (.agg #[.int .i64 a0, .int .i64 a1, .int .i64 ua]) 0).run Try.prog w = .ok (.agg #[.int .i64 a0, .int .i64 a1]) w := by kernel_rfl
/-- The thing of an entry. -/
theorem fieldI (w : World) {ops : Array Oper} {rest : List Oper} {o : Oper} {a : Act} {Q : Exit → Act → World → Prop} (hg : o.guard = none) (x : Operand) (ho : o.op = .field 77 x 0) (a0 a1 ua : Int) (hx : a.eval x = .agg #[.int .i64 a0, .int .i64 a1, .int .i64 ua])
    (h : wpList Try.prog ops Q rest (a.put o.dst (.agg #[.int .i64 a0, .int .i64 a1])) w) : wpList Try.prog ops Q (o :: rest) a w :=
  wpList_plain hg fun K hK => by
    unfold Oper.wp execOp
    simp only [ho, hx, Sem.run_bind, Sem.run_pure, Result.andThen_ok, field_runI]
    exact hK _ _ h
set_option maxRecDepth 8000 in
set_option maxHeartbeats 3200000 in
theorem takeFirstI (w : World) (base p : Nat) (v : Value) (n : Int) (E : List (It × Int)) (k : Nat) (h : HqI w base p v n E) (hk : k ≤ E.length) (hl : (E.length : Int) ≤ 8796093022208) :
    Calls Try.prog 50 #[.pointer (some ⟨p, 0, none⟩), .int .i64 k] w fun r w' => ∃ D E' v', r = .returned (.slice (some ⟨w.heap.size, 0, none⟩) k k) ∧ Own layI 27 w' w.heap.size (.slice (some ⟨w.heap.size, 0, none⟩) k k) (D.map Prod.fst) ∧ D.length = k ∧ HqI w' base p v' n E' ∧ Pops (fst bfI) E D E' ∧ But (fun k => k = p ∨ v.ownBlock = some k) w w' ∧ v'.ownBlock = v.ownBlock := by
  obtain ⟨i0, hi, hz0, hz1, hz2⟩ := info_parts Try.infoTI
  have hp := h.lt
  have hvb : ∀ g, v.ownBlock = some g → g < w.heap.size := fun g hg => (h.own.lt g hg).2
  have HV : Hid _ := hide hvb
  have H : Hid _ := hide h
  clear h hvb
  go_enter Try.func50, Try.ntmps50
  go_wp2_with (at_make; refine wpList_make_full _ rfl _ _ 23 rfl w.heap.size 27 i0 (.agg #[.int .i64 0, .int .i64 0]) 2 Try.underlying23 hi hz0 hz1 _ _ _ _ k rfl rfl rfl rfl ?b2 ?b3 (Nat.le_refl _) ?_)
  case b2 => rw [hz2]; omega
  case b3 => unfold maxLen; omega
  intro w1 hown1 hgr1
  have O1 : Own layI 27 w1 w.heap.size (.slice (some ⟨w.heap.size, 0, none⟩) k k) (([] : List (It × Int)).map Prod.fst ++ List.replicate (k - 0) ⟨0, 0⟩) := by
    have h9 := made_fl layI ⟨0, 0⟩ k
    unfold Own
    rw [List.map_nil, List.nil_append, Nat.sub_zero, List.length_replicate, ← h9]
    exact hown1
  have B1 : Below w.heap.size w w1 := (Below.refl _ _).grown hgr1 (Nat.le_refl _) (fun k h => by cases h)
  have HO1 : Hid _ := hide O1
  have HB1 : Hid _ := hide B1
  clear O1 B1 hown1 hgr1
  go_wp2_with fail
  go_loopw [11] (fun si wr => ∃ (j : Nat) (D E1 : List (It × Int)) (v1 : Value), si = .int .i64 j ∧ j ≤ k ∧ Hid (D.length = j) ∧ Own layI 27 wr w.heap.size (.slice (some ⟨w.heap.size, 0, none⟩) k k) (D.map Prod.fst ++ List.replicate (k - j) ⟨0, 0⟩) ∧ HqI wr base p v1 n E1 ∧ Pops (fst bfI) E D E1 ∧ v1.ownBlock = v.ownBlock ∧ But (fun k => k = p ∨ v.ownBlock = some k) w wr) (fun si _ => k - (intOf si).toNat)
  case atStart =>
    exact ⟨0, [], E, v, rfl, Nat.zero_le _, hide rfl, HO1.out, H.out.below HB1.out, .nil _, rfl, But.of_below HB1.out⟩
  case round =>
    obtain ⟨j, D, E1, v1, rfl, hj, HD, hown, hq, hpops, hv1, hbut⟩ := hrel
    have HO : Hid _ := hide hown
    have HQ : Hid _ := hide hq
    have HP : Hid _ := hide hpops
    have HV1 : Hid _ := hide hv1
    have HB : Hid _ := hide hbut
    clear hown hq hpops hv1 hbut
    by_cases hlt : j < k
    · obtain ⟨M, hM⟩ : ∃ M, E1.length = M + 1 := ⟨E1.length - 1, by have h1 := HP.out.perm.length_eq; rw [List.length_append] at h1; have h2 := HD.out; omega⟩
      have hMl : (M : Int) + 1 ≤ 8796093022208 := by have h1 := HP.out.perm.length_eq; rw [List.length_append] at h1; omega
      obtain ⟨e, he⟩ : ∃ e, E1[0]? = some e := ⟨_, List.getElem?_eq_getElem (by omega)⟩
      obtain ⟨g, c, hv, _, hgw, _⟩ := HQ.out.own.frm (by omega)
      rw [hM] at hv
      have HQ1 := HQ.out
      rw [hv] at HQ1
      have hvg : v.ownBlock = some g := by rw [← HV1.out, hv]; rfl
      have hgl : g < w.heap.size := HV.out g hvg
      have HVG : Hid _ := hide hvg
      have TK := takeI wr base p g c M n E1 e hM he HQ1.hp HQ1.own hMl
      have HE : Hid _ := hide he
      have HM : Hid _ := hide hM
      have hsr := HB.out.size
      obtain ⟨⟨a0, a1⟩, ua⟩ := e
      clear he hM hv hvg HQ1
      go_wp2_with fail
      refine TK.mono ?_
      rintro r w2 ⟨rfl, E2, H2, O2, P2, F2, B2⟩
      have OL := HO.out.but B2 (fun k hk e9 => by simp [Value.ownBlock] at hk; have e8 : k = p ∨ k = g := e9; omega)
      have hDl : (D.map Prod.fst).length = j := by rw [List.length_map]; exact HD.out
      have hcz : (D.map Prod.fst ++ List.replicate (k - j) (⟨0, 0⟩ : It))[j]? = some ⟨0, 0⟩ := by have h9 := getElem_append_replicate (D.map Prod.fst) k (⟨0, 0⟩ : It) (by omega); rw [hDl] at h9; exact h9
      have x0 := OL.cell hcz 0 rfl; have x1 := OL.cell hcz 1 rfl
      simp only [layI, Nat.add_zero] at x0 x1
      have z0 := OL.frozen (j * 2); have z1 := OL.frozen (j * 2 + 1)
      have HOL : Hid _ := hide OL
      have HH2 : Hid _ := hide H2
      have HO2 : Hid _ := hide O2
      have HP2 : Hid _ := hide P2
      have HF2 : Hid _ := hide F2
      have HB2 : Hid _ := hide B2
      have HDL : Hid _ := hide hDl
      clear OL H2 O2 P2 F2 B2 TK hDl hcz
      go_wp2_with (refine fieldI w2 rfl _ rfl a0 a1 ua rfl ?_)
      have B3 : But (fun k => k = w.heap.size) w2 (setC w2 w.heap.size (j * 2) [.int .i64 a0, .int .i64 a1]) := (But.refl (fun k => k = w.heap.size) w2).setC _ (fun _ => rfl)
      have OL3 : Own layI 27 (setC w2 w.heap.size (j * 2) [.int .i64 a0, .int .i64 a1]) w.heap.size (.slice (some ⟨w.heap.size, 0, none⟩) k k) ((D ++ [((⟨a0, a1⟩, ua) : It × Int)]).map Prod.fst ++ List.replicate (k - (j + 1)) (⟨0, 0⟩ : It)) := by
        have hlen : (D.map Prod.fst ++ List.replicate (k - j) (⟨0, 0⟩ : It)).length = k := by rw [List.length_append, HDL.out, List.length_replicate]; omega
        have h9 := HOL.out.set hlen (i := j) (by rw [hlen]; exact hlt) (⟨a0, a1⟩ : It)
        have h8 := set_append_replicate (D.map Prod.fst) k (⟨0, 0⟩ : It) (⟨a0, a1⟩ : It) (by rw [HDL.out]; exact hlt)
        rw [HDL.out] at h8
        rw [h8, List.length_append, HDL.out] at h9
        rw [List.map_append]
        exact h9
      have hq2 : HqI (setC w2 w.heap.size (j * 2) [.int .i64 a0, .int .i64 a1]) base p (.slice (some ⟨g, 0, none⟩) M c) n E2 := (HqI.mk HH2.out HO2.out).but B3 (by omega) (fun k hk e9 => by simp [Value.ownBlock] at hk; have e8 : k = w.heap.size := e9; omega)
      refine ⟨⟨j + 1, D ++ [((⟨a0, a1⟩, ua) : It × Int)], E2, .slice (some ⟨g, 0, none⟩) M c, by go_num, by omega, hide (by rw [List.length_append, HD.out]; rfl), OL3, hq2, .snoc HP.out HE.out HP2.out HF2.out, by rw [HVG.out]; rfl, (HB.out.trans HB2.out (fun i hi e9 => (e9 : i = p ∨ i = g).imp id (fun e8 => by rw [HVG.out, e8]))).trans B3 (fun i hi e9 => by have e8 : i = w.heap.size := e9; omega)⟩, by simp [intOf]; omega⟩
    · have hjk : j = k := by omega
      have HJ : Hid _ := hide hjk
      clear hjk
      go_wp2_with fail
      go_ret
      refine ⟨D, E1, v1, rfl, ?_, by rw [HD.out]; exact HJ.out, HQ.out, HP.out, HB.out, HV1.out⟩
      have h9 := HO.out
      rw [HJ.out, Nat.sub_self, List.replicate_zero, List.append_nil] at h9
      exact h9
end Go.Proofs.Ytdmlehbamdcjcaa
