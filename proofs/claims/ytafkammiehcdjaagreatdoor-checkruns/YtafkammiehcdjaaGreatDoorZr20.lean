import Derived.Test.YtafkammiehcdjaaGreatDoorZr19
/-
  slices.Delete of one thing: Ent.
-/
namespace Go.Proofs.YtafkammiehcdjaaGreatDoor
open Go.RowKit Go.Lib
theorem zeroVE (w : World) : (zeroValue 148).run Tryz.prog w = .ok (.agg #[.int .u64 0, .int .u64 0]) w := by kernel_rfl
set_option maxRecDepth 8000 in
set_option maxHeartbeats 1000000 in
theorem delE_mid (g n c i : Nat) (L : List Ent) (w : World) (h : Own layN 148 w 0 (.slice (some ⟨g, 0, none⟩) n c) L) (hnl : L.length = n) (hi : i < n) (hcc : ¬ c = i + 1) (hn : (n : Int) ≤ 4000000) :
    Calls Tryz.prog 157 #[.slice (some ⟨g, 0, none⟩) n c, .int .i64 (i : Int), .int .i64 ((i : Int) + 1)] w fun r w' => r = .returned (.slice (some ⟨g, 0, none⟩) (n - 1) c) ∧ Own layN 148 w' 0 (.slice (some ⟨g, 0, none⟩) (n - 1) c) (L.take i ++ L.drop (i + 1)) ∧ But (fun b => b = g) w w' := by
  obtain ⟨i0, hi0, hz0, hz1, hz2⟩ := info_parts Tryz.infoN
  have hcn : n ≤ c := by obtain ⟨_, _, _, _, hc, _⟩ := h.raw; omega
  have hmx : c ≤ maxLen := by obtain ⟨_, _, _, _, _, _, hc⟩ := h.raw; exact hc
  have hrow := h.row hnl
  have hcut : Own layN 148 w 0 (.slice (some ⟨g, 0, none⟩) i c) (L.take i) := h.cut hnl (by omega)
  have htk : (L.take i).length = i := by rw [List.length_take]; omega
  have hdl : (L.drop (i + 1)).length = n - (i + 1) := by rw [List.length_drop, hnl]
  have hdn : TRow layN w (some ⟨g, (i + 1) * 2, none⟩) (n - (i + 1)) (L.drop (i + 1)) := by have := hrow.drop (i + 1) (by omega); rw [Nat.zero_add] at this; exact this
  have hcut9 : w.drew.ownsRow 0 148 2 (.slice (some ⟨g, 0, none⟩) i c) i (layN.fl (L.take i)) := by
    have h9 : w.ownsRow 0 148 layN.z (.slice (some ⟨g, 0, none⟩) i c) (L.take i).length (layN.fl (L.take i)) := hcut
    rw [htk] at h9
    exact h9
  obtain ⟨W1, hrun, hown, hgr⟩ := run_append_fits (P := Tryz.prog) w.drew 0 149 149 148 i0 2 Tryz.underlying149 hi0 hz1 g i c (layN.fl (L.take i)) hcut9 ⟨g, (i + 1) * 2, none⟩ (n - (i + 1)) (c - (i + 1)) (layN.fl (L.drop (i + 1))) (by rw [layN.fl_len, hdl]; rfl) (hdn.below ((Below.refl _ w).drew)).news (layN.fl_cell _) (by omega)
  have hsum : i + (n - (i + 1)) = n - 1 := by omega
  rw [hsum] at hrun hown
  rw [← layN.fl_app] at hown
  have hLl : (L.take i ++ L.drop (i + 1)).length = n - 1 := by rw [List.length_append, htk, hdl]; omega
  have hown2 : Own layN 148 W1 0 (.slice (some ⟨g, 0, none⟩) (n - 1) c) (L.take i ++ L.drop (i + 1)) := by
    unfold Own; rw [hLl]; exact hown
  obtain ⟨cur, hg, hsz, hfl, _, _, _⟩ := hown2.raw
  have hcl : ∀ ty cc, (Builtin.clear_ #[149] ty #[.slice (some ⟨g, (n - 1) * 2, none⟩) 1 cc]).run Tryz.prog W1 = .ok (.tuple #[]) (W1.setRow g (spl layN.z cur (n - 1) (layN.cs (0, 0)))) := fun ty cc =>
    run_clearR layN 149 148 Tryz.underlying149 _ zeroVE (0, 0) (by simp [Builtin.zeroCells, Value.cells, layN]; rfl) ty g cur 148 hg (n - 1) cc (by rw [hsz]; show (n - 1) * 2 + 2 ≤ c * 2; omega)
  have hb1 : But (fun b => b = g) w W1 := (But.refl (fun b => b = g) w).drew.grown hgr (fun k _ e => by injection e with e; exact e.symm)
  have hOwn : Own layN 148 (W1.setRow g (spl layN.z cur (n - 1) (layN.cs (0, 0)))) 0 (.slice (some ⟨g, 0, none⟩) (n - 1) c) (L.take i ++ L.drop (i + 1)) := by
    have h9 := Own.of_raw (y := layN) (L := L.take i ++ L.drop (i + 1)) (base := 0) (c := c) (setRow_heap W1 g cur (spl layN.z cur (n - 1) (layN.cs (0, 0))) 148 (0, 0) hg) (by rw [spl_size (by rw [layN.len, hsz]; show (n - 1) * 2 + 2 ≤ c * 2; omega), hsz])
      (by rw [hLl, spl_take (by rw [hsz]; show (n - 1) * 2 ≤ c * 2; omega), ← hLl]; exact hfl) (by rw [hLl]; omega) (Nat.zero_le _) hmx
    rwa [hLl] at h9
  have hBut : But (fun b => b = g) w (W1.setRow g (spl layN.z cur (n - 1) (layN.cs (0, 0)))) := (hb1.trans (T := fun b => b = g) ⟨rfl, rfl, rfl, by simp [World.setRow], fun q _ hq => setRow_other W1 g q _ hq⟩ (fun _ _ e => e))
  have hiI : (i : Int) < n := by omega
  have hcI : (n : Int) ≤ (c : Int) := by omega
  have hi63 : (c : Int) ≤ 9223372036854775807 := by unfold maxLen at hmx; omega
  have n1 : ¬ (c = i) := by omega
  have n3 : ¬ ((i : Int) = (i : Int) + 1) := by omega
  have n5 : ¬ (c = n - 1) := by omega
  have n7 : ((i : Int) == (i : Int) + 1) = false := by rw [beq_eq_false_iff_ne]; omega
  have hw1 : IntKind.i64.wrap ((i : Int) + 1) = (i : Int) + 1 := by rw [IntKind.wrap_i64]; omega
  have hb1' : (0 : Int) ≤ (i : Int) + 1 := by omega
  have htn : ((i : Int) + 1).toNat = i + 1 := by omega
  have hb3 : (i : Int) ≤ (n : Int) := by omega
  have hb5 : (i : Int) + 1 ≤ (n : Int) := by omega
  have hb6 : (i : Int) ≤ (c : Int) := by omega
  have hm1 : n - (n - 1) = 1 := by omega
  have hm2 : n - 1 ≤ n := by omega
  have HCL := hide hcl
  have HOwn := hide hOwn
  have HBut := hide hBut
  have HRUN := hide hrun
  clear hOwn hBut hb1 hcl hrow hdn hdl hfl hsz hLl hmx h hnl hcut htk hcut9 hown hown2 hgr hg hrun hsum
  go_enter Tryz.func157, Tryz.ntmps157
  go_wp2_with fail
  go_region_law (refine step_append_run rfl (.tmp 22) (.tmp 25) 149 149 rfl (.slice (some ⟨g, 0, none⟩) i c) (.slice (some ⟨g, (i + 1) * 2, none⟩) (n - (i + 1)) (c - (i + 1))) (by simp [Act.eval, Act.put]) (by simp [Act.eval, Act.put]) HRUN.out ?_)
  go_wp2_with (refine wpList_clear_run rfl _ 149 rfl _ rfl (HCL.out _ _) ?_)
  go_ret
  exact ⟨rfl, HOwn.out, HBut.out⟩
set_option maxRecDepth 8000 in
set_option maxHeartbeats 1000000 in
theorem delE_end (g n c i : Nat) (L : List Ent) (w : World) (h : Own layN 148 w 0 (.slice (some ⟨g, 0, none⟩) n c) L) (hnl : L.length = n) (hi : i < n) (hcc : c = i + 1) (hn : (n : Int) ≤ 4000000) :
    Calls Tryz.prog 157 #[.slice (some ⟨g, 0, none⟩) n c, .int .i64 (i : Int), .int .i64 ((i : Int) + 1)] w fun r w' => r = .returned (.slice (some ⟨g, 0, none⟩) (n - 1) c) ∧ Own layN 148 w' 0 (.slice (some ⟨g, 0, none⟩) (n - 1) c) (L.take i ++ L.drop (i + 1)) ∧ But (fun b => b = g) w w' := by
  obtain ⟨i0, hi0, hz0, hz1, hz2⟩ := info_parts Tryz.infoN
  have hcn : n ≤ c := by obtain ⟨_, _, _, _, hc, _⟩ := h.raw; omega
  have hmx : c ≤ maxLen := by obtain ⟨_, _, _, _, _, _, hc⟩ := h.raw; exact hc
  have hrow := h.row hnl
  have hcut : Own layN 148 w 0 (.slice (some ⟨g, 0, none⟩) i c) (L.take i) := h.cut hnl (by omega)
  have htk : (L.take i).length = i := by rw [List.length_take]; omega
  have hdl : (L.drop (i + 1)).length = n - (i + 1) := by rw [List.length_drop, hnl]
  have hdn : TRow layN w (some ⟨g, 0, none⟩) (n - (i + 1)) (L.drop (i + 1)) := ⟨hdl, .inl (by omega)⟩
  have hcut9 : w.drew.ownsRow 0 148 2 (.slice (some ⟨g, 0, none⟩) i c) i (layN.fl (L.take i)) := by
    have h9 : w.ownsRow 0 148 layN.z (.slice (some ⟨g, 0, none⟩) i c) (L.take i).length (layN.fl (L.take i)) := hcut
    rw [htk] at h9
    exact h9
  obtain ⟨W1, hrun, hown, hgr⟩ := run_append_fits (P := Tryz.prog) w.drew 0 149 149 148 i0 2 Tryz.underlying149 hi0 hz1 g i c (layN.fl (L.take i)) hcut9 ⟨g, 0, none⟩ (n - (i + 1)) (c - (i + 1)) (layN.fl (L.drop (i + 1))) (by rw [layN.fl_len, hdl]; rfl) (hdn.below ((Below.refl _ w).drew)).news (layN.fl_cell _) (by omega)
  have hsum : i + (n - (i + 1)) = n - 1 := by omega
  rw [hsum] at hrun hown
  rw [← layN.fl_app] at hown
  have hLl : (L.take i ++ L.drop (i + 1)).length = n - 1 := by rw [List.length_append, htk, hdl]; omega
  have hown2 : Own layN 148 W1 0 (.slice (some ⟨g, 0, none⟩) (n - 1) c) (L.take i ++ L.drop (i + 1)) := by
    unfold Own; rw [hLl]; exact hown
  obtain ⟨cur, hg, hsz, hfl, _, _, _⟩ := hown2.raw
  have hcl : ∀ ty cc, (Builtin.clear_ #[149] ty #[.slice (some ⟨g, (n - 1) * 2, none⟩) 1 cc]).run Tryz.prog W1 = .ok (.tuple #[]) (W1.setRow g (spl layN.z cur (n - 1) (layN.cs (0, 0)))) := fun ty cc =>
    run_clearR layN 149 148 Tryz.underlying149 _ zeroVE (0, 0) (by simp [Builtin.zeroCells, Value.cells, layN]; rfl) ty g cur 148 hg (n - 1) cc (by rw [hsz]; show (n - 1) * 2 + 2 ≤ c * 2; omega)
  have hb1 : But (fun b => b = g) w W1 := (But.refl (fun b => b = g) w).drew.grown hgr (fun k _ e => by injection e with e; exact e.symm)
  have hOwn : Own layN 148 (W1.setRow g (spl layN.z cur (n - 1) (layN.cs (0, 0)))) 0 (.slice (some ⟨g, 0, none⟩) (n - 1) c) (L.take i ++ L.drop (i + 1)) := by
    have h9 := Own.of_raw (y := layN) (L := L.take i ++ L.drop (i + 1)) (base := 0) (c := c) (setRow_heap W1 g cur (spl layN.z cur (n - 1) (layN.cs (0, 0))) 148 (0, 0) hg) (by rw [spl_size (by rw [layN.len, hsz]; show (n - 1) * 2 + 2 ≤ c * 2; omega), hsz])
      (by rw [hLl, spl_take (by rw [hsz]; show (n - 1) * 2 ≤ c * 2; omega), ← hLl]; exact hfl) (by rw [hLl]; omega) (Nat.zero_le _) hmx
    rwa [hLl] at h9
  have hBut : But (fun b => b = g) w (W1.setRow g (spl layN.z cur (n - 1) (layN.cs (0, 0)))) := (hb1.trans (T := fun b => b = g) ⟨rfl, rfl, rfl, by simp [World.setRow], fun q _ hq => setRow_other W1 g q _ hq⟩ (fun _ _ e => e))
  have hiI : (i : Int) < n := by omega
  have hcI : (n : Int) ≤ (c : Int) := by omega
  have hi63 : (c : Int) ≤ 9223372036854775807 := by unfold maxLen at hmx; omega
  have n1 : ¬ (c = i) := by omega
  have n3 : ¬ ((i : Int) = (i : Int) + 1) := by omega
  have n5 : ¬ (c = n - 1) := by omega
  have n7 : ((i : Int) == (i : Int) + 1) = false := by rw [beq_eq_false_iff_ne]; omega
  have hw1 : IntKind.i64.wrap ((i : Int) + 1) = (i : Int) + 1 := by rw [IntKind.wrap_i64]; omega
  have hb1' : (0 : Int) ≤ (i : Int) + 1 := by omega
  have htn : ((i : Int) + 1).toNat = i + 1 := by omega
  have hb3 : (i : Int) ≤ (n : Int) := by omega
  have hb5 : (i : Int) + 1 ≤ (n : Int) := by omega
  have hb6 : (i : Int) ≤ (c : Int) := by omega
  have hm1 : n - (n - 1) = 1 := by omega
  have hm2 : n - 1 ≤ n := by omega
  obtain rfl : n = i + 1 := by omega
  subst hcc
  simp only [Nat.sub_self, Nat.add_sub_cancel] at hrun hcl hOwn hBut ⊢
  clear n5 hm1 hm2 n7 hcI hiI n1
  have n5 : ¬ (i + 1 = i) := by omega
  have n6 : (i : Int) ≤ (i : Int) + 1 := by omega
  have n7 : ((i : Int) == (i : Int) + 1) = false := by rw [beq_eq_false_iff_ne]; omega
  have HCL := hide hcl
  have HOwn := hide hOwn
  have HBut := hide hBut
  have HRUN := hide hrun
  clear hOwn hBut hb1 hcl hrow hdn hdl hfl hsz hLl hmx h hnl hcut htk hcut9 hown hown2 hgr hg hrun hsum
  go_enter Tryz.func157, Tryz.ntmps157
  go_wp2_with fail
  go_region_law (refine step_append_run rfl (.tmp 22) (.tmp 25) 149 149 rfl (.slice (some ⟨g, 0, none⟩) i (i + 1)) (.slice (some ⟨g, 0, none⟩) 0 0) (by simp [Act.eval, Act.put]) (by simp [Act.eval, Act.put]) HRUN.out ?_)
  go_wp2_with (refine wpList_clear_run rfl _ 149 rfl _ rfl (HCL.out _ _) ?_)
  go_ret
  exact ⟨rfl, HOwn.out, HBut.out⟩
theorem delE_any (v : Value) (L : List Ent) (i : Nat) (w : World) (h : Own layN 148 w 0 v L) (hi : i < L.length) (hn : (L.length : Int) ≤ 4000000) :
    Calls Tryz.prog 157 #[v, .int .i64 (i : Int), .int .i64 ((i : Int) + 1)] w fun r w' => ∃ v', r = .returned v' ∧ Own layN 148 w' 0 v' (L.take i ++ L.drop (i + 1)) ∧ But (fun b => v.ownBlock = some b) w w' ∧ v'.ownBlock = v.ownBlock := by
  obtain ⟨g, c, rfl, _, hg, hc⟩ := h.frm (by omega)
  by_cases hcc : c = i + 1
  · refine (delE_end g L.length c i L w h rfl hi hcc hn).mono ?_
    rintro r w' ⟨rfl, o, b⟩
    exact ⟨_, rfl, o, b.mono (fun k e => by rw [e]; rfl), rfl⟩
  · refine (delE_mid g L.length c i L w h rfl hi hcc hn).mono ?_
    rintro r w' ⟨rfl, o, b⟩
    exact ⟨_, rfl, o, b.mono (fun k e => by rw [e]; rfl), rfl⟩
end Go.Proofs.YtafkammiehcdjaaGreatDoor
