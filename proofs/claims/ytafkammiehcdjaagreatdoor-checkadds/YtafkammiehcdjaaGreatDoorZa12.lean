import Derived.Test.YtafkammiehcdjaaGreatDoorZa10
import Derived.Test.YtafkammiehcdjaaGreatDoorZa11
import Derived.Lib.SliceRun
/-
  slices.Insert of one thing: Pc.
-/
namespace Go.Proofs.YtafkammiehcdjaaGreatDoor
open Go.RowKit Go.Lib
theorem sizeP : (Tryz.prog.info? 149).map (·.size) = some layP.z := by kernel_rfl
set_option maxRecDepth 8000 in
theorem insP_end (v : Value) (L : List Pc) (x : Pc) (vb : Nat) (w : World) (h : Own layP 149 w 0 v L) (hv : w.heap[vb]? = some (.cells (layP.cs x).toArray 149 (0, 0))) (hn : (L.length : Int) ≤ 4000000) :
    Calls Tryz.prog 155 #[v, .int .i64 (L.length : Int), .slice (some ⟨vb, 0, none⟩) 1 1] w fun r w' => ∃ v', r = .returned v' ∧ Own layP 149 w' 0 v' (L ++ [x]) ∧ But (fun b => v.ownBlock = some b) w w' ∧ (v'.ownBlock = v.ownBlock ∨ ∃ b, v'.ownBlock = some b ∧ w.heap.size ≤ b) := by
  obtain ⟨i0, hi, hz0, hz1, hz2⟩ := info_parts Tryz.infoP
  obtain ⟨a, c, rfl, h0, hcn⟩ := own_form h
  have HR := hide (TRow.one hv)
  have HO := hide h
  have HH0 := hide h0
  have HN := hide hn
  have hcI : (L.length : Int) ≤ (c : Int) := by omega
  clear h hv h0
  generalize hnl : L.length = n at *
  have HL := hide hnl
  clear hnl
  cases a with
  | none =>
    obtain ⟨rfl, rfl⟩ := HH0.out rfl
    go_enter Tryz.func155, Tryz.ntmps155
    go_wp2_with (at_builtin; refine append_lay layP _ 68 149 i0 _ 24 Tryz.underlying68 hi hz0 hz1 hz2 rfl rfl _ _ rfl 0 _ L rfl HO.out _ 1 1 [x] rfl HR.out (fun e => by cases e) ?b1 ?b2 (Nat.zero_le _) ?_)
    case b1 => unfold maxLen; have := HL.out; omega
    case b2 => have := HL.out; omega
    intro v' w' o1 g1 l1
    go_wp2
    go_ret
    exact ⟨v', rfl, o1, But.of_grown g1 (fun _ e => e), l1.imp id fun e => ⟨_, e, Nat.le_refl _⟩⟩
  | some ad =>
    by_cases hcc : c = n
    · subst hcc
      go_enter Tryz.func155, Tryz.ntmps155
      go_wp2_with (at_builtin; refine append_lay layP _ 68 149 i0 _ 24 Tryz.underlying68 hi hz0 hz1 hz2 rfl rfl _ _ rfl 0 _ L rfl HO.out _ 1 1 [x] rfl HR.out (fun e => by cases e) ?b1 ?b2 (Nat.zero_le _) ?_)
      case b1 => unfold maxLen; have := HL.out; have := HN.out; omega
      case b2 => have := HL.out; have := HN.out; omega
      intro v' w' o1 g1 l1
      go_wp2
      go_ret
      exact ⟨v', rfl, o1, But.of_grown g1 (fun _ e => e), l1.imp id fun e => ⟨_, e, Nat.le_refl _⟩⟩
    · go_enter Tryz.func155, Tryz.ntmps155
      go_wp2_with (at_builtin; refine append_lay layP _ 68 149 i0 _ 24 Tryz.underlying68 hi hz0 hz1 hz2 rfl rfl _ _ rfl 0 _ L rfl HO.out _ 1 1 [x] rfl HR.out (fun e => by cases e) ?b1 ?b2 (Nat.zero_le _) ?_)
      case b1 => unfold maxLen; have := HL.out; have := HN.out; omega
      case b2 => have := HL.out; have := HN.out; omega
      intro v' w' o1 g1 l1
      go_wp2
      go_ret
      exact ⟨v', rfl, o1, But.of_grown g1 (fun _ e => e), l1.imp id fun e => ⟨_, e, Nat.le_refl _⟩⟩
set_option maxRecDepth 8000 in
set_option maxHeartbeats 1000000 in
theorem insP_room (g n c i : Nat) (L : List Pc) (x : Pc) (vb : Nat) (w : World) (h : Own layP 149 w 0 (.slice (some ⟨g, 0, none⟩) n c) L) (hnl : L.length = n) (hi : i < n) (hroom : n + 1 ≤ c) (hv : w.heap[vb]? = some (.cells (layP.cs x).toArray 149 (0, 0))) (hne : vb ≠ g) (hn : (n : Int) ≤ 4000000) :
    Calls Tryz.prog 155 #[.slice (some ⟨g, 0, none⟩) n c, .int .i64 (i : Int), .slice (some ⟨vb, 0, none⟩) 1 1] w fun r w' => r = .returned (.slice (some ⟨g, 0, none⟩) (n + 1) c) ∧ Own layP 149 w' 0 (.slice (some ⟨g, 0, none⟩) (n + 1) c) (L.take i ++ x :: L.drop i) ∧ But (fun b => b = g) w w' := by
  obtain ⟨cur, hg, hsz, hfl, _, _, hmx⟩ := h.raw
  have hov : ∀ lb cb, (callFunc 165 #[.slice (some ⟨vb, 0, none⟩) 1 1, .slice (some ⟨g, (i + 1) * 1, none⟩) lb cb]).run Tryz.prog w = .ok (.value (.bool false)) w := fun lb cb => by
    rw [run_callFunc_extern Tryz.func165 (by kernel_rfl) (by kernel_rfl) (by kernel_rfl) (e := Extern.SlicesOverlaps.overlaps #[68, 68] #[4]) (by kernel_rfl),
      Lib.run_overlaps_apart w 68 4 149 Tryz.underlying68 1 (fun w => by kernel_rfl) ⟨vb, 0, none⟩ ⟨g, (i + 1) * 1, none⟩ 1 1 lb cb hne 149 149 (layP.cs x).toArray.size cur.size (by simp [World.shape?, hv]) (by simp [World.shape?, hg]) (by rw [hsz]; show c * 1 ≠ 0; omega) (frz hv 0) (frz hv _)]
    rfl
  have hrow := h.row hnl
  have hdn : TRow layP w (some ⟨g, i * 1, none⟩) (n - i) (L.drop i) := by have := hrow.drop i (by omega); rw [Nat.zero_add] at this; exact this
  have hdl : (L.drop i).length = n - i := by rw [List.length_drop, hnl]
  have hcp1 : ∀ ty dc sc, (Builtin.copy_ #[68, 68] ty #[.slice (some ⟨g, (i + 1) * 1, none⟩) (n - i) dc, .slice (some ⟨g, i * 1, none⟩) (n + 1 - i) sc]).run Tryz.prog w.drew =   .ok (goInt ((n - i : Nat) : Int)) (w.drew.setRow g (spl layP.z cur (i + 1) (layP.fl (L.drop i)))) := fun ty dc sc =>
    run_copyR (w := w.drew) layP 68 149 Tryz.underlying68 sizeP ty g cur 149 hg (i + 1) _ dc _ _ sc (L.drop i) (n - i) (hdn.below ((Below.refl _ _).drew)) (by simp only [Nat.min_def]; split <;> omega) (by omega) (by rw [hsz]; show (i + 1) * 1 + (n - i) * 1 ≤ c * 1; omega)
  obtain ⟨cur1, hcur1⟩ : ∃ cur1, cur1 = spl layP.z cur (i + 1) (layP.fl (L.drop i)) := ⟨_, rfl⟩
  have hs1 : cur1.size = c * layP.z := by rw [hcur1, spl_size (by rw [layP.fl_len, hdl, hsz]; show (i + 1) * 1 + (n - i) * 1 ≤ c * 1; omega), hsz]
  obtain ⟨W1, hW1⟩ : ∃ W1, W1 = w.drew.setRow g cur1 := ⟨_, rfl⟩
  have hg1 : W1.heap[g]? = some (.cells cur1 149 (0, 0)) := by rw [hW1]; exact setRow_heap w.drew g cur cur1 149 (0, 0) hg
  have hb1 : But (fun b => b = g) w W1 := by
    rw [hW1]
    exact (But.refl (fun b => b = g) w).drew.trans (T := fun b => b = g) ⟨rfl, rfl, rfl, by simp [World.setRow], fun q _ hq => setRow_other w.drew g q _ hq⟩ (fun _ _ e => e)
  have hv1 : W1.heap[vb]? = some (.cells (layP.cs x).toArray 149 (0, 0)) := (hb1.block vb (Array.getElem?_eq_some_iff.1 hv).1 hne).trans hv
  have hcp2 : ∀ ty dc, (Builtin.copy_ #[68, 68] ty #[.slice (some ⟨g, i * 1, none⟩) (n + 1 - i) dc, .slice (some ⟨vb, 0, none⟩) 1 1]).run Tryz.prog W1 = .ok (goInt ((1 : Nat) : Int)) (W1.setRow g (spl layP.z cur1 i (layP.fl [x]))) := fun ty dc =>
    run_copyR layP 68 149 Tryz.underlying68 sizeP ty g cur1 149 hg1 i _ dc _ _ 1 [x] 1 (TRow.one hv1) (by simp only [Nat.min_def]; split <;> omega) (by omega) (by rw [hs1]; show i * 1 + 1 * 1 ≤ c * 1; omega)
  have hN := spl_shift layP x hsz hfl (by omega : i < L.length) (by omega : L.length + 1 ≤ c)
  rw [← hcur1] at hN hcp1
  rw [← hW1] at hcp1
  have hLl : (L.take i ++ x :: L.drop i).length = n + 1 := by rw [List.length_append, List.length_take, List.length_cons, hdl]; omega
  rw [layP.fl_one] at hcp2
  have hOwn : Own layP 149 (W1.setRow g (spl layP.z cur1 i (layP.cs x))) 0 (.slice (some ⟨g, 0, none⟩) (n + 1) c) (L.take i ++ x :: L.drop i) := by
    have := Own.of_raw (base := 0) (setRow_heap W1 g cur1 _ 149 (0, 0) hg1) hN.1 hN.2 (by rw [hLl]; exact hroom) (Nat.zero_le _) hmx
    rwa [hLl] at this
  have HOwn := hide hOwn
  have HBut : Hid (But (fun b => b = g) w (W1.setRow g (spl layP.z cur1 i (layP.cs x)))) := hide (hb1.trans (T := fun b => b = g) ⟨rfl, rfl, rfl, by simp [World.setRow], fun q _ hq => setRow_other W1 g q _ hq⟩ (fun _ _ e => e))
  have hiI : (i : Int) < n := by omega
  have hcI : (n : Int) + 1 ≤ (c : Int) := by omega
  have hi63 : (c : Int) ≤ 9223372036854775807 := by unfold maxLen at hmx; omega
  have n1 : ¬ (c = i) := by omega
  have n2 : ¬ (c = i + 1) := by omega
  have n3 : ¬ ((i : Int) = (n : Int)) := by omega
  simp only [Nat.mul_one] at hcp1 hcp2 hov
  have HCP1 := hide hcp1
  have HCP2 := hide hcp2
  clear hOwn hb1 hv1 hs1 hg1 hcur1 hN hcp1 hcp2 hrow hdn hdl hfl hsz hLl hmx h hv hg hnl hne hroom hW1
  have hw1 : IntKind.i64.wrap ((i : Int) + 1) = (i : Int) + 1 := by rw [IntKind.wrap_i64]; omega
  have hb1' : (0 : Int) ≤ (i : Int) + 1 := by omega
  have htn : ((i : Int) + 1).toNat = i + 1 := by omega
  have hb3 : (i : Int) ≤ (n : Int) := by omega
  have hb4 : (i : Int) ≤ (n : Int) + 1 := by omega
  have hb5 : (i : Int) + 1 ≤ (n : Int) + 1 := by omega
  go_enter Tryz.func155, Tryz.ntmps155
  go_wp2_with (simp only [hov])
  go_region_law (refine step_copy_run rfl (.tmp 73) (.tmp 76) 68 68 rfl (.slice (some ⟨g, i + 1, none⟩) (n - i) (c - (i + 1))) (.slice (some ⟨g, i, none⟩) (n + 1 - i) (c - i)) (by simp [Act.eval, Act.put]) (by simp [Act.eval, Act.put]) (HCP1.out _ _ _) ?_)
  go_wp2_with (refine wpList_copy_run rfl _ _ 68 68 rfl _ _ rfl rfl (HCP2.out _ _) ?_)
  go_ret
  exact ⟨rfl, HOwn.out, HBut.out⟩
set_option maxRecDepth 8000 in
set_option maxHeartbeats 1000000 in
theorem insP_grow (g n i : Nat) (L : List Pc) (x : Pc) (vb : Nat) (w : World) (h : Own layP 149 w 0 (.slice (some ⟨g, 0, none⟩) n n) L) (hnl : L.length = n) (hi : i < n) (hv : w.heap[vb]? = some (.cells (layP.cs x).toArray 149 (0, 0))) (hn : (n : Int) ≤ 4000000) :
    Calls Tryz.prog 155 #[.slice (some ⟨g, 0, none⟩) n n, .int .i64 (i : Int), .slice (some ⟨vb, 0, none⟩) 1 1] w fun r w' => ∃ G, r = .returned (.slice (some ⟨w.heap.size, 0, none⟩) (n + 1) G) ∧ Own layP 149 w' 0 (.slice (some ⟨w.heap.size, 0, none⟩) (n + 1) G) (L.take i ++ x :: L.drop i) ∧ Below w.heap.size w w' := by
  obtain ⟨i0, hi0, hz0, hz1, hz2⟩ := info_parts Tryz.infoP
  have hrow := h.row hnl
  have hgl : g < w.heap.size := (h.lt g rfl).2
  have hvl : vb < w.heap.size := (Array.getElem?_eq_some_iff.1 hv).1
  have hdn : TRow layP w (some ⟨g, i * 1, none⟩) (n - i) (L.drop i) := by have := hrow.drop i (by omega); rw [Nat.zero_add] at this; exact this
  have hdl : (L.drop i).length = n - i := by rw [List.length_drop, hnl]
  have htk : (L.take i).length = i := by rw [List.length_take]; omega
  have hold : (Builtin.firstCells i0.size i (.slice (some ⟨g, 0, none⟩) i n)).run Tryz.prog w.drew = .ok (layP.fl (L.take i)).toArray w.drew := by
    rw [hz1]
    exact run_firstCells_some w.drew 1 i ⟨g, 0, none⟩ i n (layP.fl (L.take i)) (by rw [layP.fl_len, htk]; rfl) ((hrow.cut i (by omega)).below ((Below.refl _ w).drew)).news
  have hik : i + (n + 1 - i) = n + 1 := by omega
  have hrz : ∀ ty, (Builtin.append_ #[68, 3] ty #[.slice (some ⟨g, 0, none⟩) i n, .int .i64 ((n : Int) + 1 - (i : Int))]).run Tryz.prog w =
      .ok (.slice (some ⟨w.heap.size, 0, none⟩) (n + 1) (grownCap w (n + 1) n 149)) (w.drew.alloc (.cells ((layP.fl (L.take i)).toArray ++ Builtin.zeroCells (.slice .none 0 0 : Value).cells (n + 1 - i) ++ Builtin.zeroCells (.slice .none 0 0 : Value).cells (grownCap w (n + 1) n 149 - (n + 1))) 149)) := fun ty => by
    have h9 := Lib.run_append_grow_zeros w 68 3 ty 149 i0 _ .i64 .i64 Tryz.underlying68 Tryz.underlying3 hi0 hz0 (some ⟨g, 0, none⟩) i n (layP.fl (L.take i)) hold (n + 1 - i) (by omega) (by omega) (by omega) (by omega) (by rw [hz2]; omega) (by rw [hz2, hik]; exact growslice_fits (by omega) (by omega))
    rw [hik] at h9
    rw [show (n : Int) + 1 - (i : Int) = ((n + 1 - i : Nat) : Int) by omega]
    exact h9
  obtain ⟨G, hG⟩ : ∃ G, G = grownCap w (n + 1) n 149 := ⟨_, rfl⟩
  have hGn : n + 1 ≤ G := by rw [hG]; exact grownCap_ge w _ _ _
  have hGm : G ≤ maxLen := by rw [hG]; exact grownCap_le_maxLen w (n + 1) n 149 (by unfold maxLen; omega)
  rw [← hG] at hrz
  obtain ⟨ROW, hROW⟩ : ∃ ROW : Array Value, ROW = (layP.fl (L.take i)).toArray ++ Builtin.zeroCells (.slice .none 0 0 : Value).cells (n + 1 - i) ++ Builtin.zeroCells (.slice .none 0 0 : Value).cells (G - (n + 1)) := ⟨_, rfl⟩
  rw [← hROW] at hrz
  have hRs : ROW.size = G * layP.z := by
    rw [hROW]
    simp only [Array.size_append, List.size_toArray, layP.fl_len, htk]
    show i * 1 + _ + _ = G * 1
    simp [Builtin.zeroCells, Value.cells]
    omega
  have hRt : ROW.toList.take (i * layP.z) = layP.fl (L.take i) := by
    rw [hROW, Array.toList_append, Array.toList_append, List.append_assoc]
    exact take_app _ _ _ (by show (layP.fl (L.take i)).length = _; rw [layP.fl_len, htk])
  obtain ⟨W1, hW1⟩ : ∃ W1, W1 = w.drew.alloc (.cells ROW 149) := ⟨_, rfl⟩
  rw [← hW1] at hrz
  have hb1 : Below w.heap.size w W1 := by rw [hW1]; exact ((Below.refl w.heap.size w).drew).alloc (Nat.le_refl _) _
  have hg1 : W1.heap[w.heap.size]? = some (.cells ROW 149 (0, 0)) := by rw [hW1]; exact heap_new w.drew _
  have hv1 : W1.heap[vb]? = some (.cells (layP.cs x).toArray 149 (0, 0)) := (hb1.block vb hvl).trans hv
  have hcp1 : ∀ ty dc, (Builtin.copy_ #[68, 68] ty #[.slice (some ⟨w.heap.size, i * 1, none⟩) (n + 1 - i) dc, .slice (some ⟨vb, 0, none⟩) 1 1]).run Tryz.prog W1 = .ok (goInt ((1 : Nat) : Int)) (W1.setRow w.heap.size (spl layP.z ROW i (layP.fl [x]))) := fun ty dc =>
    run_copyR (w := W1) layP 68 149 Tryz.underlying68 sizeP ty w.heap.size ROW 149 hg1 i _ dc _ _ 1 [x] 1 (TRow.one hv1) (by simp only [Nat.min_def]; split <;> omega) (by omega) (by rw [hRs]; show i * 1 + 1 * 1 ≤ G * 1; omega)
  rw [layP.fl_one] at hcp1
  obtain ⟨cur1, hcur1⟩ : ∃ cur1, cur1 = spl layP.z ROW i (layP.cs x) := ⟨_, rfl⟩
  have hs1 : cur1.size = G * layP.z := by rw [hcur1, spl_size (by rw [layP.len, hRs]; show i * 1 + 1 ≤ G * 1; omega), hRs]
  rw [← hcur1] at hcp1
  obtain ⟨W2, hW2⟩ : ∃ W2, W2 = W1.setRow w.heap.size cur1 := ⟨_, rfl⟩
  rw [← hW2] at hcp1
  have hg2 : W2.heap[w.heap.size]? = some (.cells cur1 149 (0, 0)) := by rw [hW2]; exact setRow_heap W1 w.heap.size ROW cur1 149 (0, 0) hg1
  have hb2 : Below w.heap.size w W2 := by rw [hW2]; exact hb1.trans ⟨rfl, rfl, rfl, by simp [World.setRow], fun q hq => setRow_other W1 w.heap.size q _ (by omega)⟩
  have hcp2 : ∀ ty dc sc, (Builtin.copy_ #[68, 68] ty #[.slice (some ⟨w.heap.size, (i + 1) * 1, none⟩) (n - i) dc, .slice (some ⟨g, i * 1, none⟩) (n - i) sc]).run Tryz.prog W2.drew = .ok (goInt ((n - i : Nat) : Int)) (W2.drew.setRow w.heap.size (spl layP.z cur1 (i + 1) (layP.fl (L.drop i)))) := fun ty dc sc =>
    run_copyR (w := W2.drew) layP 68 149 Tryz.underlying68 sizeP ty w.heap.size cur1 149 hg2 (i + 1) _ dc _ _ sc (L.drop i) (n - i) (hdn.below hb2.drew) (by simp only [Nat.min_def]; split <;> omega) (by omega) (by rw [hs1]; show (i + 1) * 1 + (n - i) * 1 ≤ G * 1; omega)
  have hN := spl_new layP (L := L) x hRs hRt (by omega : i < L.length) (by omega : L.length + 1 ≤ G)
  rw [← hcur1] at hN
  have hLl : (L.take i ++ x :: L.drop i).length = n + 1 := by rw [List.length_append, htk, List.length_cons, hdl]; omega
  have hOwn : Own layP 149 (W2.drew.setRow w.heap.size (spl layP.z cur1 (i + 1) (layP.fl (L.drop i)))) 0 (.slice (some ⟨w.heap.size, 0, none⟩) (n + 1) G) (L.take i ++ x :: L.drop i) := by
    have := Own.of_raw (base := 0) (setRow_heap W2.drew w.heap.size cur1 _ 149 (0, 0) hg2) hN.1 hN.2 (by rw [hLl]; exact hGn) (Nat.zero_le _) hGm
    rwa [hLl] at this
  have HOwn := hide hOwn
  have HBel : Hid (Below w.heap.size w (W2.drew.setRow w.heap.size (spl layP.z cur1 (i + 1) (layP.fl (L.drop i))))) := hide (hb2.drew.trans ⟨rfl, rfl, rfl, by simp [World.setRow], fun q hq => setRow_other W2.drew w.heap.size q _ (by omega)⟩)
  have hiI : (i : Int) < n := by omega
  have hcI : (n : Int) + 1 ≤ (G : Int) := by omega
  have hi63 : (G : Int) ≤ 9223372036854775807 := by unfold maxLen at hGm; omega
  have n1 : ¬ (G = i) := by omega
  have n2 : ¬ (G = i + 1) := by omega
  have n3 : ¬ ((i : Int) = (n : Int)) := by omega
  have n4 : ¬ (n = i) := by omega
  simp only [Nat.mul_one] at hcp1 hcp2
  have HCP1 := hide hcp1
  have HCP2 := hide hcp2
  have HRZ := hide hrz
  clear hOwn hb1 hv1 hs1 hg1 hcur1 hN hcp1 hcp2 hrow hdn hdl hLl hGm h hv hnl hW1 hW2 hb2 hg2 hRs hRt hROW hG hrz hold hik htk hGn hvl hgl
  have hw1 : IntKind.i64.wrap ((i : Int) + 1) = (i : Int) + 1 := by rw [IntKind.wrap_i64]; omega
  have hb1' : (0 : Int) ≤ (i : Int) + 1 := by omega
  have htn : ((i : Int) + 1).toNat = i + 1 := by omega
  have hb3 : (i : Int) ≤ (n : Int) := by omega
  have hb4 : (i : Int) ≤ (n : Int) + 1 := by omega
  have hb5 : (i : Int) + 1 ≤ (n : Int) + 1 := by omega
  go_enter Tryz.func155, Tryz.ntmps155
  go_wp2_with (first
    | (at_builtin; refine Lib.wpList_append_run _ rfl _ _ _ _ rfl _ _ rfl rfl _ _ (HRZ.out _) ?_)
    | (refine wpList_copy_run rfl _ _ 68 68 rfl _ _ rfl rfl (HCP1.out _ _) ?_))
  go_region_law (refine step_copy_run rfl (.tmp 50) (.tmp 53) 68 68 rfl (.slice (some ⟨w.heap.size, i + 1, none⟩) (n - i) (G - (i + 1))) (.slice (some ⟨g, i, none⟩) (n - i) (n - i)) (by simp [Act.eval, Act.put]) (by simp [Act.eval, Act.put]) (HCP2.out _ _ _) ?_)
  go_wp2
  go_ret
  exact ⟨_, rfl, HOwn.out, HBel.out⟩
/-- One thing put in at a place. -/
theorem insP_any (v : Value) (L : List Pc) (i : Nat) (x : Pc) (vb : Nat) (w : World) (h : Own layP 149 w 0 v L) (hi : i ≤ L.length) (hv : w.heap[vb]? = some (.cells (layP.cs x).toArray 149 (0, 0))) (hne : v.ownBlock ≠ some vb) (hn : (L.length : Int) ≤ 4000000) :
    Calls Tryz.prog 155 #[v, .int .i64 (i : Int), .slice (some ⟨vb, 0, none⟩) 1 1] w fun r w' => ∃ v', r = .returned v' ∧ Own layP 149 w' 0 v' (L.take i ++ x :: L.drop i) ∧ But (fun b => v.ownBlock = some b) w w' ∧ (v'.ownBlock = v.ownBlock ∨ ∃ b, v'.ownBlock = some b ∧ w.heap.size ≤ b) := by
  by_cases he : i = L.length
  · subst he
    rw [List.take_length, List.drop_length]
    exact insP_end v L x vb w h hv hn
  · obtain ⟨g, c, rfl, _, hg, hc⟩ := h.frm (by omega)
    by_cases hroom : L.length + 1 ≤ c
    · refine (insP_room g L.length c i L x vb w h rfl (by omega) hroom hv (fun e => hne (by rw [e]; rfl)) hn).mono ?_
      rintro r w' ⟨rfl, o, b⟩
      exact ⟨_, rfl, o, b.mono (fun k e => by rw [e]; rfl), .inl rfl⟩
    · obtain rfl : c = L.length := by omega
      refine (insP_grow g L.length i L x vb w h rfl (by omega) hv hn).mono ?_
      rintro r w' ⟨G, rfl, o, b⟩
      exact ⟨_, rfl, o, But.of_below b, .inr ⟨_, rfl, Nat.le_refl _⟩⟩
end Go.Proofs.YtafkammiehcdjaaGreatDoor
/-
  slices.Delete of one thing: Pc.
-/
namespace Go.Proofs.YtafkammiehcdjaaGreatDoor
open Go.RowKit Go.Lib
theorem zeroVP (w : World) : (zeroValue 149).run Tryz.prog w = .ok (.slice .none 0 0) w := by kernel_rfl
set_option maxRecDepth 8000 in
set_option maxHeartbeats 1000000 in
theorem delP_mid (g n c i : Nat) (L : List Pc) (w : World) (h : Own layP 149 w 0 (.slice (some ⟨g, 0, none⟩) n c) L) (hnl : L.length = n) (hi : i < n) (hcc : ¬ c = i + 1) (hn : (n : Int) ≤ 4000000) :
    Calls Tryz.prog 158 #[.slice (some ⟨g, 0, none⟩) n c, .int .i64 (i : Int), .int .i64 ((i : Int) + 1)] w fun r w' => r = .returned (.slice (some ⟨g, 0, none⟩) (n - 1) c) ∧ Own layP 149 w' 0 (.slice (some ⟨g, 0, none⟩) (n - 1) c) (L.take i ++ L.drop (i + 1)) ∧ But (fun b => b = g) w w' := by
  obtain ⟨i0, hi0, hz0, hz1, hz2⟩ := info_parts Tryz.infoP
  have hcn : n ≤ c := by obtain ⟨_, _, _, _, hc, _⟩ := h.raw; omega
  have hmx : c ≤ maxLen := by obtain ⟨_, _, _, _, _, _, hc⟩ := h.raw; exact hc
  have hrow := h.row hnl
  have hcut : Own layP 149 w 0 (.slice (some ⟨g, 0, none⟩) i c) (L.take i) := h.cut hnl (by omega)
  have htk : (L.take i).length = i := by rw [List.length_take]; omega
  have hdl : (L.drop (i + 1)).length = n - (i + 1) := by rw [List.length_drop, hnl]
  have hdn : TRow layP w (some ⟨g, (i + 1) * 1, none⟩) (n - (i + 1)) (L.drop (i + 1)) := by have := hrow.drop (i + 1) (by omega); rw [Nat.zero_add] at this; exact this
  have hcut9 : w.drew.ownsRow 0 149 1 (.slice (some ⟨g, 0, none⟩) i c) i (layP.fl (L.take i)) := by
    have h9 : w.ownsRow 0 149 layP.z (.slice (some ⟨g, 0, none⟩) i c) (L.take i).length (layP.fl (L.take i)) := hcut
    rw [htk] at h9
    exact h9
  obtain ⟨W1, hrun, hown, hgr⟩ := run_append_fits (P := Tryz.prog) w.drew 0 68 68 149 i0 1 Tryz.underlying68 hi0 hz1 g i c (layP.fl (L.take i)) hcut9 ⟨g, (i + 1) * 1, none⟩ (n - (i + 1)) (c - (i + 1)) (layP.fl (L.drop (i + 1))) (by rw [layP.fl_len, hdl]; rfl) (hdn.below ((Below.refl _ w).drew)).news (layP.fl_cell _) (by omega)
  have hsum : i + (n - (i + 1)) = n - 1 := by omega
  rw [hsum] at hrun hown
  rw [← layP.fl_app] at hown
  have hLl : (L.take i ++ L.drop (i + 1)).length = n - 1 := by rw [List.length_append, htk, hdl]; omega
  have hown2 : Own layP 149 W1 0 (.slice (some ⟨g, 0, none⟩) (n - 1) c) (L.take i ++ L.drop (i + 1)) := by
    unfold Own; rw [hLl]; exact hown
  obtain ⟨cur, hg, hsz, hfl, _, _, _⟩ := hown2.raw
  have hcl : ∀ ty cc, (Builtin.clear_ #[68] ty #[.slice (some ⟨g, (n - 1) * 1, none⟩) 1 cc]).run Tryz.prog W1 = .ok (.tuple #[]) (W1.setRow g (spl layP.z cur (n - 1) (layP.cs ⟨none, 0, []⟩))) := fun ty cc =>
    run_clearR layP 68 149 Tryz.underlying68 _ zeroVP ⟨none, 0, []⟩ (by simp [Builtin.zeroCells, Value.cells, layP]) ty g cur 149 hg (n - 1) cc (by rw [hsz]; show (n - 1) * 1 + 1 ≤ c * 1; omega)
  have hb1 : But (fun b => b = g) w W1 := (But.refl (fun b => b = g) w).drew.grown hgr (fun k _ e => by injection e with e; exact e.symm)
  have hOwn : Own layP 149 (W1.setRow g (spl layP.z cur (n - 1) (layP.cs ⟨none, 0, []⟩))) 0 (.slice (some ⟨g, 0, none⟩) (n - 1) c) (L.take i ++ L.drop (i + 1)) := by
    have h9 := Own.of_raw (y := layP) (L := L.take i ++ L.drop (i + 1)) (base := 0) (c := c) (setRow_heap W1 g cur (spl layP.z cur (n - 1) (layP.cs ⟨none, 0, []⟩)) 149 (0, 0) hg) (by rw [spl_size (by rw [layP.len, hsz]; show (n - 1) * 1 + 1 ≤ c * 1; omega), hsz])
      (by rw [hLl, spl_take (by rw [hsz]; show (n - 1) * 1 ≤ c * 1; omega), ← hLl]; exact hfl) (by rw [hLl]; omega) (Nat.zero_le _) hmx
    rwa [hLl] at h9
  have hBut : But (fun b => b = g) w (W1.setRow g (spl layP.z cur (n - 1) (layP.cs ⟨none, 0, []⟩))) := (hb1.trans (T := fun b => b = g) ⟨rfl, rfl, rfl, by simp [World.setRow], fun q _ hq => setRow_other W1 g q _ hq⟩ (fun _ _ e => e))
  have hiI : (i : Int) < n := by omega
  have hcI : (n : Int) ≤ (c : Int) := by omega
  have hi63 : (c : Int) ≤ 9223372036854775807 := by unfold maxLen at hmx; omega
  have n1 : ¬ (c = i) := by omega
  have n3 : ¬ ((i : Int) = (i : Int) + 1) := by omega
  have n5 : ¬ (c = n - 1) := by omega
  have n7 : ((i : Int) == (i : Int) + 1) = false := by rw [beq_eq_false_iff_ne]; omega
  have hw1 : IntKind.i64.wrap ((i : Int) + 1) = (i : Int) + 1 := by rw [IntKind.wrap_i64]; omega
  have hb1' : (0 : Int) ≤ (i : Int) + 1 := by omega
  have htn : ((i : Int) + 1).toNat = i + 1 := by omega
  have hb3 : (i : Int) ≤ (n : Int) := by omega
  have hb5 : (i : Int) + 1 ≤ (n : Int) := by omega
  have hb6 : (i : Int) ≤ (c : Int) := by omega
  have hm1 : n - (n - 1) = 1 := by omega
  have hm2 : n - 1 ≤ n := by omega
  simp only [Nat.mul_one] at hrun
  simp only [Nat.mul_one] at hcl
  have HCL := hide hcl
  have HOwn := hide hOwn
  have HBut := hide hBut
  have HRUN := hide hrun
  clear hOwn hBut hb1 hcl hrow hdn hdl hfl hsz hLl hmx h hnl hcut htk hcut9 hown hown2 hgr hg hrun hsum
  go_enter Tryz.func158, Tryz.ntmps158
  go_wp2_with fail
  go_region_law (refine step_append_run rfl (.tmp 22) (.tmp 25) 68 68 rfl (.slice (some ⟨g, 0, none⟩) i c) (.slice (some ⟨g, i + 1, none⟩) (n - (i + 1)) (c - (i + 1))) (by simp [Act.eval, Act.put]) (by simp [Act.eval, Act.put]) HRUN.out ?_)
  go_wp2_with (refine wpList_clear_run rfl _ 68 rfl _ rfl (HCL.out _ _) ?_)
  go_ret
  exact ⟨rfl, HOwn.out, HBut.out⟩
set_option maxRecDepth 8000 in
set_option maxHeartbeats 1000000 in
theorem delP_end (g n c i : Nat) (L : List Pc) (w : World) (h : Own layP 149 w 0 (.slice (some ⟨g, 0, none⟩) n c) L) (hnl : L.length = n) (hi : i < n) (hcc : c = i + 1) (hn : (n : Int) ≤ 4000000) :
    Calls Tryz.prog 158 #[.slice (some ⟨g, 0, none⟩) n c, .int .i64 (i : Int), .int .i64 ((i : Int) + 1)] w fun r w' => r = .returned (.slice (some ⟨g, 0, none⟩) (n - 1) c) ∧ Own layP 149 w' 0 (.slice (some ⟨g, 0, none⟩) (n - 1) c) (L.take i ++ L.drop (i + 1)) ∧ But (fun b => b = g) w w' := by
  obtain ⟨i0, hi0, hz0, hz1, hz2⟩ := info_parts Tryz.infoP
  have hcn : n ≤ c := by obtain ⟨_, _, _, _, hc, _⟩ := h.raw; omega
  have hmx : c ≤ maxLen := by obtain ⟨_, _, _, _, _, _, hc⟩ := h.raw; exact hc
  have hrow := h.row hnl
  have hcut : Own layP 149 w 0 (.slice (some ⟨g, 0, none⟩) i c) (L.take i) := h.cut hnl (by omega)
  have htk : (L.take i).length = i := by rw [List.length_take]; omega
  have hdl : (L.drop (i + 1)).length = n - (i + 1) := by rw [List.length_drop, hnl]
  have hdn : TRow layP w (some ⟨g, 0, none⟩) (n - (i + 1)) (L.drop (i + 1)) := ⟨hdl, .inl (by omega)⟩
  have hcut9 : w.drew.ownsRow 0 149 1 (.slice (some ⟨g, 0, none⟩) i c) i (layP.fl (L.take i)) := by
    have h9 : w.ownsRow 0 149 layP.z (.slice (some ⟨g, 0, none⟩) i c) (L.take i).length (layP.fl (L.take i)) := hcut
    rw [htk] at h9
    exact h9
  obtain ⟨W1, hrun, hown, hgr⟩ := run_append_fits (P := Tryz.prog) w.drew 0 68 68 149 i0 1 Tryz.underlying68 hi0 hz1 g i c (layP.fl (L.take i)) hcut9 ⟨g, 0, none⟩ (n - (i + 1)) (c - (i + 1)) (layP.fl (L.drop (i + 1))) (by rw [layP.fl_len, hdl]; rfl) (hdn.below ((Below.refl _ w).drew)).news (layP.fl_cell _) (by omega)
  have hsum : i + (n - (i + 1)) = n - 1 := by omega
  rw [hsum] at hrun hown
  rw [← layP.fl_app] at hown
  have hLl : (L.take i ++ L.drop (i + 1)).length = n - 1 := by rw [List.length_append, htk, hdl]; omega
  have hown2 : Own layP 149 W1 0 (.slice (some ⟨g, 0, none⟩) (n - 1) c) (L.take i ++ L.drop (i + 1)) := by
    unfold Own; rw [hLl]; exact hown
  obtain ⟨cur, hg, hsz, hfl, _, _, _⟩ := hown2.raw
  have hcl : ∀ ty cc, (Builtin.clear_ #[68] ty #[.slice (some ⟨g, (n - 1) * 1, none⟩) 1 cc]).run Tryz.prog W1 = .ok (.tuple #[]) (W1.setRow g (spl layP.z cur (n - 1) (layP.cs ⟨none, 0, []⟩))) := fun ty cc =>
    run_clearR layP 68 149 Tryz.underlying68 _ zeroVP ⟨none, 0, []⟩ (by simp [Builtin.zeroCells, Value.cells, layP]) ty g cur 149 hg (n - 1) cc (by rw [hsz]; show (n - 1) * 1 + 1 ≤ c * 1; omega)
  have hb1 : But (fun b => b = g) w W1 := (But.refl (fun b => b = g) w).drew.grown hgr (fun k _ e => by injection e with e; exact e.symm)
  have hOwn : Own layP 149 (W1.setRow g (spl layP.z cur (n - 1) (layP.cs ⟨none, 0, []⟩))) 0 (.slice (some ⟨g, 0, none⟩) (n - 1) c) (L.take i ++ L.drop (i + 1)) := by
    have h9 := Own.of_raw (y := layP) (L := L.take i ++ L.drop (i + 1)) (base := 0) (c := c) (setRow_heap W1 g cur (spl layP.z cur (n - 1) (layP.cs ⟨none, 0, []⟩)) 149 (0, 0) hg) (by rw [spl_size (by rw [layP.len, hsz]; show (n - 1) * 1 + 1 ≤ c * 1; omega), hsz])
      (by rw [hLl, spl_take (by rw [hsz]; show (n - 1) * 1 ≤ c * 1; omega), ← hLl]; exact hfl) (by rw [hLl]; omega) (Nat.zero_le _) hmx
    rwa [hLl] at h9
  have hBut : But (fun b => b = g) w (W1.setRow g (spl layP.z cur (n - 1) (layP.cs ⟨none, 0, []⟩))) := (hb1.trans (T := fun b => b = g) ⟨rfl, rfl, rfl, by simp [World.setRow], fun q _ hq => setRow_other W1 g q _ hq⟩ (fun _ _ e => e))
  have hiI : (i : Int) < n := by omega
  have hcI : (n : Int) ≤ (c : Int) := by omega
  have hi63 : (c : Int) ≤ 9223372036854775807 := by unfold maxLen at hmx; omega
  have n1 : ¬ (c = i) := by omega
  have n3 : ¬ ((i : Int) = (i : Int) + 1) := by omega
  have n5 : ¬ (c = n - 1) := by omega
  have n7 : ((i : Int) == (i : Int) + 1) = false := by rw [beq_eq_false_iff_ne]; omega
  have hw1 : IntKind.i64.wrap ((i : Int) + 1) = (i : Int) + 1 := by rw [IntKind.wrap_i64]; omega
  have hb1' : (0 : Int) ≤ (i : Int) + 1 := by omega
  have htn : ((i : Int) + 1).toNat = i + 1 := by omega
  have hb3 : (i : Int) ≤ (n : Int) := by omega
  have hb5 : (i : Int) + 1 ≤ (n : Int) := by omega
  have hb6 : (i : Int) ≤ (c : Int) := by omega
  have hm1 : n - (n - 1) = 1 := by omega
  have hm2 : n - 1 ≤ n := by omega
  simp only [Nat.mul_one] at hcl
  obtain rfl : n = i + 1 := by omega
  subst hcc
  simp only [Nat.sub_self, Nat.add_sub_cancel] at hrun hcl hOwn hBut ⊢
  clear n5 hm1 hm2 n7 hcI hiI n1
  have n5 : ¬ (i + 1 = i) := by omega
  have n6 : (i : Int) ≤ (i : Int) + 1 := by omega
  have n7 : ((i : Int) == (i : Int) + 1) = false := by rw [beq_eq_false_iff_ne]; omega
  have HCL := hide hcl
  have HOwn := hide hOwn
  have HBut := hide hBut
  have HRUN := hide hrun
  clear hOwn hBut hb1 hcl hrow hdn hdl hfl hsz hLl hmx h hnl hcut htk hcut9 hown hown2 hgr hg hrun hsum
  go_enter Tryz.func158, Tryz.ntmps158
  go_wp2_with fail
  go_region_law (refine step_append_run rfl (.tmp 22) (.tmp 25) 68 68 rfl (.slice (some ⟨g, 0, none⟩) i (i + 1)) (.slice (some ⟨g, 0, none⟩) 0 0) (by simp [Act.eval, Act.put]) (by simp [Act.eval, Act.put]) HRUN.out ?_)
  go_wp2_with (refine wpList_clear_run rfl _ 68 rfl _ rfl (HCL.out _ _) ?_)
  go_ret
  exact ⟨rfl, HOwn.out, HBut.out⟩
theorem delP_any (v : Value) (L : List Pc) (i : Nat) (w : World) (h : Own layP 149 w 0 v L) (hi : i < L.length) (hn : (L.length : Int) ≤ 4000000) :
    Calls Tryz.prog 158 #[v, .int .i64 (i : Int), .int .i64 ((i : Int) + 1)] w fun r w' => ∃ v', r = .returned v' ∧ Own layP 149 w' 0 v' (L.take i ++ L.drop (i + 1)) ∧ But (fun b => v.ownBlock = some b) w w' ∧ v'.ownBlock = v.ownBlock := by
  obtain ⟨g, c, rfl, _, hg, hc⟩ := h.frm (by omega)
  by_cases hcc : c = i + 1
  · refine (delP_end g L.length c i L w h rfl hi hcc hn).mono ?_
    rintro r w' ⟨rfl, o, b⟩
    exact ⟨_, rfl, o, b.mono (fun k e => by rw [e]; rfl), rfl⟩
  · refine (delP_mid g L.length c i L w h rfl hi hcc hn).mono ?_
    rintro r w' ⟨rfl, o, b⟩
    exact ⟨_, rfl, o, b.mono (fun k e => by rw [e]; rfl), rfl⟩
end Go.Proofs.YtafkammiehcdjaaGreatDoor
/-
  Pieces that are written: what a store of a piece makes of them; Clone, halve.
-/
namespace Go.Proofs.YtafkammiehcdjaaGreatDoor
open Go.RowKit
theorem pcs_ne {w : World} {P : Nat → Prop} {v : Value} {ps : List Pc} (h : Pcs w P v ps) {b : Nat} (hb : v.ownBlock = some b) {q : Pc} (hq : Own layN 148 w 0 q.val q.es) : q.val.ownBlock ≠ some b := by
  intro e
  obtain ⟨c1, h1⟩ := own_ty h.own hb
  obtain ⟨c2, h2⟩ := own_ty hq e
  rw [h1] at h2
  simp at h2
/-- A piece is stored in another's place. -/
theorem Pcs.put {w w1 : World} {P P' : Nat → Prop} {pg n c : Nat} {ps : List Pc} {i : Nat} {p q : Pc} (h : Pcs w P (.slice (some ⟨pg, 0, none⟩) n c) ps) (hn : ps.length = n) (hp : ps[i]? = some p) (hb : But (fun b => p.val.ownBlock = some b) w w1) (ho : Own layN 148 w1 0 q.val q.es)
    (hq : q.val.ownBlock = p.val.ownBlock ∨ ∃ b, q.val.ownBlock = some b ∧ w.heap.size ≤ b) (hP : ∀ b, P b → P' b) (hqP : ∀ b, q.val.ownBlock = some b → P' b) :
    Pcs (w1.setCell ⟨pg, i, none⟩ q.val) P' (.slice (some ⟨pg, 0, none⟩) n c) (ps.set i q) := by
  have hpm := List.mem_of_getElem? hp
  have hpg : ∀ r ∈ ps, r.val.ownBlock ≠ some pg := fun r hr => pcs_ne h rfl (h.each r hr)
  have hlt := (h.own.lt pg rfl).2
  have hown1 : Own layP 149 w1 0 (.slice (some ⟨pg, 0, none⟩) n c) ps := h.own.but hb (fun g hg e => by
    have e1 : pg = g := by simpa [Value.ownBlock] using hg
    subst e1; exact hpg p hpm e)
  have hown2 := hown1.setU hn hp (t := 0) (a' := q) (u := q.val) (by decide) rfl
  have e0 : i * layP.z + 0 = i := Nat.mul_one i
  rw [e0] at hown2
  have hB : But (fun b => b = pg) w1 (w1.setCell ⟨pg, i, none⟩ q.val) := (But.refl (fun b => b = pg) w1).setCell ⟨pg, i, none⟩ (fun _ => rfl) _
  have hqn : q.val.ownBlock ≠ some pg := by
    intro e
    obtain ⟨c1, h1⟩ := own_ty hown1 rfl
    obtain ⟨c2, h2⟩ := own_ty ho e
    rw [h1] at h2
    simp at h2
  have hget : ∀ (j : Nat) (r : Pc), (ps.set i q)[j]? = some r → (j = i ∧ r = q) ∨ (j ≠ i ∧ ps[j]? = some r) := by
    intro j r hr
    rw [List.getElem?_set] at hr
    by_cases e : i = j
    · rw [if_pos e] at hr
      split at hr
      · cases hr; exact .inl ⟨e.symm, rfl⟩
      · cases hr
    · rw [if_neg e] at hr; exact .inr ⟨fun e' => e e'.symm, hr⟩
  have hold : ∀ (j : Nat) (r : Pc), j ≠ i → ps[j]? = some r → Own layN 148 w1 0 r.val r.es := fun j r hj hr =>
    (h.each r (List.mem_of_getElem? hr)).but hb (fun g hg e => hj (h.apart j i r p g hr hp hg e))
  have hdis : ∀ (j : Nat) (r : Pc) (b : Nat), j ≠ i → ps[j]? = some r → r.val.ownBlock = some b → q.val.ownBlock ≠ some b := by
    intro j r b hj hr hrb e
    rcases hq with hq | ⟨b', hb', hle⟩
    · rw [hq] at e; exact hj (h.apart j i r p b hr hp hrb e)
    · rw [hb'] at e
      cases e
      have := ((h.each r (List.mem_of_getElem? hr)).lt b hrb).2
      omega
  refine ⟨hown2, fun r hr => ?_, fun b hb => hP b (h.vin b hb), fun r hr b hb => ?_, fun j1 j2 r1 r2 b hr1 hr2 hb1 hb2 => ?_⟩
  · obtain ⟨j, hj⟩ := List.mem_iff_getElem?.1 hr
    rcases hget j r hj with ⟨rfl, rfl⟩ | ⟨hne, hr'⟩
    · exact ho.but hB (fun g hg e => hqn (by rw [hg, e]))
    · exact (hold j r hne hr').but hB (fun g hg e => hpg r (List.mem_of_getElem? hr') (by rw [hg, e]))
  · obtain ⟨j, hj⟩ := List.mem_iff_getElem?.1 hr
    rcases hget j r hj with ⟨rfl, rfl⟩ | ⟨hne, hr'⟩
    · exact hqP b hb
    · exact hP b (h.pin r (List.mem_of_getElem? hr') b hb)
  · rcases hget j1 r1 hr1 with ⟨e1, rfl⟩ | ⟨n1, h1⟩
    · rcases hget j2 r2 hr2 with ⟨e2, rfl⟩ | ⟨n2, h2⟩
      · rw [e1, e2]
      · exact absurd hb1 (hdis j2 r2 b n2 h2 hb2)
    · rcases hget j2 r2 hr2 with ⟨e2, rfl⟩ | ⟨n2, h2⟩
      · exact absurd hb2 (hdis j1 r1 b n1 h1 hb1)
      · exact h.apart j1 j2 r1 r2 b h1 h2 hb1 hb2
set_option maxRecDepth 8000 in
/-- Clone of entries. -/
theorem cloE_any (b off n c : Nat) (M : List Ent) (w : World) (h : TRow layN w (some ⟨b, off, none⟩) n M) (hn : (n : Int) ≤ 4000000) :
    Calls Tryz.prog 156 #[.slice (some ⟨b, off, none⟩) n c] w fun r w' => ∃ v', r = .returned v' ∧ Own layN 148 w' w.heap.size v' M ∧ Below w.heap.size w w' := by
  obtain ⟨i0, hi, hz0, hz1, hz2⟩ := info_parts Tryz.infoN
  have hb1 := below_alloc1 w (.cells #[] 148)
  have HB1 := hide hb1
  have HR := hide (h.below hb1)
  have HO := hide (Own.lit0 layN 148 w (base := w.heap.size) (Nat.le_refl _))
  have HN := hide hn
  clear h hb1 hn
  have hnil := fun W : World => Lib.run_eql_slice_nil (P := Tryz.prog) W 149 148 (some ⟨b, off, none⟩) n c 0 0 Tryz.underlying149
  go_enter Tryz.func156, Tryz.ntmps156
  go_wp2_with (at_builtin; refine append_lay layN _ 149 148 i0 _ 16 Tryz.underlying149 hi hz0 hz1 hz2 rfl rfl _ _ rfl w.heap.size _ [] rfl HO.out _ n c M rfl HR.out (fun e => by cases e) ?b1 ?b2 (by simp) ?_)
  case b1 => unfold maxLen; have := HN.out; simp; omega
  case b2 => have := HN.out; simp; omega
  intro v' w' o1 g1 l1
  go_wp2
  go_ret
  refine ⟨v', rfl, by simpa using o1, ?_⟩
  exact (But.of_below (S := fun b => b = w.heap.size) HB1.out).grown g1 (fun k hk e => by simp [Value.ownBlock] at e; exact e.symm) |>.below (Nat.le_refl _) (fun k e => by omega)
/-- One more piece in the row of pieces. -/
theorem Pcs.ins {w w1 : World} {P P' : Nat → Prop} {v v' : Value} {ps : List Pc} {i : Nat} {q : Pc} (h : Pcs w P v ps) (hi : i ≤ ps.length) (hb : But (fun b => v.ownBlock = some b) w w1) (ho : Own layP 149 w1 0 v' (ps.take i ++ q :: ps.drop i))
    (hq : Own layN 148 w 0 q.val q.es) (hqn : ∀ r ∈ ps, ∀ b, r.val.ownBlock = some b → q.val.ownBlock ≠ some b) (hP : ∀ b, P b → P' b) (hvP : ∀ b, v'.ownBlock = some b → P' b) (hqP : ∀ b, q.val.ownBlock = some b → P' b) : Pcs w1 P' v' (ps.take i ++ q :: ps.drop i) := by
  have hne : ∀ r : Pc, Own layN 148 w 0 r.val r.es → ∀ g, r.val.ownBlock = some g → ¬ v.ownBlock = some g := fun r hr g hg e => pcs_ne h e hr hg
  have hmem : ∀ r, r ∈ ps.take i ++ q :: ps.drop i → r = q ∨ r ∈ ps := fun r hr => by
    rcases List.mem_append.1 hr with hr | hr
    · exact .inr (List.mem_of_mem_take hr)
    · rcases List.mem_cons.1 hr with hr | hr
      · exact .inl hr
      · exact .inr (List.mem_of_mem_drop hr)
  have htl : (ps.take i).length = i := by rw [List.length_take]; omega
  have hget : ∀ (j : Nat) (r : Pc), (ps.take i ++ q :: ps.drop i)[j]? = some r → (j < i ∧ ps[j]? = some r) ∨ (j = i ∧ r = q) ∨ (i < j ∧ ps[j - 1]? = some r) := by
    intro j r hr
    rcases Nat.lt_trichotomy j i with hj | hj | hj
    · rw [List.getElem?_append_left (by omega), List.getElem?_take, if_pos hj] at hr
      exact .inl ⟨hj, hr⟩
    · subst hj
      rw [List.getElem?_append_right (by omega), htl, Nat.sub_self] at hr
      simp at hr
      exact .inr (.inl ⟨rfl, hr.symm⟩)
    · rw [List.getElem?_append_right (by omega), htl] at hr
      obtain ⟨m, hm⟩ : ∃ m, j - i = m + 1 := ⟨j - i - 1, by omega⟩
      rw [hm, List.getElem?_cons_succ, List.getElem?_drop] at hr
      rw [show i + m = j - 1 by omega] at hr
      exact .inr (.inr ⟨hj, hr⟩)
  refine ⟨ho, fun r hr => ?_, hvP, fun r hr b hb => ?_, fun j1 j2 r1 r2 b hr1 hr2 hb1 hb2 => ?_⟩
  · rcases hmem r hr with rfl | hr
    · exact hq.but hb (hne _ hq)
    · exact (h.each r hr).but hb (hne _ (h.each r hr))
  · rcases hmem r hr with rfl | hr
    · exact hqP b hb
    · exact hP b (h.pin r hr b hb)
  · rcases hget j1 r1 hr1 with ⟨l1, g1⟩ | ⟨e1, rfl⟩ | ⟨l1, g1⟩ <;> rcases hget j2 r2 hr2 with ⟨l2, g2⟩ | ⟨e2, rfl⟩ | ⟨l2, g2⟩
    · exact h.apart j1 j2 r1 r2 b g1 g2 hb1 hb2
    · exact absurd hb2 (hqn r1 (List.mem_of_getElem? g1) b hb1)
    · have := h.apart j1 (j2 - 1) r1 r2 b g1 g2 hb1 hb2; omega
    · exact absurd hb1 (hqn r2 (List.mem_of_getElem? g2) b hb2)
    · omega
    · exact absurd hb1 (hqn r2 (List.mem_of_getElem? g2) b hb2)
    · have := h.apart (j1 - 1) j2 r1 r2 b g1 g2 hb1 hb2; omega
    · exact absurd hb2 (hqn r1 (List.mem_of_getElem? g1) b hb1)
    · have := h.apart (j1 - 1) (j2 - 1) r1 r2 b g1 g2 hb1 hb2; omega
/-- One piece less. -/
theorem Pcs.del {w w1 : World} {P : Nat → Prop} {v v' : Value} {ps : List Pc} {i : Nat} (h : Pcs w P v ps) (hb : But (fun b => v.ownBlock = some b) w w1) (ho : Own layP 149 w1 0 v' (ps.take i ++ ps.drop (i + 1))) (hv : v'.ownBlock = v.ownBlock) : Pcs w1 P v' (ps.take i ++ ps.drop (i + 1)) := by
  have hne : ∀ r : Pc, Own layN 148 w 0 r.val r.es → ∀ g, r.val.ownBlock = some g → ¬ v.ownBlock = some g := fun r hr g hg e => pcs_ne h e hr hg
  have hmem : ∀ r, r ∈ ps.take i ++ ps.drop (i + 1) → r ∈ ps := fun r hr => by
    rcases List.mem_append.1 hr with hr | hr
    · exact List.mem_of_mem_take hr
    · exact List.mem_of_mem_drop hr
  have hget : ∀ (j : Nat) (r : Pc), (ps.take i ++ ps.drop (i + 1))[j]? = some r → (j < i ∧ ps[j]? = some r) ∨ (i ≤ j ∧ ps[j + 1]? = some r) := by
    intro j r hr
    by_cases hj : j < (ps.take i).length
    · rw [List.getElem?_append_left hj] at hr
      rw [List.length_take] at hj
      rw [List.getElem?_take, if_pos (by omega)] at hr
      exact .inl ⟨by omega, hr⟩
    · rw [List.getElem?_append_right (by omega), List.getElem?_drop] at hr
      rw [List.length_take] at hj hr
      have := get_lt hr
      rw [show i + 1 + (j - min i ps.length) = j + 1 by omega] at hr
      exact .inr ⟨by omega, hr⟩
  refine ⟨ho, fun r hr => (h.each r (hmem r hr)).but hb (hne _ (h.each r (hmem r hr))), fun b hb => h.vin b (by rw [← hv]; exact hb), fun r hr b hb => h.pin r (hmem r hr) b hb, fun j1 j2 r1 r2 b hr1 hr2 hb1 hb2 => ?_⟩
  rcases hget j1 r1 hr1 with ⟨l1, g1⟩ | ⟨l1, g1⟩ <;> rcases hget j2 r2 hr2 with ⟨l2, g2⟩ | ⟨l2, g2⟩
  · exact h.apart j1 j2 r1 r2 b g1 g2 hb1 hb2
  · have := h.apart j1 (j2 + 1) r1 r2 b g1 g2 hb1 hb2; omega
  · have := h.apart (j1 + 1) j2 r1 r2 b g1 g2 hb1 hb2; omega
  · have := h.apart (j1 + 1) (j2 + 1) r1 r2 b g1 g2 hb1 hb2; omega
/-- P, and what was made since. -/
def More (P : Nat → Prop) (w w' : World) (b : Nat) : Prop := P b ∨ (w.heap.size ≤ b ∧ b < w'.heap.size)
end Go.Proofs.YtafkammiehcdjaaGreatDoor
