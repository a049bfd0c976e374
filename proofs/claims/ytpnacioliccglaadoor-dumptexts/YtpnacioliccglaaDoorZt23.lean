import Derived.Test.YtpnacioliccglaaDoorZt22
set_option maxRecDepth 8000
set_option maxHeartbeats 8000000
set_option linter.unusedVariables false
/-
  roomyRow: the events, each with room, and room behind the row.
-/
namespace Go.Proofs.YtpnacioliccglaaDoor
open Go.RowKit Go.Maps Go.Shelf
set_option linter.unusedVariables false
set_option maxRecDepth 8000 in
set_option maxHeartbeats 4000000 in
theorem rrow_any (a : Option Addr) (n c : Nat) (es : List E6.Ev) (w : World) (hr : E6.ERow w a n es) (hok : ∀ e ∈ es, e.ok) (hn : n * 56 ≤ 140737488351232) :
    Calls Tryd.prog 14 #[.slice a n c] w fun r w' => ∃ rb rc fs, r = .returned (.slice (some ⟨rb, 0, none⟩) n rc) ∧ Rr w.heap.size w' (.slice (some ⟨rb, 0, none⟩) (n + 70) rc) es fs (List.replicate 70 mark) ∧ n + 70 ≤ rc ∧ Below w.heap.size w w' := by
  have HE := hide hr
  have HO := hide hok
  have HL := hide hr.len
  have HN := hide hn
  clear hr hok hn
  go_enter Tryd.func14, Tryd.ntmps14
  go_wp2
  go_loopw [3, 4] (fun v i wr => ∃ j : Nat, j ≤ n ∧ i = .int .i64 j ∧ Hid (∃ fs, Rr w.heap.size wr v (es.take j) fs [] ∧ Below w.heap.size w wr)) (fun _ i _ => n - (intOf i).toNat)
  case atStart => exact ⟨0, Nat.zero_le _, rfl, hide ⟨[], ⟨by simp, Own.nil _ _ _ _, fun i e f h1 h2 => by simp at h2⟩, Below.refl _ _⟩⟩
  case round =>
    obtain ⟨j, hj, rfl, HJ⟩ := hrel
    obtain ⟨fs, hRr, hBl⟩ := HJ.out
    have HR := hide hRr
    have HB := hide hBl
    clear hRr HJ
    by_cases hlt : j < n
    · have hjI : (j : Int) < n := by omega
      obtain ⟨b, off, e, rfl, hej, c0, c1, c2, c3, c4, hs⟩ := (HE.out.bel hBl).at hlt
      have hoe := HO.out e (List.mem_of_getElem? hej)
      have HC := hide (roomy_any e.g e.k e.o e.a e.sa e.sc e.ls wr hs (by have := hoe.len; omega) hoe.nil)
      have HT := hide (show es.take (j + 1) = es.take j ++ [e] by rw [List.take_add_one, hej]; rfl)
      have HLj : Hid (fs.length = j) := hide (by rw [HR.out.len, List.length_take, HL.out]; omega)
      have hj56 : (j + 70) * 56 ≤ 140737488355328 := by have := HN.out; omega
      have HJ56 := hide hj56
      clear hej hoe hs hBl hj56
      go_wp2_with fail
      refine HC.out.mono ?_
      rintro x w2 ⟨rb, rc, rfl, o2, hrc, b2⟩
      have HB2 := hide (HB.out.trans (b2.mono HB.out.size))
      have HTn : Hid (Tn w.heap.size w2 e ⟨e.g, e.k, e.o, e.a, some ⟨rb, 0, none⟩, rc, e.ls⟩) := hide ⟨rfl, rfl, rfl, rfl, rfl, rb, rfl, hrc, o2.mono HB.out.size⟩
      have HR2 := hide (HR.out.below b2)
      clear o2 hrc b2 HC HR HB c0 c1 c2 c3 c4
      obtain ⟨f, hf⟩ : ∃ f : E6.Ev, f = ⟨e.g, e.k, e.o, e.a, some ⟨rb, 0, none⟩, rc, e.ls⟩ := ⟨_, rfl⟩
      rw [← hf] at HTn
      have hcf : #[.int .i64 e.g, .int .i64 e.k, .int .u64 e.o, .int .u64 e.a, .slice (some ⟨rb, 0, none⟩) e.ls.length rc] = (E6.ecell f).toArray := by rw [hf]; rfl
      obtain ⟨W3, hW3⟩ : ∃ W3, W3 = (w2.alloc (.cells #[.int .i64 e.g, .int .i64 e.k, .int .u64 e.o, .int .u64 e.a, .slice (some ⟨rb, 0, none⟩) e.ls.length rc] 25)).alloc (.cells #[.int .i64 e.g, .int .i64 e.k, .int .u64 e.o, .int .u64 e.a, .slice (some ⟨rb, 0, none⟩) e.ls.length rc] 25) := ⟨_, rfl⟩
      have hb3 : Below w2.heap.size w2 W3 := by rw [hW3]; exact below_alloc2 _ _ _
      have hk3 : W3.heap[w2.heap.size + 1]? = some (.cells #[.int .i64 e.g, .int .i64 e.k, .int .u64 e.o, .int .u64 e.a, .slice (some ⟨rb, 0, none⟩) e.ls.length rc] 25 (0, 0)) := by rw [hW3]; exact heap_new2 _ _ _
      have HK3 := hide hk3
      have HCf := hide hcf
      have HR3 := hide (HR2.out.below hb3)
      have HT3 := hide (HTn.out.below hb3)
      have HB3 := hide (HB2.out.trans (hb3.mono HB2.out.size))
      have HW3 := hide hW3
      have HJ1 : Hid (((fs ++ []).length + 1) * 56 ≤ 140737488355328) := hide (by have := HJ56.out; have := HLj.out; rw [List.append_nil]; omega)
      clear hcf hk3 hb3 hW3 hf HTn HR2 HB2
      go_wp2_with (at_builtin; rw [← HW3.out]; go_must (refine append_e W3 rfl _ _ rfl w.heap.size u3 (fs ++ []) rfl HR3.out.row (w2.heap.size + 1) f _ rfl HK3.out HCf.out HJ1.out HB3.out.size ?_); intro v4 w4 o4 g4; obtain ⟨a4, c4, e4, _, _⟩ := own_form o4; generalize (fs ++ [] ++ [f]).length = m4 at e4; subst e4; have HR4 := hide (HR3.out.push HT3.out o4 g4); have HB4 := hide (HB3.out.grown g4 HB3.out.size (fun k hk => (HR3.out.row.lt k hk).1)); clear o4 g4)
      rw [← HT.out] at HR4
      have hn9 := HN.out
      rw [show wrap64 ((j : Int) + 1) = ((j + 1 : Nat) : Int) by unfold wrap64; omega]
      exact ⟨⟨j + 1, by omega, by go_num, hide ⟨_, HR4.out, HB4.out⟩⟩, by simp [intOf]; omega⟩
    · have h9 : j = n := by omega
      have hjI : ¬ (j : Int) < n := by omega
      have ht : es.take j = es := List.take_of_length_le (by rw [HL.out, h9]; exact Nat.le_refl _)
      rw [ht] at HR
      have H9 := hide h9
      clear ht hBl h9 hlt hj
      go_wp2
      go_loopw [3, 6] (fun v i wr => ∃ q : Nat, q ≤ 70 ∧ i = .int .i64 q ∧ Hid (Rr w.heap.size wr v es fs (List.replicate q mark) ∧ Below w.heap.size w wr)) (fun _ i _ => 70 - (intOf i).toNat)
      case atStart => exact ⟨0, Nat.zero_le _, rfl, hide ⟨HR.out, HB.out⟩⟩
      case round =>
        obtain ⟨q, hq, rfl, HQ⟩ := hrel
        have HLf : Hid (fs.length = n) := hide (by rw [HR.out.len, HL.out])
        have HJ1 : Hid (q < 70 → ((fs ++ List.replicate q mark).length + 1) * 56 ≤ 140737488355328) := hide (fun h => by rw [List.length_append, List.length_replicate, HLf.out]; have := HN.out; omega)
        by_cases hq7 : q < 70
        · have HQ7 := hide hq7
          obtain ⟨W1, hW1⟩ : ∃ W1, W1 = wr.alloc (.cells #[.int .i64 (-9), .int .i64 0, .int .u64 0, .int .u64 0, .slice none 0 0] 25) := ⟨_, rfl⟩
          have hb1 : Below wr.heap.size wr W1 := by rw [hW1]; exact below_alloc1 _ _
          have hk1 : W1.heap[wr.heap.size]? = some (.cells #[.int .i64 (-9), .int .i64 0, .int .u64 0, .int .u64 0, .slice none 0 0] 25 (0, 0)) := by rw [hW1]; exact heap_new _ _
          have HK1 := hide hk1
          have HRa := hide (HQ.out.1.below hb1)
          have HBa := hide (HQ.out.2.trans (hb1.mono HQ.out.2.size))
          have HW1 := hide hW1
          clear hb1 hk1 hW1 HQ
          go_wp2_with (at_builtin; rw [← HW1.out]; go_must (refine append_e W1 rfl _ _ rfl w.heap.size u3 (fs ++ List.replicate q mark) rfl HRa.out.row wr.heap.size mark _ rfl HK1.out rfl (HJ1.out HQ7.out) HBa.out.size ?_); intro v4 w4 o4 g4; obtain ⟨a4, c4, e4, _, _⟩ := own_form o4; generalize (fs ++ List.replicate q mark ++ [mark]).length = m4 at e4; subst e4; rw [List.append_assoc, ← List.replicate_succ'] at o4; have HR4 := hide (HRa.out.grown o4 g4); have HB4 := hide (HBa.out.grown g4 HBa.out.size (fun k hk => (HRa.out.row.lt k hk).1)); clear o4 g4)
          have hq9 := HQ7.out
          exact ⟨⟨q + 1, by omega, by go_num, hide ⟨HR4.out, HB4.out⟩⟩, by simp [intOf]; omega⟩
        · have hq0 : q = 70 := by omega
          subst hq0
          have hlen : (fs ++ List.replicate 70 mark).length = n + 70 := by rw [List.length_append, List.length_replicate, HLf.out]
          have hRr := HQ.out.1
          obtain ⟨rb, rc, hv, _, _, hcap⟩ := hRr.row.frm (by omega)
          rw [hlen] at hv hcap
          subst hv
          have hnc : n ≤ rc := by omega
          have HRr := hide hRr
          have HC := hide hcap
          have HB9 := hide HQ.out.2
          clear hlen hcap hRr hq7 hq HQ
          go_wp2
          go_ret
          exact ⟨rb, rc, fs, rfl, HRr.out, HC.out, HB9.out⟩
end Go.Proofs.YtpnacioliccglaaDoor
/-
  keptRow: the events are as they were, and the room behind each stack and behind the row.
-/
namespace Go.Proofs.YtpnacioliccglaaDoor
open Go.RowKit Go.Maps Go.Shelf
set_option linter.unusedVariables false
theorem Rr.each {B rb rc m : Nat} {w : World} {es fs M : List E6.Ev} (h : Rr B w (.slice (some ⟨rb, 0, none⟩) m rc) es fs M) {j : Nat} {e : E6.Ev} (hj : es[j]? = some e) :
    ∃ sb sc, w.cell? ⟨rb, j * 5, none⟩ = some (.int .i64 e.g) ∧ w.cell? ⟨rb, j * 5 + 1, none⟩ = some (.int .i64 e.k) ∧ w.cell? ⟨rb, j * 5 + 2, none⟩ = some (.int .u64 e.o) ∧ w.cell? ⟨rb, j * 5 + 3, none⟩ = some (.int .u64 e.a) ∧ w.cell? ⟨rb, j * 5 + 4, none⟩ = some (.slice (some ⟨sb, 0, none⟩) e.ls.length sc) ∧
      E6.SRow w (some ⟨sb, 0, none⟩) e.ls.length e.ls ∧ (∀ i, i < 70 → w.cell? ⟨sb, e.ls.length + i, none⟩ = some (.string ⟨#[114, 111, 111, 109]⟩)) ∧ e.ls.length + 70 ≤ sc := by
  have hl := (List.getElem?_eq_some_iff.1 hj).1
  have hlf : j < fs.length := by rw [h.len]; exact hl
  have hf : fs[j]? = some fs[j] := List.getElem?_eq_getElem hlf
  obtain ⟨a1, a2, a3, a4, a5, sb, b1, b2, b3⟩ := h.tn j e _ hj hf
  obtain ⟨c0, c1, c2, c3, c4⟩ := erow_cells h.row (i := j) (f := fs[j]) (by rw [List.getElem?_append_left hlf]; exact hf)
  obtain ⟨z1, z2⟩ := zsr b3 rfl
  rw [a1] at c0
  rw [a2] at c1
  rw [a3] at c2
  rw [a4] at c3
  rw [b1, a5] at c4
  exact ⟨sb, _, c0, c1, c2, c3, c4, z1, z2, b2⟩
theorem Rr.mrk {B rb rc n : Nat} {w : World} {es fs : List E6.Ev} (h : Rr B w (.slice (some ⟨rb, 0, none⟩) (n + 70) rc) es fs (List.replicate 70 mark)) (hn : es.length = n) {i : Nat} (hi : i < 70) : w.cell? ⟨rb, (n + i) * 5, none⟩ = some (.int .i64 (-9)) := by
  have hlf : fs.length = n := h.len.trans hn
  refine (erow_cells h.row (i := n + i) (f := mark) ?_).1
  rw [List.getElem?_append_right (by omega), hlf, Nat.add_sub_cancel_left, List.getElem?_replicate, if_pos hi]
set_option maxRecDepth 8000 in
set_option maxHeartbeats 4000000 in
theorem krow_any (a : Option Addr) (n c B rb rc : Nat) (es fs : List E6.Ev) (w : World) (hr : E6.ERow w a n es) (hok : ∀ e ∈ es, e.ok) (hR : Rr B w (.slice (some ⟨rb, 0, none⟩) (n + 70) rc) es fs (List.replicate 70 mark)) (hc : n + 70 ≤ rc) (hn : n * 56 ≤ 140737488351232) :
    Calls Tryd.prog 17 #[.slice (some ⟨rb, 0, none⟩) n rc, .slice a n c] w fun r w' => r = .returned (.bool true) ∧ Below w.heap.size w w' := by
  have HE := hide hr
  have HR := hide hR
  have HL := hide hr.len
  have HO := hide hok
  have hn9 : (n : Int) ≤ 8796093021952 := by omega
  clear hr hR hok hn
  go_enter Tryd.func17, Tryd.ntmps17
  go_wp2
  go_loopw [5] (fun i wr => ∃ (j : Nat), j ≤ n ∧ i = .int .i64 j ∧ Below w.heap.size w wr) (fun i _ => n - (intOf i).toNat)
  case atStart => exact ⟨0, Nat.zero_le _, rfl, Below.refl _ _⟩
  case round =>
    obtain ⟨j, hj, rfl, hbl⟩ := hrel
    have HBl := hide hbl
    clear hbl
    by_cases hlt : j < n
    · have hjI : (j : Int) < n := by omega
      obtain ⟨b, off, e, ha, hej, c0, c1, c2, c3, c4, hs⟩ := (HE.out.bel HBl.out).at hlt
      obtain ⟨sb, sc, d0, d1, d2, d3, d4, hs', hro, hsc⟩ := (HR.out.below HBl.out).each hej
      subst ha
      have hoe := HO.out e (List.mem_of_getElem? hej)
      have HD := hide ((Below.refl wr.heap.size wr).drew)
      have HC := hide (kept_any e.g e.k e.o e.a sb sc e.ls.length e.sa e.sc e.ls wr.drew (E6.SRow.bel hs' HD.out) (E6.SRow.bel hs HD.out) (fun i hi => E6.cell_bel (hro i hi) HD.out) hsc (by have := hoe.len; omega))
      have HX0 := hide (Below.refl wr.heap.size wr)
      have HSx : Hid (∀ X, Below wr.heap.size wr X → X.cell? ⟨b, off + j * 5, none⟩ = some (.int .i64 e.g) ∧ X.cell? ⟨b, off + j * 5 + 1, none⟩ = some (.int .i64 e.k) ∧ X.cell? ⟨b, off + j * 5 + 2, none⟩ = some (.int .u64 e.o) ∧ X.cell? ⟨b, off + j * 5 + 3, none⟩ = some (.int .u64 e.a) ∧ X.cell? ⟨b, off + j * 5 + 4, none⟩ = some (.slice e.sa e.ls.length e.sc) ∧ X.cell? ⟨rb, j * 5, none⟩ = some (.int .i64 e.g) ∧ X.cell? ⟨rb, j * 5 + 1, none⟩ = some (.int .i64 e.k) ∧ X.cell? ⟨rb, j * 5 + 2, none⟩ = some (.int .u64 e.o) ∧ X.cell? ⟨rb, j * 5 + 3, none⟩ = some (.int .u64 e.a) ∧ X.cell? ⟨rb, j * 5 + 4, none⟩ = some (.slice (some ⟨sb, 0, none⟩) e.ls.length sc)) := hide (fun X hX => ⟨E6.cell_bel c0 hX, E6.cell_bel c1 hX, E6.cell_bel c2 hX, E6.cell_bel c3 hX, E6.cell_bel c4 hX, E6.cell_bel d0 hX, E6.cell_bel d1 hX, E6.cell_bel d2 hX, E6.cell_bel d3 hX, E6.cell_bel d4 hX⟩)
      have hjr : j < rc := by omega
      clear hs hs' hej hro hoe hsc
      go_wp2_with fail
      go_region_held3 (fun X => X.cell? ⟨b, off + j * 5, none⟩ = some (.int .i64 e.g) ∧ X.cell? ⟨b, off + j * 5 + 1, none⟩ = some (.int .i64 e.k) ∧ X.cell? ⟨b, off + j * 5 + 2, none⟩ = some (.int .u64 e.o) ∧ X.cell? ⟨b, off + j * 5 + 3, none⟩ = some (.int .u64 e.a) ∧ X.cell? ⟨b, off + j * 5 + 4, none⟩ = some (.slice e.sa e.ls.length e.sc) ∧ X.cell? ⟨rb, j * 5, none⟩ = some (.int .i64 e.g) ∧ X.cell? ⟨rb, j * 5 + 1, none⟩ = some (.int .i64 e.k) ∧ X.cell? ⟨rb, j * 5 + 2, none⟩ = some (.int .u64 e.o) ∧ X.cell? ⟨rb, j * 5 + 3, none⟩ = some (.int .u64 e.a) ∧ X.cell? ⟨rb, j * 5 + 4, none⟩ = some (.slice (some ⟨sb, 0, none⟩) e.ls.length sc))
        (first | with_reducible exact HSx.out _ HX0.out | with_reducible exact HSx.out _ HD.out | with_reducible exact HSx.out _ HX7.out)
        (first | (go_at_call 9; go_must (refine HC.out.mono ?_; rintro e9 w7 ⟨rfl, h7⟩; have HX7 : Hid (Below wr.heap.size wr w7) := hide (HD.out.trans (h7.mono HD.out.size)); clear h7)))
      have HB3 := hide (HBl.out.trans (HX7.out.mono HBl.out.size))
      clear HC HSx HX0 HD c0 c1 c2 c3 c4 d0 d1 d2 d3 d4
      go_wp2
      exact ⟨⟨j + 1, by omega, by go_num, HB3.out⟩, by simp [intOf]; omega⟩
    · have h9 : j = n := by omega
      have hjI : ¬ (j : Int) < n := by omega
      have HQ := hide (fun i (hi : i < 70) => (HR.out.below HBl.out).mrk HL.out hi)
      obtain ⟨m, hm⟩ : ∃ m : Nat, m = n + 70 := ⟨_, rfl⟩
      have hmc : m ≤ rc := by omega
      have hmi : (n : Int) + 70 = (m : Int) := by omega
      have HM := hide hm
      clear hm hlt hj h9
      go_wp2
      go_loopw [8] (fun i w2 => ∃ q : Nat, q ≤ 70 ∧ i = .int .i64 q ∧ w2 = wr) (fun i _ => 70 - (intOf i).toNat)
      case atStart => exact ⟨0, Nat.zero_le _, rfl, rfl⟩
      case round =>
        obtain ⟨q, hq, rfl, hw⟩ := hrel
        subst hw
        by_cases hlt : q < 70
        · have hcj := HQ.out q hlt
          obtain ⟨s, hs⟩ : ∃ s : Nat, n + q = s := ⟨_, rfl⟩
          have hji : (n : Int) + (q : Int) = (s : Int) := by omega
          have hqm : s < m := by have := HM.out; omega
          rw [hs] at hcj
          clear hs
          go_wp2
          exact ⟨⟨q + 1, by omega, by go_num, by first | rfl | trivial⟩, by simp [intOf]; omega⟩
        · go_wp2
          go_ret
          exact ⟨rfl, HBl.out⟩
end Go.Proofs.YtpnacioliccglaaDoor
/-
  The walk of DumpTexts.
-/
namespace Go.Proofs.YtpnacioliccglaaDoor
open Go.RowKit Go.Maps Go.Shelf
set_option linter.unusedVariables false
set_option maxRecDepth 8000 in
set_option maxHeartbeats 4000000 in
theorem texts_any (a : Option Addr) (n c : Nat) (es : List E6.Ev) (w : World) (hK : Dk w) (hr : E6.ERow w a n es) (hok : ∀ e ∈ es, e.ok) (hn : n * 56 ≤ 140737488351232) :
    Calls Tryd.prog 5 #[.slice a n c] w fun r w' => r = .returned (.bool true) ∧ Below w.heap.size w w' := by
  have HA := hide (rrow_any a n c es w hr hok hn)
  have HD := hide (fun (X : World) (hX : Below w.heap.size w X) (rb rc : Nat) (gs : List E6.Ev) (hg : Rv w.heap.size X rb rc n gs) => dump_any (some ⟨rb, 0, none⟩) n rc gs X (hK.below hX hK.big) hg.erow hg.ok (by omega))
  have HT := hide (fun (X : World) (hX : Below w.heap.size w X) => rdump_any a n c es X (hK.below hX hK.big) (hr.bel hX) hok (by omega))
  have HT2 := hide (fun (X : World) (hX : Below w.heap.size w X) (B rb rc : Nat) (gs : List E6.Ev) (hg : Rv B X rb rc n gs) => rdump_any (some ⟨rb, 0, none⟩) n rc gs X (hK.below hX hK.big) hg.erow hg.ok (by omega))
  have HP := hide (fun (X : World) (hX : Below w.heap.size w X) (rb rc : Nat) (fs : List E6.Ev) (hR : Rr w.heap.size X (.slice (some ⟨rb, 0, none⟩) (n + 70) rc) es fs (List.replicate 70 mark)) (hc : n + 70 ≤ rc) => krow_any a n c w.heap.size rb rc es fs X (hr.bel hX) hok hR hc hn)
  have HA2 := hide (fun (X : World) (rb rc : Nat) (gs : List E6.Ev) (hg : Rv w.heap.size X rb rc n gs) => rrow_any (some ⟨rb, 0, none⟩) n rc gs X hg.erow hg.ok hn)
  have HL := hide hr.len
  have HO := hide hok
  obtain ⟨S, F, hV⟩ := dmpV_form es
  have HV := hide hV
  have eS : (S.toList == S.toList) = true := by simp
  have eF : (F == F) = true := by simp
  have hn9 : (n : Int) ≤ 2513169434843 := by omega
  clear hK hr hok hV hn
  go_enter Tryd.func5, Tryd.ntmps5
  go_wp2_with fail
  refine HA.out.mono ?_
  rintro x w1 ⟨rb, rc, fs, rfl, hR, hc, b1⟩
  have HB1 := hide b1
  have HC := hide hc
  have HR := hide hR
  have HRv := hide (hR.rv HL.out HO.out)
  have HD1 := hide (HD.out w1 b1 rb rc fs HRv.out)
  rw [hR.dmp, HV.out] at HD1
  clear hR b1 HA hc
  go_wp2_with fail
  refine HD1.out.mono ?_
  rintro x w2 ⟨rfl, b2⟩
  have HB2 := hide (Below.on HB1.out b2)
  have HR2 := hide (HR.out.below b2)
  have HT1 := hide (HT.out w2 HB2.out)
  rw [HV.out] at HT1
  clear b2 HD1 HB1 HR HRv HT
  go_wp2_with fail
  refine HT1.out.mono ?_
  rintro x w3 ⟨rfl, b3⟩
  have HB3 := hide (Below.on HB2.out b3)
  have HR3 := hide (HR2.out.below b3)
  have HP1 := hide (HP.out w3 HB3.out rb rc fs HR3.out HC.out)
  clear b3 HT1 HB2 HR2 HP
  go_wp2_with fail
  refine HP1.out.mono ?_
  rintro x w4 ⟨rfl, b4⟩
  have HB4 := hide (Below.on HB3.out b4)
  have HR4 := hide ((HR3.out.below b4).rv HL.out HO.out)
  clear b4 HP1 HB3 HR3
  go_wp2
  go_loopw [8] (fun i wr => ∃ (j : Nat) (gs : List E6.Ev), j ≤ n ∧ i = .int .i64 j ∧ Hid (Rv w.heap.size wr rb rc n gs ∧ Below w.heap.size w wr)) (fun i _ => n - (intOf i).toNat)
  case atStart => exact ⟨0, fs, Nat.zero_le _, rfl, hide ⟨HR4.out, HB4.out⟩⟩
  case round =>
    obtain ⟨j, gs, hj, rfl, HJ⟩ := hrel
    by_cases hlt : 2 * j + 1 < n
    · have hjI : 2 * (j : Int) + 1 < n := by omega
      have hjn : j < n := by omega
      have hjr : j < rc := by have := HC.out; omega
      obtain ⟨s, hs⟩ : ∃ s : Nat, s + j + 1 = n := ⟨n - 1 - j, by omega⟩
      have hsn : s < n := by omega
      have hsI : (n : Int) - 1 - (j : Int) = (s : Int) := by omega
      have hsr : s < rc := by have := HC.out; omega
      obtain ⟨f, hf0, hfm, hf⟩ := HJ.out.1.get hjn
      obtain ⟨g, hg0, hgm, hg⟩ := HJ.out.1.get hsn
      obtain ⟨p0, p1, p2, p3, p4⟩ := erow_cells HJ.out.1.row hf
      have hb1 : Below wr.heap.size wr (wr.alloc (.cells #[.int .i64 f.g, .int .i64 f.k, .int .u64 f.o, .int .u64 f.a, .slice f.sa f.ls.length f.sc] 25)) := below_alloc1 _ _
      have hR1 := HJ.out.1.below hb1
      have hB1 := Below.on HJ.out.2 hb1
      have hk1 : (wr.alloc (.cells #[.int .i64 f.g, .int .i64 f.k, .int .u64 f.o, .int .u64 f.a, .slice f.sa f.ls.length f.sc] 25)).heap[wr.heap.size]? = some (.cells #[.int .i64 f.g, .int .i64 f.k, .int .u64 f.o, .int .u64 f.a, .slice f.sa f.ls.length f.sc] 25 (0, 0)) := heap_new _ _
      obtain ⟨q0, q1, q2, q3, q4⟩ : (wr.alloc (.cells #[.int .i64 f.g, .int .i64 f.k, .int .u64 f.o, .int .u64 f.a, .slice f.sa f.ls.length f.sc] 25)).cell? ⟨rb, s * 5, none⟩ = some (.int .i64 g.g) ∧ (wr.alloc (.cells #[.int .i64 f.g, .int .i64 f.k, .int .u64 f.o, .int .u64 f.a, .slice f.sa f.ls.length f.sc] 25)).cell? ⟨rb, s * 5 + 1, none⟩ = some (.int .i64 g.k) ∧ (wr.alloc (.cells #[.int .i64 f.g, .int .i64 f.k, .int .u64 f.o, .int .u64 f.a, .slice f.sa f.ls.length f.sc] 25)).cell? ⟨rb, s * 5 + 2, none⟩ = some (.int .u64 g.o) ∧ (wr.alloc (.cells #[.int .i64 f.g, .int .i64 f.k, .int .u64 f.o, .int .u64 f.a, .slice f.sa f.ls.length f.sc] 25)).cell? ⟨rb, s * 5 + 3, none⟩ = some (.int .u64 g.a) ∧ (wr.alloc (.cells #[.int .i64 f.g, .int .i64 f.k, .int .u64 f.o, .int .u64 f.a, .slice f.sa f.ls.length f.sc] 25)).cell? ⟨rb, s * 5 + 4, none⟩ = some (.slice g.sa g.ls.length g.sc) := erow_cells hR1.row hg
      obtain ⟨m0, m1, m2, m3, m4⟩ : (wr.alloc (.cells #[.int .i64 f.g, .int .i64 f.k, .int .u64 f.o, .int .u64 f.a, .slice f.sa f.ls.length f.sc] 25)).cell? ⟨rb, j * 5, none⟩ = some (.int .i64 f.g) ∧ (wr.alloc (.cells #[.int .i64 f.g, .int .i64 f.k, .int .u64 f.o, .int .u64 f.a, .slice f.sa f.ls.length f.sc] 25)).cell? ⟨rb, j * 5 + 1, none⟩ = some (.int .i64 f.k) ∧ (wr.alloc (.cells #[.int .i64 f.g, .int .i64 f.k, .int .u64 f.o, .int .u64 f.a, .slice f.sa f.ls.length f.sc] 25)).cell? ⟨rb, j * 5 + 2, none⟩ = some (.int .u64 f.o) ∧ (wr.alloc (.cells #[.int .i64 f.g, .int .i64 f.k, .int .u64 f.o, .int .u64 f.a, .slice f.sa f.ls.length f.sc] 25)).cell? ⟨rb, j * 5 + 3, none⟩ = some (.int .u64 f.a) ∧ (wr.alloc (.cells #[.int .i64 f.g, .int .i64 f.k, .int .u64 f.o, .int .u64 f.a, .slice f.sa f.ls.length f.sc] 25)).cell? ⟨rb, j * 5 + 4, none⟩ = some (.slice f.sa f.ls.length f.sc) := erow_cells hR1.row hf
      have z := fun k => hR1.froz k
      have z0 := z (j * 5); have z1 := z (j * 5 + 1); have z2 := z (j * 5 + 2); have z3 := z (j * 5 + 3); have z4 := z (j * 5 + 4)
      obtain ⟨hR2, hb2⟩ := hR1.set hjn hgm
      have hB2 := hb2 (Nat.le_refl _) hB1
      have hne : rb ≠ wr.heap.size := by have := (HJ.out.1.row.lt rb rfl).2; omega
      have hk2 : ((((((wr.alloc (.cells #[.int .i64 f.g, .int .i64 f.k, .int .u64 f.o, .int .u64 f.a, .slice f.sa f.ls.length f.sc] 25)).setCell ⟨rb, j * 5, none⟩ (.int .i64 g.g)).setCell ⟨rb, j * 5 + 1, none⟩ (.int .i64 g.k)).setCell ⟨rb, j * 5 + 2, none⟩ (.int .u64 g.o)).setCell ⟨rb, j * 5 + 3, none⟩ (.int .u64 g.a)).setCell ⟨rb, j * 5 + 4, none⟩ (.slice g.sa g.ls.length g.sc)).heap[wr.heap.size]? = some (.cells #[.int .i64 f.g, .int .i64 f.k, .int .u64 f.o, .int .u64 f.a, .slice f.sa f.ls.length f.sc] 25 (0, 0)) := by
        have hk : But (fun q => q = rb) (wr.alloc (.cells #[.int .i64 f.g, .int .i64 f.k, .int .u64 f.o, .int .u64 f.a, .slice f.sa f.ls.length f.sc] 25)) ((((((wr.alloc (.cells #[.int .i64 f.g, .int .i64 f.k, .int .u64 f.o, .int .u64 f.a, .slice f.sa f.ls.length f.sc] 25)).setCell ⟨rb, j * 5, none⟩ (.int .i64 g.g)).setCell ⟨rb, j * 5 + 1, none⟩ (.int .i64 g.k)).setCell ⟨rb, j * 5 + 2, none⟩ (.int .u64 g.o)).setCell ⟨rb, j * 5 + 3, none⟩ (.int .u64 g.a)).setCell ⟨rb, j * 5 + 4, none⟩ (.slice g.sa g.ls.length g.sc)) := But.setC (j := j * 5) (layE.cs g) (But.refl (fun q => q = rb) _) (fun _ => rfl)
        exact (hk.block _ (Array.getElem?_eq_some_iff.1 hk1).1 (fun e => hne (by have e9 : wr.heap.size = rb := e; exact e9.symm))).trans hk1
      have k0 := cell_at hk2 (i := 0) rfl
      have k1 := cell_at hk2 (i := 1) rfl
      have k2 := cell_at hk2 (i := 2) rfl
      have k3 := cell_at hk2 (i := 3) rfl
      have k4 := cell_at hk2 (i := 4) rfl
      obtain ⟨x, hx0, hxm, hx⟩ := hR2.get hsn
      obtain ⟨x0, x1, x2, x3, x4⟩ : ((((((wr.alloc (.cells #[.int .i64 f.g, .int .i64 f.k, .int .u64 f.o, .int .u64 f.a, .slice f.sa f.ls.length f.sc] 25)).setCell ⟨rb, j * 5, none⟩ (.int .i64 g.g)).setCell ⟨rb, j * 5 + 1, none⟩ (.int .i64 g.k)).setCell ⟨rb, j * 5 + 2, none⟩ (.int .u64 g.o)).setCell ⟨rb, j * 5 + 3, none⟩ (.int .u64 g.a)).setCell ⟨rb, j * 5 + 4, none⟩ (.slice g.sa g.ls.length g.sc)).cell? ⟨rb, s * 5, none⟩ = some (.int .i64 x.g) ∧ ((((((wr.alloc (.cells #[.int .i64 f.g, .int .i64 f.k, .int .u64 f.o, .int .u64 f.a, .slice f.sa f.ls.length f.sc] 25)).setCell ⟨rb, j * 5, none⟩ (.int .i64 g.g)).setCell ⟨rb, j * 5 + 1, none⟩ (.int .i64 g.k)).setCell ⟨rb, j * 5 + 2, none⟩ (.int .u64 g.o)).setCell ⟨rb, j * 5 + 3, none⟩ (.int .u64 g.a)).setCell ⟨rb, j * 5 + 4, none⟩ (.slice g.sa g.ls.length g.sc)).cell? ⟨rb, s * 5 + 1, none⟩ = some (.int .i64 x.k) ∧ ((((((wr.alloc (.cells #[.int .i64 f.g, .int .i64 f.k, .int .u64 f.o, .int .u64 f.a, .slice f.sa f.ls.length f.sc] 25)).setCell ⟨rb, j * 5, none⟩ (.int .i64 g.g)).setCell ⟨rb, j * 5 + 1, none⟩ (.int .i64 g.k)).setCell ⟨rb, j * 5 + 2, none⟩ (.int .u64 g.o)).setCell ⟨rb, j * 5 + 3, none⟩ (.int .u64 g.a)).setCell ⟨rb, j * 5 + 4, none⟩ (.slice g.sa g.ls.length g.sc)).cell? ⟨rb, s * 5 + 2, none⟩ = some (.int .u64 x.o) ∧ ((((((wr.alloc (.cells #[.int .i64 f.g, .int .i64 f.k, .int .u64 f.o, .int .u64 f.a, .slice f.sa f.ls.length f.sc] 25)).setCell ⟨rb, j * 5, none⟩ (.int .i64 g.g)).setCell ⟨rb, j * 5 + 1, none⟩ (.int .i64 g.k)).setCell ⟨rb, j * 5 + 2, none⟩ (.int .u64 g.o)).setCell ⟨rb, j * 5 + 3, none⟩ (.int .u64 g.a)).setCell ⟨rb, j * 5 + 4, none⟩ (.slice g.sa g.ls.length g.sc)).cell? ⟨rb, s * 5 + 3, none⟩ = some (.int .u64 x.a) ∧ ((((((wr.alloc (.cells #[.int .i64 f.g, .int .i64 f.k, .int .u64 f.o, .int .u64 f.a, .slice f.sa f.ls.length f.sc] 25)).setCell ⟨rb, j * 5, none⟩ (.int .i64 g.g)).setCell ⟨rb, j * 5 + 1, none⟩ (.int .i64 g.k)).setCell ⟨rb, j * 5 + 2, none⟩ (.int .u64 g.o)).setCell ⟨rb, j * 5 + 3, none⟩ (.int .u64 g.a)).setCell ⟨rb, j * 5 + 4, none⟩ (.slice g.sa g.ls.length g.sc)).cell? ⟨rb, s * 5 + 4, none⟩ = some (.slice x.sa x.ls.length x.sc) := erow_cells hR2.row hx
      have y := fun k => hR2.froz k
      have y0 := y (s * 5); have y1 := y (s * 5 + 1); have y2 := y (s * 5 + 2); have y3 := y (s * 5 + 3); have y4 := y (s * 5 + 4)
      have hfm2 : f ∈ gs.set j g ∨ ∀ X, Lo w.heap.size X f → True := .inr (fun _ _ => trivial)
      have HN9 : Hid (Rv w.heap.size (((((((((((wr.alloc (.cells #[.int .i64 f.g, .int .i64 f.k, .int .u64 f.o, .int .u64 f.a, .slice f.sa f.ls.length f.sc] 25)).setCell ⟨rb, j * 5, none⟩ (.int .i64 g.g)).setCell ⟨rb, j * 5 + 1, none⟩ (.int .i64 g.k)).setCell ⟨rb, j * 5 + 2, none⟩ (.int .u64 g.o)).setCell ⟨rb, j * 5 + 3, none⟩ (.int .u64 g.a)).setCell ⟨rb, j * 5 + 4, none⟩ (.slice g.sa g.ls.length g.sc)).setCell ⟨rb, s * 5, none⟩ (.int .i64 f.g)).setCell ⟨rb, s * 5 + 1, none⟩ (.int .i64 f.k)).setCell ⟨rb, s * 5 + 2, none⟩ (.int .u64 f.o)).setCell ⟨rb, s * 5 + 3, none⟩ (.int .u64 f.a)).setCell ⟨rb, s * 5 + 4, none⟩ (.slice f.sa f.ls.length f.sc)) rb rc n ((gs.set j g).set s f) ∧ Below w.heap.size w (((((((((((wr.alloc (.cells #[.int .i64 f.g, .int .i64 f.k, .int .u64 f.o, .int .u64 f.a, .slice f.sa f.ls.length f.sc] 25)).setCell ⟨rb, j * 5, none⟩ (.int .i64 g.g)).setCell ⟨rb, j * 5 + 1, none⟩ (.int .i64 g.k)).setCell ⟨rb, j * 5 + 2, none⟩ (.int .u64 g.o)).setCell ⟨rb, j * 5 + 3, none⟩ (.int .u64 g.a)).setCell ⟨rb, j * 5 + 4, none⟩ (.slice g.sa g.ls.length g.sc)).setCell ⟨rb, s * 5, none⟩ (.int .i64 f.g)).setCell ⟨rb, s * 5 + 1, none⟩ (.int .i64 f.k)).setCell ⟨rb, s * 5 + 2, none⟩ (.int .u64 f.o)).setCell ⟨rb, s * 5 + 3, none⟩ (.int .u64 f.a)).setCell ⟨rb, s * 5 + 4, none⟩ (.slice f.sa f.ls.length f.sc))) := hide (by
        have hl := hR1.lo f hfm
        have hl2 : Lo w.heap.size ((((((wr.alloc (.cells #[.int .i64 f.g, .int .i64 f.k, .int .u64 f.o, .int .u64 f.a, .slice f.sa f.ls.length f.sc] 25)).setCell ⟨rb, j * 5, none⟩ (.int .i64 g.g)).setCell ⟨rb, j * 5 + 1, none⟩ (.int .i64 g.k)).setCell ⟨rb, j * 5 + 2, none⟩ (.int .u64 g.o)).setCell ⟨rb, j * 5 + 3, none⟩ (.int .u64 g.a)).setCell ⟨rb, j * 5 + 4, none⟩ (.slice g.sa g.ls.length g.sc)) f := hl.but hR1.row (But.setC (j := j * 5) (layE.cs g) (But.refl _ _) (fun _ => rfl))
        obtain ⟨h1, h2⟩ := hR2.setL hsn hl2
        exact ⟨h1, h2 (Nat.le_refl _) hB2⟩)
      clear hR1 hB1 hk1 z hR2 hb2 hB2 hk2 hx0 hxm hx y hfm2 hf0 hfm hf hg0 hgm hg hs HJ
      go_wp2
      exact ⟨⟨j + 1, _, by omega, by go_num, HN9⟩, by simp [intOf]; omega⟩
    · have hjI : ¬ 2 * (j : Int) + 1 < n := by omega
      obtain ⟨S2, F2, hV2⟩ := dmpV_form gs
      have HV2 := hide hV2
      have eS2 : (S2.toList == S2.toList) = true := by simp
      have eF2 : (F2 == F2) = true := by simp
      have HD2 := hide (HD.out wr HJ.out.2 rb rc gs HJ.out.1)
      rw [HV2.out] at HD2
      clear hV2 HR4 HB4 HD
      go_wp2_with fail
      refine HD2.out.mono ?_
      rintro x w5 ⟨rfl, b5⟩
      have HB5 := hide (Below.on HJ.out.2 b5)
      have HR5 := hide (HJ.out.1.below b5)
      have HA3 := hide (HA2.out w5 rb rc gs HR5.out)
      clear b5 HD2 HJ HA2
      go_wp2_with fail
      refine HA3.out.mono ?_
      rintro x w6 ⟨tb, tc, ts, rfl, hR6, hc6, b6⟩
      have HB6 := hide (Below.on HB5.out b6)
      have HR6 := hide (Rr.rv hR6 HR5.out.len HR5.out.ok)
      have hS6 : dmpV ts = .tuple #[.string S2, .int .i64 F2] := hR6.dmp.trans HV2.out
      have HT6 := hide (HT2.out w6 HB6.out _ tb tc ts HR6.out)
      rw [hS6] at HT6
      clear hR6 hc6 b6 hS6 HT2 HA3 HR5 HR6
      go_wp2_with fail
      refine HT6.out.mono ?_
      rintro x w7 ⟨rfl, b7⟩
      have HB7 := hide (Below.on HB6.out b7)
      clear b7 HT6
      go_wp2
      go_ret
      exact ⟨rfl, HB7.out⟩
end Go.Proofs.YtpnacioliccglaaDoor
