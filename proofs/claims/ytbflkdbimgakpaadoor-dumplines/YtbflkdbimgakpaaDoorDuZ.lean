/-
  The walk of DumpLines.
-/
import Derived.Test.YtbflkdbimgakpaaDoorDuQ
namespace Go.Proofs.YtbflkdbimgakpaaDoor
open Go.RowKit Go.Maps Go.Shelf
set_option linter.unusedVariables false
theorem zsrow {w : World} {base rb n c : Nat} {ls : List ByteArray} (h : Own layZ 9 w base (.slice (some ⟨rb, 0, none⟩) (n + 70) c) (ls ++ List.replicate 70 room)) (hn : ls.length = n) : E6.SRow w (some ⟨rb, 0, none⟩) n ls ∧ ∀ i, i < 70 → w.cell? ⟨rb, n + i, none⟩ = some (.string ⟨#[114, 111, 111, 109]⟩) := by
  have hl : (ls ++ List.replicate 70 room).length = n + 70 := by rw [List.length_append, List.length_replicate, hn]
  refine ⟨⟨hn, ?_⟩, ?_⟩
  · refine .inr ⟨rb, 0, rfl, fun i hi => ?_⟩
    have h1 := zown h i (by omega)
    rw [Nat.zero_add, h1]
    congr 2
    rw [List.getD_eq_getElem?_getD, List.getD_eq_getElem?_getD, List.getElem?_append_left (by omega)]
  · intro i hi
    have h1 := zown h (n + i) (by omega)
    rw [h1]
    congr 2
    rw [List.getD_eq_getElem?_getD, List.getElem?_append_right (by omega), hn, Nat.add_sub_cancel_left, List.getElem?_replicate, if_pos hi]
    rfl
theorem lnV_form (g k o a : Int) (ls : List ByteArray) : ∃ S F, lnV g k o a ls = .tuple #[.string S, .int .i64 F] := by
  unfold lnV
  split
  · exact ⟨_, _, rfl⟩
  · exact ⟨_, _, rfl⟩
set_option maxRecDepth 8000 in
set_option maxHeartbeats 4000000 in
theorem lines_any (g k o a : Int) (sa : Option Addr) (sc : Nat) (ls : List ByteArray) (w : World) (hK : Dk w) (hs : E6.SRow w sa ls.length ls) (hm : (ls.length : Int) ≤ 8796093021952) (hz : sa = none → ls.length = 0 ∧ sc = 0) (ho : 0 ≤ o ∧ o ≤ 18446744073709551615) (ha : 0 ≤ a ∧ a ≤ 18446744073709551615) :
    Calls Tryd.prog 3 #[.agg #[.int .i64 g, .int .i64 k, .int .u64 o, .int .u64 a, .slice sa ls.length sc]] w fun e w' => e = .returned (.bool true) ∧ Below w.heap.size w w' := by
  obtain ⟨W, hW⟩ : ∃ W, W = w.alloc (.cells #[.int .i64 g, .int .i64 k, .int .u64 o, .int .u64 a, .slice sa ls.length sc] 25) := ⟨_, rfl⟩
  have hbW : Below w.heap.size w W := by rw [hW]; exact below_alloc1 _ _
  have h1 : W.heap[w.heap.size]? = some (.cells #[.int .i64 g, .int .i64 k, .int .u64 o, .int .u64 a, .slice sa ls.length sc] 25 (0, 0)) := by rw [hW]; exact heap_new _ _
  have HR := hide (roomy_any g k o a sa sc ls W (hs.bel hbW) hm hz)
  unfold RoomyR at HR
  have HL := hide (fun (X : World) (hX : Below W.heap.size W X) (rb rc n : Nat) (hn : n = ls.length) (hr : E6.SRow X (some ⟨rb, 0, none⟩) n ls) => line_any g k o a (some ⟨rb, 0, none⟩) n rc ls X (hK.below (Below.on hbW hX) hK.big) hr (by omega) ho ha)
  have HD := hide (fun (X : World) (hX : Below W.heap.size W X) => rline_any g k o a sa ls.length sc ls X (hK.below (Below.on hbW hX) hK.big) ((hs.bel hbW).bel hX) (by omega) ho ha)
  have HP := hide (fun (X : World) (hX : Below W.heap.size W X) (rb rc : Nat) (hr : E6.SRow X (some ⟨rb, 0, none⟩) ls.length ls) (hroom : ∀ i, i < 70 → X.cell? ⟨rb, ls.length + i, none⟩ = some (.string ⟨#[114, 111, 111, 109]⟩)) (hc : ls.length + 70 ≤ rc) => kept_any g k o a rb rc ls.length sa sc ls X hr ((hs.bel hbW).bel hX) hroom hc hm)
  obtain ⟨S, F, hV⟩ := lnV_form g k o a ls
  rw [hV] at HL HD
  obtain ⟨n, hn⟩ : ∃ n, ls.length = n := ⟨_, rfl⟩
  rw [hn] at HR HL HD HP hW h1 ⊢
  have HN := hide hn
  have c0 := cell_at h1 (i := 0) rfl
  have c1 := cell_at h1 (i := 1) rfl
  have c2 := cell_at h1 (i := 2) rfl
  have c3 := cell_at h1 (i := 3) rfl
  have c4 := cell_at h1 (i := 4) rfl
  have HB := hide (fun (X : World) (hX : Below W.heap.size W X) => (hX.block _ (Array.getElem?_eq_some_iff.1 h1).1).trans h1)
  have HW := hide hW
  have HbW := hide hbW
  have eS : (S.toList == S.toList) = true := by simp
  have eF : (F == F) = true := by simp
  clear hW hbW h1 hs hK hm hz ho ha hV hn
  go_enter Tryd.func3, Tryd.ntmps3
  go_wp2_with fail
  rw [← HW.out]
  refine HR.out.mono ?_
  rintro x w1 ⟨rb, rc, rfl, o1, hrc, b1⟩
  obtain ⟨W3, hW3⟩ : ∃ W3, W3 = w1.alloc (.cells #[.int .i64 g, .int .i64 k, .int .u64 o, .int .u64 a, .slice (some ⟨rb, 0, none⟩) n rc] 25) := ⟨_, rfl⟩
  have hb3 : Below w1.heap.size w1 W3 := by rw [hW3]; exact below_alloc1 _ _
  have h3 : W3.heap[w1.heap.size]? = some (.cells #[.int .i64 g, .int .i64 k, .int .u64 o, .int .u64 a, .slice (some ⟨rb, 0, none⟩) n rc] 25 (0, 0)) := by rw [hW3]; exact heap_new _ _
  have o3 := o1.below hb3
  obtain ⟨r3, m3⟩ := zsrow o3 HN.out
  have HB3 := hide (Below.on b1 hb3)
  have HR3 := hide r3
  have HM3 := hide m3
  have HC := hide hrc
  have HBx := hide (fun (X : World) (hX : Below W3.heap.size W3 X) => (hX.block _ (Array.getElem?_eq_some_iff.1 h3).1).trans h3)
  have d0 := cell_at h3 (i := 0) rfl
  have d1 := cell_at h3 (i := 1) rfl
  have d2 := cell_at h3 (i := 2) rfl
  have d3 := cell_at h3 (i := 3) rfl
  have d4 := cell_at h3 (i := 4) rfl
  have HW3 := hide hW3
  clear hW3 hb3 h3 o1 o3 r3 m3 hrc b1 HR c0 c1 c2 c3 c4
  go_wp2_with fail
  rw [← HW3.out]
  refine (HL.out W3 HB3.out rb rc n rfl HR3.out).mono ?_
  rintro x w4 ⟨rfl, b4⟩
  have HB4 := hide b4
  have h1 := HB.out w4 (Below.on HB3.out b4)
  have c0 := cell_at h1 (i := 0) rfl
  have c1 := cell_at h1 (i := 1) rfl
  have c2 := cell_at h1 (i := 2) rfl
  have c3 := cell_at h1 (i := 3) rfl
  have c4 := cell_at h1 (i := 4) rfl
  clear b4 h1 HL d0 d1 d2 d3 d4 HW3
  go_wp2_with fail
  refine (HD.out w4 (Below.on HB3.out HB4.out)).mono ?_
  rintro x w5 ⟨rfl, b5⟩
  have HB5 := hide (Below.on HB4.out b5)
  have h1 := HB.out w5 (Below.on HB3.out HB5.out)
  have h3 := HBx.out w5 HB5.out
  clear c0 c1 c2 c3 c4
  have c0 := cell_at h1 (i := 0) rfl
  have c1 := cell_at h1 (i := 1) rfl
  have c2 := cell_at h1 (i := 2) rfl
  have c3 := cell_at h1 (i := 3) rfl
  have c4 := cell_at h1 (i := 4) rfl
  have d0 := cell_at h3 (i := 0) rfl
  have d1 := cell_at h3 (i := 1) rfl
  have d2 := cell_at h3 (i := 2) rfl
  have d3 := cell_at h3 (i := 3) rfl
  have d4 := cell_at h3 (i := 4) rfl
  clear b5 h1 h3 HD
  go_wp2_with fail
  refine (HP.out w5 (Below.on HB3.out HB5.out) rb rc (HR3.out.bel HB5.out) (fun i hi => E6.cell_bel (HM3.out i hi) HB5.out) HC.out).mono ?_
  rintro x w6 ⟨rfl, b6⟩
  have HB6 := hide (Below.on HbW.out (Below.on HB3.out (Below.on HB5.out b6)))
  clear b6
  go_wp2
  go_ret
  exact ⟨rfl, HB6.out⟩
end Go.Proofs.YtbflkdbimgakpaaDoor
