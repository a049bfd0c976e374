/-
  The law's own look at three items and two numbers; items of keys.
-/
import Derived.Test.YtdmlehbamdcjcabIntB
import Derived.Test.YtdmlehbamdcjcabHpPI
namespace Go.Proofs.Ytdmlehbamdcjcab
open Go.RowKit
theorem inOrder_two : inOrder [2, -1] = [-1, 2] := by
  have hp := inOrder_perm [2, -1]
  have hs := inOrder_srt [2, -1]
  have hl := inOrder_length [2, -1]
  match h : inOrder [2, -1], hl with
  | [x, y], _ =>
    rw [h] at hp hs
    have hx : x ∈ ([2, -1] : List Int) := hp.mem_iff.mp (by simp)
    have hy : y ∈ ([2, -1] : List Int) := hp.mem_iff.mp (by simp)
    have hxy : x ≤ y := (List.pairwise_cons.mp hs).1 y (by simp)
    have h1 : (-1 : Int) ∈ [x, y] := hp.mem_iff.mpr (by simp)
    have h2 : (2 : Int) ∈ [x, y] := hp.mem_iff.mpr (by simp)
    simp at hx hy h1 h2
    have e1 : x = -1 := by omega
    have e2 : y = 2 := by omega
    rw [e1, e2]
theorem HsI.past1 {w w' : World} {base p : Nat} {v : Value} {n : Int} {S : List (It × Int)} (h : HsI w base p v n S) (hp : base ≤ p) (hb : But (fun k => k = p ∨ v.ownBlock = some k) w w') (hB : base ≤ w.heap.size) : Below base w w' :=
  hb.below hB (fun k hk => hk.elim (fun e => by omega) (fun e => (h.own k e).1))
set_option maxRecDepth 8000 in
set_option maxHeartbeats 3200000 in
theorem alive_any (w : World) : Calls Try.prog 6 #[] w fun r w' => r = .returned (.bool true) ∧ Below w.heap.size w w' := by
  go_enter Try.func6, Try.ntmps6
  go_wp2_with fail
  refine (hnewI w).mono ?_
  rintro r w1 ⟨rfl, h1, b1⟩
  have B1 : Hid _ := hide b1
  have P1 := hpushI ⟨5, 1⟩ h1 b1.size (by omega) (by simp)
  have H1 : Hid _ := hide h1
  clear h1 b1
  go_wp2_with fail
  refine P1.mono ?_
  rintro r w2 ⟨rfl, v2, h2, b2, _⟩
  have B2 : Hid _ := hide (B1.out.trans (H1.out.past1 (Nat.le_refl _) b2 B1.out.size))
  have h2' : HsI w2 w.heap.size w.heap.size v2 1 [(⟨5, 1⟩, 0)] := h2
  have P2 := hpushI ⟨3, 2⟩ h2' B2.out.size (by omega) (by simp)
  have H2 : Hid _ := hide h2'
  clear P1 h2 b2 h2'
  go_wp2_with fail
  refine P2.mono ?_
  rintro r w3 ⟨rfl, v3, h3, b3, _⟩
  have B3 : Hid _ := hide (B2.out.trans (H2.out.past1 (Nat.le_refl _) b3 B2.out.size))
  have h3' : HsI w3 w.heap.size w.heap.size v3 2 [(⟨3, 2⟩, 1), (⟨5, 1⟩, 0)] := h3
  have P3 := hpushI ⟨3, 4⟩ h3' B3.out.size (by omega) (by simp)
  have H3 : Hid _ := hide h3'
  clear P2 h3 b3 h3'
  go_wp2_with fail
  refine P3.mono ?_
  rintro r w4 ⟨rfl, v4, h4, b4, _⟩
  have B4 : Hid _ := hide (B3.out.trans (H3.out.past1 (Nat.le_refl _) b4 B3.out.size))
  have h4' : HsI w4 w.heap.size w.heap.size v4 3 [(⟨3, 2⟩, 1), (⟨3, 4⟩, 2), (⟨5, 1⟩, 0)] := h4
  have P4 := hpopI h4' (by simp)
  have H4 : Hid _ := hide h4'
  clear P3 h4 b4 h4'
  go_wp2_with fail
  refine P4.mono ?_
  rintro r w5 ⟨rfl, v5, h5, b5, _⟩
  have b5' := B4.out.trans (H4.out.past1 (Nat.le_refl _) b5 B4.out.size)
  obtain ⟨w6, hw6⟩ : ∃ w6, w6 = w5.alloc (.cells #[.int .i64 3, .int .i64 2] 28) := ⟨_, rfl⟩
  have b6 : Below w5.heap.size w5 w6 := by rw [hw6]; exact below_alloc1 _ _
  have r6 : w6.heap[w5.heap.size]? = some (.cells #[.int .i64 3, .int .i64 2] 28 (0, 0)) := by rw [hw6]; exact heap_new _ _
  have s6 : w5.heap.size < w6.heap.size := by rw [hw6]; simp
  have h6 := h5.below b6
  have P6 := hpeekI h6
  have H6 : Hid _ := hide h6
  have B6 : Hid _ := hide (b5'.trans (b6.mono b5'.size))
  have R6 : Hid _ := hide r6
  have HW6 : Hid _ := hide hw6
  clear P4 h5 b5 b5' hw6 b6 r6 h6
  go_wp2_with fail
  rw [← HW6.out]
  refine P6.mono ?_
  rintro r w7 ⟨rfl, b7⟩
  have s7 := b7.size
  have r7 := (b7.block w5.heap.size s6).trans R6.out
  obtain ⟨w8, hw8⟩ : ∃ w8, w8 = (w7.alloc (.cells #[.int .i64 3, .int .i64 4] 28)).alloc (.cells #[.int .i64 2, .int .i64 (-1)] 3) := ⟨_, rfl⟩
  have b8 : Below w7.heap.size w7 w8 := by rw [hw8]; exact below_alloc2 _ _ _
  have r8 := (b8.block w5.heap.size (by omega)).trans r7
  have q8 : w8.heap[w7.heap.size]? = some (.cells #[.int .i64 3, .int .i64 4] 28 (0, 0)) := by rw [hw8]; exact (Below.heap_alloc _ _ _ (by simp)).trans (heap_new _ _)
  have n8 : w8.heap[w7.heap.size + 1]? = some (.cells #[.int .i64 2, .int .i64 (-1)] 3 (0, 0)) := by rw [hw8]; exact heap_new2 _ _ _
  have s8 : w7.heap.size + 1 < w8.heap.size := by rw [hw8]; simp
  have IN := ints_any w8 (some ⟨w7.heap.size + 1, 0, none⟩) 2 2 [2, -1] ⟨rfl, .inr ⟨_, 0, rfl, fun i x hx t u hu => by
    have ht : t = 0 := by have := get_lt hu; simpa [layN] using this
    subst ht
    simp [layN] at hu
    subst hu
    have hi := get_lt hx
    simp at hi
    match i, hx with
    | 0, hx => simp at hx; subst hx; exact cell_at n8 rfl
    | 1, hx => simp at hx; subst hx; exact cell_at n8 rfl⟩⟩ (by omega)
  rw [inOrder_two] at IN
  have H8 : Hid _ := hide ((H6.out.below b7).below b8)
  have B8 : Hid _ := hide ((B6.out.trans (b7.mono B6.out.size)).trans (b8.mono (by have := B6.out.size; omega)))
  have R8 : Hid _ := hide r8
  have Q8 : Hid _ := hide q8
  have HW8 : Hid _ := hide hw8
  clear P6 b7 hw8 b8 r8 q8 n8 r7
  go_wp2_with fail
  rw [← HW8.out]
  refine IN.mono ?_
  rintro r w9 ⟨a9, c9, rfl, hr9, b9⟩
  obtain ⟨g9, o9, rfl, _, hc9⟩ := hr9.at (by omega)
  have x0 := hc9 0 _ rfl 0 _ rfl
  simp only [layN, Nat.zero_mul, Nat.add_zero] at x0
  have r9 := (b9.block w5.heap.size (by omega)).trans R8.out
  have q9 := (b9.block w7.heap.size (by omega)).trans Q8.out
  have y1 : w9.cell? ⟨w5.heap.size, 1, none⟩ = some (.int .i64 2) := cell_at r9 rfl
  have z1 : w9.cell? ⟨w7.heap.size, 1, none⟩ = some (.int .i64 4) := cell_at q9 rfl
  have LE := hlenI (H8.out.below b9)
  have B9 : Hid _ := hide (B8.out.trans (b9.mono B8.out.size))
  clear IN hr9 hc9 b9 r9 q9
  go_wp2_with fail
  refine LE.mono ?_
  rintro r w10 ⟨rfl, rfl⟩
  clear LE
  go_wp2_with fail
  go_ret
  exact ⟨rfl, B9.out⟩
end Go.Proofs.Ytdmlehbamdcjcab
