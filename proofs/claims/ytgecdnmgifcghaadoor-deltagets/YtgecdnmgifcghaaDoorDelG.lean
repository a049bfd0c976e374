/-
  DeltaGets.
-/
import Derived.Test.YtgecdnmgifcghaaDoorGetE
namespace Go.Proofs.YtgecdnmgifcghaaDoor
open Go.RowKit
theorem rget_any (S O K t : Int) (ad : Option Addr) (n c : Nat) (zs : List Int) (w : World) (hr : Row w ad n zs) (hn : (n : Int) ≤ 9223372036854700000) (hO0 : 0 ≤ O) (hO1 : O ≤ 18446744073709551615) :
    Calls Tryd.prog 15 #[.agg #[.int .i64 S, .int .u64 O, .int .i64 K], .slice ad n c, .int .i64 t] w fun e w' => e = .returned (gV (getG ⟨S, O, K⟩ zs t)) ∧ Below w.heap.size w w' := by
  by_cases hE : mayS S K = false ∨ t < 0 ∨ (n : Int) ≤ t
  · exact rget_early S O K t ad n c zs w hr hE
  · have hm : mayS S K = true := by
      cases h : mayS S K
      · exact absurd (.inl h) hE
      · rfl
    obtain ⟨tn, rfl⟩ : ∃ tn : Nat, t = tn := ⟨t.toNat, by omega⟩
    have hl := hr.len
    rw [getG_read (s := ⟨S, O, K⟩) hm (by omega)]
    rcases hr.cells with h0 | ⟨b, off, rfl, _⟩
    · omega
    · exact rget_at S O K b off n c tn zs w hr hn hO0 hO1 (by omega) hm
set_option maxHeartbeats 1600000 in
set_option maxRecDepth 8000 in
theorem gets_any (S O K t : Int) (ad : Option Addr) (n c : Nat) (zs : List Int) (w : World) (hK : Kn w) (hw : 0 < w.heap.size) (hr : Row w ad n zs) (hn : n ≤ 140737488351232) (h0 : ad = none → n = 0 ∧ c = 0) (hO0 : 0 ≤ O) (hO1 : O ≤ 18446744073709551615) :
    Calls Tryd.prog 5 #[.agg #[.int .i64 S, .int .u64 O, .int .i64 K], .slice ad n c, .int .i64 t] w fun e w' => e = .returned (.bool true) ∧ Below w.heap.size w w' := by
  obtain ⟨W, hW⟩ : ∃ W, W = w.alloc (.cells #[.int .i64 S, .int .u64 O, .int .i64 K] 26) := ⟨_, rfl⟩
  have hb : Below w.heap.size w W := by rw [hW]; exact below_alloc1 _ _
  have hsz : W.heap.size = w.heap.size + 1 := by rw [hW]; simp
  have s0 : W.cell? ⟨w.heap.size, 0, none⟩ = some (.int .i64 S) := by rw [hW]; go_simp
  have s1 : W.cell? ⟨w.heap.size, 1, none⟩ = some (.int .u64 O) := by rw [hW]; go_simp
  have s2 : W.cell? ⟨w.heap.size, 2, none⟩ = some (.int .i64 K) := by rw [hW]; go_simp
  have hrW := hr.below hb
  have HC := copied_any ad n c zs W hrW hn h0
  have hKW := hK.below hb hw
  have HGP := fun a' c' w1 (h1 : Below W.heap.size W w1) (hr' : Row w1 a' n zs) => get_any S O K t a' n c' zs w1 (hKW.below h1 (by omega)) (by have := h1.size; omega) hr' (by omega) hO0 hO1
  have HGR := fun w1 (h1 : Below W.heap.size W w1) => rget_any S O K t ad n c zs w1 (hrW.below h1) (by omega) hO0 hO1
  simp only [gV] at HGP HGR
  generalize stOf (getG ⟨S, O, K⟩ zs t) = st at HGP HGR
  generalize getG ⟨S, O, K⟩ zs t = R at HGP HGR
  obtain ⟨⟨rt, rk, ro, ra, rq⟩, p, f⟩ := R
  obtain ⟨st, so, sk⟩ := st
  dsimp only at HGP HGR
  have hqR : ∀ W' : World, (binOp .eql 32 (.agg #[.int .i64 rt, .int .i64 rk, .int .u64 ro, .int .u64 ra, .int .i64 rq]) (.agg #[.int .i64 rt, .int .i64 rk, .int .u64 ro, .int .u64 ra, .int .i64 rq])).run Tryd.prog W' = .ok (.bool true) W' := fun W' => by rw [eql_rc]; simp
  have hqS : ∀ W' : World, (binOp .eql 26 (.agg #[.int .i64 st, .int .u64 so, .int .i64 sk]) (.agg #[.int .i64 st, .int .u64 so, .int .i64 sk])).run Tryd.prog W' = .ok (.bool true) W' := fun W' => by rw [eql_st]; simp
  go_enter Tryd.func5, Tryd.ntmps5
  go_wp2_with fail
  rw [← hW]
  clear hW
  refine HC.mono ?_
  rintro e w1 ⟨a1, c1, rfl, _, hown1, hb1⟩
  have hr1 := own_row_u8 hown1 hr.u8
  have y0 := (hb1.cell (p := ⟨w.heap.size, 0, none⟩) (by simp; omega)).trans s0
  have y1 := (hb1.cell (p := ⟨w.heap.size, 1, none⟩) (by simp; omega)).trans s1
  have y2 := (hb1.cell (p := ⟨w.heap.size, 2, none⟩) (by simp; omega)).trans s2
  go_wp2_with fail
  refine (HGP a1 c1 w1 hb1 hr1).mono ?_
  rintro e w2 ⟨rfl, hb2⟩
  have B2 : Below W.heap.size W w2 := hb1.trans (hb2.mono hb1.size)
  have hr2 := hr1.below hb2
  obtain ⟨w3, hw3⟩ : ∃ w3, w3 = (w2.alloc (.cells #[.int .i64 rt, .int .i64 rk, .int .u64 ro, .int .u64 ra, .int .i64 rq] 32)).alloc (.cells #[.int .i64 st, .int .u64 so, .int .i64 sk] 26) := ⟨_, rfl⟩
  have hb3 : Below w2.heap.size w2 w3 := by rw [hw3]; exact below_alloc2 _ _ _
  have hsz3 : w3.heap.size = w2.heap.size + 2 := by rw [hw3]; simp
  have B3 : Below W.heap.size W w3 := B2.trans (hb3.mono B2.size)
  have LR3 : w3.heap[w2.heap.size]? = some (.cells #[.int .i64 rt, .int .i64 rk, .int .u64 ro, .int .u64 ra, .int .i64 rq] 32 (0, 0)) := by rw [hw3]; exact heap_old (heap_new _ _)
  have LS3 : w3.heap[w2.heap.size + 1]? = some (.cells #[.int .i64 st, .int .u64 so, .int .i64 sk] 26 (0, 0)) := by
    rw [hw3, show w2.heap.size + 1 = (w2.alloc (.cells #[.int .i64 rt, .int .i64 rk, .int .u64 ro, .int .u64 ra, .int .i64 rq] 32)).heap.size from by simp]
    exact heap_new _ _
  have hr3 := hr2.below hb3
  have z0 := (B3.cell (p := ⟨w.heap.size, 0, none⟩) (by simp; omega)).trans s0
  have z1 := (B3.cell (p := ⟨w.heap.size, 1, none⟩) (by simp; omega)).trans s1
  have z2 := (B3.cell (p := ⟨w.heap.size, 2, none⟩) (by simp; omega)).trans s2
  rw [hw3] at z0 z1 z2
  have Hw3 : Hid _ := hide hw3
  clear hw3 y0 y1 y2 hb1 hb2 hr1 HC hown1
  go_wp2_with fail
  rw [← Hw3.out]
  rw [← Hw3.out] at z0 z1 z2
  refine (HGR w3 B3).mono ?_
  rintro e w4 ⟨rfl, hb4⟩
  have LR4 := (hb4.block w2.heap.size (lt_of_heap LR3)).trans LR3
  have LS4 := (hb4.block (w2.heap.size + 1) (lt_of_heap LS3)).trans LS3
  have B4 : Below W.heap.size W w4 := B3.trans (hb4.mono B3.size)
  obtain ⟨w5, hw5⟩ : ∃ w5, w5 = (w4.alloc (.cells #[.int .i64 rt, .int .i64 rk, .int .u64 ro, .int .u64 ra, .int .i64 rq] 32)).alloc (.cells #[.int .i64 st, .int .u64 so, .int .i64 sk] 26) := ⟨_, rfl⟩
  have hb5 : Below w4.heap.size w4 w5 := by rw [hw5]; exact below_alloc2 _ _ _
  have LR5 : w5.heap[w4.heap.size]? = some (.cells #[.int .i64 rt, .int .i64 rk, .int .u64 ro, .int .u64 ra, .int .i64 rq] 32 (0, 0)) := by rw [hw5]; exact heap_old (heap_new _ _)
  have LS5 : w5.heap[w4.heap.size + 1]? = some (.cells #[.int .i64 st, .int .u64 so, .int .i64 sk] 26 (0, 0)) := by
    rw [hw5, show w4.heap.size + 1 = (w4.alloc (.cells #[.int .i64 rt, .int .i64 rk, .int .u64 ro, .int .u64 ra, .int .i64 rq] 32)).heap.size from by simp]
    exact heap_new _ _
  have LR45 := (hb5.block w2.heap.size (lt_of_heap LR4)).trans LR4
  have LS45 := (hb5.block (w2.heap.size + 1) (lt_of_heap LS4)).trans LS4
  obtain ⟨a0, a1', a2, a3, a4⟩ := r5_cells LR5
  obtain ⟨b0, b1, b2⟩ := z3_cells LS5
  obtain ⟨d0, d1, d2, d3, d4⟩ := r5_cells LR45
  obtain ⟨e0, e1, e2⟩ := z3_cells LS45
  have B5 : Below W.heap.size W w5 := B4.trans (hb5.mono B4.size)
  have hrG := (hr3.below hb4).below hb5
  have hrB := hrW.below B5
  have hsm := same_any a1 ad n c1 n c zs zs w5 hrG hrB (by omega)
  simp only [decide_true] at hsm
  rw [hw5] at a0 a1' a2 a3 a4 b0 b1 b2 d0 d1 d2 d3 d4 e0 e1 e2
  have Hw5 : Hid _ := hide hw5
  clear hw5 HGP HGR z0 z1 z2 LR3 LS3 LR4 LS4 LR5 LS5 LR45 LS45 hb4 hr2 hr3
  go_wp2_with fail
  rw [← Hw5.out]
  refine hsm.mono ?_
  rintro e w6 ⟨rfl, m, rfl⟩
  go_wp2
  go_ret
  exact ⟨rfl, below_drewN (hb.trans (B5.mono hb.size)) m⟩
end Go.Proofs.YtgecdnmgifcghaaDoor
