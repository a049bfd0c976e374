/-
  DeltaKept.
-/
import Derived.Test.YtgecdnmgifcghaaDoorKepF
namespace Go.Proofs.YtgecdnmgifcghaaDoor
open Go.RowKit
set_option maxHeartbeats 4000000 in
set_option maxRecDepth 20000 in
theorem kept_any (a : Option Addr) (n c : Nat) (rs : List Rc) (w : World)
    (hK : Kn w) (hw : 0 < w.heap.size) (hr : RRow w a n rs) (hok : ∀ r ∈ rs, r.ok) (hn : n ≤ 9223372036854775000) :
    Calls Tryd.prog 7 #[.slice a n c] w fun e w' => e = .returned (.bool true) ∧ Below w.heap.size w w' := by
  have HRow := row_any a n c rs w hr hok hn
  clear hr hok
  go_enter Tryd.func7, Tryd.ntmps7
  go_wp2_with fail
  refine HRow.mono ?_
  rintro e w1 ⟨v, L, B, rfl, hU, hownL, hb1⟩
  obtain ⟨al, cl, rfl⟩ := own_formR hownL
  have hlen := hU.len
  have htop := hU.top (by omega)
  have hLl : L.length ≤ 1048576 := by omega
  have hs1 := hb1.size
  have hKw1 := hK.below hb1 (by omega)
  have HU0 : Hid _ := hide hU
  obtain ⟨w3, hw3⟩ : ∃ w3, w3 = w1.alloc (.cells #[.int .i64 0, .int .u64 0, .int .i64 0] 26) := ⟨_, rfl⟩
  have hb3 : Below w1.heap.size w1 w3 := by rw [hw3]; exact below_alloc1 _ _
  have LS3 : w3.heap[w1.heap.size]? = some (.cells #[.int .i64 0, .int .u64 0, .int .i64 0] 26 (0, 0)) := by rw [hw3]; exact heap_new _ _
  have Hw3 : Hid _ := hide hw3
  clear hw3 hU HRow hK
  go_wp2_with fail
  rw [← Hw3.out]
  go_loopw [5, 6] (fun sA si wr => ∃ (k : Nat) (S O K : Int) (aA : Option Addr) (cA : Nat) (bs : List (List Int)) (vals : List Value), si = .int .i64 k ∧ k ≤ L.length ∧ sA = .slice aA bs.length cA ∧ bs.length = 2 * k ∧ (∀ b ∈ bs, b.length ≤ 27) ∧ Lists wr w1.heap.size (.slice aA bs.length cA) bs vals ∧ wr.heap[w1.heap.size]? = some (.cells #[.int .i64 S, .int .u64 O, .int .i64 K] 26 (0, 0)) ∧ Below w1.heap.size w1 wr ∧ Ups S (L.drop k) B ∧ 0 ≤ S ∧ 0 ≤ K ∧ K ≤ 262144 ∧ 0 ≤ O ∧ O ≤ 18446744073709551615)
    (fun _ si _ => L.length - (intOf si).toNat)
  case atStart => exact ⟨0, 0, 0, 0, none, 0, [], [], rfl, Nat.zero_le _, rfl, rfl, by simp, Lists.nil _ _, LS3, hb3, HU0.out, by omega, by omega, by omega, by omega, by omega⟩
  case round =>
    obtain ⟨k, S, O, K, aA, cA, bs, vals, rfl, hk, rfl, hbs, hb27, hLi, LS_wr, hB_wr, hU, hS0, hK0, hKk, hO0, hO1⟩ := hrel
    clear LS3 hb3 HU0 Hw3
    have hsr := hB_wr.size
    have hltS := lt_of_heap LS_wr
    have HLI : Hid _ := hide hLi
    have H27 : Hid _ := hide hb27
    have HBS : Hid _ := hide hbs
    clear hLi hb27 hbs
    by_cases hlt : k < L.length
    · have hltI : (k : Int) < (L.length : Int) := by omega
      obtain ⟨g, cg, e, hg0, hg1⟩ := own_rowR hownL (by omega)
      cases e
      have hrk : L[k]? = some L[k] := List.getElem?_eq_getElem hlt
      obtain ⟨⟨rt, rk, ro, ra, rq⟩, hrr'⟩ : ∃ r, r = L[k] := ⟨_, rfl⟩
      rw [← hrr'] at hrk
      have hat := hU.at hrk
      dsimp only at hat
      obtain ⟨⟨h1, h2, h3, h4, h5, h6⟩, h7, h8⟩ := hat
      have hpe : putE ⟨S, O, K⟩ ⟨rt, rk, ro, ra, rq⟩ = 0 := putE_of (by dsimp only; omega)
      have HL : Hid _ := hide (text_len hpe h7)
      have HM : Hid _ := hide (text_mem hpe)
      have hownr := own_below hownL hB_wr
      have hcr' := own_rec hownr hrk
      obtain ⟨z0, z1, z2⟩ := z3_cells LS_wr
      have K0 : K8 wr w1.heap.size g k S O K rt rk ro ra rq := ⟨z0, z1, z2, hcr'⟩
      have HP := fun X (hX : Below w1.heap.size w1 X) => put_n S O K rt rk ro ra rq X (hKw1.below hX (by omega)) (by have := hX.size; omega) hpe h7
      have HGT : Hid (getG ⟨S, O, K⟩ (text ⟨S, O, K⟩ ⟨rt, rk, ro, ra, rq⟩) 0 = (⟨rt, rk, ro, ra, rq⟩, ((text ⟨S, O, K⟩ ⟨rt, rk, ro, ra, rq⟩).length : Int), 0)) := hide (getG_text (pre := []) (rest := []) hpe h7 (by simp))
      generalize hT : text ⟨S, O, K⟩ ⟨rt, rk, ro, ra, rq⟩ = T at HP HL HM HGT
      have HPP : Hid _ := hide HP
      have H8 : Hid _ := hide h8
      have hgw : g ≠ wr.heap.size := by omega
      have hsw : w1.heap.size ≠ wr.heap.size := by omega
      have HRK : Hid _ := hide hrk
      have hro0 := h7.o0
      have hro1 := h7.o1
      clear hrr' hrk hU hcr' h8 z0 z1 z2 hownr hT h7
      go_upto_region 7 with fail
      go_cut [7, 8, 9] (fun s8 s9 s10 wx => ∃ gg cc nb, s8 = .slice (some ⟨gg, 0, none⟩) T.length cc ∧ s9 = .pointer (some ⟨nb, 0, none⟩) ∧ s10 = .int .i64 0 ∧ wx.heap[nb]? = some (.cells #[.int .i64 (rt + 1), .int .u64 ro, .int .i64 rq] 26 (0, 0)) ∧ wx.heap[w1.heap.size]? = some (.cells #[.int .i64 S, .int .u64 O, .int .i64 K] 26 (0, 0)) ∧ w1.heap.size < nb ∧ wr.heap.size ≤ nb ∧ wr.heap.size ≤ gg ∧ wx.ownsRow wr.heap.size 5 1 (.slice (some ⟨gg, 0, none⟩) T.length cc) T.length (T.map (Value.int .u8)) ∧ Below wr.heap.size wr wx)
      case first =>
        have B0 : Below w1.heap.size w1 wr.drew := hB_wr.drew
        have B1 : Below w1.heap.size w1 (wr.alloc (.cells #[.int .i64 0, .int .u64 0, .int .i64 0] 26)).drew := (hB_wr.alloc hB_wr.size _).drew
        have KA : K8 wr.drew w1.heap.size g k S O K rt rk ro ra rq := K0.of rfl rfl
        have KB : K8 (wr.alloc (.cells #[.int .i64 0, .int .u64 0, .int .i64 0] 26)).drew w1.heap.size g k S O K rt rk ro ra rq := K0.of (Below.heap_alloc _ _ _ (by omega)) (Below.heap_alloc _ _ _ (by omega))
        have LB : (wr.alloc (.cells #[.int .i64 0, .int .u64 0, .int .i64 0] 26)).drew.heap[wr.heap.size]? = some (.cells #[.int .i64 0, .int .u64 0, .int .i64 0] 26 (0, 0)) := heap_new _ _
        have HPA := HP _ B0
        have HPB := HP _ B1
        have HA : Hid (∀ w3, Below wr.drew.heap.size wr.drew w3 → Below wr.heap.size wr w3 ∧ w3.heap[w1.heap.size]? = some (.cells #[.int .i64 S, .int .u64 O, .int .i64 K] 26 (0, 0)) ∧ K8 w3 w1.heap.size g k S O K rt rk ro ra rq ∧ K8 (w3.alloc (.cells #[.int .i64 0, .int .u64 0, .int .i64 0] 26)) w1.heap.size g k S O K rt rk ro ra rq ∧ K8 (w3.alloc (.cells #[.int .i64 (rt + 1), .int .u64 ro, .int .i64 rq] 26)) w1.heap.size g k S O K rt rk ro ra rq) := hide (fun w3 hb3 => by
          have hb3' : Below wr.heap.size wr w3 := (Below.refl wr.heap.size wr).drew.trans hb3
          have L3 := (hb3'.block w1.heap.size (lt_of_heap LS_wr)).trans LS_wr
          have KC : K8 w3 w1.heap.size g k S O K rt rk ro ra rq := K0.of (hb3'.block _ (lt_of_heap LS_wr)) (hb3'.block g (by omega))
          have hs3 := hb3'.size
          exact ⟨hb3', L3, KC, KC.of (Below.heap_alloc _ _ _ (lt_of_heap L3)) (Below.heap_alloc _ _ _ (by omega)), KC.of (Below.heap_alloc _ _ _ (lt_of_heap L3)) (Below.heap_alloc _ _ _ (by omega))⟩)
        have HB : Hid (∀ w3, Below (wr.alloc (.cells #[.int .i64 0, .int .u64 0, .int .i64 0] 26)).drew.heap.size (wr.alloc (.cells #[.int .i64 0, .int .u64 0, .int .i64 0] 26)).drew w3 → Below wr.heap.size wr w3 ∧ w3.heap[wr.heap.size]? = some (.cells #[.int .i64 0, .int .u64 0, .int .i64 0] 26 (0, 0)) ∧ w3.heap[w1.heap.size]? = some (.cells #[.int .i64 S, .int .u64 O, .int .i64 K] 26 (0, 0)) ∧ K8 w3 w1.heap.size g k S O K rt rk ro ra rq ∧ K8 (((w3.setCell ⟨wr.heap.size, 0, none⟩ (.int .i64 (rt + 1))).setCell ⟨wr.heap.size, 1, none⟩ (.int .u64 ro)).setCell ⟨wr.heap.size, 2, none⟩ (.int .i64 rq)) w1.heap.size g k S O K rt rk ro ra rq) := hide (fun w3 hb3 => by
          have hb3' : Below wr.heap.size wr w3 := (below_alloc1 wr (.cells #[.int .i64 0, .int .u64 0, .int .i64 0] 26)).drew.trans (hb3.mono (by simp))
          have L3 := (hb3'.block w1.heap.size (lt_of_heap LS_wr)).trans LS_wr
          have KC : K8 w3 w1.heap.size g k S O K rt rk ro ra rq := K0.of (hb3'.block _ (lt_of_heap LS_wr)) (hb3'.block g (by omega))
          exact ⟨hb3', (hb3.block wr.heap.size (by simp)).trans LB, L3, KC, KC.of (set3_far hsw) (set3_far hgw)⟩)
        clear HP K0
        unfold K8 at KA KB HA HB
        go_region_held3 (fun W' => W'.cell? ⟨w1.heap.size, 0, none⟩ = some (.int .i64 S) ∧ W'.cell? ⟨w1.heap.size, 1, none⟩ = some (.int .u64 O) ∧ W'.cell? ⟨w1.heap.size, 2, none⟩ = some (.int .i64 K) ∧ W'.cell? ⟨g, k * 5, none⟩ = some (.int .i64 rt) ∧ W'.cell? ⟨g, k * 5 + 1, none⟩ = some (.int .i64 rk) ∧ W'.cell? ⟨g, k * 5 + 2, none⟩ = some (.int .u64 ro) ∧ W'.cell? ⟨g, k * 5 + 3, none⟩ = some (.int .u64 ra) ∧ W'.cell? ⟨g, k * 5 + 4, none⟩ = some (.int .i64 rq)) (first | with_reducible exact KA | with_reducible exact KB | with_reducible exact KC | with_reducible exact KD | with_reducible exact KE | with_reducible exact KF | fail) (first
          | (go_at_call 9; with_reducible refine HPA.mono ?_; rintro e w3 ⟨gg, cc, rfl, hgg, hown, hb3⟩; obtain ⟨B3, L3, KC, KD, KE⟩ := HA.out w3 hb3; have HX : Hid _ := hide hown; clear hown)
          | (go_at_call 9; with_reducible refine HPB.mono ?_; rintro e w3 ⟨gg, cc, rfl, hgg, hown, hb3⟩; obtain ⟨B3, LB3, L3, KC, KF⟩ := HB.out w3 hb3; obtain ⟨x0, x1, x2⟩ := z3_cells LB3; have f0 := frz LB3 0; have f1 := frz LB3 1; have f2 := frz LB3 2; have HX : Hid _ := hide hown; clear hown))
        all_goals (go_wp2_with fail; go_meet)
        · exact ⟨gg, cc, w3.heap.size, rfl, rfl, rfl, heap_new _ _, heap_old L3, lt_of_heap L3, B3.size, hgg, own_below HX.out (below_alloc1 _ _), B3.alloc B3.size _⟩
        · have hz : wr.heap.size ≤ (wr.alloc (.cells #[.int .i64 0, .int .u64 0, .int .i64 0] 26)).drew.heap.size := by simp
          have hz1 : (wr.alloc (.cells #[.int .i64 0, .int .u64 0, .int .i64 0] 26)).drew.heap.size = wr.heap.size + 1 := by simp
          have hgne : (Value.slice (some ⟨gg, 0, none⟩) T.length cc).ownBlock ≠ some wr.heap.size := fun e => by have h9 : gg = wr.heap.size := Option.some.inj e; omega
          exact ⟨gg, cc, wr.heap.size, rfl, rfl, rfl, set3_heap LB3, (set3_far hsw).trans L3, by omega, Nat.le_refl _, Nat.le_trans hz hgg, ownsRow_set3 (own_mono HX.out hz) hgne, ((B3.setCell (p := ⟨wr.heap.size, 0, none⟩) (Nat.le_refl _) _).setCell (p := ⟨wr.heap.size, 1, none⟩) (Nat.le_refl _) _).setCell (p := ⟨wr.heap.size, 2, none⟩) (Nat.le_refl _) _⟩
      case rest =>
        obtain ⟨gg, cc, nb, rfl, rfl, rfl, LN, LS_wq, hnb, hnb2, hgg, hownT, hBn⟩ := hcut
        rename World => wq
        have hB_wq : Below w1.heap.size w1 wq := hB_wr.trans (hBn.mono hsr)
        have hsn := hBn.size
        have hlnb := lt_of_heap LN
        have HOC : Hid _ := hide hownT
        have hggq : gg < wq.heap.size := (hownT.lt gg rfl).2
        have HLN : Hid _ := hide LN
        have HBN : Hid _ := hide hBn
        have K0 : K8 wq w1.heap.size g k S O K rt rk ro ra rq := by
          obtain ⟨z0, z1, z2⟩ := z3_cells LS_wq
          exact ⟨z0, z1, z2, own_rec (own_below hownL hB_wq) HRK.out⟩
        have hgw : g ≠ wq.heap.size := by omega
        have hsw : w1.heap.size ≠ wq.heap.size := by have := lt_of_heap LS_wq; omega
        have hltS : w1.heap.size < wq.heap.size := lt_of_heap LS_wq
        have HP := HPP.out
        clear hownT LN hBn
        go_upto_region 8 with fail
        go_cut [10, 11, 12] (fun s8 s9 s10 wx => ∃ gg cc nb, s8 = .slice (some ⟨gg, 0, none⟩) T.length cc ∧ s9 = .pointer (some ⟨nb, 0, none⟩) ∧ s10 = .int .i64 0 ∧ wx.heap[nb]? = some (.cells #[.int .i64 (rt + 1), .int .u64 ro, .int .i64 rq] 26 (0, 0)) ∧ wx.heap[w1.heap.size]? = some (.cells #[.int .i64 S, .int .u64 O, .int .i64 K] 26 (0, 0)) ∧ w1.heap.size < nb ∧ wq.heap.size ≤ nb ∧ wq.heap.size ≤ gg ∧ wx.ownsRow wq.heap.size 5 1 (.slice (some ⟨gg, 0, none⟩) T.length cc) T.length (T.map (Value.int .u8)) ∧ Below wq.heap.size wq wx)
        case first =>
          have B0 : Below w1.heap.size w1 wq.drew := hB_wq.drew
          have B1 : Below w1.heap.size w1 (wq.alloc (.cells #[.int .i64 0, .int .u64 0, .int .i64 0] 26)).drew := (hB_wq.alloc hB_wq.size _).drew
          have KA : K8 wq.drew w1.heap.size g k S O K rt rk ro ra rq := K0.of rfl rfl
          have KB : K8 (wq.alloc (.cells #[.int .i64 0, .int .u64 0, .int .i64 0] 26)).drew w1.heap.size g k S O K rt rk ro ra rq := K0.of (Below.heap_alloc _ _ _ (by omega)) (Below.heap_alloc _ _ _ (by omega))
          have LB : (wq.alloc (.cells #[.int .i64 0, .int .u64 0, .int .i64 0] 26)).drew.heap[wq.heap.size]? = some (.cells #[.int .i64 0, .int .u64 0, .int .i64 0] 26 (0, 0)) := heap_new _ _
          have HPA := HP _ B0
          have HPB := HP _ B1
          have HA : Hid (∀ w3, Below wq.drew.heap.size wq.drew w3 → Below wq.heap.size wq w3 ∧ w3.heap[w1.heap.size]? = some (.cells #[.int .i64 S, .int .u64 O, .int .i64 K] 26 (0, 0)) ∧ K8 w3 w1.heap.size g k S O K rt rk ro ra rq ∧ K8 (w3.alloc (.cells #[.int .i64 0, .int .u64 0, .int .i64 0] 26)) w1.heap.size g k S O K rt rk ro ra rq ∧ K8 (w3.alloc (.cells #[.int .i64 (rt + 1), .int .u64 ro, .int .i64 rq] 26)) w1.heap.size g k S O K rt rk ro ra rq) := hide (fun w3 hb3 => by
            have hb3' : Below wq.heap.size wq w3 := (Below.refl wq.heap.size wq).drew.trans hb3
            have L3 := (hb3'.block w1.heap.size (lt_of_heap LS_wq)).trans LS_wq
            have KC : K8 w3 w1.heap.size g k S O K rt rk ro ra rq := K0.of (hb3'.block _ (lt_of_heap LS_wq)) (hb3'.block g (by omega))
            have hs3 := hb3'.size
            exact ⟨hb3', L3, KC, KC.of (Below.heap_alloc _ _ _ (lt_of_heap L3)) (Below.heap_alloc _ _ _ (by omega)), KC.of (Below.heap_alloc _ _ _ (lt_of_heap L3)) (Below.heap_alloc _ _ _ (by omega))⟩)
          have HB : Hid (∀ w3, Below (wq.alloc (.cells #[.int .i64 0, .int .u64 0, .int .i64 0] 26)).drew.heap.size (wq.alloc (.cells #[.int .i64 0, .int .u64 0, .int .i64 0] 26)).drew w3 → Below wq.heap.size wq w3 ∧ w3.heap[wq.heap.size]? = some (.cells #[.int .i64 0, .int .u64 0, .int .i64 0] 26 (0, 0)) ∧ w3.heap[w1.heap.size]? = some (.cells #[.int .i64 S, .int .u64 O, .int .i64 K] 26 (0, 0)) ∧ K8 w3 w1.heap.size g k S O K rt rk ro ra rq ∧ K8 (((w3.setCell ⟨wq.heap.size, 0, none⟩ (.int .i64 (rt + 1))).setCell ⟨wq.heap.size, 1, none⟩ (.int .u64 ro)).setCell ⟨wq.heap.size, 2, none⟩ (.int .i64 rq)) w1.heap.size g k S O K rt rk ro ra rq) := hide (fun w3 hb3 => by
            have hb3' : Below wq.heap.size wq w3 := (below_alloc1 wq (.cells #[.int .i64 0, .int .u64 0, .int .i64 0] 26)).drew.trans (hb3.mono (by simp))
            have L3 := (hb3'.block w1.heap.size (lt_of_heap LS_wq)).trans LS_wq
            have KC : K8 w3 w1.heap.size g k S O K rt rk ro ra rq := K0.of (hb3'.block _ (lt_of_heap LS_wq)) (hb3'.block g (by omega))
            exact ⟨hb3', (hb3.block wq.heap.size (by simp)).trans LB, L3, KC, KC.of (set3_far hsw) (set3_far hgw)⟩)
          clear HP K0
          unfold K8 at KA KB HA HB
          go_region_held3 (fun W' => W'.cell? ⟨w1.heap.size, 0, none⟩ = some (.int .i64 S) ∧ W'.cell? ⟨w1.heap.size, 1, none⟩ = some (.int .u64 O) ∧ W'.cell? ⟨w1.heap.size, 2, none⟩ = some (.int .i64 K) ∧ W'.cell? ⟨g, k * 5, none⟩ = some (.int .i64 rt) ∧ W'.cell? ⟨g, k * 5 + 1, none⟩ = some (.int .i64 rk) ∧ W'.cell? ⟨g, k * 5 + 2, none⟩ = some (.int .u64 ro) ∧ W'.cell? ⟨g, k * 5 + 3, none⟩ = some (.int .u64 ra) ∧ W'.cell? ⟨g, k * 5 + 4, none⟩ = some (.int .i64 rq)) (first | with_reducible exact KA | with_reducible exact KB | with_reducible exact KC | with_reducible exact KD | with_reducible exact KE | with_reducible exact KF | fail) (first
            | (go_at_call 9; with_reducible refine HPA.mono ?_; rintro e w3 ⟨gg, cc, rfl, hgg, hown, hb3⟩; obtain ⟨B3, L3, KC, KD, KE⟩ := HA.out w3 hb3; have HX : Hid _ := hide hown; clear hown)
            | (go_at_call 9; with_reducible refine HPB.mono ?_; rintro e w3 ⟨gg, cc, rfl, hgg, hown, hb3⟩; obtain ⟨B3, LB3, L3, KC, KF⟩ := HB.out w3 hb3; obtain ⟨x0, x1, x2⟩ := z3_cells LB3; have f0 := frz LB3 0; have f1 := frz LB3 1; have f2 := frz LB3 2; have HX : Hid _ := hide hown; clear hown))
          all_goals (go_wp2_with fail; go_meet)
          · exact ⟨gg, cc, w3.heap.size, rfl, rfl, rfl, heap_new _ _, heap_old L3, lt_of_heap L3, B3.size, hgg, own_below HX.out (below_alloc1 _ _), B3.alloc B3.size _⟩
          · have hz : wq.heap.size ≤ (wq.alloc (.cells #[.int .i64 0, .int .u64 0, .int .i64 0] 26)).drew.heap.size := by simp
            have hz1 : (wq.alloc (.cells #[.int .i64 0, .int .u64 0, .int .i64 0] 26)).drew.heap.size = wq.heap.size + 1 := by simp
            have hgne : (Value.slice (some ⟨gg, 0, none⟩) T.length cc).ownBlock ≠ some wq.heap.size := fun e => by have h9 : gg = wq.heap.size := Option.some.inj e; omega
            exact ⟨gg, cc, wq.heap.size, rfl, rfl, rfl, set3_heap LB3, (set3_far hsw).trans L3, by omega, Nat.le_refl _, Nat.le_trans hz hgg, ownsRow_set3 (own_mono HX.out hz) hgne, ((B3.setCell (p := ⟨wq.heap.size, 0, none⟩) (Nat.le_refl _) _).setCell (p := ⟨wq.heap.size, 1, none⟩) (Nat.le_refl _) _).setCell (p := ⟨wq.heap.size, 2, none⟩) (Nat.le_refl _) _⟩
        case rest =>
          obtain ⟨gd, cd, nd, rfl, rfl, rfl, _, LS_wy, _, _, hgd, hownD, hBy⟩ := hcut
          rename World => wy
          have hB_wy : Below w1.heap.size w1 wy := hB_wq.trans (hBy.mono hB_wq.size)
          have hTl := HL.out
          have hTm := HM.out
          have hownC := own_below HOC.out hBy
          have hLNy := (hBy.block nb hlnb).trans HLN.out
          have hrC := own_row_u8 hownC (u8_of_mem hTm)
          have hrD := own_row_u8 hownD (u8_of_mem hTm)
          have hsy := hBy.size
          have hsm := same_any (some ⟨gg, 0, none⟩) (some ⟨gd, 0, none⟩) T.length cc T.length cd T T wy hrC hrD (by omega)
          simp only [decide_true] at hsm
          have HOD : Hid _ := hide hownD
          have HOC2 : Hid _ := hide hownC
          have HRC : Hid _ := hide hrC
          have HLNy : Hid _ := hide hLNy
          have HBY : Hid _ := hide hBy
          clear hownD hownC hrC hrD hLNy hBy HOC HLN HP HPP
          go_wp2_with fail
          refine hsm.mono ?_
          rintro e wz ⟨rfl, m, hwz⟩
          have hBz : Below wy.heap.size wy wz := by rw [hwz]; exact below_drewN (Below.refl _ _) m
          clear hwz hsm
          have hsz := hBz.size
          go_wp2_with fail
          refine (copied_any (some ⟨gg, 0, none⟩) T.length cc T wz (HRC.out.below hBz) (by omega) (by intro e; cases e)).mono ?_
          rintro e wv ⟨av, cv, rfl, _, hownV, hBv⟩
          have hsv := hBv.size
          obtain ⟨wu, hwu⟩ : ∃ wu, wu = wv.alloc (.cells #[.int .u8 201, .int .u8 202, .int .u8 203] 5) := ⟨_, rfl⟩
          have hBu : Below wv.heap.size wv wu := by rw [hwu]; exact below_alloc1 _ _
          have LU : wu.heap[wv.heap.size]? = some (.cells #[.int .u8 201, .int .u8 202, .int .u8 203] 5 (0, 0)) := by rw [hwu]; exact heap_new _ _
          have hownU := own_below hownV hBu
          have hrU := row_lit3 LU (by decide) (by decide) (by decide)
          have hsu := hBu.size
          have Hwu : Hid _ := hide hwu
          clear hwu hownV
          go_wp2_with (at_builtin; rw [← Hwu.out]; refine row_lies wu rfl (.tmp 70) (.tmp 71) rfl wz.heap.size (.slice av T.length cv) T.length T rfl hownU _ _ _ [201, 202, 203] rfl hrU (by omega) (by omega) (by omega) ?_; intro g9 c9 wt hown9 hgr9 hl9)
          have hBt : Below wz.heap.size wz wt := (hBv.trans (hBu.mono hsv)).grown hgr9 (by omega) (fun j hj => (hownU.lt j hj).1)
          have hB_wt : Below w1.heap.size w1 wt := hB_wy.trans ((hBz.trans (hBt.mono hsz)).mono hB_wy.size)
          have hBqt : Below wq.heap.size wq wt := HBY.out.trans ((hBz.trans (hBt.mono hsz)).mono hsy)
          have hByt : Below wy.heap.size wy wt := hBz.trans (hBt.mono hsz)
          have hst := hByt.size
          have LS_wt := (hByt.block w1.heap.size (lt_of_heap LS_wy)).trans LS_wy
          have hcap9 := own_capB hown9
          have hownT9 := own_take (n := T.length) (m := 3) (xs := T.map (Value.int .u8)) (ys := [.int .u8 201, .int .u8 202, .int .u8 203]) (by rw [List.map_append] at hown9; exact hown9) (by simp)
          have hr9 := own_row_u8 hownT9 (u8_of_mem hTm)
          have hlt9 := (hown9.lt g9 rfl)
          have HO9 : Hid _ := hide hown9
          have HR9 : Hid _ := hide hr9
          have HBZT : Hid _ := hide hBt
          have HBYZ : Hid _ := hide hBz
          have HG : Hid (∀ X, Below wt.heap.size wt X → Calls Tryd.prog 14 #[.agg #[.int .i64 S, .int .u64 O, .int .i64 K], .slice (some ⟨g9, 0, none⟩) T.length c9, .int .i64 0] X fun e w3 => e = .returned (gOk rt rk ro ra rq T.length) ∧ Below wt.heap.size wt w3 ∧ Below X.heap.size X w3) := hide (fun X hX => by
            have h := get_any S O K 0 (some ⟨g9, 0, none⟩) T.length c9 T X (hKw1.below (hB_wt.trans (hX.mono hB_wt.size)) (by omega)) (by have := hX.size; omega) (hr9.below hX) (by omega) hO0 hO1
            rw [HGT.out, gV_ok] at h
            exact h.mono (fun e w3 ⟨h1, h2⟩ => ⟨h1, hX.trans (h2.mono hX.size), h2⟩))
          have HKS : Hid (∀ X, Below wt.heap.size wt X → X.cell? ⟨w1.heap.size, 0, none⟩ = some (.int .i64 S) ∧ X.cell? ⟨w1.heap.size, 1, none⟩ = some (.int .u64 O) ∧ X.cell? ⟨w1.heap.size, 2, none⟩ = some (.int .i64 K)) := hide (fun X hX => z3_cells ((hX.block w1.heap.size (lt_of_heap LS_wt)).trans LS_wt))
          have hA9 : (T.length : Int) ≤ (c9 : Int) := by omega
          simp only [gOk] at HG
          clear hown9 hgr9 hl9 hownT9 hr9 hrU hownU LU Hwu hBu hBv hBt hBz
          go_upto_region 12 with fail
          go_cut [14, 15, 16, 9] (fun s14 s15 _ s9 wx => ∃ rb, s14 = .pointer (some ⟨rb, 0, none⟩) ∧ s15 = .int .i64 T.length ∧ s9 = .int .i64 0 ∧ wx.heap[rb]? = some (.cells #[.int .i64 rt, .int .i64 rk, .int .u64 ro, .int .u64 ra, .int .i64 rq] 32 (0, 0)) ∧ Below wt.heap.size wt wx)
          case first J K' hJ hK =>
            refine reg12_any _ _ _ _ _ _ _ _ _ _ _ _ _ _ _ _ _ _ _ _ _ _ _ _ _ _ _ _ _ _ _ _ _ _ _ _ _ _ _ _ _ _ _ _ _ _ _ _ _ _ _ _ _ _ _ _ _ _ _ _ _ _ _ _ _ _ _ _ _ _ _ _ _ _ _ _ _ _ _ _ _ _ _ _ _ _ _ _ _ _ _ _ _ _ _ _ _ _ _ _ _ _ _ _ _ _ _ _ _ _ _ _ _ _ _ _ _ _ _ _ _ _ _ _ _ _ _ _ _ _ _ _ _ _ _ _ _ _ _ _ _ _ _ _ _ _ _ _ _ _ _ _ _ _ _ _ _ _ _ _ _ _ _ _ _ _ _ _ _ _ _ _ _ _ _ _ _ _ _ _ _ _ _ _ _ _ _ _ _ _ _ _ _ _ _ _ _ _ _ _ _ _ _ _ _ (a7 := _) _ _ _ _ _ _ _ _ _ _ _ _ _ _ _ _ _ _ _ hA9 HKS HG (hide ?_)
            intro v73 v74 v75 v76 v77 v78 v79 v80 v81 v82 v83 rb' sb' W LR LS hBel
            refine hK _ _ (Met.intro (hJ _ _ ?_))
            (repeat apply Exists.intro)
            exact ⟨⟨rb', rfl, rfl, rfl, LR, hBel⟩, rfl⟩
          case rest =>
            obtain ⟨rb, rfl, rfl, rfl, LRb, hBs⟩ := hcut
            rename World => ws
            have hss := hBs.size
            have B_ws : Below w1.heap.size w1 ws := hB_wt.trans (hBs.mono hB_wt.size)
            have hBzs : Below wz.heap.size wz ws := HBZT.out.trans (hBs.mono HBZT.out.size)
            have hO9s := own_below HO9.out hBs
            have HQ : Hid (∀ j, Calls Tryd.prog 12 #[.slice (some ⟨g9, 0, none⟩) T.length c9, .slice (some ⟨gg, 0, none⟩) T.length cc] (ws.drewN j) fun e w' => e = .returned (.bool true) ∧ ∃ m, w' = (ws.drewN j).drewN m) := hide (fun j => by
              have h := same_any (some ⟨g9, 0, none⟩) (some ⟨gg, 0, none⟩) T.length c9 T.length cc T T (ws.drewN j) ((HR9.out.below hBs).below (below_drewN (Below.refl _ _) j)) ((HRC.out.below (hByt.trans (hBs.mono hst))).below (below_drewN (Below.refl _ _) j)) (by omega)
              simpa only [decide_true] using h)
            obtain ⟨c0, c1, c2, c3, c4⟩ := r5_cells LRb
            obtain ⟨e0, e1, e2, e3, e4⟩ := r5_of (own_below hownL B_ws) HRK.out
            have hqn : ∀ W' : World, (binOp .neq 32 (.agg #[.int .i64 rt, .int .i64 rk, .int .u64 ro, .int .u64 ra, .int .i64 rq]) (.agg #[.int .i64 rt, .int .i64 rk, .int .u64 ro, .int .u64 ra, .int .i64 rq])).run Tryd.prog W' = .ok (.bool false) W' := fun W' => neq_rc W' _ _ _ _ _
            have hd1 : ws.cell? ⟨g9, T.length, none⟩ = some (.int .u8 201) := by rw [hO9s.cellAt T.length (by omega)]; simp
            have hd2 : ws.cell? ⟨g9, T.length + 2, none⟩ = some (.int .u8 203) := by rw [hO9s.cellAt (T.length + 2) (by omega)]; simp
            have HO9s : Hid _ := hide hO9s
            have HBZS : Hid _ := hide hBzs
            have ht2 : ((T.length : Int) + 2).toNat = T.length + 2 := by omega
            clear hO9s hBzs HO9 HG HKS LRb
            go_upto_region 13 with fail
            go_quiet ((go_at_call 12; exact Calls.quiet_of (HQ.out _)))
            go_wp2_with fail
            have HTU : Hid (∀ z ∈ T ++ [201, 202, 203], 0 ≤ z ∧ z ≤ 255) := hide (by
              intro z hz
              rcases List.mem_append.1 hz with h | h
              · exact HM.out z h
              · simp at h; rcases h with rfl | rfl | rfl <;> decide)
            clear c0 c1 c2 c3 c4 e0 e1 e2 e3 e4 hqn hd1 hd2 ht2 HQ hTm
            go_loopw [17] (fun sk wl => ∃ (j : Nat) (zs : List Int), sk = .int .i64 j ∧ j ≤ T.length + 3 ∧ zs.length = T.length + 3 ∧ (∀ z ∈ zs, 0 ≤ z ∧ z ≤ 255) ∧ wl.ownsRow wz.heap.size 5 1 (.slice (some ⟨g9, 0, none⟩) (T.length + 3) c9) (T.length + 3) (zs.map (Value.int .u8)) ∧ Below wz.heap.size wz wl)
              (fun sk _ => T.length + 3 - (intOf sk).toNat)
            case atStart => exact ⟨0, T ++ [201, 202, 203], rfl, by omega, by simp, HTU.out, own_below HO9s.out (below_drewN (Below.refl _ _) _), below_drewN HBZS.out _⟩
            case round =>
              obtain ⟨j, zs, rfl, hj, hzl, hzu, ho9, hBl⟩ := hrel
              rename World => wl
              have HZL : Hid _ := hide hzl
              have HZU : Hid _ := hide hzu
              have HOL : Hid _ := hide ho9
              have HBL : Hid _ := hide hBl
              clear HTU HO9s HBZS hzu hBl
              by_cases hjl : j < T.length + 3
              · have hfr := ho9.frozenAt j
                have hcj : wl.cell? ⟨g9, j, none⟩ = some (.int .u8 (zs.getD j 0)) := by rw [ho9.cellAt j (by omega)]; simp [hzl, hjl]
                have hu0 : 0 ≤ zs.getD j 0 ∧ zs.getD j 0 ≤ 255 := by
                  rw [List.getD_eq_getElem?_getD, List.getElem?_eq_getElem (by omega)]
                  exact HZU.out _ (List.getElem_mem _)
                obtain ⟨y, hy⟩ : ∃ y, y = zs.getD j 0 := ⟨_, rfl⟩
                rw [← hy] at hcj hu0
                have hu1 := hu0.1
                have hu2 := hu0.2
                clear hy hzl ho9 hu0
                go_wp2_with fail
                refine ⟨⟨j + 1, zs.set j (y / 2), by go_num, by omega, by rw [List.length_set]; exact HZL.out, ?_, ?_, HBL.out.setCell (p := ⟨g9, j, none⟩) hlt9.1 _⟩, by simp [intOf]; omega⟩
                · intro z hz
                  rcases List.mem_or_eq_of_mem_set hz with h | h
                  · exact HZU.out z h
                  · subst h; omega
                · rw [List.map_set]; exact (HOL.out.stored j _).1
              · have hjT : j = T.length + 3 := by omega
                clear hzl ho9 hjT
                have hsl := HBL.out.size
                have hByl : Below wy.heap.size wy wl := HBYZ.out.trans (HBL.out.mono hsz)
                have B_wl : Below w1.heap.size w1 wl := hB_wy.trans (hByl.mono hB_wy.size)
                have LS_wl := (hByl.block w1.heap.size (lt_of_heap LS_wy)).trans LS_wy
                have hrl : Row wl (some ⟨g9, 0, none⟩) T.length (zs.take T.length) := own_row_u8 (own_take (n := T.length) (m := 3) (xs := (zs.take T.length).map (Value.int .u8)) (ys := (zs.drop T.length).map (Value.int .u8)) (by rw [← List.map_append, List.take_append_drop]; exact HOL.out) (by have := HZL.out; simp; omega)) (u8_of_mem (fun z hz => HZU.out z (List.mem_of_mem_take hz)))
                have HRL : Hid _ := hide hrl
                have HGA := fun X (hX : Below w1.heap.size w1 X) ad cx (hr : Row X ad T.length (zs.take T.length)) => get_any S O K 0 ad T.length cx (zs.take T.length) X (hKw1.below hX (by omega)) (by have := hX.size; omega) hr (by omega) hO0 hO1
                simp only [gV] at HGA
                generalize stOf (getG ⟨S, O, K⟩ (zs.take T.length) 0) = st at HGA
                generalize getG ⟨S, O, K⟩ (zs.take T.length) 0 = R at HGA
                obtain ⟨⟨qt, qk, qo, qa, qq⟩, p, f⟩ := R
                obtain ⟨v1, v2, v3⟩ := st
                dsimp only at HGA
                have HG : Hid (∀ X, Below wl.heap.size wl X → Calls Tryd.prog 14 #[.agg #[.int .i64 S, .int .u64 O, .int .i64 K], .slice (some ⟨g9, 0, none⟩) T.length c9, .int .i64 0] X fun e w3 => e = .returned (.tuple #[.agg #[.int .i64 qt, .int .i64 qk, .int .u64 qo, .int .u64 qa, .int .i64 qq], .int .i64 p, .agg #[.int .i64 v1, .int .u64 v2, .int .i64 v3], .int .i64 f]) ∧ Below wl.heap.size wl w3 ∧ Below X.heap.size X w3) := hide (fun X hX => (HGA X (B_wl.trans (hX.mono B_wl.size)) _ _ (hrl.below hX)).mono (fun e w3 ⟨h1, h2⟩ => ⟨h1, hX.trans (h2.mono hX.size), h2⟩))
                have HGX : Hid _ := hide HGA
                have HKS : Hid (∀ X, Below wl.heap.size wl X → X.cell? ⟨w1.heap.size, 0, none⟩ = some (.int .i64 S) ∧ X.cell? ⟨w1.heap.size, 1, none⟩ = some (.int .u64 O) ∧ X.cell? ⟨w1.heap.size, 2, none⟩ = some (.int .i64 K)) := hide (fun X hX => z3_cells ((hX.block w1.heap.size (lt_of_heap LS_wl)).trans LS_wl))
                clear HGA hrl
                go_upto_region 19 with fail
                go_cut [18, 19, 20, 21] (fun s18 s19 s20 s21 wx => ∃ rb sb, s18 = .pointer (some ⟨rb, 0, none⟩) ∧ s19 = .int .i64 p ∧ s20 = .pointer (some ⟨sb, 0, none⟩) ∧ s21 = .int .i64 f ∧ wx.heap[rb]? = some (.cells #[.int .i64 qt, .int .i64 qk, .int .u64 qo, .int .u64 qa, .int .i64 qq] 32 (0, 0)) ∧ wx.heap[sb]? = some (.cells #[.int .i64 v1, .int .u64 v2, .int .i64 v3] 26 (0, 0)) ∧ Below wl.heap.size wl wx)
                case first J K' hJ hK =>
                  refine reg19_any _ _ _ _ _ _ _ _ _ _ _ _ _ _ _ _ _ _ _ _ _ _ _ _ _ _ _ _ _ _ _ _ _ _ _ _ _ _ _ _ _ _ _ _ _ _ _ _ _ _ _ _ _ _ _ _ _ _ _ _ _ _ _ _ _ _ _ _ _ _ _ _ _ _ _ _ _ _ _ _ _ _ _ _ _ _ _ _ _ _ _ _ _ _ _ _ _ _ _ _ _ _ _ _ _ _ _ _ _ _ _ _ _ _ _ _ _ _ _ _ _ _ _ _ _ _ _ _ _ _ _ _ _ _ _ _ _ _ _ _ _ _ _ _ _ _ _ _ _ _ _ _ _ _ _ _ _ _ _ _ _ _ _ _ _ _ _ _ _ _ _ _ _ _ _ _ _ _ _ _ _ _ _ _ _ _ _ _ _ _ _ _ _ _ _ _ _ _ _ _ _ _ _ _ _ (a7 := _) _ _ _ _ _ _ _ _ _ _ _ _ _ _ _ _ _ _ _ hA9 HKS HG (hide ?_)
                  intro v140 v141 v142 v143 v144 v145 v146 v147 v148 v149 v150 rb' sb' W LR LS hBel
                  refine hK _ _ (Met.intro (hJ _ _ ?_))
                  (repeat apply Exists.intro)
                  exact ⟨⟨rb', sb', rfl, rfl, rfl, rfl, LR, LS, hBel⟩, rfl⟩
                case rest =>
                  obtain ⟨rx, sx, rfl, rfl, rfl, rfl, LRx, LSx, hBm⟩ := hcut
                  rename World => wm
                  have hsm := hBm.size
                  have B_wm : Below w1.heap.size w1 wm := B_wl.trans (hBm.mono B_wl.size)
                  have LS_wm := (hBm.block w1.heap.size (lt_of_heap LS_wl)).trans LS_wl
                  have HRX : Hid _ := hide LRx
                  have HSX : Hid _ := hide LSx
                  have HKM : Hid (∀ X, Below wm.heap.size wm X → X.cell? ⟨w1.heap.size, 0, none⟩ = some (.int .i64 S) ∧ X.cell? ⟨w1.heap.size, 1, none⟩ = some (.int .u64 O) ∧ X.cell? ⟨w1.heap.size, 2, none⟩ = some (.int .i64 K)) := hide (fun X hX => z3_cells ((hX.block w1.heap.size (lt_of_heap LS_wm)).trans LS_wm))
                  have HC : Hid (∀ X, Below wm.heap.size wm X → Calls Tryd.prog 13 #[.slice (some ⟨g9, 0, none⟩) T.length c9] X fun e wc => ∃ a' c', e = .returned (.slice a' T.length c') ∧ Below wm.heap.size wm wc ∧ Below X.heap.size X wc ∧ (∀ Y, Below wc.heap.size wc Y → Calls Tryd.prog 14 #[.agg #[.int .i64 S, .int .u64 O, .int .i64 K], .slice a' T.length c', .int .i64 0] Y fun e w3 => e = .returned (.tuple #[.agg #[.int .i64 qt, .int .i64 qk, .int .u64 qo, .int .u64 qa, .int .i64 qq], .int .i64 p, .agg #[.int .i64 v1, .int .u64 v2, .int .i64 v3], .int .i64 f]) ∧ Below wm.heap.size wm w3 ∧ Below wc.heap.size wc w3 ∧ Below Y.heap.size Y w3)) := hide (fun X hX => by
                    have hrX := (HRL.out.below hBm).below hX
                    refine (copied_any (some ⟨g9, 0, none⟩) T.length c9 (zs.take T.length) X hrX (by omega) (by intro e; cases e)).mono ?_
                    rintro e wc ⟨a', c', rfl, _, ho, hb⟩
                    have hbm : Below wm.heap.size wm wc := hX.trans (hb.mono hX.size)
                    refine ⟨a', c', rfl, hbm, hb, fun Y hY => ?_⟩
                    have hYm : Below wm.heap.size wm Y := hbm.trans (hY.mono hbm.size)
                    exact (HGX.out Y (B_wm.trans (hYm.mono B_wm.size)) a' c' ((own_row_u8 ho (u8_of_mem (fun z hz => HZU.out z (List.mem_of_mem_take hz)))).below hY)).mono (fun e w3 ⟨h1, h2⟩ => ⟨h1, hYm.trans (h2.mono hYm.size), hY.trans (h2.mono hY.size), h2⟩))
                  clear LRx LSx HG HKS
                  go_upto_region 20 with fail
                  go_cut [22, 23, 24, 25] (fun s22 s23 s24 s25 wx => ∃ rb sb, s22 = .pointer (some ⟨rb, 0, none⟩) ∧ s23 = .int .i64 p ∧ s24 = .pointer (some ⟨sb, 0, none⟩) ∧ s25 = .int .i64 f ∧ wx.heap[rb]? = some (.cells #[.int .i64 qt, .int .i64 qk, .int .u64 qo, .int .u64 qa, .int .i64 qq] 32 (0, 0)) ∧ wx.heap[sb]? = some (.cells #[.int .i64 v1, .int .u64 v2, .int .i64 v3] 26 (0, 0)) ∧ Below wm.heap.size wm wx)
                  case first J K' hJ hK =>
                    refine reg20_any _ _ _ _ _ _ _ _ _ _ _ _ _ _ _ _ _ _ _ _ _ _ _ _ _ _ _ _ _ _ _ _ _ _ _ _ _ _ _ _ _ _ _ _ _ _ _ _ _ _ _ _ _ _ _ _ _ _ _ _ _ _ _ _ _ _ _ _ _ _ _ _ _ _ _ _ _ _ _ _ _ _ _ _ _ _ _ _ _ _ _ _ _ _ _ _ _ _ _ _ _ _ _ _ _ _ _ _ _ _ _ _ _ _ _ _ _ _ _ _ _ _ _ _ _ _ _ _ _ _ _ _ _ _ _ _ _ _ _ _ _ _ _ _ _ _ _ _ _ _ _ _ _ _ _ _ _ _ _ _ _ _ _ _ _ _ _ _ _ _ _ _ _ _ _ _ _ _ _ _ _ _ _ _ _ _ _ _ _ _ _ _ _ _ _ _ _ _ _ _ _ _ _ _ _ (a7 := _) _ _ _ _ _ _ _ _ _ _ _ _ _ _ _ _ _ _ _ hA9 HKM HC (hide ?_)
                    intro v151 v152 v153 v154 v155 v156 v157 v158 v159 v160 v161 v162 rb' sb' W LR LS hBel
                    refine hK _ _ (Met.intro (hJ _ _ ?_))
                    (repeat apply Exists.intro)
                    exact ⟨⟨rb', sb', rfl, rfl, rfl, rfl, LR, LS, hBel⟩, rfl⟩
                  case rest =>
                    obtain ⟨ry, sy, rfl, rfl, rfl, rfl, LRy, LSy, hBo⟩ := hcut
                    rename World => wo
                    have hso := hBo.size
                    have LRx := (hBo.block rx (lt_of_heap HRX.out)).trans HRX.out
                    have LSx := (hBo.block sx (lt_of_heap HSX.out)).trans HSX.out
                    obtain ⟨a0, a1, a2, a3, a4⟩ := r5_cells LRx
                    obtain ⟨b0, b1, b2, b3, b4⟩ := r5_cells LRy
                    obtain ⟨d0, d1, d2⟩ := z3_cells LSx
                    obtain ⟨e0, e1, e2⟩ := z3_cells LSy
                    have hqr : ∀ W' : World, (binOp .neq 32 (.agg #[.int .i64 qt, .int .i64 qk, .int .u64 qo, .int .u64 qa, .int .i64 qq]) (.agg #[.int .i64 qt, .int .i64 qk, .int .u64 qo, .int .u64 qa, .int .i64 qq])).run Tryd.prog W' = .ok (.bool false) W' := fun W' => neq_rc W' _ _ _ _ _
                    have hqs : ∀ W' : World, (binOp .neq 26 (.agg #[.int .i64 v1, .int .u64 v2, .int .i64 v3]) (.agg #[.int .i64 v1, .int .u64 v2, .int .i64 v3])).run Tryd.prog W' = .ok (.bool false) W' := fun W' => neq_st W' _ _ _
                    clear LRx LSx LRy LSy HC HKM
                    have hByo : Below wy.heap.size wy wo := hByl.trans ((hBm.trans (hBo.mono hsm)).mono hByl.size)
                    have hBqo : Below wq.heap.size wq wo := HBY.out.trans (hByo.mono hsy)
                    have hBro : Below wr.heap.size wr wo := HBN.out.trans (hBqo.mono hsn)
                    have HLo : Hid (Lists wo w1.heap.size (.slice aA bs.length cA) bs vals) := hide (HLI.out.below hBro)
                    have HCo : Hid (wo.ownsRow w1.heap.size 5 1 (.slice (some ⟨gg, 0, none⟩) T.length cc) T.length (T.map (Value.int .u8))) := hide (own_mono (own_below HOC2.out hByo) hsr)
                    have HDo : Hid (wo.ownsRow w1.heap.size 5 1 (.slice (some ⟨gd, 0, none⟩) T.length cd) T.length (T.map (Value.int .u8))) := hide (own_mono (own_below HOD.out hByo) hB_wq.size)
                    have HNo : Hid (wo.heap[nb]? = some (.cells #[.int .i64 (rt + 1), .int .u64 ro, .int .i64 rq] 26 (0, 0))) := hide ((hByo.block nb (by omega)).trans HLNy.out)
                    have HSo : Hid (wo.heap[w1.heap.size]? = some (.cells #[.int .i64 S, .int .u64 O, .int .i64 K] 26 (0, 0))) := hide ((hByo.block w1.heap.size (lt_of_heap LS_wy)).trans LS_wy)
                    have HBo : Hid (Below w1.heap.size w1 wo) := hide (hB_wy.trans (hByo.mono hB_wy.size))
                    have HGD : Hid (gg ≠ gd ∧ ∀ x ∈ vals, ∀ q, x.ownBlock = some q → q ≠ gg ∧ q ≠ gd) := hide ⟨by omega, fun x hx q hq => by have := (HLI.out.blocks x hx q hq).2; omega⟩
                    go_upto_region 23 with fail
                    clear a0 a1 a2 a3 a4 b0 b1 b2 b3 b4 d0 d1 d2 e0 e1 e2 hqr hqs hBo hByo hBqo hBro
                    go_upto_region 24 with (at_builtin; refine append_lstC _ rfl _ _ rfl w1.heap.size (.slice aA bs.length cA) bs.length vals rfl (HLo.out.own.alloc _) wo.heap.size (.slice (some ⟨gg, 0, none⟩) T.length cc) rfl (cell_newK _ _ _) rfl (by have := HBS.out; omega) (by have := HBo.out.size; simp; omega) ?_; intro a2 c2 wp o2 g2 l2)
                    have HK2 : Hid (But (fun k => (Value.slice aA bs.length cA).ownBlock = some k) wo wp) := hide ((But.refl _ wo).alloc _ |>.grown g2 (fun k _ e => e))
                    have HL1 : Hid (Lists wp w1.heap.size (.slice a2 (bs.length + 1) c2) (bs ++ [T]) (vals ++ [.slice (some ⟨gg, 0, none⟩) T.length cc])) := hide (HLo.out.snocG HCo.out (fun x hx q hq e => (HGD.out.2 x hx q hq).1 (by simp [Value.ownBlock] at e; exact e.symm)) HM.out o2 g2)
                    have HD1 : Hid (wp.ownsRow w1.heap.size 5 1 (.slice (some ⟨gd, 0, none⟩) T.length cd) T.length (T.map (Value.int .u8))) := hide (own_but HDo.out HK2.out (fun q hq e => own_types HDo.out HLo.out.own (by decide) q hq e))
                    have HN1 : Hid (wp.heap[nb]? = some (.cells #[.int .i64 (rt + 1), .int .u64 ro, .int .i64 rq] 26 (0, 0))) := hide ((HK2.out.block nb (lt_of_heap HNo.out) (own_ne_cells HLo.out.own HNo.out (by decide))).trans HNo.out)
                    have HS1 : Hid (wp.heap[w1.heap.size]? = some (.cells #[.int .i64 S, .int .u64 O, .int .i64 K] 26 (0, 0))) := hide ((HK2.out.block _ (lt_of_heap HSo.out) (own_ne_cells HLo.out.own HSo.out (by decide))).trans HSo.out)
                    have HB1 : Hid (Below w1.heap.size w1 wp) := hide (HBo.out.trans (HK2.out.below HBo.out.size (fun q hq => (HLo.out.own.lt q hq).1)))
                    clear o2 g2 l2 HLo HCo HDo HNo HSo HBo HK2
                    go_upto_region 25 with (at_builtin; refine append_lstC _ rfl _ _ rfl w1.heap.size (.slice a2 (bs.length + 1) c2) (bs.length + 1) (vals ++ [.slice (some ⟨gg, 0, none⟩) T.length cc]) rfl (by have := HL1.out.own.alloc (.cells #[.slice (some ⟨gd, 0, none⟩) T.length cd] 27); simpa using this) wp.heap.size (.slice (some ⟨gd, 0, none⟩) T.length cd) rfl (cell_newK _ _ _) rfl (by have := HBS.out; omega) (by have := HB1.out.size; simp; omega) ?_; intro a3 c3 wf o3 g3 l3)
                    have HK3 : Hid (But (fun k => (Value.slice a2 (bs.length + 1) c2).ownBlock = some k) wp wf) := hide ((But.refl _ wp).alloc _ |>.grown g3 (fun k _ e => e))
                    have HL2 : Hid (Lists wf w1.heap.size (.slice a3 (bs.length + 1 + 1) c3) (bs ++ [T] ++ [T]) (vals ++ [.slice (some ⟨gg, 0, none⟩) T.length cc] ++ [.slice (some ⟨gd, 0, none⟩) T.length cd])) := hide (by
                      have h9 : (bs ++ [T]).length = bs.length + 1 := by simp
                      have := HL1.out.snocG (a2 := a3) (c2 := c3) (w2 := wf) HD1.out (fun x hx q hq e => by
                        simp [Value.ownBlock] at e
                        subst e
                        rcases List.mem_append.1 hx with hx | hx
                        · exact (HGD.out.2 x hx _ hq).2 rfl
                        · simp at hx; subst hx
                          simp [Value.ownBlock] at hq
                          exact HGD.out.1 hq) HM.out (by rw [h9]; exact o3) g3
                      rw [h9] at this
                      exact this)
                    have hN2 : wf.heap[nb]? = some (.cells #[.int .i64 (rt + 1), .int .u64 ro, .int .i64 rq] 26 (0, 0)) := (HK3.out.block nb (lt_of_heap HN1.out) (own_ne_cells HL1.out.own HN1.out (by decide))).trans HN1.out
                    have hS2 : wf.heap[w1.heap.size]? = some (.cells #[.int .i64 S, .int .u64 O, .int .i64 K] 26 (0, 0)) := (HK3.out.block _ (lt_of_heap HS1.out) (own_ne_cells HL1.out.own HS1.out (by decide))).trans HS1.out
                    have HB2 : Hid (Below w1.heap.size w1 wf) := hide (HB1.out.trans (HK3.out.below HB1.out.size (fun q hq => (HL1.out.own.lt q hq).1)))
                    clear o3 g3 l3 HL1 HD1 HN1 HS1 HB1 HK3
                    obtain ⟨n0, n1, n2⟩ := z3_cells hN2
                    obtain ⟨z0, z1, z2⟩ := z3_cells hS2
                    have f0 := frz hS2 0
                    have f1 := frz hS2 1
                    have f2 := frz hS2 2
                    have HL3 : Hid _ := hide (HL2.out.set3 hS2 (by decide) (by decide) (.int .i64 (rt + 1)) (.int .u64 ro) (.int .i64 rq))
                    have HS3 : Hid _ := hide (set3_heap (x := .int .i64 (rt + 1)) (y := .int .u64 ro) (z := .int .i64 rq) hS2)
                    have HB3 : Hid _ := hide (((HB2.out.setCell (p := ⟨w1.heap.size, 0, none⟩) (Nat.le_refl _) (.int .i64 (rt + 1))).setCell (p := ⟨w1.heap.size, 1, none⟩) (Nat.le_refl _) (.int .u64 ro)).setCell (p := ⟨w1.heap.size, 2, none⟩) (Nat.le_refl _) (.int .i64 rq))
                    clear hN2 hS2 HL2 HB2
                    go_wp2_with fail
                    refine ⟨⟨k + 1, rt + 1, ro, rq, a3, c3, bs ++ [T] ++ [T], _, by go_num, by omega, by simp, by have := HBS.out; simp; omega, ?_, by simpa using HL3.out, HS3.out, HB3.out, H8.out, by omega, by omega, by omega, by omega, by omega⟩, by simp [intOf]; omega⟩
                    intro b hb
                    simp at hb
                    rcases hb with hb | hb
                    · exact H27.out b hb
                    · subst hb; exact HL.out.2
    · have hltI : ¬ (k : Int) < (L.length : Int) := by omega
      have HAP : Hid (∀ X, Below wr.heap.size wr X → Calls Tryd.prog 16 #[.slice aA bs.length cA] X fun e w' => e = .returned (.bool true) ∧ Below w.heap.size w w') := hide (fun X hX => by
        have hXs := hX.size
        refine (apart_lists (HLI.out.below hX) (by have := HBS.out; omega) H27.out (by omega)).mono ?_
        rintro e w' ⟨rfl, hb⟩
        exact ⟨rfl, hb1.trans (((hB_wr.trans (hX.mono hsr)).trans hb).mono hs1)⟩)
      have HPut := put_one wr (hKw1.below hB_wr (by omega)) (by omega)
      clear HLI H27 HBS hU LS_wr hS0 hK0 hKk hO0 hO1
      go_wp2_with fail
      refine HPut.mono ?_
      rintro e wa ⟨ga, ca, rfl, hba⟩
      have hsa := hba.size
      clear HPut
      go_wp2_with fail
      refine (HAP.out _ ?_).mono ?_
      · repeat (first | with_reducible exact hba | with_reducible refine Below.drew ?_ | with_reducible refine Bel.alloc ?_ _ | (with_reducible refine Bel.set ?_ (by omega) _))
      · rintro e wb ⟨rfl, hbb⟩
        go_wp2_with fail
        go_ret
        exact ⟨rfl, hbb⟩
end Go.Proofs.YtgecdnmgifcghaaDoor
