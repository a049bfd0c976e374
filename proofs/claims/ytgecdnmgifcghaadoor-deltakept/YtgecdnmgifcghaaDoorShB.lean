/-
  DeltaShort.
-/
import Derived.Test.YtgecdnmgifcghaaDoorShA
import Derived.Test.YtgecdnmgifcghaaDoorGetC
namespace Go.Proofs.YtgecdnmgifcghaaDoor
open Go.RowKit
/-- The cells of a state and of a record. -/
def K8 (w : World) (b g i : Nat) (S O K t k o a q : Int) : Prop := w.cell? ⟨b, 0, none⟩ = some (.int .i64 S) ∧ w.cell? ⟨b, 1, none⟩ = some (.int .u64 O) ∧ w.cell? ⟨b, 2, none⟩ = some (.int .i64 K) ∧ w.cell? ⟨g, i * 5, none⟩ = some (.int .i64 t) ∧ w.cell? ⟨g, i * 5 + 1, none⟩ = some (.int .i64 k) ∧ w.cell? ⟨g, i * 5 + 2, none⟩ = some (.int .u64 o) ∧ w.cell? ⟨g, i * 5 + 3, none⟩ = some (.int .u64 a) ∧ w.cell? ⟨g, i * 5 + 4, none⟩ = some (.int .i64 q)
theorem K8.of {w w' : World} {b g i : Nat} {S O K t k o a q : Int} (h : K8 w b g i S O K t k o a q) (h1 : w'.heap[b]? = w.heap[b]?) (h2 : w'.heap[g]? = w.heap[g]?) : K8 w' b g i S O K t k o a q :=
  ⟨(cell_eq h1 0).trans h.1, (cell_eq h1 1).trans h.2.1, (cell_eq h1 2).trans h.2.2.1, (cell_eq h2 _).trans h.2.2.2.1, (cell_eq h2 _).trans h.2.2.2.2.1, (cell_eq h2 _).trans h.2.2.2.2.2.1, (cell_eq h2 _).trans h.2.2.2.2.2.2.1, (cell_eq h2 _).trans h.2.2.2.2.2.2.2⟩
theorem set3_far {w : World} {h k : Nat} {x y z : Value} (hne : k ≠ h) : (((w.setCell ⟨h, 0, none⟩ x).setCell ⟨h, 1, none⟩ y).setCell ⟨h, 2, none⟩ z).heap[k]? = w.heap[k]? := by rw [set_far _ hne, set_far _ hne, set_far _ hne]
set_option maxHeartbeats 1600000 in
set_option maxRecDepth 8000 in
theorem short_any (a : Option Addr) (n c : Nat) (rs : List Rc) (arg : Int) (w : World) (hK : Kn w) (hw : 0 < w.heap.size) (hr : RRow w a n rs) (hok : ∀ r ∈ rs, r.ok) (hn : n ≤ 9223372036854775000) (ha0 : 0 ≤ arg) :
    Calls Tryd.prog 3 #[.slice a n c, .int .u64 arg] w fun e w' => e = .returned (.bool true) ∧ Below w.heap.size w w' := by
  go_enter Tryd.func3, Tryd.ntmps3
  go_wp2_with fail
  refine (row_any a n c rs w hr hok hn).mono ?_
  rintro e w1 ⟨v, L, B, rfl, hU, hown, hb1⟩
  obtain ⟨al, cl, rfl⟩ := own_formR hown
  have hlen := hU.len
  have htop := hU.top (by omega)
  have HU0 : Hid _ := hide hU
  have hK1 := hK.below hb1 hw
  have hs1 := hb1.size
  clear hr hok hU
  obtain ⟨w2, hw2⟩ : ∃ w2, w2 = w1.alloc (.cells #[.int .i64 0, .int .u64 0, .int .i64 0] 26) := ⟨_, rfl⟩
  have hb2 : Below w1.heap.size w1 w2 := by rw [hw2]; exact below_alloc1 _ _
  have LS : w2.heap[w1.heap.size]? = some (.cells #[.int .i64 0, .int .u64 0, .int .i64 0] 26 (0, 0)) := by rw [hw2]; exact heap_new _ _
  have Hw2 : Hid _ := hide hw2
  clear hw2
  go_wp2_with fail
  rw [← Hw2.out]
  go_loopw [7] (fun si wr => ∃ (k : Nat) (S O K : Int), si = .int .i64 k ∧ k ≤ L.length ∧ wr.heap[w1.heap.size]? = some (.cells #[.int .i64 S, .int .u64 O, .int .i64 K] 26 (0, 0)) ∧ Below w1.heap.size w1 wr ∧ Ups S (L.drop k) B ∧ 0 ≤ S ∧ 0 ≤ K ∧ K ≤ 262144 ∧ 0 ≤ O ∧ O ≤ 18446744073709551615)
    (fun si _ => L.length - (intOf si).toNat)
  case atStart => exact ⟨0, 0, 0, 0, rfl, Nat.zero_le _, LS, hb2, HU0.out, by omega, by omega, by omega, by omega, by omega⟩
  case round =>
    obtain ⟨k, S, O, K, rfl, hk, LSr, hBr, hU, hS0, hK0, hKk, hO0, hO1⟩ := hrel
    clear LS hb2 HU0 Hw2
    by_cases hlt : k < L.length
    · have hltI : (k : Int) < (L.length : Int) := by omega
      obtain ⟨g, cg, e, hg0, hg1⟩ := own_rowR hown (by omega)
      cases e
      have hrk : L[k]? = some L[k] := List.getElem?_eq_getElem hlt
      obtain ⟨⟨rt, rk, ro, ra, rq⟩, hrr⟩ : ∃ r, r = L[k] := ⟨_, rfl⟩
      rw [← hrr] at hrk
      obtain ⟨⟨h1, h2, h3, h4, h5, h6⟩, h7, h8⟩ := hU.at hrk
      dsimp only at h1 h2 h3 h4 h5 h6 h8
      have hpe : putE ⟨S, O, K⟩ ⟨rt, rk, ro, ra, rq⟩ = 0 := putE_of (by dsimp only; omega)
      have HL : Hid _ := hide (text_len hpe h7)
      have hownr := own_below hown hBr
      have hcr := own_rec hownr hrk
      obtain ⟨z0, z1, z2⟩ := z3_cells LSr
      have hsr := hBr.size
      have hltS := lt_of_heap LSr
      have K0 : K8 wr w1.heap.size g k S O K rt rk ro ra rq := ⟨z0, z1, z2, hcr⟩
      have HP := fun X (hX : Below w1.heap.size w1 X) => put_n S O K rt rk ro ra rq X (hK1.below hX (by omega)) (by have := hX.size; omega) hpe h7
      generalize (text ⟨S, O, K⟩ ⟨rt, rk, ro, ra, rq⟩).length = tl at HP HL
      have H8 : Hid _ := hide h8
      have hgw : g ≠ wr.heap.size := by omega
      have hsw : w1.heap.size ≠ wr.heap.size := by omega
      clear hrr hrk hU hcr h8 z0 z1 z2 hownr
      go_upto_region 6 with fail
      go_cut [8, 9, 10] (fun s8 s9 s10 wx => ∃ gg cc nb, s8 = .slice (some ⟨gg, 0, none⟩) tl cc ∧ s9 = .pointer (some ⟨nb, 0, none⟩) ∧ s10 = .int .i64 0 ∧ wx.heap[nb]? = some (.cells #[.int .i64 (rt + 1), .int .u64 ro, .int .i64 rq] 26 (0, 0)) ∧ wx.heap[w1.heap.size]? = some (.cells #[.int .i64 S, .int .u64 O, .int .i64 K] 26 (0, 0)) ∧ w1.heap.size < nb ∧ Below w1.heap.size w1 wx)
      case first =>
        have B0 : Below w1.heap.size w1 wr.drew := hBr.drew
        have B1 : Below w1.heap.size w1 (wr.alloc (.cells #[.int .i64 0, .int .u64 0, .int .i64 0] 26)).drew := (hBr.alloc hBr.size _).drew
        have KA : K8 wr.drew w1.heap.size g k S O K rt rk ro ra rq := K0.of rfl rfl
        have KB : K8 (wr.alloc (.cells #[.int .i64 0, .int .u64 0, .int .i64 0] 26)).drew w1.heap.size g k S O K rt rk ro ra rq := K0.of (Below.heap_alloc _ _ _ (by omega)) (Below.heap_alloc _ _ _ (by omega))
        have LB : (wr.alloc (.cells #[.int .i64 0, .int .u64 0, .int .i64 0] 26)).drew.heap[wr.heap.size]? = some (.cells #[.int .i64 0, .int .u64 0, .int .i64 0] 26 (0, 0)) := heap_new _ _
        have HPA := HP _ B0
        have HPB := HP _ B1
        have HA : Hid (∀ w3, Below wr.drew.heap.size wr.drew w3 → Below w1.heap.size w1 w3 ∧ w3.heap[w1.heap.size]? = some (.cells #[.int .i64 S, .int .u64 O, .int .i64 K] 26 (0, 0)) ∧ K8 w3 w1.heap.size g k S O K rt rk ro ra rq ∧ K8 (w3.alloc (.cells #[.int .i64 0, .int .u64 0, .int .i64 0] 26)) w1.heap.size g k S O K rt rk ro ra rq ∧ K8 (w3.alloc (.cells #[.int .i64 (rt + 1), .int .u64 ro, .int .i64 rq] 26)) w1.heap.size g k S O K rt rk ro ra rq) := hide (fun w3 hb3 => by
          have hb3' : Below wr.heap.size wr w3 := (Below.refl wr.heap.size wr).drew.trans hb3
          have L3 := (hb3'.block w1.heap.size (lt_of_heap LSr)).trans LSr
          have KC : K8 w3 w1.heap.size g k S O K rt rk ro ra rq := K0.of (hb3'.block _ (lt_of_heap LSr)) (hb3'.block g (by omega))
          have hs3 := hb3'.size
          exact ⟨hBr.trans (hb3'.mono hBr.size), L3, KC, KC.of (Below.heap_alloc _ _ _ (lt_of_heap L3)) (Below.heap_alloc _ _ _ (by omega)), KC.of (Below.heap_alloc _ _ _ (lt_of_heap L3)) (Below.heap_alloc _ _ _ (by omega))⟩)
        have HB : Hid (∀ w3, Below (wr.alloc (.cells #[.int .i64 0, .int .u64 0, .int .i64 0] 26)).drew.heap.size (wr.alloc (.cells #[.int .i64 0, .int .u64 0, .int .i64 0] 26)).drew w3 → Below w1.heap.size w1 w3 ∧ w3.heap[wr.heap.size]? = some (.cells #[.int .i64 0, .int .u64 0, .int .i64 0] 26 (0, 0)) ∧ w3.heap[w1.heap.size]? = some (.cells #[.int .i64 S, .int .u64 O, .int .i64 K] 26 (0, 0)) ∧ K8 w3 w1.heap.size g k S O K rt rk ro ra rq ∧ K8 (((w3.setCell ⟨wr.heap.size, 0, none⟩ (.int .i64 (rt + 1))).setCell ⟨wr.heap.size, 1, none⟩ (.int .u64 ro)).setCell ⟨wr.heap.size, 2, none⟩ (.int .i64 rq)) w1.heap.size g k S O K rt rk ro ra rq) := hide (fun w3 hb3 => by
          have hb3' : Below wr.heap.size wr w3 := (below_alloc1 wr (.cells #[.int .i64 0, .int .u64 0, .int .i64 0] 26)).drew.trans (hb3.mono (by simp))
          have L3 := (hb3'.block w1.heap.size (lt_of_heap LSr)).trans LSr
          have KC : K8 w3 w1.heap.size g k S O K rt rk ro ra rq := K0.of (hb3'.block _ (lt_of_heap LSr)) (hb3'.block g (by omega))
          exact ⟨hBr.trans (hb3'.mono hBr.size), (hb3.block wr.heap.size (by simp)).trans LB, L3, KC, KC.of (set3_far hsw) (set3_far hgw)⟩)
        clear HP K0
        unfold K8 at KA KB HA HB
        go_region_held3 (fun W' => W'.cell? ⟨w1.heap.size, 0, none⟩ = some (.int .i64 S) ∧ W'.cell? ⟨w1.heap.size, 1, none⟩ = some (.int .u64 O) ∧ W'.cell? ⟨w1.heap.size, 2, none⟩ = some (.int .i64 K) ∧ W'.cell? ⟨g, k * 5, none⟩ = some (.int .i64 rt) ∧ W'.cell? ⟨g, k * 5 + 1, none⟩ = some (.int .i64 rk) ∧ W'.cell? ⟨g, k * 5 + 2, none⟩ = some (.int .u64 ro) ∧ W'.cell? ⟨g, k * 5 + 3, none⟩ = some (.int .u64 ra) ∧ W'.cell? ⟨g, k * 5 + 4, none⟩ = some (.int .i64 rq)) (first | with_reducible exact KA | with_reducible exact KB | with_reducible exact KC | with_reducible exact KD | with_reducible exact KE | with_reducible exact KF | fail) (first
          | (go_at_call 9; with_reducible refine HPA.mono ?_; rintro e w3 ⟨gg, cc, rfl, hgg, _, hb3⟩; obtain ⟨B3, L3, KC, KD, KE⟩ := HA.out w3 hb3)
          | (go_at_call 9; with_reducible refine HPB.mono ?_; rintro e w3 ⟨gg, cc, rfl, hgg, _, hb3⟩; obtain ⟨B3, LB3, L3, KC, KF⟩ := HB.out w3 hb3; obtain ⟨x0, x1, x2⟩ := z3_cells LB3; have f0 := frz LB3 0; have f1 := frz LB3 1; have f2 := frz LB3 2))
        all_goals (go_wp2_with fail; go_meet; first | exact ⟨gg, cc, wr.heap.size, rfl, rfl, rfl, set3_heap LB3, (set3_far hsw).trans L3, by omega, ((B3.setCell (p := ⟨wr.heap.size, 0, none⟩) hsr _).setCell (p := ⟨wr.heap.size, 1, none⟩) hsr _).setCell (p := ⟨wr.heap.size, 2, none⟩) hsr _⟩ | exact ⟨gg, cc, w3.heap.size, rfl, rfl, rfl, heap_new _ _, heap_old L3, lt_of_heap L3, B3.alloc B3.size _⟩)
      case rest =>
        obtain ⟨gg, cc, nb, rfl, rfl, rfl, LN, LSn, hnb, hBn⟩ := hcut
        obtain ⟨n0, n1, n2⟩ := z3_cells LN
        have ht2 : ¬ (tl : Int) < 2 := by have := HL.out; omega
        have ht27 : ¬ (27 : Int) < (tl : Int) := by have := HL.out; omega
        have hro0 := h7.o0
        have hro1 := h7.o1
        clear HL h7
        go_wp2_with (refine wpList_store_row rfl 26 (.tmp 6) (.tmp 51) rfl w1.heap.size #[.int .i64 (rt + 1), .int .u64 ro, .int .i64 rq] rfl rfl 26 #[.int .i64 S, .int .u64 O, .int .i64 K] LSn Tryd.sizeS rfl (st_one _ _ _) ?_)
        exact ⟨⟨k + 1, rt + 1, ro, rq, by go_num, by omega, setRow_heap _ _ _ _ _ _ LSn, below_setRow hBn (Nat.le_refl _) _, H8.out, by omega, h5, h6, hro0, hro1⟩, by simp [intOf]; omega⟩
    · have hkl : k = L.length := by omega
      have hSB : S = B := by
        have h := hU
        rw [hkl, List.drop_length] at h
        exact h
      have hS1 : S ≤ 1048576 := by omega
      obtain ⟨z0, z1, z2⟩ := z3_cells LSr
      have hsr := hBr.size
      have hltS := lt_of_heap LSr
      have Bf : Below w.heap.size w wr := hb1.trans (hBr.mono hs1)
      clear hU hkl hSB
      by_cases hmx : 1048576 ≤ S
      · go_wp2_with fail
        go_ret
        exact ⟨rfl, Bf⟩
      · go_upto_region 12 with fail
        go_cut [11] (fun s11 wx => ∃ kk nb, s11 = .pointer (some ⟨nb, 0, none⟩) ∧ 1 ≤ kk ∧ kk ≤ 22 ∧ wx.heap[nb]? = some (.cells #[.int .i64 S, .int .i64 kk, .int .u64 O, .int .u64 0, .int .i64 K] 32 (0, 0)) ∧ wx.heap[w1.heap.size]? = some (.cells #[.int .i64 S, .int .u64 O, .int .i64 K] 26 (0, 0)) ∧ w1.heap.size < nb ∧ Below w1.heap.size w1 wx)
        case first =>
          have hsw : w1.heap.size ≠ wr.heap.size := by omega
          go_region_held3 (fun W' => W'.cell? ⟨w1.heap.size, 0, none⟩ = some (.int .i64 S) ∧ W'.cell? ⟨w1.heap.size, 1, none⟩ = some (.int .u64 O) ∧ W'.cell? ⟨w1.heap.size, 2, none⟩ = some (.int .i64 K)) (first | exact ⟨z0, z1, z2⟩ | go_keep) (first
            | (go_at_call 10; refine (wi_any _ _ _ (by omega) (by omega)).mono ?_; rintro e w3 ⟨⟨xx, rfl, hxx0, hxx1⟩, rfl⟩))
          all_goals (go_wp2_with fail; go_meet)
          all_goals (have hwx : IntKind.i64.wrap (1 + xx) = 1 + xx := (by rw [IntKind.wrap_i64]; omega); exact ⟨IntKind.i64.wrap (1 + xx), wr.heap.size, rfl, by rw [hwx]; omega, by rw [hwx]; omega, heap_new _ _, heap_old LSr, by omega, (hBr.alloc hBr.size _).drew⟩)
        case rest =>
          obtain ⟨kk, nb, rfl, hk1, hk2, LR, LSn, hnb, hBn⟩ := hcut
          have hpS : putE ⟨S, O, K⟩ ⟨S, kk, O, 0, K⟩ = 0 := putE_of (by dsimp only; omega)
          have hu1 := wrapU_bd (O + 1)
          have hu2 := wrapU_bd (O - 1)
          have hpN : putE ⟨S, O, K⟩ ⟨S, kk, IntKind.u64.wrap (O + 1), 0, K⟩ = 0 := putE_of (by dsimp only; omega)
          have hpB : putE ⟨S, O, K⟩ ⟨S, kk, IntKind.u64.wrap (O - 1), 0, K⟩ = 0 := putE_of (by dsimp only; omega)
          have hpM : putE ⟨S, O, K⟩ ⟨S, kk, O, 1 + arg % 127, K⟩ = 0 := putE_of (by dsimp only; omega)
          have HP1 := fun X (hX : Below w1.heap.size w1 X) => put_n S O K S kk O 0 K X (hK1.below hX (by omega)) (by have := hX.size; omega) hpS ⟨hO0, hO1, by dsimp only; omega, by dsimp only; omega⟩
          have HP2 := fun X (hX : Below w1.heap.size w1 X) => put_n S O K S kk (IntKind.u64.wrap (O + 1)) 0 K X (hK1.below hX (by omega)) (by have := hX.size; omega) hpN ⟨hu1.1, hu1.2, by dsimp only; omega, by dsimp only; omega⟩
          have HP3 := fun X (hX : Below w1.heap.size w1 X) => put_n S O K S kk (IntKind.u64.wrap (O - 1)) 0 K X (hK1.below hX (by omega)) (by have := hX.size; omega) hpB ⟨hu2.1, hu2.2, by dsimp only; omega, by dsimp only; omega⟩
          have HP4 := fun X (hX : Below w1.heap.size w1 X) => put_n S O K S kk O (1 + arg % 127) K X (hK1.below hX (by omega)) (by have := hX.size; omega) hpM ⟨hO0, hO1, by dsimp only; omega, by dsimp only; omega⟩
          rw [text_same ⟨S, O, K⟩ kk] at HP1
          rw [text_on ⟨S, O, K⟩ kk] at HP2
          rw [text_back ⟨S, O, K⟩ kk] at HP3
          rw [text_more ⟨S, O, K⟩ kk (1 + arg % 127) (by omega) (by omega)] at HP4
          clear hpS hpN hpB hpM
          obtain ⟨y0, y1, y2⟩ := z3_cells LSn
          obtain ⟨r0, r1, r2, r3, r4⟩ := r5_cells LR
          go_wp2_with fail
          refine (HP1 wc hBn).mono ?_
          rintro e w3 ⟨g3, c3, rfl, _, _, hb3⟩
          have B3 : Below w1.heap.size w1 w3 := hBn.trans (hb3.mono hBn.size)
          have LS3 := (hb3.block w1.heap.size (lt_of_heap LSn)).trans LSn
          have LR3 := (hb3.block nb (lt_of_heap LR)).trans LR
          have i1 := lt_of_heap LS3
          have i2 := lt_of_heap LR3
          have j1 : ¬ w1.heap.size = w3.heap.size := by omega
          have j2 : ¬ w1.heap.size = w3.heap.size + 1 := by omega
          have j3 : ¬ w1.heap.size = w3.heap.size + 1 + 1 := by omega
          have k1 : ¬ nb = w3.heap.size := by omega
          have k2 : ¬ nb = w3.heap.size + 1 := by omega
          have k3 : ¬ nb = w3.heap.size + 1 + 1 := by omega
          obtain ⟨y30, y31, y32⟩ := z3_cells LS3
          obtain ⟨r30, r31, r32, r33, r34⟩ := r5_cells LR3
          clear y0 y1 y2 r0 r1 r2 r3 r4
          obtain ⟨m0, m1, m2⟩ := z3_cells (show (((w3.alloc (.cells #[.int .i64 (S + 1), .int .u64 O, .int .i64 K] 26)).alloc (.cells #[.int .i64 S, .int .i64 kk, .int .u64 (IntKind.u64.wrap (O + 1)), .int .u64 0, .int .i64 K] 32)).alloc (.cells #[.int .i64 S, .int .i64 kk, .int .u64 O, .int .u64 0, .int .i64 K] 32)).heap[w1.heap.size]? = _ from heap_old (heap_old (heap_old LS3)))
          obtain ⟨q0, q1, q2⟩ := z3_cells (show (((w3.alloc (.cells #[.int .i64 (S + 1), .int .u64 O, .int .i64 K] 26)).alloc (.cells #[.int .i64 S, .int .i64 kk, .int .u64 (IntKind.u64.wrap (O + 1)), .int .u64 0, .int .i64 K] 32)).alloc (.cells #[.int .i64 S, .int .i64 kk, .int .u64 (IntKind.u64.wrap (O - 1)), .int .u64 0, .int .i64 K] 32)).heap[w1.heap.size]? = _ from heap_old (heap_old (heap_old LS3)))
          have LN7 : (((w3.alloc (.cells #[.int .i64 (S + 1), .int .u64 O, .int .i64 K] 26)).alloc (.cells #[.int .i64 S, .int .i64 kk, .int .u64 (IntKind.u64.wrap (O + 1)), .int .u64 0, .int .i64 K] 32)).alloc (.cells #[.int .i64 S, .int .i64 kk, .int .u64 (IntKind.u64.wrap (O - 1)), .int .u64 0, .int .i64 K] 32)).heap[w3.heap.size + 1]? = some (.cells #[.int .i64 S, .int .i64 kk, .int .u64 (IntKind.u64.wrap (O + 1)), .int .u64 0, .int .i64 K] 32 (0, 0)) := by
            rw [show w3.heap.size + 1 = (w3.alloc (.cells #[.int .i64 (S + 1), .int .u64 O, .int .i64 K] 26)).heap.size from by simp]
            exact heap_old (heap_new _ _)
          have LB7 : (((w3.alloc (.cells #[.int .i64 (S + 1), .int .u64 O, .int .i64 K] 26)).alloc (.cells #[.int .i64 S, .int .i64 kk, .int .u64 (IntKind.u64.wrap (O + 1)), .int .u64 0, .int .i64 K] 32)).alloc (.cells #[.int .i64 S, .int .i64 kk, .int .u64 (IntKind.u64.wrap (O - 1)), .int .u64 0, .int .i64 K] 32)).heap[w3.heap.size + 1 + 1]? = some (.cells #[.int .i64 S, .int .i64 kk, .int .u64 (IntKind.u64.wrap (O - 1)), .int .u64 0, .int .i64 K] 32 (0, 0)) := by
            rw [show w3.heap.size + 1 + 1 = ((w3.alloc (.cells #[.int .i64 (S + 1), .int .u64 O, .int .i64 K] 26)).alloc (.cells #[.int .i64 S, .int .i64 kk, .int .u64 (IntKind.u64.wrap (O + 1)), .int .u64 0, .int .i64 K] 32)).heap.size from by simp]
            exact heap_new _ _
          obtain ⟨p0, p1, p2, p3, p4⟩ := r5_cells LN7
          have BV : Below w1.heap.size w1 (((w3.alloc (.cells #[.int .i64 (S + 1), .int .u64 O, .int .i64 K] 26)).alloc (.cells #[.int .i64 S, .int .i64 kk, .int .u64 (IntKind.u64.wrap (O + 1)), .int .u64 0, .int .i64 K] 32)).alloc (.cells #[.int .i64 S, .int .i64 kk, .int .u64 (IntKind.u64.wrap (O - 1)), .int .u64 0, .int .i64 K] 32)) := ((B3.alloc B3.size _).alloc (by simp; omega) _).alloc (by simp; omega) _
          have LSV : (((w3.alloc (.cells #[.int .i64 (S + 1), .int .u64 O, .int .i64 K] 26)).alloc (.cells #[.int .i64 S, .int .i64 kk, .int .u64 (IntKind.u64.wrap (O + 1)), .int .u64 0, .int .i64 K] 32)).alloc (.cells #[.int .i64 S, .int .i64 kk, .int .u64 (IntKind.u64.wrap (O - 1)), .int .u64 0, .int .i64 K] 32)).heap[w1.heap.size]? = some (.cells #[.int .i64 S, .int .u64 O, .int .i64 K] 26 (0, 0)) := heap_old (heap_old (heap_old LS3))
          have LRV : (((w3.alloc (.cells #[.int .i64 (S + 1), .int .u64 O, .int .i64 K] 26)).alloc (.cells #[.int .i64 S, .int .i64 kk, .int .u64 (IntKind.u64.wrap (O + 1)), .int .u64 0, .int .i64 K] 32)).alloc (.cells #[.int .i64 S, .int .i64 kk, .int .u64 (IntKind.u64.wrap (O - 1)), .int .u64 0, .int .i64 K] 32)).heap[nb]? = some (.cells #[.int .i64 S, .int .i64 kk, .int .u64 O, .int .u64 0, .int .i64 K] 32 (0, 0)) := heap_old (heap_old (heap_old LR3))
          have hzV : (((w3.alloc (.cells #[.int .i64 (S + 1), .int .u64 O, .int .i64 K] 26)).alloc (.cells #[.int .i64 S, .int .i64 kk, .int .u64 (IntKind.u64.wrap (O + 1)), .int .u64 0, .int .i64 K] 32)).alloc (.cells #[.int .i64 S, .int .i64 kk, .int .u64 (IntKind.u64.wrap (O - 1)), .int .u64 0, .int .i64 K] 32)).heap.size = w3.heap.size + 3 := by simp
          go_wp2_with fail
          refine (HP2 _ BV).mono ?_
          rintro e w7 ⟨g7, c7, rfl, _, _, hb7⟩
          have B7 : Below w1.heap.size w1 w7 := BV.trans (hb7.mono BV.size)
          have LS7 := (hb7.block w1.heap.size (lt_of_heap LSV)).trans LSV
          have LR7 := (hb7.block nb (lt_of_heap LRV)).trans LRV
          have LB77 := (hb7.block (w3.heap.size + 1 + 1) (lt_of_heap LB7)).trans LB7
          obtain ⟨y70, y71, y72⟩ := z3_cells LS7
          obtain ⟨x70, x71, x72, x73, x74⟩ := r5_cells LB77
          clear m0 m1 m2 q0 q1 q2 p0 p1 p2 p3 p4 y30 y31 y32 r30 r31 r32 r33 r34 j1 j2 j3 k1 k2 k3 LN7 LB7 LSV LRV LB77 hb7 HP1 HP2
          go_wp2_with fail
          refine (HP3 w7 B7).mono ?_
          rintro e w8 ⟨g8, c8, rfl, _, _, hb8⟩
          have B8 : Below w1.heap.size w1 w8 := B7.trans (hb8.mono B7.size)
          have LS8 := (hb8.block w1.heap.size (lt_of_heap LS7)).trans LS7
          have LR8 := (hb8.block nb (lt_of_heap LR7)).trans LR7
          have i81 := lt_of_heap LS8
          have i82 := lt_of_heap LR8
          have j1 : ¬ w1.heap.size = w8.heap.size := by omega
          have j2 : ¬ w1.heap.size = w8.heap.size + 1 := by omega
          have k1 : ¬ nb = w8.heap.size := by omega
          have k2 : ¬ nb = w8.heap.size + 1 := by omega
          obtain ⟨y80, y81, y82⟩ := z3_cells LS8
          obtain ⟨r80, r81, r82, r83, r84⟩ := r5_cells LR8
          have hm127 : arg.tmod 127 = arg % 127 := Int.tmod_eq_emod_of_nonneg ha0
          have hmb : 0 ≤ arg % 127 ∧ arg % 127 < 127 := by omega
          have B9 : Below w1.heap.size w1 ((w8.alloc (.cells #[.int .i64 (S + 1), .int .u64 (IntKind.u64.wrap (O - 1)), .int .i64 K] 26)).alloc (.cells #[.int .i64 S, .int .i64 kk, .int .u64 O, .int .u64 (1 + arg % 127), .int .i64 K] 32)) := (B8.alloc B8.size _).alloc (by simp; omega) _
          obtain ⟨y90, y91, y92⟩ := z3_cells (show ((w8.alloc (.cells #[.int .i64 (S + 1), .int .u64 (IntKind.u64.wrap (O - 1)), .int .i64 K] 26)).alloc (.cells #[.int .i64 S, .int .i64 kk, .int .u64 O, .int .u64 (1 + arg % 127), .int .i64 K] 32)).heap[w1.heap.size]? = _ from heap_old (heap_old LS8))
          clear y70 y71 y72 x70 x71 x72 x73 x74 hb8 HP3
          go_wp2_with fail
          refine (HP4 _ B9).mono ?_
          rintro e w10 ⟨g10, c10, rfl, _, _, hb10⟩
          go_wp2
          go_ret
          exact ⟨rfl, (hb1.trans (B9.mono hs1)).trans (hb10.mono (by have := B9.size; omega))⟩
end Go.Proofs.YtgecdnmgifcghaaDoor
