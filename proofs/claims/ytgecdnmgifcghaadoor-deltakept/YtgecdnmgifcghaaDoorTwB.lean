/-
  DeltaTwoWay.
-/
import Derived.Test.YtgecdnmgifcghaaDoorTwA
import Derived.Test.YtgecdnmgifcghaaDoorGetC
namespace Go.Proofs.YtgecdnmgifcghaaDoor
open Go.RowKit
theorem ownblock_of {w : World} {base n c : Nat} {a : Option Addr} {xs : List Value} (h : w.ownsRow base 5 1 (.slice a n c) n xs) : ∀ g, (Value.slice a n c).ownBlock = some g → base ≤ g ∧ g < w.heap.size := fun g hg => h.lt g hg
theorem row_nil {w : World} {a : Option Addr} {n c : Nat} {base : Nat} {xs : List Value} (h : w.ownsRow base 5 1 (.slice a n c) n xs) : a = none → n = 0 ∧ c = 0 := own_nil h
theorem row_lit2 {w : World} {g : Nat} {a b : Int} (h : w.heap[g]? = some (.cells #[.int .u8 a, .int .u8 b] 5 (0, 0))) (a0 : 0 ≤ a) (a1 : a ≤ 255) (b0 : 0 ≤ b) (b1 : b ≤ 255) : Row w (some ⟨g, 0, none⟩) 2 [a, b] := by
  refine ⟨rfl, u8_of_mem (by intro z hz; simp at hz; rcases hz with rfl | rfl <;> omega), .inr ⟨g, 0, rfl, fun i hi => ?_⟩⟩
  match i, hi with
  | 0, _ => rw [cell_of_row w g (0 + 0) _ 5 (0, 0) h]; rfl
  | 1, _ => rw [cell_of_row w g (0 + 1) _ 5 (0, 0) h]; rfl
theorem getG_zero (s : St) (zs : List Int) (t : Int) : (getG s zs t).2.2 ≠ 0 → (getG s zs t).1 = Rc.zero ∧ (getG s zs t).2.1 = 0 := by
  unfold getG
  split
  · intro _; exact ⟨rfl, rfl⟩
  · split
    · intro _; exact ⟨rfl, rfl⟩
    · exact readG_zero s zs _
theorem getG_inv {s : St} {zs : List Int} {t : Int} {r : Rc} {p : Int} (h : getG s zs t = (r, p, 0)) (hso : s.ok) (hu : ∀ i : Nat, 0 ≤ zs[i]?.getD 0 ∧ zs[i]?.getD 0 ≤ 255) : ∃ tn q : Nat, t = tn ∧ p = q ∧ tn < q ∧ q ≤ zs.length ∧ putE s r = 0 ∧ r.ok ∧ sl zs tn q = text s r := by
  unfold getG at h
  split at h
  · exact absurd (congrArg (fun z => z.2.2) h) (by simp [bad])
  · rename_i hm
    split at h
    · exact absurd (congrArg (fun z => z.2.2) h) (by simp [bad])
    · rename_i ht
      obtain ⟨h1, h2, q, h3, h4, h5, h6⟩ := read_inv (by simpa using hm) hso hu (by omega) h
      exact ⟨t.toNat, q, by omega, h3, h4, h5, h1, h2, h6⟩
theorem row_sub {w : World} {b off n i j : Nat} {zs : List Int} (h : Row w (some ⟨b, off, none⟩) n zs) (hij : i ≤ j) (hj : j ≤ n) : Row w (some ⟨b, off + i, none⟩) (j - i) (sl zs i j) := by
  have hl := h.len
  refine ⟨by unfold sl; simp; omega, fun k => ?_, ?_⟩
  · by_cases hk : k < j - i
    · have := h.u8 (i + k)
      unfold sl
      rw [List.getElem?_take, if_pos hk, List.getElem?_drop]; exact this
    · unfold sl
      rw [List.getElem?_take, if_neg hk]; simp
  · by_cases h0 : j - i = 0
    · exact .inl h0
    · refine .inr ⟨b, off + i, rfl, fun k hk => ?_⟩
      rcases h.cells with e | ⟨b', o', e, hc⟩
      · omega
      · cases e
        have := hc (i + k) (by omega)
        rw [← Nat.add_assoc] at this
        rw [this]
        unfold sl
        simp only [List.getD_eq_getElem?_getD]
        rw [List.getElem?_take, if_pos hk, List.getElem?_drop]
theorem r5_of {w : World} {base g n c k : Nat} {L : List Rc} {t kk o a q : Int} (h : w.ownsRow base 32 5 (.slice (some ⟨g, 0, none⟩) n c) n (flat L)) (hk : L[k]? = some ⟨t, kk, o, a, q⟩) :
    w.cell? ⟨g, k * 5, none⟩ = some (.int .i64 t) ∧ w.cell? ⟨g, k * 5 + 1, none⟩ = some (.int .i64 kk) ∧ w.cell? ⟨g, k * 5 + 2, none⟩ = some (.int .u64 o) ∧ w.cell? ⟨g, k * 5 + 3, none⟩ = some (.int .u64 a) ∧ w.cell? ⟨g, k * 5 + 4, none⟩ = some (.int .i64 q) := own_rec h hk
theorem ownsRow_set3 {w : World} {base : Nat} {e : TypeId} {size n b : Nat} {v : Value} {xs : List Value} {x y z : Value} (h : w.ownsRow base e size v n xs) (hv : v.ownBlock ≠ some b) : (((w.setCell ⟨b, 0, none⟩ x).setCell ⟨b, 1, none⟩ y).setCell ⟨b, 2, none⟩ z).ownsRow base e size v n xs := by
  obtain ⟨h1, h2⟩ := h
  refine ⟨h1, h2.imp id ?_⟩
  rintro ⟨g, cap, cur, rfl, hg, hh, r⟩
  exact ⟨g, cap, cur, rfl, hg, (set3_far (fun e => hv (by rw [← e]; rfl))).trans hh, r⟩
set_option maxHeartbeats 4000000 in
set_option maxRecDepth 20000 in
theorem twoway_any (a : Option Addr) (n c : Nat) (rs : List Rc) (aa : Option Addr) (na ca : Nat) (za : List Int) (at' : Option Addr) (nt ct : Nat) (zt : List Int) (sS sO sK : Int) (ar : Option Addr) (nr cr : Nat) (zr : List Int) (t : Int) (w : World)
    (hK : Kn w) (hw : 0 < w.heap.size) (hr : RRow w a n rs) (hok : ∀ r ∈ rs, r.ok) (hn : n ≤ 9223372036854775000)
    (hra : Row w aa na za) (hna : na ≤ 1048576) (h0a : aa = none → na = 0 ∧ ca = 0)
    (hrt : Row w at' nt zt) (hnt : nt ≤ 1048576) (h0t : at' = none → nt = 0 ∧ ct = 0)
    (hrr : Row w ar nr zr) (hnr : nr ≤ 1048576) (hcr : nr ≤ cr) (hsO0 : 0 ≤ sO) (hsO1 : sO ≤ 18446744073709551615) :
    Calls Tryd.prog 6 #[.slice a n c, .slice aa na ca, .slice at' nt ct, .agg #[.int .i64 sS, .int .u64 sO, .int .i64 sK], .slice ar nr cr, .int .i64 t] w fun e w' => e = .returned (.bool true) ∧ Below w.heap.size w w' := by
  obtain ⟨W, hW⟩ : ∃ W, W = w.alloc (.cells #[.int .i64 sS, .int .u64 sO, .int .i64 sK] 26) := ⟨_, rfl⟩
  have hb : Below w.heap.size w W := by rw [hW]; exact below_alloc1 _ _
  have hsz : W.heap.size = w.heap.size + 1 := by rw [hW]; simp
  have LW : W.heap[w.heap.size]? = some (.cells #[.int .i64 sS, .int .u64 sO, .int .i64 sK] 26 (0, 0)) := by rw [hW]; exact heap_new _ _
  have hKW := hK.below hb hw
  have HRow := row_any a n c rs W (hr.below hb) hok hn
  clear hr hok hK
  go_enter Tryd.func6, Tryd.ntmps6
  go_wp2_with fail
  rw [← hW]
  clear hW
  refine HRow.mono ?_
  rintro e w1 ⟨v, L, B, rfl, hU, hownL, hb1⟩
  obtain ⟨al, cl, rfl⟩ := own_formR hownL
  have hlen := hU.len
  have htop := hU.top (by omega)
  have hcap := encs_len (s := St.zero) hU (by decide) (by decide) (by decide)
  have hem := encs_mem (s := St.zero) hU (by decide) (by decide) (by decide)
  have HU0 : Hid _ := hide hU
  have hLl : L.length ≤ 1048576 := by omega
  have hs1 := hb1.size
  have hra1 := (hra.below hb).below hb1
  have LW1 := (hb1.block w.heap.size (by omega)).trans LW
  have hKw1 := hKW.below hb1 (by omega)
  clear hU HRow
  go_wp2_with fail
  refine (copied_any aa na ca za w1 hra1 (by omega) h0a).mono ?_
  rintro e w2 ⟨a2, c2, rfl, _, hown2, hb2⟩
  have hs2 := hb2.size
  have hK2 := hKw1.below hb2 (by omega)
  obtain ⟨w3, hw3⟩ : ∃ w3, w3 = w2.alloc (.cells #[.int .i64 0, .int .u64 0, .int .i64 0] 26) := ⟨_, rfl⟩
  have hb3 : Below w2.heap.size w2 w3 := by rw [hw3]; exact below_alloc1 _ _
  have LS3 : w3.heap[w2.heap.size]? = some (.cells #[.int .i64 0, .int .u64 0, .int .i64 0] 26 (0, 0)) := by rw [hw3]; exact heap_new _ _
  have hown3 := own_below hown2 hb3
  have hnb3 : (Value.slice a2 na c2).ownBlock ≠ some w2.heap.size := fun e => by have := (hown2.lt _ e).2; omega
  have B31 : Below w1.heap.size w1 w3 := hb2.trans (hb3.mono hs2)
  have Hw3 : Hid _ := hide hw3
  clear hw3 hown2
  obtain ⟨E, hE⟩ : ∃ E, E = za ++ encs St.zero L := ⟨_, rfl⟩
  obtain ⟨FS, hFS⟩ : ∃ FS, FS = fin St.zero L := ⟨_, rfl⟩
  have hEl : E.length ≤ 30000000 := by rw [hE, List.length_append]; have := hra.len; omega
  have hEu : ∀ z ∈ E, 0 ≤ z ∧ z ≤ 255 := by
    intro z hz
    rw [hE] at hz
    rcases List.mem_append.1 hz with h | h
    · exact mem_of_u8 hra.u8 z h
    · exact hem z h
  have HEl : Hid _ := hide hEl
  have HEu : Hid _ := hide hEu
  have HE : Hid _ := hide hE
  have HFS : Hid _ := hide hFS
  have hzal := hra.len
  clear hcap hem hEl hEu hE hFS
  go_wp2_with fail
  rw [← Hw3.out]
  go_loopw [14, 16] (fun sb si wr => ∃ (k : Nat) (S O K : Int) (ab : Option Addr) (cb : Nat) (bl : List Int), si = .int .i64 k ∧ k ≤ L.length ∧ sb = .slice ab bl.length cb ∧ wr.ownsRow w1.heap.size 5 1 (.slice ab bl.length cb) bl.length (bl.map (Value.int .u8)) ∧ (Value.slice ab bl.length cb).ownBlock ≠ some w2.heap.size ∧ wr.heap[w2.heap.size]? = some (.cells #[.int .i64 S, .int .u64 O, .int .i64 K] 26 (0, 0)) ∧ Below w1.heap.size w1 wr ∧ Ups S (L.drop k) B ∧ 0 ≤ S ∧ 0 ≤ K ∧ K ≤ 262144 ∧ 0 ≤ O ∧ O ≤ 18446744073709551615 ∧ bl ++ encs ⟨S, O, K⟩ (L.drop k) = E ∧ fin ⟨S, O, K⟩ (L.drop k) = FS)
    (fun _ si _ => L.length - (intOf si).toNat)
  case atStart => exact ⟨0, 0, 0, 0, a2, c2, za, rfl, Nat.zero_le _, by rw [hzal], by rw [hzal]; exact hown3, by rw [hzal]; exact hnb3, LS3, B31, HU0.out, by omega, by omega, by omega, by omega, by omega, HE.out.symm, HFS.out.symm⟩
  case round =>
    obtain ⟨k, S, O, K, ab, cb, bl, rfl, hk, rfl, hownb, hnbb, LSr, hBr, hU, hS0, hK0, hKk, hO0, hO1, hbE, hfE⟩ := hrel
    have HUU : Hid _ := hide HU0.out
    clear LS3 hb3 HU0 Hw3 hown3 hnb3 B31
    have hsr := hBr.size
    have hltS := lt_of_heap LSr
    have hbl : bl.length ≤ 30000000 := by have h := HEl.out; rw [← hbE, List.length_append] at h; omega
    by_cases hlt : k < L.length
    · have hltI : (k : Int) < (L.length : Int) := by omega
      obtain ⟨g, cg, e, hg0, hg1⟩ := own_rowR hownL (by omega)
      cases e
      have hrk : L[k]? = some L[k] := List.getElem?_eq_getElem hlt
      obtain ⟨⟨rt, rk, ro, ra, rq⟩, hrr'⟩ : ∃ r, r = L[k] := ⟨_, rfl⟩
      rw [← hrr'] at hrk
      have hat := hU.at hrk
      dsimp only at hat
      obtain ⟨⟨h1, h2, h3, h4, h5, h6⟩, h7, h8⟩ := hat
      have hpe : putE ⟨S, O, K⟩ ⟨rt, rk, ro, ra, rq⟩ = 0 := putE_of (by dsimp only; omega)
      have HL : Hid _ := hide (text_len hpe h7)
      have HM : Hid _ := hide (text_mem hpe)
      have hcE : Hid (bl ++ text ⟨S, O, K⟩ ⟨rt, rk, ro, ra, rq⟩ ++ encs ⟨rt + 1, ro, rq⟩ (L.drop (k + 1)) = E) := hide (by rw [← hbE, encs_cons hrk, List.append_assoc]; rfl)
      have hcF : Hid (fin ⟨rt + 1, ro, rq⟩ (L.drop (k + 1)) = FS) := hide (by rw [← hfE, fin_cons hrk]; rfl)
      have hownr := own_below hownL hBr
      have hcr' := own_rec hownr hrk
      obtain ⟨z0, z1, z2⟩ := z3_cells LSr
      have K0 : K8 wr w2.heap.size g k S O K rt rk ro ra rq := ⟨z0, z1, z2, hcr'⟩
      have HP := fun X (hX : Below w1.heap.size w1 X) => put_n S O K rt rk ro ra rq X (hKw1.below hX (by omega)) (by have := hX.size; omega) hpe h7
      generalize hT : text ⟨S, O, K⟩ ⟨rt, rk, ro, ra, rq⟩ = T at HP HL HM hcE
      have H8 : Hid _ := hide h8
      have hgw : g ≠ wr.heap.size := by omega
      have hsw : w2.heap.size ≠ wr.heap.size := by omega
      have HOW : Hid _ := hide hownb
      have HRK : Hid _ := hide hrk
      clear hrr' hrk hU hcr' h8 z0 z1 z2 hownr hT hbE hfE hownb
      go_upto_region 7 with fail
      go_cut [17, 18, 19] (fun s8 s9 s10 wx => ∃ gg cc nb, s8 = .slice (some ⟨gg, 0, none⟩) T.length cc ∧ s9 = .pointer (some ⟨nb, 0, none⟩) ∧ s10 = .int .i64 0 ∧ wx.heap[nb]? = some (.cells #[.int .i64 (rt + 1), .int .u64 ro, .int .i64 rq] 26 (0, 0)) ∧ wx.heap[w2.heap.size]? = some (.cells #[.int .i64 S, .int .u64 O, .int .i64 K] 26 (0, 0)) ∧ w2.heap.size < nb ∧ wr.heap.size ≤ nb ∧ wr.heap.size ≤ gg ∧ wx.ownsRow wr.heap.size 5 1 (.slice (some ⟨gg, 0, none⟩) T.length cc) T.length (T.map (Value.int .u8)) ∧ Below wr.heap.size wr wx)
      case first =>
        have B0 : Below w1.heap.size w1 wr.drew := hBr.drew
        have B1 : Below w1.heap.size w1 (wr.alloc (.cells #[.int .i64 0, .int .u64 0, .int .i64 0] 26)).drew := (hBr.alloc hBr.size _).drew
        have KA : K8 wr.drew w2.heap.size g k S O K rt rk ro ra rq := K0.of rfl rfl
        have KB : K8 (wr.alloc (.cells #[.int .i64 0, .int .u64 0, .int .i64 0] 26)).drew w2.heap.size g k S O K rt rk ro ra rq := K0.of (Below.heap_alloc _ _ _ (by omega)) (Below.heap_alloc _ _ _ (by omega))
        have LB : (wr.alloc (.cells #[.int .i64 0, .int .u64 0, .int .i64 0] 26)).drew.heap[wr.heap.size]? = some (.cells #[.int .i64 0, .int .u64 0, .int .i64 0] 26 (0, 0)) := heap_new _ _
        have HPA := HP _ B0
        have HPB := HP _ B1
        have HA : Hid (∀ w3, Below wr.drew.heap.size wr.drew w3 → Below wr.heap.size wr w3 ∧ w3.heap[w2.heap.size]? = some (.cells #[.int .i64 S, .int .u64 O, .int .i64 K] 26 (0, 0)) ∧ K8 w3 w2.heap.size g k S O K rt rk ro ra rq ∧ K8 (w3.alloc (.cells #[.int .i64 0, .int .u64 0, .int .i64 0] 26)) w2.heap.size g k S O K rt rk ro ra rq ∧ K8 (w3.alloc (.cells #[.int .i64 (rt + 1), .int .u64 ro, .int .i64 rq] 26)) w2.heap.size g k S O K rt rk ro ra rq) := hide (fun w3 hb3 => by
          have hb3' : Below wr.heap.size wr w3 := (Below.refl wr.heap.size wr).drew.trans hb3
          have L3 := (hb3'.block w2.heap.size (lt_of_heap LSr)).trans LSr
          have KC : K8 w3 w2.heap.size g k S O K rt rk ro ra rq := K0.of (hb3'.block _ (lt_of_heap LSr)) (hb3'.block g (by omega))
          have hs3 := hb3'.size
          exact ⟨hb3', L3, KC, KC.of (Below.heap_alloc _ _ _ (lt_of_heap L3)) (Below.heap_alloc _ _ _ (by omega)), KC.of (Below.heap_alloc _ _ _ (lt_of_heap L3)) (Below.heap_alloc _ _ _ (by omega))⟩)
        have HB : Hid (∀ w3, Below (wr.alloc (.cells #[.int .i64 0, .int .u64 0, .int .i64 0] 26)).drew.heap.size (wr.alloc (.cells #[.int .i64 0, .int .u64 0, .int .i64 0] 26)).drew w3 → Below wr.heap.size wr w3 ∧ w3.heap[wr.heap.size]? = some (.cells #[.int .i64 0, .int .u64 0, .int .i64 0] 26 (0, 0)) ∧ w3.heap[w2.heap.size]? = some (.cells #[.int .i64 S, .int .u64 O, .int .i64 K] 26 (0, 0)) ∧ K8 w3 w2.heap.size g k S O K rt rk ro ra rq ∧ K8 (((w3.setCell ⟨wr.heap.size, 0, none⟩ (.int .i64 (rt + 1))).setCell ⟨wr.heap.size, 1, none⟩ (.int .u64 ro)).setCell ⟨wr.heap.size, 2, none⟩ (.int .i64 rq)) w2.heap.size g k S O K rt rk ro ra rq) := hide (fun w3 hb3 => by
          have hb3' : Below wr.heap.size wr w3 := (below_alloc1 wr (.cells #[.int .i64 0, .int .u64 0, .int .i64 0] 26)).drew.trans (hb3.mono (by simp))
          have L3 := (hb3'.block w2.heap.size (lt_of_heap LSr)).trans LSr
          have KC : K8 w3 w2.heap.size g k S O K rt rk ro ra rq := K0.of (hb3'.block _ (lt_of_heap LSr)) (hb3'.block g (by omega))
          exact ⟨hb3', (hb3.block wr.heap.size (by simp)).trans LB, L3, KC, KC.of (set3_far hsw) (set3_far hgw)⟩)
        clear HP K0
        unfold K8 at KA KB HA HB
        go_region_held3 (fun W' => W'.cell? ⟨w2.heap.size, 0, none⟩ = some (.int .i64 S) ∧ W'.cell? ⟨w2.heap.size, 1, none⟩ = some (.int .u64 O) ∧ W'.cell? ⟨w2.heap.size, 2, none⟩ = some (.int .i64 K) ∧ W'.cell? ⟨g, k * 5, none⟩ = some (.int .i64 rt) ∧ W'.cell? ⟨g, k * 5 + 1, none⟩ = some (.int .i64 rk) ∧ W'.cell? ⟨g, k * 5 + 2, none⟩ = some (.int .u64 ro) ∧ W'.cell? ⟨g, k * 5 + 3, none⟩ = some (.int .u64 ra) ∧ W'.cell? ⟨g, k * 5 + 4, none⟩ = some (.int .i64 rq)) (first | with_reducible exact KA | with_reducible exact KB | with_reducible exact KC | with_reducible exact KD | with_reducible exact KE | with_reducible exact KF | fail) (first
          | (go_at_call 9; with_reducible refine HPA.mono ?_; rintro e w3 ⟨gg, cc, rfl, hgg, hown, hb3⟩; obtain ⟨B3, L3, KC, KD, KE⟩ := HA.out w3 hb3; have HX : Hid _ := hide hown; clear hown)
          | (go_at_call 9; with_reducible refine HPB.mono ?_; rintro e w3 ⟨gg, cc, rfl, hgg, hown, hb3⟩; obtain ⟨B3, LB3, L3, KC, KF⟩ := HB.out w3 hb3; obtain ⟨x0, x1, x2⟩ := z3_cells LB3; have f0 := frz LB3 0; have f1 := frz LB3 1; have f2 := frz LB3 2; have HX : Hid _ := hide hown; clear hown))
        all_goals (go_wp2_with fail; go_meet)
        · exact ⟨gg, cc, w3.heap.size, rfl, rfl, rfl, heap_new _ _, heap_old L3, lt_of_heap L3, B3.size, hgg, own_below HX.out (below_alloc1 _ _), B3.alloc B3.size _⟩
        · have hz : wr.heap.size ≤ (wr.alloc (.cells #[.int .i64 0, .int .u64 0, .int .i64 0] 26)).drew.heap.size := by simp
          have hz1 : (wr.alloc (.cells #[.int .i64 0, .int .u64 0, .int .i64 0] 26)).drew.heap.size = wr.heap.size + 1 := by simp
          have hgne : (Value.slice (some ⟨gg, 0, none⟩) T.length cc).ownBlock ≠ some wr.heap.size := fun e => by have h9 : gg = wr.heap.size := Option.some.inj e; omega
          exact ⟨gg, cc, wr.heap.size, rfl, rfl, rfl, set3_heap LB3, (set3_far hsw).trans L3, by omega, Nat.le_refl _, Nat.le_trans hz hgg, ownsRow_set3 (own_mono HX.out hz) hgne, ((B3.setCell (p := ⟨wr.heap.size, 0, none⟩) (Nat.le_refl _) _).setCell (p := ⟨wr.heap.size, 1, none⟩) (Nat.le_refl _) _).setCell (p := ⟨wr.heap.size, 2, none⟩) (Nat.le_refl _) _⟩
      case rest =>
        obtain ⟨gg, cc, nb, rfl, rfl, rfl, LN, LSn, hnb, hnb2, hgg, hownT, hBn⟩ := hcut
        have hBn1 : Below w1.heap.size w1 wc := hBr.trans (hBn.mono hsr)
        have hsn := hBn.size
        have hlnb := lt_of_heap LN
        have hownr := own_below hownL hBn1
        have hTl := HL.out
        obtain ⟨q0, q1, q2, q3, q4⟩ := r5_of hownr HRK.out
        obtain ⟨X, hX⟩ : ∃ X, X = (wc.alloc (.cells #[.int .i64 (rt + 1), .int .u64 ro, .int .i64 rq] 26)).drew := ⟨_, rfl⟩
        have hbX : Below wc.heap.size wc X := by rw [hX]; exact (below_alloc1 _ _).drew
        have hzX : X.heap.size = wc.heap.size + 1 := by rw [hX]; simp
        have LNX := (hbX.block nb hlnb).trans LN
        have LSX := (hbX.block w2.heap.size (lt_of_heap LSn)).trans LSn
        have LYX : X.heap[wc.heap.size]? = some (.cells #[.int .i64 (rt + 1), .int .u64 ro, .int .i64 rq] 26 (0, 0)) := by rw [hX]; exact heap_new _ _
        have hownX := own_below (own_below HOW.out hBn) hbX
        have hTX := own_row_u8 (own_below hownT hbX) (u8_of_mem HM.out)
        have BX1 : Below w1.heap.size w1 X := hBn1.trans (hbX.mono hBn1.size)
        obtain ⟨n0, n1, n2⟩ := z3_cells LNX
        obtain ⟨m0, m1, m2⟩ := z3_cells LYX
        have hqs : ∀ W' : World, (binOp .neq 26 (.agg #[.int .i64 (rt + 1), .int .u64 ro, .int .i64 rq]) (.agg #[.int .i64 (rt + 1), .int .u64 ro, .int .i64 rq])).run Tryd.prog W' = .ok (.bool false) W' := fun W' => neq_st W' _ _ _
        have HXe : Hid _ := hide hX
        have HRT : Hid (IntKind.i64.wrap (rt + 1) = rt + 1) := hide (by rw [IntKind.wrap_i64]; omega)
        have hro0 := h7.o0
        have hro1 := h7.o1
        have ht2 : ¬ (T.length : Int) < 2 := by omega
        have hq3 := (show wc.drew.cell? ⟨g, k * 5, none⟩ = _ ∧ wc.drew.cell? ⟨g, k * 5 + 2, none⟩ = _ ∧ wc.drew.cell? ⟨g, k * 5 + 4, none⟩ = _ from ⟨q0, q2, q4⟩)
        have hgc : ¬ g = wc.heap.size := by omega
        clear hX hBn HL HP K0 h7
        go_upto_region 8 with fail
        go_region_held3 (fun W' => W'.cell? ⟨g, k * 5, none⟩ = some (.int .i64 rt) ∧ W'.cell? ⟨g, k * 5 + 2, none⟩ = some (.int .u64 ro) ∧ W'.cell? ⟨g, k * 5 + 4, none⟩ = some (.int .i64 rq)) (first | with_reducible exact hq3 | exact ⟨q0, q2, q4⟩ | go_keep) (fail)
        rw [HRT.out, ← HXe.out]
        go_wp2_with (first
          | (at_builtin; refine row_lies X rfl (.tmp 86) (.tmp 87) rfl w1.heap.size (.slice ab bl.length cb) bl.length bl rfl hownX _ _ _ T rfl hTX (by omega) (by omega) BX1.size ?_; intro g9 c9 w9 hown9 hg9 hl9; have LN9 : w9.heap[nb]? = some (.cells #[.int .i64 (rt + 1), .int .u64 ro, .int .i64 rq] 26 (0, 0)) := (hg9.block nb (lt_of_heap LNX) (fun e => by have h9 := (HOW.out.lt nb e.symm).2; omega)).trans LNX; have LS9 : w9.heap[w2.heap.size]? = some (.cells #[.int .i64 S, .int .u64 O, .int .i64 K] 26 (0, 0)) := (hg9.block w2.heap.size (lt_of_heap LSX) (fun e => hnbb e.symm)).trans LSX; obtain ⟨n90, n91, n92⟩ := z3_cells LN9)
          | (refine wpList_store_row rfl 26 (.tmp 15) (.tmp 89) rfl w2.heap.size #[.int .i64 (rt + 1), .int .u64 ro, .int .i64 rq] rfl rfl 26 #[.int .i64 S, .int .u64 O, .int .i64 K] LS9 Tryd.sizeS rfl (st_one _ _ _) ?_))
        have B9 : Below w1.heap.size w1 w9 := BX1.grown hg9 BX1.size (fun j hj => (hownX.lt j hj).1)
        have hn9 : (Value.slice (some ⟨g9, 0, none⟩) (bl.length + T.length) c9).ownBlock ≠ some w2.heap.size := by
          intro e
          have h9 : g9 = w2.heap.size := Option.some.inj e
          rcases hl9 with h | h
          · exact hnbb (by rw [h, h9])
          · have := lt_of_heap LSX; omega
        refine ⟨⟨k + 1, rt + 1, ro, rq, some ⟨g9, 0, none⟩, c9, bl ++ T, by go_num, by omega, by rw [List.length_append], ?_, by rw [List.length_append]; exact hn9, setRow_heap _ _ _ _ _ _ LS9, below_setRow B9 (by omega) _, H8.out, by omega, h5, h6, hro0, hro1, hcE.out, hcF.out⟩, by simp [intOf]; omega⟩
        rw [List.length_append]
        exact own_setRow hown9 hn9 _
    · have hkl : k = L.length := by omega
      have hbE2 : bl = E := by rw [← hbE, hkl, List.drop_length]; simp [encs]
      have hfE2 : (⟨S, O, K⟩ : St) = FS := by rw [← hfE, hkl, List.drop_length]; rfl
      have HFS2 : Hid _ := hide hfE2
      subst hbE2
      have hS1 : S ≤ 1048576 := by
        have h := hU
        rw [hkl, List.drop_length] at h
        have h' : S = B := h
        omega
      have htR := ((hrt.below hb).below hb1).below hBr
      have LWr := (hBr.block w.heap.size (by omega)).trans LW1
      have hKr := hKw1.below hBr (by omega)
      have hbu := HEu.out
      have HOW : Hid _ := hide hownb
      clear hU hkl hbE hfE hownb HEu HEl
      go_wp2_with (at_builtin; refine append_row wr rfl (.tmp 92) (.tmp 93) rfl w1.heap.size (.slice ab bl.length cb) bl.length bl rfl HOW.out _ _ _ zt rfl htR h0t (by omega) hsr ?_; intro v6 w6 hown6 hg6; obtain ⟨a6, c6, rfl⟩ := own_form hown6)
      have hmz : ∀ z ∈ bl ++ zt, 0 ≤ z ∧ z ≤ 255 := by
        intro z hz
        rcases List.mem_append.1 hz with h | h
        · exact hbu z h
        · exact mem_of_u8 hrt.u8 z h
      have hr6 := own_row_u8 hown6 (u8_of_mem hmz)
      have B6 : Below w1.heap.size w1 w6 := hBr.grown hg6 hBr.size (fun j hj => (HOW.out.lt j hj).1)
      have LS6 : w6.heap[w2.heap.size]? = some (.cells #[.int .i64 S, .int .u64 O, .int .i64 K] 26 (0, 0)) := (hg6.block w2.heap.size hltS (fun e => hnbb e.symm)).trans LSr
      have hs6 := B6.size
      have hL6 := own_below hownL B6
      have hK6 := hKw1.below B6 (by omega)
      have LW6 := (B6.block w.heap.size (by omega)).trans LW1
      have hrr6 := ((hrr.below hb).below hb1).below B6
      have hl6 := lt_of_heap LS6
      obtain ⟨w7, hw7⟩ : ∃ w7, w7 = w6.alloc (.cells #[.int .i64 0, .int .u64 0, .int .i64 0] 26) := ⟨_, rfl⟩
      have hb7 : Below w6.heap.size w6 w7 := by rw [hw7]; exact below_alloc1 _ _
      have LB7 : w7.heap[w6.heap.size]? = some (.cells #[.int .i64 0, .int .u64 0, .int .i64 0] 26 (0, 0)) := by rw [hw7]; exact heap_new _ _
      rw [← hw7]
      have hK0' : K ≤ 262144 := hKk
      clear hw7 hown6 hg6 htR hmz hbu LSr hBr hnbb hltS hsr hKr LWr
      go_loopw [23, 24] (fun sp si wx => ∃ (k : Nat) (S' O' K' : Int) (pre : List Int), si = .int .i64 k ∧ k ≤ L.length ∧ sp = .int .i64 pre.length ∧ wx.heap[w6.heap.size]? = some (.cells #[.int .i64 S', .int .u64 O', .int .i64 K'] 26 (0, 0)) ∧ Below w6.heap.size w6 wx ∧ Ups S' (L.drop k) B ∧ 0 ≤ S' ∧ 0 ≤ K' ∧ K' ≤ 262144 ∧ 0 ≤ O' ∧ O' ≤ 18446744073709551615 ∧ pre ++ encs ⟨S', O', K'⟩ (L.drop k) = bl ∧ fin ⟨S', O', K'⟩ (L.drop k) = FS)
        (fun _ si _ => L.length - (intOf si).toNat)
      case atStart => exact ⟨0, 0, 0, 0, za, rfl, Nat.zero_le _, by rw [hzal], LB7, hb7, HUU.out, by omega, by omega, by omega, by omega, by omega, HE.out.symm, HFS.out.symm⟩
      case round =>
        obtain ⟨k', S', O', K', pre, rfl, hk', rfl, LBr, hBx, hU', hS0', hK0'', hKk', hO0', hO1', hpE, hpF⟩ := hrel
        rename World => wx
        clear LB7 hb7
        have hsx := hBx.size
        have hltB := lt_of_heap LBr
        by_cases hlt' : k' < L.length
        · have hltI' : (k' : Int) < (L.length : Int) := by omega
          obtain ⟨g, cg, e, hg0, hg1⟩ := own_rowR hownL (by omega)
          cases e
          have hrk : L[k']? = some L[k'] := List.getElem?_eq_getElem hlt'
          obtain ⟨⟨rt, rk, ro, ra, rq⟩, hrr'⟩ : ∃ r, r = L[k'] := ⟨_, rfl⟩
          rw [← hrr'] at hrk
          have hat := hU'.at hrk
          dsimp only at hat
          obtain ⟨⟨h1, h2, h3, h4, h5, h6⟩, h7, h8⟩ := hat
          have hpe : putE ⟨S', O', K'⟩ ⟨rt, rk, ro, ra, rq⟩ = 0 := putE_of (by dsimp only; omega)
          have hTl := text_len hpe h7
          have hzs : bl ++ zt = pre ++ (text ⟨S', O', K'⟩ ⟨rt, rk, ro, ra, rq⟩ ++ (encs ⟨rt + 1, ro, rq⟩ (L.drop (k' + 1)) ++ zt)) := by
            rw [← hpE, encs_cons hrk]
            show pre ++ (_ ++ encs ⟨rt + 1, ro, rq⟩ _) ++ zt = _
            simp
          have hcE : Hid (pre ++ text ⟨S', O', K'⟩ ⟨rt, rk, ro, ra, rq⟩ ++ encs ⟨rt + 1, ro, rq⟩ (L.drop (k' + 1)) = bl) := hide (by rw [← hpE, encs_cons hrk, List.append_assoc]; rfl)
          have hcF : Hid (fin ⟨rt + 1, ro, rq⟩ (L.drop (k' + 1)) = FS) := hide (by rw [← hpF, fin_cons hrk]; rfl)
          have HG := get_any S' O' K' (pre.length : Nat) a6 (bl.length + nt) c6 (bl ++ zt) wx (hK6.below hBx (by omega)) (by omega) (hr6.below hBx) (by omega) hO0' hO1'
          rw [getG_text hpe h7 hzs, gV_ok] at HG
          simp only [gOk] at HG
          generalize text ⟨S', O', K'⟩ ⟨rt, rk, ro, ra, rq⟩ = T at HG hTl hcE
          have hql := own_below hL6 hBx
          have HQ8 : Hid _ := hide (fun Y (hY : Below wx.heap.size wx Y) => r5_of (own_below hql hY) hrk)
          obtain ⟨z0, z1, z2⟩ := z3_cells LBr
          have H8 : Hid _ := hide h8
          have hro0 := h7.o0
          have hro1 := h7.o1
          clear hrr' hrk hU' h8 hzs hpE hpF h7 hql
          go_wp2_with fail
          refine HG.mono ?_
          rintro e w8 ⟨rfl, hb8⟩
          have hs8 := hb8.size
          obtain ⟨X8, hX8⟩ : ∃ X8, X8 = ((w8.alloc (.cells #[.int .i64 rt, .int .i64 rk, .int .u64 ro, .int .u64 ra, .int .i64 rq] 32)).alloc (.cells #[.int .i64 (rt + 1), .int .u64 ro, .int .i64 rq] 26)) := ⟨_, rfl⟩
          have hbX8 : Below w8.heap.size w8 X8 := by rw [hX8]; exact below_alloc2 _ _ _
          have LR8 : X8.heap[w8.heap.size]? = some (.cells #[.int .i64 rt, .int .i64 rk, .int .u64 ro, .int .u64 ra, .int .i64 rq] 32 (0, 0)) := by rw [hX8]; exact heap_old (heap_new _ _)
          have LS8 : X8.heap[w8.heap.size + 1]? = some (.cells #[.int .i64 (rt + 1), .int .u64 ro, .int .i64 rq] 26 (0, 0)) := by
            rw [hX8, show w8.heap.size + 1 = (w8.alloc (.cells #[.int .i64 rt, .int .i64 rk, .int .u64 ro, .int .u64 ra, .int .i64 rq] 32)).heap.size from by simp]
            exact heap_new _ _
          have hbX : Below wx.heap.size wx X8 := hb8.trans (hbX8.mono hs8)
          have LBX := (hbX.block w6.heap.size hltB).trans LBr
          obtain ⟨c0, c1, c2', c3, c4⟩ := r5_cells LR8
          obtain ⟨d0, d1, d2⟩ := z3_cells LS8
          obtain ⟨e0, e1, e2, e3, e4⟩ := HQ8.out X8 hbX
          have hqn : ∀ W' : World, (binOp .neq 32 (.agg #[.int .i64 rt, .int .i64 rk, .int .u64 ro, .int .u64 ra, .int .i64 rq]) (.agg #[.int .i64 rt, .int .i64 rk, .int .u64 ro, .int .u64 ra, .int .i64 rq])).run Tryd.prog W' = .ok (.bool false) W' := fun W' => neq_rc W' _ _ _ _ _
          obtain ⟨P2, hP2⟩ : ∃ P2 : Nat, P2 = (pre ++ T).length := ⟨_, rfl⟩
          have hPl : pre.length < P2 := by rw [hP2, List.length_append]; omega
          have hle : decide ((P2 : Int) ≤ (pre.length : Int)) = false := by simp; omega
          have hltk : (k' : Int) < (L.length : Int) := by omega
          have HP2 : Hid _ := hide hP2
          have HX8 : Hid _ := hide hX8
          rw [← hP2]
          clear hX8 hP2 HG z0 z1 z2 hb8
          go_upto_region 21 with fail
          rw [← HX8.out]
          go_quiet (fail)
          go_wp2_with (refine wpList_store_row rfl 26 (.tmp 22) (.tmp 128) rfl w6.heap.size #[.int .i64 (rt + 1), .int .u64 ro, .int .i64 rq] rfl rfl 26 #[.int .i64 S', .int .u64 O', .int .i64 K'] LBX Tryd.sizeS rfl (st_one _ _ _) ?_)
          exact ⟨⟨k' + 1, rt + 1, ro, rq, pre ++ T, by go_num, by omega, by rw [HP2.out], by exact setRow_heap _ _ _ _ _ _ LBX, below_setRow (below_drewN (hBx.trans (hbX.mono hBx.size)) _) (Nat.le_refl _) _, H8.out, by omega, h5, h6, hro0, hro1, hcE.out, hcF.out⟩, by simp [intOf]; omega⟩
        · have hkl' : k' = L.length := by omega
          have hpE2 : pre = bl := by rw [← hpE, hkl', List.drop_length]; simp [encs]
          have hpF2 : (⟨S', O', K'⟩ : St) = ⟨S, O, K⟩ := by rw [HFS2.out, ← hpF, hkl', List.drop_length]; rfl
          cases hpF2
          subst hpE2
          have LSx := (hBx.block w2.heap.size hl6).trans LS6
          have LWx := (hBx.block w.heap.size (by omega)).trans LW6
          have hKx := hK6.below hBx (by omega)
          have hrrx := hrr6.below hBx
          have hqn : ∀ W' : World, (binOp .neq 26 (.agg #[.int .i64 S, .int .u64 O, .int .i64 K]) (.agg #[.int .i64 S, .int .u64 O, .int .i64 K])).run Tryd.prog W' = .ok (.bool false) W' := fun W' => neq_st W' _ _ _
          obtain ⟨z0, z1, z2⟩ := z3_cells LBr
          obtain ⟨y0, y1, y2⟩ := z3_cells LSx
          have h22 : putE ⟨0, 0, 0⟩ ⟨0, 22, 0, 0, 0⟩ = 0 := putE_of (by decide)
          have HP := put_n 0 0 0 0 22 0 0 0 wx hKx (by omega) h22 ⟨by decide, by decide, by decide, by decide⟩
          rw [text_22] at HP
          have BWx : Below w.heap.size w wx := (hb.trans (hb1.mono hb.size)).trans ((B6.mono (by omega)).trans (hBx.mono (by omega)))
          clear hU' hpE hpF hkl' hr6 hL6 hK6 LBr LSx LS6 hrr6 LW6 HOW
          go_wp2_with fail
          refine HP.mono ?_
          rintro e w9 ⟨g9, c9, rfl, hg9, hown9, hb9⟩
          have hs9 := hb9.size
          obtain ⟨w11, hw11⟩ : ∃ w11, w11 = (w9.alloc (.cells #[.int .i64 1, .int .u64 0, .int .i64 0] 26)).alloc (.cells #[.int .u8 22, .int .u8 0] 5) := ⟨_, rfl⟩
          have hb11 : Below w9.heap.size w9 w11 := by rw [hw11]; exact below_alloc2 _ _ _
          have LL11 : w11.heap[w9.heap.size + 1]? = some (.cells #[.int .u8 22, .int .u8 0] 5 (0, 0)) := by
            rw [hw11, show w9.heap.size + 1 = (w9.alloc (.cells #[.int .i64 1, .int .u64 0, .int .i64 0] 26)).heap.size from by simp]
            exact heap_new _ _
          have hr9 := (own_row_u8 hown9 (u8_of_mem (by intro z hz; simp at hz; rcases hz with rfl | rfl <;> decide))).below hb11
          have hsm := same_any (some ⟨g9, 0, none⟩) (some ⟨w9.heap.size + 1, 0, none⟩) 2 c9 2 2 [22, 0] [22, 0] w11 hr9 (row_lit2 LL11 (by decide) (by decide) (by decide) (by decide)) (by decide)
          simp only [decide_true] at hsm
          have Hw11 : Hid _ := hide hw11
          have hbx11 : Below wx.heap.size wx w11 := hb9.trans (hb11.mono hs9)
          clear hw11 HP z0 z1 z2 y0 y1 y2 hown9
          go_wp2_with fail
          rw [← Hw11.out]
          refine hsm.mono ?_
          rintro e w12 ⟨rfl, m, hw12⟩
          have hbx12 : Below wx.heap.size wx w12 := by rw [hw12]; exact below_drewN hbx11 m
          have hs12 := hbx12.size
          have LW12 := (hbx12.block w.heap.size (by omega)).trans LWx
          have hK12 := hKx.below hbx12 (by omega)
          have hrr12 := hrrx.below hbx12
          have BW12 : Below w.heap.size w w12 := BWx.trans (hbx12.mono (by omega))
          obtain ⟨x0, x1, x2⟩ := z3_cells LW12
          clear hw12 hsm Hw11 hbx11 hb11 LL11 hr9 hb9
          have HG := get_any sS sO sK t ar nr cr zr w12 hK12 (by omega) hrr12 (by omega) hsO0 hsO1
          have HZ := getG_zero ⟨sS, sO, sK⟩ zr t
          have HI := fun r p (h : getG ⟨sS, sO, sK⟩ zr t = (r, p, 0)) => getG_inv h ⟨hsO0, hsO1⟩ hrr.u8
          simp only [gV] at HG
          have HST : stOf (getG ⟨sS, sO, sK⟩ zr t) = if (getG ⟨sS, sO, sK⟩ zr t).2.2 = 0 then behindS (getG ⟨sS, sO, sK⟩ zr t).1 else St.zero := rfl
          generalize stOf (getG ⟨sS, sO, sK⟩ zr t) = st at HG HST
          generalize getG ⟨sS, sO, sK⟩ zr t = R at HG HZ HI HST
          obtain ⟨⟨qt, qk, qo, qa, qq⟩, p, f⟩ := R
          obtain ⟨u1', u2', u3'⟩ := st
          dsimp only at HG HZ HST
          go_wp2_with fail
          refine HG.mono ?_
          rintro e w13 ⟨rfl, hb13⟩
          have hs13 := hb13.size
          have B13 : Below w.heap.size w w13 := BW12.trans (hb13.mono (by omega))
          clear HG x0 x1 x2
          by_cases hf : f = 0
          · subst hf
            have HST' : (⟨u1', u2', u3'⟩ : St) = ⟨qt + 1, qo, qq⟩ := by rw [HST, if_pos rfl]; rfl
            cases HST'
            obtain ⟨tn, q, rfl, rfl, htq, hql, hpe, hrok, hsl⟩ := HI ⟨qt, qk, qo, qa, qq⟩ p rfl
            have hzl := hrr.len
            have hpo := putE_ok hpe
            dsimp only at hpo
            obtain ⟨b, off, hbo, _⟩ := hrr.cells.resolve_left (by omega)
            subst hbo
            have hTl := text_len hpe hrok
            have hTm := text_mem hpe
            obtain ⟨X14, hX14⟩ : ∃ X14, X14 = (w13.alloc (.cells #[.int .i64 qt, .int .i64 qk, .int .u64 qo, .int .u64 qa, .int .i64 qq] 32)).alloc (.cells #[.int .i64 (qt + 1), .int .u64 qo, .int .i64 qq] 26) := ⟨_, rfl⟩
            have hb14 : Below w13.heap.size w13 X14 := by rw [hX14]; exact below_alloc2 _ _ _
            have hz14 : X14.heap.size = w13.heap.size + 2 := by rw [hX14]; simp
            have hb1214 : Below w12.heap.size w12 X14 := hb13.trans (hb14.mono hs13)
            have LW14 := (hb1214.block w.heap.size (by omega)).trans LW12
            have LR14 : X14.heap[w13.heap.size]? = some (.cells #[.int .i64 qt, .int .i64 qk, .int .u64 qo, .int .u64 qa, .int .i64 qq] 32 (0, 0)) := by rw [hX14]; exact heap_old (heap_new _ _)
            have LS14 : X14.heap[w13.heap.size + 1]? = some (.cells #[.int .i64 (qt + 1), .int .u64 qo, .int .i64 qq] 26 (0, 0)) := by
              rw [hX14, show w13.heap.size + 1 = (w13.alloc (.cells #[.int .i64 qt, .int .i64 qk, .int .u64 qo, .int .u64 qa, .int .i64 qq] 32)).heap.size from by simp]
              exact heap_new _ _
            have HP := put_n sS sO sK qt qk qo qa qq X14 (hK12.below hb1214 (by omega)) (by omega) hpe hrok
            have hrr14 := hrr12.below hb1214
            have B14 : Below w.heap.size w X14 := BW12.trans (hb1214.mono (by omega))
            obtain ⟨x0, x1, x2⟩ := z3_cells LW14
            obtain ⟨r0, r1, r2, r3, r4⟩ := r5_cells LR14
            rw [hX14] at x0 x1 x2 r0 r1 r2 r3 r4
            have HX14 : Hid _ := hide hX14
            clear hX14 HZ HI HST hb13
            generalize text ⟨sS, sO, sK⟩ ⟨qt, qk, qo, qa, qq⟩ = T at HP hTl hTm hsl
            go_wp2_with fail
            rw [← HX14.out]
            refine HP.mono ?_
            rintro e w15 ⟨g15, c15, rfl, hg15, hown15, hb15⟩
            have hs15 := hb15.size
            obtain ⟨X16, hX16⟩ : ∃ X16, X16 = w15.alloc (.cells #[.int .i64 (qt + 1), .int .u64 qo, .int .i64 qq] 26) := ⟨_, rfl⟩
            have hb16 : Below w15.heap.size w15 X16 := by rw [hX16]; exact below_alloc1 _ _
            have hb1416 : Below X14.heap.size X14 X16 := hb15.trans (hb16.mono hs15)
            have LS16 := (hb1416.block (w13.heap.size + 1) (by omega)).trans LS14
            have LN16 : X16.heap[w15.heap.size]? = some (.cells #[.int .i64 (qt + 1), .int .u64 qo, .int .i64 qq] 26 (0, 0)) := by rw [hX16]; exact heap_new _ _
            have hT16 := (own_row_u8 hown15 (u8_of_mem hTm)).below hb16
            have hrr16 := hrr14.below hb1416
            have hTs : T.length = q - tn := by rw [← hsl]; unfold sl; simp; omega
            have hsub := row_sub hrr16 (show tn ≤ q by omega) (show q ≤ nr by omega)
            rw [hsl] at hsub
            have hsm := same_any (some ⟨g15, 0, none⟩) (some ⟨b, off + tn, none⟩) T.length c15 (q - tn) (cr - tn) T T X16 hT16 hsub (by omega)
            simp only [decide_true] at hsm
            rw [hTs] at hsm
            obtain ⟨m0, m1, m2⟩ := z3_cells LS16
            obtain ⟨n0, n1, n2⟩ := z3_cells LN16
            rw [hX16] at m0 m1 m2 n0 n1 n2
            have hqs : ∀ W' : World, (binOp .eql 26 (.agg #[.int .i64 (qt + 1), .int .u64 qo, .int .i64 qq]) (.agg #[.int .i64 (qt + 1), .int .u64 qo, .int .i64 qq])).run Tryd.prog W' = .ok (.bool true) W' := fun W' => by rw [eql_st]; simp
            have hA : 0 ≤ (tn : Int) := by omega
            have hB : (tn : Int) ≤ (q : Int) := by omega
            have hD : (q : Int) ≤ (cr : Int) := by omega
            have hC : ¬ cr = tn := by omega
            have hg1' : decide ((tn : Int) < (q : Int)) = true := by simp; omega
            have hg2' : decide ((q : Int) ≤ (nr : Int)) = true := by simp; omega
            have HX16 : Hid _ := hide hX16
            have B16 : Below w.heap.size w X16 := B14.trans (hb1416.mono (by omega))
            clear hX16 HP x0 x1 x2 r0 r1 r2 r3 r4 hown15 hsl hsub hT16 hb15 hb16 hrr hrr12 hrr14 hrr16
            go_wp2_with fail
            rw [← HX16.out]
            refine hsm.mono ?_
            rintro e w17 ⟨rfl, mm, rfl⟩
            go_wp2
            go_ret
            exact ⟨rfl, below_drewN B16 mm⟩
          · obtain ⟨hz1, hz2⟩ := HZ hf
            cases hz1
            subst hz2
            have HST' : (⟨u1', u2', u3'⟩ : St) = St.zero := by rw [HST, if_neg hf]
            cases HST'
            have hfb : (f != 0) = true := by simp [hf]
            have hqS : ∀ W' : World, (binOp .eql 26 (.agg #[.int .i64 0, .int .u64 0, .int .i64 0]) (.agg #[.int .i64 0, .int .u64 0, .int .i64 0])).run Tryd.prog W' = .ok (.bool true) W' := fun W' => by rw [eql_st]; simp
            have hqR : ∀ W' : World, (binOp .eql 32 (.agg #[.int .i64 0, .int .i64 0, .int .u64 0, .int .u64 0, .int .i64 0]) (.agg #[.int .i64 0, .int .i64 0, .int .u64 0, .int .u64 0, .int .i64 0])).run Tryd.prog W' = .ok (.bool true) W' := fun W' => by rw [eql_rc]; simp
            clear HI HZ HST hf
            go_wp2_with fail
            go_ret
            exact ⟨rfl, (B13.alloc (by omega) _).alloc (by simp; omega) _⟩
end Go.Proofs.YtgecdnmgifcghaaDoor
