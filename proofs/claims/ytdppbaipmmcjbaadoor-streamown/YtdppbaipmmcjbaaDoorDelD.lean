/-
  The document's Put, where all is well.
-/
import Derived.Test.YtdppbaipmmcjbaaDoorDelC
namespace Go.Proofs.YtdppbaipmmcjbaaDoor
open Go.RowKit
theorem own_pr {W w' : World} {L : List Int} {v : Value} (h : w'.ownsRow W.heap.size 5 1 v L.length (L.map (Value.int .u8))) (hn : 0 < L.length) (hB : Below W.heap.size W w') : PR W L v w' := by
  obtain ⟨g, c, rfl, h1, _⟩ := own_some h hn
  exact ⟨g, c, L.length, rfl, rfl, h1, h, hB⟩
theorem pr_on {W : World} {n m g c : Nat} {l z : List Int} {w2 : World} (hl : l.length = n) (hm : z.length = m) (hg : W.heap.size ≤ g) (ho : w2.ownsRow W.heap.size 5 1 (.slice (some ⟨g, 0, none⟩) (n + m) c) (n + m) ((l ++ z).map (Value.int .u8))) (hB : Below W.heap.size W w2) : PR W (l ++ z) (.slice (some ⟨g, 0, none⟩) (n + m) c) w2 :=
  ⟨g, c, n + m, rfl, by rw [← hl, ← hm]; simp, hg, ho, hB⟩
set_option maxHeartbeats 1600000 in
set_option maxRecDepth 20000 in
theorem rput_ok (S O K t k o a q : Int) (w : World) (h : putE ⟨S, O, K⟩ ⟨t, k, o, a, q⟩ = 0) (ha0 : 0 ≤ a) (ha1 : a ≤ 18446744073709551615) :
    Calls Tryd.prog 50 #[.agg #[.int .i64 S, .int .u64 O, .int .i64 K], .agg #[.int .i64 t, .int .i64 k, .int .u64 o, .int .u64 a, .int .i64 q]] w fun e w' =>
      ∃ v n, e = .returned (.tuple #[v, .agg #[.int .i64 (t + 1), .int .u64 o, .int .i64 q], .int .i64 0]) ∧ n = (text ⟨S, O, K⟩ ⟨t, k, o, a, q⟩).length ∧ w'.ownsRow w.heap.size 5 1 v n ((text ⟨S, O, K⟩ ⟨t, k, o, a, q⟩).map (Value.int .u8)) ∧ Below w.heap.size w w' := by
  have hp := putE_ok h
  have hm : mayS S K = true := by
    cases hm : mayS S K
    · exact absurd (putE_state (s := ⟨S, O, K⟩) (r := ⟨t, k, o, a, q⟩) hm) (by rw [h]; decide)
    · rfl
  have HS := rst_any S O K
  rw [hm] at HS
  have hfb := first_bd h
  dsimp only at hp hfb
  obtain ⟨p1, p2, p3, p4, p5, p6, p7, p8, p9⟩ := hp
  obtain ⟨W, hW⟩ : ∃ W, W = (((w.alloc (.cells #[.int .i64 S, .int .u64 O, .int .i64 K] 69)).alloc (.cells #[.int .i64 t, .int .i64 k, .int .u64 o, .int .u64 a, .int .i64 q] 48)).alloc (.cells #[.int .i64 0, .int .u64 0, .int .i64 0] 69)).alloc (.cells #[.int .i64 0, .int .u64 0, .int .i64 0] 69) := ⟨_, rfl⟩
  have hb : Below w.heap.size w W := by rw [hW]; exact ((below_alloc2 _ _ _).alloc (by simp; omega) _).alloc (by simp; omega) _
  have hsz : W.heap.size = w.heap.size + 4 := by rw [hW]; simp
  have s0 : W.cell? ⟨w.heap.size, 0, none⟩ = some (.int .i64 S) := by rw [hW]; go_simp
  have s1 : W.cell? ⟨w.heap.size, 1, none⟩ = some (.int .u64 O) := by rw [hW]; go_simp
  have s2 : W.cell? ⟨w.heap.size, 2, none⟩ = some (.int .i64 K) := by rw [hW]; go_simp
  have t0 : W.cell? ⟨w.heap.size + 1, 0, none⟩ = some (.int .i64 t) := by rw [hW]; go_simp
  have t1 : W.cell? ⟨w.heap.size + 1, 1, none⟩ = some (.int .i64 k) := by rw [hW]; go_simp
  have t2 : W.cell? ⟨w.heap.size + 1, 2, none⟩ = some (.int .u64 o) := by rw [hW]; go_simp
  have t3 : W.cell? ⟨w.heap.size + 1, 3, none⟩ = some (.int .u64 a) := by rw [hW]; go_simp
  have t4 : W.cell? ⟨w.heap.size + 1, 4, none⟩ = some (.int .i64 q) := by rw [hW]; go_simp
  have LZ : W.heap[w.heap.size + 2]? = some (.cells #[.int .i64 0, .int .u64 0, .int .i64 0] 69 (0, 0)) := by
    rw [hW, Below.heap_alloc _ _ _ (by simp), show w.heap.size + 2 = ((w.alloc (.cells #[.int .i64 S, .int .u64 O, .int .i64 K] 69)).alloc (.cells #[.int .i64 t, .int .i64 k, .int .u64 o, .int .u64 a, .int .i64 q] 48)).heap.size from by simp]
    exact heap_new _ _
  have HX : Hid (text ⟨S, O, K⟩ ⟨t, k, o, a, q⟩ = (k + fO ⟨S, O, K⟩ ⟨t, k, o, a, q⟩ + fA ⟨t, k, o, a, q⟩ + fK ⟨S, O, K⟩ ⟨t, k, o, a, q⟩) :: (enc (t - S).toNat ++ xO ⟨S, O, K⟩ ⟨t, k, o, a, q⟩ ++ xA ⟨t, k, o, a, q⟩ ++ xK ⟨S, O, K⟩ ⟨t, k, o, a, q⟩)) := hide rfl
  have HU : Hid (∀ z ∈ enc (t - S).toNat ++ xO ⟨S, O, K⟩ ⟨t, k, o, a, q⟩ ++ xA ⟨t, k, o, a, q⟩ ++ xK ⟨S, O, K⟩ ⟨t, k, o, a, q⟩, 0 ≤ z ∧ z ≤ 255) := hide (fun z hz => text_mem h z (List.mem_cons_of_mem _ hz))
  have FO : Hid _ := hide (fx_O ⟨S, O, K⟩ ⟨t, k, o, a, q⟩)
  have FA : Hid _ := hide (fx_A ⟨t, k, o, a, q⟩)
  have FK : Hid _ := hide (fx_K ⟨S, O, K⟩ ⟨t, k, o, a, q⟩)
  dsimp only at FO FA FK
  generalize fO ⟨S, O, K⟩ ⟨t, k, o, a, q⟩ = f1 at HX FO hfb
  generalize fA ⟨t, k, o, a, q⟩ = f2 at HX FA hfb
  generalize fK ⟨S, O, K⟩ ⟨t, k, o, a, q⟩ = f3 at HX FK hfb
  generalize xO ⟨S, O, K⟩ ⟨t, k, o, a, q⟩ = x1 at HX FO HU
  generalize xA ⟨t, k, o, a, q⟩ = x2 at HX FA HU
  generalize xK ⟨S, O, K⟩ ⟨t, k, o, a, q⟩ = x3 at HX FK HU
  generalize text ⟨S, O, K⟩ ⟨t, k, o, a, q⟩ = T at HX ⊢
  have HDf := diff_bd O o
  have HZk := zig_stk p8 p9 p4 p5
  have HE0 := xS_len h
  have HEp := enc_pos (t - S).toNat
  dsimp only at HE0
  have HE1 : Hid _ := hide (And.intro HE0 HEp)
  clear h HE0 HEp
  have HX1 : Hid (x1.length ≤ 10 ∧ (f1 = 0 ∨ f1 = 32)) := by
    rcases FO.out with ⟨_, h1, h2⟩ | ⟨_, h1, h2⟩
    · rw [h1, h2]; exact hide ⟨by simp, .inl rfl⟩
    · rw [h1, h2]; exact hide ⟨enc_le _ (by omega), .inr rfl⟩
  have HX2 : Hid (x2.length ≤ 10 ∧ (f2 = 0 ∨ f2 = 64)) := by
    rcases FA.out with ⟨_, h1, h2⟩ | ⟨_, h1, h2⟩
    · rw [h1, h2]; exact hide ⟨by simp, .inl rfl⟩
    · rw [h1, h2]; exact hide ⟨enc_le _ (by omega), .inr rfl⟩
  have HX3 : Hid (x3.length ≤ 10) := by
    rcases FK.out with ⟨_, h1, h2⟩ | ⟨_, h1, h2⟩
    · rw [h2]; exact hide (by simp)
    · rw [h2]; exact hide (enc_le _ (by omega))
  go_enter Tryd.func50, Tryd.ntmps50
  go_wp2_with fail
  rw [← hW]
  refine (HS _).mono ?_
  rintro e w1 ⟨rfl, hb1⟩
  clear hW HS hm
  have y0 := (hb1.cell (p := ⟨w.heap.size, 0, none⟩) (by simp; omega)).trans s0
  have z0 := (hb1.cell (p := ⟨w.heap.size + 1, 0, none⟩) (by simp; omega)).trans t0
  have z1 := (hb1.cell (p := ⟨w.heap.size + 1, 1, none⟩) (by simp; omega)).trans t1
  have z4 := (hb1.cell (p := ⟨w.heap.size + 1, 4, none⟩) (by simp; omega)).trans t4
  go_wp2_with fail
  refine (ruv_any (t - S) w1 (by omega) (by omega)).mono ?_
  rintro e w2 ⟨v2, rfl, hown2, hb2⟩
  have hP := own_pr (W := W) (own_mono hown2 hb1.size) HE1.out.2 (hb1.trans (hb2.mono hb1.size))
  generalize hE0 : enc (t - S).toNat = E0 at HX HE1 HU hP
  obtain ⟨g1, c1, n1, rfl, hn1, hg1, hown1, B1⟩ := hP
  have HN1 : Hid _ := hide hn1
  clear hn1 hE0 y0 z0 z1 z4 hb2 hown2 hb1
  have e1_0 := (B1.cell (p := ⟨w.heap.size + 1, 2, none⟩) (by simp; omega)).trans t2
  have e1_1 := (B1.cell (p := ⟨w.heap.size, 1, none⟩) (by simp; omega)).trans s1
  go_upto_if 58 with fail
  go_cut [8, 9] (fun sf sb wx => sf = .int .i64 (k + f1) ∧ PR W (E0 ++ x1) sb wx)
  case first =>
    rcases FO.out with ⟨hq, hf, hx⟩ | ⟨hq, hf, hx⟩
    · have hqb : (o != O) = false := by simp [hq]
      have P : Hid _ := hide (pr_same (L' := E0 ++ x1) (b := .slice (some ⟨g1, 0, none⟩) n1 c1) ⟨g1, c1, n1, rfl, HN1.out, hg1, hown1, B1⟩ (by rw [hx]; simp))
      have Hf := hide hf
      clear hf hx
      go_wp2_with fail
      go_meet
      exact ⟨by rw [Hf.out]; simp, P.out⟩
    · have hqb : (o != O) = true := by simp [hq]
      have Hf := hide hf
      have Hx := hide hx
      have hn1 : n1 ≤ 1000 := by rw [HN1.out]; have h1 := HE1.out; omega
      clear hf hx
      go_wp2_with fail
      refine (rdiff_any O o w2).mono ?_
      rintro e w9 ⟨rfl, rfl⟩
      go_wp2_with fail
      refine (ruv_any _ _ HDf.1 HDf.2).mono ?_
      rintro e w3 ⟨vv, rfl, hownv, hbv⟩
      obtain ⟨gv, cv, rfl, hgv, _⟩ := own_some hownv (enc_pos _)
      go_wp2_with (at_builtin; refine row_lies w3 rfl (.tmp 66) (.tmp 68) rfl W.heap.size _ n1 (E0) rfl (own_below hown1 hbv) _ _ _ (enc (diff O o).toNat) rfl (own_row_u8 hownv (uv_u8 _)) (enc_pos _) (by have := enc_le (diff O o).toNat (by omega); omega) (by have := B1.size; have := hbv.size; omega) ?_; intro g4 c4 w4 hown4 hg4 hl4)
      go_meet
      rw [Hf.out, Hx.out]
      have Bv := B1.trans (hbv.mono B1.size)
      exact ⟨rfl, pr_on HN1.out.symm rfl (lies_ge hl4 rfl hg1 Bv.size) hown4 (grown_below Bv hg4 rfl hg1)⟩
  case rest =>
  obtain ⟨rfl, g2, c2, n2, rfl, hn2, hg2, hown2, B2⟩ := hcut
  have HN2 : Hid _ := hide hn2
  clear hn2 e1_0 e1_1
  have hfa : 0 ≤ k + f1 ∧ k + f1 ≤ 54 := by have := HX1.out; omega
  have e2_0 := (B2.cell (p := ⟨w.heap.size + 1, 3, none⟩) (by simp; omega)).trans t3
  go_upto_if 72 with fail
  go_cut [8, 9] (fun sf sb wx => sf = .int .i64 (k + f1 + f2) ∧ PR W (E0 ++ x1 ++ x2) sb wx)
  case first =>
    rcases FA.out with ⟨hq, hf, hx⟩ | ⟨hq, hf, hx⟩
    · have hqb : (a != 0) = false := by simp [hq]
      have P : Hid _ := hide (pr_same (L' := E0 ++ x1 ++ x2) (b := .slice (some ⟨g2, 0, none⟩) n2 c2) ⟨g2, c2, n2, rfl, HN2.out, hg2, hown2, B2⟩ (by rw [hx]; simp))
      have Hf := hide hf
      clear hf hx
      go_wp2_with fail
      go_meet
      exact ⟨by rw [Hf.out]; simp, P.out⟩
    · have hqb : (a != 0) = true := by simp [hq]
      have Hf := hide hf
      have Hx := hide hx
      have hn1 : n2 ≤ 1000 := by rw [HN2.out]; have h1 := HE1.out; have h2 := HX1.out; simp only [List.length_append]; omega
      clear hf hx
      go_wp2_with fail
      refine (ruv_any _ _ ha0 ha1).mono ?_
      rintro e w3 ⟨vv, rfl, hownv, hbv⟩
      obtain ⟨gv, cv, rfl, hgv, _⟩ := own_some hownv (enc_pos _)
      go_wp2_with (at_builtin; refine row_lies w3 rfl (.tmp 75) (.tmp 78) rfl W.heap.size _ n2 (E0 ++ x1) rfl (own_below hown2 hbv) _ _ _ (enc a.toNat) rfl (own_row_u8 hownv (uv_u8 _)) (enc_pos _) (by have := enc_le a.toNat (by omega); omega) (by have := B2.size; have := hbv.size; omega) ?_; intro g4 c4 w4 hown4 hg4 hl4)
      go_meet
      rw [Hf.out, Hx.out]
      have Bv := B2.trans (hbv.mono B2.size)
      exact ⟨rfl, pr_on HN2.out.symm rfl (lies_ge hl4 rfl hg2 Bv.size) hown4 (grown_below Bv hg4 rfl hg2)⟩
  case rest =>
  obtain ⟨rfl, g3, c3, n3, rfl, hn3, hg3, hown3, B3⟩ := hcut
  have HN3 : Hid _ := hide hn3
  clear hn3 e2_0
  have hfc : 0 ≤ k + f1 + f2 ∧ k + f1 + f2 ≤ 118 := by have := HX1.out; have := HX2.out; omega
  have e3_0 := (B3.cell (p := ⟨w.heap.size + 1, 4, none⟩) (by simp; omega)).trans t4
  have e3_1 := (B3.cell (p := ⟨w.heap.size, 2, none⟩) (by simp; omega)).trans s2
  go_upto_if 84 with fail
  go_cut [8, 9] (fun sf sb wx => sf = .int .i64 (k + f1 + f2 + f3) ∧ PR W (E0 ++ x1 ++ x2 ++ x3) sb wx)
  case first =>
    rcases FK.out with ⟨hq, hf, hx⟩ | ⟨hq, hf, hx⟩
    · have hqb : (q != K) = false := by simp [hq]
      have P : Hid _ := hide (pr_same (L' := E0 ++ x1 ++ x2 ++ x3) (b := .slice (some ⟨g3, 0, none⟩) n3 c3) ⟨g3, c3, n3, rfl, HN3.out, hg3, hown3, B3⟩ (by rw [hx]; simp))
      have Hf := hide hf
      clear hf hx
      go_wp2_with fail
      go_meet
      exact ⟨by rw [Hf.out]; simp, P.out⟩
    · have hqb : (q != K) = true := by simp [hq]
      have Hf := hide hf
      have Hx := hide hx
      have hn1 : n3 ≤ 1000 := by rw [HN3.out]; have h1 := HE1.out; have h2 := HX1.out; have h3 := HX2.out; simp only [List.length_append]; omega
      clear hf hx
      go_wp2_with fail
      refine (rvr_any _ _ (by omega) (by omega)).mono ?_
      rintro e w3 ⟨vv, rfl, hownv, hbv⟩
      obtain ⟨gv, cv, rfl, hgv, _⟩ := own_some hownv (enc_pos _)
      go_wp2_with (at_builtin; refine row_lies w3 rfl (.tmp 87) (.tmp 93) rfl W.heap.size _ n3 (E0 ++ x1 ++ x2) rfl (own_below hown3 hbv) _ _ _ (enc (zig (q - K)).toNat) rfl (own_row_u8 hownv (uv_u8 _)) (enc_pos _) (by have := enc_le (zig (q - K)).toNat (by omega); omega) (by have := B3.size; have := hbv.size; omega) ?_; intro g4 c4 w4 hown4 hg4 hl4)
      go_meet
      rw [Hf.out, Hx.out]
      have Bv := B3.trans (hbv.mono B3.size)
      exact ⟨rfl, pr_on HN3.out.symm rfl (lies_ge hl4 rfl hg3 Bv.size) hown4 (grown_below Bv hg4 rfl hg3)⟩
  case rest =>
  obtain ⟨rfl, g4, c4, n4, rfl, hn4, hg4, hown4, B4⟩ := hcut
  have HN4 : Hid _ := hide hn4
  have hn40 : n4 ≤ 1000 := by rw [hn4]; have h1 := HE1.out; have h2 := HX1.out; have h3 := HX2.out; have h4 := HX3.out; simp only [List.length_append]; omega
  have hn41 : 0 < n4 := by rw [hn4]; have h1 := HE1.out; simp only [List.length_append]; omega
  have HF8 : Hid (IntKind.u8.wrap (k + f1 + f2 + f3) = k + f1 + f2 + f3) := hide (wraps_u8 _ (by omega) (by omega))
  generalize k + f1 + f2 + f3 = F at HX hfb HF8 ⊢
  clear hn4 e3_0 e3_1
  obtain ⟨wl, hwl⟩ : ∃ wl, wl = wc.alloc (.cells #[.int .u8 F] 5) := ⟨_, rfl⟩
  have Bl : Below W.heap.size W wl := by rw [hwl]; exact B4.alloc B4.size _
  have Ol : wl.ownsRow W.heap.size 5 1 (.slice (some ⟨wc.heap.size, 0, none⟩) 1 1) 1 ([F].map (Value.int .u8)) := by rw [hwl]; exact own_lit (heap_new wc _) B4.size
  have Rl : Row wl (some ⟨g4, 0, none⟩) n4 (E0 ++ x1 ++ x2 ++ x3) := by
    rw [hwl]
    exact (own_row_u8 hown4 (u8_of_mem HU.out)).below (below_alloc1 _ _)
  have Hwl : Hid _ := hide hwl
  clear hwl
  go_wp2_with (at_builtin; rw [← Hwl.out]; refine row_lies wl rfl (.tmp 98) (.tmp 99) rfl W.heap.size _ 1 [F] rfl Ol _ _ _ _ rfl Rl hn41 (by omega) Bl.size ?_; intro g5 c5 w5 hown5 hg5 hl5; have B5 := grown_below Bl hg5 rfl B4.size; have G5 := lies_ge hl5 rfl B4.size Bl.size; have z0 := (B5.cell (p := ⟨w.heap.size + 1, 0, none⟩) (by simp; omega)).trans t0; have z1 := (B5.cell (p := ⟨w.heap.size + 1, 1, none⟩) (by simp; omega)).trans t1; have z2 := (B5.cell (p := ⟨w.heap.size + 1, 2, none⟩) (by simp; omega)).trans t2; have z3 := (B5.cell (p := ⟨w.heap.size + 1, 3, none⟩) (by simp; omega)).trans t3; have z4 := (B5.cell (p := ⟨w.heap.size + 1, 4, none⟩) (by simp; omega)).trans t4)
  refine (rbh_any t k o a q w5 (by omega) (by omega)).mono ?_
  rintro e w6 ⟨rfl, hb6⟩
  have B6 := B5.trans (hb6.mono B5.size)
  have LZ6 : w6.heap[w.heap.size + 1 + 1]? = some (.cells #[.int .i64 0, .int .u64 0, .int .i64 0] 69 (0, 0)) := (B6.block (w.heap.size + 2) (by omega)).trans LZ
  have O6 := own_below hown5 hb6
  go_wp2_with (refine wpList_store_row rfl 69 (.tmp 5) (.tmp 103) rfl (w.heap.size + 1 + 1) #[.int .i64 (t + 1), .int .u64 o, .int .i64 q] rfl rfl 69 #[.int .i64 0, .int .u64 0, .int .i64 0] LZ6 Tryd.sizeS rfl (st_one _ _ _) ?_)
  (try simp only [Exit.inBlock, Exit.then])
  refine bodyPost_ret (v := .tuple #[.slice (some ⟨g5, 0, none⟩) (1 + n4) c5, .agg #[.int .i64 (t + 1), .int .u64 o, .int .i64 q], .int .i64 0]) (by exact results_tct Tryd.results50 _ _ (w.heap.size + 1 + 1) 69 #[.int .i64 (t + 1), .int .u64 o, .int .i64 q] (0, 0) _ rfl (setRow_heap _ _ _ _ _ _ LZ6) Tryd.underlying69 rfl Tryd.sizeS) rfl ?_
  refine ⟨_, 1 + n4, rfl, by rw [HX.out, HN4.out]; simp; omega, ?_, below_setRow (hb.trans (B6.mono hb.size)) (by omega) _⟩
  rw [HX.out]
  exact own_mono (own_setRow O6 (fun e => by have h9 : g5 = w.heap.size + 1 + 1 := Option.some.inj e; omega) _) hb.size
end Go.Proofs.YtdppbaipmmcjbaaDoor
