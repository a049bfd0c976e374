/-
  The step Encode.
-/
import Derived.Test.YtbcmheilgilipaaPlayD
namespace Go.Proofs.Ytbcmheilgilipaa
open Go.RowKit Go.Maps
theorem LRow.none (w : World) : LRow w none 0 [] := ⟨rfl, .inl rfl⟩
set_option maxHeartbeats 2000000 in
set_option maxRecDepth 4000 in
theorem step_encode (pb po : Nat) (x y : Value) (S : Nat → Prop) (wh N : Int) (s : ByteArray) (w : World) (c0 : w.cell? ⟨pb, po, none⟩ = some x) (c1 : w.cell? ⟨pb, po + 1, none⟩ = some y) (hpb : ¬ S pb) (hS : ∀ k, S k → k < w.heap.size) (hh : Half w x y S) :
    Calls Try.prog 14 #[.pointer (some ⟨pb, po, none⟩), .agg #[.int .i64 5, .int .i64 wh, .string s, .int .i64 N]] w (StepPost w pb po S) := by
  have HC0 : Hid (w.cell? ⟨pb, po, none⟩ = some x) := c0
  have HC1 : Hid (w.cell? ⟨pb, po + 1, none⟩ = some y) := c1
  have HPB : Hid (¬ S pb) := hpb
  have HS : Hid (∀ k, S k → k < w.heap.size) := hS
  have hlt := World.block_lt_of_cell? w _ c0
  have HX : Hid (Boxed w (w.alloc (.cells #[.int .i64 5, .int .i64 wh, .string s, .int .i64 N] 42)) w.heap.size s N) := boxed w 5 wh N s
  have HH : Hid (Half (w.alloc (.cells #[.int .i64 5, .int .i64 wh, .string s, .int .i64 N] 42)) x y S) := hide (hh.but (T := fun _ => False) (But.of_below HX.out.bel) (fun _ _ e => e))
  clear hpb hS hh
  go_enter Try.func14, Try.ntmps14
  go_wp2
  have K0 : (w.alloc (.cells #[.int .i64 5, .int .i64 wh, .string s, .int .i64 N] 42)).cell? ⟨pb, po, none⟩ = some x := (HX.out.bel.cell (p := ⟨pb, po, none⟩) hlt).trans c0
  have K1 : (w.alloc (.cells #[.int .i64 5, .int .i64 wh, .string s, .int .i64 N] 42)).cell? ⟨pb, po + 1, none⟩ = some y := (HX.out.bel.cell (p := ⟨pb, po + 1, none⟩) hlt).trans c1
  have K2 := HX.out.c2
  have K3 := HX.out.c3
  generalize hW : w.alloc (.cells #[.int .i64 5, .int .i64 wh, .string s, .int .i64 N] 42) = W0 at HX HH K0 K1 K2 K3 ⊢
  have HOB : Hid (¬ S w.heap.size) := hide (fun e => by have := HS.out _ e; omega)
  clear c0 c1 hW
  obtain ⟨ob, hob⟩ : ∃ ob, ob = w.heap.size := ⟨_, rfl⟩
  rw [← hob] at K2 K3 HOB ⊢
  have HX' : Hid (Below w.heap.size w W0) := HX.out.bel
  clear HX hob
  rcases HH.out with ⟨rfl, rfl⟩ | ⟨tb, rb, S1, S2, L, v, mv, v2, rfl, rfl, ht, hrt, hd1, hd2⟩
  · have HQ1 : Hid (∀ W, Calls Try.prog 11 #[.pointer none, .int .i64 N] W fun e w' => e = .returned (.tuple #[.slice none 0 0, .int .i64 1]) ∧ w' = W) := hide (fun W => enc_nil N W)
    have HQ2 : Hid (∀ W, Calls Try.prog 34 #[.pointer none, .int .i64 N] W fun e w' => e = .returned (.tuple #[.slice none 0 0, .int .i64 1]) ∧ w' = W) := hide (fun W => renc_nil N W)
    go_quiet ((go_at_call 11; exact Calls.quiet_of_same (HQ1.out _)))
    go_wp2
    have M1 := cell_drewN K1 nq
    have M2 := cell_drewN K3 nq
    have HB1 : Hid (Below w.heap.size w (W0.drewN nq)) := hide (below_drewN HX'.out nq)
    have HW1 : Hid (Half (W0.drewN nq) (.pointer none) (.pointer none) S) := hide (HH.out.but (T := fun _ => False) (But.of_below (below_drewN (Below.refl _ _) nq)) (fun _ _ e => e))
    generalize W0.drewN nq = W1 at M1 M2 HB1 HW1 ⊢
    clear K0 K1 K2 K3
    go_quiet ((go_at_call 34; exact Calls.quiet_of_same (HQ2.out _)))
    go_wp2_with fail
    refine (sl_any none none 0 0 0 0 [] [] _ (LRow.none _) (LRow.none _) (by decide)).mono ?_
    rw [decide_eq_true (show ([] : List (List Int)) = [] from rfl)]
    rintro e w4 ⟨rfl, m4, rfl⟩
    have HB4 : Hid (Below W1.heap.size W1 ((W1.drewN nq).drewN m4)) := hide (below_drewN (below_drewN (Below.refl _ _) nq) m4)
    generalize (W1.drewN nq).drewN m4 = W4 at HB4 ⊢
    go_wp2
    refine wp_loop_rounds 1 ?_
    rw [rounds_succ]
    go_wp2
    go_ret
    exact step_same HC0.out HC1.out HPB.out (But.of_below (HB1.out.trans (HB4.out.mono HB1.out.size))) (S' := S) (HW1.out.but (T := fun _ => False) (But.of_below HB4.out) (fun _ _ e => e)) (fun k hk => .inl hk)
  · by_cases hlim : 64 ≤ N ∧ N ≤ 1048576
    · obtain ⟨lim, hlm⟩ := Int.eq_ofNat_of_zero_le (show 0 ≤ N by omega)
      subst hlm
      have HT : Hid (Tab W0 tb S1 L v mv) := ht
      have HR : Hid (RTab W0 rb S2 L v2) := hrt
      have HG : Hid (GoodL L) := ht.good
      have HLm : Hid (64 ≤ (lim : Int) ∧ (lim : Int) ≤ 1048576) := hlim
      have HQ1 : Hid _ := hide (encode_any (ht.kept (T := fun _ => False) ((But.refl _ W0).drew) (fun _ _ e => e)) lim hlim.1 hlim.2)
      have hob : ob < W0.heap.size := World.block_lt_of_cell? W0 _ K3
      have hpw : pb < W0.heap.size := World.block_lt_of_cell? W0 _ K0
      clear ht hrt hd1 hd2 hlim
      go_region_held3 (fun W => W.cell? ⟨pb, po, none⟩ = some (.pointer (some ⟨tb, 0, none⟩)) ∧ W.cell? ⟨ob, 3, none⟩ = some (.int .i64 (lim : Int))) (first | exact ⟨K0, K3⟩ | exact ⟨M0, M3⟩) (first
        | (go_at_call 11; refine HQ1.out.mono ?_; rintro e w1 ⟨a5, c5, bs, vals, rfl, hcut, hls, hb⟩; have HC5 := hide hcut; have HL5 := hide hls; have HB1 : Hid (Below W0.heap.size W0 w1) := hide ⟨hb.os, hb.tape, hb.output, hb.size, hb.block⟩; have M0 := (HB1.out.cell (p := ⟨pb, po, none⟩) hpw).trans K0; have M3 := (HB1.out.cell (p := ⟨ob, 3, none⟩) hob).trans K3; clear hcut hls hb))
      have N1 := (HB1.out.cell (p := ⟨pb, po + 1, none⟩) hpw).trans K1
      have N3 := (HB1.out.cell (p := ⟨ob, 3, none⟩) hob).trans K3
      have HR1 : Hid (RTab w1 rb S2 L v2) := hide (HR.out.kept (T := fun _ => False) (But.of_below HB1.out) (fun _ _ e => e))
      have HQ2 : Hid _ := hide (renc_any (HR1.out.kept (T := fun _ => False) ((But.refl _ w1).drew) (fun _ _ e => e)) lim HLm.out.1 HLm.out.2)
      have hob1 : ob < w1.heap.size := World.block_lt_of_cell? w1 _ N3
      have hpw1 : pb < w1.heap.size := World.block_lt_of_cell? w1 _ N1
      clear K0 K1 K2 K3 M0 M3
      go_wp2
      go_region_held3 (fun W => W.cell? ⟨pb, po + 1, none⟩ = some (.pointer (some ⟨rb, 0, none⟩)) ∧ W.cell? ⟨ob, 3, none⟩ = some (.int .i64 (lim : Int))) (first | exact ⟨N1, N3⟩ | exact ⟨M1, M3⟩) (first
        | (go_at_call 34; refine HQ2.out.mono ?_; rintro e w2 ⟨a6, c6, bs6, vals6, rfl, hcut, hls, hb⟩; have HC6 := hide hcut; have HL6 := hide hls; have HB2 : Hid (Below w1.heap.size w1 w2) := hide ⟨hb.os, hb.tape, hb.output, hb.size, hb.block⟩; have M1 := (HB2.out.cell (p := ⟨pb, po + 1, none⟩) hpw1).trans N1; have M3 := (HB2.out.cell (p := ⟨ob, 3, none⟩) hob1).trans N3; clear hcut hls hb))
      have e6 : bs6 = bs := HC6.out.uniq HC5.out
      subst e6
      have HSm : Hid (∀ z ∈ bs6, (z.length : Int) ≤ 140737488355328) := HC5.out.small HG.out.len HG.out.sum HG.out.small
      have hni : (bs6.length : Int) ≤ 9223372036854775806 := by have := HC5.out.most; have := HG.out.len; omega
      have HQ3 := sl_any a5 a6 bs6.length c5 bs6.length c6 bs6 bs6 w2 ((HL5.out.below HB2.out).lrow HSm.out) (HL6.out.lrow HSm.out) hni
      rw [decide_eq_true (show bs6 = bs6 from rfl)] at HQ3
      have HQ4 : Hid _ := hide HQ3
      clear HQ3 N1 N3 M1 M3
      go_wp2_with fail
      refine HQ4.out.mono ?_
      rintro e w4 ⟨rfl, m4, rfl⟩
      have HB4' : Hid (Below W0.heap.size W0 (w2.drewN m4)) := hide (below_drewN (HB1.out.trans (HB2.out.mono HB1.out.size)) m4)
      have HO4 : Hid (Over (w2.drewN m4) (w2.drewN m4) W0.heap.size (.slice a5 bs6.length c5) bs6 vals) := hide (HL5.out.over (below_drewN HB2.out m4))
      have HW4 : Hid (Half (w2.drewN m4) (.pointer (some ⟨tb, 0, none⟩)) (.pointer (some ⟨rb, 0, none⟩)) S) := hide (HH.out.but (T := fun _ => False) (But.of_below HB4'.out) (fun _ _ e => e))
      have HLT : Hid (∀ g, (∃ x ∈ vals, x.ownBlock = some g) → W0.heap.size ≤ g) := hide (fun g ⟨x, hx, hg⟩ => by
        obtain ⟨b, _, a, c, rfl, ho⟩ := HL5.out.row hx
        exact (ho.lt g hg).1)
      generalize w2.drewN m4 = w4 at HB4' HO4 HW4 ⊢
      clear HQ4
      go_wp2
      go_loopw [21] (fun i wr => ∃ k : Nat, k ≤ bs6.length ∧ i = .int .i64 k ∧ Over w4 wr W0.heap.size (.slice a5 bs6.length c5) bs6 vals) (fun i _ => bs6.length - (intOf i).toNat)
      case atStart => exact ⟨0, Nat.zero_le _, rfl, HO4.out⟩
      case round =>
        obtain ⟨k, hk, rfl, hO⟩ := hrel
        have HO : Hid (Over w4 wr W0.heap.size (.slice a5 bs6.length c5) bs6 vals) := hO
        clear hO
        by_cases hlt : k < bs6.length
        · have hzk : Hid (bs6[k]? = some (bs6.getD k [])) := hide (by have := hlt; rw [List.getD_eq_getElem?_getD]; simp [show k < bs6.length by omega])
          have hzl : ((bs6.getD k []).length : Int) ≤ 140737488355328 := by have := HSm.out _ (List.mem_of_getElem? hzk.out); omega
          generalize bs6.getD k [] = z at hzk hzl
          go_wp2
          go_loopw [22] (fun i wr' => ∃ j : Nat, j ≤ z.length ∧ i = .int .i64 j ∧ Over w4 wr' W0.heap.size (.slice a5 bs6.length c5) bs6 vals) (fun i _ => z.length - (intOf i).toNat)
          case atStart => exact ⟨0, Nat.zero_le _, rfl, HO.out⟩
          case round =>
            clear HO
            obtain ⟨j, hj, rfl, hO⟩ := hrel
            have HO : Hid (Over w4 wr W0.heap.size (.slice a5 bs6.length c5) bs6 vals) := hO
            obtain ⟨g, ab, cb, rfl, hvz, hcz, xs, hoz⟩ := hO.at hzk.out
            clear hO
            by_cases hlj : j < z.length
            · obtain ⟨g2, rfl⟩ : ∃ g2, ab = some ⟨g2, 0, none⟩ := by
                rcases hoz.2 with ⟨_, e⟩ | ⟨g2, cap, cur, e, _⟩
                · omega
                · cases e; exact ⟨g2, rfl⟩
              have hcj : wr.cell? ⟨g2, j, none⟩ = some (xs.getD j undef) := by
                have hxl : xs.length = z.length := by have := hoz.1; simpa using this
                rw [hoz.cellAt j (by omega), List.getD_eq_getElem?_getD]; simp [hxl, hlj]
              have hfj := hoz.frozenAt j
              have HV : Hid (vals[k]? = some (.slice (some ⟨g2, 0, none⟩) z.length cb)) := hvz
              generalize xs.getD j undef = y at hcj
              clear hoz hvz
              go_wp2
              exact ⟨⟨j + 1, by omega, by go_num, HO.out.store hzk.out HV.out _ _⟩, by simp [intOf]; omega⟩
            · clear hvz hoz
              go_wp2
              exact ⟨⟨k + 1, by omega, by go_num, HO.out⟩, by simp [intOf]; omega⟩
        · have HOx : Hid (But (fun g => ∃ x ∈ vals, x.ownBlock = some g) w4 wr) := HO.out.but
          clear HO
          have hBr := HOx.out
          go_wp2
          go_ret
          have hxs := HX'.out.size
          refine step_same HC0.out HC1.out HPB.out (((But.of_below (S := S) HX'.out).trans (But.of_below (S := fun _ => False) HB4'.out) (fun _ _ e => e.elim)).trans hBr (fun i hi e => by have := HLT.out i e; omega)) (S' := S) (HW4.out.but hBr (fun k hk e => by have := HLT.out k e; have := HS.out k hk; omega)) (fun k hk => .inl hk)
    · have HQ1 : Hid (∀ W, Calls Try.prog 11 #[.pointer (some ⟨tb, 0, none⟩), .int .i64 N] W fun e w' => e = .returned (.tuple #[.slice none 0 0, .int .i64 2]) ∧ w' = W) := hide (fun W => enc_bad tb N W hlim)
      have HQ2 : Hid (∀ W, Calls Try.prog 34 #[.pointer (some ⟨rb, 0, none⟩), .int .i64 N] W fun e w' => e = .returned (.tuple #[.slice none 0 0, .int .i64 2]) ∧ w' = W) := hide (fun W => renc_bad rb N W hlim)
      clear ht hrt hd1 hd2 hlim
      go_quiet ((go_at_call 11; exact Calls.quiet_of_same (HQ1.out _)))
      go_wp2
      have M1 := cell_drewN K1 nq
      have M2 := cell_drewN K3 nq
      have HB1 : Hid (Below w.heap.size w (W0.drewN nq)) := hide (below_drewN HX'.out nq)
      have HW1 : Hid (Half (W0.drewN nq) (.pointer (some ⟨tb, 0, none⟩)) (.pointer (some ⟨rb, 0, none⟩)) S) := hide (HH.out.but (T := fun _ => False) (But.of_below (below_drewN (Below.refl _ _) nq)) (fun _ _ e => e))
      generalize W0.drewN nq = W1 at M1 M2 HB1 HW1 ⊢
      clear K0 K1 K2 K3
      go_quiet ((go_at_call 34; exact Calls.quiet_of_same (HQ2.out _)))
      go_wp2_with fail
      refine (sl_any none none 0 0 0 0 [] [] _ (LRow.none _) (LRow.none _) (by decide)).mono ?_
      rw [decide_eq_true (show ([] : List (List Int)) = [] from rfl)]
      rintro e w4 ⟨rfl, m4, rfl⟩
      have HB4 : Hid (Below W1.heap.size W1 ((W1.drewN nq).drewN m4)) := hide (below_drewN (below_drewN (Below.refl _ _) nq) m4)
      generalize (W1.drewN nq).drewN m4 = W4 at HB4 ⊢
      go_wp2
      refine wp_loop_rounds 1 ?_
      rw [rounds_succ]
      go_wp2
      go_ret
      exact step_same HC0.out HC1.out HPB.out (But.of_below (HB1.out.trans (HB4.out.mono HB1.out.size))) (S' := S) (HW1.out.but (T := fun _ => False) (But.of_below HB4.out) (fun _ _ e => e)) (fun k hk => .inl hk)
end Go.Proofs.Ytbcmheilgilipaa
