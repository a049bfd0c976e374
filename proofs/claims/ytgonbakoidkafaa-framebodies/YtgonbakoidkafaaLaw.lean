/-
  FrameBodies: the walk.
-/
import Derived.Test.YtgonbakoidkafaaHeadE
namespace Go.Proofs.Ytgonbakoidkafaa
open Go.RowKit
theorem dh_any (a : Option Addr) (n c : Nat) (zs : List Int) (w : World) (hr : Row w a n zs) (hn : (n : Int) ≤ 9223372036854700000) :
    Calls Try.prog 10 #[.slice a n c] w fun e w' => e = .returned (headV zs) ∧ Below w.heap.size w w' := by
  unfold headV
  by_cases h0 : n = 0
  · subst h0
    rw [if_pos hr.len]
    exact dh_zero a c w
  · rw [if_neg (by rw [hr.len]; exact h0)]
    obtain ⟨b, off, rfl, hc⟩ := hr.cells.resolve_left h0
    have h1 := hc 0 (by omega)
    rw [Nat.add_zero] at h1
    by_cases hz : zs.getD 0 0 = 1
    · rw [if_neg (by simpa using hz)]
      rw [hz] at h1
      exact dh_core b off n c zs w hr hn (by omega) h1
    · rw [if_pos hz]
      exact dh_one b off n c _ w (by omega) h1 hz
theorem rdh_any (a : Option Addr) (n c : Nat) (zs : List Int) (w : World) (hr : Row w a n zs) (hn : (n : Int) ≤ 9223372036854700000) :
    Calls Try.prog 11 #[.slice a n c] w fun e w' => e = .returned (headV zs) ∧ Below w.heap.size w w' := by
  unfold headV
  by_cases h0 : n = 0
  · subst h0
    rw [if_pos hr.len]
    exact rdh_zero a c w
  · rw [if_neg (by rw [hr.len]; exact h0)]
    obtain ⟨b, off, rfl, hc⟩ := hr.cells.resolve_left h0
    have h1 := hc 0 (by omega)
    rw [Nat.add_zero] at h1
    by_cases hz : zs.getD 0 0 = 1
    · rw [if_neg (by simpa using hz)]
      rw [hz] at h1
      exact rdh_core b off n c zs w hr hn (by omega) h1
    · rw [if_pos hz]
      exact rdh_one b off n c _ w (by omega) h1 hz
theorem errV_form (r : Int) : ∃ g0 g1 g2 g3 g4 er, errV r = .tuple #[.agg #[.int .i64 g0, .int .i64 g1, .int .i64 g2, .int .i64 g3, .int .i64 g4], .int .i64 er] := ⟨_, _, _, _, _, _, rfl⟩
theorem dhGo_form (zs : List Int) : ∀ (f k : Nat) (p : Int) (G : Nat → Int), ∃ g0 g1 g2 g3 g4 er, dhGo zs f k p G = .tuple #[.agg #[.int .i64 g0, .int .i64 g1, .int .i64 g2, .int .i64 g3, .int .i64 g4], .int .i64 er]
  | 0, k, p, G => by
    unfold dhGo
    split
    · exact errV_form _
    · exact ⟨_, _, _, _, _, _, rfl⟩
  | f + 1, k, p, G => by
    rw [dhGo]
    split
    · exact errV_form _
    · split
      · exact errV_form _
      · exact dhGo_form zs f _ _ _
theorem headV_form (zs : List Int) : ∃ g0 g1 g2 g3 g4 er, headV zs = .tuple #[.agg #[.int .i64 g0, .int .i64 g1, .int .i64 g2, .int .i64 g3, .int .i64 g4], .int .i64 er] := by
  unfold headV
  split
  · exact errV_form _
  · split
    · exact errV_form _
    · exact dhGo_form zs _ _ _ _
theorem footV_form (zs : List Int) : ∃ g0 g1 er, footV zs = .tuple #[.agg #[.int .i64 g0, .int .u32 g1], .int .i64 er] := by
  unfold footV
  split
  · exact ⟨_, _, _, rfl⟩
  · split
    · exact ⟨_, _, _, rfl⟩
    · split
      · exact ⟨_, _, _, rfl⟩
      · split
        · exact ⟨_, _, _, rfl⟩
        · exact ⟨_, _, _, rfl⟩
theorem same_true (a b : Option Addr) (n ca cb : Nat) (E : List Int) (w : World) (hA : Row w a n E) (hB : Row w b n E) (hm : n ≤ 9223372036854775807) :
    Calls Try.prog 7 #[.slice a n ca, .slice b n cb] w fun e w' => e = .returned (.bool true) ∧ Below w.heap.size w w' :=
  (same_any a b n ca n cb E E w hA hB hm).mono fun e w' ⟨he, m, hw⟩ => ⟨by rw [he]; simp, by rw [hw]; exact below_drewN (Below.refl _ _) m⟩
theorem headB_len (l e s t n : Int) : (headB l e s t n).length ≤ 51 := by
  unfold headB
  split
  · rename_i h
    exact hbK_len _ 5 (okH_fld h)
  · simp
theorem footB_len (f s : Int) : (footB f s).length ≤ 14 := by
  unfold footB
  split
  · rename_i h
    have := enc_le f.toNat (by omega)
    rw [List.length_append, le_len]; omega
  · simp
theorem Try.size26 : (Try.prog.info? 26).map (·.size) = some 2 := by kernel_rfl
/-- What stays as it is through the law. -/
structure Stay (w : World) (l e s t n f u : Int) (a a1 : Option Addr) (m : Nat) (zs : List Int) (W : World) : Prop where
  p : W.heap[w.heap.size]? = some (.cells #[.int .i64 l, .int .i64 e, .int .i64 s, .int .i64 t, .int .i64 n] 23 (0, 0))
  q : W.heap[w.heap.size + 1]? = some (.cells #[.int .i64 f, .int .u32 u] 26 (0, 0))
  b : Below w.heap.size w W
  x : Row W a m zs
  y : Row W a1 m zs
  z : w.heap.size + 2 ≤ W.heap.size
theorem Stay.next {w : World} {l e s t n f u : Int} {a a1 : Option Addr} {m : Nat} {zs : List Int} {W W' : World} (h : Stay w l e s t n f u a a1 m zs W) (hb : Below W.heap.size W W') : Stay w l e s t n f u a a1 m zs W' :=
  ⟨(hb.block _ (Nat.lt_of_lt_of_le (by omega) h.z)).trans h.p, (hb.block _ (Nat.lt_of_lt_of_le (by omega) h.z)).trans h.q, h.b.trans (hb.mono (Nat.le_trans (by omega) h.z)), h.x.below hb, h.y.below hb, Nat.le_trans h.z hb.size⟩
set_option maxHeartbeats 3200000 in
theorem law_walk (l e s t n f u : Int) (a : Option Addr) (m c : Nat) (zs : List Int) (w : World) (hu0 : 0 ≤ u) (hu1 : u ≤ 4294967295) (hr : Row w a m zs) (hm : m ≤ 140737488351232) (h0 : a = none → m = 0 ∧ c = 0) (hcap : m ≤ c) :
    Calls Try.prog 3 #[.agg #[.int .i64 l, .int .i64 e, .int .i64 s, .int .i64 t, .int .i64 n], .agg #[.int .i64 f, .int .u32 u], .slice a m c] w fun r w' => r = .returned (.bool true) ∧ Below w.heap.size w w' := by
  have hr0 := hr.below (below_alloc2 w (.cells #[.int .i64 l, .int .i64 e, .int .i64 s, .int .i64 t, .int .i64 n] 23) (.cells #[.int .i64 f, .int .u32 u] 26))
  have p0 := heap_alloc2_old w (.cells #[.int .i64 l, .int .i64 e, .int .i64 s, .int .i64 t, .int .i64 n] 23) (.cells #[.int .i64 f, .int .u32 u] 26)
  have q0 := heap_alloc2_new w (.cells #[.int .i64 l, .int .i64 e, .int .i64 s, .int .i64 t, .int .i64 n] 23) (.cells #[.int .i64 f, .int .u32 u] 26)
  have B0 := below_alloc2 w (.cells #[.int .i64 l, .int .i64 e, .int .i64 s, .int .i64 t, .int .i64 n] 23) (.cells #[.int .i64 f, .int .u32 u] 26)
  have z0 : ((w.alloc (.cells #[.int .i64 l, .int .i64 e, .int .i64 s, .int .i64 t, .int .i64 n] 23)).alloc (.cells #[.int .i64 f, .int .u32 u] 26)).heap.size = w.heap.size + 2 := by simp
  have TW := hide (tw_any a m c zs _ hr0 hm h0)
  have HR0 := hide hr0
  have P0 := hide p0
  have Q0 := hide q0
  have HB0 := hide B0
  clear hr hr0 p0 q0 B0 h0
  go_enter Try.func3, Try.ntmps3
  go_wp2_with fail
  refine TW.out.mono ?_
  rintro r w1 ⟨a1, c1, rfl, h01, hr1, hb1⟩
  clear TW
  have z1 := hb1.size
  rw [z0] at hb1 z1
  have S1 : Hid (Stay w l e s t n f u a a1 m zs w1) := ⟨(hb1.block w.heap.size (by omega)).trans P0.out, (hb1.block (w.heap.size + 1) (by omega)).trans Q0.out, HB0.out.trans (hb1.mono (by omega)), HR0.out.below (by rw [z0]; exact hb1), hr1, z1⟩
  clear HR0 P0 Q0 HB0 z0 hb1 hr1 h01 z1
  have EH := hide (eh_any l e s t n w1)
  go_wp2_with (refine wpList_load_row rfl 23 (.tmp 3) rfl w.heap.size rfl 23 _ (0, 0) _ S1.out.p Try.underlying23 rfl Try.size23 ?_)
  refine EH.out.mono ?_
  rintro r w2 ⟨a2, c2, rfl, hr2, hb2⟩
  have S2 := hide (S1.out.next hb2)
  have R2 := hide hr2
  clear EH hb2 hr2 S1
  have EH := hide (reh_any l e s t n w2)
  go_wp2_with (refine wpList_load_row rfl 23 (.tmp 3) rfl w.heap.size rfl 23 _ (0, 0) _ S2.out.p Try.underlying23 rfl Try.size23 ?_)
  refine EH.out.mono ?_
  rintro r w3 ⟨a3, c3, rfl, hr3, hb3⟩
  have S3 := hide (S2.out.next hb3)
  have SM := hide (same_true a2 a3 (headB l e s t n).length c2 c3 _ w3 (R2.out.below hb3) hr3 (by have := headB_len l e s t n; omega))
  clear EH hb3 hr3 S2 R2
  generalize (headB l e s t n).length = hl at SM ⊢
  generalize headE l e s t n = he at SM ⊢
  go_wp2_with fail
  refine SM.out.mono ?_
  rintro r w4 ⟨rfl, hb4⟩
  have S4 := hide (S3.out.next hb4)
  clear SM S3 hb4
  have EF := hide (ef_any f u w4 hu0 hu1)
  go_wp2_with (refine wpList_load_row rfl 26 (.tmp 4) rfl (w.heap.size + 1) rfl 26 _ (0, 0) _ S4.out.q Try.underlying26 rfl Try.size26 ?_)
  refine EF.out.mono ?_
  rintro r w5 ⟨a5, c5, rfl, hr5, hb5⟩
  have S5 := hide (S4.out.next hb5)
  have R5 := hide hr5
  clear EF hb5 hr5 S4
  have EF := hide (ref_any f u w5 hu0 hu1)
  go_wp2_with (refine wpList_load_row rfl 26 (.tmp 4) rfl (w.heap.size + 1) rfl 26 _ (0, 0) _ S5.out.q Try.underlying26 rfl Try.size26 ?_)
  refine EF.out.mono ?_
  rintro r w6 ⟨a6, c6, rfl, hr6, hb6⟩
  have S6 := hide (S5.out.next hb6)
  have SM := hide (same_true a5 a6 (footB f u).length c5 c6 _ w6 (R5.out.below hb6) hr6 (by have := footB_len f u; omega))
  clear EF hb6 hr6 S5 R5
  generalize (footB f u).length = fl at SM ⊢
  generalize footE f = fe at SM ⊢
  go_wp2_with fail
  refine SM.out.mono ?_
  rintro r w7 ⟨rfl, hb7⟩
  have S7 := hide (S6.out.next hb7)
  clear SM S6 hb7
  obtain ⟨g0, g1, g2, g3, g4, er, hv⟩ := headV_form zs
  have DH := dh_any a m c zs w7 S7.out.x (by omega)
  rw [hv] at DH
  have DH' := hide DH
  clear DH
  go_wp2_with fail
  refine DH'.out.mono ?_
  rintro r w8 ⟨rfl, hb8⟩
  have S8 := hide ((S7.out.next hb8).next (below_alloc1 w8 (.cells #[.int .i64 g0, .int .i64 g1, .int .i64 g2, .int .i64 g3, .int .i64 g4] 23)))
  have G8 := heap_alloc_new w8 (.cells #[.int .i64 g0, .int .i64 g1, .int .i64 g2, .int .i64 g3, .int .i64 g4] 23)
  have DH := rdh_any a1 m c1 zs (w8.alloc (.cells #[.int .i64 g0, .int .i64 g1, .int .i64 g2, .int .i64 g3, .int .i64 g4] 23)) S8.out.y (by omega)
  rw [hv] at DH
  have hs8 : w8.heap.size < (w8.alloc (.cells #[.int .i64 g0, .int .i64 g1, .int .i64 g2, .int .i64 g3, .int .i64 g4] 23)).heap.size := by simp
  have DH2 := hide DH
  have G8' := hide G8
  have HS8 := hide hs8
  clear DH DH' S7 hb8 G8 hs8 hv
  go_wp2_with fail
  refine DH2.out.mono ?_
  rintro r w9 ⟨rfl, hb9⟩
  have S9 := hide ((S8.out.next hb9).next (below_alloc1 w9 (.cells #[.int .i64 g0, .int .i64 g1, .int .i64 g2, .int .i64 g3, .int .i64 g4] 23)))
  have G9 := hide (heap_alloc_new w9 (.cells #[.int .i64 g0, .int .i64 g1, .int .i64 g2, .int .i64 g3, .int .i64 g4] 23))
  have F8 := hide (((below_alloc1 w9 (.cells #[.int .i64 g0, .int .i64 g1, .int .i64 g2, .int .i64 g3, .int .i64 g4] 23)).block w8.heap.size (Nat.lt_of_lt_of_le HS8.out hb9.size)).trans ((hb9.block w8.heap.size HS8.out).trans G8'.out))
  clear DH2 S8 hb9 G8' HS8
  obtain ⟨d0, d1, fr, hf⟩ := footV_form zs
  have DF := df_any a m c zs (w9.alloc (.cells #[.int .i64 g0, .int .i64 g1, .int .i64 g2, .int .i64 g3, .int .i64 g4] 23)) S9.out.x (by omega) hcap
  rw [hf] at DF
  have DF' := hide DF
  have HFV := hide hf
  clear DF hf
  have k0 : (w9.alloc (.cells #[.int .i64 g0, .int .i64 g1, .int .i64 g2, .int .i64 g3, .int .i64 g4] 23)).cell? ⟨w8.heap.size, 0, none⟩ = some (.int .i64 g0) := by rw [cell_of_row _ w8.heap.size 0 _ 23 (0, 0) F8.out]; rfl
  have k1 : (w9.alloc (.cells #[.int .i64 g0, .int .i64 g1, .int .i64 g2, .int .i64 g3, .int .i64 g4] 23)).cell? ⟨w8.heap.size, 1, none⟩ = some (.int .i64 g1) := by rw [cell_of_row _ w8.heap.size 1 _ 23 (0, 0) F8.out]; rfl
  have k2 : (w9.alloc (.cells #[.int .i64 g0, .int .i64 g1, .int .i64 g2, .int .i64 g3, .int .i64 g4] 23)).cell? ⟨w8.heap.size, 2, none⟩ = some (.int .i64 g2) := by rw [cell_of_row _ w8.heap.size 2 _ 23 (0, 0) F8.out]; rfl
  have k3 : (w9.alloc (.cells #[.int .i64 g0, .int .i64 g1, .int .i64 g2, .int .i64 g3, .int .i64 g4] 23)).cell? ⟨w8.heap.size, 3, none⟩ = some (.int .i64 g3) := by rw [cell_of_row _ w8.heap.size 3 _ 23 (0, 0) F8.out]; rfl
  have k4 : (w9.alloc (.cells #[.int .i64 g0, .int .i64 g1, .int .i64 g2, .int .i64 g3, .int .i64 g4] 23)).cell? ⟨w8.heap.size, 4, none⟩ = some (.int .i64 g4) := by rw [cell_of_row _ w8.heap.size 4 _ 23 (0, 0) F8.out]; rfl
  clear F8 G9
  go_wp2_with fail
  refine DF'.out.mono ?_
  rintro r w10 ⟨rfl, hb10⟩
  have S10 := hide ((S9.out.next hb10).next (below_alloc1 w10 (.cells #[.int .i64 d0, .int .u32 d1] 26)))
  have G10 := heap_alloc_new w10 (.cells #[.int .i64 d0, .int .u32 d1] 26)
  have DF := rdf_any a1 m c1 zs (w10.alloc (.cells #[.int .i64 d0, .int .u32 d1] 26)) S10.out.y (by omega)
  rw [HFV.out] at DF
  have hs10 : w10.heap.size < (w10.alloc (.cells #[.int .i64 d0, .int .u32 d1] 26)).heap.size := by simp
  have DF2 := hide DF
  have G10' := hide G10
  have HS10 := hide hs10
  clear DF DF' S9 hb10 G10 hs10 HFV k0 k1 k2 k3 k4
  go_wp2_with fail
  refine DF2.out.mono ?_
  rintro r w11 ⟨rfl, hb11⟩
  have S11 := hide ((S10.out.next hb11).next (below_alloc1 w11 (.cells #[.int .i64 d0, .int .u32 d1] 26)))
  have F10 := hide (((below_alloc1 w11 (.cells #[.int .i64 d0, .int .u32 d1] 26)).block w10.heap.size (Nat.lt_of_lt_of_le HS10.out hb11.size)).trans ((hb11.block w10.heap.size HS10.out).trans G10'.out))
  have k0 : (w11.alloc (.cells #[.int .i64 d0, .int .u32 d1] 26)).cell? ⟨w10.heap.size, 0, none⟩ = some (.int .i64 d0) := by rw [cell_of_row _ w10.heap.size 0 _ 26 (0, 0) F10.out]; rfl
  have k1 : (w11.alloc (.cells #[.int .i64 d0, .int .u32 d1] 26)).cell? ⟨w10.heap.size, 1, none⟩ = some (.int .u32 d1) := by rw [cell_of_row _ w10.heap.size 1 _ 26 (0, 0) F10.out]; rfl
  have SM := hide (same_true a a1 m c c1 zs _ S11.out.x S11.out.y (by omega))
  clear DF2 S10 hb11 G10' HS10 F10
  go_wp2_with fail
  refine SM.out.mono ?_
  rintro r w12 ⟨rfl, hb12⟩
  have S12 := hide (S11.out.next hb12)
  clear SM S11 hb12 k0 k1
  go_wp2
  go_ret
  exact ⟨rfl, S12.out.b⟩
end Go.Proofs.Ytgonbakoidkafaa
