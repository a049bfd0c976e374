/-
  DeltaPuts.
-/
import Derived.Test.YtgecdnmgifcghaaDoorDelE
namespace Go.Proofs.YtgecdnmgifcghaaDoor
open Go.RowKit
/-- What both Puts answer. -/
def PutSaid (s : St) (r : Rc) (w : World) (e : Ending) (w' : World) : Prop :=
  ∃ aa n c x y z E L, e = .returned (.tuple #[.slice aa n c, .agg #[.int .i64 x, .int .u64 y, .int .i64 z], .int .i64 E]) ∧ Row w' aa n L ∧ Below w.heap.size w w' ∧ n ≤ 1000 ∧
    (putE s r = 0 ∧ x = r.stamp + 1 ∧ y = r.obj ∧ z = r.stack ∧ E = 0 ∧ L = text s r ∨ putE s r ≠ 0 ∧ x = 0 ∧ y = 0 ∧ z = 0 ∧ E = putE s r ∧ L = [])
theorem PutSaid.same {s : St} {r : Rc} {x y z E x' y' z' E' : Int} {L L' : List Int}
    (h : putE s r = 0 ∧ x = r.stamp + 1 ∧ y = r.obj ∧ z = r.stack ∧ E = 0 ∧ L = text s r ∨ putE s r ≠ 0 ∧ x = 0 ∧ y = 0 ∧ z = 0 ∧ E = putE s r ∧ L = [])
    (h' : putE s r = 0 ∧ x' = r.stamp + 1 ∧ y' = r.obj ∧ z' = r.stack ∧ E' = 0 ∧ L' = text s r ∨ putE s r ≠ 0 ∧ x' = 0 ∧ y' = 0 ∧ z' = 0 ∧ E' = putE s r ∧ L' = []) : x' = x ∧ y' = y ∧ z' = z ∧ E' = E ∧ L' = L := by
  rcases h with ⟨p, a, b, c, d, e⟩ | ⟨p, a, b, c, d, e⟩ <;> rcases h' with ⟨p', a', b', c', d', e'⟩ | ⟨p', a', b', c', d', e'⟩
  · subst a b c d e a' b' c' d' e'; exact ⟨rfl, rfl, rfl, rfl, rfl⟩
  · exact absurd p p'
  · exact absurd p' p
  · subst a b c d e a' b' c' d' e'; exact ⟨rfl, rfl, rfl, rfl, rfl⟩
theorem put_said (S O K t k o a q : Int) (w : World) (hK : Kn w) (hw : 0 < w.heap.size) (ha0 : 0 ≤ a) (ha1 : a ≤ 18446744073709551615) (ho0 : 0 ≤ o) (ho1 : o ≤ 18446744073709551615) :
    Calls Tryd.prog 9 #[.agg #[.int .i64 S, .int .u64 O, .int .i64 K], .agg #[.int .i64 t, .int .i64 k, .int .u64 o, .int .u64 a, .int .i64 q]] w (PutSaid ⟨S, O, K⟩ ⟨t, k, o, a, q⟩ w) := by
  by_cases h : putE ⟨S, O, K⟩ ⟨t, k, o, a, q⟩ = 0
  · have hl := text_len h ⟨ho0, ho1, ha0, ha1⟩
    refine (put_ok S O K t k o a q w hK hw h ha0 ha1).mono ?_
    rintro e w' ⟨v, n, rfl, rfl, hown, hb⟩
    obtain ⟨g, c, rfl, _, _⟩ := own_some hown (by omega)
    exact ⟨_, _, _, _, _, _, _, _, rfl, own_row_u8 hown (u8_of_mem (text_mem h)), hb, by omega, .inl ⟨h, rfl, rfl, rfl, rfl, rfl⟩⟩
  · refine (put_bad S O K t k o a q w hK hw h).mono ?_
    rintro e w' ⟨rfl, hb⟩
    exact ⟨_, _, _, _, _, _, _, [], rfl, Row.empty _ _, hb, by omega, .inr ⟨h, rfl, rfl, rfl, rfl, rfl⟩⟩
theorem rput_said (S O K t k o a q : Int) (w : World) (ha0 : 0 ≤ a) (ha1 : a ≤ 18446744073709551615) (ho0 : 0 ≤ o) (ho1 : o ≤ 18446744073709551615) :
    Calls Tryd.prog 11 #[.agg #[.int .i64 S, .int .u64 O, .int .i64 K], .agg #[.int .i64 t, .int .i64 k, .int .u64 o, .int .u64 a, .int .i64 q]] w (PutSaid ⟨S, O, K⟩ ⟨t, k, o, a, q⟩ w) := by
  by_cases h : putE ⟨S, O, K⟩ ⟨t, k, o, a, q⟩ = 0
  · have hl := text_len h ⟨ho0, ho1, ha0, ha1⟩
    refine (rput_ok S O K t k o a q w h ha0 ha1).mono ?_
    rintro e w' ⟨v, n, rfl, rfl, hown, hb⟩
    obtain ⟨g, c, rfl, _, _⟩ := own_some hown (by omega)
    exact ⟨_, _, _, _, _, _, _, _, rfl, own_row_u8 hown (u8_of_mem (text_mem h)), hb, by omega, .inl ⟨h, rfl, rfl, rfl, rfl, rfl⟩⟩
  · refine (rput_bad S O K t k o a q w h).mono ?_
    rintro e w' ⟨rfl, hb⟩
    exact ⟨_, _, _, _, _, _, _, [], rfl, Row.empty _ _, hb, by omega, .inr ⟨h, rfl, rfl, rfl, rfl, rfl⟩⟩
set_option maxHeartbeats 800000 in
theorem puts_any (S O K t k o a q : Int) (w : World) (hK : Kn w) (hw : 0 < w.heap.size) (ha0 : 0 ≤ a) (ha1 : a ≤ 18446744073709551615) (ho0 : 0 ≤ o) (ho1 : o ≤ 18446744073709551615) :
    Calls Tryd.prog 4 #[.agg #[.int .i64 S, .int .u64 O, .int .i64 K], .agg #[.int .i64 t, .int .i64 k, .int .u64 o, .int .u64 a, .int .i64 q]] w fun e w' => e = .returned (.bool true) ∧ Below w.heap.size w w' := by
  obtain ⟨W, hW⟩ : ∃ W, W = (w.alloc (.cells #[.int .i64 S, .int .u64 O, .int .i64 K] 26)).alloc (.cells #[.int .i64 t, .int .i64 k, .int .u64 o, .int .u64 a, .int .i64 q] 32) := ⟨_, rfl⟩
  have hb : Below w.heap.size w W := by rw [hW]; exact below_alloc2 _ _ _
  have hsz : W.heap.size = w.heap.size + 2 := by rw [hW]; simp
  have s0 : W.cell? ⟨w.heap.size, 0, none⟩ = some (.int .i64 S) := by rw [hW]; go_simp
  have s1 : W.cell? ⟨w.heap.size, 1, none⟩ = some (.int .u64 O) := by rw [hW]; go_simp
  have s2 : W.cell? ⟨w.heap.size, 2, none⟩ = some (.int .i64 K) := by rw [hW]; go_simp
  have t0 : W.cell? ⟨w.heap.size + 1, 0, none⟩ = some (.int .i64 t) := by rw [hW]; go_simp
  have t1 : W.cell? ⟨w.heap.size + 1, 1, none⟩ = some (.int .i64 k) := by rw [hW]; go_simp
  have t2 : W.cell? ⟨w.heap.size + 1, 2, none⟩ = some (.int .u64 o) := by rw [hW]; go_simp
  have t3 : W.cell? ⟨w.heap.size + 1, 3, none⟩ = some (.int .u64 a) := by rw [hW]; go_simp
  have t4 : W.cell? ⟨w.heap.size + 1, 4, none⟩ = some (.int .i64 q) := by rw [hW]; go_simp
  have HP := put_said S O K t k o a q W (hK.below hb hw) (by omega) ha0 ha1 ho0 ho1
  have hq := eql_st
  go_enter Tryd.func4, Tryd.ntmps4
  go_wp2_with fail
  rw [← hW]
  refine HP.mono ?_
  rintro e w1 ⟨a1, n1, c1, x1, y1, z1, E1, L1, rfl, hr1, hb1, hn1, h1⟩
  have H1 := hide h1
  obtain ⟨w2, hw2⟩ : ∃ w2, w2 = w1.alloc (.cells #[.int .i64 x1, .int .u64 y1, .int .i64 z1] 26) := ⟨_, rfl⟩
  have B2 : Below W.heap.size W w2 := by rw [hw2]; exact hb1.alloc hb1.size _
  have i0 : w2.cell? ⟨w1.heap.size, 0, none⟩ = some (.int .i64 x1) := by rw [hw2]; go_simp
  have i1 : w2.cell? ⟨w1.heap.size, 1, none⟩ = some (.int .u64 y1) := by rw [hw2]; go_simp
  have i2 : w2.cell? ⟨w1.heap.size, 2, none⟩ = some (.int .i64 z1) := by rw [hw2]; go_simp
  have hsz2 : w2.heap.size = w1.heap.size + 1 := by rw [hw2]; simp
  have hr2 : Row w2 a1 n1 L1 := by rw [hw2]; exact hr1.below (below_alloc1 _ _)
  have hs1 := hb1.size
  have u0 := (B2.cell (p := ⟨w.heap.size, 0, none⟩) (by simp; omega)).trans s0
  have u1' := (B2.cell (p := ⟨w.heap.size, 1, none⟩) (by simp; omega)).trans s1
  have u2' := (B2.cell (p := ⟨w.heap.size, 2, none⟩) (by simp; omega)).trans s2
  have v0 := (B2.cell (p := ⟨w.heap.size + 1, 0, none⟩) (by simp; omega)).trans t0
  have v1 := (B2.cell (p := ⟨w.heap.size + 1, 1, none⟩) (by simp; omega)).trans t1
  have v2 := (B2.cell (p := ⟨w.heap.size + 1, 2, none⟩) (by simp; omega)).trans t2
  have v3 := (B2.cell (p := ⟨w.heap.size + 1, 3, none⟩) (by simp; omega)).trans t3
  have v4 := (B2.cell (p := ⟨w.heap.size + 1, 4, none⟩) (by simp; omega)).trans t4
  have HQ := rput_said S O K t k o a q w2 ha0 ha1 ho0 ho1
  rw [hw2] at u0 u1' u2' v0 v1 v2 v3 v4
  clear hW HP h1 hr1 s0 s1 s2 t0 t1 t2 t3 t4
  go_wp2_with fail
  rw [← hw2]
  refine HQ.mono ?_
  rintro e w3 ⟨a3, n3, c3, x3, y3, z3, E3, L3, rfl, hr3, hb3, hn3, h3⟩
  obtain ⟨e1, e2, e3, e4, e5⟩ := PutSaid.same H1.out h3
  subst e1 e2 e3 e4 e5
  have j0 := (hb3.cell (p := ⟨w1.heap.size, 0, none⟩) (by simp; omega)).trans i0
  have j1 := (hb3.cell (p := ⟨w1.heap.size, 1, none⟩) (by simp; omega)).trans i1
  have j2 := (hb3.cell (p := ⟨w1.heap.size, 2, none⟩) (by simp; omega)).trans i2
  have B3 : Below w.heap.size w w3 := (hb.trans (B2.mono hb.size)).trans (hb3.mono (by omega))
  have hlt : w1.heap.size < w3.heap.size := by have := hb3.size; omega
  have hne : ¬ w1.heap.size = w3.heap.size := by omega
  have hq' : ∀ w : World, (binOp .eql 26 (.agg #[.int .i64 x3, .int .u64 y3, .int .i64 z3]) (.agg #[.int .i64 x3, .int .u64 y3, .int .i64 z3])).run Tryd.prog w = .ok (.bool true) w := fun w => by rw [eql_st]; simp
  have hsm := same_any a1 a3 n1 c1 n3 c3 L3 L3 (w3.alloc (.cells #[.int .i64 x3, .int .u64 y3, .int .i64 z3] 26)) ((hr2.below hb3).below (below_alloc1 _ _)) (hr3.below (below_alloc1 _ _)) (by omega)
  simp only [decide_true] at hsm
  clear hq h3 H1 hw2 HQ hr2 hr3 i0 i1 i2 u0 u1' u2' v0 v1 v2 v3 v4
  go_wp2_with fail
  refine hsm.mono ?_
  rintro e w4 ⟨rfl, m, rfl⟩
  go_wp2
  go_ret
  exact ⟨rfl, below_drewN (B3.alloc B3.size _) m⟩
end Go.Proofs.YtgecdnmgifcghaaDoor
