/-
  The statements' own within and varint.
-/
import Derived.Test.YtbcmheilgilipaaBodyB
namespace Go.Proofs.Ytbcmheilgilipaa
open Go.RowKit Go.Maps
theorem within_any (v n : Int) (w : World) (hn : 0 < n) (hn' : n ≤ 1000000000) :
    Calls Try.prog 9 #[.int .i64 v, .int .i64 n] w fun e w' => (∃ r : Int, e = .returned (.int .i64 r) ∧ 0 ≤ r ∧ r < n) ∧ w' = w := by
  have hn0 : ¬ n = 0 := by omega
  have ht1 : v.tmod n < n := Int.tmod_lt_of_pos v hn
  have ht2 : -n < v.tmod n := Int.lt_tmod_of_pos v hn
  go_enter Try.func9, Try.ntmps9
  go_wp2
  · go_ret
    exact ⟨⟨_, rfl, by omega, by omega⟩, rfl⟩
  · go_ret
    exact ⟨⟨_, rfl, ‹_›, ht1⟩, rfl⟩
theorem varint_any (x : Int) (w : World) (hx0 : 0 ≤ x) (hx : x ≤ 4611686018427387904) :
    Calls Try.prog 12 #[.int .i64 x] w fun e w' => ∃ a c, e = .returned (.slice a (enc x.toNat).length c) ∧ w'.ownsRow w.heap.size 5 1 (.slice a (enc x.toNat).length c) (enc x.toNat).length ((enc x.toNat).map (Value.int .u8)) ∧ Below w.heap.size w w' := by
  have HL : Hid ((enc x.toNat).length ≤ 10) := enc_le _ (by omega)
  generalize hE : enc x.toNat = E at HL
  go_enter Try.func12, Try.ntmps12
  go_wp2
  go_loopw [0, 3] (fun sx o wr => ∃ (y : Int) (P : List Int) (a : Option Addr) (c : Nat), 0 ≤ y ∧ y ≤ 4611686018427387904 ∧ sx = .int .i64 y ∧ o = .slice a P.length c ∧ P ++ enc y.toNat = E ∧
      wr.ownsRow w.heap.size 5 1 (.slice a P.length c) P.length (P.map (Value.int .u8)) ∧ Below w.heap.size w wr)
    (fun sx _ _ => (intOf sx).toNat)
  case atStart => exact ⟨x, [], none, 0, hx0, hx, rfl, rfl, hE, World.ownsRow_nil _ _ _ _, Below.refl _ _⟩
  case round =>
    obtain ⟨y, P, a, c, hy0, hy, rfl, rfl, hL, hown, hnx⟩ := hrel
    have HE : Hid (P ++ enc y.toNat = E) := hL
    have hLl : (P.length : Int) ≤ 10 := by have h := HL.out; rw [← hL, List.length_append] at h; omega
    have hmod : y.tmod 128 = y % 128 := Int.tmod_eq_emod_of_nonneg hy0
    have hdiv : y.tdiv 128 = y / 128 := Int.tdiv_eq_ediv_of_nonneg hy0
    clear hL hE
    by_cases hlt : y < 128
    · go_wp2_with (first | (at_builtin; refine append_one _ rfl _ _ rfl w.heap.size (.slice a P.length c) P.length P rfl (hown.alloc _) wr.heap.size _ rfl (cell_new _ _ _) (by omega) (by have := hnx.size; simp; omega) ?_; intro v' w1 hown1 hgrow1; obtain ⟨a', c', rfl⟩ := own_formB hown1) | go_in)
      go_ret
      have e := HE.out
      rw [enc_small _ (by omega), Int.toNat_of_nonneg hy0] at e
      rw [← e, List.length_append]
      exact ⟨a', c', rfl, hown1, (hnx.alloc hnx.size _).grown hgrow1 (by have := hnx.size; simp; omega) (fun k hk => (hown.lt k hk).1)⟩
    · go_wp2_with (first | (at_builtin; refine append_one _ rfl _ _ rfl w.heap.size (.slice a P.length c) P.length P rfl (hown.alloc _) wr.heap.size _ rfl (cell_new _ _ _) (by omega) (by have := hnx.size; simp; omega) ?_; intro v' w1 hown1 hgrow1; obtain ⟨a', c', rfl⟩ := own_formB hown1) | go_in)
      refine ⟨⟨y / 128, P ++ [128 + y % 128], a', c', by omega, by omega, rfl, by simp, ?_, by simpa using hown1, (hnx.alloc hnx.size _).grown hgrow1 (by have := hnx.size; simp; omega) (fun k hk => (hown.lt k hk).1)⟩, by simp [intOf]; omega⟩
      have e := HE.out
      rw [enc_snoc_big P _ (by omega)] at e
      rw [← e]
      have e1 : ((y.toNat % 128 + 128 : Nat) : Int) = 128 + y % 128 := by omega
      have e2 : (y / 128).toNat = y.toNat / 128 := by omega
      rw [e1, e2]
end Go.Proofs.Ytbcmheilgilipaa
