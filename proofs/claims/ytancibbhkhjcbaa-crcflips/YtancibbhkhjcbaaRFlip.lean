/-
  The contract of Flip of the document.
-/
import Derived.Test.YtancibbhkhjcbaaFlip
namespace Go.Proofs.Ytancibbhkhjcbaa
open Go.RowKit
theorem rflip_refuses (n : Int) (a : Option Addr) (len cap : Nat) (zs : List Int) (w : World) (h : ¬ (0 ≤ n ∧ n ≤ 67108864)) :
    Calls Try.prog 8 #[.int .i64 n, .slice a len cap] w fun e w' => e = .returned (.tuple #[.int .u32 (num (flipSum n zs)), .int .i64 (flipErr n zs)]) ∧ Below w.heap.size w w' := by
  have H := hide (flip_out (zs := zs) h)
  by_cases h0 : n < 0
  · go_enter Try.func8, Try.ntmps8
    go_wp2
    go_ret2
    exact ⟨by rw [H.out.1, H.out.2]; rfl, Below.refl _ _⟩
  · have h1 : 67108864 < n := by omega
    go_enter Try.func8, Try.ntmps8
    go_wp2
    go_ret2
    exact ⟨by rw [H.out.1, H.out.2]; rfl, Below.refl _ _⟩
theorem rflip_none (n : Nat) (a : Option Addr) (cap : Nat) (w : World) (h : n ≤ 67108864) :
    Calls Try.prog 8 #[.int .i64 n, .slice a 0 cap] w fun e w' => e = .returned (.tuple #[.int .u32 (num (flipSum n [])), .int .i64 (flipErr n [])]) ∧ Below w.heap.size w w' := by
  have H := hide (flip_good (n := n) (zs := []) h rfl)
  have h1 : (n : Int) ≤ 67108864 := by omega
  go_enter Try.func8, Try.ntmps8
  go_wp2
  refine wp_loop_rounds 1 ?_
  rw [rounds_succ]
  go_wp2
  refine wp_loop_rounds 1 ?_
  rw [rounds_succ]
  go_wp2
  go_ret2
  exact ⟨by rw [H.out.1, H.out.2]; rfl, Below.refl _ _⟩
theorem bit8_num (k : Nat) (hk : k < 8) : (2 : Int) ^ k % 256 = num (bit k) := by
  have : ∀ k : Fin 8, (2 : Int) ^ k.val % 256 = num (bit k.val) := by decide
  exact this ⟨k, hk⟩
theorem bit8_le (k : Nat) (hk : k < 8) : num (bit k) ≤ 255 := by
  have : ∀ k : Fin 8, num (bit k.val) ≤ 255 := by decide
  exact this ⟨k, hk⟩
set_option maxHeartbeats 1000000 in
theorem rflip_core (n : Nat) (b off len cap : Nat) (zs : List Int) (w : World) (h : n ≤ 67108864) (hl : zs.length = len) (hbig : len * 8 ≤ 140737488355328)
    (hi : ∀ i : Nat, -9223372036854775808 ≤ zs.getD i 0 ∧ zs.getD i 0 ≤ 9223372036854775807)
    (hc : ∀ i, i < len → w.cell? ⟨b, off + i, none⟩ = some (.int .i64 (zs.getD i 0))) :
    Calls Try.prog 8 #[.int .i64 n, .slice (some ⟨b, off, none⟩) len cap] w fun e w' => e = .returned (.tuple #[.int .u32 (num (flipSum n zs)), .int .i64 (flipErr n zs)]) ∧ Below w.heap.size w w' := by
  have HI := hide hi
  have HC := hide hc
  have HL := hide hl
  clear hi hc hl
  have h1 : (n : Int) ≤ 67108864 := by omega
  go_enter Try.func8, Try.ntmps8
  go_wp2
  go_loopw [7] (fun si wr => ∃ i : Nat, i ≤ len ∧ si = .int .i64 i ∧ wr = w ∧ ∀ j, j < i → 0 ≤ zs.getD j 0 ∧ zs.getD j 0 < 8 * (n : Int)) (fun i _ => len - (intOf i).toNat)
  case atStart => exact ⟨0, by omega, rfl, rfl, fun j hj => by omega⟩
  case round =>
    obtain ⟨i, hle, rfl, rfl, hg⟩ := hrel
    have HG := hide hg
    clear hg
    by_cases hlt : i < len
    · have hci := HC.out i hlt
      have hzi := HI.out i
      obtain ⟨z, hz⟩ : ∃ z, z = zs.getD i 0 := ⟨_, rfl⟩
      rw [← hz] at hci hzi
      have HZ := hide hz
      clear hz
      by_cases hgood : 0 ≤ z ∧ z < 8 * (n : Int)
      · have g1 := hgood.1
        have g2 := hgood.2
        clear hgood
        go_wp2
        exact ⟨⟨i + 1, by omega, by go_num, trivial, fun j hj => by
          by_cases e : j = i
          · subst e; rw [← HZ.out]; exact ⟨g1, g2⟩
          · exact HG.out j (by omega)⟩, by simp [intOf]; omega⟩
      · have hbad := flip_bad (zs := zs) h (bad_of i (by rw [HL.out]; exact hlt) (by rw [← HZ.out]; exact hgood))
        have HB := hide hbad
        clear hbad
        by_cases g1 : z < 0
        · clear hgood
          go_wp2
          go_ret2
          exact ⟨by rw [HB.out.1, HB.out.2]; rfl, Below.refl _ _⟩
        · have g2 : 8 * (n : Int) ≤ z := by omega
          clear hgood
          go_wp2
          go_ret2
          exact ⟨by rw [HB.out.1, HB.out.2]; rfl, Below.refl _ _⟩
    · have hil : i = len := by omega
      subst hil
      have hgood : good n zs = true := good_of (fun j hj => HG.out j (by rw [HL.out] at hj; exact hj))
      have HR := hide (flip_good h hgood)
      have HGD := hide hgood
      clear hgood
      go_wp2
      go_loopw [6, 8] (fun so si wx => ∃ j : Nat, so = .int .u32 (num (fl n (zs.take j))) ∧ si = .int .i64 j ∧ j ≤ i ∧ Below wr.heap.size wr wx) (fun _ j _ => i - (intOf j).toNat)
      case atStart => exact ⟨0, rfl, rfl, by omega, Below.refl _ _⟩
      case round =>
        obtain ⟨j, rfl, rfl, hji, hb⟩ := hrel
        by_cases hlt2 : j < i
        · have hgj := good_get (zs := zs) (n := n) HGD.out j (by rw [HL.out]; exact hlt2)
          have hcj := HC.out j hlt2
          obtain ⟨K, hK⟩ := Int.eq_ofNat_of_zero_le hgj.1
          have hfs := fl_take n zs j (by rw [HL.out]; exact hlt2)
          rw [hK] at hgj hcj hfs
          have hcx := hcj
          rw [← hb.cell (p := ⟨b, off + j, none⟩) (World.block_lt_of_cell? _ _ hcj)] at hcx
          have hkn : K / 8 < n := by omega
          rw [← flip_one hkn] at hfs
          have HF := hide hfs
          have hK8 : (K : Int) ≤ 536870911 := by omega
          have hz11 : ∀ (r : B) w, Calls Try.prog 11 #[.int .u32 (num r), .int .i64 ((n : Int) - 1 - (K : Int) / 8)] w fun e w' => e = .returned (.int .u32 (num (stps (8 * (n - 1 - K / 8)) r))) ∧ Below w.heap.size w w' := fun r w => by
            have := rzeros_any r (n - 1 - K / 8) w (by omega)
            rw [show ((n - 1 - K / 8 : Nat) : Int) = (n : Int) - 1 - (K : Int) / 8 by omega] at this
            exact this
          have ht : ∀ w, Calls Try.prog 14 #[.int .u32 0, .int .u8 (2 ^ (K % 8) % 256)] w fun e w' => e = .returned (.int .u32 (num (stps 8 (bit (K % 8))))) ∧ w' = w := fun w => by
            have := take_any 0#32 (bit (K % 8)) w (bit8_le _ (by omega))
            rw [zxor, ← bit8_num _ (by omega)] at this
            exact this
          have hwr : IntKind.i64.wrap ((n : Int) - 1 - (K : Int) / 8) = (n : Int) - 1 - (K : Int) / 8 := wraps_i64 _ (by omega) (by omega)
          clear hfs hK hgj hcj
          go_wp2_with fail
          refine (ht _).mono ?_
          rintro e w3 ⟨rfl, rfl⟩
          go_wp2_with fail
          refine (hz11 _ _).mono ?_
          rintro e w4 ⟨rfl, hb4⟩
          have hb5 := Below.on hb hb4
          clear hcx hb hb4
          go_wp2
          exact ⟨⟨j + 1, val_int (by rw [xor_num, ← HF.out]), by go_num, by omega, hb5⟩, by simp [intOf]; omega⟩
        · have hjl : j = i := by omega
          subst hjl
          go_wp2
          go_ret2
          refine ⟨?_, hb⟩
          rw [HR.out.1, HR.out.2, List.take_of_length_le (by rw [HL.out]; exact Nat.le_refl _)]
          rfl
/-- Flip of the document. -/
theorem rflip_any (n : Int) (a : Option Addr) (len cap : Nat) (zs : List Int) (w : World) (hr : IRow w a len zs) (hbig : len * 8 ≤ 140737488355328) :
    Calls Try.prog 8 #[.int .i64 n, .slice a len cap] w fun e w' => e = .returned (.tuple #[.int .u32 (num (flipSum n zs)), .int .i64 (flipErr n zs)]) ∧ Below w.heap.size w w' := by
  by_cases h : 0 ≤ n ∧ n ≤ 67108864
  · obtain ⟨m, rfl⟩ := Int.eq_ofNat_of_zero_le h.1
    by_cases h0 : len = 0
    · subst h0
      have e1 := List.length_eq_zero_iff.1 hr.len
      subst e1
      exact rflip_none m a cap w (by omega)
    · obtain ⟨b, off, rfl, hc⟩ := hr.cells.resolve_left h0
      exact rflip_core m b off len cap zs w (by omega) hr.len hbig hr.i64 hc
  · exact rflip_refuses n a len cap zs w h
end Go.Proofs.Ytancibbhkhjcbaa
