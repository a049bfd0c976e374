/-
  Lists of integers in memory, and the contract of Flip.
-/
import Derived.Test.YtancibbhkhjcbaaFlipM
import Derived.Test.YtancibbhkhjcbaaLays
import Derived.Lib.OwnBridge
import Derived.Sort.Grow
import Derived.Sort.OwnSortedInts
namespace Go.Proofs.Ytancibbhkhjcbaa
open Go.RowKit
/-- The list at 'a' of 'n' integers holds the numbers 'zs'. -/
structure IRow (w : World) (a : Option Addr) (n : Nat) (zs : List Int) : Prop where
  len : zs.length = n
  i64 : ∀ i : Nat, -9223372036854775808 ≤ zs.getD i 0 ∧ zs.getD i 0 ≤ 9223372036854775807
  cells : n = 0 ∨ ∃ b off, a = some ⟨b, off, none⟩ ∧ ∀ i, i < n → w.cell? ⟨b, off + i, none⟩ = some (.int .i64 (zs.getD i 0))
theorem IRow.below {w w' : World} {a : Option Addr} {n : Nat} {zs : List Int} (h : IRow w a n zs) (hb : Below w.heap.size w w') : IRow w' a n zs := by
  refine ⟨h.len, h.i64, ?_⟩
  rcases h.cells with h0 | ⟨b, off, ha, hc⟩
  · exact .inl h0
  · refine .inr ⟨b, off, ha, fun i hi => ?_⟩
    have := hc i hi
    rw [hb.cell (p := ⟨b, off + i, none⟩) (World.block_lt_of_cell? w _ this)]; exact this

theorem ret2 {k1 k2 : IntKind} {a b c d : Int} (h1 : a = b) (h2 : c = d) : Ending.returned (.tuple #[.int k1 a, .int k2 c]) = .returned (.tuple #[.int k1 b, .int k2 d]) := by rw [h1, h2]
theorem flip_refuses (n : Int) (a : Option Addr) (len cap : Nat) (zs : List Int) (w : World) (h : ¬ (0 ≤ n ∧ n ≤ 67108864)) :
    Calls Try.prog 7 #[.int .i64 n, .slice a len cap] w fun e w' => e = .returned (.tuple #[.int .u32 (num (flipSum n zs)), .int .i64 (flipErr n zs)]) ∧ Below w.heap.size w w' := by
  have H := hide (flip_out (zs := zs) h)
  have hq : (decide (0 ≤ n) && decide (n ≤ 67108864)) = false := by simp; omega
  go_enter Try.func7, Try.ntmps7
  go_wp2_with fail
  refine (may_any _ _).mono ?_
  rintro e w' ⟨rfl, rfl⟩
  rw [hq]
  go_wp2
  go_ret2
  exact ⟨by rw [H.out.1, H.out.2]; rfl, Below.refl _ _⟩

/-- Flip of no bits. -/
theorem flip_none (n : Nat) (a : Option Addr) (cap : Nat) (w : World) (h : n ≤ 67108864) :
    Calls Try.prog 7 #[.int .i64 n, .slice a 0 cap] w fun e w' => e = .returned (.tuple #[.int .u32 (num (flipSum n [])), .int .i64 (flipErr n [])]) ∧ Below w.heap.size w w' := by
  have H := hide (flip_good (n := n) (zs := []) h rfl)
  have hq : (decide (0 ≤ (n : Int)) && decide ((n : Int) ≤ 67108864)) = true := by simp; omega
  have hfin : ∀ w1 : World, Calls Try.prog 10 #[.int .u32 0, .int .i64 (n : Int)] w1 fun e w' => e = .returned (.int .u32 (num 0#32)) ∧ w' = w1 := fun w1 => by
    have := zeros_any 0#32 n w1 (by omega)
    rw [stps_zero] at this; exact this
  cases a with
  | none =>
    go_enter Try.func7, Try.ntmps7
    go_wp2_with fail
    refine (may_any _ _).mono ?_
    rintro e w' ⟨rfl, rfl⟩
    rw [hq]
    go_wp2
    refine wp_loop_rounds 1 ?_
    rw [rounds_succ]
    go_wp2_with fail
    refine (Any.slices_Clone_int_nil cloneLays 0 cap _).mono ?_
    rintro e w1 ⟨rfl, rfl⟩
    go_wp2_with fail
    refine (Any.slices_Sort_int_none sortLays none 0 _).mono ?_
    rintro e w1 ⟨rfl, rfl⟩
    go_wp2
    refine wp_loop_rounds 1 ?_
    rw [rounds_succ]
    go_wp2_with fail
    refine (hfin _).mono ?_
    rintro e w1 ⟨rfl, rfl⟩
    go_wp2
    go_ret2
    exact ⟨by rw [H.out.1, H.out.2]; rfl, Below.refl _ _⟩
  | some x =>
    go_enter Try.func7, Try.ntmps7
    go_wp2_with fail
    refine (may_any _ _).mono ?_
    rintro e w' ⟨rfl, rfl⟩
    rw [hq]
    go_wp2
    refine wp_loop_rounds 1 ?_
    rw [rounds_succ]
    go_wp2_with fail
    refine (Any.slices_Clone_int_zero cloneLays x cap _).mono ?_
    rintro e w1 ⟨v1, rfl, hown, hnn, hbel⟩
    obtain ⟨g, c1, rfl⟩ : ∃ g c1, v1 = .slice (some ⟨g, 0, none⟩) 0 c1 := by
      rcases hown.2 with ⟨h1, _⟩ | ⟨g, c1, cur, h1, _⟩
      · exact absurd h1 hnn
      · exact ⟨g, c1, h1⟩
    clear hown hnn
    go_wp2_with fail
    refine (Any.slices_Sort_int_none sortLays (some ⟨g, 0, none⟩) c1 _).mono ?_
    rintro e w2 ⟨rfl, rfl⟩
    go_wp2
    refine wp_loop_rounds 1 ?_
    rw [rounds_succ]
    go_wp2_with fail
    refine (hfin _).mono ?_
    rintro e w3 ⟨rfl, rfl⟩
    go_wp2
    go_ret2
    exact ⟨by rw [H.out.1, H.out.2]; rfl, hbel⟩
theorem cell_of_holds {w : World} {g : Nat} {S : List Int} (h : Go.Sort.Holds (Value.int .i64) w g 0 S.toArray) (j : Nat) (hj : j < S.length) : w.cell? ⟨g, j, none⟩ = some (.int .i64 (S.getD j 0)) := by
  have h1 := (h j (by simpa using hj)).1
  rw [Nat.zero_add] at h1
  rw [h1, getElem!_pos _ j (by simpa using hj)]
  simp [List.getD, List.getElem?_eq_getElem hj]
/-- Clone and then Sort: a list of its own, in order. -/
theorem sorted_any (g cap n : Nat) (L : List Int) (w w1 : World) (hown : w1.ownsRow w.heap.size 3 1 (.slice (some ⟨g, 0, none⟩) n cap) n (L.map (Value.int .i64))) (hb : Below w.heap.size w w1) (hn : n < 4611686018427387904) :
    Calls Try.prog 13 #[.slice (some ⟨g, 0, none⟩) n cap] w1 fun e w' => e = .returned (.tuple #[]) ∧ (∀ j, j < n → w'.cell? ⟨g, j, none⟩ = some (.int .i64 ((inOrder L).getD j 0))) ∧ Below w.heap.size w w' := by
  obtain ⟨g', cap', hv, hbg, hgl, hncap, hcm, hlen, hH⟩ := Lib.holds_of_ownsRow hown (by intro h; cases h)
  cases hv
  have hsort := Any.slices_Sort_int sortLays g 0 cap L w1 hH hgl (by omega)
  rw [hlen] at hsort
  refine hsort.mono ?_
  rintro e w2 ⟨rfl, nn, os, rfl⟩
  refine ⟨rfl, fun j hj => ?_, hb.grown (Go.grownBy_sortedI _) hb.size (fun j hj => by cases hj; exact hbg)⟩
  refine cell_of_holds ?_ j (by rw [inOrder_length]; omega)
  exact Go.Sort.holds_grow _ _ os g 0 _ (by simpa [Go.Sort.putRow, Go.Sort.mapBlock, Go.Sort.ahead] using hgl) (Go.Sort.holds_putRow _ _ g 0 _ _ (Go.Sort.holds_ahead _ w1 nn g 0 _ hH) (by simp))
theorem wraps_i64 (n : Int) (h1 : -9223372036854775808 ≤ n) (h2 : n ≤ 9223372036854775807) : IntKind.i64.wrap n = n := by
  rw [IntKind.wrap_i64]; omega
set_option maxHeartbeats 1000000 in
theorem flip_core (n : Nat) (b off len cap : Nat) (zs : List Int) (w : World) (h : n ≤ 67108864) (hl : zs.length = len) (h0 : 0 < len) (hbig : len * 8 ≤ 140737488355328)
    (hi : ∀ i : Nat, -9223372036854775808 ≤ zs.getD i 0 ∧ zs.getD i 0 ≤ 9223372036854775807)
    (hc : ∀ i, i < len → w.cell? ⟨b, off + i, none⟩ = some (.int .i64 (zs.getD i 0))) :
    Calls Try.prog 7 #[.int .i64 n, .slice (some ⟨b, off, none⟩) len cap] w fun e w' => e = .returned (.tuple #[.int .u32 (num (flipSum n zs)), .int .i64 (flipErr n zs)]) ∧ Below w.heap.size w w' := by
  have HI := hide hi
  have HC := hide hc
  have HL := hide hl
  clear hi hc hl
  have hq : (decide (0 ≤ (n : Int)) && decide ((n : Int) ≤ 67108864)) = true := by simp; omega
  go_enter Try.func7, Try.ntmps7
  go_wp2_with fail
  refine (may_any _ _).mono ?_
  rintro e w' ⟨rfl, rfl⟩
  rw [hq]
  go_wp2
  go_loopw [19] (fun si wr => ∃ i : Nat, i ≤ len ∧ si = .int .i64 i ∧ wr = w' ∧ ∀ j, j < i → 0 ≤ zs.getD j 0 ∧ zs.getD j 0 < 8 * (n : Int)) (fun i _ => len - (intOf i).toNat)
  case atStart => exact ⟨0, by omega, rfl, rfl, fun j hj => by omega⟩
  case round =>
    obtain ⟨i, hle, rfl, rfl, hg⟩ := hrel
    have HG := hide hg
    clear hg
    by_cases hlt : i < len
    · have hci := HC.out i hlt
      have hzi := HI.out i
      obtain ⟨z, hz⟩ : ∃ z, z = zs.getD i 0 := ⟨_, rfl⟩
      rw [← hz] at hci hzi
      have HZ := hide hz
      clear hz
      by_cases hgood : 0 ≤ z ∧ z < 8 * (n : Int)
      · have g1 := hgood.1
        have g2 := hgood.2
        clear hgood
        go_wp2
        exact ⟨⟨i + 1, by omega, by go_num, trivial, fun j hj => by
          by_cases e : j = i
          · subst e; rw [← HZ.out]; exact ⟨g1, g2⟩
          · exact HG.out j (by omega)⟩, by simp [intOf]; omega⟩
      · have hbad := flip_bad (zs := zs) h (bad_of i (by rw [HL.out]; exact hlt) (by rw [← HZ.out]; exact hgood))
        have HB := hide hbad
        clear hbad
        by_cases g1 : z < 0
        · clear hgood
          go_wp2
          go_ret2
          exact ⟨by rw [HB.out.1, HB.out.2]; rfl, Below.refl _ _⟩
        · have g2 : 8 * (n : Int) ≤ z := by omega
          clear hgood
          go_wp2
          go_ret2
          exact ⟨by rw [HB.out.1, HB.out.2]; rfl, Below.refl _ _⟩
    · have hil : i = len := by omega
      subst hil
      have hgood : good n zs = true := good_of (fun j hj => HG.out j (by rw [HL.out] at hj; exact hj))
      have HR := hide (flip_good h hgood)
      have HGD := hide hgood
      clear hgood
      go_wp2_with fail
      refine (Any.slices_Clone_int cloneLays b off i cap zs wr (by rw [HL.out]; exact Nat.le_refl _) (by omega) (fun j hj => HC.out j (by rw [HL.out] at hj; exact hj))).mono ?_
      rintro e w1 ⟨v1, rfl, hown, hnn, hbel⟩
      rw [List.take_of_length_le (by rw [HL.out]; exact Nat.le_refl _)] at hown
      obtain ⟨g, c1, rfl⟩ : ∃ g c1, v1 = .slice (some ⟨g, 0, none⟩) i c1 := by
        rcases hown.2 with ⟨h1, _⟩ | ⟨g, c1, cur, h1, _⟩
        · exact absurd h1 hnn
        · exact ⟨g, c1, h1⟩
      have hsort := hide (sorted_any g c1 i zs wr w1 hown hbel (by omega))
      clear hown hnn hbel
      go_wp2_with fail
      refine hsort.out.mono ?_
      rintro e w2 ⟨rfl, hcs, hb2⟩
      have HCS := hide hcs
      clear hcs hsort
      go_wp2
      go_loopw [9, 10, 38] (fun sr sa si wx => ∃ (r : B) (p j m : Nat), sr = .int .u32 (num r) ∧ sa = .int .i64 p ∧ si = .int .i64 j ∧ j ≤ i ∧ p ≤ n ∧ wx = w2.drewN m ∧ stps (8 * (n - p)) r = fl n ((inOrder zs).take j) ∧ (j = 0 ∧ p = 0 ∨ 0 < j ∧ p = ((inOrder zs).getD (j - 1) 0).toNat / 8)) (fun _ _ j _ => i - (intOf j).toNat)
      case atStart => exact ⟨0#32, 0, 0, 0, rfl, rfl, rfl, by omega, by omega, rfl, by rw [stps_zero]; rfl, .inl ⟨rfl, rfl⟩⟩
      case round =>
        obtain ⟨r, p, j, m, rfl, rfl, rfl, hji, hpn, rfl, hs, hp⟩ := hrel
        by_cases hlt2 : j < i
        · have hgj := good_get (zs := inOrder zs) (n := n) (by rw [good_perm (inOrder_perm zs)]; exact HGD.out) j (by rw [inOrder_length, HL.out]; exact hlt2)
          have hcj := HCS.out j hlt2
          obtain ⟨K, hK⟩ := Int.eq_ofNat_of_zero_le hgj.1
          have hpk : p ≤ K / 8 := by
            rcases hp with ⟨_, rfl⟩ | ⟨hj0, rfl⟩
            · omega
            · have := inOrder_le zs (j - 1) (by rw [HL.out]; omega)
              rw [show j - 1 + 1 = j by omega, hK] at this
              omega
          have hfs := fl_take n (inOrder zs) j (by rw [inOrder_length, HL.out]; exact hlt2)
          rw [hK] at hgj hcj hfs
          have hkn : K / 8 < n := by omega
          have HF := hide (hfs.trans (flip_step hpk (Nat.le_of_lt hkn) hs).symm)
          have HK := hide hK
          have hK8 : (K : Int) ≤ 536870911 := by omega
          have hz10 : ∀ w, Calls Try.prog 10 #[.int .u32 (num r), .int .i64 ((K : Int) / 8 - (p : Int))] w fun e w' => e = .returned (.int .u32 (num (stps (8 * (K / 8 - p)) r))) ∧ w' = w := fun w => by
            have := zeros_any r (K / 8 - p) w (by omega)
            rw [show ((K / 8 - p : Nat) : Int) = (K : Int) / 8 - (p : Int) by omega] at this
            exact this
          have hwr : IntKind.i64.wrap ((K : Int) / 8 - (p : Int)) = (K : Int) / 8 - (p : Int) := wraps_i64 _ (by omega) (by omega)
          clear hfs hs hp hK hgj
          go_wp2_with fail
          go_quiet ((go_at_call 10; exact (hz10 _).mono (fun e w ⟨he, hw⟩ => ⟨he, _, hw⟩)))
          go_wp2
          exact ⟨⟨stps (8 * (K / 8 - p)) r ^^^ bit (K % 8), K / 8, j + 1, m + nq, val_int (by rw [bit_num _ (by omega), xor_num]), by go_num, by go_num, by omega, by omega, rfl, HF.out.symm, .inr ⟨by omega, by rw [Nat.add_sub_cancel, HK.out]; rfl⟩⟩, by simp [intOf]; omega⟩
        · have hjl : j = i := by omega
          subst hjl
          have HF := hide hs
          clear hs hp
          have hz10 : ∀ w, Calls Try.prog 10 #[.int .u32 (num r), .int .i64 ((n : Int) - (p : Int))] w fun e w' => e = .returned (.int .u32 (num (stps (8 * (n - p)) r))) ∧ w' = w := fun w => by
            have := zeros_any r (n - p) w (by omega)
            rw [show ((n - p : Nat) : Int) = (n : Int) - (p : Int) by omega] at this
            exact this
          go_wp2_with fail
          refine (hz10 _).mono ?_
          rintro e w3 ⟨rfl, rfl⟩
          go_wp2
          go_ret2
          refine ⟨?_, below_drewN hb2 m⟩
          rw [HR.out.1, HR.out.2, ← fl_perm (inOrder_perm zs), HF.out, List.take_of_length_le (by rw [inOrder_length, HL.out]; exact Nat.le_refl _)]
          rfl
/-- Flip of the program. -/
theorem flip_any (n : Int) (a : Option Addr) (len cap : Nat) (zs : List Int) (w : World) (hr : IRow w a len zs) (hbig : len * 8 ≤ 140737488355328) :
    Calls Try.prog 7 #[.int .i64 n, .slice a len cap] w fun e w' => e = .returned (.tuple #[.int .u32 (num (flipSum n zs)), .int .i64 (flipErr n zs)]) ∧ Below w.heap.size w w' := by
  by_cases h : 0 ≤ n ∧ n ≤ 67108864
  · obtain ⟨m, rfl⟩ := Int.eq_ofNat_of_zero_le h.1
    by_cases h0 : len = 0
    · subst h0
      have e1 := List.length_eq_zero_iff.1 hr.len
      subst e1
      exact flip_none m a cap w (by omega)
    · obtain ⟨b, off, rfl, hc⟩ := hr.cells.resolve_left h0
      exact flip_core m b off len cap zs w (by omega) hr.len (by omega) hbig hr.i64 hc
  · exact flip_refuses n a len cap zs w h
end Go.Proofs.Ytancibbhkhjcbaa
