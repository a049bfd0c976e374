/-
  Contracts of Uvarint, Varint, Size: the program's and the document's.
-/
import Derived.Test.YtajkenbcndmjpabBytes
namespace Go.Proofs.Ytajkenbcndmjpab.W1
open Go.RowKit

set_option maxRecDepth 100000 in
theorem or_128_nat : ∀ d : Nat, d < 256 → d ||| 128 = d % 128 + 128 := by decide
theorem or_128 (x k : Nat) : bits .or .u8 ((x : Int) / 2 ^ (k * 7) % 256) 128 = ((x / 2 ^ (7 * k) % 128 : Nat) : Int) + 128 := by
  have e : ((x : Int) / 2 ^ (k * 7) % 256) = ((x / 2 ^ (7 * k) % 256 : Nat) : Int) := by
    rw [Nat.mul_comm 7 k, Int.natCast_emod, Int.natCast_ediv]; simp
  have h := (bits_nat .u8 8 (by decide) wraps_u8 (x / 2 ^ (7 * k) % 256) 128 (by omega) (by omega)).2
  have e2 : ((128 : Nat) : Int) = 128 := rfl
  rw [e2] at h
  rw [e, h, or_128_nat _ (by omega)]; omega
theorem uv_step {x n k : Nat} {L : List Int} (hL : L.length = n) (hlt : k < n) (hp : ∀ j, j < k → L[j]? = some (((x / 2 ^ (7 * j) % 128 : Nat) : Int) + 128)) :
    ∀ j, j < k + 1 → (L.set k (bits .or .u8 ((x : Int) / 2 ^ (k * 7) % 256) 128))[j]? = some (((x / 2 ^ (7 * j) % 128 : Nat) : Int) + 128) := by
  intro j hj
  rw [List.getElem?_set]
  by_cases h : k = j
  · subst h; rw [if_pos rfl, if_pos (by omega), or_128]
  · rw [if_neg h, hp j (by omega)]
theorem uv_end {x n : Nat} {L : List Int} (hn : (enc x).length = n) (hL : L.length = n) (hp : ∀ j, j < n → L[j]? = some (((x / 2 ^ (7 * j) % 128 : Nat) : Int) + 128)) :
    L.set (n - 1) ((x / 2 ^ (7 * (n - 1)) % 128 : Nat) : Int) = enc x := by
  have h0 := enc_pos x
  apply List.ext_getElem?
  intro j
  rw [List.getElem?_set]
  by_cases hj : j < n
  · rw [enc_get x j (by omega), hn]
    by_cases h : n - 1 = j
    · subst h; rw [if_pos rfl, if_pos (by omega), if_neg (by omega)]; simp
    · rw [if_neg h, hp j hj, if_pos (by omega)]; simp
  · rw [if_neg (by omega), List.getElem?_eq_none (by omega), List.getElem?_eq_none (by omega)]

set_option maxHeartbeats 400000 in
theorem uv_core (x n : Nat) (w : World) (hx : x < 18446744073709551616) (hn : (enc x).length = n) (hn0 : 0 < n) (hn10 : n ≤ 10) :
    Calls Try.prog 24 #[.int .u64 x] w fun e w' => e = .returned (.slice (some ⟨w.heap.size, 0, none⟩) n n) ∧ w'.ownsRow w.heap.size 5 1 (.slice (some ⟨w.heap.size, 0, none⟩) n n) n ((enc x).map (Value.int .u8)) ∧ Below w.heap.size w w' := by
  obtain ⟨i0, hi, hz0, hz1, hz2⟩ := info_parts Try.info5
  have HN : Hid ((enc x).length = n) := hn
  clear hn
  go_enter Try.func24, Try.ntmps24
  go_wp2_with fail
  refine (size_any _ _ (by omega) (by omega)).mono ?_
  rintro e w' ⟨rfl, rfl⟩
  rw [Int.toNat_natCast, HN.out]
  go_wp2_with (at_make; refine wpList_make_full _ rfl _ _ 23 rfl w'.heap.size 5 i0 (.int .u8 0) 1 Try.underlying23 hi hz0 hz1 _ _ _ _ n rfl rfl rfl rfl ?b2 ?b3 (Nat.le_refl _) ?_)
  case b2 => rw [hz2]; omega
  case b3 => unfold maxLen; omega
  intro w0 hown0 hgrow0
  go_wp2
  go_loopw [11] (fun si wr => ∃ (k : Nat) (L : List Int), k ≤ n ∧ si = .int .i64 k ∧ L.length = n ∧ (∀ j, j < k → L[j]? = some (((x / 2 ^ (7 * j) % 128 : Nat) : Int) + 128)) ∧
      wr.ownsRow w'.heap.size 5 1 (.slice (some ⟨w'.heap.size, 0, none⟩) n n) n (L.map (Value.int .u8)) ∧ Below w'.heap.size w' wr)
    (fun si _ => n - (intOf si).toNat)
  case atStart => exact ⟨0, List.replicate n 0, Nat.zero_le _, rfl, by simp, fun j hj => by omega, by rw [List.map_replicate]; simpa [toList_madeCells_one] using hown0, (Below.refl _ _).grown hgrow0 (Nat.le_refl _) (fun k h => by cases h)⟩
  case round =>
    obtain ⟨k, L, hk, rfl, hL, hpre, hown, hnx⟩ := hrel
    by_cases hlt : k < n
    · have hcr := hown.cellAt k (by omega)
      have hfr := hown.frozenAt k
      have HP : Hid (∀ j, j < k → L[j]? = some (((x / 2 ^ (7 * j) % 128 : Nat) : Int) + 128)) := hpre
      clear hpre
      go_wp2
      have hs := hown.stored k (Value.int .u8 (bits .or .u8 ((x : Int) / 2 ^ (k * 7) % 256) 128))
      rw [← List.map_set] at hs
      exact ⟨⟨k + 1, _, by omega, by go_num, by simpa using hL, uv_step hL hlt HP.out, hs.1, hnx.setCell (Nat.le_refl _) _⟩, by simp [intOf]; omega⟩
    · have hkn : k = n := by omega
      subst hkn
      have hlast := hpre (k - 1) (by omega)
      obtain ⟨D, hD⟩ : ∃ D : Nat, D = x / 2 ^ (7 * (k - 1)) % 128 := ⟨_, rfl⟩
      have hD1 : D < 128 := by omega
      rw [← hD] at hlast
      have hcr := hown.cellAt (k - 1) (by omega)
      rw [List.getElem?_map, hlast] at hcr
      have hfr := hown.frozenAt (k - 1)
      have hi1 : ((k : Int) - 1).toNat = k - 1 := by omega
      have HD : Hid (D = x / 2 ^ (7 * (k - 1)) % 128) := hD
      have HP : Hid (∀ j, j < k → L[j]? = some (((x / 2 ^ (7 * j) % 128 : Nat) : Int) + 128)) := hpre
      clear hD hpre hlast
      go_wp2
      go_ret
      have hs := hown.stored (k - 1) (Value.int .u8 (D : Int))
      rw [← List.map_set, HD.out, uv_end HN.out hL HP.out] at hs
      exact ⟨rfl, by rw [HD.out]; exact hs.1, hnx.setCell (Nat.le_refl _) _⟩

/-- Uvarint of the program: a new list with the bytes of x. -/
theorem uv_any (x : Int) (w : World) (h1 : 0 ≤ x) (h2 : x ≤ 18446744073709551615) :
    Calls Try.prog 24 #[.int .u64 x] w fun e w' => ∃ c, e = .returned (.slice (some ⟨w.heap.size, 0, none⟩) (enc x.toNat).length c) ∧ w'.ownsRow w.heap.size 5 1 (.slice (some ⟨w.heap.size, 0, none⟩) (enc x.toNat).length c) (enc x.toNat).length ((enc x.toNat).map (Value.int .u8)) ∧ Below w.heap.size w w' := by
  obtain ⟨n, rfl⟩ := Int.eq_ofNat_of_zero_le h1
  rw [Int.toNat_natCast]
  exact (uv_core n _ w (by omega) rfl (enc_pos n) (enc_le n (by omega))).mono fun e w' ⟨he, h⟩ => ⟨_, he, h⟩

/-! ### the document's -/
theorem enc_snoc_big (pre : List Int) (y : Nat) (h : ¬ y < 128) : pre ++ enc y = (pre ++ [((y % 128 + 128 : Nat) : Int)]) ++ enc (y / 128) := by rw [enc_big y h]; simp
set_option maxHeartbeats 800000 in
set_option maxRecDepth 8000 in
theorem ruv_core (x : Int) (w : World) (hx0 : 0 ≤ x) (hx : x ≤ 18446744073709551615) (hl : (enc x.toNat).length ≤ 10) :
    Calls Try.prog 26 #[.int .u64 x] w fun e w' => ∃ v, e = .returned v ∧ w'.ownsRow w.heap.size 5 1 v (enc x.toNat).length ((enc x.toNat).map (Value.int .u8)) ∧ Below w.heap.size w w' := by
  obtain ⟨i0, hi, hz0, hz1, hz2⟩ := info_parts Try.info5
  have HL : Hid ((enc x.toNat).length ≤ 10) := hl
  clear hl
  generalize hE : enc x.toNat = E at HL
  go_enter Try.func26, Try.ntmps26
  go_wp2
  go_loopw [0, 3] (fun sx v wr => ∃ (y : Int) (L : List Int), 0 ≤ y ∧ y ≤ 18446744073709551615 ∧ sx = .int .u64 y ∧ L ++ enc y.toNat = E ∧
      wr.ownsRow w.heap.size 5 1 v L.length (L.map (Value.int .u8)) ∧ Below w.heap.size w wr)
    (fun sx _ _ => (intOf sx).toNat)
  case atStart => exact ⟨x, [], hx0, hx, rfl, hE, World.ownsRow_nil _ _ _ _, Below.refl _ _⟩
  case round =>
    obtain ⟨y, L, hy0, hy, rfl, hL, hown, hnx⟩ := hrel
    have HE : Hid (L ++ enc y.toNat = E) := hL
    have hLl : L.length ≤ 10 := by have h := HL.out; rw [← hL, List.length_append] at h; omega
    clear hL hE
    by_cases hlt : y < 128
    · go_wp2_with (at_builtin; refine wpList_append_own _ rfl (.tmp 15) (.tmp 18) 23 rfl w.heap.size 5 i0 (.int .u8 0) 1 1 Try.underlying23 hi hz0 hz1 hz2 rfl (by decide) _ _ _ rfl (hown.alloc _) ⟨wr.heap.size, 0, none⟩ 1 1 [.int .u8 y] rfl rfl (by intro t u ht; match t, ht with | 0, ht => simp at ht; subst ht; simp [Addr.add]) (by intro u hu; simp at hu; subst hu; rfl) (by unfold maxLen; omega) (by omega) (by simp; have := hnx.size; omega) ?_; intro v' w1 hown1 hgrow1 _)
      go_ret
      have e := HE.out
      rw [enc_small _ (by omega), Int.toNat_of_nonneg hy0] at e
      refine ⟨v', rfl, ?_, (hnx.alloc hnx.size _).grown hgrow1 (by simp; have := hnx.size; omega) (fun k hk => (hown.lt k hk).1)⟩
      rw [← e]; simpa using hown1
    · go_wp2_with (at_builtin; refine wpList_append_own _ rfl (.tmp 6) (.tmp 11) 23 rfl w.heap.size 5 i0 (.int .u8 0) 1 1 Try.underlying23 hi hz0 hz1 hz2 rfl (by decide) _ _ _ rfl (hown.alloc _) ⟨wr.heap.size, 0, none⟩ 1 1 [.int .u8 (y % 128 + 128)] rfl rfl (by intro t u ht; match t, ht with | 0, ht => simp at ht; subst ht; simp [Addr.add]) (by intro u hu; simp at hu; subst hu; rfl) (by unfold maxLen; omega) (by omega) (by simp; have := hnx.size; omega) ?_; intro v' w1 hown1 hgrow1 _)
      refine ⟨⟨y / 128, L ++ [y % 128 + 128], by omega, by omega, rfl, ?_, by simpa using hown1, (hnx.alloc hnx.size _).grown hgrow1 (by simp; have := hnx.size; omega) (fun k hk => (hown.lt k hk).1)⟩, by simp [intOf]; omega⟩
      have e := HE.out
      rw [enc_snoc_big L _ (by omega)] at e
      rw [← e]
      have e1 : ((y.toNat % 128 + 128 : Nat) : Int) = y % 128 + 128 := by omega
      have e2 : (y / 128).toNat = y.toNat / 128 := by omega
      rw [e1, e2]

/-- The document's Uvarint. -/
theorem ruv_any (x : Int) (w : World) (h1 : 0 ≤ x) (h2 : x ≤ 18446744073709551615) :
    Calls Try.prog 26 #[.int .u64 x] w fun e w' => ∃ v, e = .returned v ∧ w'.ownsRow w.heap.size 5 1 v (enc x.toNat).length ((enc x.toNat).map (Value.int .u8)) ∧ Below w.heap.size w w' :=
  ruv_core x w h1 h2 (enc_le _ (by omega))
theorem own_formB {w : World} {base n : Nat} {v : Value} {xs : List Value} (h : w.ownsRow base 5 1 v n xs) : ∃ a c, v = .slice a n c := by
  rcases h.2 with ⟨rfl, rfl⟩ | ⟨g, cap, cur, rfl, _⟩
  · exact ⟨none, 0, rfl⟩
  · exact ⟨_, _, rfl⟩
end Go.Proofs.Ytajkenbcndmjpab.W1
