/-
  Contracts of ReadUvarint and ReadVarint: the program's and the document's.
-/
import Derived.Test.YtajkenbcndmjpabRead
import Derived.Test.YtajkenbcndmjpabBytes
namespace Go.Proofs.Ytajkenbcndmjpab.W1
open Go.RowKit

def out3 (k : IntKind) (r : Int × Int × Int) : Value := .tuple #[.int k r.1, .int .i64 r.2.1, .int .i64 r.2.2]
theorem ret_out3 {k : IntKind} {a b c : Int} {r : Int × Int × Int} (h : r = (a, b, c)) : Ending.returned (.tuple #[.int k a, .int .i64 b, .int .i64 c]) = .returned (out3 k r) := by subst h; rfl

theorem ru_bad (a : Option Addr) (n c : Nat) (t : Int) (w : World) (zs : List Int) (hz : zs.length = n) (h : t < 0 ∨ (n : Int) < t) :
    Calls Try.prog 39 #[.slice a n c, .int .i64 t] w fun e w' => e = .returned (out3 .u64 (rdAt zs t)) ∧ w' = w := by
  have H : Hid (rdAt zs t = (0, 0, 2)) := rdAt_bad (by rw [hz]; exact h)
  clear hz
  by_cases h0 : t < 0
  · clear h
    go_enter Try.func39, Try.ntmps39
    go_wp2
    go_ret3
    exact ⟨ret_out3 H.out, rfl⟩
  · have h1 := h.resolve_left h0
    clear h
    go_enter Try.func39, Try.ntmps39
    go_wp2
    go_ret3
    exact ⟨ret_out3 H.out, rfl⟩
theorem rru_bad (a : Option Addr) (n c : Nat) (t : Int) (w : World) (zs : List Int) (hz : zs.length = n) (h : t < 0 ∨ (n : Int) < t) :
    Calls Try.prog 29 #[.slice a n c, .int .i64 t] w fun e w' => e = .returned (out3 .u64 (rdAt zs t)) ∧ w' = w := by
  have H : Hid (rdAt zs t = (0, 0, 2)) := rdAt_bad (by rw [hz]; exact h)
  clear hz
  by_cases h0 : t < 0
  · clear h
    go_enter Try.func29, Try.ntmps29
    go_wp2
    go_ret3
    exact ⟨ret_out3 H.out, rfl⟩
  · have h1 := h.resolve_left h0
    clear h
    go_enter Try.func29, Try.ntmps29
    go_wp2
    go_ret3
    exact ⟨ret_out3 H.out, rfl⟩

/-- Nothing is there: the place is the end. -/
theorem ru_none (a : Option Addr) (n c : Nat) (w : World) (zs : List Int) (hz : zs.length = n) (hn : (n : Int) ≤ 9223372036854775807) :
    Calls Try.prog 39 #[.slice a n c, .int .i64 n] w fun e w' => e = .returned (out3 .u64 (rdAt zs n)) ∧ w' = w := by
  have H : Hid (rdAt zs n = (0, 0, 10)) := by
    have h : rdAt zs n = rd (zs.drop n) n 0 0 := rdAt_good (by omega)
    rw [rd_end (by omega)] at h; exact h
  clear hz
  go_enter Try.func39, Try.ntmps39
  go_wp2
  refine wp_loop_rounds 1 ?_
  rw [rounds_succ]
  go_wp2
  go_ret3
  exact ⟨ret_out3 H.out, rfl⟩
theorem rru_none (a : Option Addr) (n c : Nat) (w : World) (zs : List Int) (hz : zs.length = n) (hn : (n : Int) ≤ 9223372036854775807) :
    Calls Try.prog 29 #[.slice a n c, .int .i64 n] w fun e w' => e = .returned (out3 .u64 (rdAt zs n)) ∧ w' = w := by
  have H : Hid (rdAt zs n = (0, 0, 10)) := by
    have h : rdAt zs n = rd (zs.drop n) n 0 0 := rdAt_good (by omega)
    rw [rd_end (by omega)] at h; exact h
  clear hz
  go_enter Try.func29, Try.ntmps29
  go_wp2
  refine wp_loop_rounds 1 ?_
  rw [rounds_succ]
  go_wp2
  go_ret3
  exact ⟨ret_out3 H.out, rfl⟩

set_option maxHeartbeats 1600000 in
theorem ru_core (b off n c t : Nat) (zs : List Int) (w : World) (hz : zs.length = n) (hn : (n : Int) ≤ 9223372036854700000) (ht : t ≤ n)
    (hu : ∀ i : Nat, 0 ≤ zs[i]?.getD 0 ∧ zs[i]?.getD 0 ≤ 255)
    (hc : ∀ i, i < n → w.cell? ⟨b, off + i, none⟩ = some (.int .u8 (zs.getD i 0))) :
    Calls Try.prog 39 #[.slice (some ⟨b, off, none⟩) n c, .int .i64 t] w fun e w' => e = .returned (out3 .u64 (rdAt zs t)) ∧ w' = w := by
  generalize hR : rdAt zs t = R
  have HR : Hid (rd (zs.drop t) t 0 0 = R) := by rw [← hR]; exact (rdAt_good (by omega)).symm
  clear hR
  have ht0 : (0 : Int) ≤ (t : Int) := by omega
  have htn : (t : Int) ≤ (n : Int) := by omega
  go_enter Try.func39, Try.ntmps39
  go_wp2
  go_loop [7, 18] (fun sx si => ∃ (k : Nat) (X : Int), k ≤ 9 ∧ t + k ≤ n ∧ si = .int .i64 k ∧ sx = .int .u64 X ∧ 0 ≤ X ∧ X < 2 ^ (7 * k) ∧ rd (zs.drop (t + k)) (t + k) k X = R)
    (fun _ si => 10 - (intOf si).toNat)
  case atStart => exact ⟨0, 0, by omega, by omega, rfl, rfl, by omega, by decide, HR.out⟩
  case round =>
    obtain ⟨k, X, hk, hkn, rfl, rfl, hX0, hX1, hrd⟩ := hrel
    have HD : Hid (rd (zs.drop (t + k)) (t + k) k X = R) := hrd
    have HX : Hid (X < 2 ^ (7 * k)) := hX1
    clear hrd hX1 HR
    by_cases hlt : t + k < n
    · have hltI : (t : Int) + (k : Int) < (n : Int) := by omega
      have hck := hc (t + k) hlt
      have huk := hu (t + k)
      obtain ⟨d, hd⟩ : ∃ d, d = zs.getD (t + k) 0 := ⟨_, rfl⟩
      rw [← hd] at hck
      have huk' : 0 ≤ d ∧ d ≤ 255 := by rw [hd]; simpa using huk
      have HC : Hid (zs.getD (t + k) 0 = d) := hd.symm
      have hi1 : ((t : Int) + (k : Int)).toNat = t + k := by omega
      clear hd huk hu hc
      obtain ⟨hd0, hd1⟩ := huk'
      by_cases hov : k = 9 ∧ 1 < d
      · obtain ⟨rfl, hd9⟩ := hov
        have hi2 : ((t : Int) + 9).toNat = t + 9 := by omega
        have E : Hid (R = (0, 0, 12)) := by rw [← HD.out]; exact rd_over (by omega) HC.out rfl hd9
        go_wp2
        go_ret3
        exact ⟨ret_out3 E.out, rfl⟩
      · have HO : Hid (¬ (k = 9 ∧ 1 < d)) := hov
        have hor : Hid (bits .or .u64 X (IntKind.u64.wrap (d % 128 * 2 ^ (k * 7))) = X + d % 128 * 2 ^ (7 * k)) := by rw [Nat.mul_comm k 7]; exact or_part hk hX0 HX.out hd0 hov
        have hov' : (k : Int) = 9 → d ≤ 1 := by intro h; omega
        clear hov
        by_cases h128 : 128 ≤ d
        · have hk9 : (k : Int) < 9 := by omega
          have E : Hid (rd (zs.drop (t + (k + 1))) (t + (k + 1 : Nat)) (k + 1) (X + d % 128 * 2 ^ (7 * k)) = R) := by
            rw [← HD.out, rd_more (by omega) HC.out (by omega) h128]
            congr 1
          clear hov'
          go_wp2
          exact ⟨⟨_, _, _, _, _, _, _, ⟨k + 1, by omega, by omega, by go_num, X + d % 128 * 2 ^ (7 * k), by rw [hor.out], (grow_bd hX0 HX.out hd0).1, (grow_bd hX0 HX.out hd0).2, E.out⟩, rfl, rfl, rfl, rfl, rfl, rfl, rfl⟩, by simp [intOf]; omega⟩
        · have h128' : d < 128 := by omega
          clear h128
          by_cases hlong : 0 < k ∧ d = 0
          · obtain ⟨hk0, hd00⟩ := hlong
            have hk0I : (0 : Int) < (k : Int) := by omega
            have E : Hid (R = (0, 0, 11)) := by rw [← HD.out]; exact rd_long (by omega) HC.out hk0 hd00
            have hd00I : (d == 0) = true := by simp [hd00]
            have hdle : d ≤ 1 := by omega
            clear hd00 hov'
            by_cases hk9 : k = 9
            · subst hk9
              have hi2 : ((t : Int) + 9).toNat = t + 9 := by omega
              go_wp2
              go_ret3
              exact ⟨ret_out3 E.out, rfl⟩
            · have hk9' : (k : Int) < 9 := by omega
              clear hk9
              go_wp2
              go_ret3
              exact ⟨ret_out3 E.out, rfl⟩
          · have E : Hid (R = (X + d % 128 * 2 ^ (7 * k), (t : Int) + k + 1, 0)) := by rw [← HD.out]; exact rd_done (by omega) HC.out HO.out h128' hlong
            by_cases hk9 : k = 9
            · subst hk9
              have hi2 : ((t : Int) + 9).toNat = t + 9 := by omega
              have hd1' := hov' rfl
              have hdn : (d == 0) = false := by simp; omega
              clear hlong hov'
              go_wp2
              go_ret3
              exact ⟨ret_out3 (by rw [E.out, or_nine hX0 HX.out hd0 hd1']; rfl), rfl⟩
            · have hk9' : (k : Int) < 9 := by omega
              clear hov' hk9
              by_cases hk0 : (0 : Int) < (k : Int)
              · have hdn : (d == 0) = false := by simp; omega
                clear hlong
                go_wp2
                go_ret3
                exact ⟨ret_out3 (by rw [E.out, hor.out]), rfl⟩
              · clear hlong
                go_wp2
                go_ret3
                exact ⟨ret_out3 (by rw [E.out, hor.out]), rfl⟩
    · have E : Hid (R = (0, 0, 10)) := by rw [← HD.out]; exact rd_end (by omega)
      have hge : (n : Int) ≤ (t : Int) + (k : Int) := by omega
      clear hu hc
      go_wp2
      go_ret3
      exact ⟨ret_out3 E.out, rfl⟩
set_option maxHeartbeats 1600000 in
theorem rru_core (b off n c t : Nat) (zs : List Int) (w : World) (hz : zs.length = n) (hn : (n : Int) ≤ 9223372036854700000) (ht : t ≤ n)
    (hu : ∀ i : Nat, 0 ≤ zs[i]?.getD 0 ∧ zs[i]?.getD 0 ≤ 255)
    (hc : ∀ i, i < n → w.cell? ⟨b, off + i, none⟩ = some (.int .u8 (zs.getD i 0))) :
    Calls Try.prog 29 #[.slice (some ⟨b, off, none⟩) n c, .int .i64 t] w fun e w' => e = .returned (out3 .u64 (rdAt zs t)) ∧ w' = w := by
  generalize hR : rdAt zs t = R
  have HR : Hid (rd (zs.drop t) t 0 0 = R) := by rw [← hR]; exact (rdAt_good (by omega)).symm
  clear hR
  have ht0 : (0 : Int) ≤ (t : Int) := by omega
  have htn : (t : Int) ≤ (n : Int) := by omega
  go_enter Try.func29, Try.ntmps29
  go_wp2
  go_loop [7, 8, 9] (fun sx sw si => ∃ (k : Nat) (X P : Int), k ≤ 9 ∧ t + k ≤ n ∧ si = .int .i64 k ∧ sx = .int .u64 X ∧ sw = .int .u64 P ∧ P = 2 ^ (7 * k) ∧ 0 ≤ X ∧ X < 2 ^ (7 * k) ∧ rd (zs.drop (t + k)) (t + k) k X = R)
    (fun _ _ si => 10 - (intOf si).toNat)
  case atStart => exact ⟨0, 0, 1, by omega, by omega, rfl, rfl, rfl, by decide, by omega, by decide, HR.out⟩
  case round =>
    obtain ⟨k, X, P, hk, hkn, rfl, rfl, rfl, hP, hX0, hX1, hrd⟩ := hrel
    have HP : Hid (P = 2 ^ (7 * k)) := hP
    have hP0 : 0 ≤ P := by rw [hP]; have := pow7pos k; omega
    have hP1 : P ≤ 9223372036854775808 := by rw [hP]; exact pow63 k hk
    have hP2 : (k : Int) < 9 → P ≤ 72057594037927936 := by intro h; rw [hP]; exact pow7le k (by omega)
    clear hP
    have HD : Hid (rd (zs.drop (t + k)) (t + k) k X = R) := hrd
    have HX : Hid (X < 2 ^ (7 * k)) := hX1
    clear hrd hX1 HR
    by_cases hlt : t + k < n
    · have hltI : (t : Int) + (k : Int) < (n : Int) := by omega
      have hck := hc (t + k) hlt
      have huk := hu (t + k)
      obtain ⟨d, hd⟩ : ∃ d, d = zs.getD (t + k) 0 := ⟨_, rfl⟩
      rw [← hd] at hck
      have huk' : 0 ≤ d ∧ d ≤ 255 := by rw [hd]; simpa using huk
      have HC : Hid (zs.getD (t + k) 0 = d) := hd.symm
      have hi1 : ((t : Int) + (k : Int)).toNat = t + k := by omega
      clear hd huk hu hc
      obtain ⟨hd0, hd1⟩ := huk'
      by_cases hov : k = 9 ∧ 1 < d
      · obtain ⟨rfl, hd9⟩ := hov
        have hi2 : ((t : Int) + 9).toNat = t + 9 := by omega
        have E : Hid (R = (0, 0, 12)) := by rw [← HD.out]; exact rd_over (by omega) HC.out rfl hd9
        go_wp2
        go_ret3
        exact ⟨ret_out3 E.out, rfl⟩
      · have HO : Hid (¬ (k = 9 ∧ 1 < d)) := hov
        have hor : Hid (IntKind.u64.wrap (X + IntKind.u64.wrap (P * (d % 128))) = X + d % 128 * 2 ^ (7 * k)) := by rw [HP.out]; exact add_part hk hX0 HX.out hd0 hov
        have hov' : (k : Int) = 9 → d ≤ 1 := by intro h; omega
        clear hov
        by_cases h128 : 128 ≤ d
        · have hk9 : (k : Int) < 9 := by omega
          have E : Hid (rd (zs.drop (t + (k + 1))) (t + (k + 1 : Nat)) (k + 1) (X + d % 128 * 2 ^ (7 * k)) = R) := by
            rw [← HD.out, rd_more (by omega) HC.out (by omega) h128]
            congr 1
          have hP3 := hP2 hk9
          have HP4 : Hid (P * 128 = 2 ^ (7 * (k + 1))) := by rw [HP.out, pow7I]; exact Int.mul_comm _ _
          clear hov' hP2
          go_wp2
          exact ⟨⟨_, _, _, _, _, _, ⟨k + 1, by omega, by omega, by go_num, X + d % 128 * 2 ^ (7 * k), by rw [hor.out], P * 128, rfl, HP4.out, (grow_bd hX0 HX.out hd0).1, (grow_bd hX0 HX.out hd0).2, E.out⟩, rfl, rfl, rfl, rfl, rfl, rfl⟩, by simp [intOf]; omega⟩
        · have h128' : d < 128 := by omega
          clear h128
          by_cases hlong : 0 < k ∧ d = 0
          · obtain ⟨hk0, hd00⟩ := hlong
            have hk0I : (0 : Int) < (k : Int) := by omega
            have E : Hid (R = (0, 0, 11)) := by rw [← HD.out]; exact rd_long (by omega) HC.out hk0 hd00
            have hd00I : (d == 0) = true := by simp [hd00]
            have hdle : d ≤ 1 := by omega
            clear hd00 hov'
            by_cases hk9 : k = 9
            · subst hk9
              have hi2 : ((t : Int) + 9).toNat = t + 9 := by omega
              go_wp2
              go_ret3
              exact ⟨ret_out3 E.out, rfl⟩
            · have hk9' : (k : Int) < 9 := by omega
              clear hk9
              go_wp2
              go_ret3
              exact ⟨ret_out3 E.out, rfl⟩
          · have E : Hid (R = (X + d % 128 * 2 ^ (7 * k), (t : Int) + k + 1, 0)) := by rw [← HD.out]; exact rd_done (by omega) HC.out HO.out h128' hlong
            by_cases hk9 : k = 9
            · subst hk9
              have hi2 : ((t : Int) + 9).toNat = t + 9 := by omega
              have hd1' := hov' rfl
              have hdn : (d == 0) = false := by simp; omega
              clear hlong hov'
              go_wp2
              go_ret3
              exact ⟨ret_out3 (by rw [E.out, hor.out]; rfl), rfl⟩
            · have hk9' : (k : Int) < 9 := by omega
              clear hov' hk9
              by_cases hk0 : (0 : Int) < (k : Int)
              · have hdn : (d == 0) = false := by simp; omega
                clear hlong
                go_wp2
                go_ret3
                exact ⟨ret_out3 (by rw [E.out, hor.out]), rfl⟩
              · clear hlong
                go_wp2
                go_ret3
                exact ⟨ret_out3 (by rw [E.out, hor.out]), rfl⟩
    · have E : Hid (R = (0, 0, 10)) := by rw [← HD.out]; exact rd_end (by omega)
      have hge : (n : Int) ≤ (t : Int) + (k : Int) := by omega
      clear hu hc
      go_wp2
      go_ret3
      exact ⟨ret_out3 E.out, rfl⟩
end Go.Proofs.Ytajkenbcndmjpab.W1
