/-
  The document's args, spans, over, Check.
-/
import Derived.Test.YtbflkdbimgakpaaDoorEvtC
namespace Go.Proofs.YtbflkdbimgakpaaDoor.E6
open Go.RowKit Go.Maps Go.Shelf
theorem kinds_cases {k : Int} (h : 1 ≤ k ∧ k ≤ 22) : k = 1 ∨ k = 2 ∨ k = 3 ∨ k = 4 ∨ k = 5 ∨ k = 6 ∨ k = 7 ∨ k = 8 ∨ k = 9 ∨ k = 10 ∨ k = 11 ∨ k = 12 ∨ k = 13 ∨ k = 14 ∨ k = 15 ∨ k = 16 ∨ k = 17 ∨ k = 18 ∨ k = 19 ∨ k = 20 ∨ k = 21 ∨ k = 22 := by omega
theorem rargs_any (k : Int) (w : World) (h : 1 ≤ k ∧ k ≤ 22) : Calls Tryd.prog 38 #[.int .i64 k] w fun e w' => e = .returned (.tuple #[.int .u64 (rlo (ksort k.toNat)), .int .u64 (rhi (ksort k.toNat))]) ∧ w' = w := by
  rcases kinds_cases h with rfl | rfl | rfl | rfl | rfl | rfl | rfl | rfl | rfl | rfl | rfl | rfl | rfl | rfl | rfl | rfl | rfl | rfl | rfl | rfl | rfl | rfl <;> (
    go_enter Tryd.func38, Tryd.ntmps38
    go_wp2
    go_ret2
    exact ⟨rfl, rfl⟩)
def spanB (k : Int) : Bool := decide (k = 1 ∨ k = 2 ∨ k = 20 ∨ k = 21)
theorem rspans_any (k : Int) (w : World) : Calls Tryd.prog 39 #[.int .i64 k] w fun e w' => e = .returned (.bool (spanB k)) ∧ w' = w := by
  by_cases h1 : k = 1
  · subst h1
    go_enter Tryd.func39, Tryd.ntmps39
    go_wp2
    go_ret
    exact ⟨rfl, rfl⟩
  · by_cases h2 : k = 2
    · subst h2
      go_enter Tryd.func39, Tryd.ntmps39
      go_wp2
      go_ret
      exact ⟨rfl, rfl⟩
    · by_cases h3 : k = 20
      · subst h3
        go_enter Tryd.func39, Tryd.ntmps39
        go_wp2
        go_ret
        exact ⟨rfl, rfl⟩
      · have e1 : (k == 1) = false := by rw [beq_eq_false_iff_ne]; exact h1
        have e2 : (k == 2) = false := by rw [beq_eq_false_iff_ne]; exact h2
        have e3 : (k == 20) = false := by rw [beq_eq_false_iff_ne]; exact h3
        have HN : Hid (spanB k = (k == 21)) := hide (by unfold spanB; rw [Bool.eq_iff_iff]; simp; omega)
        generalize spanB k = s at HN ⊢
        clear h1 h2 h3
        go_enter Tryd.func39, Tryd.ntmps39
        go_wp2
        go_ret
        exact ⟨by rw [HN.out]; rfl, rfl⟩
def overB (o a : Int) : Bool := decide (0 < a) && decide (18446744073709551615 - o < a - 1)
theorem rover_any (g k o a : Int) (sa : Option Addr) (sn sc : Nat) (w : World) (ho : 0 ≤ o ∧ o ≤ 18446744073709551615) (ha : 0 ≤ a ∧ a ≤ 18446744073709551615) :
    Calls Tryd.prog 40 #[.agg #[.int .i64 g, .int .i64 k, .int .u64 o, .int .u64 a, .slice sa sn sc]] w fun e w' => e = .returned (.bool (overB o a)) ∧ Below w.heap.size w w' := by
  have HB : Hid _ := hide (below_new w (.cells #[.int .i64 g, .int .i64 k, .int .u64 o, .int .u64 a, .slice sa sn sc] 25))
  obtain ⟨ho1, ho2⟩ := ho
  obtain ⟨ha1, ha2⟩ := ha
  have w1 : IntKind.u64.wrap (18446744073709551615 - o) = 18446744073709551615 - o := by rw [IntKind.wrap_u64]; omega
  by_cases h : 0 < a
  · have w2 : IntKind.u64.wrap (a - 1) = a - 1 := by rw [IntKind.wrap_u64]; omega
    have e : overB o a = decide (18446744073709551615 - o < a - 1) := by unfold overB; rw [decide_eq_true h]; rfl
    rw [e]
    clear e
    go_enter Tryd.func40, Tryd.ntmps40
    go_wp2
    go_ret
    exact ⟨rfl, HB.out⟩
  · have e : overB o a = false := by unfold overB; rw [decide_eq_false h]; rfl
    rw [e]
    clear e
    go_enter Tryd.func40, Tryd.ntmps40
    go_wp2
    go_ret
    exact ⟨rfl, HB.out⟩
/-- Check by its flags. -/
def chkF (x7 x8 z sp ov fits st : Bool) : Int := if (x7 || x8) && z then 62 else if sp && fits && ov then 62 else if !fits then 63 else if st then 0 else 64
theorem ksort_of {k : Int} (h : 1 ≤ k ∧ k ≤ 22) : (ksort k.toNat = 4 ↔ k = 7) ∧ (ksort k.toNat = 5 ↔ k = 8) ∧ (ksort k.toNat = 2 ↔ k = 1 ∨ k = 2) ∧ (ksort k.toNat = 3 ↔ k = 20 ∨ k = 21) := by
  rcases kinds_cases h with rfl | rfl | rfl | rfl | rfl | rfl | rfl | rfl | rfl | rfl | rfl | rfl | rfl | rfl | rfl | rfl | rfl | rfl | rfl | rfl | rfl | rfl <;> decide
theorem chk_flags {g k o a : Int} {ls : List ByteArray} (hk : 1 ≤ k ∧ k ≤ 22) (hg : ¬ (g < 0 ∨ 65536 ≤ g)) : chk g k o a ls = chkF (k == 7) (k == 8) (o != 0) (spanB k) (overB o a) (argB k.toNat a) (stkB ls) := by
  unfold chk chkF
  rw [if_pos hk, if_neg hg]
  obtain ⟨k4, k5, k2, k3⟩ := ksort_of hk
  have hbd := @argB_bd k.toNat a
  by_cases h7 : k = 7
  · have e4 := k4.2 h7
    have e8 : (k == 8) = false := by rw [beq_eq_false_iff_ne]; omega
    have es : spanB k = false := by unfold spanB; rw [decide_eq_false_iff_not]; omega
    have hob : objB k.toNat o a = (o == 0) := by unfold objB; rw [if_pos (.inl e4)]
    rw [hob, e8, es, show (k == 7) = true by rw [beq_iff_eq]; exact h7]
    rw [bne]
    generalize (o == 0) = y
    cases y <;> cases argB k.toNat a <;> cases stkB ls <;> rfl
  · by_cases h8 : k = 8
    · have e5 := k5.2 h8
      have e7 : (k == 7) = false := by rw [beq_eq_false_iff_ne]; omega
      have es : spanB k = false := by unfold spanB; rw [decide_eq_false_iff_not]; omega
      have hob : objB k.toNat o a = (o == 0) := by unfold objB; rw [if_pos (.inr e5)]
      rw [hob, e7, es, show (k == 8) = true by rw [beq_iff_eq]; exact h8]
      rw [bne]
      generalize (o == 0) = y
      cases y <;> cases argB k.toNat a <;> cases stkB ls <;> rfl
    · have e7 : (k == 7) = false := by rw [beq_eq_false_iff_ne]; omega
      have e8 : (k == 8) = false := by rw [beq_eq_false_iff_ne]; omega
      have hn45 : ¬ (ksort k.toNat = 4 ∨ ksort k.toNat = 5) := by rw [k4, k5]; omega
      rw [e7, e8]
      by_cases hs : k = 1 ∨ k = 2 ∨ k = 20 ∨ k = 21
      · have es : spanB k = true := by unfold spanB; exact decide_eq_true hs
        have hss : ksort k.toNat = 2 ∨ ksort k.toNat = 3 := by rw [k2, k3]; omega
        have hob : objB k.toNat o a = (!argB k.toNat a || decide (o ≤ 18446744073709551615 - (a - 1))) := by unfold objB; rw [if_neg hn45, if_pos hss]
        rw [hob, es]
        cases hab : argB k.toNat a
        · simp
        · have := hbd hss hab
          have e : overB o a = !decide (o ≤ 18446744073709551615 - (a - 1)) := by
            unfold overB; rw [decide_eq_true (by omega : 0 < a), Bool.eq_iff_iff]; simp; omega
          rw [e]
          cases decide (o ≤ 18446744073709551615 - (a - 1)) <;> simp
      · have es : spanB k = false := by unfold spanB; exact decide_eq_false hs
        have hob : objB k.toNat o a = true := by unfold objB; rw [if_neg hn45, if_neg (by rw [k2, k3]; omega)]
        rw [hob, es]
        cases argB k.toNat a <;> simp
end Go.Proofs.YtbflkdbimgakpaaDoor.E6
