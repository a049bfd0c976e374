/-
  argMayBe, objMayBe, stackMayBe.
-/
import Derived.Test.YtbflkdbimgakpaaDoorEvt
namespace Go.Proofs.YtbflkdbimgakpaaDoor.E6
open Go.RowKit Go.Maps Go.Shelf
abbrev lo (k : Nat) : Int := rlo (ksort k)
abbrev hi (k : Nat) : Int := rhi (ksort k)
def argB (k : Nat) (a : Int) : Bool := decide (lo k ≤ a ∧ a ≤ hi k)
theorem ksort_lt (k : Nat) (hk : k < 23) : ksort k < 9 := by
  have : ∀ k : Fin 23, ksort k.1 < 9 := by decide
  exact this ⟨k, hk⟩
theorem rlo_nonneg (s : Nat) (hs : s < 9) : 0 ≤ rlo s ∧ rlo s ≤ 1 := by
  have : ∀ k : Fin 9, 0 ≤ rlo k.1 ∧ rlo k.1 ≤ 1 := by decide
  exact this ⟨s, hs⟩
abbrev evV (g k o a : Int) (sa : Option Addr) (sn sc : Nat) : Value := .agg #[.int .i64 g, .int .i64 k, .int .u64 o, .int .u64 a, .slice sa sn sc]
theorem arg_any (g : Int) (k : Nat) (o a : Int) (sa : Option Addr) (sn sc : Nat) (w : World) (h : Kr w) (hk : k < 23) :
    Calls Tryd.prog 33 #[.agg #[.int .i64 g, .int .i64 (k : Int), .int .u64 o, .int .u64 a, .slice sa sn sc]] w fun e w' => e = .returned (.bool (argB k a)) ∧ Below w.heap.size w w' := by
  have hkI : (k : Int) < 23 := by omega
  obtain ⟨W1, hW1⟩ : ∃ W1, W1 = w.alloc (.cells #[.int .i64 g, .int .i64 (k : Int), .int .u64 o, .int .u64 a, .slice sa sn sc] 25) := ⟨_, rfl⟩
  have hb1 : Below w.heap.size w W1 := by rw [hW1]; exact (Below.refl _ w).alloc (Nat.le_refl _) _
  have h1 := h.below hb1 (by have := h.size; omega)
  have r1 : W1.heap[w.heap.size]? = some (.cells #[.int .i64 g, .int .i64 (k : Int), .int .u64 o, .int .u64 a, .slice sa sn sc] 25 (0, 0)) := by rw [hW1]; exact heap_alloc_new w _
  have q1 : W1.cell? ⟨w.heap.size, 1, none⟩ = some (.int .i64 (k : Int)) := by rw [cell_of_row W1 _ 1 _ 25 (0, 0) r1]; rfl
  have q3 : W1.cell? ⟨w.heap.size, 3, none⟩ = some (.int .u64 a) := by rw [cell_of_row W1 _ 3 _ 25 (0, 0) r1]; rfl
  have hs := h1.sort k hk
  have hsl := ksort_lt k hk
  have e0 : argB k a = decide (rlo (ksort k) ≤ a ∧ a ≤ rhi (ksort k)) := rfl
  rw [e0]
  clear e0
  obtain ⟨s, hss⟩ : ∃ s, s = ksort k := ⟨_, rfl⟩
  rw [← hss] at hs hsl ⊢
  have hsI : (s : Int) < 9 := by omega
  have c0 := h1.lo s hsl
  have c1 := h1.hi s hsl
  generalize rlo s = l at c0 ⊢
  generalize rhi s = m at c1 ⊢
  have HB : Hid _ := hide hb1
  have hs' : (w.alloc (.cells #[.int .i64 g, .int .i64 (k : Int), .int .u64 o, .int .u64 a, .slice sa sn sc] 25)).cell? ⟨1, k * 2 + 1, none⟩ = some (.int .i64 (s : Int)) := by rw [← hW1]; exact hs
  clear h h1 hss hb1 r1 hs
  by_cases d1 : l ≤ a
  · by_cases d2 : a ≤ m
    · have e : decide (l ≤ a ∧ a ≤ m) = true := by simp; omega
      have e1 : decide (l ≤ a) = true := decide_eq_true d1
      have e2 : decide (a ≤ m) = true := decide_eq_true d2
      clear d1 d2
      rw [e]
      go_enter Tryd.func33, Tryd.ntmps33
      go_wp2
      rw [← hW1]
      clear hW1
      go_quiet (fail)
      go_wp2
      go_ret
      exact ⟨rfl, below_drewN HB.out _⟩
    · have e : decide (l ≤ a ∧ a ≤ m) = false := by simp; omega
      have e1 : decide (l ≤ a) = true := decide_eq_true d1
      have e2 : decide (a ≤ m) = false := decide_eq_false d2
      clear d1 d2
      rw [e]
      go_enter Tryd.func33, Tryd.ntmps33
      go_wp2
      rw [← hW1]
      clear hW1
      go_quiet (fail)
      go_wp2
      go_ret
      exact ⟨rfl, below_drewN HB.out _⟩
  · have e : decide (l ≤ a ∧ a ≤ m) = false := by simp; omega
    have e1 : decide (l ≤ a) = false := decide_eq_false d1
    clear d1
    rw [e]
    go_enter Tryd.func33, Tryd.ntmps33
    go_wp2
    rw [← hW1]
    clear hW1
    go_quiet (fail)
    go_wp2
    go_ret
    exact ⟨rfl, below_drewN HB.out _⟩
theorem SRow.bel {w w' : World} {a : Option Addr} {n : Nat} {L : List ByteArray} (h : SRow w a n L) (hb : Below w.heap.size w w') : SRow w' a n L := h.but (T := fun _ => False) (But.of_below hb) (fun _ _ _ _ e => e)
def objB (k : Nat) (o a : Int) : Bool := if ksort k = 4 ∨ ksort k = 5 then (o == 0) else if ksort k = 2 ∨ ksort k = 3 then !argB k a || decide (o ≤ 18446744073709551615 - (a - 1)) else true
theorem argB_bd {k : Nat} {a : Int} (hs : ksort k = 2 ∨ ksort k = 3) (h : argB k a = true) : 1 ≤ a ∧ a ≤ 65536 := by
  have h' : rlo (ksort k) ≤ a ∧ a ≤ rhi (ksort k) := of_decide_eq_true h
  rcases hs with e | e <;> rw [e] at h' <;> simp [rlo, rhi, rlos, rhis] at h' <;> omega
set_option maxRecDepth 4000 in
theorem obj_any (g : Int) (k : Nat) (o a : Int) (sa : Option Addr) (sn sc : Nat) (w : World) (h : Kr w) (hk : k < 23) :
    Calls Tryd.prog 32 #[.agg #[.int .i64 g, .int .i64 (k : Int), .int .u64 o, .int .u64 a, .slice sa sn sc]] w fun e w' => e = .returned (.bool (objB k o a)) ∧ Below w.heap.size w w' := by
  have hkI : (k : Int) < 23 := by omega
  obtain ⟨W1, hW1⟩ : ∃ W1, W1 = w.alloc (.cells #[.int .i64 g, .int .i64 (k : Int), .int .u64 o, .int .u64 a, .slice sa sn sc] 25) := ⟨_, rfl⟩
  have hb1 : Below w.heap.size w W1 := by rw [hW1]; exact (Below.refl _ w).alloc (Nat.le_refl _) _
  have h1 := h.below hb1 (by have := h.size; omega)
  have hs := h1.sort k hk
  have hsl := ksort_lt k hk
  have HQ : Hid (Calls Tryd.prog 33 #[.agg #[.int .i64 g, .int .i64 (k : Int), .int .u64 o, .int .u64 a, .slice sa sn sc]] W1 fun e w' => e = .returned (.bool (argB k a)) ∧ Below W1.heap.size W1 w') := hide (arg_any g k o a sa sn sc W1 h1 hk)
  rw [hW1] at HQ hs
  have HB : Hid _ := hide hb1
  have HW : Hid _ := hide hW1
  have hob : objB k o a = if ksort k = 4 ∨ ksort k = 5 then (o == 0) else if ksort k = 2 ∨ ksort k = 3 then !argB k a || decide (o ≤ 18446744073709551615 - (a - 1)) else true := rfl
  have hbd := @argB_bd k a
  obtain ⟨s, hss⟩ : ∃ s, s = ksort k := ⟨_, rfl⟩
  rw [← hss] at hs hsl hob hbd
  rw [hob]
  clear h h1 hss hb1 hW1 hob
  by_cases h4 : s = 4 ∨ s = 5
  · rw [if_pos h4]
    clear hbd
    rcases h4 with rfl | rfl
    · go_enter Tryd.func32, Tryd.ntmps32
      go_wp2
      go_ret
      exact ⟨rfl, by rw [← HW.out]; exact HB.out⟩
    · go_enter Tryd.func32, Tryd.ntmps32
      go_wp2
      go_ret
      exact ⟨rfl, by rw [← HW.out]; exact HB.out⟩
  · rw [if_neg h4]
    by_cases h2 : s = 2 ∨ s = 3
    · rw [if_pos h2]
      have hbd' := hbd h2
      clear hbd h4
      cases hab : argB k a
      · rw [hab] at HQ
        clear hbd' hab
        rcases h2 with rfl | rfl
        · go_enter Tryd.func32, Tryd.ntmps32
          go_wp2_with fail
          refine HQ.out.mono ?_
          rintro e w2 ⟨rfl, hb2⟩
          rw [← HW.out] at hb2
          have HB2 : Hid _ := hide (HB.out.trans (hb2.mono HB.out.size))
          clear hb2
          go_wp2
          go_ret
          exact ⟨rfl, HB2.out⟩
        · go_enter Tryd.func32, Tryd.ntmps32
          go_wp2_with fail
          refine HQ.out.mono ?_
          rintro e w2 ⟨rfl, hb2⟩
          rw [← HW.out] at hb2
          have HB2 : Hid _ := hide (HB.out.trans (hb2.mono HB.out.size))
          clear hb2
          go_wp2
          go_ret
          exact ⟨rfl, HB2.out⟩
      · obtain ⟨ha1, ha2⟩ := hbd' hab
        rw [hab] at HQ
        clear hbd' hab
        have w1 : IntKind.u64.wrap (a - 1) = a - 1 := by rw [IntKind.wrap_u64]; omega
        have w2 : IntKind.u64.wrap (18446744073709551615 - (a - 1)) = 18446744073709551615 - (a - 1) := by rw [IntKind.wrap_u64]; omega
        rcases h2 with rfl | rfl
        · go_enter Tryd.func32, Tryd.ntmps32
          go_wp2_with fail
          refine HQ.out.mono ?_
          rintro e w2 ⟨rfl, hb2⟩
          rw [← HW.out] at hb2
          have r1 : W1.heap[w.heap.size]? = some (.cells #[.int .i64 g, .int .i64 (k : Int), .int .u64 o, .int .u64 a, .slice sa sn sc] 25 (0, 0)) := by rw [HW.out]; exact heap_alloc_new w _
          have r2 : w2.heap[w.heap.size]? = some (.cells #[.int .i64 g, .int .i64 (k : Int), .int .u64 o, .int .u64 a, .slice sa sn sc] 25 (0, 0)) := (hb2.block _ (Array.getElem?_eq_some_iff.1 r1).1).trans r1
          have q2 : w2.cell? ⟨w.heap.size, 2, none⟩ = some (.int .u64 o) := by rw [cell_of_row w2 _ 2 _ 25 (0, 0) r2]; rfl
          have q3 : w2.cell? ⟨w.heap.size, 3, none⟩ = some (.int .u64 a) := by rw [cell_of_row w2 _ 3 _ 25 (0, 0) r2]; rfl
          have HB2 : Hid _ := hide (HB.out.trans (hb2.mono HB.out.size))
          clear hb2 r1 r2
          go_wp2
          go_ret
          exact ⟨by simp, HB2.out⟩
        · go_enter Tryd.func32, Tryd.ntmps32
          go_wp2_with fail
          refine HQ.out.mono ?_
          rintro e w2 ⟨rfl, hb2⟩
          rw [← HW.out] at hb2
          have r1 : W1.heap[w.heap.size]? = some (.cells #[.int .i64 g, .int .i64 (k : Int), .int .u64 o, .int .u64 a, .slice sa sn sc] 25 (0, 0)) := by rw [HW.out]; exact heap_alloc_new w _
          have r2 : w2.heap[w.heap.size]? = some (.cells #[.int .i64 g, .int .i64 (k : Int), .int .u64 o, .int .u64 a, .slice sa sn sc] 25 (0, 0)) := (hb2.block _ (Array.getElem?_eq_some_iff.1 r1).1).trans r1
          have q2 : w2.cell? ⟨w.heap.size, 2, none⟩ = some (.int .u64 o) := by rw [cell_of_row w2 _ 2 _ 25 (0, 0) r2]; rfl
          have q3 : w2.cell? ⟨w.heap.size, 3, none⟩ = some (.int .u64 a) := by rw [cell_of_row w2 _ 3 _ 25 (0, 0) r2]; rfl
          have HB2 : Hid _ := hide (HB.out.trans (hb2.mono HB.out.size))
          clear hb2 r1 r2
          go_wp2
          go_ret
          exact ⟨by simp, HB2.out⟩
    · rw [if_neg h2]
      have e2 : ((s : Int) == 2) = false := by rw [beq_eq_false_iff_ne]; omega
      have e3 : ((s : Int) == 3) = false := by rw [beq_eq_false_iff_ne]; omega
      have e4 : ((s : Int) == 4) = false := by rw [beq_eq_false_iff_ne]; omega
      have e5 : ((s : Int) == 5) = false := by rw [beq_eq_false_iff_ne]; omega
      clear h2 h4 hbd hsl
      go_enter Tryd.func32, Tryd.ntmps32
      go_wp2
      go_ret
      exact ⟨rfl, by rw [← HW.out]; exact HB.out⟩
def stkB (ls : List ByteArray) : Bool := decide (ls.length ≤ 16) && ls.all fun s => decide (s.size ≤ 65536)
theorem all_take_succ {ls : List ByteArray} {p : ByteArray → Bool} {k : Nat} (hk : k < ls.length) (h : (ls.take k).all p = true) (hx : p (ls.getD k ByteArray.empty) = true) : (ls.take (k + 1)).all p = true := by
  rw [List.take_add_one, getD_get hk]
  simp only [List.all_append, h, Bool.true_and]
  simpa using hx
theorem all_false {ls : List ByteArray} {p : ByteArray → Bool} {k : Nat} (hk : k < ls.length) (hx : p (ls.getD k ByteArray.empty) = false) : ls.all p = false := by
  rw [List.all_eq_false]
  exact ⟨_, List.mem_of_getElem? (getD_get hk), by rw [hx]; simp⟩
set_option maxRecDepth 4000 in
theorem stk_any (sa : Option Addr) (sn sc : Nat) (ls : List ByteArray) (w : World) (hr : SRow w sa sn ls) (hn : (sn : Int) ≤ 9223372036854775806) :
    Calls Tryd.prog 34 #[.slice sa sn sc] w fun e w' => e = .returned (.bool (stkB ls)) ∧ w' = w := by
  have HL : Hid (ls.length = sn) := hr.len
  have HS : Hid (SRow w sa sn ls) := hr
  by_cases h16 : sn ≤ 16
  · have HX : Hid (stkB ls = ls.all fun s => decide (s.size ≤ 65536)) := hide (by unfold stkB; rw [decide_eq_true (by rw [hr.len]; exact h16)]; rfl)
    have h16I : (sn : Int) ≤ 16 := by omega
    clear hr
    go_enter Tryd.func34, Tryd.ntmps34
    go_wp2
    go_loopw [10] (fun i wr => ∃ k : Nat, k ≤ sn ∧ i = .int .i64 k ∧ wr = w ∧ ((ls.take k).all fun s => decide (s.size ≤ 65536)) = true) (fun i _ => sn - (intOf i).toNat)
    case atStart => exact ⟨0, Nat.zero_le _, rfl, rfl, by simp⟩
    case round =>
      obtain ⟨k, hk, rfl, rfl, ha⟩ := hrel
      have HA : Hid _ := hide ha
      clear ha
      by_cases hlt : k < sn
      · obtain ⟨b1, o1, rfl, hc1⟩ := HS.out.at hlt
        have hkI : (k : Int) < sn := by omega
        have HT := @all_take_succ ls (fun s => decide (s.size ≤ 65536)) k (by rw [HL.out]; exact hlt) HA.out
        have HF := @all_false ls (fun s => decide (s.size ≤ 65536)) k (by rw [HL.out]; exact hlt)
        have HT' : Hid _ := hide HT
        have HF' : Hid _ := hide HF
        clear HT HF
        generalize ls.getD k ByteArray.empty = x at hc1 HT' HF'
        by_cases hx : x.size ≤ 65536
        · have hxI : (x.size : Int) ≤ 65536 := by omega
          have HN : Hid _ := hide (HT'.out (decide_eq_true hx))
          clear hx
          go_wp2
          exact ⟨⟨k + 1, by omega, by go_num, by trivial, HN.out⟩, by simp [intOf]; omega⟩
        · have hxI : (65536 : Int) < (x.size : Int) := by omega
          have HN : Hid _ := hide (HF'.out (decide_eq_false hx))
          clear hx
          go_wp2
          go_ret
          exact ⟨ret_bool (by rw [HX.out]; exact HN.out.symm), rfl⟩
      · have HN : Hid _ := hide (show (ls.all fun s => decide (s.size ≤ 65536)) = true by have := HA.out; rwa [List.take_of_length_le (by rw [HL.out]; omega)] at this)
        go_wp2
        go_ret
        exact ⟨ret_bool (by rw [HX.out]; exact HN.out.symm), rfl⟩
  · have HX : Hid (stkB ls = false) := hide (by unfold stkB; rw [decide_eq_false (by rw [hr.len]; exact h16)]; rfl)
    have h16I : (16 : Int) < sn := by omega
    clear hr
    go_enter Tryd.func34, Tryd.ntmps34
    go_wp2
    go_ret
    exact ⟨ret_bool HX.out.symm, rfl⟩
end Go.Proofs.YtbflkdbimgakpaaDoor.E6
