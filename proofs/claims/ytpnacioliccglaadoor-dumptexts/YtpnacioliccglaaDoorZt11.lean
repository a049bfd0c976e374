import Derived.Test.YtpnacioliccglaaDoorZt09
set_option maxRecDepth 8000
set_option maxHeartbeats 8000000
set_option linter.unusedVariables false
/-
  argMayBe, objMayBe, stackMayBe.
-/
namespace Go.Proofs.YtpnacioliccglaaDoor.E6
open Go.RowKit Go.Maps Go.Shelf
abbrev lo (k : Nat) : Int := rlo (ksort k)
abbrev hi (k : Nat) : Int := rhi (ksort k)
def argB (k : Nat) (a : Int) : Bool := decide (lo k ≤ a ∧ a ≤ hi k)
theorem ksort_lt (k : Nat) (hk : k < 23) : ksort k < 9 := by
  have : ∀ k : Fin 23, ksort k.1 < 9 := by decide
  exact this ⟨k, hk⟩
theorem rlo_nonneg (s : Nat) (hs : s < 9) : 0 ≤ rlo s ∧ rlo s ≤ 1 := by
  have : ∀ k : Fin 9, 0 ≤ rlo k.1 ∧ rlo k.1 ≤ 1 := by decide
  exact this ⟨s, hs⟩
abbrev evV (g k o a : Int) (sa : Option Addr) (sn sc : Nat) : Value := .agg #[.int .i64 g, .int .i64 k, .int .u64 o, .int .u64 a, .slice sa sn sc]
theorem arg_any (g : Int) (k : Nat) (o a : Int) (sa : Option Addr) (sn sc : Nat) (w : World) (h : Kr w) (hk : k < 23) :
    Calls Tryd.prog 33 #[.agg #[.int .i64 g, .int .i64 (k : Int), .int .u64 o, .int .u64 a, .slice sa sn sc]] w fun e w' => e = .returned (.bool (argB k a)) ∧ Below w.heap.size w w' := by
  have hkI : (k : Int) < 23 := by omega
  obtain ⟨W1, hW1⟩ : ∃ W1, W1 = w.alloc (.cells #[.int .i64 g, .int .i64 (k : Int), .int .u64 o, .int .u64 a, .slice sa sn sc] 25) := ⟨_, rfl⟩
  have hb1 : Below w.heap.size w W1 := by rw [hW1]; exact (Below.refl _ w).alloc (Nat.le_refl _) _
  have h1 := h.below hb1 (by have := h.size; omega)
  have r1 : W1.heap[w.heap.size]? = some (.cells #[.int .i64 g, .int .i64 (k : Int), .int .u64 o, .int .u64 a, .slice sa sn sc] 25 (0, 0)) := by rw [hW1]; exact heap_alloc_new w _
  have q1 : W1.cell? ⟨w.heap.size, 1, none⟩ = some (.int .i64 (k : Int)) := by rw [cell_of_row W1 _ 1 _ 25 (0, 0) r1]; rfl
  have q3 : W1.cell? ⟨w.heap.size, 3, none⟩ = some (.int .u64 a) := by rw [cell_of_row W1 _ 3 _ 25 (0, 0) r1]; rfl
  have hs := h1.sort k hk
  have hsl := ksort_lt k hk
  have e0 : argB k a = decide (rlo (ksort k) ≤ a ∧ a ≤ rhi (ksort k)) := rfl
  rw [e0]
  clear e0
  obtain ⟨s, hss⟩ : ∃ s, s = ksort k := ⟨_, rfl⟩
  rw [← hss] at hs hsl ⊢
  have hsI : (s : Int) < 9 := by omega
  have c0 := h1.lo s hsl
  have c1 := h1.hi s hsl
  generalize rlo s = l at c0 ⊢
  generalize rhi s = m at c1 ⊢
  have HB : Hid _ := hide hb1
  have hs' : (w.alloc (.cells #[.int .i64 g, .int .i64 (k : Int), .int .u64 o, .int .u64 a, .slice sa sn sc] 25)).cell? ⟨1, k * 2 + 1, none⟩ = some (.int .i64 (s : Int)) := by rw [← hW1]; exact hs
  clear h h1 hss hb1 r1 hs
  by_cases d1 : l ≤ a
  · by_cases d2 : a ≤ m
    · have e : decide (l ≤ a ∧ a ≤ m) = true := by simp; omega
      have e1 : decide (l ≤ a) = true := decide_eq_true d1
      have e2 : decide (a ≤ m) = true := decide_eq_true d2
      clear d1 d2
      rw [e]
      go_enter Tryd.func33, Tryd.ntmps33
      go_wp2
      rw [← hW1]
      clear hW1
      go_quiet (fail)
      go_wp2
      go_ret
      exact ⟨rfl, below_drewN HB.out _⟩
    · have e : decide (l ≤ a ∧ a ≤ m) = false := by simp; omega
      have e1 : decide (l ≤ a) = true := decide_eq_true d1
      have e2 : decide (a ≤ m) = false := decide_eq_false d2
      clear d1 d2
      rw [e]
      go_enter Tryd.func33, Tryd.ntmps33
      go_wp2
      rw [← hW1]
      clear hW1
      go_quiet (fail)
      go_wp2
      go_ret
      exact ⟨rfl, below_drewN HB.out _⟩
  · have e : decide (l ≤ a ∧ a ≤ m) = false := by simp; omega
    have e1 : decide (l ≤ a) = false := decide_eq_false d1
    clear d1
    rw [e]
    go_enter Tryd.func33, Tryd.ntmps33
    go_wp2
    rw [← hW1]
    clear hW1
    go_quiet (fail)
    go_wp2
    go_ret
    exact ⟨rfl, below_drewN HB.out _⟩
theorem SRow.bel {w w' : World} {a : Option Addr} {n : Nat} {L : List ByteArray} (h : SRow w a n L) (hb : Below w.heap.size w w') : SRow w' a n L := h.but (T := fun _ => False) (But.of_below hb) (fun _ _ _ _ e => e)
def objB (k : Nat) (o a : Int) : Bool := if ksort k = 4 ∨ ksort k = 5 then (o == 0) else if ksort k = 2 ∨ ksort k = 3 then !argB k a || decide (o ≤ 18446744073709551615 - (a - 1)) else true
theorem argB_bd {k : Nat} {a : Int} (hs : ksort k = 2 ∨ ksort k = 3) (h : argB k a = true) : 1 ≤ a ∧ a ≤ 65536 := by
  have h' : rlo (ksort k) ≤ a ∧ a ≤ rhi (ksort k) := of_decide_eq_true h
  rcases hs with e | e <;> rw [e] at h' <;> simp [rlo, rhi, rlos, rhis] at h' <;> omega
set_option maxRecDepth 4000 in
theorem obj_any (g : Int) (k : Nat) (o a : Int) (sa : Option Addr) (sn sc : Nat) (w : World) (h : Kr w) (hk : k < 23) :
    Calls Tryd.prog 32 #[.agg #[.int .i64 g, .int .i64 (k : Int), .int .u64 o, .int .u64 a, .slice sa sn sc]] w fun e w' => e = .returned (.bool (objB k o a)) ∧ Below w.heap.size w w' := by
  have hkI : (k : Int) < 23 := by omega
  obtain ⟨W1, hW1⟩ : ∃ W1, W1 = w.alloc (.cells #[.int .i64 g, .int .i64 (k : Int), .int .u64 o, .int .u64 a, .slice sa sn sc] 25) := ⟨_, rfl⟩
  have hb1 : Below w.heap.size w W1 := by rw [hW1]; exact (Below.refl _ w).alloc (Nat.le_refl _) _
  have h1 := h.below hb1 (by have := h.size; omega)
  have hs := h1.sort k hk
  have hsl := ksort_lt k hk
  have HQ : Hid (Calls Tryd.prog 33 #[.agg #[.int .i64 g, .int .i64 (k : Int), .int .u64 o, .int .u64 a, .slice sa sn sc]] W1 fun e w' => e = .returned (.bool (argB k a)) ∧ Below W1.heap.size W1 w') := hide (arg_any g k o a sa sn sc W1 h1 hk)
  rw [hW1] at HQ hs
  have HB : Hid _ := hide hb1
  have HW : Hid _ := hide hW1
  have hob : objB k o a = if ksort k = 4 ∨ ksort k = 5 then (o == 0) else if ksort k = 2 ∨ ksort k = 3 then !argB k a || decide (o ≤ 18446744073709551615 - (a - 1)) else true := rfl
  have hbd := @argB_bd k a
  obtain ⟨s, hss⟩ : ∃ s, s = ksort k := ⟨_, rfl⟩
  rw [← hss] at hs hsl hob hbd
  rw [hob]
  clear h h1 hss hb1 hW1 hob
  by_cases h4 : s = 4 ∨ s = 5
  · rw [if_pos h4]
    clear hbd
    rcases h4 with rfl | rfl
    · go_enter Tryd.func32, Tryd.ntmps32
      go_wp2
      go_ret
      exact ⟨rfl, by rw [← HW.out]; exact HB.out⟩
    · go_enter Tryd.func32, Tryd.ntmps32
      go_wp2
      go_ret
      exact ⟨rfl, by rw [← HW.out]; exact HB.out⟩
  · rw [if_neg h4]
    by_cases h2 : s = 2 ∨ s = 3
    · rw [if_pos h2]
      have hbd' := hbd h2
      clear hbd h4
      cases hab : argB k a
      · rw [hab] at HQ
        clear hbd' hab
        rcases h2 with rfl | rfl
        · go_enter Tryd.func32, Tryd.ntmps32
          go_wp2_with fail
          refine HQ.out.mono ?_
          rintro e w2 ⟨rfl, hb2⟩
          rw [← HW.out] at hb2
          have HB2 : Hid _ := hide (HB.out.trans (hb2.mono HB.out.size))
          clear hb2
          go_wp2
          go_ret
          exact ⟨rfl, HB2.out⟩
        · go_enter Tryd.func32, Tryd.ntmps32
          go_wp2_with fail
          refine HQ.out.mono ?_
          rintro e w2 ⟨rfl, hb2⟩
          rw [← HW.out] at hb2
          have HB2 : Hid _ := hide (HB.out.trans (hb2.mono HB.out.size))
          clear hb2
          go_wp2
          go_ret
          exact ⟨rfl, HB2.out⟩
      · obtain ⟨ha1, ha2⟩ := hbd' hab
        rw [hab] at HQ
        clear hbd' hab
        have w1 : IntKind.u64.wrap (a - 1) = a - 1 := by rw [IntKind.wrap_u64]; omega
        have w2 : IntKind.u64.wrap (18446744073709551615 - (a - 1)) = 18446744073709551615 - (a - 1) := by rw [IntKind.wrap_u64]; omega
        rcases h2 with rfl | rfl
        · go_enter Tryd.func32, Tryd.ntmps32
          go_wp2_with fail
          refine HQ.out.mono ?_
          rintro e w2 ⟨rfl, hb2⟩
          rw [← HW.out] at hb2
          have r1 : W1.heap[w.heap.size]? = some (.cells #[.int .i64 g, .int .i64 (k : Int), .int .u64 o, .int .u64 a, .slice sa sn sc] 25 (0, 0)) := by rw [HW.out]; exact heap_alloc_new w _
          have r2 : w2.heap[w.heap.size]? = some (.cells #[.int .i64 g, .int .i64 (k : Int), .int .u64 o, .int .u64 a, .slice sa sn sc] 25 (0, 0)) := (hb2.block _ (Array.getElem?_eq_some_iff.1 r1).1).trans r1
          have q2 : w2.cell? ⟨w.heap.size, 2, none⟩ = some (.int .u64 o) := by rw [cell_of_row w2 _ 2 _ 25 (0, 0) r2]; rfl
          have q3 : w2.cell? ⟨w.heap.size, 3, none⟩ = some (.int .u64 a) := by rw [cell_of_row w2 _ 3 _ 25 (0, 0) r2]; rfl
          have HB2 : Hid _ := hide (HB.out.trans (hb2.mono HB.out.size))
          clear hb2 r1 r2
          go_wp2
          go_ret
          exact ⟨by simp, HB2.out⟩
        · go_enter Tryd.func32, Tryd.ntmps32
          go_wp2_with fail
          refine HQ.out.mono ?_
          rintro e w2 ⟨rfl, hb2⟩
          rw [← HW.out] at hb2
          have r1 : W1.heap[w.heap.size]? = some (.cells #[.int .i64 g, .int .i64 (k : Int), .int .u64 o, .int .u64 a, .slice sa sn sc] 25 (0, 0)) := by rw [HW.out]; exact heap_alloc_new w _
          have r2 : w2.heap[w.heap.size]? = some (.cells #[.int .i64 g, .int .i64 (k : Int), .int .u64 o, .int .u64 a, .slice sa sn sc] 25 (0, 0)) := (hb2.block _ (Array.getElem?_eq_some_iff.1 r1).1).trans r1
          have q2 : w2.cell? ⟨w.heap.size, 2, none⟩ = some (.int .u64 o) := by rw [cell_of_row w2 _ 2 _ 25 (0, 0) r2]; rfl
          have q3 : w2.cell? ⟨w.heap.size, 3, none⟩ = some (.int .u64 a) := by rw [cell_of_row w2 _ 3 _ 25 (0, 0) r2]; rfl
          have HB2 : Hid _ := hide (HB.out.trans (hb2.mono HB.out.size))
          clear hb2 r1 r2
          go_wp2
          go_ret
          exact ⟨by simp, HB2.out⟩
    · rw [if_neg h2]
      have e2 : ((s : Int) == 2) = false := by rw [beq_eq_false_iff_ne]; omega
      have e3 : ((s : Int) == 3) = false := by rw [beq_eq_false_iff_ne]; omega
      have e4 : ((s : Int) == 4) = false := by rw [beq_eq_false_iff_ne]; omega
      have e5 : ((s : Int) == 5) = false := by rw [beq_eq_false_iff_ne]; omega
      clear h2 h4 hbd hsl
      go_enter Tryd.func32, Tryd.ntmps32
      go_wp2
      go_ret
      exact ⟨rfl, by rw [← HW.out]; exact HB.out⟩
def stkB (ls : List ByteArray) : Bool := decide (ls.length ≤ 16) && ls.all fun s => decide (s.size ≤ 65536)
theorem all_take_succ {ls : List ByteArray} {p : ByteArray → Bool} {k : Nat} (hk : k < ls.length) (h : (ls.take k).all p = true) (hx : p (ls.getD k ByteArray.empty) = true) : (ls.take (k + 1)).all p = true := by
  rw [List.take_add_one, getD_get hk]
  simp only [List.all_append, h, Bool.true_and]
  simpa using hx
theorem all_false {ls : List ByteArray} {p : ByteArray → Bool} {k : Nat} (hk : k < ls.length) (hx : p (ls.getD k ByteArray.empty) = false) : ls.all p = false := by
  rw [List.all_eq_false]
  exact ⟨_, List.mem_of_getElem? (getD_get hk), by rw [hx]; simp⟩
set_option maxRecDepth 4000 in
theorem stk_any (sa : Option Addr) (sn sc : Nat) (ls : List ByteArray) (w : World) (hr : SRow w sa sn ls) (hn : (sn : Int) ≤ 9223372036854775806) :
    Calls Tryd.prog 34 #[.slice sa sn sc] w fun e w' => e = .returned (.bool (stkB ls)) ∧ w' = w := by
  have HL : Hid (ls.length = sn) := hr.len
  have HS : Hid (SRow w sa sn ls) := hr
  by_cases h16 : sn ≤ 16
  · have HX : Hid (stkB ls = ls.all fun s => decide (s.size ≤ 65536)) := hide (by unfold stkB; rw [decide_eq_true (by rw [hr.len]; exact h16)]; rfl)
    have h16I : (sn : Int) ≤ 16 := by omega
    clear hr
    go_enter Tryd.func34, Tryd.ntmps34
    go_wp2
    go_loopw [10] (fun i wr => ∃ k : Nat, k ≤ sn ∧ i = .int .i64 k ∧ wr = w ∧ ((ls.take k).all fun s => decide (s.size ≤ 65536)) = true) (fun i _ => sn - (intOf i).toNat)
    case atStart => exact ⟨0, Nat.zero_le _, rfl, rfl, by simp⟩
    case round =>
      obtain ⟨k, hk, rfl, rfl, ha⟩ := hrel
      have HA : Hid _ := hide ha
      clear ha
      by_cases hlt : k < sn
      · obtain ⟨b1, o1, rfl, hc1⟩ := HS.out.at hlt
        have hkI : (k : Int) < sn := by omega
        have HT := @all_take_succ ls (fun s => decide (s.size ≤ 65536)) k (by rw [HL.out]; exact hlt) HA.out
        have HF := @all_false ls (fun s => decide (s.size ≤ 65536)) k (by rw [HL.out]; exact hlt)
        have HT' : Hid _ := hide HT
        have HF' : Hid _ := hide HF
        clear HT HF
        generalize ls.getD k ByteArray.empty = x at hc1 HT' HF'
        by_cases hx : x.size ≤ 65536
        · have hxI : (x.size : Int) ≤ 65536 := by omega
          have HN : Hid _ := hide (HT'.out (decide_eq_true hx))
          clear hx
          go_wp2
          exact ⟨⟨k + 1, by omega, by go_num, by trivial, HN.out⟩, by simp [intOf]; omega⟩
        · have hxI : (65536 : Int) < (x.size : Int) := by omega
          have HN : Hid _ := hide (HF'.out (decide_eq_false hx))
          clear hx
          go_wp2
          go_ret
          exact ⟨ret_bool (by rw [HX.out]; exact HN.out.symm), rfl⟩
      · have HN : Hid _ := hide (show (ls.all fun s => decide (s.size ≤ 65536)) = true by have := HA.out; rwa [List.take_of_length_le (by rw [HL.out]; omega)] at this)
        go_wp2
        go_ret
        exact ⟨ret_bool (by rw [HX.out]; exact HN.out.symm), rfl⟩
  · have HX : Hid (stkB ls = false) := hide (by unfold stkB; rw [decide_eq_false (by rw [hr.len]; exact h16)]; rfl)
    have h16I : (16 : Int) < sn := by omega
    clear hr
    go_enter Tryd.func34, Tryd.ntmps34
    go_wp2
    go_ret
    exact ⟨ret_bool HX.out.symm, rfl⟩
end Go.Proofs.YtpnacioliccglaaDoor.E6
/-
  Check, Access, Clash.
-/
namespace Go.Proofs.YtpnacioliccglaaDoor.E6
open Go.RowKit Go.Maps Go.Shelf
/-- An event lies in block b. -/
def EvB (w : World) (b : Nat) (g k o a : Int) (sa : Option Addr) (sn sc : Nat) : Prop := w.heap[b]? = some (.cells #[.int .i64 g, .int .i64 k, .int .u64 o, .int .u64 a, .slice sa sn sc] 25 (0, 0))
section
variable {w w' : World} {b B : Nat} {g k o a : Int} {sa : Option Addr} {sn sc : Nat}
theorem EvB.new : EvB (w.alloc (.cells #[.int .i64 g, .int .i64 k, .int .u64 o, .int .u64 a, .slice sa sn sc] 25)) w.heap.size g k o a sa sn sc := heap_alloc_new w _
theorem EvB.lt (h : EvB w b g k o a sa sn sc) : b < w.heap.size := (Array.getElem?_eq_some_iff.1 h).1
theorem EvB.below (h : EvB w b g k o a sa sn sc) (hb : Below w.heap.size w w') : EvB w' b g k o a sa sn sc := (hb.block b h.lt).trans h
theorem EvB.c0 (h : EvB w b g k o a sa sn sc) : w.cell? ⟨b, 0, none⟩ = some (.int .i64 g) := by rw [cell_of_row w b 0 _ 25 (0, 0) h]; rfl
theorem EvB.c1 (h : EvB w b g k o a sa sn sc) : w.cell? ⟨b, 1, none⟩ = some (.int .i64 k) := by rw [cell_of_row w b 1 _ 25 (0, 0) h]; rfl
theorem EvB.c2 (h : EvB w b g k o a sa sn sc) : w.cell? ⟨b, 2, none⟩ = some (.int .u64 o) := by rw [cell_of_row w b 2 _ 25 (0, 0) h]; rfl
theorem EvB.c3 (h : EvB w b g k o a sa sn sc) : w.cell? ⟨b, 3, none⟩ = some (.int .u64 a) := by rw [cell_of_row w b 3 _ 25 (0, 0) h]; rfl
theorem EvB.c4 (h : EvB w b g k o a sa sn sc) : w.cell? ⟨b, 4, none⟩ = some (.slice sa sn sc) := by rw [cell_of_row w b 4 _ 25 (0, 0) h]; rfl
end
def chk (g k o a : Int) (ls : List ByteArray) : Int :=
  if 1 ≤ k ∧ k ≤ 22 then if g < 0 ∨ 65536 ≤ g then 61 else if objB k.toNat o a then if argB k.toNat a then if stkB ls then 0 else 64 else 63 else 62 else 60
theorem below_new (w : World) (ob : Obj) : Below w.heap.size w (w.alloc ob) := (Below.refl _ w).alloc (Nat.le_refl _) _
set_option maxRecDepth 4000 in
theorem check_any (g k o a : Int) (sa : Option Addr) (sn sc : Nat) (ls : List ByteArray) (w : World) (h : Kr w) (hr : SRow w sa sn ls) (hn : (sn : Int) ≤ 9223372036854775806) :
    Calls Tryd.prog 18 #[.agg #[.int .i64 g, .int .i64 k, .int .u64 o, .int .u64 a, .slice sa sn sc]] w fun e w' => e = .returned (.int .i64 (chk g k o a ls)) ∧ Below w.heap.size w w' := by
  obtain ⟨R, hR⟩ : ∃ R, R = chk g k o a ls := ⟨_, rfl⟩
  rw [← hR]
  unfold chk at hR
  have hB : Below w.heap.size w (w.alloc (.cells #[.int .i64 g, .int .i64 k, .int .u64 o, .int .u64 a, .slice sa sn sc] 25)) := below_new w _
  have HB : Hid _ := hide hB
  have HK1 : Hid _ := hide (h.below hB (by have := h.size; omega))
  have HS1 : Hid _ := hide (hr.bel hB)
  have HE1 : Hid _ := hide (EvB.new (w := w) (g := g) (k := k) (o := o) (a := a) (sa := sa) (sn := sn) (sc := sc))
  have HQ : Hid _ := hide (kn_any k (w.alloc (.cells #[.int .i64 g, .int .i64 k, .int .u64 o, .int .u64 a, .slice sa sn sc] 25)))
  clear hB h hr
  by_cases hk : 1 ≤ k ∧ k ≤ 22
  · rw [if_pos hk] at hR
    rw [decide_eq_true hk] at HQ
    by_cases hg : g < 0 ∨ 65536 ≤ g
    · rw [if_pos hg] at hR
      subst hR
      rcases hg with hg | hg
      · go_enter Tryd.func18, Tryd.ntmps18
        go_wp2_with fail
        refine HQ.out.mono ?_
        rintro e w' ⟨rfl, rfl⟩
        go_wp2
        go_ret
        exact ⟨rfl, HB.out⟩
      · have hg0 : decide (g < 0) = false := by simp; omega
        go_enter Tryd.func18, Tryd.ntmps18
        go_wp2_with fail
        refine HQ.out.mono ?_
        rintro e w' ⟨rfl, rfl⟩
        go_wp2
        go_ret
        exact ⟨rfl, HB.out⟩
    · rw [if_neg hg] at hR
      have g1 : decide (g < 0) = false := by simp; omega
      have g2 : decide (65536 ≤ g) = false := by simp; omega
      have HR : Hid _ := hide hR
      clear hR hg
      obtain ⟨m, rfl⟩ : ∃ m : Nat, k = m := ⟨k.toNat, by omega⟩
      have hm : m < 23 := by omega
      rw [Int.toNat_natCast] at HR
      have HO : Hid _ := hide (obj_any g m o a sa sn sc _ HK1.out hm)
      clear hk
      go_enter Tryd.func18, Tryd.ntmps18
      go_wp2_with fail
      refine HQ.out.mono ?_
      rintro e w' ⟨rfl, rfl⟩
      go_wp2_with fail
      refine HO.out.mono ?_
      rintro e w2 ⟨rfl, hb2⟩
      have HB2 : Hid _ := hide (HB.out.trans (hb2.mono HB.out.size))
      have HK2 : Hid _ := hide (HK1.out.below hb2 (by have := HK1.out.size; omega))
      have HE2 : Hid _ := hide (HE1.out.below hb2)
      have HS2 : Hid _ := hide (HS1.out.bel hb2)
      clear HQ HO hb2 HB HK1 HE1 HS1 g1 g2
      cases hob : objB m o a
      · have HN : Hid (R = 62) := hide (by rw [HR.out, hob]; rfl)
        go_wp2
        go_ret
        exact ⟨by rw [HN.out]; rfl, HB2.out⟩
      · rw [hob] at HR
        simp only [if_true] at HR
        have HA : Hid _ := hide (arg_any g m o a sa sn sc w2 HK2.out hm)
        have q0 := HE2.out.c0
        have q1 := HE2.out.c1
        have q2 := HE2.out.c2
        have q3 := HE2.out.c3
        have q4 := HE2.out.c4
        go_wp2_with fail
        refine HA.out.mono ?_
        rintro e w3 ⟨rfl, hb3⟩
        have HB3 : Hid _ := hide (HB2.out.trans (hb3.mono HB2.out.size))
        have HE3 : Hid _ := hide (HE2.out.below hb3)
        have HS3 : Hid _ := hide (HS2.out.bel hb3)
        clear HA hb3 HB2 HK2 HE2 HS2 q0 q1 q2 q3 q4
        cases hab : argB m a
        · have HN : Hid (R = 63) := hide (by rw [HR.out, hab]; rfl)
          go_wp2
          go_ret
          exact ⟨by rw [HN.out]; rfl, HB3.out⟩
        · rw [hab] at HR
          simp only [if_true] at HR
          have q4 := HE3.out.c4
          have HT : Hid _ := hide (stk_any sa sn sc ls w3 HS3.out hn)
          go_wp2_with fail
          refine HT.out.mono ?_
          rintro e w4 ⟨rfl, rfl⟩
          cases hst : stkB ls
          · have HN : Hid (R = 64) := hide (by rw [HR.out, hst]; rfl)
            go_wp2
            go_ret
            exact ⟨by rw [HN.out]; rfl, HB3.out⟩
          · have HN : Hid (R = 0) := hide (by rw [HR.out, hst]; rfl)
            go_wp2
            go_ret
            exact ⟨by rw [HN.out]; rfl, HB3.out⟩
  · rw [if_neg hk] at hR
    rw [decide_eq_false hk] at HQ
    subst hR
    clear hk
    go_enter Tryd.func18, Tryd.ntmps18
    go_wp2_with fail
    refine HQ.out.mono ?_
    rintro e w' ⟨rfl, rfl⟩
    go_wp2
    go_ret
    exact ⟨rfl, HB.out⟩
end Go.Proofs.YtpnacioliccglaaDoor.E6
/-
  The document's args, spans, over, Check.
-/
namespace Go.Proofs.YtpnacioliccglaaDoor.E6
open Go.RowKit Go.Maps Go.Shelf
theorem kinds_cases {k : Int} (h : 1 ≤ k ∧ k ≤ 22) : k = 1 ∨ k = 2 ∨ k = 3 ∨ k = 4 ∨ k = 5 ∨ k = 6 ∨ k = 7 ∨ k = 8 ∨ k = 9 ∨ k = 10 ∨ k = 11 ∨ k = 12 ∨ k = 13 ∨ k = 14 ∨ k = 15 ∨ k = 16 ∨ k = 17 ∨ k = 18 ∨ k = 19 ∨ k = 20 ∨ k = 21 ∨ k = 22 := by omega
theorem rargs_any (k : Int) (w : World) (h : 1 ≤ k ∧ k ≤ 22) : Calls Tryd.prog 38 #[.int .i64 k] w fun e w' => e = .returned (.tuple #[.int .u64 (rlo (ksort k.toNat)), .int .u64 (rhi (ksort k.toNat))]) ∧ w' = w := by
  rcases kinds_cases h with rfl | rfl | rfl | rfl | rfl | rfl | rfl | rfl | rfl | rfl | rfl | rfl | rfl | rfl | rfl | rfl | rfl | rfl | rfl | rfl | rfl | rfl <;> (
    go_enter Tryd.func38, Tryd.ntmps38
    go_wp2
    go_ret2
    exact ⟨rfl, rfl⟩)
def spanB (k : Int) : Bool := decide (k = 1 ∨ k = 2 ∨ k = 20 ∨ k = 21)
theorem rspans_any (k : Int) (w : World) : Calls Tryd.prog 39 #[.int .i64 k] w fun e w' => e = .returned (.bool (spanB k)) ∧ w' = w := by
  by_cases h1 : k = 1
  · subst h1
    go_enter Tryd.func39, Tryd.ntmps39
    go_wp2
    go_ret
    exact ⟨rfl, rfl⟩
  · by_cases h2 : k = 2
    · subst h2
      go_enter Tryd.func39, Tryd.ntmps39
      go_wp2
      go_ret
      exact ⟨rfl, rfl⟩
    · by_cases h3 : k = 20
      · subst h3
        go_enter Tryd.func39, Tryd.ntmps39
        go_wp2
        go_ret
        exact ⟨rfl, rfl⟩
      · have e1 : (k == 1) = false := by rw [beq_eq_false_iff_ne]; exact h1
        have e2 : (k == 2) = false := by rw [beq_eq_false_iff_ne]; exact h2
        have e3 : (k == 20) = false := by rw [beq_eq_false_iff_ne]; exact h3
        have HN : Hid (spanB k = (k == 21)) := hide (by unfold spanB; rw [Bool.eq_iff_iff]; simp; omega)
        generalize spanB k = s at HN ⊢
        clear h1 h2 h3
        go_enter Tryd.func39, Tryd.ntmps39
        go_wp2
        go_ret
        exact ⟨by rw [HN.out]; rfl, rfl⟩
def overB (o a : Int) : Bool := decide (0 < a) && decide (18446744073709551615 - o < a - 1)
theorem rover_any (g k o a : Int) (sa : Option Addr) (sn sc : Nat) (w : World) (ho : 0 ≤ o ∧ o ≤ 18446744073709551615) (ha : 0 ≤ a ∧ a ≤ 18446744073709551615) :
    Calls Tryd.prog 40 #[.agg #[.int .i64 g, .int .i64 k, .int .u64 o, .int .u64 a, .slice sa sn sc]] w fun e w' => e = .returned (.bool (overB o a)) ∧ Below w.heap.size w w' := by
  have HB : Hid _ := hide (below_new w (.cells #[.int .i64 g, .int .i64 k, .int .u64 o, .int .u64 a, .slice sa sn sc] 25))
  obtain ⟨ho1, ho2⟩ := ho
  obtain ⟨ha1, ha2⟩ := ha
  have w1 : IntKind.u64.wrap (18446744073709551615 - o) = 18446744073709551615 - o := by rw [IntKind.wrap_u64]; omega
  by_cases h : 0 < a
  · have w2 : IntKind.u64.wrap (a - 1) = a - 1 := by rw [IntKind.wrap_u64]; omega
    have e : overB o a = decide (18446744073709551615 - o < a - 1) := by unfold overB; rw [decide_eq_true h]; rfl
    rw [e]
    clear e
    go_enter Tryd.func40, Tryd.ntmps40
    go_wp2
    go_ret
    exact ⟨rfl, HB.out⟩
  · have e : overB o a = false := by unfold overB; rw [decide_eq_false h]; rfl
    rw [e]
    clear e
    go_enter Tryd.func40, Tryd.ntmps40
    go_wp2
    go_ret
    exact ⟨rfl, HB.out⟩
/-- Check by its flags. -/
def chkF (x7 x8 z sp ov fits st : Bool) : Int := if (x7 || x8) && z then 62 else if sp && fits && ov then 62 else if !fits then 63 else if st then 0 else 64
theorem ksort_of {k : Int} (h : 1 ≤ k ∧ k ≤ 22) : (ksort k.toNat = 4 ↔ k = 7) ∧ (ksort k.toNat = 5 ↔ k = 8) ∧ (ksort k.toNat = 2 ↔ k = 1 ∨ k = 2) ∧ (ksort k.toNat = 3 ↔ k = 20 ∨ k = 21) := by
  rcases kinds_cases h with rfl | rfl | rfl | rfl | rfl | rfl | rfl | rfl | rfl | rfl | rfl | rfl | rfl | rfl | rfl | rfl | rfl | rfl | rfl | rfl | rfl | rfl <;> decide
theorem chk_flags {g k o a : Int} {ls : List ByteArray} (hk : 1 ≤ k ∧ k ≤ 22) (hg : ¬ (g < 0 ∨ 65536 ≤ g)) : chk g k o a ls = chkF (k == 7) (k == 8) (o != 0) (spanB k) (overB o a) (argB k.toNat a) (stkB ls) := by
  unfold chk chkF
  rw [if_pos hk, if_neg hg]
  obtain ⟨k4, k5, k2, k3⟩ := ksort_of hk
  have hbd := @argB_bd k.toNat a
  by_cases h7 : k = 7
  · have e4 := k4.2 h7
    have e8 : (k == 8) = false := by rw [beq_eq_false_iff_ne]; omega
    have es : spanB k = false := by unfold spanB; rw [decide_eq_false_iff_not]; omega
    have hob : objB k.toNat o a = (o == 0) := by unfold objB; rw [if_pos (.inl e4)]
    rw [hob, e8, es, show (k == 7) = true by rw [beq_iff_eq]; exact h7]
    rw [bne]
    generalize (o == 0) = y
    cases y <;> cases argB k.toNat a <;> cases stkB ls <;> rfl
  · by_cases h8 : k = 8
    · have e5 := k5.2 h8
      have e7 : (k == 7) = false := by rw [beq_eq_false_iff_ne]; omega
      have es : spanB k = false := by unfold spanB; rw [decide_eq_false_iff_not]; omega
      have hob : objB k.toNat o a = (o == 0) := by unfold objB; rw [if_pos (.inr e5)]
      rw [hob, e7, es, show (k == 8) = true by rw [beq_iff_eq]; exact h8]
      rw [bne]
      generalize (o == 0) = y
      cases y <;> cases argB k.toNat a <;> cases stkB ls <;> rfl
    · have e7 : (k == 7) = false := by rw [beq_eq_false_iff_ne]; omega
      have e8 : (k == 8) = false := by rw [beq_eq_false_iff_ne]; omega
      have hn45 : ¬ (ksort k.toNat = 4 ∨ ksort k.toNat = 5) := by rw [k4, k5]; omega
      rw [e7, e8]
      by_cases hs : k = 1 ∨ k = 2 ∨ k = 20 ∨ k = 21
      · have es : spanB k = true := by unfold spanB; exact decide_eq_true hs
        have hss : ksort k.toNat = 2 ∨ ksort k.toNat = 3 := by rw [k2, k3]; omega
        have hob : objB k.toNat o a = (!argB k.toNat a || decide (o ≤ 18446744073709551615 - (a - 1))) := by unfold objB; rw [if_neg hn45, if_pos hss]
        rw [hob, es]
        cases hab : argB k.toNat a
        · simp
        · have := hbd hss hab
          have e : overB o a = !decide (o ≤ 18446744073709551615 - (a - 1)) := by
            unfold overB; rw [decide_eq_true (by omega : 0 < a), Bool.eq_iff_iff]; simp; omega
          rw [e]
          cases decide (o ≤ 18446744073709551615 - (a - 1)) <;> simp
      · have es : spanB k = false := by unfold spanB; exact decide_eq_false hs
        have hob : objB k.toNat o a = true := by unfold objB; rw [if_neg hn45, if_neg (by rw [k2, k3]; omega)]
        rw [hob, es]
        cases argB k.toNat a <;> simp
end Go.Proofs.YtpnacioliccglaaDoor.E6
