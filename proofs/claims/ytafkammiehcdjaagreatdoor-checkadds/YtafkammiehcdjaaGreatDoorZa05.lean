import Derived.Test.YtafkammiehcdjaaGreatDoorZa04
/-
  argMayBe, objMayBe, stackMayBe.
-/
namespace Go.Proofs.YtafkammiehcdjaaGreatDoor.E6
open Go.RowKit Go.Maps Go.Shelf
abbrev lo (k : Nat) : Int := rlo (ksort k)
abbrev hi (k : Nat) : Int := rhi (ksort k)
def argB (k : Nat) (a : Int) : Bool := decide (lo k ≤ a ∧ a ≤ hi k)
theorem ksort_lt (k : Nat) (hk : k < 23) : ksort k < 9 := by
  have : ∀ k : Fin 23, ksort k.1 < 9 := by decide
  exact this ⟨k, hk⟩
theorem rlo_nonneg (s : Nat) (hs : s < 9) : 0 ≤ rlo s ∧ rlo s ≤ 1 := by
  have : ∀ k : Fin 9, 0 ≤ rlo k.1 ∧ rlo k.1 ≤ 1 := by decide
  exact this ⟨s, hs⟩
abbrev evV (g k o a : Int) (sa : Option Addr) (sn sc : Nat) : Value := .agg #[.int .i64 g, .int .i64 k, .int .u64 o, .int .u64 a, .slice sa sn sc]
theorem arg_any (g : Int) (k : Nat) (o a : Int) (sa : Option Addr) (sn sc : Nat) (w : World) (h : Kr w) (hk : k < 23) :
    Calls Tryz.prog 36 #[.agg #[.int .i64 g, .int .i64 (k : Int), .int .u64 o, .int .u64 a, .slice sa sn sc]] w fun e w' => e = .returned (.bool (argB k a)) ∧ Below w.heap.size w w' := by
  have hkI : (k : Int) < 23 := by omega
  obtain ⟨W1, hW1⟩ : ∃ W1, W1 = w.alloc (.cells #[.int .i64 g, .int .i64 (k : Int), .int .u64 o, .int .u64 a, .slice sa sn sc] 36) := ⟨_, rfl⟩
  have hb1 : Below w.heap.size w W1 := by rw [hW1]; exact (Below.refl _ w).alloc (Nat.le_refl _) _
  have h1 := h.below hb1 (by have := h.size; omega)
  have r1 : W1.heap[w.heap.size]? = some (.cells #[.int .i64 g, .int .i64 (k : Int), .int .u64 o, .int .u64 a, .slice sa sn sc] 36 (0, 0)) := by rw [hW1]; exact heap_alloc_new w _
  have q1 : W1.cell? ⟨w.heap.size, 1, none⟩ = some (.int .i64 (k : Int)) := by rw [cell_of_row W1 _ 1 _ 36 (0, 0) r1]; rfl
  have q3 : W1.cell? ⟨w.heap.size, 3, none⟩ = some (.int .u64 a) := by rw [cell_of_row W1 _ 3 _ 36 (0, 0) r1]; rfl
  have hs := h1.sort k hk
  have hsl := ksort_lt k hk
  have e0 : argB k a = decide (rlo (ksort k) ≤ a ∧ a ≤ rhi (ksort k)) := rfl
  rw [e0]
  clear e0
  obtain ⟨s, hss⟩ : ∃ s, s = ksort k := ⟨_, rfl⟩
  rw [← hss] at hs hsl ⊢
  have hsI : (s : Int) < 9 := by omega
  have c0 := h1.lo s hsl
  have c1 := h1.hi s hsl
  generalize rlo s = l at c0 ⊢
  generalize rhi s = m at c1 ⊢
  have HB : Hid _ := hide hb1
  have hs' : (w.alloc (.cells #[.int .i64 g, .int .i64 (k : Int), .int .u64 o, .int .u64 a, .slice sa sn sc] 36)).cell? ⟨0, k * 2 + 1, none⟩ = some (.int .i64 (s : Int)) := by rw [← hW1]; exact hs
  clear h h1 hss hb1 r1 hs
  by_cases d1 : l ≤ a
  · by_cases d2 : a ≤ m
    · have e : decide (l ≤ a ∧ a ≤ m) = true := by simp; omega
      have e1 : decide (l ≤ a) = true := decide_eq_true d1
      have e2 : decide (a ≤ m) = true := decide_eq_true d2
      clear d1 d2
      rw [e]
      go_enter Tryz.func36, Tryz.ntmps36
      go_wp2
      rw [← hW1]
      clear hW1
      go_quiet (fail)
      go_wp2
      go_ret
      exact ⟨rfl, below_drewN HB.out _⟩
    · have e : decide (l ≤ a ∧ a ≤ m) = false := by simp; omega
      have e1 : decide (l ≤ a) = true := decide_eq_true d1
      have e2 : decide (a ≤ m) = false := decide_eq_false d2
      clear d1 d2
      rw [e]
      go_enter Tryz.func36, Tryz.ntmps36
      go_wp2
      rw [← hW1]
      clear hW1
      go_quiet (fail)
      go_wp2
      go_ret
      exact ⟨rfl, below_drewN HB.out _⟩
  · have e : decide (l ≤ a ∧ a ≤ m) = false := by simp; omega
    have e1 : decide (l ≤ a) = false := decide_eq_false d1
    clear d1
    rw [e]
    go_enter Tryz.func36, Tryz.ntmps36
    go_wp2
    rw [← hW1]
    clear hW1
    go_quiet (fail)
    go_wp2
    go_ret
    exact ⟨rfl, below_drewN HB.out _⟩
theorem SRow.bel {w w' : World} {a : Option Addr} {n : Nat} {L : List ByteArray} (h : SRow w a n L) (hb : Below w.heap.size w w') : SRow w' a n L := h.but (T := fun _ => False) (But.of_below hb) (fun _ _ _ _ e => e)
def objB (k : Nat) (o a : Int) : Bool := if ksort k = 4 ∨ ksort k = 5 then (o == 0) else if ksort k = 2 ∨ ksort k = 3 then !argB k a || decide (o ≤ 18446744073709551615 - (a - 1)) else true
theorem argB_bd {k : Nat} {a : Int} (hs : ksort k = 2 ∨ ksort k = 3) (h : argB k a = true) : 1 ≤ a ∧ a ≤ 65536 := by
  have h' : rlo (ksort k) ≤ a ∧ a ≤ rhi (ksort k) := of_decide_eq_true h
  rcases hs with e | e <;> rw [e] at h' <;> simp [rlo, rhi, rlos, rhis] at h' <;> omega
set_option maxRecDepth 4000 in
theorem obj_any (g : Int) (k : Nat) (o a : Int) (sa : Option Addr) (sn sc : Nat) (w : World) (h : Kr w) (hk : k < 23) :
    Calls Tryz.prog 35 #[.agg #[.int .i64 g, .int .i64 (k : Int), .int .u64 o, .int .u64 a, .slice sa sn sc]] w fun e w' => e = .returned (.bool (objB k o a)) ∧ Below w.heap.size w w' := by
  have hkI : (k : Int) < 23 := by omega
  obtain ⟨W1, hW1⟩ : ∃ W1, W1 = w.alloc (.cells #[.int .i64 g, .int .i64 (k : Int), .int .u64 o, .int .u64 a, .slice sa sn sc] 36) := ⟨_, rfl⟩
  have hb1 : Below w.heap.size w W1 := by rw [hW1]; exact (Below.refl _ w).alloc (Nat.le_refl _) _
  have h1 := h.below hb1 (by have := h.size; omega)
  have hs := h1.sort k hk
  have hsl := ksort_lt k hk
  have HQ : Hid (Calls Tryz.prog 36 #[.agg #[.int .i64 g, .int .i64 (k : Int), .int .u64 o, .int .u64 a, .slice sa sn sc]] W1 fun e w' => e = .returned (.bool (argB k a)) ∧ Below W1.heap.size W1 w') := hide (arg_any g k o a sa sn sc W1 h1 hk)
  rw [hW1] at HQ hs
  have HB : Hid _ := hide hb1
  have HW : Hid _ := hide hW1
  have hob : objB k o a = if ksort k = 4 ∨ ksort k = 5 then (o == 0) else if ksort k = 2 ∨ ksort k = 3 then !argB k a || decide (o ≤ 18446744073709551615 - (a - 1)) else true := rfl
  have hbd := @argB_bd k a
  obtain ⟨s, hss⟩ : ∃ s, s = ksort k := ⟨_, rfl⟩
  rw [← hss] at hs hsl hob hbd
  rw [hob]
  clear h h1 hss hb1 hW1 hob
  by_cases h4 : s = 4 ∨ s = 5
  · rw [if_pos h4]
    clear hbd
    rcases h4 with rfl | rfl
    · go_enter Tryz.func35, Tryz.ntmps35
      go_wp2
      go_ret
      exact ⟨rfl, by rw [← HW.out]; exact HB.out⟩
    · go_enter Tryz.func35, Tryz.ntmps35
      go_wp2
      go_ret
      exact ⟨rfl, by rw [← HW.out]; exact HB.out⟩
  · rw [if_neg h4]
    by_cases h2 : s = 2 ∨ s = 3
    · rw [if_pos h2]
      have hbd' := hbd h2
      clear hbd h4
      cases hab : argB k a
      · rw [hab] at HQ
        clear hbd' hab
        rcases h2 with rfl | rfl
        · go_enter Tryz.func35, Tryz.ntmps35
          go_wp2_with fail
          refine HQ.out.mono ?_
          rintro e w2 ⟨rfl, hb2⟩
          rw [← HW.out] at hb2
          have HB2 : Hid _ := hide (HB.out.trans (hb2.mono HB.out.size))
          clear hb2
          go_wp2
          go_ret
          exact ⟨rfl, HB2.out⟩
        · go_enter Tryz.func35, Tryz.ntmps35
          go_wp2_with fail
          refine HQ.out.mono ?_
          rintro e w2 ⟨rfl, hb2⟩
          rw [← HW.out] at hb2
          have HB2 : Hid _ := hide (HB.out.trans (hb2.mono HB.out.size))
          clear hb2
          go_wp2
          go_ret
          exact ⟨rfl, HB2.out⟩
      · obtain ⟨ha1, ha2⟩ := hbd' hab
        rw [hab] at HQ
        clear hbd' hab
        have w1 : IntKind.u64.wrap (a - 1) = a - 1 := by rw [IntKind.wrap_u64]; omega
        have w2 : IntKind.u64.wrap (18446744073709551615 - (a - 1)) = 18446744073709551615 - (a - 1) := by rw [IntKind.wrap_u64]; omega
        rcases h2 with rfl | rfl
        · go_enter Tryz.func35, Tryz.ntmps35
          go_wp2_with fail
          refine HQ.out.mono ?_
          rintro e w2 ⟨rfl, hb2⟩
          rw [← HW.out] at hb2
          have r1 : W1.heap[w.heap.size]? = some (.cells #[.int .i64 g, .int .i64 (k : Int), .int .u64 o, .int .u64 a, .slice sa sn sc] 36 (0, 0)) := by rw [HW.out]; exact heap_alloc_new w _
          have r2 : w2.heap[w.heap.size]? = some (.cells #[.int .i64 g, .int .i64 (k : Int), .int .u64 o, .int .u64 a, .slice sa sn sc] 36 (0, 0)) := (hb2.block _ (Array.getElem?_eq_some_iff.1 r1).1).trans r1
          have q2 : w2.cell? ⟨w.heap.size, 2, none⟩ = some (.int .u64 o) := by rw [cell_of_row w2 _ 2 _ 36 (0, 0) r2]; rfl
          have q3 : w2.cell? ⟨w.heap.size, 3, none⟩ = some (.int .u64 a) := by rw [cell_of_row w2 _ 3 _ 36 (0, 0) r2]; rfl
          have HB2 : Hid _ := hide (HB.out.trans (hb2.mono HB.out.size))
          clear hb2 r1 r2
          go_wp2
          go_ret
          exact ⟨by simp, HB2.out⟩
        · go_enter Tryz.func35, Tryz.ntmps35
          go_wp2_with fail
          refine HQ.out.mono ?_
          rintro e w2 ⟨rfl, hb2⟩
          rw [← HW.out] at hb2
          have r1 : W1.heap[w.heap.size]? = some (.cells #[.int .i64 g, .int .i64 (k : Int), .int .u64 o, .int .u64 a, .slice sa sn sc] 36 (0, 0)) := by rw [HW.out]; exact heap_alloc_new w _
          have r2 : w2.heap[w.heap.size]? = some (.cells #[.int .i64 g, .int .i64 (k : Int), .int .u64 o, .int .u64 a, .slice sa sn sc] 36 (0, 0)) := (hb2.block _ (Array.getElem?_eq_some_iff.1 r1).1).trans r1
          have q2 : w2.cell? ⟨w.heap.size, 2, none⟩ = some (.int .u64 o) := by rw [cell_of_row w2 _ 2 _ 36 (0, 0) r2]; rfl
          have q3 : w2.cell? ⟨w.heap.size, 3, none⟩ = some (.int .u64 a) := by rw [cell_of_row w2 _ 3 _ 36 (0, 0) r2]; rfl
          have HB2 : Hid _ := hide (HB.out.trans (hb2.mono HB.out.size))
          clear hb2 r1 r2
          go_wp2
          go_ret
          exact ⟨by simp, HB2.out⟩
    · rw [if_neg h2]
      have e2 : ((s : Int) == 2) = false := by rw [beq_eq_false_iff_ne]; omega
      have e3 : ((s : Int) == 3) = false := by rw [beq_eq_false_iff_ne]; omega
      have e4 : ((s : Int) == 4) = false := by rw [beq_eq_false_iff_ne]; omega
      have e5 : ((s : Int) == 5) = false := by rw [beq_eq_false_iff_ne]; omega
      clear h2 h4 hbd hsl
      go_enter Tryz.func35, Tryz.ntmps35
      go_wp2
      go_ret
      exact ⟨rfl, by rw [← HW.out]; exact HB.out⟩
def stkB (ls : List ByteArray) : Bool := decide (ls.length ≤ 16) && ls.all fun s => decide (s.size ≤ 65536)
theorem all_take_succ {ls : List ByteArray} {p : ByteArray → Bool} {k : Nat} (hk : k < ls.length) (h : (ls.take k).all p = true) (hx : p (ls.getD k ByteArray.empty) = true) : (ls.take (k + 1)).all p = true := by
  rw [List.take_add_one, getD_get hk]
  simp only [List.all_append, h, Bool.true_and]
  simpa using hx
theorem all_false {ls : List ByteArray} {p : ByteArray → Bool} {k : Nat} (hk : k < ls.length) (hx : p (ls.getD k ByteArray.empty) = false) : ls.all p = false := by
  rw [List.all_eq_false]
  exact ⟨_, List.mem_of_getElem? (getD_get hk), by rw [hx]; simp⟩
set_option maxRecDepth 4000 in
theorem stk_any (sa : Option Addr) (sn sc : Nat) (ls : List ByteArray) (w : World) (hr : SRow w sa sn ls) (hn : (sn : Int) ≤ 9223372036854775806) :
    Calls Tryz.prog 37 #[.slice sa sn sc] w fun e w' => e = .returned (.bool (stkB ls)) ∧ w' = w := by
  have HL : Hid (ls.length = sn) := hr.len
  have HS : Hid (SRow w sa sn ls) := hr
  by_cases h16 : sn ≤ 16
  · have HX : Hid (stkB ls = ls.all fun s => decide (s.size ≤ 65536)) := hide (by unfold stkB; rw [decide_eq_true (by rw [hr.len]; exact h16)]; rfl)
    have h16I : (sn : Int) ≤ 16 := by omega
    clear hr
    go_enter Tryz.func37, Tryz.ntmps37
    go_wp2
    go_loopw [10] (fun i wr => ∃ k : Nat, k ≤ sn ∧ i = .int .i64 k ∧ wr = w ∧ ((ls.take k).all fun s => decide (s.size ≤ 65536)) = true) (fun i _ => sn - (intOf i).toNat)
    case atStart => exact ⟨0, Nat.zero_le _, rfl, rfl, by simp⟩
    case round =>
      obtain ⟨k, hk, rfl, rfl, ha⟩ := hrel
      have HA : Hid _ := hide ha
      clear ha
      by_cases hlt : k < sn
      · obtain ⟨b1, o1, rfl, hc1⟩ := HS.out.at hlt
        have hkI : (k : Int) < sn := by omega
        have HT := @all_take_succ ls (fun s => decide (s.size ≤ 65536)) k (by rw [HL.out]; exact hlt) HA.out
        have HF := @all_false ls (fun s => decide (s.size ≤ 65536)) k (by rw [HL.out]; exact hlt)
        have HT' : Hid _ := hide HT
        have HF' : Hid _ := hide HF
        clear HT HF
        generalize ls.getD k ByteArray.empty = x at hc1 HT' HF'
        by_cases hx : x.size ≤ 65536
        · have hxI : (x.size : Int) ≤ 65536 := by omega
          have HN : Hid _ := hide (HT'.out (decide_eq_true hx))
          clear hx
          go_wp2
          exact ⟨⟨k + 1, by omega, by go_num, by trivial, HN.out⟩, by simp [intOf]; omega⟩
        · have hxI : (65536 : Int) < (x.size : Int) := by omega
          have HN : Hid _ := hide (HF'.out (decide_eq_false hx))
          clear hx
          go_wp2
          go_ret
          exact ⟨ret_bool (by rw [HX.out]; exact HN.out.symm), rfl⟩
      · have HN : Hid _ := hide (show (ls.all fun s => decide (s.size ≤ 65536)) = true by have := HA.out; rwa [List.take_of_length_le (by rw [HL.out]; omega)] at this)
        go_wp2
        go_ret
        exact ⟨ret_bool (by rw [HX.out]; exact HN.out.symm), rfl⟩
  · have HX : Hid (stkB ls = false) := hide (by unfold stkB; rw [decide_eq_false (by rw [hr.len]; exact h16)]; rfl)
    have h16I : (16 : Int) < sn := by omega
    clear hr
    go_enter Tryz.func37, Tryz.ntmps37
    go_wp2
    go_ret
    exact ⟨ret_bool HX.out.symm, rfl⟩
end Go.Proofs.YtafkammiehcdjaaGreatDoor.E6
/-
  Check, Access, Clash.
-/
namespace Go.Proofs.YtafkammiehcdjaaGreatDoor.E6
open Go.RowKit Go.Maps Go.Shelf
/-- An event lies in block b. -/
def EvB (w : World) (b : Nat) (g k o a : Int) (sa : Option Addr) (sn sc : Nat) : Prop := w.heap[b]? = some (.cells #[.int .i64 g, .int .i64 k, .int .u64 o, .int .u64 a, .slice sa sn sc] 36 (0, 0))
section
variable {w w' : World} {b B : Nat} {g k o a : Int} {sa : Option Addr} {sn sc : Nat}
theorem EvB.new : EvB (w.alloc (.cells #[.int .i64 g, .int .i64 k, .int .u64 o, .int .u64 a, .slice sa sn sc] 36)) w.heap.size g k o a sa sn sc := heap_alloc_new w _
theorem EvB.lt (h : EvB w b g k o a sa sn sc) : b < w.heap.size := (Array.getElem?_eq_some_iff.1 h).1
theorem EvB.below (h : EvB w b g k o a sa sn sc) (hb : Below w.heap.size w w') : EvB w' b g k o a sa sn sc := (hb.block b h.lt).trans h
theorem EvB.c0 (h : EvB w b g k o a sa sn sc) : w.cell? ⟨b, 0, none⟩ = some (.int .i64 g) := by rw [cell_of_row w b 0 _ 36 (0, 0) h]; rfl
theorem EvB.c1 (h : EvB w b g k o a sa sn sc) : w.cell? ⟨b, 1, none⟩ = some (.int .i64 k) := by rw [cell_of_row w b 1 _ 36 (0, 0) h]; rfl
theorem EvB.c2 (h : EvB w b g k o a sa sn sc) : w.cell? ⟨b, 2, none⟩ = some (.int .u64 o) := by rw [cell_of_row w b 2 _ 36 (0, 0) h]; rfl
theorem EvB.c3 (h : EvB w b g k o a sa sn sc) : w.cell? ⟨b, 3, none⟩ = some (.int .u64 a) := by rw [cell_of_row w b 3 _ 36 (0, 0) h]; rfl
theorem EvB.c4 (h : EvB w b g k o a sa sn sc) : w.cell? ⟨b, 4, none⟩ = some (.slice sa sn sc) := by rw [cell_of_row w b 4 _ 36 (0, 0) h]; rfl
end
def chk (g k o a : Int) (ls : List ByteArray) : Int :=
  if 1 ≤ k ∧ k ≤ 22 then if g < 0 ∨ 65536 ≤ g then 61 else if objB k.toNat o a then if argB k.toNat a then if stkB ls then 0 else 64 else 63 else 62 else 60
theorem below_new (w : World) (ob : Obj) : Below w.heap.size w (w.alloc ob) := (Below.refl _ w).alloc (Nat.le_refl _) _
set_option maxRecDepth 4000 in
theorem check_any (g k o a : Int) (sa : Option Addr) (sn sc : Nat) (ls : List ByteArray) (w : World) (h : Kr w) (hr : SRow w sa sn ls) (hn : (sn : Int) ≤ 9223372036854775806) :
    Calls Tryz.prog 16 #[.agg #[.int .i64 g, .int .i64 k, .int .u64 o, .int .u64 a, .slice sa sn sc]] w fun e w' => e = .returned (.int .i64 (chk g k o a ls)) ∧ Below w.heap.size w w' := by
  obtain ⟨R, hR⟩ : ∃ R, R = chk g k o a ls := ⟨_, rfl⟩
  rw [← hR]
  unfold chk at hR
  have hB : Below w.heap.size w (w.alloc (.cells #[.int .i64 g, .int .i64 k, .int .u64 o, .int .u64 a, .slice sa sn sc] 36)) := below_new w _
  have HB : Hid _ := hide hB
  have HK1 : Hid _ := hide (h.below hB (by have := h.size; omega))
  have HS1 : Hid _ := hide (hr.bel hB)
  have HE1 : Hid _ := hide (EvB.new (w := w) (g := g) (k := k) (o := o) (a := a) (sa := sa) (sn := sn) (sc := sc))
  have HQ : Hid _ := hide (kn_any k (w.alloc (.cells #[.int .i64 g, .int .i64 k, .int .u64 o, .int .u64 a, .slice sa sn sc] 36)))
  clear hB h hr
  by_cases hk : 1 ≤ k ∧ k ≤ 22
  · rw [if_pos hk] at hR
    rw [decide_eq_true hk] at HQ
    by_cases hg : g < 0 ∨ 65536 ≤ g
    · rw [if_pos hg] at hR
      subst hR
      rcases hg with hg | hg
      · go_enter Tryz.func16, Tryz.ntmps16
        go_wp2_with fail
        refine HQ.out.mono ?_
        rintro e w' ⟨rfl, rfl⟩
        go_wp2
        go_ret
        exact ⟨rfl, HB.out⟩
      · have hg0 : decide (g < 0) = false := by simp; omega
        go_enter Tryz.func16, Tryz.ntmps16
        go_wp2_with fail
        refine HQ.out.mono ?_
        rintro e w' ⟨rfl, rfl⟩
        go_wp2
        go_ret
        exact ⟨rfl, HB.out⟩
    · rw [if_neg hg] at hR
      have g1 : decide (g < 0) = false := by simp; omega
      have g2 : decide (65536 ≤ g) = false := by simp; omega
      have HR : Hid _ := hide hR
      clear hR hg
      obtain ⟨m, rfl⟩ : ∃ m : Nat, k = m := ⟨k.toNat, by omega⟩
      have hm : m < 23 := by omega
      rw [Int.toNat_natCast] at HR
      have HO : Hid _ := hide (obj_any g m o a sa sn sc _ HK1.out hm)
      clear hk
      go_enter Tryz.func16, Tryz.ntmps16
      go_wp2_with fail
      refine HQ.out.mono ?_
      rintro e w' ⟨rfl, rfl⟩
      go_wp2_with fail
      refine HO.out.mono ?_
      rintro e w2 ⟨rfl, hb2⟩
      have HB2 : Hid _ := hide (HB.out.trans (hb2.mono HB.out.size))
      have HK2 : Hid _ := hide (HK1.out.below hb2 (by have := HK1.out.size; omega))
      have HE2 : Hid _ := hide (HE1.out.below hb2)
      have HS2 : Hid _ := hide (HS1.out.bel hb2)
      clear HQ HO hb2 HB HK1 HE1 HS1 g1 g2
      cases hob : objB m o a
      · have HN : Hid (R = 62) := hide (by rw [HR.out, hob]; rfl)
        go_wp2
        go_ret
        exact ⟨by rw [HN.out]; rfl, HB2.out⟩
      · rw [hob] at HR
        simp only [if_true] at HR
        have HA : Hid _ := hide (arg_any g m o a sa sn sc w2 HK2.out hm)
        have q0 := HE2.out.c0
        have q1 := HE2.out.c1
        have q2 := HE2.out.c2
        have q3 := HE2.out.c3
        have q4 := HE2.out.c4
        go_wp2_with fail
        refine HA.out.mono ?_
        rintro e w3 ⟨rfl, hb3⟩
        have HB3 : Hid _ := hide (HB2.out.trans (hb3.mono HB2.out.size))
        have HE3 : Hid _ := hide (HE2.out.below hb3)
        have HS3 : Hid _ := hide (HS2.out.bel hb3)
        clear HA hb3 HB2 HK2 HE2 HS2 q0 q1 q2 q3 q4
        cases hab : argB m a
        · have HN : Hid (R = 63) := hide (by rw [HR.out, hab]; rfl)
          go_wp2
          go_ret
          exact ⟨by rw [HN.out]; rfl, HB3.out⟩
        · rw [hab] at HR
          simp only [if_true] at HR
          have q4 := HE3.out.c4
          have HT : Hid _ := hide (stk_any sa sn sc ls w3 HS3.out hn)
          go_wp2_with fail
          refine HT.out.mono ?_
          rintro e w4 ⟨rfl, rfl⟩
          cases hst : stkB ls
          · have HN : Hid (R = 64) := hide (by rw [HR.out, hst]; rfl)
            go_wp2
            go_ret
            exact ⟨by rw [HN.out]; rfl, HB3.out⟩
          · have HN : Hid (R = 0) := hide (by rw [HR.out, hst]; rfl)
            go_wp2
            go_ret
            exact ⟨by rw [HN.out]; rfl, HB3.out⟩
  · rw [if_neg hk] at hR
    rw [decide_eq_false hk] at HQ
    subst hR
    clear hk
    go_enter Tryz.func16, Tryz.ntmps16
    go_wp2_with fail
    refine HQ.out.mono ?_
    rintro e w' ⟨rfl, rfl⟩
    go_wp2
    go_ret
    exact ⟨rfl, HB.out⟩
end Go.Proofs.YtafkammiehcdjaaGreatDoor.E6
/-
  Lists of events.
-/
namespace Go.Proofs.YtafkammiehcdjaaGreatDoor.E6
open Go.RowKit Go.Maps Go.Shelf
structure Ev where
  g : Int
  k : Int
  o : Int
  a : Int
  sa : Option Addr
  sc : Nat
  ls : List ByteArray
/-- What an event that came in keeps to. -/
structure Ev.ok (e : Ev) : Prop where
  ho : 0 ≤ e.o ∧ e.o ≤ 18446744073709551615
  ha : 0 ≤ e.a ∧ e.a ≤ 18446744073709551615
  len : e.ls.length ≤ 8796093021952
  sz : ∀ s ∈ e.ls, s.size ≤ maxLen
  cap : e.ls.length ≤ e.sc
  nil : e.sa = none → e.ls.length = 0 ∧ e.sc = 0
/-- The same but where its stack lies. -/
def Ev.twin (e f : Ev) : Prop := f.g = e.g ∧ f.k = e.k ∧ f.o = e.o ∧ f.a = e.a ∧ f.ls = e.ls
/-- The event's stack lies in memory. -/
def Ev.at (w : World) (e : Ev) : Prop := SRow w e.sa e.ls.length e.ls
structure ERow (w : World) (a : Option Addr) (n : Nat) (es : List Ev) : Prop where
  len : es.length = n
  cells : n = 0 ∨ ∃ b off, a = some ⟨b, off, none⟩ ∧ ∀ i e, es[i]? = some e → w.cell? ⟨b, off + i * 5, none⟩ = some (.int .i64 e.g) ∧ w.cell? ⟨b, off + i * 5 + 1, none⟩ = some (.int .i64 e.k) ∧ w.cell? ⟨b, off + i * 5 + 2, none⟩ = some (.int .u64 e.o) ∧ w.cell? ⟨b, off + i * 5 + 3, none⟩ = some (.int .u64 e.a) ∧ w.cell? ⟨b, off + i * 5 + 4, none⟩ = some (.slice e.sa e.ls.length e.sc) ∧ e.at w
theorem ERow.at {w : World} {a : Option Addr} {n : Nat} {es : List Ev} (h : ERow w a n es) {i : Nat} (hi : i < n) : ∃ b off e, a = some ⟨b, off, none⟩ ∧ es[i]? = some e ∧ w.cell? ⟨b, off + i * 5, none⟩ = some (.int .i64 e.g) ∧ w.cell? ⟨b, off + i * 5 + 1, none⟩ = some (.int .i64 e.k) ∧ w.cell? ⟨b, off + i * 5 + 2, none⟩ = some (.int .u64 e.o) ∧ w.cell? ⟨b, off + i * 5 + 3, none⟩ = some (.int .u64 e.a) ∧ w.cell? ⟨b, off + i * 5 + 4, none⟩ = some (.slice e.sa e.ls.length e.sc) ∧ e.at w := by
  rcases h.cells with h0 | ⟨b, off, e, hc⟩
  · omega
  · have hl : i < es.length := by rw [h.len]; exact hi
    exact ⟨b, off, es[i], e, List.getElem?_eq_getElem hl, hc i _ (List.getElem?_eq_getElem hl)⟩
theorem cell_bel {w w' : World} {p : Addr} {v : Value} (hc : w.cell? p = some v) (hb : Below w.heap.size w w') : w'.cell? p = some v :=
  (hb.cell (World.block_lt_of_cell? w _ hc)).trans hc
theorem ERow.bel {w w' : World} {a : Option Addr} {n : Nat} {es : List Ev} (h : ERow w a n es) (hb : Below w.heap.size w w') : ERow w' a n es :=
  ⟨h.len, h.cells.imp id fun ⟨b, off, e, hc⟩ => ⟨b, off, e, fun i f hf => by
    obtain ⟨c0, c1, c2, c3, c4, hs⟩ := hc i f hf
    exact ⟨cell_bel c0 hb, cell_bel c1 hb, cell_bel c2 hb, cell_bel c3 hb, cell_bel c4 hb, SRow.bel hs hb⟩⟩⟩
/-- The cells of events. -/
def ecell (e : Ev) : List Value := [.int .i64 e.g, .int .i64 e.k, .int .u64 e.o, .int .u64 e.a, .slice e.sa e.ls.length e.sc]
def ecells : List Ev → List Value
  | [] => []
  | e :: l => ecell e ++ ecells l
theorem ecells_snoc (l : List Ev) (e : Ev) : ecells (l ++ [e]) = ecells l ++ ecell e := by
  induction l with
  | nil => simp [ecells]
  | cons x l ih => simp [ecells, ih]
theorem Tryz.infoEvent : (Tryz.prog.info? 36).map (fun i => (i.zero, i.size, i.bytes)) = some (some (.agg #[.int .i64 0, .int .i64 0, .int .u64 0, .int .u64 0, .slice none 0 0]), 5, 56) := by kernel_rfl
theorem srow_cells {w : World} {ad : Addr} {m : Nat} {L : List ByteArray} (h : SRow w (some ad) m L) : ∀ j u, (L.map Value.string)[j]? = some u → w.cell? (ad.add j) = some u := by
  intro j u hj
  have hlt : j < L.length := by have := (List.getElem?_eq_some_iff.1 hj).1; simpa using this
  obtain ⟨b, off, e, hc⟩ := h.at (i := j) (by rw [← h.len]; exact hlt)
  cases e
  have ha : (⟨b, off, none⟩ : Addr).add j = ⟨b, off + j, none⟩ := by unfold Addr.add; split <;> simp_all
  rw [ha, hc]
  rw [List.getElem?_map, getD_get hlt] at hj
  simpa using hj
/-- 'append(nil, l...)' in a region that draws. -/
theorem step_strs {ops : Array Oper} {o : Oper} {a : Act} {w : World} {K : Act → World → Prop} {Q : Exit → Act → World → Prop} {E : Prop}
    (hg : o.guard = none) (s x : Operand) (hop : o.op = Op.call { callee := Callee.builtin Builtin.append, args := #[s, x], argTypes := #[34, 34] })
    (hs : a.eval s = .slice none 0 0) (ra : Option Addr) (m c : Nat) (zs : List ByteArray) (hx : a.eval x = .slice ra m c) (hr : SRow w ra m zs) (h0 : ra = none → m = 0 ∧ c = 0) (hm : m * 16 ≤ 140737488355328)
    (h : ∀ (a' : Option Addr) (c' : Nat) w', w'.ownsRow w.heap.size 9 1 (.slice a' m c') m (zs.map Value.string) → w.grownBy w' none → K (a.put o.dst (.slice a' m c')) w') :
    if Region.wanted o (yielded ops a.tmps) = true then Oper.wp Tryz.prog o a w K Q else E := by
  have hw : Region.wanted o (yielded ops a.tmps) = true := by simp [Region.wanted, hg]
  rw [if_pos hw]
  obtain ⟨i0, hi, hz0, hz1, hz2⟩ := info_parts Tryz.info9
  have hown := World.ownsRow_nil w w.heap.size 9 1
  cases ra with
  | none =>
    obtain ⟨rfl, rfl⟩ := h0 rfl
    have e1 := List.length_eq_zero_iff.1 hr.len
    subst e1
    have hr := run_append_owned_none (P := Tryz.prog) (w := w) w.heap.size 34 o.type 9 i0 1 Tryz.underlying34 hi (.slice none 0 0) 0 [] hown
    unfold Oper.wp execOp
    simp only [hop, resolve, invoke, builtin, Sem.run_bind, Sem.run_pure, Result.andThen_ok, List.map_toArray, List.map_cons, List.map_nil, hs, hx, hr]
    exact h none 0 w (World.ownsRow_nil _ _ _ _) (World.grownBy.refl w _)
  | some ad =>
    obtain ⟨v', w', hrun, h2, h3, _, h5⟩ := run_append_own_at (P := Tryz.prog) w w.heap.size 34 o.type 9 i0 _ 1 16 Tryz.underlying34 hi hz0 hz1 hz2 rfl (by decide) (.slice none 0 0) 0 [] hown ad m c (zs.map Value.string) (by have := hr.len; simpa using this) (srow_cells hr) (by intro u hu; obtain ⟨y, _, rfl⟩ := List.mem_map.1 hu; rfl) (by unfold maxLen; omega) (by omega) (Nat.le_refl _)
    rw [Nat.zero_add] at h2
    obtain ⟨a', c', rfl⟩ := own_form h2
    unfold Oper.wp execOp
    simp only [hop, resolve, invoke, builtin, Sem.run_bind, Sem.run_pure, Result.andThen_ok, List.map_toArray, List.map_cons, List.map_nil, hs, hx, hrun]
    exact h a' c' w' (by simpa using h2) h3
end Go.Proofs.YtafkammiehcdjaaGreatDoor.E6
/-
  hasRoom of a forest.
-/
namespace Go.Proofs.YtafkammiehcdjaaGreatDoor.E6
open Go.RowKit Go.Maps Go.Shelf
/-- The unlike strings of a list that a table does not have; the list comes with its last one first. -/
def newR (L : List ByteArray) : List ByteArray → List ByteArray
  | [] => []
  | t :: r => if isIn L t || isIn r t then newR L r else newR L r ++ [t]
def newS (L l : List ByteArray) : List ByteArray := newR L l.reverse
theorem isIn_rev (l : List ByteArray) (s : ByteArray) : isIn l.reverse s = isIn l s := by
  rw [Bool.eq_iff_iff, isIn_iff, isIn_iff, List.mem_reverse]
theorem newS_nil (L : List ByteArray) : newS L [] = [] := rfl
theorem newS_snoc (L l : List ByteArray) (t : ByteArray) : newS L (l ++ [t]) = if isIn L t || isIn l t then newS L l else newS L l ++ [t] := by
  unfold newS; rw [List.reverse_append]; show newR L (t :: l.reverse) = _; rw [newR, isIn_rev]
theorem newS_take {L l : List ByteArray} {k : Nat} (h : k < l.length) : newS L (l.take (k + 1)) = if isIn L (l.getD k ByteArray.empty) || isIn (l.take k) (l.getD k ByteArray.empty) then newS L (l.take k) else newS L (l.take k) ++ [l.getD k ByteArray.empty] := by
  rw [← newS_snoc, List.take_add_one, getD_get h]; rfl
theorem newS_len (L l : List ByteArray) : (newS L l).length ≤ l.length := by
  unfold newS
  have e : l.length = l.reverse.length := by simp
  rw [e]
  clear e
  generalize l.reverse = r
  induction r with
  | nil => simp [newR]
  | cons t r ih => unfold newR; split <;> simp <;> omega
theorem newS_mem (L l : List ByteArray) : ∀ t, t ∈ newS L l ↔ t ∈ l ∧ t ∉ L := by
  intro t
  unfold newS
  have e : t ∈ l ↔ t ∈ l.reverse := by simp
  rw [e]
  clear e
  generalize l.reverse = q
  induction q with
  | nil => simp [newR]
  | cons u r ih =>
    unfold newR
    by_cases h : (isIn L u || isIn r u) = true
    · rw [if_pos h]
      refine Iff.trans ih ?_
      rw [Bool.or_eq_true, isIn_iff, isIn_iff] at h
      constructor
      · rintro ⟨h1, h2⟩; exact ⟨by simp [h1], h2⟩
      · rintro ⟨h1, h2⟩
        rcases List.mem_cons.1 h1 with rfl | h1
        · rcases h with h | h
          · exact absurd h h2
          · exact ⟨h, h2⟩
        · exact ⟨h1, h2⟩
    · rw [if_neg h, List.mem_append]
      rw [Bool.or_eq_true, isIn_iff, isIn_iff] at h
      constructor
      · rintro (h1 | h1)
        · exact ⟨by simp [(ih.1 h1).1], (ih.1 h1).2⟩
        · simp at h1; subst h1; exact ⟨by simp, fun e => h (.inl e)⟩
      · rintro ⟨h1, h2⟩
        rcases List.mem_cons.1 h1 with rfl | h1
        · exact .inr (by simp)
        · exact .inl (ih.2 ⟨h1, h2⟩)
structure Roomy (L : List ByteArray) (n : Nat) (l : List ByteArray) : Prop where
  each : ∀ t ∈ newS L l, t.size ≤ 65536
  count : L.length + (newS L l).length ≤ 65536
  sum : total L + total (newS L l) ≤ 4194304
  nodes : n + l.length ≤ 262144
theorem total_le {l : List ByteArray} (h : ∀ t ∈ l, t.size ≤ 65536) : total l ≤ l.length * 65536 := by
  induction l with
  | nil => simp [total]
  | cons t r ih =>
    have h1 := h t (by simp)
    have h2 := ih (fun x hx => h x (by simp [hx]))
    simp only [total, List.map_cons, List.sum_cons, List.length_cons] at h2 ⊢
    omega
def RoomE (L : List ByteArray) (n : Nat) (l : List ByteArray) (e : Ending) : Prop := ∃ b : Bool, e = .returned (.bool b) ∧ (b = true ↔ Roomy L n l)
set_option maxRecDepth 4000 in
theorem hasRoom_any {w : World} {fb tb : Nat} {S T : Nat → Prop} {N : List Nd} {v : Value} {mb : Nat} {L : List ByteArray} {tv tm : Value} (hT : Tab w tb T L tv tm) (hF : Frs w fb tb S N v mb)
    (a : Option Addr) (n c : Nat) (l : List ByteArray) (hr : SRow w a n l) (hn : n ≤ 16) (hc : n ≤ c) (hz : ∀ s ∈ l, s.size ≤ maxLen) :
    Calls Tryz.prog 54 #[.pointer (some ⟨fb, 0, none⟩), .slice a n c] w fun e w' => RoomE L N.length l e ∧ ∃ k, w' = w.drewN k := by
  have HT : Hid (Tab w tb T L tv tm) := hT
  have HF : Hid (Frs w fb tb S N v mb) := hF
  have HR : Hid (SRow w a n l) := hr
  have HZ : Hid (∀ s ∈ l, s.size ≤ maxLen) := hz
  have HL : Hid (l.length = n) := hr.len
  have hn' : (n : Int) ≤ 16 := by omega
  have c0 := hF.cell0
  have t0 := hT.cell0
  have t2 := hT.cell2
  obtain ⟨ta, tc, rfl⟩ := own_form hT.own
  have hsum : (total L : Int) ≤ 4194304 := by have := hT.sum; omega
  have hcnt : (L.length : Int) ≤ 65536 := by have := hT.len; omega
  have HQ1 : Hid (∀ j, Calls Tryz.prog 110 #[.pointer (some ⟨tb, 0, none⟩)] (w.drewN j) fun e w' => e = .returned (.int .i64 L.length) ∧ w' = w.drewN j) := hide (fun j => len_any tb _ tc ta _ (cell_drewN t0 j))
  have HQ2 : Hid (∀ j, Calls Tryz.prog 111 #[.pointer (some ⟨tb, 0, none⟩)] (w.drewN j) fun e w' => e = .returned (.int .i64 (total L : Nat)) ∧ w' = w.drewN j) := hide (fun j => bytes_any tb _ _ (cell_drewN t2 j))
  clear hT hF hr hz t0 t2
  go_enter Tryz.func54, Tryz.ntmps54
  go_wp2
  go_quiet ((first | (go_at_call 110; exact Calls.quiet_of_same (HQ1.out _)) | (go_at_call 111; exact Calls.quiet_of_same (HQ2.out _))))
  go_wp2
  go_loopw [5, 6, 23] (fun d z i wr => ∃ k q cn sz : Nat, k ≤ n ∧ i = .int .i64 k ∧ d = .int .i64 (cn : Int) ∧ z = .int .i64 (sz : Int) ∧ wr = w.drewN q ∧ cn = L.length + (newS L (l.take k)).length ∧ sz = total L + total (newS L (l.take k)) ∧ ∀ t ∈ newS L (l.take k), t.size ≤ 65536) (fun _ _ i _ => n - (intOf i).toNat)
  case atStart => exact ⟨0, nq, L.length, total L, Nat.zero_le _, rfl, rfl, rfl, rfl, rfl, rfl, by simp [newS, newR]⟩
  case round =>
    obtain ⟨k, q, cn, sz, hk, rfl, rfl, rfl, hw, hcn, hsz, hev⟩ := hrel
    have HW : Hid (wr = w.drewN q) := hw
    have HEV : Hid (∀ t ∈ newS L (l.take k), t.size ≤ 65536) := hev
    have HCN : Hid (cn = L.length + (newS L (l.take k)).length) := hcn
    have HSZ : Hid (sz = total L + total (newS L (l.take k))) := hsz
    have hTr : Hid (Tab wr tb T L (.slice ta L.length tc) tm) := hide (by rw [hw]; exact HT.out.drewN q)
    have hFr : Hid (Frs wr fb tb S N v mb) := hide (by rw [hw]; exact HF.out.drewN q)
    have hRr : Hid (SRow wr a n l) := hide (by rw [hw]; exact HR.out.drewN q)
    have hkl : (newS L (l.take k)).length ≤ k := by have := newS_len L (l.take k); rw [List.length_take] at this; omega
    have hcn' : (cn : Int) ≤ 65552 := by rw [hcn]; omega
    have hsz' : (sz : Int) ≤ 5242880 := by have := total_le hev; rw [hsz]; omega
    have c0 := hFr.out.cell0
    have c1 := hFr.out.cell1
    have hNl := hFr.out.len
    obtain ⟨va, vc, rfl⟩ := own_form hFr.out.own
    clear hw hcn hsz hev hkl
    by_cases hlt : k < n
    · obtain ⟨bo, oo, ha, hco⟩ := hRr.out.at (i := k) (by omega)
      subst ha
      have hN := newS_take (L := L) (l := l) (k := k) (by have := HL.out; omega)
      obtain ⟨s, hs⟩ : ∃ s, s = l.getD k ByteArray.empty := ⟨_, rfl⟩
      have HS : Hid (s.size ≤ maxLen) := hide (by rw [hs]; exact HZ.out _ (List.mem_of_getElem? (getD_get (by have := HL.out; omega))))
      rw [← hs] at hco hN
      obtain ⟨b, hb⟩ : ∃ b, isIn L s = b := ⟨_, rfl⟩
      obtain ⟨fr, hfr⟩ : ∃ fr : Int, fr = if isIn L s then (place L s : Int) else 0 := ⟨_, rfl⟩
      have HQ : Hid (Calls Tryz.prog 109 #[.pointer (some ⟨tb, 0, none⟩), .string s] wr fun e w' => e = .returned (.tuple #[.int .i64 fr, .bool b]) ∧ w' = wr) := hide (by
        have := find_any hTr.out s HS.out
        have e : lookV L s = .tuple #[.int .i64 fr, .bool b] := by unfold lookV; rw [hfr, ← hb]
        rwa [e] at this)
      obtain ⟨b2, hb2⟩ : ∃ b2, isIn (l.take k) s = b2 := ⟨_, rfl⟩
      have HC : Hid (Calls Tryz.prog 112 #[.slice (some ⟨bo, oo, none⟩) k c, .string s] wr fun e w' => e = .returned (.bool b2) ∧ w' = wr) := hide (by
        have := contains_any (some ⟨bo, oo, none⟩) k c (l.take k) s wr (hRr.out.take hk) (by omega)
        rwa [hb2] at this)
      rw [hb, hb2] at hN
      have HN : Hid _ := hide hN
      have HSM : Hid (s ∈ l) := hide (by rw [hs]; exact List.mem_of_getElem? (getD_get (by have := HL.out; omega)))
      have HSN : Hid (b = true ∨ s ∉ L) := hide (by cases b; exact .inr (isIn_not.1 hb); exact .inl rfl)
      have hss : (s.size : Int) ≤ 9223372036854775807 := by have := HS.out; unfold maxLen at this; omega
      clear hs hb hb2 hfr hN
      go_wp2_with fail
      refine HQ.out.mono ?_
      rintro e w' ⟨rfl, rfl⟩
      have hkc : (k : Int) ≤ c := by omega
      cases b
      · go_wp2_with fail
        refine HC.out.mono ?_
        rintro e w'' ⟨rfl, rfl⟩
        cases b2
        · by_cases hbig : (s.size : Int) > 65536
          · go_wp2
            go_ret
            refine ⟨⟨false, rfl, ?_⟩, q, HW.out⟩
            refine ⟨fun e => (by cases e), fun h => ?_⟩
            have := h.each s ((newS_mem L l s).2 ⟨HSM.out, HSN.out.resolve_left (by simp)⟩)
            omega
          · go_wp2
            refine ⟨⟨k + 1, q, cn + 1, sz + s.size, by omega, by go_num, by go_num, by go_num, HW.out, ?_, ?_, ?_⟩, by simp [intOf]; omega⟩
            · rw [HN.out, HCN.out]; simp; omega
            · rw [HN.out, HSZ.out]; simp [total_snoc]; omega
            · rw [HN.out]
              intro t ht
              simp at ht
              rcases ht with ht | rfl
              · exact HEV.out t ht
              · omega
        · go_wp2
          refine ⟨⟨k + 1, q, cn, sz, by omega, by go_num, rfl, rfl, HW.out, ?_, ?_, ?_⟩, by simp [intOf]; omega⟩
          · rw [HN.out, HCN.out]; simp
          · rw [HN.out, HSZ.out]; simp
          · rw [HN.out]; exact HEV.out
      · go_wp2
        refine ⟨⟨k + 1, q, cn, sz, by omega, by go_num, rfl, rfl, HW.out, ?_, ?_, ?_⟩, by simp [intOf]; omega⟩
        · rw [HN.out, HCN.out]; simp
        · rw [HN.out, HSZ.out]; simp
        · rw [HN.out]; exact HEV.out
    · have ht : l.take k = l := List.take_of_length_le (by have := HL.out; omega)
      rw [ht] at HCN HSZ HEV
      have hkn : k = n := by omega
      subst hkn
      by_cases h1 : (cn : Int) ≤ 65536
      · by_cases h2 : (sz : Int) ≤ 4194304
        · by_cases h3 : (N.length : Int) + k ≤ 262144
          · have HX : Hid (Roomy L N.length l) := ⟨HEV.out, by have := HCN.out; omega, by have := HSZ.out; omega, by have := HL.out; omega⟩
            clear ht
            go_wp2
            go_ret
            exact ⟨⟨true, rfl, fun _ => HX.out, fun _ => rfl⟩, q, HW.out⟩
          · have HX : Hid (¬ Roomy L N.length l) := fun h => h3 (by have := h.nodes; have := HL.out; omega)
            clear ht
            go_wp2
            go_ret
            exact ⟨⟨false, rfl, fun e => (by cases e), fun h => absurd h HX.out⟩, q, HW.out⟩
        · have HX : Hid (¬ Roomy L N.length l) := fun h => h2 (by have := h.sum; have := HSZ.out; omega)
          clear ht
          go_wp2
          go_ret
          exact ⟨⟨false, rfl, fun e => (by cases e), fun h => absurd h HX.out⟩, q, HW.out⟩
      · have HX : Hid (¬ Roomy L N.length l) := fun h => h1 (by have := h.count; have := HCN.out; omega)
        clear ht
        go_wp2
        go_ret
        exact ⟨⟨false, rfl, fun e => (by cases e), fun h => absurd h HX.out⟩, q, HW.out⟩
end Go.Proofs.YtafkammiehcdjaaGreatDoor.E6
