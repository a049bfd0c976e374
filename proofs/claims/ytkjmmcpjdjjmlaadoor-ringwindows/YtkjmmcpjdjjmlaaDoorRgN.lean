/-
  Len, Lost, New.
-/
import Derived.Test.YtkjmmcpjdjjmlaaDoorRgA
namespace Go.Proofs.YtkjmmcpjdjjmlaaDoor
open Go.RowKit Go.Maps Go.Shelf
theorem len_any {w : World} {rb b size : Nat} {es : List Ev} {T : List Ab} (h : Rg w rb b size es T) :
    Calls Tryd.prog 10 #[.pointer (some ⟨rb, 0, .none⟩)] w fun e w' => e = .returned (.int .i64 ((min T.length size : Nat) : Int)) ∧ ∃ q, w' = w.drewN q := by
  have HM := hide (missing_any h)
  have c0 := h.c0
  have c1 := h.c1
  have HB := hide h.big
  have HT := hide h.top
  have hmin : min (T.length : Int) (size : Int) = ((min T.length size : Nat) : Int) := by omega
  have HMin := hide hmin
  generalize T.length = n at *
  clear h hmin
  go_enter Tryd.func10, Tryd.ntmps10
  go_wp2_with fail
  refine HM.out.mono ?_
  rintro e w1 ⟨rfl, hw1⟩
  rw [hw1]
  clear hw1 w1 HM
  go_wp2_with fail
  go_quiet (fail)
  go_wp2
  go_ret
  exact ⟨by rw [← HMin.out]; rfl, _, rfl⟩
theorem lost_any {w : World} {rb b size : Nat} {es : List Ev} {T : List Ab} (h : Rg w rb b size es T) :
    Calls Tryd.prog 11 #[.pointer (some ⟨rb, 0, .none⟩)] w fun e w' => e = .returned (.int .i64 ((T.length - size : Nat) : Int)) ∧ ∃ q, w' = w.drewN q := by
  have HM := hide (missing_any h)
  have HL := hide (fun k => len_any (h.below (below_drewN (Below.refl _ _) k)))
  have c0 := h.c0
  have c1 := h.c1
  have HB := hide h.big
  have HT := hide h.top
  have hd : (T.length : Int) - ((min T.length size : Nat) : Int) = ((T.length - size : Nat) : Int) := by omega
  have hw : wrap64 ((T.length : Int) - ((min T.length size : Nat) : Int)) = (T.length : Int) - ((min T.length size : Nat) : Int) := by have := h.top; unfold wrap64; omega
  have HD := hide (hw.trans hd)
  generalize T.length = n at *
  generalize min n size = m at *
  clear h hd hw
  go_enter Tryd.func11, Tryd.ntmps11
  go_wp2_with fail
  refine HM.out.mono ?_
  rintro e w1 ⟨rfl, hw1⟩
  rw [hw1]
  clear hw1 w1 HM
  go_wp2_with fail
  go_quiet ((go_at_call 10; exact Calls.quiet_of (HL.out _)))
  go_wp2
  go_ret
  exact ⟨ret_int HD.out, _, rfl⟩
/-- What a make of events makes. -/
theorem evs_made {w' : World} {n base g : Nat} (h : w'.ownsRow base 32 5 (.slice (some ⟨g, 0, .none⟩) n n) n (madeCells #[.int .i64 0, .int .i64 0, .int .u64 0, .int .u64 0, .slice .none 0 0] (n * 5)).toList) : Evs w' base (.slice (some ⟨g, 0, .none⟩) n n) (List.replicate n Ev.none) := by
  refine ⟨?_, fun e he => by rw [List.eq_of_mem_replicate he]; exact Stk.none _⟩
  have h9 := made_fl layE Ev.none n
  unfold Own
  rw [List.length_replicate, ← h9]
  exact h
set_option maxRecDepth 8000 in
theorem new_bad (n : Int) (w : World) (h : n < 1 ∨ 65536 < n) : Calls Tryd.prog 5 #[.int .i64 n] w fun e w' => e = .returned (.tuple #[.pointer .none, .int .i64 150]) ∧ w' = w := by
  by_cases h1 : n < 1
  · clear h
    have d1 : decide (n < 1) = true := decide_eq_true h1
    go_enter Tryd.func5, Tryd.ntmps5
    go_wp2
    go_ret2
    exact ⟨rfl, rfl⟩
  · have d1 : decide (n < 1) = false := decide_eq_false h1
    have d2 : decide (65536 < n) = true := decide_eq_true (by omega)
    clear h
    go_enter Tryd.func5, Tryd.ntmps5
    go_wp2
    go_ret2
    exact ⟨rfl, rfl⟩
set_option maxRecDepth 8000 in
theorem new_ok (n : Nat) (w : World) (h1 : 0 < n) (h2 : (n : Int) ≤ 65536) : Calls Tryd.prog 5 #[.int .i64 (n : Int)] w fun e w' => ∃ rb b, e = .returned (.tuple #[.pointer (some ⟨rb, 0, .none⟩), .int .i64 0]) ∧ Below w.heap.size w w' ∧ Rg w' rb b n (List.replicate n Ev.none) [] ∧ w.heap.size ≤ rb ∧ w.heap.size ≤ b := by
  have d1 : decide ((n : Int) < 1) = false := decide_eq_false (by omega)
  have d2 : decide (65536 < (n : Int)) = false := decide_eq_false (by omega)
  have H1 := hide h1
  have H2 := hide h2
  obtain ⟨i0, hi, hz0, hz1, hz2⟩ := info_parts Tryd.infoE
  clear h1 h2
  go_enter Tryd.func5, Tryd.ntmps5
  go_wp2_with (at_make; refine wpList_make_full _ rfl _ _ 22 rfl w.heap.size 32 i0 (.agg #[.int .i64 0, .int .i64 0, .int .u64 0, .int .u64 0, .slice .none 0 0]) 5 Tryd.underlying22 hi hz0 hz1 _ _ _ _ n rfl rfl rfl rfl ?b2 ?b3 (Nat.le_refl _) ?_)
  case b2 => rw [hz2]; have := H2.out; omega
  case b3 => unfold maxLen; have := H2.out; omega
  intro w1 hown1 hgr1
  have HO := hide (evs_made hown1)
  have HB := hide ((Below.refl w.heap.size w).grown hgr1 (Nat.le_refl _) (fun k h => by cases h))
  have hlt : w.heap.size < w1.heap.size := by obtain ⟨g, c, hv, _, hg, _⟩ := own_some hown1 H1.out; cases hv; exact hg
  have HL := hide hlt
  clear hown1 hgr1 hlt
  go_wp2
  go_ret2
  have hb2 : Below w1.heap.size w1 (w1.alloc (.cells #[.slice (some ⟨w.heap.size, 0, .none⟩) n n, .int .i64 0] 39)) := below_new _ _
  refine ⟨w1.heap.size, w.heap.size, rfl, Below.on HB.out hb2, ⟨heap_new _ _, (HO.out.mono (Nat.zero_le _)).below hb2, List.length_replicate, H1.out, H2.out, by simp, fun j x hx => by simp at hx⟩, HB.out.size, Nat.le_refl _⟩
end Go.Proofs.YtkjmmcpjdjjmlaaDoor
