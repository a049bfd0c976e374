/-
  HeapOwn: the law's own calls.
-/
import Derived.Test.YtdmlehbamdcjcabFam
import Derived.Test.YtdmlehbamdcjcabIntC
import Derived.Test.YtdmlehbamdcjcabHpJI
import Derived.Test.YtdmlehbamdcjcabSIt
import Derived.Test.YtdmlehbamdcjcabAliv
import Derived.Test.YtdmlehbamdcjcabOrdA
import Derived.Test.YtdmlehbamdcjcabLwAI
import Derived.Test.YtdmlehbamdcjcabHpTI
namespace Go.Proofs.Ytdmlehbamdcjcab
open Go.RowKit
theorem Try.info3w : (Try.prog.info? 3).map (fun i => (i.zero, i.size, i.bytes)) = some (some (.int .i64 0), 1, 8) := by kernel_rfl
theorem own_sitsF {w : World} {base : Nat} {s : Sl} {C : List It} (h : Own layI 28 w base (.slice s.a s.n s.c) C) : SitsI w s C := by
  obtain ⟨a, c, hv, h0, hc⟩ := own_form h
  injection hv with e1 e2 e3
  refine ⟨h.row e2.symm, fun e => ?_, by rw [e2, e3]; exact hc⟩
  rw [e2, e3]
  exact h0 (by rw [← e1]; exact e)
theorem mrg_oneW {α : Type} {f : α × Int → α × Int → Bool} {l O : List α} (h : Mrg f [l] O) : O = l := by
  induction l generalizing O with
  | nil =>
    cases h with
    | done _ => rfl
    | @step _ k x t O hk _ h => cases k <;> simp at hk
  | cons x t ih =>
    cases h with
    | done h => simp [heads] at h
    | @step _ k y u O hk _ h =>
      cases k with
      | succ k => simp at hk
      | zero =>
        simp at hk
        obtain ⟨rfl, rfl⟩ := hk
        rw [ih h]
theorem heads_totalW {α : Type} {Ls : List (List α)} {s : Int} (h : heads Ls s = []) : total Ls = 0 := by
  induction Ls generalizing s with
  | nil => rfl
  | cons C Ls ih =>
    rw [heads_cons] at h
    obtain ⟨h1, h2⟩ := List.append_eq_nil_iff.mp h
    cases C with
    | nil => simp [total, ih h2]
    | cons x t => simp [heads] at h1
theorem mrg_lenW {α : Type} {f : α × Int → α × Int → Bool} {cur : List (List α)} {O : List α} (h : Mrg f cur O) : O.length = total cur := by
  induction h with
  | done h => rw [heads_totalW h]; rfl
  | step hk _ _ ih => rw [List.length_cons, ih, total_set hk]
theorem row_twoW {w : World} {B : Nat} {e : TypeId} {x y : Sl} {fr : Nat × Nat} (h : w.heap[B]? = some (.cells #[.slice x.a x.n x.c, .slice y.a y.n y.c] e fr)) : TRow laySl w (some ⟨B, 0, none⟩) 2 [x, y] := by
  refine ⟨rfl, .inr ⟨B, 0, rfl, fun i u hi t v hv => ?_⟩⟩
  have ht := get_lt hv
  have ht0 : t = 0 := by simpa [laySl] using ht
  subst ht0
  have hi2 : i < 2 := by simpa using get_lt hi
  have hv' : v = .slice u.a u.n u.c := by simpa [laySl] using hv.symm
  subst hv'
  simp only [laySl, Nat.mul_one, Nat.zero_add, Nat.add_zero]
  rcases Nat.lt_or_ge i 1 with h1 | h1
  · obtain rfl : i = 0 := by omega
    simp at hi
    subst hi
    exact cell_at h rfl
  · obtain rfl : i = 1 := by omega
    simp at hi
    subst hi
    exact cell_at h rfl
set_option maxHeartbeats 800000 in
theorem sameNW (a b : Option Addr) (n ca cb : Nat) (L : List Int) (w : World) (hA : TRow layN w a n L) (hB : TRow layN w b n L) (hn : (n : Int) ≤ 9223372036854775000) :
    Calls Try.prog 22 #[.slice a n ca, .slice b n cb] w fun e w' => e = .returned (.bool true) ∧ Below w.heap.size w w' := by
  have hl := hA.len
  have H1 : Hid _ := hide hA
  have H2 : Hid _ := hide hB
  have HL : Hid _ := hide hl
  clear hA hB hl
  go_enter Try.func22, Try.ntmps22
  go_wp2
  go_loopw [5] (fun i wr => ∃ k : Nat, k ≤ n ∧ i = .int .i64 k ∧ Below w.heap.size w wr) (fun i _ => n - (intOf i).toNat)
  case atStart => exact ⟨0, Nat.zero_le _, rfl, Below.refl _ _⟩
  case round =>
    obtain ⟨k, hk, rfl, hw⟩ := hrel
    have A1 := H1.out.below hw
    have A2 := H2.out.below hw
    have HW : Hid _ := hide hw
    clear hw
    by_cases hlt : k < n
    · obtain ⟨x, hrk⟩ : ∃ r, L[k]? = some r := ⟨L[k]'(by rw [HL.out]; exact hlt), List.getElem?_eq_getElem _⟩
      obtain ⟨b1, o1, rfl, _, hc1⟩ := A1.at (by omega)
      obtain ⟨b2, o2, rfl, _, hc2⟩ := A2.at (by omega)
      have x0 := hc1 k x hrk 0 _ rfl
      have y0 := hc2 k x hrk 0 _ rfl
      simp only [layN, Nat.mul_one, Nat.add_zero] at x0 y0
      have hltI : (k : Int) < (n : Int) := by omega
      clear A1 A2 hc1 hc2 hrk
      go_wp2
      go_quiet (fail)
      go_wp2
      exact ⟨⟨k + 1, by omega, by go_num, below_drewN HW.out _⟩, by simp [intOf]; omega⟩
    · clear A1 A2
      go_wp2
      go_ret
      exact ⟨rfl, HW.out⟩
set_option maxRecDepth 8000 in
theorem twinW (w : World) (a : Option Addr) (N c : Nat) (L : List It) (hr : TRow layI w a N L) (h0 : a = none → N = 0 ∧ c = 0) (hN : (N : Int) ≤ 5000000000000) :
    Calls Try.prog 23 #[.slice a N c] w fun r w' => ∃ v, r = .returned v ∧ Own layI 28 w' w.heap.size v L ∧ Below w.heap.size w w' := by
  obtain ⟨i0, hi, hz0, hz1, hz2⟩ := info_parts Try.infoTI
  have HR : Hid _ := hide hr
  have H0 : Hid _ := hide h0
  clear hr h0
  go_enter Try.func23, Try.ntmps23
  go_wp2_with (at_builtin; refine append_lay layI _ 24 28 i0 _ 16 Try.underlying24 hi hz0 hz1 hz2 rfl rfl (.tmp 4) (.tmp 5) rfl w.heap.size _ [] rfl (Own.nil _ _ _ _) _ _ _ L rfl HR.out H0.out (by simp [maxLen]; omega) (by simp; omega) (Nat.le_refl _) ?_; intro v2 w2 hown2 hgr2 hl2)
  go_ret
  exact ⟨v2, rfl, hown2, (Below.refl _ _).grown hgr2 (Nat.le_refl _) (fun k hk => by cases hk)⟩
/-- Merge of one list, and of the same list twice. -/
theorem merge_oneW (w : World) (s : Sl) (C : List It) (h : SitsI w s C) (hl : (C.length : Int) ≤ 1048576) :
    Calls Try.prog 20 #[.slice (some ⟨w.heap.size, 0, none⟩) 1 1] (w.alloc (.cells #[.slice s.a s.n s.c] 24 (0, 0))) fun r w' => ∃ v, r = .returned v ∧ Own layI 28 w' w.heap.size v C ∧ Below w.heap.size w w' := by
  refine (mergeI _ _ 1 1 [s] [C] (TRow.one (heap_new _ _)) (fun e => by cases e) rfl (fun j x D h1 h2 => ?_) (by omega) (by simp [total]; omega)).mono ?_
  · have hj0 : j = 0 := by simpa using get_lt h1
    subst hj0
    simp at h1 h2
    subst h1
    subst h2
    exact h.below (below_alloc1 _ _)
  · rintro r w' ⟨v, O, rfl, o, m, b⟩
    have := mrg_oneW m
    subst this
    exact ⟨v, rfl, o.mono (by simp), (below_alloc1 w _).trans (b.mono (by simp))⟩
theorem merge_twoW (w : World) (s : Sl) (C : List It) (h : SitsI w s C) (hl : (C.length : Int) ≤ 1048576) :
    Calls Try.prog 20 #[.slice (some ⟨w.heap.size, 0, none⟩) 2 2] (w.alloc (.cells #[.slice s.a s.n s.c, .slice s.a s.n s.c] 24 (0, 0))) fun r w' => ∃ v O, r = .returned v ∧ O.length = C.length + C.length ∧ Own layI 28 w' w.heap.size v O ∧ Below w.heap.size w w' := by
  refine (mergeI _ _ 2 2 [s, s] [C, C] (row_twoW (heap_new _ _)) (fun e => by cases e) rfl (fun j x D h1 h2 => ?_) (by omega) (by simp [total]; omega)).mono ?_
  · have hx : x = s ∧ D = C := by
      rcases j with _ | _ | j
      · simp at h1 h2; exact ⟨h1.symm, h2.symm⟩
      · simp at h1 h2; exact ⟨h1.symm, h2.symm⟩
      · simp at h1
    rw [hx.1, hx.2]
    exact h.below (below_alloc1 _ _)
  · rintro r w' ⟨v, O, rfl, o, m, b⟩
    refine ⟨v, O, rfl, ?_, o.mono (by simp), (below_alloc1 w _).trans (b.mono (by simp))⟩
    rw [mrg_lenW m]
    simp [total]
end Go.Proofs.Ytdmlehbamdcjcab
