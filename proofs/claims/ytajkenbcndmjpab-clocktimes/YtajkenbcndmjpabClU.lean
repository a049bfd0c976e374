/-
  readWithin, readTick.
-/
import Derived.Test.YtajkenbcndmjpabClT
namespace Go.Proofs.Ytajkenbcndmjpab
open Go.RowKit
open Go.Proofs.Ytajkenbcndmjpab.W1 (Row out3 ret_out3 rdAt rdAt_bd rdAt_place ru_any rru_any)
theorem wrapU_ok {x : Int} (h1 : 0 ≤ x) (h2 : x ≤ 18446744073709551615) : IntKind.u64.wrap x = x := by simp [IntKind.wrap, IntKind.bits, IntKind.signed]; omega
theorem rw_any (a : Option Addr) (n c : Nat) (t most : Int) (zs : List Int) (w : World) (hr : Row w a n zs) (hn : (n : Int) ≤ 9223372036854700000) (hm : most ≤ 9223372036854775807) :
    Calls Try.prog 27 #[.slice a n c, .int .i64 t, .int .i64 most] w fun e w' => e = .returned (out3 .i64 (rdN zs most t)) ∧ w' = w := by
  have hb := rdAt_bd zs t hr.u8
  have ru := ru_any a n c t zs w hr hn
  have E : Hid (rdN zs most t = if (rdAt zs t).2.2 ≠ 0 then (0, 0, (rdAt zs t).2.2) else if most < 0 ∨ most < (rdAt zs t).1 then (0, 0, 170) else ((rdAt zs t).1, (rdAt zs t).2.1, 0)) := hide rfl
  generalize rdN zs most t = R at E
  generalize rdAt zs t = q at hb E ru
  obtain ⟨x, p, r⟩ := q
  have hb : 0 ≤ x ∧ x ≤ 18446744073709551615 ∧ (r ≠ 0 → x = 0 ∧ p = 0) := hb
  have E : Hid (R = if r ≠ 0 then (0, 0, r) else if most < 0 ∨ most < x then (0, 0, 170) else (x, p, 0)) := E
  simp only [out3] at ru
  have H := hide ru
  obtain ⟨hx0, hx1, -⟩ := hb
  clear ru hr hn
  by_cases h0 : r = 0
  · subst h0
    by_cases h1 : most < 0
    · have E2 : Hid (R = (0, 0, 170)) := hide (by rw [E.out, if_neg (by simp), if_pos (.inl h1)])
      have d1 : decide (most < 0) = true := decide_eq_true h1
      clear E
      go_enter Try.func27, Try.ntmps27
      go_wp2_with fail
      refine H.out.mono ?_
      rintro e w1 ⟨rfl, hw⟩
      rw [hw]
      clear hw w1 H
      go_wp2
      go_ret3
      exact ⟨ret_out3 E2.out, rfl⟩
    · have d1 : decide (most < 0) = false := decide_eq_false h1
      have hwm : IntKind.u64.wrap most = most := wrapU_ok (by omega) (by omega)
      by_cases h2 : most < x
      · have E2 : Hid (R = (0, 0, 170)) := hide (by rw [E.out, if_neg (by simp), if_pos (.inr h2)])
        have d2 : decide (most < x) = true := decide_eq_true h2
        clear E
        go_enter Try.func27, Try.ntmps27
        go_wp2_with fail
        refine H.out.mono ?_
        rintro e w1 ⟨rfl, hw⟩
        rw [hw]
        clear hw w1 H
        go_wp2
        go_ret3
        exact ⟨ret_out3 E2.out, rfl⟩
      · have E2 : Hid (R = (x, p, 0)) := hide (by rw [E.out, if_neg (by simp), if_neg (by omega)])
        have d2 : decide (most < x) = false := decide_eq_false h2
        have hwx : wrap64 x = x := by unfold wrap64; omega
        clear E
        go_enter Try.func27, Try.ntmps27
        go_wp2_with fail
        refine H.out.mono ?_
        rintro e w1 ⟨rfl, hw⟩
        rw [hw]
        clear hw w1 H
        go_wp2
        go_ret3
        exact ⟨ret_out3 E2.out, rfl⟩
  · have E2 : Hid (R = (0, 0, r)) := hide (by rw [E.out, if_pos h0])
    have d1 : (r != 0) = true := by simp [h0]
    clear E
    go_enter Try.func27, Try.ntmps27
    go_wp2_with fail
    refine H.out.mono ?_
    rintro e w1 ⟨rfl, hw⟩
    rw [hw]
    clear hw w1 H
    go_wp2
    go_ret3
    exact ⟨ret_out3 E2.out, rfl⟩
theorem results_ctt {P : Program} {fn : Func} {p t u : Tmp} {ty : TypeId} (h : fn.results = #[.cell p ty, .tmp t, .tmp u]) (tmps : Array Value) (w : World) (g : Nat) (ty' : TypeId) (cs : Array Value) (fr : Nat × Nat) (d : TypeDesc)
    (hp : tmps.getD p undef = .pointer (some ⟨g, 0, none⟩)) (hg : w.heap[g]? = some (.cells cs ty' fr))
    (hu : P.underlying ty = some d) (hd : (match d with | .struct _ | .array _ _ => true | _ => false) = true) (hi : (P.info? ty).map (·.size) = some cs.size) :
    (results fn tmps).run P w = .ok (.tuple #[.agg cs, tmps.getD t undef, tmps.getD u undef]) w := by
  have hp' : tmps[p]?.getD undef = .pointer (some ⟨g, 0, none⟩) := by simpa using hp
  simp [results, h, hp', asAddr, run_loadVar_row w g ty' ty cs fr d hg hu hd hi]
/-- A tick and its place as values. -/
def tkV (r : Tk × Int × Int) : Value := .tuple #[.agg #[.int .i64 r.1.g, .int .i64 r.1.t], .int .i64 r.2.1, .int .i64 r.2.2]
theorem ret_tk {r : Tk × Int × Int} {g t p e : Int} (h : r = (⟨g, t⟩, p, e)) : Ending.returned (.tuple #[.agg #[.int .i64 g, .int .i64 t], .int .i64 p, .int .i64 e]) = .returned (tkV r) := by rw [h]; rfl
set_option maxRecDepth 8000 in
set_option maxHeartbeats 1000000 in
theorem rt_any (a : Option Addr) (n c : Nat) (m t : Int) (zs : List Int) (w : World) (hr : Row w a n zs) (hn : (n : Int) ≤ 9223372036854700000) (hm0 : 0 ≤ m) (hm1 : m ≤ 65536) :
    Calls Try.prog 28 #[.int .i64 m, .slice a n c, .int .i64 t] w fun e w' => e = .returned (tkV (rdT zs m t)) ∧ Below w.heap.size w w' := by
  obtain ⟨W, hW⟩ : ∃ W, W = w.alloc (.cells #[.int .i64 0, .int .i64 0] 43) := ⟨_, rfl⟩
  have bW : Below w.heap.size w W := by rw [hW]; exact below_alloc1 _ _
  have hp : W.heap[w.heap.size]? = some (.cells #[.int .i64 0, .int .i64 0] 43 (0, 0)) := by rw [hW]; exact heap_new _ _
  have hrW := hr.below bW
  have B1 := rdN_bd zs (65535 - m) t hr.u8
  have H1 := rw_any a n c t (65535 - m) zs W hrW hn (by omega)
  have E : Hid (rdT zs m t = if (rdN zs (65535 - m) t).2.2 ≠ 0 then (⟨0, 0⟩, 0, (rdN zs (65535 - m) t).2.2)
    else if (rdN zs 9223372036854775807 (rdN zs (65535 - m) t).2.1).2.2 ≠ 0 then (⟨0, 0⟩, 0, (rdN zs 9223372036854775807 (rdN zs (65535 - m) t).2.1).2.2)
    else if (rdN zs 9223372036854775807 (rdN zs (65535 - m) t).2.1).1 = 0 then (⟨0, 0⟩, 0, 170)
    else (⟨m + (rdN zs (65535 - m) t).1, (rdN zs 9223372036854775807 (rdN zs (65535 - m) t).2.1).1⟩, (rdN zs 9223372036854775807 (rdN zs (65535 - m) t).2.1).2.1, 0)) := hide rfl
  generalize rdT zs m t = R at E
  generalize rdN zs (65535 - m) t = q1 at B1 H1 E
  obtain ⟨d, p, e1⟩ := q1
  have H2 := rw_any a n c p 9223372036854775807 zs W hrW hn (by omega)
  dsimp only at B1 E
  generalize rdN zs 9223372036854775807 p = q2 at H2 E
  obtain ⟨x, p2, e2⟩ := q2
  dsimp only at E
  simp only [out3] at H1 H2
  have c0 : W.cell? ⟨w.heap.size, 0, none⟩ = some (.int .i64 0) := cell_at hp rfl
  have c1 : W.cell? ⟨w.heap.size, 1, none⟩ = some (.int .i64 0) := cell_at hp rfl
  have f0 := frz hp 0
  have f1 := frz hp 1
  have HB := hide B1
  have K1 := hide H1
  have K2 := hide H2
  have HBW := hide bW
  have HP := hide hp
  have hset : ∀ u v X, X = (W.setCell ⟨w.heap.size, 0, none⟩ u).setCell ⟨w.heap.size, 1, none⟩ v → X.heap[w.heap.size]? = some (.cells #[u, v] 43 (0, 0)) ∧ Below w.heap.size w X := fun u v X hX => by
    rw [hX]
    exact ⟨set1_heap (i := 1) v (set1_heap (i := 0) u HP.out), (HBW.out.setCell (Nat.le_refl _) _).setCell (Nat.le_refl _) _⟩
  have HS := hide hset
  have hm2 : wrap64 (65535 - m) = 65535 - m := by unfold wrap64; omega
  clear B1 H1 H2 bW hp hrW hr hset hn
  by_cases h1 : e1 = 0
  · subst h1
    have hd0 := HB.out.1
    have hd1 := (HB.out.2 rfl).1
    by_cases h2 : e2 = 0
    · subst h2
      by_cases h3 : x = 0
      · subst h3
        have E2 : Hid (R = (⟨0, 0⟩, 0, 170)) := hide (by rw [E.out]; simp)
        clear E
        go_enter Try.func28, Try.ntmps28
        go_wp2_with fail
        rw [← hW]
        clear hW
        refine K1.out.mono ?_
        rintro e w1 ⟨rfl, hw⟩
        rw [hw]
        clear hw w1
        go_wp2_with fail
        refine K2.out.mono ?_
        rintro e w1 ⟨rfl, hw⟩
        rw [hw]
        clear hw w1
        go_wp2
        obtain ⟨r1, r2⟩ := HS.out _ _ _ rfl
        refine bodyPost_ret (results_ctt Try.results28 _ _ w.heap.size 43 _ (0, 0) _ rfl r1 Try.underlying43 rfl (by kernel_rfl)) rfl ?_
        exact ⟨ret_tk E2.out, r2⟩
      · have E2 : Hid (R = (⟨m + d, x⟩, p2, 0)) := hide (by rw [E.out, if_neg (by simp), if_neg (by simp), if_neg h3])
        have hxb : (x == 0) = false := by simp [h3]
        have hmd : wrap64 (m + d) = m + d := by unfold wrap64; omega
        clear E
        go_enter Try.func28, Try.ntmps28
        go_wp2_with fail
        rw [← hW]
        clear hW
        refine K1.out.mono ?_
        rintro e w1 ⟨rfl, hw⟩
        rw [hw]
        clear hw w1
        go_wp2_with fail
        refine K2.out.mono ?_
        rintro e w1 ⟨rfl, hw⟩
        rw [hw]
        clear hw w1
        go_wp2
        obtain ⟨r1, r2⟩ := HS.out _ _ _ rfl
        refine bodyPost_ret (results_ctt Try.results28 _ _ w.heap.size 43 _ (0, 0) _ rfl r1 Try.underlying43 rfl (by kernel_rfl)) rfl ?_
        exact ⟨ret_tk E2.out, r2⟩
    · have E2 : Hid (R = (⟨0, 0⟩, 0, e2)) := hide (by rw [E.out, if_neg (by simp), if_pos h2])
      have d2 : (e2 != 0) = true := by simp [h2]
      clear E
      go_enter Try.func28, Try.ntmps28
      go_wp2_with fail
      rw [← hW]
      clear hW
      refine K1.out.mono ?_
      rintro e w1 ⟨rfl, hw⟩
      rw [hw]
      clear hw w1
      go_wp2_with fail
      refine K2.out.mono ?_
      rintro e w1 ⟨rfl, hw⟩
      rw [hw]
      clear hw w1
      go_wp2
      obtain ⟨r1, r2⟩ := HS.out _ _ _ rfl
      refine bodyPost_ret (results_ctt Try.results28 _ _ w.heap.size 43 _ (0, 0) _ rfl r1 Try.underlying43 rfl (by kernel_rfl)) rfl ?_
      exact ⟨ret_tk E2.out, r2⟩
  · have E2 : Hid (R = (⟨0, 0⟩, 0, e1)) := hide (by rw [E.out, if_pos h1])
    have d1 : (e1 != 0) = true := by simp [h1]
    clear E
    go_enter Try.func28, Try.ntmps28
    go_wp2_with fail
    rw [← hW]
    clear hW
    refine K1.out.mono ?_
    rintro e w1 ⟨rfl, hw⟩
    rw [hw]
    clear hw w1
    go_wp2
    obtain ⟨r1, r2⟩ := HS.out _ _ _ rfl
    refine bodyPost_ret (results_ctt Try.results28 _ _ w.heap.size 43 _ (0, 0) _ rfl r1 Try.underlying43 rfl (by kernel_rfl)) rfl ?_
    exact ⟨ret_tk E2.out, r2⟩
end Go.Proofs.Ytajkenbcndmjpab
