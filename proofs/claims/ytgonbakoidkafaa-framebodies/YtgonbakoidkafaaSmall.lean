/-
  headMayBe, fieldsOf, most, numbers, framesMayBe, readCount, twin.
-/
import Derived.Test.YtgonbakoidkafaaRowz
import Derived.Test.YtgonbakoidkafaaReadsB
import Derived.Lib.MinMax
import Derived.Deep.RegionHeld3
namespace Go.Proofs.Ytgonbakoidkafaa
open Go.RowKit
/-- May a head be? -/
def okH (l e s t n : Int) : Bool := decide (64 ≤ l ∧ l ≤ 1048576 ∧ 0 ≤ e ∧ e ≤ 1048576 ∧ 0 ≤ s ∧ s ≤ 65536 ∧ 0 ≤ t ∧ t ≤ 65536 ∧ 0 ≤ n ∧ n ≤ 262144)
theorem okH_true {l e s t n : Int} (h1 : min (max l 64) 1048576 = l) (h2 : min (max e 0) 1048576 = e) (h3 : min (max s 0) 65536 = s) (h4 : min (max t 0) 65536 = t) (h5 : min (max n 0) 262144 = n) : true = okH l e s t n := by
  unfold okH; symm; rw [decide_eq_true_eq]; omega
theorem okH_1 {l e s t n : Int} (h1 : ¬ min (max l 64) 1048576 = l) : false = okH l e s t n := by
  unfold okH; symm; rw [decide_eq_false_iff_not]; omega
theorem okH_2 {l e s t n : Int} (h1 : ¬ min (max e 0) 1048576 = e) : false = okH l e s t n := by
  unfold okH; symm; rw [decide_eq_false_iff_not]; omega
theorem okH_3 {l e s t n : Int} (h1 : ¬ min (max s 0) 65536 = s) : false = okH l e s t n := by
  unfold okH; symm; rw [decide_eq_false_iff_not]; omega
theorem okH_4 {l e s t n : Int} (h1 : ¬ min (max t 0) 65536 = t) : false = okH l e s t n := by
  unfold okH; symm; rw [decide_eq_false_iff_not]; omega
theorem okH_5 {l e s t n : Int} (h1 : ¬ min (max n 0) 262144 = n) : false = okH l e s t n := by
  unfold okH; symm; rw [decide_eq_false_iff_not]; omega

theorem below_alloc1 (w : World) (o : Obj) : Below w.heap.size w (w.alloc o) := (Below.refl _ _).alloc (Nat.le_refl _) _
theorem below_alloc2 (w : World) (o1 o2 : Obj) : Below w.heap.size w ((w.alloc o1).alloc o2) := ((Below.refl _ _).alloc (Nat.le_refl _) _).alloc (by simp) _
set_option maxHeartbeats 800000 in
/-- headMayBe. -/
theorem hm_any (l e s t n : Int) (w : World) :
    Calls Try.prog 14 #[.agg #[.int .i64 l, .int .i64 e, .int .i64 s, .int .i64 t, .int .i64 n]] w fun r w' => r = .returned (.bool (okH l e s t n)) ∧ Below w.heap.size w w' := by
  go_enter Try.func14, Try.ntmps14
  go_wp2
  · go_ret
    exact ⟨ret_bool (okH_true ‹_› ‹_› ‹_› ‹_› ‹_›), below_alloc2 _ _ _⟩
  · go_ret
    exact ⟨ret_bool (okH_5 ‹_›), below_alloc2 _ _ _⟩
  · go_ret
    exact ⟨ret_bool (okH_4 ‹_›), below_alloc2 _ _ _⟩
  · go_ret
    exact ⟨ret_bool (okH_3 ‹_›), below_alloc2 _ _ _⟩
  · go_ret
    exact ⟨ret_bool (okH_2 ‹_›), below_alloc2 _ _ _⟩
  · go_ret
    exact ⟨ret_bool (okH_1 ‹_›), below_alloc2 _ _ _⟩
set_option maxHeartbeats 800000 in
/-- fieldsOf. -/
theorem fo_any (b : Nat) (w : World) :
    Calls Try.prog 15 #[.pointer (some ⟨b, 0, none⟩)] w fun r w' => r = .returned (.agg #[.pointer (some ⟨b, 0, none⟩), .pointer (some ⟨b, 1, none⟩), .pointer (some ⟨b, 2, none⟩), .pointer (some ⟨b, 3, none⟩), .pointer (some ⟨b, 4, none⟩)]) ∧ Below w.heap.size w w' := by
  go_enter Try.func15, Try.ntmps15
  go_wp2
  go_region_held3 (fun _ => True) (exact trivial) (fail)
  go_wp2
  refine bodyPost_ret (v := .agg #[.pointer (some ⟨b, 0, none⟩), .pointer (some ⟨b, 1, none⟩), .pointer (some ⟨b, 2, none⟩), .pointer (some ⟨b, 3, none⟩), .pointer (some ⟨b, 4, none⟩)]) (by simp [results, Try.results15, go_sem]) rfl ⟨rfl, (below_alloc1 _ _).drew⟩
set_option maxHeartbeats 800000 in
/-- numbers. -/
theorem nu_any (l e s t n : Int) (w : World) :
    Calls Try.prog 18 #[.agg #[.int .i64 l, .int .i64 e, .int .i64 s, .int .i64 t, .int .i64 n]] w fun r w' => r = .returned (.agg #[.int .i64 l, .int .i64 e, .int .i64 s, .int .i64 t, .int .i64 n]) ∧ Below w.heap.size w w' := by
  go_enter Try.func18, Try.ntmps18
  go_wp2
  refine bodyPost_ret (v := .agg #[.int .i64 l, .int .i64 e, .int .i64 s, .int .i64 t, .int .i64 n]) (by simp [results, Try.results18, go_sem]) rfl ⟨rfl, below_alloc2 _ _ _⟩
set_option maxHeartbeats 800000 in
/-- most. -/
theorem mo_any (w : World) :
    Calls Try.prog 17 #[] w fun r w' => r = .returned (.tuple #[.agg #[.int .i64 1048576, .int .i64 1048576, .int .i64 65536, .int .i64 65536, .int .i64 262144], .agg #[.int .i64 64, .int .i64 0, .int .i64 0, .int .i64 0, .int .i64 0]]) ∧ Below w.heap.size w w' := by
  go_enter Try.func17, Try.ntmps17
  go_wp2
  refine bodyPost_ret (v := .tuple #[.agg #[.int .i64 1048576, .int .i64 1048576, .int .i64 65536, .int .i64 65536, .int .i64 262144], .agg #[.int .i64 64, .int .i64 0, .int .i64 0, .int .i64 0, .int .i64 0]]) (by simp [results, Try.results17, go_sem]) rfl ⟨rfl, below_alloc2 _ _ _⟩
theorem fm_any (n : Int) (w : World) :
    Calls Try.prog 20 #[.int .i64 n] w fun r w' => r = .returned (.bool (decide (0 ≤ n ∧ n ≤ 4294967295))) ∧ w' = w := by
  generalize hR : decide (0 ≤ n ∧ n ≤ 4294967295) = R
  have HR : Hid (decide (0 ≤ n ∧ n ≤ 4294967295) = R) := hR
  clear hR
  go_enter Try.func20, Try.ntmps20
  go_wp2
  · go_ret
    exact ⟨ret_bool (by rw [← HR.out]; have h0 : 0 ≤ n := ‹_›; simp [h0]), rfl⟩
  · go_ret
    exact ⟨ret_bool (by rw [← HR.out]; symm; rw [decide_eq_false_iff_not]; omega), rfl⟩
/-- readCount. -/
theorem rc_any (a : Option Addr) (n c : Nat) (t : Int) (zs : List Int) (w : World) (hr : Row w a n zs) (hn : (n : Int) ≤ 9223372036854700000) :
    Calls Try.prog 23 #[.slice a n c, .int .i64 t] w fun e w' => e = .returned (out3 .i64 (min (rdAt zs t).1 9223372036854775807, (rdAt zs t).2.1, (rdAt zs t).2.2)) ∧ w' = w := by
  have hb := rdAt_bd zs t hr.u8
  have ru := ru_any a n c t zs w hr hn
  generalize rdAt zs t = q at hb ru
  obtain ⟨x, p, r⟩ := q
  have hb : 0 ≤ x ∧ x ≤ 18446744073709551615 ∧ (r ≠ 0 → x = 0 ∧ p = 0) := hb
  simp only [out3] at ru ⊢
  have hb1 := hb.1
  have hb2 := hb.2.1
  clear hb
  go_enter Try.func23, Try.ntmps23
  go_wp2_with fail
  refine ru.mono ?_
  rintro e w' ⟨rfl, rfl⟩
  clear ru
  go_wp2
  go_ret3
  exact ⟨rfl, rfl⟩
/-- twin. -/
theorem tw_any (a : Option Addr) (n c : Nat) (zs : List Int) (w : World) (hr : Row w a n zs) (hn : n ≤ 140737488351232) (h0 : a = none → n = 0 ∧ c = 0) :
    Calls Try.prog 4 #[.slice a n c] w fun e w' => ∃ a' c', e = .returned (.slice a' n c') ∧ (a' = none → n = 0 ∧ c' = 0) ∧ Row w' a' n zs ∧ Below w.heap.size w w' := by
  go_enter Try.func4, Try.ntmps4
  go_wp2_with (at_builtin; refine append_row w rfl (.tmp 4) (.tmp 5) rfl w.heap.size (.slice none 0 0) 0 [] rfl (World.ownsRow_nil _ _ _ _) a n c zs rfl hr h0 (by omega) (Nat.le_refl _) ?_; intro v' w1 hown1 hgrow1)
  have e : 0 + n = n := by omega
  rw [e, List.nil_append] at hown1
  obtain ⟨a', c', rfl⟩ := own_form hown1
  go_ret
  exact ⟨a', c', rfl, own_nil hown1, own_row_u8 hown1 hr.u8, (Below.refl _ _).grown hgrow1 (Nat.le_refl _) (fun k h => by cases h)⟩
end Go.Proofs.Ytgonbakoidkafaa
