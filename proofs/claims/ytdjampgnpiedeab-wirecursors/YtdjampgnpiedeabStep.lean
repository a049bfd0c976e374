/-
  One step with both cursors.
-/
import Derived.Test.YtdjampgnpiedeabPair
namespace Go.Proofs.Ytdjampgnpiedeab
open Go.RowKit

/-- The world with the step's own copy in it. -/
def wop (w : World) (kind N : Int) : World := w.alloc (.cells #[.int .i64 kind, .int .i64 N] 32)
theorem wop_below (w : World) (kind N : Int) (B : Nat) (h : B ≤ w.heap.size) : Below B w (wop w kind N) := (Below.refl _ _).alloc h _
theorem wop_size (w : World) (kind N : Int) : (wop w kind N).heap.size = w.heap.size + 1 := by simp [wop]

theorem step_end {w w2 : World} {base top : Nat} {c r : Value} {kind N : Int} (hs : Sit w2 base top c r) (hb : Below base (wop w kind N) w2) (hbase : base ≤ w.heap.size) : Sit w2 base top c r ∧ Below base w w2 :=
  ⟨hs, (wop_below w kind N base hbase).trans hb⟩

set_option maxHeartbeats 800000 in
theorem step1 (c r : Value) (N : Int) (w : World) (base top : Nat) (h : Sit w base top c r) (hbase : base ≤ w.heap.size) (htop : top ≤ w.heap.size) :
    Calls Try.prog 8 #[c, r, .agg #[.int .i64 1, .int .i64 N]] w fun e w' => e = .returned (.bool true) ∧ Sit w' base top c r ∧ Below base w w' := by
  have HH := hide (two_byte (h.keep (wop_below w 1 N top htop)) (by rw [wop_size]; omega))
  clear h
  unfold wop at HH
  go_enter Try.func8, Try.ntmps8
  go_wp2_with fail
  refine HH.out.mono ?_
  rintro e w1 ⟨x, rfl, h2⟩
  have H2 := hide h2
  clear h2 HH
  go_wp2_with fail
  refine H2.out.mono ?_
  rintro e w2 ⟨rfl, hs, hb⟩
  clear H2
  go_wp2
  go_ret
  exact ⟨by simp, step_end (kind := 1) (N := N) hs hb hbase⟩
set_option maxHeartbeats 800000 in
theorem step2 (c r : Value) (N : Int) (w : World) (base top : Nat) (h : Sit w base top c r) (hbase : base ≤ w.heap.size) (htop : top ≤ w.heap.size) :
    Calls Try.prog 8 #[c, r, .agg #[.int .i64 2, .int .i64 N]] w fun e w' => e = .returned (.bool true) ∧ Sit w' base top c r ∧ Below base w w' := by
  have HH := hide (two_uvarint (h.keep (wop_below w 2 N top htop)) (by rw [wop_size]; omega))
  clear h
  unfold wop at HH
  go_enter Try.func8, Try.ntmps8
  go_wp2_with fail
  refine HH.out.mono ?_
  rintro e w1 ⟨x, rfl, h2⟩
  have H2 := hide h2
  clear h2 HH
  go_wp2_with fail
  refine H2.out.mono ?_
  rintro e w2 ⟨rfl, hs, hb⟩
  clear H2
  go_wp2
  go_ret
  exact ⟨by simp, step_end (kind := 2) (N := N) hs hb hbase⟩
set_option maxHeartbeats 800000 in
theorem step3 (c r : Value) (N : Int) (w : World) (base top : Nat) (h : Sit w base top c r) (hbase : base ≤ w.heap.size) (htop : top ≤ w.heap.size) :
    Calls Try.prog 8 #[c, r, .agg #[.int .i64 3, .int .i64 N]] w fun e w' => e = .returned (.bool true) ∧ Sit w' base top c r ∧ Below base w w' := by
  have HH := hide (two_varint (h.keep (wop_below w 3 N top htop)) (by rw [wop_size]; omega))
  clear h
  unfold wop at HH
  go_enter Try.func8, Try.ntmps8
  go_wp2_with fail
  refine HH.out.mono ?_
  rintro e w1 ⟨x, rfl, h2⟩
  have H2 := hide h2
  clear h2 HH
  go_wp2_with fail
  refine H2.out.mono ?_
  rintro e w2 ⟨rfl, hs, hb⟩
  clear H2
  go_wp2
  go_ret
  exact ⟨by simp, step_end (kind := 3) (N := N) hs hb hbase⟩
set_option maxHeartbeats 800000 in
theorem step5 (c r : Value) (N : Int) (w : World) (base top : Nat) (h : Sit w base top c r) (hbase : base ≤ w.heap.size) (htop : top ≤ w.heap.size) :
    Calls Try.prog 8 #[c, r, .agg #[.int .i64 5, .int .i64 N]] w fun e w' => e = .returned (.bool true) ∧ Sit w' base top c r ∧ Below base w w' := by
  have HH := hide (two_left (h.keep (wop_below w 5 N top htop)) (by rw [wop_size]; omega))
  clear h
  unfold wop at HH
  go_enter Try.func8, Try.ntmps8
  go_wp2_with fail
  refine HH.out.mono ?_
  rintro e w1 ⟨x, rfl, h2⟩
  have H2 := hide h2
  clear h2 HH
  go_wp2_with fail
  refine H2.out.mono ?_
  rintro e w2 ⟨rfl, hs, hb⟩
  clear H2
  go_wp2
  go_ret
  exact ⟨by simp, step_end (kind := 5) (N := N) hs hb hbase⟩
set_option maxHeartbeats 800000 in
theorem step6 (c r : Value) (N : Int) (w : World) (base top : Nat) (h : Sit w base top c r) (hbase : base ≤ w.heap.size) (htop : top ≤ w.heap.size) :
    Calls Try.prog 8 #[c, r, .agg #[.int .i64 6, .int .i64 N]] w fun e w' => e = .returned (.bool true) ∧ Sit w' base top c r ∧ Below base w w' := by
  have HH := hide (two_at (h.keep (wop_below w 6 N top htop)) (by rw [wop_size]; omega))
  clear h
  unfold wop at HH
  go_enter Try.func8, Try.ntmps8
  go_wp2_with fail
  refine HH.out.mono ?_
  rintro e w1 ⟨x, rfl, h2⟩
  have H2 := hide h2
  clear h2 HH
  go_wp2_with fail
  refine H2.out.mono ?_
  rintro e w2 ⟨rfl, hs, hb⟩
  clear H2
  go_wp2
  go_ret
  exact ⟨by simp, step_end (kind := 6) (N := N) hs hb hbase⟩
set_option maxHeartbeats 800000 in
theorem step7 (c r : Value) (N : Int) (w : World) (base top : Nat) (h : Sit w base top c r) (hbase : base ≤ w.heap.size) (htop : top ≤ w.heap.size) :
    Calls Try.prog 8 #[c, r, .agg #[.int .i64 7, .int .i64 N]] w fun e w' => e = .returned (.bool true) ∧ Sit w' base top c r ∧ Below base w w' := by
  have HH := hide (two_fault (h.keep (wop_below w 7 N top htop)) (by rw [wop_size]; omega))
  clear h
  unfold wop at HH
  go_enter Try.func8, Try.ntmps8
  go_wp2_with fail
  refine HH.out.mono ?_
  rintro e w1 ⟨x, rfl, h2⟩
  have H2 := hide h2
  clear h2 HH
  go_wp2_with fail
  refine H2.out.mono ?_
  rintro e w2 ⟨rfl, hs, hb⟩
  clear H2
  go_wp2
  go_ret
  exact ⟨by simp, step_end (kind := 7) (N := N) hs hb hbase⟩
set_option maxHeartbeats 800000 in
theorem step0 (c r : Value) (kind N : Int) (w : World) (base top : Nat) (h : Sit w base top c r) (hbase : base ≤ w.heap.size) (htop : top ≤ w.heap.size) (hk : kind < 1 ∨ 7 < kind) :
    Calls Try.prog 8 #[c, r, .agg #[.int .i64 kind, .int .i64 N]] w fun e w' => e = .returned (.bool true) ∧ Sit w' base top c r ∧ Below base w w' := by
  have HS := hide (h.keep (wop_below w kind N top htop))
  have HB := hide (wop_below w kind N base hbase)
  have e1 : (kind == 1) = false := by simp; omega
  have e2 : (kind == 2) = false := by simp; omega
  have e3 : (kind == 3) = false := by simp; omega
  have e4 : (kind == 4) = false := by simp; omega
  have e5 : (kind == 5) = false := by simp; omega
  have e6 : (kind == 6) = false := by simp; omega
  have e7 : (kind == 7) = false := by simp; omega
  clear h hk
  unfold wop at HS HB
  go_enter Try.func8, Try.ntmps8
  go_wp2
  go_ret
  exact ⟨rfl, HS.out, HB.out⟩
set_option maxHeartbeats 1600000 in
theorem step4 (c r : Value) (N : Int) (w : World) (base top : Nat) (h : Sit w base top c r) (hbase : base ≤ w.heap.size) (htop : top ≤ w.heap.size) :
    Calls Try.prog 8 #[c, r, .agg #[.int .i64 4, .int .i64 N]] w fun e w' => e = .returned (.bool true) ∧ Sit w' base top c r ∧ Below base w w' := by
  have HH := hide (two_bytes (h.keep (wop_below w 4 N top htop)) (by rw [wop_size]; omega) N)
  clear h
  unfold wop at HH
  go_enter Try.func8, Try.ntmps8
  go_wp2_with fail
  refine HH.out.mono ?_
  rintro e w1 ⟨v, L, he, hLl, hLu, hown, hold, h2⟩
  subst he
  have hbox : w1.heap[w.heap.size]? = some (.cells #[.int .i64 4, .int .i64 N] 32 (0, 0)) := by
    rw [hold w.heap.size htop (by simp)]; exact heap_alloc_new w _
  have kN : w1.cell? ⟨w.heap.size, 1, none⟩ = some (.int .i64 N) := by rw [cell_of_row w1 w.heap.size 1 _ 32 (0, 0) hbox]; rfl
  have H2 := hide h2
  have HU := hide hLu
  clear h2 HH hold hbox hLu hown
  go_wp2_with fail
  refine H2.out.mono ?_
  rintro e w2 ⟨v', he', hown', hown, hs, hb⟩
  subst he'
  clear H2 kN
  obtain ⟨a1, c1, hv⟩ := own_form hown
  subst hv
  obtain ⟨a2, c2, hv'⟩ := own_form hown'
  subst hv'
  have r1 : Row w2 a1 L.length L := by
    obtain ⟨a', c', hv, _, hr⟩ := Row.of_own hown HU.out
    cases hv; exact hr
  have r2 : Row w2 a2 L.length L := by
    obtain ⟨a', c', hv, _, hr⟩ := Row.of_own hown' HU.out
    cases hv; exact hr
  have SS := hide (same_any a1 a2 L.length c1 L.length c2 L L w2 r1 r2 (by omega))
  have HO := hide hown
  have HS := hide hs
  have HB := hide hb
  clear r1 r2 hown hown' hs hb HU
  go_wp2_with fail
  refine SS.out.mono ?_
  rintro e w3 ⟨rfl, m, hw3⟩
  simp only [decide_true]
  clear SS
  have HO3 : Hid (w3.ownsRow (w.heap.size + 1) 5 1 (.slice a1 L.length c1) L.length (L.map (Value.int .u8))) := by
    have h1 := HO.out
    rw [World.size_alloc] at h1
    subst hw3; exact h1
  have HS3 : Hid (Sit w3 base top c r) := by subst hw3; exact HS.out.keep (below_drewN (Below.refl _ _) m)
  have HB3 : Hid (Below base (wop w 4 N) w3) := by subst hw3; exact below_drewN HB.out m
  clear HO HS HB hw3
  go_wp2_with fail
  by_cases hn0 : L.length = 0
  · refine wp_loop_rounds 1 ?_
    rw [rounds_succ]
    go_wp2
    go_ret
    exact ⟨rfl, step_end (kind := 4) (N := N) HS3.out HB3.out hbase⟩
  · obtain ⟨gl, ha, hgl⟩ : ∃ gl, a1 = some ⟨gl, 0, none⟩ ∧ w.heap.size < gl := by
      rcases HO3.out.2 with ⟨_, hn⟩ | ⟨gl, cap, cur, hv, hg, _⟩
      · exact absurd hn hn0
      · cases hv; exact ⟨gl, rfl, hg⟩
    subst ha
    generalize hLn : L.length = n at HO3 hn0 hLl
    go_loopw [8] (fun si wr => ∃ (k : Nat) (M : List Int), k ≤ n ∧ si = .int .i64 k ∧ M.length = n ∧ wr.ownsRow (w.heap.size + 1) 5 1 (.slice (some ⟨gl, 0, none⟩) n c1) n (M.map (Value.int .u8)) ∧ Sit wr base top c r ∧ Below base (wop w 4 N) wr)
      (fun si _ => n - (intOf si).toNat)
    case atStart => exact ⟨0, L, Nat.zero_le _, rfl, hLn, HO3.out, HS3.out, HB3.out⟩
    case round =>
      obtain ⟨k, M, hk, rfl, hM, hownM, hs, hb⟩ := hrel
      have HO4 := hide hownM
      have HS4 := hide hs
      have HB4 := hide hb
      have hfr := hownM.frozenAt k
      have hcl : k < n → wr.cell? ⟨gl, k, none⟩ = some (.int .u8 (M.getD k 0)) := fun h => by
        rw [hownM.cellAt k (by omega)]; simp [hM, h]
      clear HO3 HS3 HB3 hownM hs hb
      by_cases hlt : k < n
      · have hck := hcl hlt
        clear hcl
        go_wp2
        have hs := HO4.out.stored k (Value.int .u8 ((200 - (k : Int)) % 256))
        rw [← List.map_set] at hs
        have hb1 : Below top wr (wr.setCell ⟨gl, k, none⟩ (.int .u8 ((200 - (k : Int)) % 256))) := (Below.refl _ _).setCell (by show top ≤ gl; omega) _
        exact ⟨⟨k + 1, _, by omega, by go_num, by simpa using hM, hs.1, HS4.out.keep hb1, HB4.out.setCell (by show base ≤ gl; omega) _⟩, by simp [intOf]; omega⟩
      · clear hcl
        go_wp2
        go_ret
        exact ⟨rfl, step_end (kind := 4) (N := N) HS4.out HB4.out hbase⟩
/-- One step: the answers are the same. -/
theorem step_any (c r : Value) (kind N : Int) (w : World) (base top : Nat) (h : Sit w base top c r) (hbase : base ≤ w.heap.size) (htop : top ≤ w.heap.size) :
    Calls Try.prog 8 #[c, r, .agg #[.int .i64 kind, .int .i64 N]] w fun e w' => e = .returned (.bool true) ∧ Sit w' base top c r ∧ Below base w w' := by
  by_cases hk : kind < 1 ∨ 7 < kind
  · exact step0 c r kind N w base top h hbase htop hk
  · obtain rfl | rfl | rfl | rfl | rfl | rfl | rfl : kind = 1 ∨ kind = 2 ∨ kind = 3 ∨ kind = 4 ∨ kind = 5 ∨ kind = 6 ∨ kind = 7 := by omega
    · exact step1 c r N w base top h hbase htop
    · exact step2 c r N w base top h hbase htop
    · exact step3 c r N w base top h hbase htop
    · exact step4 c r N w base top h hbase htop
    · exact step5 c r N w base top h hbase htop
    · exact step6 c r N w base top h hbase htop
    · exact step7 c r N w base top h hbase htop
end Go.Proofs.Ytdjampgnpiedeab
