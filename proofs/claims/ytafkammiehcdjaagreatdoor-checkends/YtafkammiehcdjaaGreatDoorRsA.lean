/-
  Entries and pieces in memory; comparing; seeking in a piece.
-/
import Derived.Test.YtafkammiehcdjaaGreatDoorZhp
import Derived.Test.YtafkammiehcdjaaGreatDoorRsM
namespace Go.Proofs.YtafkammiehcdjaaGreatDoor
open Go.RowKit
def u64B (x : Int) : Prop := 0 ≤ x ∧ x ≤ 18446744073709551615
def layN : Lay Ent := ⟨fun e => [.int .u64 e.1, .int .u64 e.2], 2, by decide, fun _ => rfl, by intro a u hu; simp at hu; rcases hu with rfl | rfl <;> rfl⟩
theorem Tryz.infoN : (Tryz.prog.info? 148).map (fun i => (i.zero, i.size, i.bytes)) = some (some (.agg #[.int .u64 0, .int .u64 0]), 2, 16) := by kernel_rfl
theorem Tryz.infoP : (Tryz.prog.info? 149).map (fun i => (i.zero, i.size, i.bytes)) = some (some (.slice .none 0 0), 1, 24) := by kernel_rfl
/-- A piece. -/
structure Pc where
  a : Option Addr
  c : Nat
  es : List Ent
abbrev Pc.val (p : Pc) : Value := .slice p.a p.es.length p.c
def layP : Lay Pc := ⟨fun p => [.slice p.a p.es.length p.c], 1, by decide, fun _ => rfl, by intro a u hu; simp at hu; subst hu; rfl⟩
/-- -1, 0, 1. -/
def cmpI (a b : Int) : Int := if a < b then -1 else if b < a then 1 else 0
theorem nan_any (a : Int) (w : World) : Calls Tryz.prog 163 #[.int .u64 a] w fun e w' => e = .returned (.bool false) ∧ w' = w := by
  go_enter Tryz.func163, Tryz.ntmps163
  go_wp2
  go_ret
  exact ⟨by simp, rfl⟩
theorem cmp_any (a b : Int) (w : World) : Calls Tryz.prog 150 #[.int .u64 a, .int .u64 b] w fun e w' => e = .returned (.int .i64 (cmpI a b)) ∧ w' = w := by
  have H1 := hide (nan_any a w)
  have H2 := hide (nan_any b w)
  obtain ⟨R, hR⟩ : ∃ R, R = cmpI a b := ⟨_, rfl⟩
  rw [← hR]
  unfold cmpI at hR
  have HR := hide hR
  clear hR
  go_enter Tryz.func150, Tryz.ntmps150
  go_wp2_with fail
  refine H1.out.mono ?_
  rintro e w1 ⟨rfl, hw⟩
  rw [hw]; clear hw w1
  go_wp2_with fail
  refine H2.out.mono ?_
  rintro e w1 ⟨rfl, hw⟩
  rw [hw]; clear hw w1
  by_cases h1 : a < b
  · have hN : R = -1 := by rw [HR.out, if_pos h1]
    clear HR
    go_wp2
    go_ret
    exact ⟨by rw [hN]; rfl, rfl⟩
  · have d1 : decide (a < b) = false := decide_eq_false h1
    by_cases h2 : b < a
    · have hN : R = 1 := by rw [HR.out, if_neg h1, if_pos h2]
      clear HR
      go_wp2
      go_ret
      exact ⟨by rw [hN]; rfl, rfl⟩
    · have d2 : decide (b < a) = false := decide_eq_false h2
      have hN : R = 0 := by rw [HR.out, if_neg h1, if_neg h2]
      clear HR
      go_wp2
      go_ret
      exact ⟨by rw [hN]; rfl, rfl⟩
/-- The function that seek hands on for entries. -/
theorem seek2_any (a v k : Int) (w : World) : Calls Tryz.prog 152 #[.agg #[.int .u64 a, .int .u64 v], .int .u64 k] w fun e w' => e = .returned (.int .i64 (cmpI a k)) ∧ Below w.heap.size w w' := by
  have H1 := hide (cmp_any a k (w.alloc (.cells #[.int .u64 a, .int .u64 v] 148)))
  have HB := hide (below_alloc1 w (.cells #[.int .u64 a, .int .u64 v] 148))
  go_enter Tryz.func152, Tryz.ntmps152
  go_wp2_with fail
  refine H1.out.mono ?_
  rintro e w1 ⟨rfl, hw⟩
  rw [hw]; clear hw w1
  go_wp2
  go_ret
  exact ⟨rfl, HB.out⟩
/-- .. and for pieces. -/
theorem seek1_any (p : Pc) (k : Int) (w : World) (h : Own layN 148 w 0 p.val p.es) (x : Ent) (hx : p.es.getLast? = some x) (hs : (p.es.length : Int) ≤ 9223372036854775806) :
    Calls Tryz.prog 149 #[p.val, .int .u64 k] w fun e w' => e = .returned (.int .i64 (cmpI x.1 k)) ∧ w' = w := by
  have H1 := hide (cmp_any x.1 k w)
  obtain ⟨pa, pc, es⟩ := p
  have h9 : Own layN 148 w 0 (.slice pa es.length pc) es := h
  have hx9 : es.getLast? = some x := hx
  have hs9 : (es.length : Int) ≤ 9223372036854775806 := hs
  have hpos : 0 < es.length := by
    cases es with
    | nil => simp at hx9
    | cons => simp
  obtain ⟨m, hm⟩ : ∃ m, es.length = m + 1 := ⟨es.length - 1, by omega⟩
  have hg : es[m]? = some x := by rw [List.getLast?_eq_getElem?, hm] at hx9; exact hx9
  obtain ⟨g, c, hv, _, _, _⟩ := h9.frm hpos
  cases hv
  have c0 := h9.cell hg 0 rfl
  show Calls Tryz.prog _ #[.slice (some ⟨g, 0, none⟩) es.length pc, _] w _
  rw [hm]
  have e1 : ((m + 1 : Nat) : Int) - 1 = (m : Int) := by omega
  have HM := hide hm
  have HS := hide hs9
  clear hx hx9 h h9 hg hs hs9 hpos hm
  have c0' : w.cell? ⟨g, m * 2 + 0, none⟩ = some (.int .u64 x.1) := c0
  rw [Nat.add_zero] at c0'
  have hw1 : wrap64 (m : Int) = (m : Int) := by have := HS.out; rw [HM.out] at this; unfold wrap64; omega
  clear c0
  go_enter Tryz.func149, Tryz.ntmps149
  go_wp2_with fail
  refine H1.out.mono ?_
  rintro e w1 ⟨rfl, hw⟩
  rw [hw]; clear hw w1
  go_wp2
  go_ret
  exact ⟨rfl, rfl⟩
end Go.Proofs.YtafkammiehcdjaaGreatDoor
