/-
  The words of the reasons.
-/
import Derived.Test.YtafkammiehcdjaaDoorRows
import Derived.WalkKit
import Derived.WalkLawsBesides
import Derived.WalkSpells
import Derived.WalkSmall
import Derived.BigQuiet
import Derived.Deep.QuietTactic
import Derived.ProofKit
import Derived.LaidMore
import Derived.OpenShut
import Derived.Stop.Joined
import Derived.KernelRfl
namespace Go.Proofs.YtafkammiehcdjaaDoor
open Go.ChangeShapes Go.WideShapes Go.ChangeAt Go.RowKit
def ws : List ByteArray := [⟨#[]⟩, ⟨#[103, 111, 114, 111, 117, 116, 105, 110, 101, 32, 110, 111, 116, 32, 98, 101, 103, 117, 110]⟩, ⟨#[103, 111, 114, 111, 117, 116, 105, 110, 101, 32, 97, 108, 114, 101, 97, 100, 121, 32, 106, 111, 105, 110, 101, 100]⟩, ⟨#[97, 99, 107, 110, 111, 119, 108, 101, 100, 103, 101, 109, 101, 110, 116, 32, 100, 117, 101]⟩, ⟨#[108, 111, 99, 107, 32, 104, 101, 108, 100]⟩, ⟨#[108, 111, 99, 107, 32, 110, 111, 116, 32, 104, 101, 108, 100]⟩, ⟨#[108, 111, 99, 107, 32, 104, 101, 108, 100, 32, 116, 111, 32, 119, 114, 105, 116, 101]⟩, ⟨#[108, 111, 99, 107, 32, 110, 111, 116, 32, 104, 101, 108, 100, 32, 116, 111, 32, 114, 101, 97, 100]⟩, ⟨#[103, 111, 114, 111, 117, 116, 105, 110, 101, 32, 97, 108, 114, 101, 97, 100, 121, 32, 98, 101, 103, 117, 110]⟩, ⟨#[106, 111, 105, 110, 101, 100, 32, 103, 111, 114, 111, 117, 116, 105, 110, 101, 32, 110, 111, 116, 32, 98, 101, 103, 117, 110]⟩, ⟨#[106, 111, 105, 110, 101, 100, 32, 116, 119, 105, 99, 101]⟩, ⟨#[103, 111, 114, 111, 117, 116, 105, 110, 101, 32, 106, 111, 105, 110, 115, 32, 105, 116, 115, 101, 108, 102]⟩, ⟨#[106, 111, 105, 110, 101, 100, 32, 103, 111, 114, 111, 117, 116, 105, 110, 101, 32, 119, 97, 105, 116, 115]⟩, ⟨#[99, 104, 97, 110, 110, 101, 108, 32, 97, 108, 114, 101, 97, 100, 121, 32, 109, 97, 100, 101]⟩, ⟨#[99, 104, 97, 110, 110, 101, 108, 32, 110, 111, 116, 32, 109, 97, 100, 101]⟩, ⟨#[99, 104, 97, 110, 110, 101, 108, 32, 99, 108, 111, 115, 101, 100]⟩, ⟨#[99, 104, 97, 110, 110, 101, 108, 32, 102, 117, 108, 108]⟩, ⟨#[110, 111, 32, 118, 97, 108, 117, 101, 32, 116, 111, 32, 114, 101, 99, 101, 105, 118, 101]⟩, ⟨#[99, 104, 97, 110, 110, 101, 108, 32, 110, 111, 116, 32, 99, 108, 111, 115, 101, 100]⟩, ⟨#[118, 97, 108, 117, 101, 115, 32, 108, 101, 102, 116]⟩, ⟨#[118, 97, 108, 117, 101, 32, 119, 97, 105, 116, 115]⟩, ⟨#[110, 111, 32, 97, 99, 107, 110, 111, 119, 108, 101, 100, 103, 101, 109, 101, 110, 116, 32, 100, 117, 101]⟩, ⟨#[118, 97, 108, 117, 101, 32, 110, 111, 116, 32, 114, 101, 99, 101, 105, 118, 101, 100]⟩, ⟨#[99, 111, 117, 110, 116, 101, 114, 32, 111, 117, 116, 32, 111, 102, 32, 114, 97, 110, 103, 101]⟩, ⟨#[99, 111, 117, 110, 116, 101, 114, 32, 110, 111, 116, 32, 122, 101, 114, 111]⟩, ⟨#[111, 110, 99, 101, 32, 97, 108, 114, 101, 97, 100, 121, 32, 114, 97, 110]⟩, ⟨#[111, 110, 99, 101, 32, 110, 111, 116, 32, 114, 117, 110]⟩, ⟨#[109, 101, 109, 111, 114, 121, 32, 97, 108, 114, 101, 97, 100, 121, 32, 97, 108, 108, 111, 99, 97, 116, 101, 100]⟩, ⟨#[109, 101, 109, 111, 114, 121, 32, 110, 111, 116, 32, 97, 108, 108, 111, 99, 97, 116, 101, 100]⟩]
def wrd (k : Nat) : ByteArray := ws.getD k ⟨#[]⟩
def Kw (w : World) : Prop := ∀ k : Nat, k < 29 → w.cell? ⟨0, k, none⟩ = some (.string (wrd k))
theorem wcells9 : Tryd.prog.cellsOf 9 = 1 := by kernel_rfl
theorem words_data {H : Type} : (Rows.laid_hindsight_check_words : DataW H) = .agg ((List.range 29).map fun k => .lit (.string (wrd k).data.toList)) := rfl
theorem words_of {H : Type} {enc : TypeId × Value → H} {W : World} {base : Nat} {spare : Nat → Bool} {held : Bool} {fuel : Nat} {cs : List Value} {p : List MemPlace}
    (hd : DataW.trod enc Tryd.prog W base spare held fuel 24 cs = some (Rows.laid_hindsight_check_words, p)) : ∀ k, k < 29 → cs[k]? = some (.string (wrd k)) := by
  obtain ⟨xs, m, rfl, hx, _, hn, hel⟩ := DataW.trod_array Tryd.underlying24 hd
  intro k hk
  have he := hel k hk
  rw [wcells9] at he
  have hxk : xs[k]? = some xs[k] := List.getElem?_eq_getElem (by omega)
  rw [hxk] at he
  obtain ⟨s, e0, z0, _⟩ := DataW.trod_string Tryd.underlying9 he
  have hdat : (xs.map (·.1))[k]? = some (.lit (.string (wrd k).data.toList)) := by
    rw [words_data] at hx
    have := (Prod.mk.inj hx).1
    injection this with this
    rw [← this]
    simp [hk]
  rw [List.getElem?_map, hxk, Option.map_some, z0] at hdat
  simp only [Option.some.injEq, DataW.lit.injEq, Lit.string.injEq] at hdat
  have hc : cs[k]? = some (.string s) := by
    have := congrArg (fun l => l[0]?) e0
    simpa [List.getElem?_take, List.getElem?_drop] using this
  rw [hc]; congr 2; cases s; congr 1; exact Array.toList_inj.1 hdat
theorem gWords : Tryd.prog.globalNamed "hindsight/check.words" = some 0 := by kernel_rfl
theorem tWords : (Tryd.prog.globals[0]?).map (·.type) = some 24 := by kernel_rfl
abbrev laid1 : List (String × DataW Unit) := [("hindsight/check.words", Rows.laid_hindsight_check_words)]
theorem kw_of_laid {W : World} (h : laidMetH Tryd.prog laid1 W) : Kw W := by
  rw [MakeChecks.laidMetH_plain _ _ _ (by kernel_rfl)] at h
  obtain ⟨ps, ⟨g0, t0, cs0, f0, p0, q0, hg0, ht0, hv0, hd0, _⟩, _, _⟩ := h
  obtain rfl := Option.some.inj (gWords.symm.trans hg0)
  obtain rfl := Option.some.inj (tWords.symm.trans ht0)
  intro k hk
  rw [World.var?_cell hg0 hv0]
  simpa using words_of hd0 k hk
/-- What both answer. -/
def whyB (r : Int) : ByteArray := if 0 ≤ r ∧ r < 29 then wrd r.toNat else ⟨#[]⟩
theorem why_any (r : Int) (w : World) (h : Kw w) : Calls Tryd.prog 4 #[.int .i64 r] w fun e w' => e = .returned (.string (whyB r)) ∧ w' = w := by
  obtain ⟨R, hR⟩ : ∃ R, R = whyB r := ⟨_, rfl⟩
  rw [← hR]
  unfold whyB at hR
  by_cases h0 : r < 0
  · rw [if_neg (by omega)] at hR
    subst hR
    go_enter Tryd.func4, Tryd.ntmps4
    go_wp2
    go_ret
    exact ⟨rfl, rfl⟩
  · have d0 : decide (r < 0) = false := decide_eq_false h0
    by_cases h1 : 29 ≤ r
    · rw [if_neg (by omega)] at hR
      subst hR
      go_enter Tryd.func4, Tryd.ntmps4
      go_wp2
      go_ret
      exact ⟨rfl, rfl⟩
    · rw [if_pos (by omega)] at hR
      obtain ⟨k, rfl⟩ : ∃ k : Nat, r = k := ⟨r.toNat, by omega⟩
      rw [Int.toNat_natCast] at hR
      have hk : k < 29 := by omega
      have hc := h k hk
      rw [← hR] at hc
      have d1 : decide (29 ≤ (k : Int)) = false := decide_eq_false (by omega)
      clear hR h
      go_enter Tryd.func4, Tryd.ntmps4
      go_wp2
      go_ret
      exact ⟨rfl, rfl⟩
theorem later_any (r : Int) (w : World) (h : r ≤ 14 → r ≤ 0) : Calls Tryd.prog 6 #[.int .i64 r] w fun e w' => e = .returned (.string (whyB r)) ∧ w' = w := by
  by_cases hr : 15 ≤ r ∧ r ≤ 28
  · obtain ⟨k, rfl⟩ : ∃ k : Nat, r = (k : Int) + 15 := ⟨(r - 15).toNat, by omega⟩
    have hk : k < 14 := by omega
    clear hr h
    match k, hk with
    | 0, _ =>
      go_enter Tryd.func6, Tryd.ntmps6
      go_wp2
      go_ret
      exact ⟨rfl, rfl⟩
    | 1, _ =>
      go_enter Tryd.func6, Tryd.ntmps6
      go_wp2
      go_ret
      exact ⟨rfl, rfl⟩
    | 2, _ =>
      go_enter Tryd.func6, Tryd.ntmps6
      go_wp2
      go_ret
      exact ⟨rfl, rfl⟩
    | 3, _ =>
      go_enter Tryd.func6, Tryd.ntmps6
      go_wp2
      go_ret
      exact ⟨rfl, rfl⟩
    | 4, _ =>
      go_enter Tryd.func6, Tryd.ntmps6
      go_wp2
      go_ret
      exact ⟨rfl, rfl⟩
    | 5, _ =>
      go_enter Tryd.func6, Tryd.ntmps6
      go_wp2
      go_ret
      exact ⟨rfl, rfl⟩
    | 6, _ =>
      go_enter Tryd.func6, Tryd.ntmps6
      go_wp2
      go_ret
      exact ⟨rfl, rfl⟩
    | 7, _ =>
      go_enter Tryd.func6, Tryd.ntmps6
      go_wp2
      go_ret
      exact ⟨rfl, rfl⟩
    | 8, _ =>
      go_enter Tryd.func6, Tryd.ntmps6
      go_wp2
      go_ret
      exact ⟨rfl, rfl⟩
    | 9, _ =>
      go_enter Tryd.func6, Tryd.ntmps6
      go_wp2
      go_ret
      exact ⟨rfl, rfl⟩
    | 10, _ =>
      go_enter Tryd.func6, Tryd.ntmps6
      go_wp2
      go_ret
      exact ⟨rfl, rfl⟩
    | 11, _ =>
      go_enter Tryd.func6, Tryd.ntmps6
      go_wp2
      go_ret
      exact ⟨rfl, rfl⟩
    | 12, _ =>
      go_enter Tryd.func6, Tryd.ntmps6
      go_wp2
      go_ret
      exact ⟨rfl, rfl⟩
    | 13, _ =>
      go_enter Tryd.func6, Tryd.ntmps6
      go_wp2
      go_ret
      exact ⟨rfl, rfl⟩
  · have e : whyB r = ⟨#[]⟩ := by
      unfold whyB
      split
      · have e0 : r = 0 := by omega
        subst e0; rfl
      · rfl
    rw [e]
    have n15 : (r == 15) = false := by rw [beq_eq_false_iff_ne]; omega
    have n16 : (r == 16) = false := by rw [beq_eq_false_iff_ne]; omega
    have n17 : (r == 17) = false := by rw [beq_eq_false_iff_ne]; omega
    have n18 : (r == 18) = false := by rw [beq_eq_false_iff_ne]; omega
    have n19 : (r == 19) = false := by rw [beq_eq_false_iff_ne]; omega
    have n20 : (r == 20) = false := by rw [beq_eq_false_iff_ne]; omega
    have n21 : (r == 21) = false := by rw [beq_eq_false_iff_ne]; omega
    have n22 : (r == 22) = false := by rw [beq_eq_false_iff_ne]; omega
    have n23 : (r == 23) = false := by rw [beq_eq_false_iff_ne]; omega
    have n24 : (r == 24) = false := by rw [beq_eq_false_iff_ne]; omega
    have n25 : (r == 25) = false := by rw [beq_eq_false_iff_ne]; omega
    have n26 : (r == 26) = false := by rw [beq_eq_false_iff_ne]; omega
    have n27 : (r == 27) = false := by rw [beq_eq_false_iff_ne]; omega
    have n28 : (r == 28) = false := by rw [beq_eq_false_iff_ne]; omega
    clear e hr h
    go_enter Tryd.func6, Tryd.ntmps6
    go_wp2
    go_ret
    exact ⟨rfl, rfl⟩
theorem rwhy_any (r : Int) (w : World) : Calls Tryd.prog 5 #[.int .i64 r] w fun e w' => e = .returned (.string (whyB r)) ∧ w' = w := by
  by_cases hr : 1 ≤ r ∧ r ≤ 14
  · obtain ⟨k, rfl⟩ : ∃ k : Nat, r = (k : Int) + 1 := ⟨(r - 1).toNat, by omega⟩
    have hk : k < 14 := by omega
    clear hr
    match k, hk with
    | 0, _ =>
      go_enter Tryd.func5, Tryd.ntmps5
      go_wp2
      go_ret
      exact ⟨rfl, rfl⟩
    | 1, _ =>
      go_enter Tryd.func5, Tryd.ntmps5
      go_wp2
      go_ret
      exact ⟨rfl, rfl⟩
    | 2, _ =>
      go_enter Tryd.func5, Tryd.ntmps5
      go_wp2
      go_ret
      exact ⟨rfl, rfl⟩
    | 3, _ =>
      go_enter Tryd.func5, Tryd.ntmps5
      go_wp2
      go_ret
      exact ⟨rfl, rfl⟩
    | 4, _ =>
      go_enter Tryd.func5, Tryd.ntmps5
      go_wp2
      go_ret
      exact ⟨rfl, rfl⟩
    | 5, _ =>
      go_enter Tryd.func5, Tryd.ntmps5
      go_wp2
      go_ret
      exact ⟨rfl, rfl⟩
    | 6, _ =>
      go_enter Tryd.func5, Tryd.ntmps5
      go_wp2
      go_ret
      exact ⟨rfl, rfl⟩
    | 7, _ =>
      go_enter Tryd.func5, Tryd.ntmps5
      go_wp2
      go_ret
      exact ⟨rfl, rfl⟩
    | 8, _ =>
      go_enter Tryd.func5, Tryd.ntmps5
      go_wp2
      go_ret
      exact ⟨rfl, rfl⟩
    | 9, _ =>
      go_enter Tryd.func5, Tryd.ntmps5
      go_wp2
      go_ret
      exact ⟨rfl, rfl⟩
    | 10, _ =>
      go_enter Tryd.func5, Tryd.ntmps5
      go_wp2
      go_ret
      exact ⟨rfl, rfl⟩
    | 11, _ =>
      go_enter Tryd.func5, Tryd.ntmps5
      go_wp2
      go_ret
      exact ⟨rfl, rfl⟩
    | 12, _ =>
      go_enter Tryd.func5, Tryd.ntmps5
      go_wp2
      go_ret
      exact ⟨rfl, rfl⟩
    | 13, _ =>
      go_enter Tryd.func5, Tryd.ntmps5
      go_wp2
      go_ret
      exact ⟨rfl, rfl⟩
  · have HL := later_any r w (by omega)
    generalize whyB r = R at *
    have n1 : (r == 1) = false := by rw [beq_eq_false_iff_ne]; omega
    have n2 : (r == 2) = false := by rw [beq_eq_false_iff_ne]; omega
    have n3 : (r == 3) = false := by rw [beq_eq_false_iff_ne]; omega
    have n4 : (r == 4) = false := by rw [beq_eq_false_iff_ne]; omega
    have n5 : (r == 5) = false := by rw [beq_eq_false_iff_ne]; omega
    have n6 : (r == 6) = false := by rw [beq_eq_false_iff_ne]; omega
    have n7 : (r == 7) = false := by rw [beq_eq_false_iff_ne]; omega
    have n8 : (r == 8) = false := by rw [beq_eq_false_iff_ne]; omega
    have n9 : (r == 9) = false := by rw [beq_eq_false_iff_ne]; omega
    have n10 : (r == 10) = false := by rw [beq_eq_false_iff_ne]; omega
    have n11 : (r == 11) = false := by rw [beq_eq_false_iff_ne]; omega
    have n12 : (r == 12) = false := by rw [beq_eq_false_iff_ne]; omega
    have n13 : (r == 13) = false := by rw [beq_eq_false_iff_ne]; omega
    have n14 : (r == 14) = false := by rw [beq_eq_false_iff_ne]; omega
    clear hr
    go_enter Tryd.func5, Tryd.ntmps5
    go_wp2_with fail
    refine HL.mono ?_
    rintro e w1 ⟨rfl, rfl⟩
    clear HL
    go_wp2
    go_ret
    exact ⟨rfl, rfl⟩
theorem words_any (r : Int) (w : World) (h : Kw w) : Calls Tryd.prog 3 #[.int .i64 r] w fun e w' => e = .returned (.bool true) ∧ w' = w := by
  have H1 := why_any r w h
  have H2 := rwhy_any r w
  have H3 := why_any 1 w h
  have e1 : whyB 1 = ⟨#[103, 111, 114, 111, 117, 116, 105, 110, 101, 32, 110, 111, 116, 32, 98, 101, 103, 117, 110]⟩ := rfl
  rw [e1] at H3
  generalize whyB r = R at *
  clear e1 h
  go_enter Tryd.func3, Tryd.ntmps3
  go_wp2_with fail
  refine H1.mono ?_
  rintro e w1 ⟨rfl, rfl⟩
  go_wp2_with fail
  refine H2.mono ?_
  rintro e w1 ⟨rfl, rfl⟩
  go_wp2_with fail
  refine H3.mono ?_
  rintro e w1 ⟨rfl, rfl⟩
  go_wp2
  go_ret
  exact ⟨rfl, rfl⟩
end Go.Proofs.YtafkammiehcdjaaDoor
