/-
  Answers told as one; the same races; traces with the same stacks.
-/
import Derived.Test.YtnengkdddckjaaaSlT
namespace Go.Proofs.Ytnengkdddckjaaa
open Go.RowKit Go.Maps
set_option linter.unusedVariables false
/-- What Group answers, whatever the races: the groups, their numbers, the error. -/
noncomputable def gres (es : List E6.Ev) (n : Nat) (rs : List (Int × Int)) : (List (Int × Int) × List Int) × Int := if rs.all (vdB n) = true then (grp es rs, 0) else (([], []), 180)
def GuR (P : (List (Int × Int) × List Int) × Int) (w : World) (e : Ending) (w' : World) : Prop :=
  ∃ fv cv, e = .returned (.tuple #[fv, cv, .int .i64 P.2]) ∧ Own sR 33 w' w.heap.size fv P.1.1 ∧ Own sI 3 w' w.heap.size cv P.1.2 ∧ (∀ q, fv.ownBlock = some q → cv.ownBlock ≠ some q) ∧ Below w.heap.size w w'
theorem gu_of {es : List E6.Ev} {n : Nat} {rs : List (Int × Int)} {w w' : World} {e : Ending} (h : GpR es n rs w e w') : GuR (gres es n rs) w e w' := by
  unfold gres
  rcases h with ⟨ha, fv, cv, rfl, h1, h2, h3, h4⟩ | ⟨ha, rfl, hb⟩
  · rw [if_pos ha]
    exact ⟨fv, cv, rfl, h1, h2, h3, h4⟩
  · rw [if_neg (by rw [ha]; decide)]
    exact ⟨_, _, rfl, Own.nil _ _ _ _, Own.nil _ _ _ _, (fun q h => by cases h), hb⟩
theorem ru_of {es : List E6.Ev} {n : Nat} {rs : List (Int × Int)} {w w' : World} {e : Ending} (h : GrR es n rs w e w') : GuR (gres es n rs) w e w' := by
  unfold gres
  rcases h with ⟨ha, fv, cv, rfl, h1, h2, h4⟩ | ⟨ha, rfl, hb⟩
  · rw [if_pos ha]
    refine ⟨fv, cv, rfl, h1, h2, fun q h3 h5 => ?_, h4⟩
    obtain ⟨a, e⟩ := own_ty h1 h3
    exact own_ne_cells h2 e (by decide) h5
  · rw [if_neg (by rw [ha]; decide)]
    exact ⟨_, _, rfl, Own.nil _ _ _ _, Own.nil _ _ _ _, (fun q h => by cases h), hb⟩
theorem gres_len (es : List E6.Ev) (n : Nat) (rs : List (Int × Int)) : (gres es n rs).1.2.length = (gres es n rs).1.1.length ∧ (gres es n rs).1.1.length ≤ rs.length := by
  unfold gres
  split
  · have := grp_len es rs rs.length rfl
    exact ⟨this.1, this.2.1⟩
  · exact ⟨rfl, Nat.zero_le _⟩
theorem stk_twin {es fs : List E6.Ev} (h : E6.Twins es fs) (p : Int) : stk fs p = stk es p := by
  unfold stk
  have hl := h.len
  cases he : es[p.toNat]? with
  | none =>
    have : es.length ≤ p.toNat := List.getElem?_eq_none_iff.1 he
    rw [List.getElem?_eq_none (by omega)]
  | some e =>
    have h1 := (List.getElem?_eq_some_iff.1 he).1
    have h2 : fs[p.toNat]? = some fs[p.toNat] := List.getElem?_eq_getElem (by omega)
    rw [h2]
    exact (h.get he h2).2.2.2.2
theorem gres_twin {es fs : List E6.Ev} (h : E6.Twins es fs) (n : Nat) (rs : List (Int × Int)) : gres fs n rs = gres es n rs := by
  have h1 : alB fs = alB es := by
    funext r s
    unfold alB
    rw [stk_twin h, stk_twin h, stk_twin h, stk_twin h]
  have h2 : gst fs = gst es := by
    funext P r
    unfold gst
    rw [h1]
  unfold gres grp
  rw [h2]
theorem sR_cell {w : World} {a : Option Addr} {n i : Nat} {L : List (Int × Int)} {x : Int × Int} (h : TRow sR w a n L) (hx : L[i]? = some x) : ∃ b off, a = some ⟨b, off, none⟩ ∧ w.cell? ⟨b, off + i * 2, none⟩ = some (.int .i64 x.1) ∧ w.cell? ⟨b, off + i * 2 + 1, none⟩ = some (.int .i64 x.2) := by
  obtain ⟨b, off, ha, hc⟩ := row_cell h hx
  exact ⟨b, off, ha, hc 0 _ rfl, hc 1 _ rfl⟩
set_option maxRecDepth 8000 in
set_option maxHeartbeats 2000000 in
theorem s_races (a1 a2 : Option Addr) (n c1 c2 : Nat) (K : List (Int × Int)) (w : World) (h1 : TRow sR w a1 n K) (h2 : TRow sR w a2 n K) (hn : (n : Int) ≤ 9223372036854775806) :
    Calls Try.prog 7 #[.slice a1 n c1, .slice a2 n c2] w fun e w' => e = .returned (.bool true) ∧ Below w.heap.size w w' := by
  have H1 := hide h1
  have H2 := hide h2
  have HL := hide h1.len
  clear h1 h2
  go_enter Try.func7, Try.ntmps7
  go_wp2
  go_loopw [5] (fun i wr => ∃ j : Nat, j ≤ n ∧ i = .int .i64 j ∧ Hid (∃ m, wr = w.drewN m)) (fun i _ => n - (intOf i).toNat)
  case atStart => exact ⟨0, Nat.zero_le _, rfl, hide ⟨0, rfl⟩⟩
  case round =>
    obtain ⟨j, hj, rfl, HD⟩ := hrel
    have HB : Hid (Below w.heap.size w wr) := hide (by obtain ⟨m, hm⟩ := HD.out; rw [hm]; exact below_drewN (Below.refl _ _) m)
    by_cases hlt : j < n
    · have hjI : (j : Int) < n := by omega
      have hj0 : (0 : Int) ≤ j := by omega
      obtain ⟨x, hx⟩ : ∃ x, K[j]? = some x := ⟨_, List.getElem?_eq_getElem (by rw [HL.out]; exact hlt)⟩
      obtain ⟨b1, o1, e1, d1, d1'⟩ := sR_cell (H1.out.below HB.out) hx
      obtain ⟨b2, o2, e2, d2, d2'⟩ := sR_cell (H2.out.below HB.out) hx
      subst e1
      subst e2
      clear hx
      go_wp2_with fail
      go_quiet (fail)
      go_wp2
      exact ⟨⟨j + 1, by omega, by go_num, hide (drew_onS HD.out _)⟩, by simp [intOf]; omega⟩
    · have hjI : ¬ (j : Int) < n := by omega
      go_wp2
      go_ret
      exact ⟨rfl, HB.out⟩
end Go.Proofs.Ytnengkdddckjaaa
