/-
  All of them in their order; they stay.
-/
import Derived.Test.YtdmlehbamdcjcabHpHI
import Derived.Test.YtdmlehbamdcjcabHpW
import Derived.Lib.SliceRun
namespace Go.Proofs.Ytdmlehbamdcjcab
open Go.RowKit
set_option maxRecDepth 8000 in
theorem cloneI (w : World) (base : Nat) (v : Value) (E : List (It × Int)) (h : Own layEI 59 w base v E) (hl : (E.length : Int) ≤ 5000000000000) :
    Calls Try.prog 25 #[v] w fun r w' => ∃ v', r = .returned v' ∧ Own layEI 59 w' w.heap.size v' E ∧ Below w.heap.size w w' := by
  obtain ⟨i0, hi, hz0, hz1, hz2⟩ := info_parts Try.infoEI
  have qT : ∀ (w : World) (a : Option Addr) (n c n' c' : Nat), (binOp .eql 54 (.slice a n c) (.slice none n' c')).run Try.prog w = .ok (.bool a.isNone) w := fun w a n c n' c' => Lib.run_eql_slice_nil w _ _ a n c n' c' Try.underlying54
  obtain ⟨a, c, rfl, h0, _⟩ := own_form h
  have hrow := h.row rfl
  cases a with
  | none =>
    have hE : E = [] := List.eq_nil_of_length_eq_zero (h0 rfl).1
    clear h hrow h0
    subst hE
    go_enter Try.func25, Try.ntmps25
    go_wp2
    go_ret
    exact ⟨_, rfl, Own.nil _ _ _ _, Below.refl _ _⟩
  | some ad =>
    have HR : Hid _ := hide hrow
    clear h hrow h0
    go_enter Try.func25, Try.ntmps25
    go_wp2_with (at_builtin; refine append_lay layEI _ 54 59 i0 _ 24 Try.underlying54 hi hz0 hz1 hz2 rfl rfl (.tmp 5) (.tmp 6) rfl w.heap.size _ [] rfl (Own.lit0 layEI 59 w (Nat.le_refl _)) _ _ _ E rfl (HR.out.below (below_alloc1 _ _)) (fun e => by cases e) ?m1 ?m2 (by simp) ?_)
    case m1 => unfold maxLen; simp; omega
    case m2 => simp; omega
    intro v' w2 hown2 hgr2 _
    go_wp2
    go_ret
    refine ⟨v', rfl, hown2, (below_alloc1 w _).grown hgr2 (by simp) (fun k hk => ?_)⟩
    simp [Value.ownBlock] at hk
    omega
theorem sorted_nilI (w : World) : Calls Try.prog 14 #[.pointer none] w fun r w' => r = .returned (.slice none 0 0) ∧ w' = w := by
  go_enter Try.func14, Try.ntmps14
  go_wp2
  go_ret
  exact ⟨rfl, rfl⟩
set_option maxRecDepth 8000 in
set_option maxHeartbeats 1600000 in
theorem sortedI (w : World) (base p : Nat) (v : Value) (n : Int) (E : List (It × Int)) (h : HqI w base p v n E) (hl : (E.length : Int) ≤ 5000000000000) :
    Calls Try.prog 14 #[.pointer (some ⟨p, 0, none⟩)] w fun r w' => ∃ g D E', r = .returned (.slice (some ⟨g, 0, none⟩) E.length E.length) ∧ w.heap.size ≤ g ∧ Own layI 28 w' w.heap.size (.slice (some ⟨g, 0, none⟩) E.length E.length) (D.map Prod.fst) ∧ D.length = E.length ∧ Pops (fst bfI) E D E' ∧ Below w.heap.size w w' := by
  obtain ⟨p0, p1, hp⟩ := hp_cellsI h.hp
  have CL := cloneI w base v E h.own hl
  clear h
  go_enter Try.func14, Try.ntmps14
  go_wp2_with fail
  refine CL.mono ?_
  rintro r w1 ⟨v', rfl, O1, B1⟩
  clear CL
  obtain ⟨a', c', hv', _, _⟩ := own_form O1
  subst hv'
  obtain ⟨w2, hw2⟩ : ∃ w2, w2 = w1.alloc (.cells #[.slice a' E.length c', .int .i64 0] 56) := ⟨_, rfl⟩
  have b12 : Below w1.heap.size w1 w2 := by rw [hw2]; exact below_alloc1 _ _
  have hq : HqI w2 w.heap.size w1.heap.size (.slice a' E.length c') 0 E := ⟨by rw [hw2]; exact heap_new _ _, O1.below b12⟩
  have HB2 : Hid _ := hide (Below.on B1 b12)
  have HQ : Hid _ := hide hq
  have HW2 : Hid _ := hide hw2
  have hs2 : w1.heap.size < w2.heap.size := by rw [hw2]; simp
  have hs1 := B1.size
  have HVB : Hid _ := hide (fun g (hg : (Value.slice a' E.length c').ownBlock = some g) => (O1.lt g hg).1)
  clear hw2 hq B1 b12 O1
  go_wp2_with fail
  rw [← HW2.out]
  refine (lenI HQ.out).mono ?_
  rintro r w3 ⟨rfl, rfl⟩
  go_wp2_with fail
  refine (takeFirstI w3 w.heap.size w1.heap.size (.slice a' E.length c') 0 E E.length HQ.out (Nat.le_refl _) hl).mono ?_
  rintro r w4 ⟨D, E', v4, rfl, O4, hD, _, hpops, hb4, _⟩
  go_wp2
  go_ret
  refine ⟨w3.heap.size, D, E', rfl, by omega, O4.mono (by omega), hD, hpops, HB2.out.trans (hb4.below (by omega) (fun k hk => ?_))⟩
  rcases (hk : k = w1.heap.size ∨ (Value.slice a' E.length c').ownBlock = some k) with e | e
  · omega
  · exact HVB.out k e
end Go.Proofs.Ytdmlehbamdcjcab
