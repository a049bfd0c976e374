/-
  The document's alike.
-/
import Derived.Test.YtnengkdddckjaaaRdA
namespace Go.Proofs.Ytnengkdddckjaaa
open Go.RowKit Go.Maps
set_option linter.unusedVariables false
theorem alB_parts (es : List E6.Ev) {p1 q1 p2 q2 : Nat} {d1 e1 d2 e2 : E6.Ev} (h1 : es[p1]? = some d1) (h2 : es[q1]? = some e1) (h3 : es[p2]? = some d2) (h4 : es[q2]? = some e2) :
    alB es ((p1 : Int), (q1 : Int)) ((p2 : Int), (q2 : Int)) = ((decide (d1.ls = d2.ls) && decide (e1.ls = e2.ls)) || (decide (d1.ls = e2.ls) && decide (e1.ls = d2.ls))) := by
  have s1 : stk es (p1 : Int) = d1.ls := by unfold stk; rw [Int.toNat_natCast, h1]
  have s2 : stk es (q1 : Int) = e1.ls := by unfold stk; rw [Int.toNat_natCast, h2]
  have s3 : stk es (p2 : Int) = d2.ls := by unfold stk; rw [Int.toNat_natCast, h3]
  have s4 : stk es (q2 : Int) = e2.ls := by unfold stk; rw [Int.toNat_natCast, h4]
  unfold alB
  rw [s1, s2, s3, s4]
  simp
set_option maxRecDepth 8000 in
set_option maxHeartbeats 4000000 in
theorem alike_any (es : List E6.Ev) (a : Option Addr) (n c : Nat) (p1 q1 p2 q2 : Nat) (w : World) (h : E6.ERow w a n es) (hn : n ≤ 1048576) (hp1 : p1 < n) (hq1 : q1 < n) (hp2 : p2 < n) (hq2 : q2 < n) (hMs : ∀ f ∈ es, f.ls.length ≤ 1048576) :
    Calls Try.prog 13 #[.slice a n c, .agg #[.int .i64 (p1 : Int), .int .i64 (q1 : Int)], .agg #[.int .i64 (p2 : Int), .int .i64 (q2 : Int)]] w fun e w' => e = .returned (.bool (alB es ((p1 : Int), (q1 : Int)) ((p2 : Int), (q2 : Int)))) ∧ Below w.heap.size w w' := by
  obtain ⟨W, hW⟩ : ∃ W, W = (w.alloc (.cells #[.int .i64 (p1 : Int), .int .i64 (q1 : Int)] 33)).alloc (.cells #[.int .i64 (p2 : Int), .int .i64 (q2 : Int)] 33) := ⟨_, rfl⟩
  have hbW : Below w.heap.size w W := by rw [hW]; exact below_alloc2 _ _ _
  have hR := h.bel hbW
  obtain ⟨b, off, d1, ha, hd1, _, _, _, _, c1, s1⟩ := hR.at hp1
  obtain ⟨b', off', e1, ha', he1, _, _, _, _, c2, s2⟩ := hR.at hq1
  rw [ha] at ha'
  simp only [Option.some.injEq, Addr.mk.injEq] at ha'
  obtain ⟨rfl, rfl, _⟩ := ha'
  obtain ⟨b', off', d2, ha', hd2, _, _, _, _, c3, s3⟩ := hR.at hp2
  rw [ha] at ha'
  simp only [Option.some.injEq, Addr.mk.injEq] at ha'
  obtain ⟨rfl, rfl, _⟩ := ha'
  obtain ⟨b', off', e2, ha', he2, _, _, _, _, c4, s4⟩ := hR.at hq2
  rw [ha] at ha'
  simp only [Option.some.injEq, Addr.mk.injEq] at ha'
  obtain ⟨rfl, rfl, _⟩ := ha'
  subst ha
  rw [alB_parts es hd1 he1 hd2 he2]
  have m1 := hMs _ (List.mem_of_getElem? hd1)
  have m2 := hMs _ (List.mem_of_getElem? he1)
  have m3 := hMs _ (List.mem_of_getElem? hd2)
  have m4 := hMs _ (List.mem_of_getElem? he2)
  have HC1 := hide (fun m => same_any d1.sa d2.sa d1.ls.length d2.ls.length d1.sc d2.sc d1.ls d2.ls (W.drewN m) (E6.SRow.bel s1 (below_drewN (Below.refl _ _) m)) (E6.SRow.bel s3 (below_drewN (Below.refl _ _) m)) m1)
  have HC2 := hide (fun m => same_any e1.sa e2.sa e1.ls.length e2.ls.length e1.sc e2.sc e1.ls e2.ls (W.drewN m) (E6.SRow.bel s2 (below_drewN (Below.refl _ _) m)) (E6.SRow.bel s4 (below_drewN (Below.refl _ _) m)) m2)
  have HC3 := hide (fun m => same_any d1.sa e2.sa d1.ls.length e2.ls.length d1.sc e2.sc d1.ls e2.ls (W.drewN m) (E6.SRow.bel s1 (below_drewN (Below.refl _ _) m)) (E6.SRow.bel s4 (below_drewN (Below.refl _ _) m)) m1)
  have HC4 := hide (fun m => same_any e1.sa d2.sa e1.ls.length d2.ls.length e1.sc d2.sc e1.ls d2.ls (W.drewN m) (E6.SRow.bel s2 (below_drewN (Below.refl _ _) m)) (E6.SRow.bel s3 (below_drewN (Below.refl _ _) m)) m2)
  generalize decide (d1.ls = d2.ls) = X1 at HC1 ⊢
  generalize decide (e1.ls = e2.ls) = X2 at HC2 ⊢
  generalize decide (d1.ls = e2.ls) = X3 at HC3 ⊢
  generalize decide (e1.ls = d2.ls) = X4 at HC4 ⊢
  have hp1I : (p1 : Int) < (n : Int) := by omega
  have hq1I : (q1 : Int) < (n : Int) := by omega
  have hp2I : (p2 : Int) < (n : Int) := by omega
  have hq2I : (q2 : Int) < (n : Int) := by omega
  have hp10 : (0 : Int) ≤ (p1 : Int) := by omega
  have hq10 : (0 : Int) ≤ (q1 : Int) := by omega
  have hp20 : (0 : Int) ≤ (p2 : Int) := by omega
  have hq20 : (0 : Int) ≤ (q2 : Int) := by omega
  obtain ⟨g1, k1, o1, a1, sa1, sc1, ls1⟩ := d1
  obtain ⟨g2, k2, o2, a2, sa2, sc2, ls2⟩ := e1
  obtain ⟨g3, k3, o3, a3, sa3, sc3, ls3⟩ := d2
  obtain ⟨g4, k4, o4, a4, sa4, sc4, ls4⟩ := e2
  rw [hW] at c1 c2 c3 c4
  have HW := hide hW
  have HBW := hide hbW
  clear h hn hMs hbW hR hd1 he1 hd2 he2 s1 s2 s3 s4 m1 m2 m3 m4 hW hp1 hq1 hp2 hq2
  have HF := hide (fun m => Below.on HBW.out (below_drewN (Below.refl W.heap.size W) m))
  have HC1 : Hid (Calls Try.prog 18 #[.slice sa1 ls1.length sc1, .slice sa3 ls3.length sc3] W fun e w' => e = .returned (.bool X1) ∧ ∃ m, w' = W.drewN m) := hide (HC1.out 0)
  go_enter Try.func13, Try.ntmps13
  go_wp2_with fail
  rw [← HW.out]
  refine HC1.out.mono ?_
  rintro e9 X ⟨rfl, j1, rfl⟩
  cases X1 with
  | false =>
    go_wp2_with fail
    refine (HC3.out j1).mono ?_
    rintro e9 X ⟨rfl, j3, rfl⟩
    cases X3 with
    | false =>
      go_wp2
      go_ret
      exact ⟨rfl, by simpa using HF.out _⟩
    | true =>
      go_wp2_with fail
      refine (HC4.out (j1 + j3)).mono ?_
      rintro e9 X ⟨rfl, j4, rfl⟩
      cases X4
      all_goals
        go_wp2
        go_ret
        exact ⟨rfl, by simpa using HF.out _⟩
  | true =>
    go_wp2_with fail
    refine (HC2.out j1).mono ?_
    rintro e9 X ⟨rfl, j2, rfl⟩
    cases X2 with
    | true =>
      go_wp2
      go_ret
      exact ⟨rfl, by simpa using HF.out _⟩
    | false =>
      go_wp2_with fail
      refine (HC3.out (j1 + j2)).mono ?_
      rintro e9 X ⟨rfl, j3, rfl⟩
      cases X3 with
      | false =>
        go_wp2
        go_ret
        exact ⟨rfl, by simpa using HF.out _⟩
      | true =>
        go_wp2_with fail
        refine (HC4.out (j1 + j2 + j3)).mono ?_
        rintro e9 X ⟨rfl, j4, rfl⟩
        cases X4
        all_goals
          go_wp2
          go_ret
          exact ⟨rfl, by simpa using HF.out _⟩
end Go.Proofs.Ytnengkdddckjaaa
