/-
  The law's own within and comparisons.
-/
import Derived.Test.YtdlpffbeladgaabMgT
namespace Go.Proofs.Ytdlpffbeladgaab
open Go.RowKit
theorem within_any (v n : Int) (w : World) (hn : 0 < n) (hn' : n ≤ 1000000000) :
    Calls Try.prog 13 #[.int .i64 v, .int .i64 n] w fun e w' => (∃ r : Int, e = .returned (.int .i64 r) ∧ 0 ≤ r ∧ r < n) ∧ w' = w := by
  have hn0 : ¬ n = 0 := by omega
  have ht1 : v.tmod n < n := Int.tmod_lt_of_pos v hn
  have ht2 : -n < v.tmod n := Int.lt_tmod_of_pos v hn
  go_enter Try.func13, Try.ntmps13
  go_wp2
  · go_ret
    exact ⟨⟨_, rfl, by omega, by omega⟩, rfl⟩
  · go_ret
    exact ⟨⟨_, rfl, ‹_›, ht1⟩, rfl⟩
theorem neqR (w : World) (a0 a1 a2 a3 a4 : Int) : (binOp .neq 42 (.agg #[.int .i64 a0, .int .i64 a1, .int .u64 a2, .int .u64 a3, .int .i64 a4]) (.agg #[.int .i64 a0, .int .i64 a1, .int .u64 a2, .int .u64 a3, .int .i64 a4])).run Try.prog w = .ok (.bool false) w := by
  have hu : Try.prog.underlying 42 = some (.struct (Try.prog.fieldsOf 42)) := by simp [Program.fieldsOf, Try.underlying42]
  have hp : Try.prog.stoodInHeld 42 = false := by kernel_rfl
  rw [run_neq_struct, show (10000 : Nat) = 9998 + 1 + 1 from rfl, run_equalIn_struct w _ _ _ _ hu hp]
  simp only [Program.fieldsOf, Try.underlying42]
  simp [Op.eqFields, go_sem, Try.underlying3, Try.underlying27]
set_option maxHeartbeats 800000 in
theorem sameN (a b : Option Addr) (n ca cb : Nat) (L : List Int) (w : World) (hA : TRow layN w a n L) (hB : TRow layN w b n L) (hn : (n : Int) ≤ 9223372036854775000) :
    Calls Try.prog 11 #[.slice a n ca, .slice b n cb] w fun e w' => e = .returned (.bool true) ∧ Below w.heap.size w w' := by
  have hl := hA.len
  have H1 : Hid _ := hide hA
  have H2 : Hid _ := hide hB
  have HL : Hid _ := hide hl
  clear hA hB hl
  go_enter Try.func11, Try.ntmps11
  go_wp2
  go_loopw [5] (fun i wr => ∃ k : Nat, k ≤ n ∧ i = .int .i64 k ∧ Below w.heap.size w wr) (fun i _ => n - numV i)
  case atStart => exact ⟨0, Nat.zero_le _, rfl, Below.refl _ _⟩
  case round =>
    obtain ⟨k, hk, rfl, hw⟩ := hrel
    have A1 := H1.out.below hw
    have A2 := H2.out.below hw
    have HW : Hid _ := hide hw
    clear hw
    by_cases hlt : k < n
    · obtain ⟨x, hrk⟩ : ∃ r, L[k]? = some r := ⟨L[k]'(by rw [HL.out]; exact hlt), List.getElem?_eq_getElem _⟩
      obtain ⟨b1, o1, rfl, _, hc1⟩ := A1.at (by omega)
      obtain ⟨b2, o2, rfl, _, hc2⟩ := A2.at (by omega)
      have x0 := hc1 k x hrk 0 _ rfl; have y0 := hc2 k x hrk 0 _ rfl
      simp only [layN, Nat.add_zero, Nat.mul_one] at x0 y0
      have hltI : (k : Int) < (n : Int) := by omega
      clear A1 A2 hc1 hc2 hrk
      go_wp2
      go_quiet (fail)
      go_wp2
      exact ⟨⟨k + 1, by omega, by go_num, below_drewN HW.out _⟩, by simp [numV]; omega⟩
    · clear A1 A2
      go_wp2
      go_ret
      exact ⟨rfl, HW.out⟩
/-- The same event, and the first has no stack. -/
structure Bare (e f : Vt) : Prop where
  g : e.g = f.g
  kind : e.kind = f.kind
  obj : e.obj = f.obj
  arg : e.arg = f.arg
  no : e.s.n = 0
theorem bare_any (e f : Vt) (w : World) (h : Bare e f) :
    Calls Try.prog 22 #[.agg #[.int .i64 e.g, .int .i64 e.kind, .int .u64 e.obj, .int .u64 e.arg, .slice e.s.a e.s.n e.s.c], .agg #[.int .i64 f.g, .int .i64 f.kind, .int .u64 f.obj, .int .u64 f.arg, .slice f.s.a f.s.n f.s.c]] w fun r w' => r = .returned (.bool true) ∧ Below w.heap.size w w' := by
  obtain ⟨g, k, o, a, ⟨sa, sn, sc⟩⟩ := e
  obtain ⟨g', k', o', a', ⟨sa', sn', sc'⟩⟩ := f
  obtain ⟨h1, h2, h3, h4, h5⟩ := h
  dsimp only at h1 h2 h3 h4 h5
  subst h1; subst h2; subst h3; subst h4; subst h5
  go_enter Try.func22, Try.ntmps22
  go_wp2
  go_ret
  exact ⟨rfl, below_alloc2 _ _ _⟩
set_option maxHeartbeats 800000 in
theorem sameB (a b : Option Addr) (n ca cb : Nat) (L M : List Vt) (w : World) (hA : TRow layV w a n L) (hB : TRow layV w b n M) (hn : (n : Int) ≤ 9223372036854775000) (hs : ∀ (i : Nat) (x y : Vt), L[i]? = some x → M[i]? = some y → Bare x y) :
    Calls Try.prog 10 #[.slice a n ca, .slice b n cb] w fun e w' => e = .returned (.bool true) ∧ Below w.heap.size w w' := by
  have H1 : Hid _ := hide hA
  have H2 : Hid _ := hide hB
  have HL : Hid _ := hide hA.len
  have HM : Hid _ := hide hB.len
  have HS : Hid _ := hide hs
  clear hA hB hs
  go_enter Try.func10, Try.ntmps10
  go_wp2
  go_loopw [5] (fun i wr => ∃ k : Nat, k ≤ n ∧ i = .int .i64 k ∧ Below w.heap.size w wr) (fun i _ => n - numV i)
  case atStart => exact ⟨0, Nat.zero_le _, rfl, Below.refl _ _⟩
  case round =>
    obtain ⟨k, hk, rfl, hw⟩ := hrel
    have HW : Hid _ := hide hw
    clear hw
    by_cases hlt : k < n
    · obtain ⟨x, hx⟩ : ∃ r, L[k]? = some r := ⟨L[k]'(by rw [HL.out]; exact hlt), List.getElem?_eq_getElem _⟩
      obtain ⟨y, hy⟩ : ∃ r, M[k]? = some r := ⟨M[k]'(by rw [HM.out]; exact hlt), List.getElem?_eq_getElem _⟩
      obtain ⟨b1, o1, rfl, hb1, hc1⟩ := (H1.out.below HW.out).at (by omega)
      obtain ⟨b2, o2, rfl, hb2, hc2⟩ := (H2.out.below HW.out).at (by omega)
      have BA := fun W => bare_any x y W (HS.out k x y hx hy)
      have HS0 : Hid (∀ X, Below wr.heap.size wr X → X.cell? ⟨b1, o1 + k * 5, none⟩ = some (.int .i64 x.g) ∧ X.cell? ⟨b1, o1 + k * 5 + 1, none⟩ = some (.int .i64 x.kind) ∧ X.cell? ⟨b1, o1 + k * 5 + 2, none⟩ = some (.int .u64 x.obj) ∧ X.cell? ⟨b1, o1 + k * 5 + 3, none⟩ = some (.int .u64 x.arg) ∧ X.cell? ⟨b1, o1 + k * 5 + 4, none⟩ = some (.slice x.s.a x.s.n x.s.c) ∧ X.cell? ⟨b2, o2 + k * 5, none⟩ = some (.int .i64 y.g) ∧ X.cell? ⟨b2, o2 + k * 5 + 1, none⟩ = some (.int .i64 y.kind) ∧ X.cell? ⟨b2, o2 + k * 5 + 2, none⟩ = some (.int .u64 y.obj) ∧ X.cell? ⟨b2, o2 + k * 5 + 3, none⟩ = some (.int .u64 y.arg) ∧ X.cell? ⟨b2, o2 + k * 5 + 4, none⟩ = some (.slice y.s.a y.s.n y.s.c)) := hide (fun X hX => by
        have q1 := fun t u h9 => (hX.cell (p := ⟨b1, o1 + k * layV.z + t, none⟩) hb1).trans (hc1 k x hx t u h9)
        have q2 := fun t u h9 => (hX.cell (p := ⟨b2, o2 + k * layV.z + t, none⟩) hb2).trans (hc2 k y hy t u h9)
        exact ⟨q1 0 _ rfl, q1 1 _ rfl, q1 2 _ rfl, q1 3 _ rfl, q1 4 _ rfl, q2 0 _ rfl, q2 1 _ rfl, q2 2 _ rfl, q2 3 _ rfl, q2 4 _ rfl⟩)
      have hltI : (k : Int) < (n : Int) := by omega
      have HZ := HS0.out _ (Below.refl _ _)
      obtain ⟨x0, x1, x2, x3, x4, y0, y1, y2, y3, y4⟩ := HZ
      clear hc1 hc2 hx hy
      go_wp2_with fail
      go_region_held3 (fun X => X.cell? ⟨b1, o1 + k * 5, none⟩ = some (.int .i64 x.g) ∧ X.cell? ⟨b1, o1 + k * 5 + 1, none⟩ = some (.int .i64 x.kind) ∧ X.cell? ⟨b1, o1 + k * 5 + 2, none⟩ = some (.int .u64 x.obj) ∧ X.cell? ⟨b1, o1 + k * 5 + 3, none⟩ = some (.int .u64 x.arg) ∧ X.cell? ⟨b1, o1 + k * 5 + 4, none⟩ = some (.slice x.s.a x.s.n x.s.c) ∧ X.cell? ⟨b2, o2 + k * 5, none⟩ = some (.int .i64 y.g) ∧ X.cell? ⟨b2, o2 + k * 5 + 1, none⟩ = some (.int .i64 y.kind) ∧ X.cell? ⟨b2, o2 + k * 5 + 2, none⟩ = some (.int .u64 y.obj) ∧ X.cell? ⟨b2, o2 + k * 5 + 3, none⟩ = some (.int .u64 y.arg) ∧ X.cell? ⟨b2, o2 + k * 5 + 4, none⟩ = some (.slice y.s.a y.s.n y.s.c)) (first | exact HS0.out _ hB2 | exact HS0.out _ (Below.refl _ _) | exact HS0.out _ (below_drewN (Below.refl _ _) _) | exact HS0.out _ (Below.refl _ _).drew) (first
        | (go_at_call 22; go_must (
           refine (BA _).mono ?_
           rintro e1 W1 ⟨rfl, hB1⟩
           have hB2 : Below wr.heap.size wr W1 := (Below.refl _ _).drew.trans hB1)))
      have HB9 : Hid (Below w.heap.size w W1) := hide (HW.out.trans (hB2.mono HW.out.size))
      clear hB1 hB2 x0 x1 x2 x3 x4 y0 y1 y2 y3 y4 BA
      go_wp2
      exact ⟨⟨k + 1, by omega, by go_num, HB9.out⟩, by simp [numV]; omega⟩
    · go_wp2
      go_ret
      exact ⟨rfl, HW.out⟩
set_option maxRecDepth 8000 in
set_option maxHeartbeats 3200000 in
theorem sameRw (a b : Option Addr) (n ca cb : Nat) (L M : List Rw) (Gs : List (Int × List Rc)) (w : World) (hA : Rdz w a n L Gs) (hB : Rdz w b n M Gs) (hn : (n : Int) ≤ 9223372036854775000) (hm : ∀ G ∈ Gs, (G.2.length : Int) ≤ 9223372036854775000) :
    Calls Try.prog 7 #[.slice a n ca, .slice b n cb] w fun e w' => e = .returned (.bool true) ∧ Below w.heap.size w w' := by
  have H1 : Hid _ := hide hA
  have H2 : Hid _ := hide hB
  have HG : Hid (Gs.length = n) := hide (by rw [← hA.len, hA.row.len])
  have HL : Hid _ := hide hA.row.len
  have HM : Hid _ := hide hB.row.len
  have HB9 : Hid _ := hide hm
  clear hA hB hm
  go_enter Try.func7, Try.ntmps7
  go_wp2
  go_loopw [5] (fun i wr => ∃ k : Nat, k ≤ n ∧ i = .int .i64 k ∧ Hid (Below w.heap.size w wr)) (fun i _ => n - numV i)
  case atStart => exact ⟨0, Nat.zero_le _, rfl, hide (Below.refl _ _)⟩
  case round =>
    obtain ⟨k, hk, rfl, HW⟩ := hrel
    by_cases hlt : k < n
    · obtain ⟨p, hp⟩ : ∃ r, L[k]? = some r := ⟨L[k]'(by rw [HL.out]; exact hlt), List.getElem?_eq_getElem _⟩
      obtain ⟨q, hq⟩ : ∃ r, M[k]? = some r := ⟨M[k]'(by rw [HM.out]; exact hlt), List.getElem?_eq_getElem _⟩
      obtain ⟨G, hG⟩ : ∃ r, Gs[k]? = some r := ⟨Gs[k]'(by rw [HG.out]; exact hlt), List.getElem?_eq_getElem _⟩
      have A1 := H1.out.below HW.out
      have A2 := H2.out.below HW.out
      obtain ⟨b1, o1, rfl, hb1, hc1⟩ := A1.row.at (by omega)
      obtain ⟨b2, o2, rfl, hb2, hc2⟩ := A2.row.at (by omega)
      obtain ⟨pg, pr, -, -⟩ := A1.each k p G hp hG
      obtain ⟨qg, qr, -, -⟩ := A2.each k q G hq hG
      have x0 := hc1 k p hp 0 _ rfl
      have x1 := hc1 k p hp 1 _ rfl
      have y0 := hc2 k q hq 0 _ rfl
      have y1 := hc2 k q hq 1 _ rfl
      obtain ⟨g, R⟩ := G
      obtain ⟨p0, pa, pn, pc⟩ := p
      obtain ⟨q0, qa, qn, qc⟩ := q
      dsimp only at pg qg pr qr
      subst pg; subst qg
      have hpl := pr.len
      have hql := qr.len
      have e9 : qn = pn := by omega
      subst e9
      have HPR : Hid _ := hide pr
      have HQR : Hid _ := hide qr
      have HPL : Hid _ := hide hpl
      have hRn : (qn : Int) ≤ 9223372036854775000 := by have := HB9.out _ (List.mem_of_getElem? hG); dsimp only at this; omega
      simp only [layW, Nat.add_zero] at x0 x1 y0 y1
      have hltI : (k : Int) < (n : Int) := by omega
      have HX : Hid (∀ X, Below wr.heap.size wr X → X.cell? ⟨b1, o1 + k * 2 + 1, none⟩ = some (.slice pa qn pc) ∧ X.cell? ⟨b2, o2 + k * 2 + 1, none⟩ = some (.slice qa qn qc)) := hide (fun X hX => ⟨(hX.cell (p := ⟨b1, o1 + k * 2 + 1, none⟩) hb1).trans x1, (hX.cell (p := ⟨b2, o2 + k * 2 + 1, none⟩) hb2).trans y1⟩)
      clear A1 A2 hc1 hc2 hp hq hG pr qr hpl hql
      go_wp2_with fail
      go_quiet (fail)
      go_wp2_with fail
      generalize hwd : wr.drewN _ = wd
      have HWD : Hid (Below wr.heap.size wr wd) := hide (by rw [← hwd]; exact below_drewN (Below.refl _ _) _)
      clear hwd x0 x1 y0 y1
      go_loopw [6] (fun i2 wi => ∃ j : Nat, j ≤ qn ∧ i2 = .int .i64 j ∧ Hid (Below wr.heap.size wr wi)) (fun i2 _ => qn - numV i2)
      case atStart => exact ⟨0, Nat.zero_le _, rfl, HWD⟩
      case round =>
        obtain ⟨j, hj, rfl, HI⟩ := hrel
        rename World => wi
        obtain ⟨x1, y1⟩ := HX.out _ HI.out
        by_cases hlt2 : j < qn
        · have hltJ : (j : Int) < (qn : Int) := by omega
          obtain ⟨r, hr⟩ : ∃ r, R[j]? = some r := ⟨R[j]'(by rw [HPL.out]; exact hlt2), List.getElem?_eq_getElem _⟩
          obtain ⟨d1, f1, rfl, _, hc1⟩ := (HPR.out.below HI.out).at (by omega)
          obtain ⟨d2, f2, rfl, _, hc2⟩ := (HQR.out.below HI.out).at (by omega)
          have u0 := hc1 j r hr 0 _ rfl; have u1 := hc1 j r hr 1 _ rfl; have u2 := hc1 j r hr 2 _ rfl; have u3 := hc1 j r hr 3 _ rfl; have u4 := hc1 j r hr 4 _ rfl
          have v0 := hc2 j r hr 0 _ rfl; have v1 := hc2 j r hr 1 _ rfl; have v2 := hc2 j r hr 2 _ rfl; have v3 := hc2 j r hr 3 _ rfl; have v4 := hc2 j r hr 4 _ rfl
          obtain ⟨a0, a1, a2, a3, a4⟩ := r
          simp only [layR, Nat.add_zero] at u0 u1 u2 u3 u4 v0 v1 v2 v3 v4
          have hq : ∀ W' : World, (binOp .neq 42 (.agg #[.int .i64 a0, .int .i64 a1, .int .u64 a2, .int .u64 a3, .int .i64 a4]) (.agg #[.int .i64 a0, .int .i64 a1, .int .u64 a2, .int .u64 a3, .int .i64 a4])).run Try.prog W' = .ok (.bool false) W' := fun W' => neqR W' _ _ _ _ _
          clear hc1 hc2 hr
          go_wp2_with fail
          go_quiet (fail)
          go_wp2
          exact ⟨⟨j + 1, by omega, by go_num, hide (below_drewN HI.out _)⟩, by simp [numV]; omega⟩
        · have hltJ : ¬ (j : Int) < (qn : Int) := by omega
          go_wp2
          exact ⟨⟨k + 1, by omega, by go_num, hide (HW.out.trans (HI.out.mono HW.out.size))⟩, by simp [numV]; omega⟩
    · go_wp2
      go_ret
      exact ⟨rfl, HW.out⟩
end Go.Proofs.Ytdlpffbeladgaab
