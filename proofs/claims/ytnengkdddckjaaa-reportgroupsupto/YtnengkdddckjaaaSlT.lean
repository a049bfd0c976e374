/-
  Slices: things that are the same; truths, numbers and events in rows.
-/
import Derived.Test.YtnengkdddckjaaaTwB
import Derived.Test.YtnengkdddckjaaaRdC
import Derived.Test.YtnengkdddckjaaaHpW
import Derived.Laws.OwnMore
import Derived.OneCell
namespace Go.Proofs.Ytnengkdddckjaaa
open Go.RowKit Go.Maps
set_option linter.unusedVariables false
def sE : Lay E6.Ev where
  cs := E6.ecell
  z := 5
  pos := by decide
  len _ := rfl
  one a u hu := by
    simp only [E6.ecell, List.mem_cons, List.not_mem_nil, or_false] at hu
    rcases hu with rfl | rfl | rfl | rfl | rfl <;> rfl
theorem ecells_sE (L : List E6.Ev) : E6.ecells L = sE.fl L := by
  induction L with
  | nil => rfl
  | cons x L ih => rw [E6.ecells, ih, sE.fl_cons]; rfl
theorem row_cell {α : Type} {y : Lay α} {w : World} {a : Option Addr} {n i : Nat} {L : List α} {x : α} (h : TRow y w a n L) (hx : L[i]? = some x) : ∃ b off, a = some ⟨b, off, none⟩ ∧ ∀ t u, (y.cs x)[t]? = some u → w.cell? ⟨b, off + i * y.z + t, none⟩ = some u := by
  have hl := get_lt hx
  obtain ⟨b, off, ha, _, hc⟩ := h.at (by rw [h.len] at hl; omega)
  exact ⟨b, off, ha, fun t u hu => hc i x hx t u hu⟩
theorem sI_cell {w : World} {a : Option Addr} {n i : Nat} {L : List Int} {x : Int} (h : TRow sI w a n L) (hx : L[i]? = some x) : ∃ b off, a = some ⟨b, off, none⟩ ∧ w.cell? ⟨b, off + i, none⟩ = some (.int .i64 x) := by
  obtain ⟨b, off, ha, hc⟩ := row_cell h hx
  refine ⟨b, off, ha, ?_⟩
  have h1 : w.cell? ⟨b, off + i * 1 + 0, none⟩ = some (.int .i64 x) := hc 0 _ rfl
  rw [Nat.mul_one, Nat.add_zero] at h1
  exact h1
set_option maxRecDepth 4000 in
theorem s_ints (a1 a2 : Option Addr) (n c1 c2 : Nat) (K : List Int) (w : World) (h1 : TRow sI w a1 n K) (h2 : TRow sI w a2 n K) (hn : (n : Int) ≤ 9223372036854775806) :
    Calls Try.prog 8 #[.slice a1 n c1, .slice a2 n c2] w fun e w' => e = .returned (.bool true) ∧ Below w.heap.size w w' := by
  have H1 := hide h1
  have H2 := hide h2
  have HL := hide h1.len
  clear h1 h2
  go_enter Try.func8, Try.ntmps8
  go_wp2
  go_loopw [5] (fun i wr => ∃ j : Nat, j ≤ n ∧ i = .int .i64 j ∧ Hid (∃ m, wr = w.drewN m)) (fun i _ => n - (intOf i).toNat)
  case atStart => exact ⟨0, Nat.zero_le _, rfl, hide ⟨0, rfl⟩⟩
  case round =>
    obtain ⟨j, hj, rfl, HD⟩ := hrel
    have HB : Hid (Below w.heap.size w wr) := hide (by obtain ⟨m, hm⟩ := HD.out; rw [hm]; exact below_drewN (Below.refl _ _) m)
    by_cases hlt : j < n
    · have hjI : (j : Int) < n := by omega
      have hj0 : (0 : Int) ≤ j := by omega
      obtain ⟨x, hx⟩ : ∃ x, K[j]? = some x := ⟨_, List.getElem?_eq_getElem (by rw [HL.out]; exact hlt)⟩
      obtain ⟨b1, o1, e1, d1⟩ := sI_cell (H1.out.below HB.out) hx
      obtain ⟨b2, o2, e2, d2⟩ := sI_cell (H2.out.below HB.out) hx
      subst e1
      subst e2
      clear hx
      go_wp2_with fail
      go_quiet (fail)
      go_wp2
      exact ⟨⟨j + 1, by omega, by go_num, hide (drew_onS HD.out _)⟩, by simp [intOf]; omega⟩
    · have hjI : ¬ (j : Int) < n := by omega
      go_wp2
      go_ret
      exact ⟨rfl, HB.out⟩
theorem s_evc {w : World} {b : Nat} {g k o a : Int} {s : Value} (h : w.heap[b]? = some (.cells #[.int .i64 g, .int .i64 k, .int .u64 o, .int .u64 a, s] 38 (0, 0))) : w.cell? ⟨b, 0, none⟩ = some (.int .i64 g) ∧ w.cell? ⟨b, 1, none⟩ = some (.int .i64 k) ∧ w.cell? ⟨b, 2, none⟩ = some (.int .u64 o) ∧ w.cell? ⟨b, 3, none⟩ = some (.int .u64 a) ∧ w.cell? ⟨b, 4, none⟩ = some s :=
  ⟨cell_at h rfl, cell_at h rfl, cell_at h rfl, cell_at h rfl, cell_at h rfl⟩
set_option maxRecDepth 4000 in
set_option maxHeartbeats 1000000 in
theorem s_event (e f : E6.Ev) (w : World) (ht : e.twin f) (he : E6.SRow w e.sa e.ls.length e.ls) (hf : E6.SRow w f.sa f.ls.length f.ls) (hn : (e.ls.length : Int) ≤ 9223372036854775806) :
    Calls Try.prog 14 #[.agg #[.int .i64 f.g, .int .i64 f.k, .int .u64 f.o, .int .u64 f.a, .slice f.sa f.ls.length f.sc], .agg #[.int .i64 e.g, .int .i64 e.k, .int .u64 e.o, .int .u64 e.a, .slice e.sa e.ls.length e.sc]] w fun r w' => r = .returned (.bool true) ∧ Below w.heap.size w w' := by
  obtain ⟨t1, t2, t3, t4, t5⟩ := ht
  rw [t1, t2, t3, t4]
  rw [t5] at hf ⊢
  obtain ⟨W0, hW0⟩ : ∃ W0, W0 = w.alloc (.cells #[.int .i64 e.g, .int .i64 e.k, .int .u64 e.o, .int .u64 e.a, .slice f.sa e.ls.length f.sc] 38) := ⟨_, rfl⟩
  obtain ⟨W, hW⟩ : ∃ W, W = W0.alloc (.cells #[.int .i64 e.g, .int .i64 e.k, .int .u64 e.o, .int .u64 e.a, .slice e.sa e.ls.length e.sc] 38) := ⟨_, rfl⟩
  have hb0 : Below w.heap.size w W0 := by rw [hW0]; exact below_alloc1 w _
  have hb1 : Below W0.heap.size W0 W := by rw [hW]; exact below_alloc1 W0 _
  have hb := hb0.trans (hb1.mono hb0.size)
  have hE0 : W0.heap[w.heap.size]? = some (.cells #[.int .i64 e.g, .int .i64 e.k, .int .u64 e.o, .int .u64 e.a, .slice f.sa e.ls.length f.sc] 38 (0, 0)) := by rw [hW0]; exact heap_new _ _
  have hE1 : W.heap[W0.heap.size]? = some (.cells #[.int .i64 e.g, .int .i64 e.k, .int .u64 e.o, .int .u64 e.a, .slice e.sa e.ls.length e.sc] 38 (0, 0)) := by rw [hW]; exact heap_new _ _
  obtain ⟨q0, q1, q2, q3, q4⟩ := s_evc hE1
  obtain ⟨z0, z1, z2, z3, z4⟩ := s_evc hE0
  have hl0 : w.heap.size < W0.heap.size := (Array.getElem?_eq_some_iff.1 hE0).1
  have hl1 : W0.heap.size < W.heap.size := (Array.getElem?_eq_some_iff.1 hE1).1
  have p0 := E6.cell_bel z0 hb1
  have p1 := E6.cell_bel z1 hb1
  have p2 := E6.cell_bel z2 hb1
  have p3 := E6.cell_bel z3 hb1
  have p4 := E6.cell_bel z4 hb1
  have hl2 : w.heap.size < W.heap.size := Nat.lt_trans hl0 hl1
  have HE := hide (E6.SRow.bel he hb)
  have HF := hide (E6.SRow.bel hf hb)
  have HB := hide hb
  have HW := hide (hW.trans (by rw [hW0]))
  have HS0 : Hid (W0.heap.size = w.heap.size + 1) := hide (by rw [hW0]; simp)
  have HC : Hid (∀ X, Below W.heap.size W X → X.cell? ⟨w.heap.size, 4, none⟩ = some (.slice f.sa e.ls.length f.sc) ∧ X.cell? ⟨W0.heap.size, 4, none⟩ = some (.slice e.sa e.ls.length e.sc) ∧ w.heap.size < X.heap.size ∧ W0.heap.size < X.heap.size) := hide (fun X hX => ⟨E6.cell_bel p4 hX, E6.cell_bel q4 hX, Nat.lt_of_lt_of_le hl2 hX.size, Nat.lt_of_lt_of_le hl1 hX.size⟩)
  rw [HS0.out] at q0 q1 q2 q3 q4 hl1 HC
  generalize e.ls.length = m at *
  generalize e.ls = L at *
  clear he hf hb hb0 hb1 hE0 hE1 hW hW0 z0 z1 z2 z3 z4 t1 t2 t3 t4 t5 HS0
  go_enter Try.func14, Try.ntmps14
  go_wp2_with fail
  rw [← HW.out]
  clear HW
  go_wp2
  clear p0 p1 p2 p3 p4 q0 q1 q2 q3 q4
  go_loopw [5] (fun i wr => ∃ (j : Nat), j ≤ m ∧ i = .int .i64 j ∧ Below W.heap.size W wr) (fun i _ => m - (intOf i).toNat)
  case atStart => exact ⟨0, Nat.zero_le _, rfl, Below.refl _ _⟩
  case round =>
    obtain ⟨j, hj, rfl, hbl⟩ := hrel
    have HBl := hide hbl
    obtain ⟨p4, q4, hx1, hx2⟩ := HC.out wr hbl
    clear hbl
    by_cases hlt : j < m
    · have hjI : (j : Int) < m := by omega
      have hj0 : (0 : Int) ≤ j := by omega
      obtain ⟨b, off, ha, hc⟩ := (E6.SRow.bel HE.out HBl.out).at hlt
      obtain ⟨b', off', ha', hc'⟩ := (E6.SRow.bel HF.out HBl.out).at hlt
      rw [ha] at q4
      rw [ha'] at p4
      generalize L.getD j ByteArray.empty = S at hc hc'
      clear ha ha'
      go_wp2_with fail
      go_quiet (fail)
      go_wp2
      exact ⟨⟨j + 1, by omega, by go_num, below_drewN HBl.out _⟩, by simp [intOf]; omega⟩
    · have h9 : j = m := by omega
      subst h9
      go_wp2
      go_ret
      exact ⟨rfl, HB.out.trans (HBl.out.mono HB.out.size)⟩
set_option maxRecDepth 4000 in
set_option maxHeartbeats 1000000 in
theorem s_trace (a : Option Addr) (n c : Nat) (es : List E6.Ev) (a' : Option Addr) (c' : Nat) (fs : List E6.Ev) (w : World) (hr : E6.ERow w a n es) (hr' : E6.ERow w a' n fs) (ht : E6.Twins es fs) (hok : ∀ e ∈ es, (e.ls.length : Int) ≤ 9223372036854775806) (hn : (n : Int) ≤ 9223372036854775806) :
    Calls Try.prog 9 #[.slice a' n c', .slice a n c] w fun r w' => r = .returned (.bool true) ∧ Below w.heap.size w w' := by
  have HE := hide hr
  have HF := hide hr'
  have HT := hide ht
  have HO := hide hok
  clear hr hr' ht hok
  go_enter Try.func9, Try.ntmps9
  go_wp2
  go_loopw [5] (fun i wr => ∃ (j : Nat), j ≤ n ∧ i = .int .i64 j ∧ Below w.heap.size w wr) (fun i _ => n - (intOf i).toNat)
  case atStart => exact ⟨0, Nat.zero_le _, rfl, Below.refl _ _⟩
  case round =>
    obtain ⟨j, hj, rfl, hbl⟩ := hrel
    have HBl := hide hbl
    clear hbl
    by_cases hlt : j < n
    · have hjI : (j : Int) < n := by omega
      obtain ⟨b, off, e, ha, hej, c0, c1, c2, c3, c4, hs⟩ := (HE.out.bel HBl.out).at hlt
      obtain ⟨b', off', f, ha', hfj, d0, d1, d2, d3, d4, hs'⟩ := (HF.out.bel HBl.out).at hlt
      subst ha
      subst ha'
      have HD := hide ((Below.refl wr.heap.size wr).drew)
      have HC := hide (s_event e f wr.drew (HT.out.get hej hfj) (E6.SRow.bel hs HD.out) (E6.SRow.bel hs' HD.out) (HO.out e (List.mem_of_getElem? hej)))
      have HX0 := hide (Below.refl wr.heap.size wr)
      have HSx : Hid (∀ X, Below wr.heap.size wr X → X.cell? ⟨b, off + j * 5, none⟩ = some (.int .i64 e.g) ∧ X.cell? ⟨b, off + j * 5 + 1, none⟩ = some (.int .i64 e.k) ∧ X.cell? ⟨b, off + j * 5 + 2, none⟩ = some (.int .u64 e.o) ∧ X.cell? ⟨b, off + j * 5 + 3, none⟩ = some (.int .u64 e.a) ∧ X.cell? ⟨b, off + j * 5 + 4, none⟩ = some (.slice e.sa e.ls.length e.sc) ∧ X.cell? ⟨b', off' + j * 5, none⟩ = some (.int .i64 f.g) ∧ X.cell? ⟨b', off' + j * 5 + 1, none⟩ = some (.int .i64 f.k) ∧ X.cell? ⟨b', off' + j * 5 + 2, none⟩ = some (.int .u64 f.o) ∧ X.cell? ⟨b', off' + j * 5 + 3, none⟩ = some (.int .u64 f.a) ∧ X.cell? ⟨b', off' + j * 5 + 4, none⟩ = some (.slice f.sa f.ls.length f.sc)) := hide (fun X hX => ⟨E6.cell_bel c0 hX, E6.cell_bel c1 hX, E6.cell_bel c2 hX, E6.cell_bel c3 hX, E6.cell_bel c4 hX, E6.cell_bel d0 hX, E6.cell_bel d1 hX, E6.cell_bel d2 hX, E6.cell_bel d3 hX, E6.cell_bel d4 hX⟩)
      clear hs hs' hej hfj
      go_wp2_with fail
      go_region_held3 (fun X => X.cell? ⟨b, off + j * 5, none⟩ = some (.int .i64 e.g) ∧ X.cell? ⟨b, off + j * 5 + 1, none⟩ = some (.int .i64 e.k) ∧ X.cell? ⟨b, off + j * 5 + 2, none⟩ = some (.int .u64 e.o) ∧ X.cell? ⟨b, off + j * 5 + 3, none⟩ = some (.int .u64 e.a) ∧ X.cell? ⟨b, off + j * 5 + 4, none⟩ = some (.slice e.sa e.ls.length e.sc) ∧ X.cell? ⟨b', off' + j * 5, none⟩ = some (.int .i64 f.g) ∧ X.cell? ⟨b', off' + j * 5 + 1, none⟩ = some (.int .i64 f.k) ∧ X.cell? ⟨b', off' + j * 5 + 2, none⟩ = some (.int .u64 f.o) ∧ X.cell? ⟨b', off' + j * 5 + 3, none⟩ = some (.int .u64 f.a) ∧ X.cell? ⟨b', off' + j * 5 + 4, none⟩ = some (.slice f.sa f.ls.length f.sc))
        (first | with_reducible exact HSx.out _ HX0.out | with_reducible exact HSx.out _ HD.out | with_reducible exact HSx.out _ HX7.out)
        (first | (go_at_call 14; go_must (refine HC.out.mono ?_; rintro e9 w7 ⟨rfl, h7⟩; have HX7 : Hid (Below wr.heap.size wr w7) := hide (HD.out.trans (h7.mono HD.out.size)); clear h7)))
      have HB3 := hide (HBl.out.trans (HX7.out.mono HBl.out.size))
      clear HC HSx HX0 HD c0 c1 c2 c3 c4 d0 d1 d2 d3 d4
      go_wp2
      exact ⟨⟨j + 1, by omega, by go_num, HB3.out⟩, by simp [intOf]; omega⟩
    · have h9 : j = n := by omega
      subst h9
      go_wp2
      go_ret
      exact ⟨rfl, HBl.out⟩
end Go.Proofs.Ytnengkdddckjaaa
