import Derived.Test.YtafkammiehcdjaaGreatDoorZa34
import Derived.Test.YtafkammiehcdjaaGreatDoorZa37
import Derived.Test.YtafkammiehcdjaaGreatDoorZa38
import Derived.Test.YtafkammiehcdjaaGreatDoorZa39
/-
  CheckRuns.
-/
namespace Go.Proofs.YtafkammiehcdjaaGreatDoor
open Go.RowKit Go.Maps Go.Shelf
set_option linter.unusedVariables false
set_option maxRecDepth 4000 in
set_option maxHeartbeats 1000000 in
theorem sameEvent_any (e f : E6.Ev) (w : World) (ht : e.twin f) (he : E6.SRow w e.sa e.ls.length e.ls) (hf : E6.SRow w f.sa f.ls.length f.ls) (hn : (e.ls.length : Int) ≤ 9223372036854775806) :
    Calls Tryz.prog 43 #[.agg #[.int .i64 f.g, .int .i64 f.k, .int .u64 f.o, .int .u64 f.a, .slice f.sa f.ls.length f.sc], .agg #[.int .i64 e.g, .int .i64 e.k, .int .u64 e.o, .int .u64 e.a, .slice e.sa e.ls.length e.sc]] w fun r w' => r = .returned (.bool true) ∧ Below w.heap.size w w' := by
  obtain ⟨t1, t2, t3, t4, t5⟩ := ht
  rw [t1, t2, t3, t4]
  rw [t5] at hf ⊢
  obtain ⟨W0, hW0⟩ : ∃ W0, W0 = w.alloc (.cells #[.int .i64 e.g, .int .i64 e.k, .int .u64 e.o, .int .u64 e.a, .slice f.sa e.ls.length f.sc] 36) := ⟨_, rfl⟩
  obtain ⟨W, hW⟩ : ∃ W, W = W0.alloc (.cells #[.int .i64 e.g, .int .i64 e.k, .int .u64 e.o, .int .u64 e.a, .slice e.sa e.ls.length e.sc] 36) := ⟨_, rfl⟩
  have hb0 : Below w.heap.size w W0 := by rw [hW0]; exact below_alloc1 w _
  have hb1 : Below W0.heap.size W0 W := by rw [hW]; exact below_alloc1 W0 _
  have hb := hb0.trans (hb1.mono hb0.size)
  have hE0 : W0.heap[w.heap.size]? = some (.cells #[.int .i64 e.g, .int .i64 e.k, .int .u64 e.o, .int .u64 e.a, .slice f.sa e.ls.length f.sc] 36 (0, 0)) := by rw [hW0]; exact heap_new _ _
  have hE1 : W.heap[W0.heap.size]? = some (.cells #[.int .i64 e.g, .int .i64 e.k, .int .u64 e.o, .int .u64 e.a, .slice e.sa e.ls.length e.sc] 36 (0, 0)) := by rw [hW]; exact heap_new _ _
  obtain ⟨q0, q1, q2, q3, q4⟩ := evc0 (g := e.g) (k := e.k) (o := e.o) (a := e.a) hE1
  obtain ⟨z0, z1, z2, z3, z4⟩ := evc0 (g := e.g) (k := e.k) (o := e.o) (a := e.a) hE0
  have hl0 : w.heap.size < W0.heap.size := (Array.getElem?_eq_some_iff.1 hE0).1
  have hl1 : W0.heap.size < W.heap.size := (Array.getElem?_eq_some_iff.1 hE1).1
  have p0 := E6.cell_bel z0 hb1
  have p1 := E6.cell_bel z1 hb1
  have p2 := E6.cell_bel z2 hb1
  have p3 := E6.cell_bel z3 hb1
  have p4 := E6.cell_bel z4 hb1
  have hl2 : w.heap.size < W.heap.size := Nat.lt_trans hl0 hl1
  have HE := hide (E6.SRow.bel he hb)
  have HF := hide (E6.SRow.bel hf hb)
  have HB := hide hb
  have HW := hide (hW.trans (by rw [hW0]))
  have HS0 : Hid (W0.heap.size = w.heap.size + 1) := hide (by rw [hW0]; simp)
  have HC : Hid (∀ X, Below W.heap.size W X → X.cell? ⟨w.heap.size, 4, none⟩ = some (.slice f.sa e.ls.length f.sc) ∧ X.cell? ⟨W0.heap.size, 4, none⟩ = some (.slice e.sa e.ls.length e.sc) ∧ w.heap.size < X.heap.size ∧ W0.heap.size < X.heap.size) := hide (fun X hX => ⟨E6.cell_bel p4 hX, E6.cell_bel q4 hX, Nat.lt_of_lt_of_le hl2 hX.size, Nat.lt_of_lt_of_le hl1 hX.size⟩)
  rw [HS0.out] at q0 q1 q2 q3 q4 hl1 HC
  generalize e.ls.length = m at *
  generalize e.ls = L at *
  clear he hf hb hb0 hb1 hE0 hE1 hW hW0 z0 z1 z2 z3 z4 t1 t2 t3 t4 t5 HS0
  go_enter Tryz.func43, Tryz.ntmps43
  go_wp2_with fail
  rw [← HW.out]
  clear HW
  go_wp2
  clear p0 p1 p2 p3 p4 q0 q1 q2 q3 q4
  go_loopw [5] (fun i wr => ∃ (j : Nat), j ≤ m ∧ i = .int .i64 j ∧ Below W.heap.size W wr) (fun i _ => m - (intOf i).toNat)
  case atStart => exact ⟨0, Nat.zero_le _, rfl, Below.refl _ _⟩
  case round =>
    obtain ⟨j, hj, rfl, hbl⟩ := hrel
    have HBl := hide hbl
    obtain ⟨p4, q4, hx1, hx2⟩ := HC.out wr hbl
    clear hbl
    by_cases hlt : j < m
    · have hjI : (j : Int) < m := by omega
      have hj0 : (0 : Int) ≤ j := by omega
      obtain ⟨b, off, ha, hc⟩ := (E6.SRow.bel HE.out HBl.out).at hlt
      obtain ⟨b', off', ha', hc'⟩ := (E6.SRow.bel HF.out HBl.out).at hlt
      rw [ha] at q4
      rw [ha'] at p4
      generalize L.getD j ByteArray.empty = S at hc hc'
      clear ha ha'
      go_wp2_with fail
      go_quiet (fail)
      go_wp2
      exact ⟨⟨j + 1, by omega, by go_num, below_drewN HBl.out _⟩, by simp [intOf]; omega⟩
    · have h9 : j = m := by omega
      subst h9
      go_wp2
      go_ret
      exact ⟨rfl, HB.out.trans (HBl.out.mono HB.out.size)⟩
set_option maxRecDepth 4000 in
set_option maxHeartbeats 1000000 in
theorem sameTrace_any (a : Option Addr) (n c : Nat) (es : List E6.Ev) (a' : Option Addr) (c' : Nat) (fs : List E6.Ev) (w : World) (hr : E6.ERow w a n es) (hr' : E6.ERow w a' n fs) (ht : E6.Twins es fs) (hok : ∀ e ∈ es, e.ok) (hn : (n : Int) ≤ 9223372036854775806) :
    Calls Tryz.prog 21 #[.slice a' n c', .slice a n c] w fun r w' => r = .returned (.bool true) ∧ Below w.heap.size w w' := by
  have HE := hide hr
  have HF := hide hr'
  have HT := hide ht
  have HO := hide hok
  clear hr hr' ht hok
  go_enter Tryz.func21, Tryz.ntmps21
  go_wp2
  go_loopw [5] (fun i wr => ∃ (j : Nat), j ≤ n ∧ i = .int .i64 j ∧ Below w.heap.size w wr) (fun i _ => n - (intOf i).toNat)
  case atStart => exact ⟨0, Nat.zero_le _, rfl, Below.refl _ _⟩
  case round =>
    obtain ⟨j, hj, rfl, hbl⟩ := hrel
    have HBl := hide hbl
    clear hbl
    by_cases hlt : j < n
    · have hjI : (j : Int) < n := by omega
      obtain ⟨b, off, e, ha, hej, c0, c1, c2, c3, c4, hs⟩ := (HE.out.bel HBl.out).at hlt
      obtain ⟨b', off', f, ha', hfj, d0, d1, d2, d3, d4, hs'⟩ := (HF.out.bel HBl.out).at hlt
      subst ha
      subst ha'
      have HD := hide ((Below.refl wr.heap.size wr).drew)
      have HC := hide (sameEvent_any e f wr.drew (HT.out.get hej hfj) (E6.SRow.bel hs HD.out) (E6.SRow.bel hs' HD.out) (by have := (HO.out e (List.mem_of_getElem? hej)).len; omega))
      have HX0 := hide (Below.refl wr.heap.size wr)
      have HSx : Hid (∀ X, Below wr.heap.size wr X → X.cell? ⟨b, off + j * 5, none⟩ = some (.int .i64 e.g) ∧ X.cell? ⟨b, off + j * 5 + 1, none⟩ = some (.int .i64 e.k) ∧ X.cell? ⟨b, off + j * 5 + 2, none⟩ = some (.int .u64 e.o) ∧ X.cell? ⟨b, off + j * 5 + 3, none⟩ = some (.int .u64 e.a) ∧ X.cell? ⟨b, off + j * 5 + 4, none⟩ = some (.slice e.sa e.ls.length e.sc) ∧ X.cell? ⟨b', off' + j * 5, none⟩ = some (.int .i64 f.g) ∧ X.cell? ⟨b', off' + j * 5 + 1, none⟩ = some (.int .i64 f.k) ∧ X.cell? ⟨b', off' + j * 5 + 2, none⟩ = some (.int .u64 f.o) ∧ X.cell? ⟨b', off' + j * 5 + 3, none⟩ = some (.int .u64 f.a) ∧ X.cell? ⟨b', off' + j * 5 + 4, none⟩ = some (.slice f.sa f.ls.length f.sc)) := hide (fun X hX => ⟨E6.cell_bel c0 hX, E6.cell_bel c1 hX, E6.cell_bel c2 hX, E6.cell_bel c3 hX, E6.cell_bel c4 hX, E6.cell_bel d0 hX, E6.cell_bel d1 hX, E6.cell_bel d2 hX, E6.cell_bel d3 hX, E6.cell_bel d4 hX⟩)
      clear hs hs' hej hfj
      go_wp2_with fail
      go_region_held3 (fun X => X.cell? ⟨b, off + j * 5, none⟩ = some (.int .i64 e.g) ∧ X.cell? ⟨b, off + j * 5 + 1, none⟩ = some (.int .i64 e.k) ∧ X.cell? ⟨b, off + j * 5 + 2, none⟩ = some (.int .u64 e.o) ∧ X.cell? ⟨b, off + j * 5 + 3, none⟩ = some (.int .u64 e.a) ∧ X.cell? ⟨b, off + j * 5 + 4, none⟩ = some (.slice e.sa e.ls.length e.sc) ∧ X.cell? ⟨b', off' + j * 5, none⟩ = some (.int .i64 f.g) ∧ X.cell? ⟨b', off' + j * 5 + 1, none⟩ = some (.int .i64 f.k) ∧ X.cell? ⟨b', off' + j * 5 + 2, none⟩ = some (.int .u64 f.o) ∧ X.cell? ⟨b', off' + j * 5 + 3, none⟩ = some (.int .u64 f.a) ∧ X.cell? ⟨b', off' + j * 5 + 4, none⟩ = some (.slice f.sa f.ls.length f.sc))
        (first | with_reducible exact HSx.out _ HX0.out | with_reducible exact HSx.out _ HD.out | with_reducible exact HSx.out _ HX7.out)
        (first | (go_at_call 43; go_must (refine HC.out.mono ?_; rintro e9 w7 ⟨rfl, h7⟩; have HX7 : Hid (Below wr.heap.size wr w7) := hide (HD.out.trans (h7.mono HD.out.size)); clear h7)))
      have HB3 := hide (HBl.out.trans (HX7.out.mono HBl.out.size))
      clear HC HSx HX0 HD c0 c1 c2 c3 c4 d0 d1 d2 d3 d4
      go_wp2
      exact ⟨⟨j + 1, by omega, by go_num, HB3.out⟩, by simp [intOf]; omega⟩
    · have h9 : j = n := by omega
      subst h9
      go_wp2
      go_ret
      exact ⟨rfl, HBl.out⟩
theorem frV_runV {es : List E6.Ev} (hok : ∀ e ∈ es, e.ok) : frV es = runV es := by
  unfold frV runV
  by_cases h : (E6.bounds es).2 ≠ 0
  · rw [if_pos h, if_pos h]
  · rw [if_neg h, if_neg h]
    have h0 : (E6.bounds es).2 = 0 := by omega
    obtain ⟨_, hchk⟩ := bounds_zero h0
    rw [run_fr es [] CS.new 0 .new fun e he => (gdm_of (hchk e he) (hok e he)).1]
set_option maxRecDepth 4000 in
set_option maxHeartbeats 1000000 in
theorem runs_any (a : Option Addr) (n c : Nat) (es : List E6.Ev) (w : World) (hK : E6.Kr w) (hr : E6.ERow w a n es) (hok : ∀ e ∈ es, e.ok) (hn : n * 56 ≤ 140737488355328) (hc : n ≤ c) (hz : a = none → n = 0 ∧ c = 0) :
    Calls Tryz.prog 6 #[.slice a n c] w fun e w' => e = .returned (.bool true) ∧ Below w.heap.size w w' := by
  have HTw := hide (E6.twin_any a n c es w hr hok hn (fun e => (hz e).2))
  have HK := hide hK
  have HR := hide hr
  have HO := hide hok
  have hnI : (n : Int) ≤ 9223372036854775806 := by omega
  have HNc := hide hc
  have hsz := hK.size
  have HV := hide (frV_runV hok)
  clear hK hr hok hn hz hc
  go_enter Tryz.func6, Tryz.ntmps6
  go_wp2_with fail
  refine HTw.out.mono ?_
  rintro r w1 ⟨fs, v, rfl, htw⟩
  obtain ⟨a', c', rfl, hrow, _⟩ := htw.form
  have HT := hide (htw.twins HR.out.len)
  have HB1 := hide htw.bel
  have HF := hide hrow
  have HRn := hide (Run_any a' n c' fs w1 (HK.out.below HB1.out (by omega)) hrow (htw.ok HO.out) hnI)
  rw [runV_twins HT.out] at HRn
  clear HTw htw hrow
  go_wp2_with fail
  refine HRn.out.mono ?_
  rintro r w2 ⟨rfl, hb2⟩
  have HB2 := hide (Below.on HB1.out hb2)
  have HF2 := hide (HF.out.bel hb2)
  have HRr := hide (rrun_any a n c es w2 (HR.out.bel HB2.out) HO.out hnI HNc.out)
  rw [HV.out] at HRr
  generalize runV es = V at HRr ⊢
  obtain ⟨P, Y, E⟩ := V
  dsimp only at HRr ⊢
  clear HRn hb2 HF HB1 HV
  go_wp2_with fail
  refine HRr.out.mono ?_
  rintro r w3 ⟨rfl, hb3⟩
  have HB3 := hide (Below.on HB2.out hb3)
  have HS := hide (sameTrace_any a n c es a' c' fs w3 (HR.out.bel HB3.out) (HF2.out.bel hb3) HT.out HO.out hnI)
  clear HRr hb3 HB2 HF2
  go_wp2_with fail
  refine HS.out.mono ?_
  rintro r w4 ⟨rfl, hb4⟩
  have HB4 := hide (Below.on HB3.out hb4)
  clear HS hb4
  go_wp2
  go_ret
  exact ⟨rfl, HB4.out⟩
end Go.Proofs.YtafkammiehcdjaaGreatDoor
/-
  A pair of checkers in memory: the program's and the document's.
-/
namespace Go.Proofs.YtafkammiehcdjaaGreatDoor
open Go.RowKit Go.Maps Go.Shelf
set_option linter.unusedVariables false
structure PrS (w wr : World) (S : Nat → Prop) (cb rb : Nat) (M : CS) (qs : List E6.Ev) : Prop where
  mem : ∃ B F vt, Ck wr cb B F M (M.taken + 1) ∧ (∀ k, F k ≠ none → S k) ∧ Rf w wr rb vt qs ∧ S rb ∧ F rb = none ∧ (∀ k, vt.ownBlock = some k → S k ∧ F k = none)
  inv : M.inv
  rch : Rch (qs.map me) M
  tk : M.taken = qs.length
  le : M.taken ≤ 1048576
  eb : ∀ f ∈ qs, Eb f.g f.k f.o f.a
  bd : ∀ k, S k → w.heap.size ≤ k ∧ k < wr.heap.size
/-- Both are there, or none is. -/
def PrV (w wr : World) (S : Nat → Prop) (o r : Value) : Prop := (o = .pointer none ∧ r = .pointer none ∧ (∀ k, S k → w.heap.size ≤ k ∧ k < wr.heap.size)) ∨ ∃ cb rb M qs, o = gPtr cb ∧ r = gPtr rb ∧ PrS w wr S cb rb M qs
section
variable {w wr w' : World} {S T : Nat → Prop} {cb rb : Nat} {M : CS} {qs : List E6.Ev} {o r : Value}
theorem Rf.but {vt : Value} (h : Rf w wr rb vt qs) (hb : But T wr w') (h1 : ¬ T rb) (h2 : ∀ k, vt.ownBlock = some k → ¬ T k) (h3 : ∀ k, T k → w.heap.size ≤ k) : Rf w w' rb vt qs :=
  ⟨(hb.block rb (lt_of_heap h.wc) h1).trans h.wc, h.ge, own_but h.ot hb h2, h.st, h.bel.trans (hb.below h.bel.size h3)⟩
theorem PrS.belw (h : PrS w wr S cb rb M qs) : Below w.heap.size w wr := by
  obtain ⟨B, F, vt, _, _, h3, _⟩ := h.mem
  exact h3.bel
theorem PrS.but (h : PrS w wr S cb rb M qs) (hb : But T wr w') (hT : ∀ k, T k → ¬ S k) (hT2 : ∀ k, T k → w.heap.size ≤ k) : PrS w w' S cb rb M qs := by
  obtain ⟨B, F, vt, h1, h2, h3, h4, h5, h6⟩ := h.mem
  refine ⟨⟨B, F, vt, h1.but (X := fun _ => False) hb (fun k _ ht l hl => hT k ht (h2 k (by rw [hl]; simp))) (FEx.refl _ _) (fun k l hl => Nat.lt_of_lt_of_le (h1.lt k l hl) hb.size), h2, h3.but hb (fun e => hT _ e h4) (fun k hk e => hT k e (h6 k hk).1) hT2, h4, h5, h6⟩, h.inv, h.rch, h.tk, h.le, h.eb, fun k hk => ⟨(h.bd k hk).1, Nat.lt_of_lt_of_le (h.bd k hk).2 hb.size⟩⟩
theorem PrS.on (h : PrS w wr S cb rb M qs) (hb : Below wr.heap.size wr w') : PrS w w' S cb rb M qs :=
  h.but (T := fun _ => False) (But.of_below hb) (fun _ e => e.elim) (fun _ e => e.elim)
theorem PrS.more (h : PrS w wr S cb rb M qs) (hS : ∀ k, S k → T k) (hb : ∀ k, T k → w.heap.size ≤ k ∧ k < wr.heap.size) : PrS w wr T cb rb M qs := by
  obtain ⟨B, F, vt, h1, h2, h3, h4, h5, h6⟩ := h.mem
  exact ⟨⟨B, F, vt, h1, fun k hk => hS k (h2 k hk), h3, hS _ h4, h5, fun k hk => ⟨hS k (h6 k hk).1, (h6 k hk).2⟩⟩, h.inv, h.rch, h.tk, h.le, h.eb, hb⟩
theorem PrV.bd (h : PrV w wr S o r) : ∀ k, S k → w.heap.size ≤ k ∧ k < wr.heap.size := by
  rcases h with ⟨_, _, h⟩ | ⟨cb, rb, M, qs, _, _, h⟩
  · exact h
  · exact h.bd
theorem PrV.but (h : PrV w wr S o r) (hb : But T wr w') (hT : ∀ k, T k → ¬ S k) (hT2 : ∀ k, T k → w.heap.size ≤ k) : PrV w w' S o r := by
  rcases h with ⟨h1, h2, h3⟩ | ⟨cb, rb, M, qs, h1, h2, h3⟩
  · exact .inl ⟨h1, h2, fun k hk => ⟨(h3 k hk).1, Nat.lt_of_lt_of_le (h3 k hk).2 hb.size⟩⟩
  · exact .inr ⟨cb, rb, M, qs, h1, h2, h3.but hb hT hT2⟩
/-- What a pair has, with all that is new. -/
def Nw (S : Nat → Prop) (wr w' : World) : Nat → Prop := fun k => S k ∨ (wr.heap.size ≤ k ∧ k < w'.heap.size)
theorem nw_bd {w0 : World} (h : ∀ k, S k → w0.heap.size ≤ k ∧ k < wr.heap.size) (h0 : w0.heap.size ≤ wr.heap.size) (h1 : wr.heap.size ≤ w'.heap.size) : ∀ k, Nw S wr w' k → w0.heap.size ≤ k ∧ k < w'.heap.size := by
  rintro k (hk | hk)
  · have := h k hk; omega
  · omega
/-- The program's Add. -/
theorem PrS.addO (h : PrS w wr S cb rb M qs) (hK : E6.Kr wr) (e : E6.Ev) (hok : e.ok) (hs : E6.SRow wr e.sa e.ls.length e.ls) :
    Calls Tryz.prog 14 #[gPtr cb, .agg #[.int .i64 e.g, .int .i64 e.k, .int .u64 e.o, .int .u64 e.a, .slice e.sa e.ls.length e.sc]] wr fun r w' => r = .returned (.tuple #[.int .i64 (M.addY e.chk (me e)), .int .i64 (M.addE e.chk)]) ∧ (∃ B F vt, Ck w' cb B F (M.addS e.chk (me e)) ((M.addS e.chk (me e)).taken + 1) ∧ (∀ k, F k ≠ none → Nw S wr w' k) ∧ Rf w w' rb vt qs ∧ S rb ∧ F rb = none ∧ (∀ k, vt.ownBlock = some k → S k ∧ F k = none)) ∧ But S wr w' := by
  obtain ⟨B, F, vt, h1, h2, h3, h4, h5, h6⟩ := h.mem
  refine (Add_any (sa := e.sa) (sn := e.ls.length) (sc := e.sc) (ls := e.ls) h1 h.inv h.le hK hs (by have := hok.len; omega) hok.ho.1 hok.ho.2 hok.ha.1 hok.ha.2).mono ?_
  rintro r w' ⟨rfl, B', F', g1, g2, g3⟩
  have g4 : But S wr w' := g3.mono h2
  have hrl := lt_of_heap h3.wc
  refine ⟨rfl, ⟨B', F', vt, g1, fun k hk => ?_, h3.but g3 (fun e => e h5) (fun k hk e => e (h6 k hk).2) (fun k e => (h.bd k (h2 k e)).1), h4, (g2 rb hrl).trans h5, fun k hk => ⟨(h6 k hk).1, (g2 k (h3.ot.lt k hk).2).trans (h6 k hk).2⟩⟩, g4⟩
  by_cases hl : k < wr.heap.size
  · rw [g2 k hl] at hk; exact .inl (h2 k hk)
  · cases hq : F' k with
    | none => exact absurd hq hk
    | some l => exact .inr ⟨by omega, g1.lt k l hq⟩
end
end Go.Proofs.YtafkammiehcdjaaGreatDoor
/-
  What a pair answers; lists that are written over and gone on with.
-/
namespace Go.Proofs.YtafkammiehcdjaaGreatDoor
open Go.RowKit Go.Maps Go.Shelf
set_option linter.unusedVariables false
structure Ask (wr : World) (o r : Value) (K : Int → List Int) (D : Int → List Bool) (A : List Int) : Prop where
  oh : ∀ X (g : Int), Below wr.heap.size wr X → -9223372036854775808 ≤ g → g ≤ 9223372036854775807 → Calls Tryz.prog 40 #[o, .int .i64 g] X fun e w' => ∃ v1 v2, e = .returned (.tuple #[v1, v2]) ∧ Hl X w' v1 v2 (K g) (D g)
  rh : ∀ X (g : Int), Below wr.heap.size wr X → -9223372036854775808 ≤ g → g ≤ 9223372036854775807 → Calls Tryz.prog 46 #[r, .int .i64 g] X fun e w' => ∃ v1 v2, e = .returned (.tuple #[v1, v2]) ∧ Hl X w' v1 v2 (K g) (D g)
  oa : ∀ X, Below wr.heap.size wr X → Calls Tryz.prog 47 #[o] X fun e w' => ∃ v, e = .returned v ∧ II X w' v A
  ra : ∀ X, Below wr.heap.size wr X → Calls Tryz.prog 51 #[r] X fun e w' => ∃ v, e = .returned v ∧ II X w' v A
  few : ∀ g, ((K g).length : Int) ≤ 2000000 ∧ (D g).length = (K g).length
  fa : (A.length : Int) ≤ 2000000
theorem has_of_mem {L : List Ent} {p : Ent} (h : p ∈ L) : has p.1 L = true := by
  unfold has
  induction L with
  | nil => cases h
  | cons q L ih =>
    rw [look]
    by_cases e : q.1 = p.1
    · rw [if_pos e]; rfl
    · rw [if_neg e]
      rcases List.mem_cons.1 h with rfl | h
      · exact absurd rfl e
      · exact ih h
theorem missing_nil (w : World) : Calls Tryz.prog 28 #[.pointer none] w fun e w' => e = .returned (.bool true) ∧ w' = w := by
  go_enter Tryz.func28, Tryz.ntmps28
  go_wp2
  go_ret
  exact ⟨rfl, rfl⟩
set_option maxRecDepth 8000 in
theorem held_nil (w : World) (g : Int) : Calls Tryz.prog 40 #[.pointer none, .int .i64 g] w fun e w' => ∃ v1 v2, e = .returned (.tuple #[v1, v2]) ∧ Hl w w' v1 v2 [] [] := by
  go_enter Tryz.func40, Tryz.ntmps40
  go_wp2_with fail
  refine (missing_nil w).mono ?_
  rintro r w1 ⟨rfl, hw⟩
  obtain rfl : w = w1 := hw.symm
  go_wp2
  go_ret2
  exact ⟨_, _, rfl, Own.nil _ _ _ _, Own.nil _ _ _ _, Below.refl _ _⟩
set_option maxRecDepth 8000 in
theorem alive_nil (w : World) : Calls Tryz.prog 47 #[.pointer none] w fun e w' => ∃ v, e = .returned v ∧ II w w' v [] := by
  go_enter Tryz.func47, Tryz.ntmps47
  go_wp2_with fail
  refine (missing_nil w).mono ?_
  rintro r w1 ⟨rfl, hw⟩
  obtain rfl : w = w1 := hw.symm
  go_wp2
  go_ret
  exact ⟨_, rfl, II.nil _⟩
set_option maxRecDepth 8000 in
theorem rheld_nil (w : World) (g : Int) : Calls Tryz.prog 46 #[.pointer none, .int .i64 g] w fun e w' => ∃ v1 v2, e = .returned (.tuple #[v1, v2]) ∧ Hl w w' v1 v2 [] [] := by
  go_enter Tryz.func46, Tryz.ntmps46
  go_wp2
  go_ret2
  exact ⟨_, _, rfl, Own.nil _ _ _ _, Own.nil _ _ _ _, Below.refl _ _⟩
set_option maxRecDepth 8000 in
theorem ralive_nil (w : World) : Calls Tryz.prog 51 #[.pointer none] w fun e w' => ∃ v, e = .returned v ∧ II w w' v [] := by
  go_enter Tryz.func51, Tryz.ntmps51
  go_wp2
  go_ret
  exact ⟨_, rfl, II.nil _⟩
section
variable {w wr w' : World} {S : Nat → Prop} {o r : Value}
theorem PrV.ask (h : PrV w wr S o r) : ∃ K D A, Ask wr o r K D A := by
  rcases h with ⟨rfl, rfl, _⟩ | ⟨cb, rb, M, qs, rfl, rfl, h⟩
  · exact ⟨fun _ => [], fun _ => [], [], fun X g _ _ _ => held_nil X g, fun X g _ _ _ => rheld_nil X g, fun X _ => alive_nil X, fun X _ => ralive_nil X, fun _ => ⟨by decide, rfl⟩, by decide⟩
  · obtain ⟨B, F, vt, h1, h2, h3, h4, h5, h6⟩ := h.mem
    have hL := h.rch.lkL
    have hU : ∀ x ∈ qs.map me, IsU x.o := fun x hx => by
      obtain ⟨f, hf, rfl⟩ := List.mem_map.1 hx
      have := (h.eb f hf).ok
      exact ⟨this.o0, this.o1⟩
    have hq : (qs.length : Int) ≤ 1048576 := by have := h.tk; have := h.le; omega
    have hal : ∀ x ∈ aliveK M, 0 ≤ x ∧ x ≤ 65535 := fun x hx => by
      have h9 : has x M.alive = true := by
        obtain ⟨p, hp, rfl⟩ := List.mem_map.1 hx
        exact has_of_mem hp
      rw [h.rch.lkG.al] at h9
      have h8 := h.rch.lkG.bg x
      cases hg : M.gs x with
      | none => rw [hg] at h8; rw [← h8] at h9; cases h9
      | some r => exact (h.inv.gor x r hg).1
    have hfa : ((aliveK M).length : Int) ≤ 2000000 := by
      have := h.inv.al
      have := h.le
      show ((M.alive.map (·.1)).length : Int) ≤ 2000000
      rw [List.length_map]; omega
    refine ⟨heldK M, fun g => (heldK M g).map M.toWrite, aliveK M, fun X g hX g0 g1 => Held_any (h1.below hX) h.inv g g0 g1 (fun r hgr => held_u hL hU hgr), fun X g hX g0 g1 => ?_, fun X hX => Alive_any (h1.below hX) h.inv hal, fun X hX => ?_, fun g => ⟨held_few h.inv h.le g, List.length_map ..⟩, hfa⟩
    · have h9 := h3.on hX
      obtain ⟨ta, tc, rfl, hrow, _⟩ := h9.row
      exact rHeld_any rb ta qs.length tc qs X (cell_at h9.wc rfl) hrow hq h.eb h.rch g (held_few h.inv h.le g)
    · have h9 := h3.on hX
      obtain ⟨ta, tc, rfl, hrow, _⟩ := h9.row
      exact rAlive_any rb ta qs.length tc qs X (cell_at h9.wc rfl) hrow hq h.eb h.rch hfa
end
/-- Three lists of one's own, written over. -/
structure Ld (base : Nat) (V wr : World) (a0 x0 l0 : Option Nat) (va vx vl : Value) (na nx nl : Nat) : Prop where
  oa : ∃ L : List Int, L.length = na ∧ Own layU 33 wr base va L
  ox : ∃ L : List Bool, L.length = nx ∧ Own layBo 4 wr base vx L
  ol : ∃ L : List Int, L.length = nl ∧ Own layI 3 wr base vl L
  ka : ∀ k, va.ownBlock = some k → a0 = some k ∨ V.heap.size ≤ k
  kx : ∀ k, vx.ownBlock = some k → x0 = some k ∨ V.heap.size ≤ k
  kl : ∀ k, vl.ownBlock = some k → l0 = some k ∨ V.heap.size ≤ k
  bt : But (fun k => a0 = some k ∨ x0 = some k ∨ l0 = some k) V wr
  bs : base ≤ wr.heap.size
section
variable {base : Nat} {V wr w' : World} {a0 x0 l0 : Option Nat} {va vx vl : Value} {na nx nl : Nat}
theorem Ld.on (h : Ld base V wr a0 x0 l0 va vx vl na nx nl) (hb : Below wr.heap.size wr w') : Ld base V w' a0 x0 l0 va vx vl na nx nl := by
  obtain ⟨⟨L1, e1, h1⟩, ⟨L2, e2, h2⟩, ⟨L3, e3, h3⟩, k1, k2, k3, bt, bs⟩ := h
  exact ⟨⟨L1, e1, h1.below hb⟩, ⟨L2, e2, h2.below hb⟩, ⟨L3, e3, h3.below hb⟩, k1, k2, k3, bt.on hb, Nat.le_trans bs hb.size⟩
theorem Ld.setA {g c j : Nat} (h : Ld base V wr a0 x0 l0 (.slice (some ⟨g, 0, none⟩) na c) vx vl na nx nl) (hj : j < na) (y : Int) : Ld base V (wr.setCell ⟨g, j, none⟩ (.int .u64 y)) a0 x0 l0 (.slice (some ⟨g, 0, none⟩) na c) vx vl na nx nl := by
  obtain ⟨⟨L1, e1, h1⟩, ⟨L2, e2, h2⟩, ⟨L3, e3, h3⟩, k1, k2, k3, bt, bs⟩ := h
  have hx : vx.ownBlock ≠ some g := fun e => E6.own_ne h1 h2 (by decide) g rfl e
  have hl : vl.ownBlock ≠ some g := fun e => E6.own_ne h1 h3 (by decide) g rfl e
  have hg : L1[j]? = some L1[j] := List.getElem?_eq_getElem (by omega)
  have h4 := h1.setU e1 (t := 0) (a' := y) (u := .int .u64 y) hg (by decide) rfl
  have h5 : Own layU 33 (wr.setCell ⟨g, j, none⟩ (.int .u64 y)) base (.slice (some ⟨g, 0, none⟩) na c) (L1.set j y) := by
    have h6 : Own layU 33 (wr.setCell ⟨g, j * 1 + 0, none⟩ (.int .u64 y)) base (.slice (some ⟨g, 0, none⟩) na c) (L1.set j y) := h4
    rw [Nat.mul_one, Nat.add_zero] at h6
    exact h6
  refine ⟨⟨_, by rw [List.length_set]; exact e1, h5⟩, ⟨L2, e2, ownsRow_setCell_other h2 (a := ⟨g, j, none⟩) hx _⟩, ⟨L3, e3, ownsRow_setCell_other h3 (a := ⟨g, j, none⟩) hl _⟩, k1, k2, k3, bt.setCell ⟨g, j, none⟩ (fun hlt => ?_) _, by simpa [World.setCell] using bs⟩
  rcases k1 g rfl with e | e
  · exact .inl e
  · exact absurd hlt (by show ¬ g < V.heap.size; omega)
theorem Ld.setX {g c j : Nat} (h : Ld base V wr a0 x0 l0 va (.slice (some ⟨g, 0, none⟩) nx c) vl na nx nl) (hj : j < nx) (y : Bool) : Ld base V (wr.setCell ⟨g, j, none⟩ (.bool y)) a0 x0 l0 va (.slice (some ⟨g, 0, none⟩) nx c) vl na nx nl := by
  obtain ⟨⟨L1, e1, h1⟩, ⟨L2, e2, h2⟩, ⟨L3, e3, h3⟩, k1, k2, k3, bt, bs⟩ := h
  have hx : va.ownBlock ≠ some g := fun e => E6.own_ne h2 h1 (by decide) g rfl e
  have hl : vl.ownBlock ≠ some g := fun e => E6.own_ne h2 h3 (by decide) g rfl e
  have hg : L2[j]? = some L2[j] := List.getElem?_eq_getElem (by omega)
  have h4 := h2.setU e2 (t := 0) (a' := y) (u := .bool y) hg (by decide) rfl
  have h5 : Own layBo 4 (wr.setCell ⟨g, j, none⟩ (.bool y)) base (.slice (some ⟨g, 0, none⟩) nx c) (L2.set j y) := by
    have h6 : Own layBo 4 (wr.setCell ⟨g, j * 1 + 0, none⟩ (.bool y)) base (.slice (some ⟨g, 0, none⟩) nx c) (L2.set j y) := h4
    rw [Nat.mul_one, Nat.add_zero] at h6
    exact h6
  refine ⟨⟨L1, e1, ownsRow_setCell_other h1 (a := ⟨g, j, none⟩) hx _⟩, ⟨_, by rw [List.length_set]; exact e2, h5⟩, ⟨L3, e3, ownsRow_setCell_other h3 (a := ⟨g, j, none⟩) hl _⟩, k1, k2, k3, bt.setCell ⟨g, j, none⟩ (fun hlt => ?_) _, by simpa [World.setCell] using bs⟩
  rcases k2 g rfl with e | e
  · exact .inr (.inl e)
  · exact absurd hlt (by show ¬ g < V.heap.size; omega)
theorem Ld.setL {g c j : Nat} (h : Ld base V wr a0 x0 l0 va vx (.slice (some ⟨g, 0, none⟩) nl c) na nx nl) (hj : j < nl) (y : Int) : Ld base V (wr.setCell ⟨g, j, none⟩ (.int .i64 y)) a0 x0 l0 va vx (.slice (some ⟨g, 0, none⟩) nl c) na nx nl := by
  obtain ⟨⟨L1, e1, h1⟩, ⟨L2, e2, h2⟩, ⟨L3, e3, h3⟩, k1, k2, k3, bt, bs⟩ := h
  have ha : va.ownBlock ≠ some g := fun e => E6.own_ne h3 h1 (by decide) g rfl e
  have hx : vx.ownBlock ≠ some g := fun e => E6.own_ne h3 h2 (by decide) g rfl e
  have hg : L3[j]? = some L3[j] := List.getElem?_eq_getElem (by omega)
  have h4 := h3.setU e3 (t := 0) (a' := y) (u := .int .i64 y) hg (by decide) rfl
  have h5 : Own layI 3 (wr.setCell ⟨g, j, none⟩ (.int .i64 y)) base (.slice (some ⟨g, 0, none⟩) nl c) (L3.set j y) := by
    have h6 : Own layI 3 (wr.setCell ⟨g, j * 1 + 0, none⟩ (.int .i64 y)) base (.slice (some ⟨g, 0, none⟩) nl c) (L3.set j y) := h4
    rw [Nat.mul_one, Nat.add_zero] at h6
    exact h6
  refine ⟨⟨L1, e1, ownsRow_setCell_other h1 (a := ⟨g, j, none⟩) ha _⟩, ⟨L2, e2, ownsRow_setCell_other h2 (a := ⟨g, j, none⟩) hx _⟩, ⟨_, by rw [List.length_set]; exact e3, h5⟩, k1, k2, k3, bt.setCell ⟨g, j, none⟩ (fun hlt => ?_) _, by simpa [World.setCell] using bs⟩
  rcases k3 g rfl with e | e
  · exact .inr (.inr e)
  · exact absurd hlt (by show ¬ g < V.heap.size; omega)
theorem Ld.pushA {v' : Value} {L : List Int} {y : Int} (h : Ld base V wr a0 x0 l0 va vx vl na nx nl) (hl : L.length = na) (o2 : Own layU 33 w' base v' (L ++ [y])) (g2 : wr.grownBy w' va.ownBlock) (l2 : v'.ownBlock = va.ownBlock ∨ v'.ownBlock = some wr.heap.size) : Ld base V w' a0 x0 l0 v' vx vl (na + 1) nx nl := by
  obtain ⟨⟨L1, e1, h1⟩, ⟨L2, e2, h2⟩, ⟨L3, e3, h3⟩, k1, k2, k3, bt, bs⟩ := h
  have hB : But (fun k => va.ownBlock = some k) wr w' := But.of_grown g2 (fun k e => e)
  refine ⟨⟨_, by rw [List.length_append, hl]; rfl, o2⟩, ⟨L2, e2, h2.but hB (E6.own_ne h2 h1 (by decide))⟩, ⟨L3, e3, h3.but hB (E6.own_ne h3 h1 (by decide))⟩, fun k hk => ?_, k2, k3, bt.grown g2 (fun k hk e => ?_), Nat.le_trans bs hB.size⟩
  · rcases l2 with e | e
    · exact k1 k (e ▸ hk)
    · rw [e] at hk; cases hk; exact .inr bt.size
  · rcases k1 k e with q | q
    · exact .inl q
    · omega
theorem Ld.pushX {v' : Value} {L : List Bool} {y : Bool} (h : Ld base V wr a0 x0 l0 va vx vl na nx nl) (hl : L.length = nx) (o2 : Own layBo 4 w' base v' (L ++ [y])) (g2 : wr.grownBy w' vx.ownBlock) (l2 : v'.ownBlock = vx.ownBlock ∨ v'.ownBlock = some wr.heap.size) : Ld base V w' a0 x0 l0 va v' vl na (nx + 1) nl := by
  obtain ⟨⟨L1, e1, h1⟩, ⟨L2, e2, h2⟩, ⟨L3, e3, h3⟩, k1, k2, k3, bt, bs⟩ := h
  have hB : But (fun k => vx.ownBlock = some k) wr w' := But.of_grown g2 (fun k e => e)
  refine ⟨⟨L1, e1, h1.but hB (E6.own_ne h1 h2 (by decide))⟩, ⟨_, by rw [List.length_append, hl]; rfl, o2⟩, ⟨L3, e3, h3.but hB (E6.own_ne h3 h2 (by decide))⟩, k1, fun k hk => ?_, k3, bt.grown g2 (fun k hk e => ?_), Nat.le_trans bs hB.size⟩
  · rcases l2 with e | e
    · exact k2 k (e ▸ hk)
    · rw [e] at hk; cases hk; exact .inr bt.size
  · rcases k2 k e with q | q
    · exact .inr (.inl q)
    · omega
theorem Ld.pushL {v' : Value} {L : List Int} {y : Int} (h : Ld base V wr a0 x0 l0 va vx vl na nx nl) (hl : L.length = nl) (o2 : Own layI 3 w' base v' (L ++ [y])) (g2 : wr.grownBy w' vl.ownBlock) (l2 : v'.ownBlock = vl.ownBlock ∨ v'.ownBlock = some wr.heap.size) : Ld base V w' a0 x0 l0 va vx v' na nx (nl + 1) := by
  obtain ⟨⟨L1, e1, h1⟩, ⟨L2, e2, h2⟩, ⟨L3, e3, h3⟩, k1, k2, k3, bt, bs⟩ := h
  have hB : But (fun k => vl.ownBlock = some k) wr w' := But.of_grown g2 (fun k e => e)
  refine ⟨⟨L1, e1, h1.but hB (E6.own_ne h1 h3 (by decide))⟩, ⟨L2, e2, h2.but hB (E6.own_ne h2 h3 (by decide))⟩, ⟨_, by rw [List.length_append, hl]; rfl, o2⟩, k1, k2, fun k hk => ?_, bt.grown g2 (fun k hk e => ?_), Nat.le_trans bs hB.size⟩
  · rcases l2 with e | e
    · exact k3 k (e ▸ hk)
    · rw [e] at hk; cases hk; exact .inr bt.size
  · rcases k3 k e with q | q
    · exact .inr (.inr q)
    · omega
end
/-- A list of one's own stays where others are written. -/
theorem Own.rowB {α : Type} {y : Lay α} {e : TypeId} {S : Nat → Prop} {w w' : World} {base n c : Nat} {a : Option Addr} {L : List α} (h : Own y e w base (.slice a n c) L) (hl : L.length = n) (hb : But S w w') (hS : ∀ k, base ≤ k → k < w.heap.size → ¬ S k) : TRow y w' a n L := by
  have h1 : Own y e w' base (.slice a n c) L := h.but hb (fun k hk => hS k (h.lt k hk).1 (h.lt k hk).2)
  exact h1.row hl
end Go.Proofs.YtafkammiehcdjaaGreatDoor
