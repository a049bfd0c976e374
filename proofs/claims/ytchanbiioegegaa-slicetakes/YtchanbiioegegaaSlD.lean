/-
  Slices: Prefix, places, taken, Take.
-/
import Derived.Test.YtchanbiioegegaaSlC
namespace Go.Proofs.Ytchanbiioegegaa
open Go.RowKit Go.Maps
set_option linter.unusedVariables false
theorem sInfoI : (Try.prog.info? 3).map (fun i => (i.zero, i.size, i.bytes)) = some (some (.int .i64 0), 1, 8) := by kernel_rfl
/-- What an event that was made own keeps to. -/
def Ok1 (w0 w : World) (e f : E6.Ev) : Prop := e.twin f ∧ f.ls.length ≤ f.sc ∧ (f.sa = none → f.ls.length = 0 ∧ f.sc = 0) ∧ w.ownsRow w0.heap.size 9 1 (.slice f.sa f.ls.length f.sc) f.ls.length (f.ls.map Value.string)
/-- A made row, the first j of whose events are set. -/
structure Mk (w0 wr : World) (L : List E6.Ev) (n j b : Nat) (fs : List E6.Ev) : Prop where
  len : fs.length = n
  own : Own sE 38 wr w0.heap.size (.slice (some ⟨b, 0, none⟩) n n) fs
  each : ∀ i f, i < j → fs[i]? = some f → ∃ e, L[i]? = some e ∧ Ok1 w0 wr e f
  bel : Below w0.heap.size w0 wr
section
variable {w0 wr w2 w3 : World} {L fs : List E6.Ev} {n j b : Nat} {e f : E6.Ev}
theorem Ok1.but {S : Nat → Prop} (h : Ok1 w0 wr e f) (hb : But S wr w2) (hS : ∀ q cur, S q → wr.heap[q]? = some (.cells cur 9 (0, 0)) → False) : Ok1 w0 w2 e f := by
  obtain ⟨h1, h2, h3, h4⟩ := h
  refine ⟨h1, h2, h3, own_but h4 hb (fun g hg hs => ?_)⟩
  rcases h4.2 with ⟨hv, _⟩ | ⟨g1, c1, cur, hv, _, hh, _⟩
  · rw [hv] at hg; simp [Value.ownBlock] at hg
  · rw [hv] at hg
    have e1 : g1 = g := by simpa [Value.ownBlock] using hg
    subst e1
    exact hS g1 cur hs hh
theorem Ok1.on (h : Ok1 w0 wr e f) (hb : Below wr.heap.size wr w2) : Ok1 w0 w2 e f := h.but (S := fun _ => False) (But.of_below hb) (fun _ _ e _ => e)
theorem Mk.start {z : List Value} (hz : z = sE.fl (List.replicate n nE)) (ho : w2.ownsRow w0.heap.size 38 5 (.slice (some ⟨b, 0, none⟩) n n) n z) (hb : Below w0.heap.size w0 w2) : Mk w0 w2 L n 0 b (List.replicate n nE) :=
  ⟨List.length_replicate, by unfold Own; rw [List.length_replicate, ← hz]; exact ho, fun i f hi => absurd hi (Nat.not_lt_zero _), hb⟩
theorem Mk.on (h : Mk w0 wr L n j b fs) (hb : Below wr.heap.size wr w2) : Mk w0 w2 L n j b fs :=
  ⟨h.len, h.own.below hb, fun i f hi hf => by obtain ⟨e, h1, h2⟩ := h.each i f hi hf; exact ⟨e, h1, h2.on hb⟩, h.bel.trans (hb.mono h.bel.size)⟩
theorem Mk.row (h : Mk w0 wr L n j b fs) : ∃ cur, wr.heap[b]? = some (.cells cur 38 (0, 0)) := own_ty h.own rfl
theorem Mk.ge (h : Mk w0 wr L n j b fs) : w0.heap.size ≤ b := (h.own.lt b rfl).1
/-- One more is set. -/
theorem Mk.set (h : Mk w0 wr L n j b fs) (hj : j < n) (he : L[j]? = some e) (hf : Ok1 w0 wr e f) :
    Mk w0 (((((wr.setCell ⟨b, j * 5, none⟩ (.int .i64 f.g)).setCell ⟨b, j * 5 + 1, none⟩ (.int .i64 f.k)).setCell ⟨b, j * 5 + 2, none⟩ (.int .u64 f.o)).setCell ⟨b, j * 5 + 3, none⟩ (.int .u64 f.a)).setCell ⟨b, j * 5 + 4, none⟩ (.slice f.sa f.ls.length f.sc)) L n (j + 1) b (fs.set j f) := by
  have hk : But (fun q => q = b) wr (((((wr.setCell ⟨b, j * 5, none⟩ (.int .i64 f.g)).setCell ⟨b, j * 5 + 1, none⟩ (.int .i64 f.k)).setCell ⟨b, j * 5 + 2, none⟩ (.int .u64 f.o)).setCell ⟨b, j * 5 + 3, none⟩ (.int .u64 f.a)).setCell ⟨b, j * 5 + 4, none⟩ (.slice f.sa f.ls.length f.sc)) :=
    But.setC (j := j * 5) (sE.cs f) (But.refl (fun q => q = b) wr) (fun _ => rfl)
  have hS : ∀ q cur, (fun q => q = b) q → wr.heap[q]? = some (.cells cur 9 (0, 0)) → False := fun q cur hq hc => by
    obtain ⟨cur', hc'⟩ := h.row
    have e9 : q = b := hq
    rw [e9, hc'] at hc
    simp at hc
  refine ⟨by rw [List.length_set]; exact h.len, Own.set h.own h.len (by rw [h.len]; exact hj) f, fun i f' hi hf' => ?_, h.bel.trans (hk.below h.bel.size (fun q e9 => by have e8 : q = b := e9; rw [e8]; exact h.ge))⟩
  by_cases hij : i = j
  · subst hij
    rw [List.getElem?_set_self (by rw [h.len]; exact hj)] at hf'
    cases hf'
    exact ⟨e, he, hf.but hk hS⟩
  · rw [List.getElem?_set_ne (fun e9 => hij e9.symm)] at hf'
    obtain ⟨e', h1, h2⟩ := h.each i f' (by omega) hf'
    exact ⟨e', h1, h2.but hk hS⟩
theorem Mk.tw (h : Mk w0 wr L n n b fs) : E6.Tw w0 wr L n fs (.slice (some ⟨b, 0, none⟩) n n) := by
  refine ⟨h.len, ?_, fun i f hf => ?_, h.bel⟩
  · have h1 := h.own
    unfold Own at h1
    rw [h.len] at h1
    rw [ecells_sE]
    exact h1
  · have hi : i < n := by have := (List.getElem?_eq_some_iff.1 hf).1; rw [h.len] at this; exact this
    obtain ⟨e, h1, h2, h3, h4, h5⟩ := h.each i f hi hf
    exact ⟨e, h1, h2, h3, h4, h5⟩
theorem Mk.cells (h : Mk w0 wr L n j b fs) (hj : j < n) : ∃ x : E6.Ev, wr.cell? ⟨b, j * 5, none⟩ = some (.int .i64 x.g) ∧ wr.cell? ⟨b, j * 5 + 1, none⟩ = some (.int .i64 x.k) ∧ wr.cell? ⟨b, j * 5 + 2, none⟩ = some (.int .u64 x.o) ∧ wr.cell? ⟨b, j * 5 + 3, none⟩ = some (.int .u64 x.a) ∧ wr.cell? ⟨b, j * 5 + 4, none⟩ = some (.slice x.sa x.ls.length x.sc) ∧ wr.frozen? ⟨b, j * 5, none⟩ = false ∧ wr.frozen? ⟨b, j * 5 + 1, none⟩ = false ∧ wr.frozen? ⟨b, j * 5 + 2, none⟩ = false ∧ wr.frozen? ⟨b, j * 5 + 3, none⟩ = false ∧ wr.frozen? ⟨b, j * 5 + 4, none⟩ = false := by
  have hx : fs[j]? = some (fs[j]'(by rw [h.len]; exact hj)) := List.getElem?_eq_getElem _
  exact ⟨_, h.own.cell hx 0 rfl, h.own.cell hx 1 rfl, h.own.cell hx 2 rfl, h.own.cell hx 3 rfl, h.own.cell hx 4 rfl, h.own.frozen _, h.own.frozen _, h.own.frozen _, h.own.frozen _, h.own.frozen _⟩
end
theorem made_nE (n : Nat) : (madeCells (Value.agg #[.int .i64 0, .int .i64 0, .int .u64 0, .int .u64 0, .slice none 0 0]).cells (n * 5)).toList = sE.fl (List.replicate n nE) := made_fl sE nE n
set_option maxRecDepth 8000 in
set_option maxHeartbeats 2000000 in
theorem prefix_ok (a : Option Addr) (n c q : Nat) (es : List E6.Ev) (w : World) (hr : E6.ERow w a n es) (hok : ∀ e ∈ es, e.ok) (hn : n * 56 ≤ 140737488355328) (hq : q ≤ n) :
    Calls Try.prog 5 #[.slice a n c, .int .i64 (q : Int)] w fun r w' => ∃ fs v, r = .returned (.tuple #[v, .int .i64 0]) ∧ E6.Tw w w' es q fs v := by
  have HR := hide hr
  have HO := hide hok
  have HN := hide hn
  have h0 : (0 : Int) ≤ q := by omega
  have hqI : (q : Int) ≤ n := by omega
  have hqM : (q : Int) ≤ 9223372036854775806 := by omega
  have d1 : decide ((q : Int) < 0) = false := decide_eq_false (by omega)
  have d2 : decide ((n : Int) < q) = false := decide_eq_false (by omega)
  have d3 : decide (n < q) = false := decide_eq_false (by omega)
  obtain ⟨i0, hi0, hz0, hz1, hz2⟩ := info_parts E6.Try.infoEvent
  clear hr hok hn
  go_enter Try.func5, Try.ntmps5
  go_wp2_with (at_make; refine wpList_make_full _ rfl _ _ 22 rfl w.heap.size 38 i0 (.agg #[.int .i64 0, .int .i64 0, .int .u64 0, .int .u64 0, .slice none 0 0]) 5 Try.underlying22 hi0 hz0 hz1 _ _ _ _ q rfl rfl rfl rfl ?b2 ?b3 (Nat.le_refl _) ?_)
  case b2 => rw [hz2]; have := HN.out; omega
  case b3 => unfold maxLen; have := HN.out; omega
  intro w2 hown2 hgr2
  have HM := hide (Mk.start (w0 := w) (L := es) (made_nE q) hown2 ⟨hgr2.os, hgr2.tape, hgr2.output, hgr2.size, fun k hk => hgr2.block k hk (by simp)⟩)
  generalize w.heap.size = b at HM ⊢
  clear hown2 hgr2 hi0 hz0 hz1 hz2 d1 d2 d3
  go_wp2
  go_loopw [20] (fun s wr => ∃ j : Nat, j ≤ q ∧ s = .int .i64 j ∧ Hid (∃ fs, Mk w wr es q j b fs)) (fun s _ => q - (intOf s).toNat)
  case atStart => exact ⟨0, Nat.zero_le _, rfl, hide ⟨_, HM.out⟩⟩
  case round =>
    obtain ⟨j, hj, rfl, HJ⟩ := hrel
    clear HM
    obtain ⟨fs, hM⟩ := HJ.out
    have HM := hide hM
    clear hM HJ
    by_cases hlt : j < q
    · have hjI : (j : Int) < q := by omega
      have hjn : (j : Int) < n := by omega
      have hj0 : (0 : Int) ≤ j := by omega
      obtain ⟨b0, off, e, ha, hej, c0, c1, c2, c3, c4, hs⟩ := (HR.out.bel HM.out.bel).at (i := j) (by omega)
      have hme := HO.out e (List.mem_of_getElem? hej)
      have HC := hide (own_any e wr hs (by have := hme.len; omega) hme.nil)
      have HE := hide hej
      subst ha
      clear hs hme hej
      go_wp2_with fail
      refine HC.out.mono ?_
      rintro r w3 ⟨sa, sc, rfl, ho, hcap, hnil, hb3⟩
      have HM3 := hide (HM.out.on hb3)
      have HF : Hid (Ok1 w w3 e ⟨e.g, e.k, e.o, e.a, sa, sc, e.ls⟩) := hide ⟨⟨rfl, rfl, rfl, rfl, rfl⟩, hcap, hnil, own_mono ho HM.out.bel.size⟩
      obtain ⟨x, x0, x1, x2, x3, x4, z0, z1, z2, z3, z4⟩ := HM3.out.cells (by omega)
      have HM4 := hide (HM3.out.set (by omega) HE.out HF.out)
      clear ho hcap hnil hb3 HC c0 c1 c2 c3 c4
      go_wp2
      exact ⟨⟨j + 1, by omega, by go_num, hide ⟨_, HM4.out⟩⟩, by simp [intOf]; omega⟩
    · have h9 : j = q := by omega
      subst h9
      have hjI : ¬ (j : Int) < j := by omega
      have HT := hide HM.out.tw
      go_wp2
      go_ret2
      exact ⟨fs, _, rfl, HT.out⟩
end Go.Proofs.Ytchanbiioegegaa
