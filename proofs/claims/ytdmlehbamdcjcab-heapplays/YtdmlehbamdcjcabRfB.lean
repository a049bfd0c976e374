/-
  The document's heap: New, Push, Peek, Pop, Len, Sorted.
-/
import Derived.Test.YtdmlehbamdcjcabRfA
namespace Go.Proofs.Ytdmlehbamdcjcab
open Go.RowKit
/-- The document's heap at q: a list in its order. -/
structure Rr (w : World) (q : Nat) (a : Option Addr) (c : Nat) (L : List It) : Prop where
  hp : w.heap[q]? = some (.cells #[.slice a L.length c] 64 (0, 0))
  row : TRow layI w a L.length L
  nil : a = none → L.length = 0 ∧ c = 0
  cap : L.length ≤ c
  ty : ∀ ad, a = some ad → ∃ b off cur fr, ad = ⟨b, off, none⟩ ∧ w.heap[b]? = some (.cells cur 28 fr)
def Rq (w : World) (q : Nat) (L : List It) : Prop := ∃ a c, Rr w q a c L
theorem TRow.but {α : Type} {y : Lay α} {S : Nat → Prop} {w w' : World} {b off n : Nat} {L : List α} (h : TRow y w (some ⟨b, off, none⟩) n L) (hb : But S w w') (hlt : b < w.heap.size) (hs : ¬ S b) : TRow y w' (some ⟨b, off, none⟩) n L := by
  refine ⟨h.len, h.cells.imp id ?_⟩
  rintro ⟨b', off', ha, hc⟩
  cases ha
  refine ⟨b, off, rfl, fun i r hr t u hu => ?_⟩
  exact (World.cell?_of_block (a := ⟨b, off + i * y.z + t, none⟩) (hb.block b hlt hs)).trans (hc i r hr t u hu)
theorem Rr.but {S : Nat → Prop} {w w' : World} {q c : Nat} {a : Option Addr} {L : List It} (h : Rr w q a c L) (hb : But S w w') (hq : ¬ S q) (hS : ∀ b cur fr, w.heap[b]? = some (.cells cur 28 fr) → ¬ S b) : Rr w' q a c L := by
  refine ⟨(hb.block q (Array.getElem?_eq_some_iff.1 h.hp).1 hq).trans h.hp, ?_, h.nil, h.cap, fun ad had => ?_⟩
  · cases a with
    | none => exact ⟨rfl, .inl (h.nil rfl).1⟩
    | some ad =>
      obtain ⟨b, off, cur, fr, rfl, hbb⟩ := h.ty ad rfl
      exact h.row.but hb (Array.getElem?_eq_some_iff.1 hbb).1 (hS b cur fr hbb)
  · obtain ⟨b, off, cur, fr, e, hbb⟩ := h.ty ad had
    exact ⟨b, off, cur, fr, e, (hb.block b (Array.getElem?_eq_some_iff.1 hbb).1 (hS b cur fr hbb)).trans hbb⟩
theorem Rq.but {S : Nat → Prop} {w w' : World} {q : Nat} {L : List It} (h : Rq w q L) (hb : But S w w') (hq : ¬ S q) (hS : ∀ b cur fr, w.heap[b]? = some (.cells cur 28 fr) → ¬ S b) : Rq w' q L := by
  obtain ⟨a, c, h⟩ := h
  exact ⟨a, c, h.but hb hq hS⟩
theorem Rq.lt {w : World} {q : Nat} {L : List It} (h : Rq w q L) : q < w.heap.size := by
  obtain ⟨a, c, h⟩ := h
  exact (Array.getElem?_eq_some_iff.1 h.hp).1
theorem Rr.below {w w' : World} {q c : Nat} {a : Option Addr} {L : List It} (h : Rr w q a c L) (hb : Below w.heap.size w w') : Rr w' q a c L :=
  h.but (S := fun _ => False) (But.of_below hb) (fun e => e) (fun _ _ _ _ e => e)
theorem r9new (w : World) : Calls Try.prog 18 #[] w fun r w' => r = .returned (.pointer (some ⟨w.heap.size, 0, none⟩)) ∧ Rq w' w.heap.size [] ∧ Below w.heap.size w w' := by
  go_enter Try.func18, Try.ntmps18
  go_wp2
  go_ret
  exact ⟨rfl, ⟨none, 0, ⟨heap_new _ _, TRow.nil _ _ _, fun _ => ⟨rfl, rfl⟩, Nat.le_refl _, fun ad e => by cases e⟩⟩, below_alloc1 _ _⟩
theorem r9len {w : World} {q : Nat} {L : List It} (h : Rq w q L) : Calls Try.prog 31 #[.pointer (some ⟨q, 0, none⟩)] w fun r w' => r = .returned (.int .i64 L.length) ∧ w' = w := by
  obtain ⟨a, c, h⟩ := h
  have c0 : w.cell? ⟨q, 0, none⟩ = some (.slice a L.length c) := cell_at h.hp rfl
  clear h
  go_enter Try.func31, Try.ntmps31
  go_wp2
  go_ret
  exact ⟨rfl, rfl⟩
theorem r9len_nil (w : World) : Calls Try.prog 31 #[.pointer none] w fun r w' => r = .returned (.int .i64 0) ∧ w' = w := by
  go_enter Try.func31, Try.ntmps31
  go_wp2
  go_ret
  exact ⟨rfl, rfl⟩
theorem r9push_nil (x : It) (w : World) : Calls Try.prog 28 #[.pointer none, .agg #[.int .i64 x.k, .int .i64 x.t]] w fun r w' => r = .returned (.int .i64 1) ∧ Below w.heap.size w w' := by
  obtain ⟨xk, xt⟩ := x
  go_enter Try.func28, Try.ntmps28
  go_wp2
  go_ret
  exact ⟨rfl, below_alloc1 _ _⟩
theorem rput (w : World) (a : Option Addr) (n c : Nat) (L : List It) (x : It) (hr : TRow layI w a n L) (h0 : a = none → n = 0 ∧ c = 0) (ha : ∀ ad, a = some ad → ∃ b off, ad = ⟨b, off, none⟩) (hc : n ≤ c) (hs : Srt bfI L) (hl : (n : Int) + 1 ≤ 5000000000000) :
    Calls Try.prog 39 #[.slice a n c, .agg #[.int .i64 x.k, .int .i64 x.t]] w fun r w' => ∃ v, r = .returned v ∧ Own layI 28 w' w.heap.size v (ins bfI x L) ∧ Below w.heap.size w w' := by
  cases a with
  | none =>
    obtain ⟨rfl, rfl⟩ := h0 rfl
    have e := List.length_eq_zero_iff.1 hr.len
    subst e
    exact rput0 w x
  | some ad =>
    obtain ⟨b, off, rfl⟩ := ha ad rfl
    exact rput1 w b off n c L x hr hc hs hl
theorem own_rr {w w' : World} {base q c n : Nat} {a : Option Addr} {L : List It} (h : Own layI 28 w base (.slice a n c) L) (hn : L.length = n) (hq : w'.heap[q]? = some (.cells #[.slice a n c] 64 (0, 0))) (hb : But (fun k => k = q) w w') (hqw : ∀ cur fr, w.heap[q]? ≠ some (.cells cur 28 fr)) : Rr w' q a c L := by
  subst hn
  obtain ⟨a', c', hv, h0, hc⟩ := own_form h
  injection hv with e1 e2 e3
  subst e1 e3
  have hty : ∀ ad, a = some ad → ∃ b off cur fr, ad = ⟨b, off, none⟩ ∧ w.heap[b]? = some (.cells cur 28 fr) := by
    intro ad had
    rcases h.2 with ⟨e, _⟩ | ⟨g, cap, cur, e, _, hg, _⟩
    · injection e with e1 _ _; rw [had] at e1; cases e1
    · injection e with e1 _ _; rw [had] at e1; injection e1 with e1; exact ⟨g, 0, cur, (0, 0), e1, hg⟩
  have hrow := h.row rfl
  refine ⟨hq, ?_, h0, hc, fun ad had => ?_⟩
  · cases a with
    | none => exact ⟨rfl, .inl (h0 rfl).1⟩
    | some ad =>
      obtain ⟨b, off, cur, fr, rfl, hbb⟩ := hty ad rfl
      exact hrow.but hb (Array.getElem?_eq_some_iff.1 hbb).1 (fun e => hqw cur fr (by rw [← (e : b = q)]; exact hbb))
  · obtain ⟨b, off, cur, fr, e, hbb⟩ := hty ad had
    exact ⟨b, off, cur, fr, e, (hb.block b (Array.getElem?_eq_some_iff.1 hbb).1 (fun e => hqw cur fr (by rw [← (e : b = q)]; exact hbb))).trans hbb⟩
set_option maxRecDepth 8000 in
set_option maxHeartbeats 1600000 in
theorem r9push (w : World) (q : Nat) (L : List It) (x : It) (h : Rq w q L) (hs : Srt bfI L) (hl : (L.length : Int) + 1 ≤ 5000000000000) :
    Calls Try.prog 28 #[.pointer (some ⟨q, 0, none⟩), .agg #[.int .i64 x.k, .int .i64 x.t]] w fun r w' => r = .returned (.int .i64 0) ∧ Rq w' q (ins bfI x L) ∧ But (fun k => k = q) w w' := by
  obtain ⟨xk, xt⟩ := x
  obtain ⟨a, c, h⟩ := h
  obtain ⟨w1, hw1⟩ : ∃ w1, w1 = (w.alloc (.cells #[.int .i64 xk, .int .i64 xt] 28)).drew := ⟨_, rfl⟩
  have hb1 : Below w.heap.size w w1 := by rw [hw1]; exact (below_alloc1 _ _).drew
  have hs1 : w.heap.size < w1.heap.size := by rw [hw1]; simp
  have r1 : w1.heap[w.heap.size]? = some (.cells #[.int .i64 xk, .int .i64 xt] 28 (0, 0)) := by rw [hw1]; exact heap_new _ _
  have h1 := h.below hb1
  have hq : q < w.heap.size := (Array.getElem?_eq_some_iff.1 h.hp).1
  have q0 : w1.cell? ⟨q, 0, none⟩ = some (.slice a L.length c) := cell_at h1.hp rfl
  have PU := rput w1 a L.length c L ⟨xk, xt⟩ h1.row h1.nil (fun ad had => by obtain ⟨b, off, _, _, e, _⟩ := h1.ty ad had; exact ⟨b, off, e⟩) h1.cap hs hl
  have K1 : Hid (w1.cell? ⟨w.heap.size, 0, none⟩ = some (.int .i64 xk) ∧ w1.cell? ⟨w.heap.size, 1, none⟩ = some (.int .i64 xt)) := hide ⟨cell_at r1 rfl, cell_at r1 rfl⟩
  have H1 : Hid _ := hide h1
  have HW1 : Hid _ := hide hw1
  have HB1 : Hid _ := hide hb1
  have hq1 : q < w1.heap.size := by omega
  clear h h1 hw1 hb1 r1 hs
  go_enter Try.func28, Try.ntmps28
  go_wp2_with fail
  refine wp_region_noPanic ?_
  have hf : Try.prog.follows .mixedOrders = true := by kernel_rfl
  refine wp_region_held_drew (S := fun X => X.cell? ⟨w.heap.size, 0, none⟩ = some (.int .i64 xk) ∧ X.cell? ⟨w.heap.size, 1, none⟩ = some (.int .i64 xt)) hf (by rw [← HW1.out]; exact K1.out) (fun hHeld => ?_)
  rw [← HW1.out] at hHeld ⊢
  refine wpAnyH_take (i := 0) (oi := _) (v := ?v0) rfl (by kernel_rfl) (by kernel_rfl) (by kernel_rfl) (fun _ _ _ h => h) (Or.inl ⟨by rfl, ?y0⟩) (by assumption) ?r0
  case y0 => (intro w' hSw; (try dsimp only at hSw); go_simp; try with_reducible rfl)
  refine wpAnyH_take (i := 1) (oi := _) (v := ?v1) rfl (by kernel_rfl) (by kernel_rfl) (by kernel_rfl) (fun _ _ _ h => h) (Or.inl ⟨by rfl, ?y1⟩) (by assumption) ?r1
  case y1 => (intro w' hSw; (try dsimp only at hSw); go_simp; try with_reducible rfl)
  refine wpAnyH_take (i := 2) (oi := _) (v := ?v2) rfl (by kernel_rfl) (by kernel_rfl) (by kernel_rfl) (fun _ _ _ h => h) (Or.inl ⟨by rfl, ?y2⟩) (by assumption) ?r2
  case y2 => (intro w' hSw; (try dsimp only at hSw); go_simp; try with_reducible rfl)
  refine wpAnyH_take (i := 3) (oi := _) (v := ?v3) rfl (by kernel_rfl) (by kernel_rfl) (by kernel_rfl) (fun _ _ _ h => h) (Or.inl ⟨by rfl, ?y3⟩) (by assumption) ?r3
  case y3 => (intro w' hSw; (try dsimp only at hSw); go_simp; try with_reducible rfl)
  refine wpAnyH_take (i := 5) (oi := _) (v := ?v5) rfl (by kernel_rfl) (by kernel_rfl) (by kernel_rfl) (fun _ _ _ h => h) (Or.inl ⟨by rfl, ?y5⟩) (by assumption) ?r5
  case y5 => (intro w' hSw; (try dsimp only at hSw); go_simp; try with_reducible rfl)
  refine wpAnyH_ready (rs := [4]) (by kernel_rfl) (by simp) ?_
  refine AllReadyH.cons (o := _) rfl (fun KK hKK => ?_) AllReadyH.nil
  go_simp
  refine hKK.out _ _ K1.out (fun hHeld4 => ?_)
  clear hKK KK
  refine wpAnyH_ready (rs := [6]) (by kernel_rfl) (by simp) ?_
  refine AllReadyH.cons (o := _) rfl (fun KK hKK => ?_) AllReadyH.nil
  go_simp
  refine PU.mono ?_
  rintro r w2 ⟨v2, rfl, O2, B2⟩
  have K2 : w2.cell? ⟨w.heap.size, 0, none⟩ = some (.int .i64 xk) ∧ w2.cell? ⟨w.heap.size, 1, none⟩ = some (.int .i64 xt) := ⟨(B2.cell (p := ⟨w.heap.size, 0, none⟩) hs1).trans K1.out.1, (B2.cell (p := ⟨w.heap.size, 1, none⟩) hs1).trans K1.out.2⟩
  obtain ⟨a2, c2, hv2, _, _⟩ := own_form O2
  subst hv2
  refine hKK.out _ _ K2 (fun hHeld6 => ?_)
  clear hKK KK
  refine wpAnyH_take (i := 7) (oi := _) (v := ?v7) rfl (by kernel_rfl) (by kernel_rfl) (by kernel_rfl) (fun _ _ _ h => h) (Or.inl ⟨by rfl, ?y7⟩) (by assumption) ?r7
  case y7 => (intro w' hSw; (try dsimp only at hSw); go_simp; try with_reducible rfl)
  refine wpAnyH_take (i := 8) (oi := _) (v := ?v8) rfl (by kernel_rfl) (by kernel_rfl) (by kernel_rfl) (fun _ _ _ h => h) (Or.inl ⟨by rfl, ?y8⟩) (by assumption) ?r8
  case y8 => (intro w' hSw; (try dsimp only at hSw); go_simp; try with_reducible rfl)
  refine wpAnyH_ready (rs := [9]) (by kernel_rfl) (by simp) ?_
  refine AllReadyH.cons (o := _) rfl (fun KK hKK => ?_) AllReadyH.nil
  have H2 := (B2.block q hq1).trans H1.out.hp
  have r0 : w2.cell? ⟨q, 0, none⟩ = some (.slice a L.length c) := cell_at H2 rfl
  have fz := frz H2 0
  have hpw : ¬ q = w.heap.size := by omega
  have hwp : ¬ w.heap.size = q := by omega
  go_simp
  refine hKK.out _ _ (by obtain ⟨k0, k1⟩ := K2; go_simp) (fun hHeld10 => ?_)
  clear hKK KK hHeld10 hHeld4 hHeld6 hHeld K2
  refine wpAnyH_done (by kernel_rfl) ?_ _
  refine NoPanic.normal ?_
  have B4 : But (fun k => k = q) w2 (w2.setCell ⟨q, 0, none⟩ (.slice a2 (ins bfI ⟨xk, xt⟩ L).length c2)) := (But.refl (fun k => k = q) w2).setCell ⟨q, 0, none⟩ (fun _ => rfl) _
  have H4 : (w2.setCell ⟨q, 0, none⟩ (.slice a2 (ins bfI ⟨xk, xt⟩ L).length c2)).heap[q]? = some (.cells #[.slice a2 (ins bfI ⟨xk, xt⟩ L).length c2] 64 (0, 0)) := set1_heap _ H2
  have R4 : Hid _ := hide (own_rr O2 rfl H4 B4 (fun cur fr e => by rw [H2] at e; injection e with e; injection e with _ e _; exact absurd e (by decide)))
  have HB4 : Hid _ := hide (((But.of_below HB1.out).on B2).trans B4 (fun _ _ e => e))
  clear r0 fz O2 B4 H4 H2 B2 PU
  go_wp2
  go_ret
  exact ⟨rfl, ⟨a2, c2, R4.out⟩, HB4.out⟩
end Go.Proofs.Ytdmlehbamdcjcab
