/-
  A range over a function whose rounds all go on; slices.Backward.
-/
import Derived.Test.YtbflkdbimgakpaaDoorTabC
import Derived.RangeFuncNested
import Derived.RangeFuncBound
import Derived.RangeFuncCalls
import Derived.RangeFuncLeaves
import Derived.Shelf.Abstract
import Derived.Shelf.RegionOpen
import Derived.OwnWalkIn
import Derived.TacticsInMore
import Derived.LoopNIn
import Derived.LoopIn
namespace Go.Proofs.YtbflkdbimgakpaaDoor.E6
open Go.RowKit Go.Maps Go.Shelf
attribute [local go_sem] Oper.semAt_some

/-- A loop over an iterator, its rounds told by their numbers: none leaves. -/
theorem range_rounds {P : Program} {g : Operand} {ps : Array Tmp} {assign body : Code} {Q : Exit → Act → World → Prop} {a : Act} {w : World} {n : Nat} (h1 : 1 ≤ n) {gf : Nat} {lb : Array Value}
    (hg : a.eval g = .func (.func gf) #[] lb) (eg : ∀ args w, (callFunc gf args).run P w = .ok (.enter gf args) w)
    (encs : Nat → Array Value) (N : Nat) (hps : ∀ k, (encs k).size = ps.size) (I : Nat → World → Prop)
    (hI : ∀ (k : Nat) (W : World) (o : Loop) (o' : Obj), I k W → W.heap[w.heap.size + 1]? = some (.loop o) → I k (W.putObj (w.heap.size + 1) o'))
    (h0 : ∀ o : Loop, I 0 ((w.alloc (.deferred (some []))).alloc (.loop o)))
    (hseq : ∀ (l : Nat) (J : Nat → World → Prop) (W : World), (∀ k W, J k W → I k W) →
      (∀ k W1, k < N → J k W1 → YieldAt Fence.wide (n - 1 - 1) P l (encs k) W1 fun e W' => e = .returned (.bool true) ∧ J (k + 1) W') → J 0 W →
      CallsIn Fence.wide (n - 1) P gf (#[.func (.yield l) #[] #[]] ++ lb) W fun e W' => (∃ v, e = .returned v) ∧ J N W')
    (a₁ : Nat → Act)
    (hassign : ∀ (l k : Nat) (W : World) (K : Act → World → Prop), K (a₁ k) W →
      assign.wpIn (Fence.wide.inRound l) (n - 1 - 1) P (Exit.then K (fun _ _ _ => False)) { tmps := (ps.zip (encs k)).foldl (fun t (p, v) => t.setIfInBounds p v) a.tmps, defers := [] } W)
    (hbody : ∀ (l k : Nat) (W : World), k < N → I k W → w.heap.size + 1 < W.heap.size →
      body.wpIn (Fence.wide.inRound l) (n - 1 - 1) P (fun e _ W' => e = .normal ∧ I (k + 1) W' ∧ W'.heap[w.heap.size]? = W.heap[w.heap.size]? ∧ W'.heap[w.heap.size + 1]? = W.heap[w.heap.size + 1]?) (a₁ k) W)
    (hdone : ∀ W : World, I N W → W.heap[w.heap.size]? = some (.deferred (some [])) → Q .normal { a with defers := { target := .collected w.heap.size, args := #[] } :: a.defers } W) :
    (Code.rangeFunc g ps assign body).wpIn Fence.wide n P Q a w := by
  refine wpIn_rangeFunc fun fn _ => ?_
  obtain ⟨B, hB⟩ : ∃ B, B = w.heap.size := ⟨_, rfl⟩
  obtain ⟨R, hR⟩ : ∃ R : LoopState → Loop, R = fun st => { state := st, pending := none, fn, tmps := a.tmps, params := ps, assign, body, defers := B } := ⟨_, rfl⟩
  obtain ⟨V, hV⟩ : ∃ V, V = (w.alloc (.deferred (some []))).alloc (.loop (R .ready)) := ⟨_, rfl⟩
  have v1 : V.heap[B + 1]? = some (.loop (R .ready)) := by
    have h := World.alloc_heap_new (w.alloc (.deferred (some []))) (.loop (R .ready))
    rw [World.size_alloc, ← hB] at h; rw [hV]; exact h
  have v0 : V.heap[B]? = some (.deferred (some [])) := by
    rw [hV, hB]; exact (Below.heap_alloc _ _ _ (by simp)).trans (World.alloc_heap_new w _)
  rw [← hB] at hI hbody hdone
  let J : Nat → World → Prop := fun k W => I k W ∧ W.heap[B + 1]? = some (.loop (R .ready)) ∧ W.heap[B]? = some (.deferred (some []))
  have hS := hseq (B + 1) J V (fun _ _ h => h.1) ?_ ⟨by rw [hV]; exact h0 _, v1, v0⟩
  · refine ⟨B + 1, [{ target := .collected B, args := #[] }], V, { target := .fn (.func gf) lb, args := #[.func (.yield (B + 1)) #[] #[]] }, V, gf, #[.func (.yield (B + 1)) #[] #[]] ++ lb, V, ?_, ?_, fun _ _ => trivial, ?_, fun _ => h1, ?_⟩
    · rw [hV, hR, hB]; exact run_enterLoop_outer _ _ _ _ _
    · simp only [resolve, hg]
      simp [go_sem]
    · simp [invoke, go_sem, eg]
    · refine CallsIn.mono hS ?_
      rintro e W ⟨⟨v, rfl⟩, hi, hl, hk⟩
      refine ⟨none, _, ?_, hdone _ (hI _ _ _ (.loop { R .ready with state := .exhausted }) hi hl) ((World.putObj_heap_other (by omega)).trans hk)⟩
      have h := run_endLoop (P := P) hl (by rw [hR]; simp)
      rw [hR] at h ⊢; exact h
  · rintro k W hk ⟨hi, hl, hd⟩
    have hlt := (Array.getElem?_eq_some_iff.1 hl).1
    have hy := run_yield (P := P) (args := encs k) hl (by rw [hR]; exact hps k)
    rw [hR] at hy
    refine ⟨fn, _, assign, body, hy, roundIn_of_wpIn trivial (hassign (B + 1) k W _ ⟨_, run_beginRound hl (by rw [hR]), ?_⟩)⟩
    obtain ⟨U, hU⟩ : ∃ U, U = W.putObj (B + 1) (.loop { R .ready with state := .busy }) := ⟨_, rfl⟩
    rw [← hU]
    have u1 : U.heap[B + 1]? = some (.loop { R .ready with state := .busy }) := by rw [hU]; exact World.putObj_heap_same hlt
    have u0 : U.heap[B]? = some (.deferred (some [])) := by rw [hU]; exact (World.putObj_heap_other (by omega)).trans hd
    refine wpIn_mono (hbody (B + 1) k U hk (by rw [hU]; exact hI _ _ _ _ hi hl) (Array.getElem?_eq_some_iff.1 u1).1) ?_
    rintro e a' W' ⟨rfl, hi', h0', h1'⟩
    have w1 := h1'.trans u1
    have hE := run_endRound (P := P) none w1
    refine ⟨_, _, hE, rfl, hI _ _ _ _ hi' w1, ?_, (World.putObj_heap_other (by omega)).trans (h0'.trans u0)⟩
    rw [World.putObj_heap_same (Array.getElem?_eq_some_iff.1 w1).1, hR]; rfl

/-! ### slices.Backward -/
theorem backward_in (n : Nat) (a : Option Addr) (len cap : Nat) (w : World) :
    CallsIn Fence.wide n Tryd.prog 70 #[.slice a len cap] w fun e w' => e = .returned (.func (.func 96) #[] #[.pointer (some ⟨w.heap.size, 0, none⟩)]) ∧ w' = w.alloc (.cells #[.slice a len cap] 23) := by
  refine callsIn_of_wp Tryd.func70 rfl trivial ?_ rfl
  simp only [Tryd.ntmps70, List.size_toArray, List.length_cons, List.length_nil, Nat.reduceAdd, Nat.reduceSub, Array.replicate_succ, Array.replicate_zero, List.push_toArray, List.append_toArray, List.nil_append, List.cons_append]
  gi_wp2
  go_ret
  exact ⟨rfl, rfl⟩
set_option maxRecDepth 100000 in
set_option maxHeartbeats 2000000 in
theorem back1_in (n : Nat) (hn : 1 ≤ n) (l Bs len cap : Nat) (a : Option Addr) (L : List ByteArray) (hlen : len ≤ 16) (J : Nat → World → Prop)
    (hJ : ∀ k W, J k W → W.cell? ⟨Bs, 0, none⟩ = some (.slice a len cap) ∧ SRow W a len L)
    (hY : ∀ k W, k < len → J k W → YieldAt Fence.wide (n - 1) Tryd.prog l #[.int .i64 ((len - 1 - k : Nat) : Int), .string (L.getD (len - 1 - k) ByteArray.empty)] W fun e W' => e = .returned (.bool true) ∧ J (k + 1) W')
    (W : World) (h0 : J 0 W) :
    CallsIn Fence.wide n Tryd.prog 96 #[.func (.yield l) #[] #[], .pointer (some ⟨Bs, 0, none⟩)] W fun e W' => (∃ v, e = .returned v) ∧ J len W' := by
  have c0 := (hJ _ _ h0).1
  have hl' : (len : Int) ≤ 16 := by omega
  have HJ : Hid _ := hide hJ
  have HY : Hid _ := hide hY
  clear hJ hY
  refine callsIn_of_wp Tryd.func96 rfl trivial ?_ rfl
  simp only [Tryd.ntmps96, List.size_toArray, List.length_cons, List.length_nil, Nat.reduceAdd, Nat.reduceSub, Array.replicate_succ, Array.replicate_zero, List.push_toArray, List.append_toArray, List.nil_append, List.cons_append]
  gi_wp2
  gi_loopw [3] (fun i wr => ∃ k : Nat, k ≤ len ∧ i = .int .i64 ((len : Int) - 1 - k) ∧ J k wr)
    (fun i _ => ((intOf i) + 1).toNat)
  case atStart => exact ⟨0, Nat.zero_le _, by simp, h0⟩
  case round =>
    obtain ⟨k, hk, rfl, hJs⟩ := hrel
    obtain ⟨hc, hs⟩ := HJ.out _ _ hJs
    by_cases hlt : k < len
    · obtain ⟨b, off, ha, hcell⟩ := hs.at (i := len - 1 - k) (by omega)
      subst ha
      obtain ⟨fn, tmps, assign, body, hy, hR⟩ := HY.out _ _ hlt hJs
      obtain ⟨j, hj⟩ : ∃ j : Nat, j = len - 1 - k := ⟨_, rfl⟩
      have hj' : (len : Int) - 1 - k = (j : Int) := by omega
      have hjl : (j : Int) < len := by omega
      rw [← hj] at hcell hy
      rw [hj']
      have HK : Hid (k < len ∧ j = len - 1 - k) := hide ⟨hlt, hj⟩
      generalize L.getD j ByteArray.empty = s at hcell hy
      clear hs hlt hj hj' hk c0
      gi_wp2
      refine hR.mono ?_
      rintro e W3 ⟨rfl, hJ3⟩
      gi_wp2
      go_roundw
      case rel => exact ⟨k + 1, by have := HK.out; omega, by have := HK.out; congr 1; omega, hJ3⟩
      case measure => have := HK.out; simp [intOf]
    · obtain rfl : k = len := by omega
      have hneg : (k : Int) - 1 - k = -1 := by omega
      rw [hneg]
      clear hs c0
      gi_wp2
      go_end0
      exact ⟨⟨_, rfl⟩, hJs⟩
end Go.Proofs.YtbflkdbimgakpaaDoor.E6
