/-
  A range over a function that takes from an object in memory between two rounds: the rounds may go on or return.
-/
import Derived.Test.YtajkenbcndmjpabClB
import Derived.RangeFuncNested
import Derived.RangeFuncBound
import Derived.RangeFuncCalls
import Derived.RangeFuncLeaves
import Derived.Shelf.Abstract
import Derived.Shelf.RegionOpen
import Derived.OwnWalkIn
import Derived.TacticsInMore
import Derived.LoopNIn
import Derived.LoopIn
namespace Go.Proofs.Ytajkenbcndmjpab
open Go.RowKit Go.Maps Go.Shelf
attribute [local go_sem] Oper.semAt_some
theorem but_put (W : World) (l : Nat) (o : Obj) : But (fun k => k = l) W (W.putObj l o) :=
  ⟨rfl, rfl, rfl, by simp, fun k _ hk => World.putObj_heap_other hk⟩
theorem range_turn {P : Program} {g : Operand} {ps : Array Tmp} {assign body : Code} {Q : Exit → Act → World → Prop} {a : Act} {w : World} {n : Nat} (h1 : 1 ≤ n) {gf : Nat} {lb : Array Value}
    (hg : a.eval g = .func (.func gf) #[] lb) (eg : ∀ args w, (callFunc gf args).run P w = .ok (.enter gf args) w)
    {σ ε : Type} (encs : ε → Array Value) (hps : ∀ x, (encs x).size = ps.size) (I : σ → World → Prop) (Ix : World → Prop) (Fin : σ → Prop) (s0 : σ) (Tk : σ → ε → World → World → σ → Prop)
    (hI : ∀ (s : σ) (W : World) (o : Loop) (o' : Obj), I s W → W.heap[w.heap.size + 1]? = some (.loop o) → I s (W.putObj (w.heap.size + 1) o'))
    (hIx : ∀ (W : World) (o : Loop) (o' : Obj), Ix W → W.heap[w.heap.size + 1]? = some (.loop o) → Ix (W.putObj (w.heap.size + 1) o'))
    (hIb : ∀ (s : σ) (W W' : World), I s W → Below W.heap.size W W' → I s W')
    (hTk : ∀ s x W W2 s2, I s W → Tk s x W W2 s2 → (∀ o : Loop, W.heap[w.heap.size + 1]? = some (.loop o) → W2.heap[w.heap.size + 1]? = some (.loop o)) ∧ (W.heap[w.heap.size]? = some (.deferred (some [])) → W2.heap[w.heap.size]? = some (.deferred (some []))))
    (h0 : I s0 w)
    (hseq : ∀ (l : Nat) (J : σ → World → Prop) (Jx : World → Prop) (W : World), (∀ s W, J s W → I s W) → (∀ s W W', J s W → Below W.heap.size W W' → J s W') →
      (∀ s x W1 W2 s2, J s W1 → Tk s x W1 W2 s2 → YieldAt Fence.wide (n - 1 - 1) P l (encs x) W2 fun e W' => (e = .returned (.bool true) ∧ J s2 W') ∨ (e = .returned (.bool false) ∧ Jx W')) → J s0 W →
      CallsIn Fence.wide (n - 1) P gf (#[.func (.yield l) #[] #[]] ++ lb) W fun e W' => (∃ v, e = .returned v) ∧ ((∃ s, Fin s ∧ J s W') ∨ Jx W'))
    (A : ε → World → Act → World → Prop) (hA : ∀ x W a1 W3, A x W a1 W3 → Below W.heap.size W W3)
    (hassign : ∀ (l : Nat) (s : σ) (x : ε) (s2 : σ) (W W2 : World) (K : Act → World → Prop), I s W → Tk s x W W2 s2 → (∀ a1 W3, A x W2 a1 W3 → K a1 W3) →
      assign.wpIn (Fence.wide.inRound l) (n - 1 - 1) P (Exit.then K (fun _ _ _ => False)) { tmps := (ps.zip (encs x)).foldl (fun t (p, v) => t.setIfInBounds p v) a.tmps, defers := [] } W2)
    (hbody : ∀ (l : Nat) (s : σ) (x : ε) (s2 : σ) (W W2 : World) (a1 : Act) (W3 : World) (o o' : Loop), I s W → Tk s x W W2 s2 → A x W2 a1 W3 → w.heap.size + 1 < W3.heap.size → W3.heap[w.heap.size + 1]? = some (.loop o) → W3.heap[w.heap.size]? = some (.deferred (some [])) →
      body.wpIn (Fence.wide.inRound l) (n - 1 - 1) P (fun e _ W' => ((e = .normal ∧ I s2 W') ∨ (e = .ret ∧ Ix W')) ∧ W'.heap[w.heap.size]? = some (.deferred (some [])) ∧ W'.heap[w.heap.size + 1]? = some (.loop o')) a1 (W3.putObj (w.heap.size + 1) (.loop o')))
    (hdone : ∀ (s : σ) (W : World), Fin s → I s W → W.heap[w.heap.size]? = some (.deferred (some [])) → Q .normal { a with defers := { target := .collected w.heap.size, args := #[] } :: a.defers } W)
    (hstop : ∀ W : World, Ix W → W.heap[w.heap.size]? = some (.deferred (some [])) → Code.ret.wpIn Fence.wide n P Q { a with defers := { target := .collected w.heap.size, args := #[] } :: a.defers } W) :
    (Code.rangeFunc g ps assign body).wpIn Fence.wide n P Q a w := by
  refine wpIn_rangeFunc fun fn _ => ?_
  obtain ⟨B, hB⟩ : ∃ B, B = w.heap.size := ⟨_, rfl⟩
  obtain ⟨R, hR⟩ : ∃ R : LoopState → Option Code → Loop, R = fun st pe => { state := st, pending := pe, fn, tmps := a.tmps, params := ps, assign, body, defers := B } := ⟨_, rfl⟩
  obtain ⟨V, hV⟩ : ∃ V, V = (w.alloc (.deferred (some []))).alloc (.loop (R .ready none)) := ⟨_, rfl⟩
  have v1 : V.heap[B + 1]? = some (.loop (R .ready none)) := by
    have h := World.alloc_heap_new (w.alloc (.deferred (some []))) (.loop (R .ready none))
    rw [World.size_alloc, ← hB] at h; rw [hV]; exact h
  have v0 : V.heap[B]? = some (.deferred (some [])) := by
    rw [hV, hB]; exact (Below.heap_alloc _ _ _ (by simp)).trans (World.alloc_heap_new w _)
  have hIV : I s0 V := hIb s0 w V h0 (by rw [hV]; exact below_alloc2 _ _ _)
  rw [← hB] at hI hIx hbody hdone hstop hTk
  let J : σ → World → Prop := fun s W => I s W ∧ W.heap[B + 1]? = some (.loop (R .ready none)) ∧ W.heap[B]? = some (.deferred (some []))
  let Jx : World → Prop := fun W => Ix W ∧ W.heap[B + 1]? = some (.loop (R .done (some .ret))) ∧ W.heap[B]? = some (.deferred (some []))
  have hS := hseq (B + 1) J Jx V (fun _ _ h => h.1) (fun s W W' h hb => ⟨hIb s W W' h.1 hb, (hb.block _ (Array.getElem?_eq_some_iff.1 h.2.1).1).trans h.2.1, (hb.block _ (Array.getElem?_eq_some_iff.1 h.2.2).1).trans h.2.2⟩) ?_ ⟨hIV, v1, v0⟩
  · refine ⟨B + 1, [{ target := .collected B, args := #[] }], V, { target := .fn (.func gf) lb, args := #[.func (.yield (B + 1)) #[] #[]] }, V, gf, #[.func (.yield (B + 1)) #[] #[]] ++ lb, V, ?_, ?_, fun _ _ => trivial, ?_, fun _ => h1, ?_⟩
    · rw [hV, hR, hB]; exact run_enterLoop_outer _ _ _ _ _
    · simp only [resolve, hg]
      simp [go_sem]
    · simp [invoke, go_sem, eg]
    · refine CallsIn.mono hS ?_
      rintro e W ⟨⟨v, rfl⟩, (⟨s, hf, hi, hl, hk⟩ | ⟨hi, hl, hk⟩)⟩
      · refine ⟨none, _, ?_, hdone s _ hf (hI _ _ _ (.loop { R .ready none with state := .exhausted }) hi hl) ((World.putObj_heap_other (by omega)).trans hk)⟩
        have h := run_endLoop (P := P) hl (by rw [hR]; simp)
        rw [hR] at h ⊢; exact h
      · refine ⟨some .ret, _, ?_, hstop _ (hIx _ _ (.loop { R .done (some .ret) with state := .exhausted }) hi hl) ((World.putObj_heap_other (by omega)).trans hk)⟩
        have h := run_endLoop (P := P) hl (by rw [hR]; simp)
        rw [hR] at h ⊢; exact h
  · rintro s x W W2 s2 ⟨hi, hl, hd⟩ htk
    obtain ⟨k1, k2⟩ := hTk s x W W2 s2 hi htk
    have hl2 := k1 _ hl
    have hd2 := k2 hd
    have hy := run_yield (P := P) (args := encs x) hl2 (by rw [hR]; exact hps x)
    rw [hR] at hy
    refine ⟨fn, _, assign, body, hy, roundIn_of_wpIn trivial (hassign (B + 1) s x s2 W W2 _ hi htk (fun a1 W3 ha => ?_))⟩
    have b3 := hA x W2 a1 W3 ha
    have hl3 := (b3.block _ (Array.getElem?_eq_some_iff.1 hl2).1).trans hl2
    have hd3 := (b3.block _ (Array.getElem?_eq_some_iff.1 hd2).1).trans hd2
    have hlt3 := (Array.getElem?_eq_some_iff.1 hl3).1
    refine ⟨_, run_beginRound hl3 (by rw [hR]), ?_⟩
    refine wpIn_mono (hbody (B + 1) s x s2 W W2 a1 W3 _ _ hi htk ha hlt3 hl3 hd3) ?_
    rintro e a' W' ⟨he, hd4, hl4⟩
    rcases he with ⟨rfl, hi'⟩ | ⟨rfl, hi'⟩
    · have hE := run_endRound (P := P) none hl4
      refine ⟨_, _, hE, .inl ⟨rfl, hI _ _ _ _ hi' hl4, ?_, (World.putObj_heap_other (by omega)).trans hd4⟩⟩
      rw [World.putObj_heap_same (Array.getElem?_eq_some_iff.1 hl4).1, hR]; rfl
    · have hE := run_endRound (P := P) (some .ret) hl4
      refine ⟨_, _, hE, .inr ⟨rfl, hIx _ _ _ hi' hl4, ?_, (World.putObj_heap_other (by omega)).trans hd4⟩⟩
      rw [World.putObj_heap_same (Array.getElem?_eq_some_iff.1 hl4).1, hR]; rfl
end Go.Proofs.Ytajkenbcndmjpab
