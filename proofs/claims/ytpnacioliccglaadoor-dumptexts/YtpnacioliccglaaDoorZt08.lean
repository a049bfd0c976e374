import Derived.Test.YtpnacioliccglaaDoorZt07
import Derived.RangeFuncNested
import Derived.RangeFuncBound
import Derived.RangeFuncCalls
import Derived.RangeFuncLeaves
import Derived.Shelf.Abstract
import Derived.Shelf.RegionOpen
import Derived.OwnWalkIn
import Derived.TacticsInMore
import Derived.LoopNIn
import Derived.LoopIn
import Derived.DeepKeys4
set_option maxRecDepth 8000
set_option maxHeartbeats 8000000
set_option linter.unusedVariables false
/-
  A range over a function whose rounds all go on; slices.Backward.
-/
namespace Go.Proofs.YtpnacioliccglaaDoor.E6
open Go.RowKit Go.Maps Go.Shelf
attribute [local go_sem] Oper.semAt_some

/-- A loop over an iterator, its rounds told by their numbers: none leaves. -/
theorem range_rounds {P : Program} {g : Operand} {ps : Array Tmp} {assign body : Code} {Q : Exit → Act → World → Prop} {a : Act} {w : World} {n : Nat} (h1 : 1 ≤ n) {gf : Nat} {lb : Array Value}
    (hg : a.eval g = .func (.func gf) #[] lb) (eg : ∀ args w, (callFunc gf args).run P w = .ok (.enter gf args) w)
    (encs : Nat → Array Value) (N : Nat) (hps : ∀ k, (encs k).size = ps.size) (I : Nat → World → Prop)
    (hI : ∀ (k : Nat) (W : World) (o : Loop) (o' : Obj), I k W → W.heap[w.heap.size + 1]? = some (.loop o) → I k (W.putObj (w.heap.size + 1) o'))
    (h0 : ∀ o : Loop, I 0 ((w.alloc (.deferred (some []))).alloc (.loop o)))
    (hseq : ∀ (l : Nat) (J : Nat → World → Prop) (W : World), (∀ k W, J k W → I k W) →
      (∀ k W1, k < N → J k W1 → YieldAt Fence.wide (n - 1 - 1) P l (encs k) W1 fun e W' => e = .returned (.bool true) ∧ J (k + 1) W') → J 0 W →
      CallsIn Fence.wide (n - 1) P gf (#[.func (.yield l) #[] #[]] ++ lb) W fun e W' => (∃ v, e = .returned v) ∧ J N W')
    (a₁ : Nat → Act)
    (hassign : ∀ (l k : Nat) (W : World) (K : Act → World → Prop), K (a₁ k) W →
      assign.wpIn (Fence.wide.inRound l) (n - 1 - 1) P (Exit.then K (fun _ _ _ => False)) { tmps := (ps.zip (encs k)).foldl (fun t (p, v) => t.setIfInBounds p v) a.tmps, defers := [] } W)
    (hbody : ∀ (l k : Nat) (W : World), k < N → I k W → w.heap.size + 1 < W.heap.size →
      body.wpIn (Fence.wide.inRound l) (n - 1 - 1) P (fun e _ W' => e = .normal ∧ I (k + 1) W' ∧ W'.heap[w.heap.size]? = W.heap[w.heap.size]? ∧ W'.heap[w.heap.size + 1]? = W.heap[w.heap.size + 1]?) (a₁ k) W)
    (hdone : ∀ W : World, I N W → W.heap[w.heap.size]? = some (.deferred (some [])) → Q .normal { a with defers := { target := .collected w.heap.size, args := #[] } :: a.defers } W) :
    (Code.rangeFunc g ps assign body).wpIn Fence.wide n P Q a w := by
  refine wpIn_rangeFunc fun fn _ => ?_
  obtain ⟨B, hB⟩ : ∃ B, B = w.heap.size := ⟨_, rfl⟩
  obtain ⟨R, hR⟩ : ∃ R : LoopState → Loop, R = fun st => { state := st, pending := none, fn, tmps := a.tmps, params := ps, assign, body, defers := B } := ⟨_, rfl⟩
  obtain ⟨V, hV⟩ : ∃ V, V = (w.alloc (.deferred (some []))).alloc (.loop (R .ready)) := ⟨_, rfl⟩
  have v1 : V.heap[B + 1]? = some (.loop (R .ready)) := by
    have h := World.alloc_heap_new (w.alloc (.deferred (some []))) (.loop (R .ready))
    rw [World.size_alloc, ← hB] at h; rw [hV]; exact h
  have v0 : V.heap[B]? = some (.deferred (some [])) := by
    rw [hV, hB]; exact (Below.heap_alloc _ _ _ (by simp)).trans (World.alloc_heap_new w _)
  rw [← hB] at hI hbody hdone
  let J : Nat → World → Prop := fun k W => I k W ∧ W.heap[B + 1]? = some (.loop (R .ready)) ∧ W.heap[B]? = some (.deferred (some []))
  have hS := hseq (B + 1) J V (fun _ _ h => h.1) ?_ ⟨by rw [hV]; exact h0 _, v1, v0⟩
  · refine ⟨B + 1, [{ target := .collected B, args := #[] }], V, { target := .fn (.func gf) lb, args := #[.func (.yield (B + 1)) #[] #[]] }, V, gf, #[.func (.yield (B + 1)) #[] #[]] ++ lb, V, ?_, ?_, fun _ _ => trivial, ?_, fun _ => h1, ?_⟩
    · rw [hV, hR, hB]; exact run_enterLoop_outer _ _ _ _ _
    · simp only [resolve, hg]
      simp [go_sem]
    · simp [invoke, go_sem, eg]
    · refine CallsIn.mono hS ?_
      rintro e W ⟨⟨v, rfl⟩, hi, hl, hk⟩
      refine ⟨none, _, ?_, hdone _ (hI _ _ _ (.loop { R .ready with state := .exhausted }) hi hl) ((World.putObj_heap_other (by omega)).trans hk)⟩
      have h := run_endLoop (P := P) hl (by rw [hR]; simp)
      rw [hR] at h ⊢; exact h
  · rintro k W hk ⟨hi, hl, hd⟩
    have hlt := (Array.getElem?_eq_some_iff.1 hl).1
    have hy := run_yield (P := P) (args := encs k) hl (by rw [hR]; exact hps k)
    rw [hR] at hy
    refine ⟨fn, _, assign, body, hy, roundIn_of_wpIn trivial (hassign (B + 1) k W _ ⟨_, run_beginRound hl (by rw [hR]), ?_⟩)⟩
    obtain ⟨U, hU⟩ : ∃ U, U = W.putObj (B + 1) (.loop { R .ready with state := .busy }) := ⟨_, rfl⟩
    rw [← hU]
    have u1 : U.heap[B + 1]? = some (.loop { R .ready with state := .busy }) := by rw [hU]; exact World.putObj_heap_same hlt
    have u0 : U.heap[B]? = some (.deferred (some [])) := by rw [hU]; exact (World.putObj_heap_other (by omega)).trans hd
    refine wpIn_mono (hbody (B + 1) k U hk (by rw [hU]; exact hI _ _ _ _ hi hl) (Array.getElem?_eq_some_iff.1 u1).1) ?_
    rintro e a' W' ⟨rfl, hi', h0', h1'⟩
    have w1 := h1'.trans u1
    have hE := run_endRound (P := P) none w1
    refine ⟨_, _, hE, rfl, hI _ _ _ _ hi' w1, ?_, (World.putObj_heap_other (by omega)).trans (h0'.trans u0)⟩
    rw [World.putObj_heap_same (Array.getElem?_eq_some_iff.1 w1).1, hR]; rfl

/-! ### slices.Backward -/
theorem backward_in (n : Nat) (a : Option Addr) (len cap : Nat) (w : World) :
    CallsIn Fence.wide n Tryd.prog 80 #[.slice a len cap] w fun e w' => e = .returned (.func (.func 104) #[] #[.pointer (some ⟨w.heap.size, 0, none⟩)]) ∧ w' = w.alloc (.cells #[.slice a len cap] 23) := by
  refine callsIn_of_wp Tryd.func80 rfl trivial ?_ rfl
  simp only [Tryd.ntmps80, List.size_toArray, List.length_cons, List.length_nil, Nat.reduceAdd, Nat.reduceSub, Array.replicate_succ, Array.replicate_zero, List.push_toArray, List.append_toArray, List.nil_append, List.cons_append]
  gi_wp2
  go_ret
  exact ⟨rfl, rfl⟩
set_option maxRecDepth 100000 in
set_option maxHeartbeats 2000000 in
theorem back1_in (n : Nat) (hn : 1 ≤ n) (l Bs len cap : Nat) (a : Option Addr) (L : List ByteArray) (hlen : len ≤ 16) (J : Nat → World → Prop)
    (hJ : ∀ k W, J k W → W.cell? ⟨Bs, 0, none⟩ = some (.slice a len cap) ∧ SRow W a len L)
    (hY : ∀ k W, k < len → J k W → YieldAt Fence.wide (n - 1) Tryd.prog l #[.int .i64 ((len - 1 - k : Nat) : Int), .string (L.getD (len - 1 - k) ByteArray.empty)] W fun e W' => e = .returned (.bool true) ∧ J (k + 1) W')
    (W : World) (h0 : J 0 W) :
    CallsIn Fence.wide n Tryd.prog 104 #[.func (.yield l) #[] #[], .pointer (some ⟨Bs, 0, none⟩)] W fun e W' => (∃ v, e = .returned v) ∧ J len W' := by
  have c0 := (hJ _ _ h0).1
  have hl' : (len : Int) ≤ 16 := by omega
  have HJ : Hid _ := hide hJ
  have HY : Hid _ := hide hY
  clear hJ hY
  refine callsIn_of_wp Tryd.func104 rfl trivial ?_ rfl
  simp only [Tryd.ntmps104, List.size_toArray, List.length_cons, List.length_nil, Nat.reduceAdd, Nat.reduceSub, Array.replicate_succ, Array.replicate_zero, List.push_toArray, List.append_toArray, List.nil_append, List.cons_append]
  gi_wp2
  gi_loopw [3] (fun i wr => ∃ k : Nat, k ≤ len ∧ i = .int .i64 ((len : Int) - 1 - k) ∧ J k wr)
    (fun i _ => ((intOf i) + 1).toNat)
  case atStart => exact ⟨0, Nat.zero_le _, by simp, h0⟩
  case round =>
    obtain ⟨k, hk, rfl, hJs⟩ := hrel
    obtain ⟨hc, hs⟩ := HJ.out _ _ hJs
    by_cases hlt : k < len
    · obtain ⟨b, off, ha, hcell⟩ := hs.at (i := len - 1 - k) (by omega)
      subst ha
      obtain ⟨fn, tmps, assign, body, hy, hR⟩ := HY.out _ _ hlt hJs
      obtain ⟨j, hj⟩ : ∃ j : Nat, j = len - 1 - k := ⟨_, rfl⟩
      have hj' : (len : Int) - 1 - k = (j : Int) := by omega
      have hjl : (j : Int) < len := by omega
      rw [← hj] at hcell hy
      rw [hj']
      have HK : Hid (k < len ∧ j = len - 1 - k) := hide ⟨hlt, hj⟩
      generalize L.getD j ByteArray.empty = s at hcell hy
      clear hs hlt hj hj' hk c0
      gi_wp2
      refine hR.mono ?_
      rintro e W3 ⟨rfl, hJ3⟩
      gi_wp2
      go_roundw
      case rel => exact ⟨k + 1, by have := HK.out; omega, by have := HK.out; congr 1; omega, hJ3⟩
      case measure => have := HK.out; simp [intOf]
    · obtain rfl : k = len := by omega
      have hneg : (k : Int) - 1 - k = -1 := by omega
      rw [hneg]
      clear hs c0
      gi_wp2
      go_end0
      exact ⟨⟨_, rfl⟩, hJs⟩
end Go.Proofs.YtpnacioliccglaaDoor.E6
/-
  A forest in memory.
-/
namespace Go.Proofs.YtpnacioliccglaaDoor.E6
open Go.RowKit Go.Maps Go.Shelf
abbrev Nd := Nat × Nat
def nodeV (n : Nd) : Value := .agg #[.int .i64 n.1, .int .i64 n.2]
def ncells (N : List Nd) : List Value := N.flatMap fun n => [.int .i64 (n.1 : Int), .int .i64 (n.2 : Int)]
theorem ncells_snoc (N : List Nd) (n : Nd) : ncells (N ++ [n]) = ncells N ++ [.int .i64 (n.1 : Int), .int .i64 (n.2 : Int)] := by simp [ncells]
theorem ncells_len (N : List Nd) : (ncells N).length = N.length * 2 := by
  induction N with
  | nil => rfl
  | cons n N ih => simp only [ncells, List.flatMap_cons, List.length_append, List.length_cons, List.length_nil] at ih ⊢; omega
theorem ncells_at (N : List Nd) (i : Nat) (n : Nd) (h : N[i]? = some n) : (ncells N)[i * 2]? = some (.int .i64 (n.1 : Int)) ∧ (ncells N)[i * 2 + 1]? = some (.int .i64 (n.2 : Int)) := by
  induction N generalizing i with
  | nil => simp at h
  | cons m N ih =>
    cases i with
    | zero => simp at h; subst h; simp [ncells]
    | succ i =>
      have := ih i (by simpa using h)
      have e : (i + 1) * 2 = i * 2 + 1 + 1 := by omega
      rw [e]
      simpa [ncells] using this
theorem laidOut : laidOutB Tryd.prog = true := by kernel_rfl
theorem rowNode : (125 : TypeId) < Tryd.prog.types.size := of_decide_eq_true (by kernel_rfl)
theorem cellsNode : Tryd.prog.cellsOf 125 = 2 := by kernel_rfl
theorem wideNode : (match Tryd.prog.underlying 125 with | some (.array _ _) | some (.struct _) => true | _ => false) = true := by rw [Tryd.underlying125]
theorem lawNode : Keyed Tryd.prog 125 := by
  refine Keyed.of_law (deep_law_laid laidOut (m := 2) ?_ rowNode ?_ ?_)
  · omega
  · kernel_rfl
  · rw [Tryd.underlying125]
def nkey (n : Nd) : Lit := .string (keyBytes [.int .i64 n.1, .int .i64 n.2])
theorem typeNode : Tryd.prog.keyType 125 = true := by kernel_rfl
theorem cells3 : Tryd.prog.cellsOf 3 = 1 := by kernel_rfl
theorem litsNode (d : Nat) {a b : Int} (w1 : (Lit.int .i64 a).wf = true) (w2 : (Lit.int .i64 b).wf = true) : Tryd.prog.keyLits (d + 2) 125 [.int .i64 a, .int .i64 b] = some [.int .i64 a, .int .i64 b] := by
  simp [Program.keyLits, Tryd.underlying125, Tryd.underlying3, cellsNode, cells3, w1, w2]
theorem keyNode {n : Nd} (h1 : n.1 ≤ 1000000000) (h2 : n.2 ≤ 1000000000) : keyOf Tryd.prog 125 (nodeV n) = some (nkey n) := by
  have w1 : (Lit.int .i64 (n.1 : Int)).wf = true := WalkArith.wf_i64 (by omega)
  have w2 : (Lit.int .i64 (n.2 : Int)).wf = true := WalkArith.wf_i64 (by omega)
  have hf : (nodeV n).formed Tryd.prog 125 = true := by simp [nodeV, Value.formed, Tryd.underlying125, cellsNode]
  have hk : Tryd.prog.keyLits (Tryd.prog.types.size + 1) 125 (nodeV n).cells.toList = some [.int .i64 n.1, .int .i64 n.2] := by
    have hs : Tryd.prog.types.size + 1 = (Tryd.prog.types.size - 1) + 2 := by have : 0 < Tryd.prog.types.size := Nat.lt_of_le_of_lt (Nat.zero_le _) rowNode; omega
    rw [hs]
    exact litsNode _ w1 w2
  unfold keyOf
  rw [Tryd.underlying125, typeNode, hf, hk]
  rfl
theorem nkey_inj {a b : Nd} (ha : a.1 ≤ 1000000000 ∧ a.2 ≤ 1000000000) (hb : b.1 ≤ 1000000000 ∧ b.2 ≤ 1000000000) (h : nkey a = nkey b) : a = b := by
  have := lawNode.inj (keyNode ha.1 ha.2) (by rw [h]; exact keyNode hb.1 hb.2)
  simp [nodeV] at this
  exact Prod.ext (by omega) (by omega)
theorem nkey_key (n : Nd) : WideAt.IsKeyLit (nkey n) := by simp [nkey, WideAt.IsKeyLit]

/-! ### the numbers of nodes -/
def nid (N : List Nd) (n : Nd) : Nat := if n ∈ N then N.idxOf n + 1 else 0
theorem nid_get {N : List Nd} {n : Nd} {i : Nat} (hd : N.Nodup) (h : N[i]? = some n) : nid N n = i + 1 := by
  have hm := List.mem_of_getElem? h
  have h1 := (List.getElem?_eq_some_iff.1 h).1
  rw [nid, if_pos hm]
  have := hd.idxOf_getElem i h1
  rw [(List.getElem?_eq_some_iff.1 h).2] at this
  omega
theorem nid_none {N : List Nd} {n : Nd} (h : n ∉ N) : nid N n = 0 := by rw [nid, if_neg h]
theorem nid_le (N : List Nd) (n : Nd) : nid N n ≤ N.length := by
  unfold nid; split
  · rename_i h; have := List.idxOf_lt_length_iff.2 h; omega
  · omega
theorem nid_some {N : List Nd} {n : Nd} (h : nid N n ≠ 0) : N[nid N n - 1]? = some n := by
  unfold nid at h ⊢; split at h
  · rename_i hm
    rw [if_pos hm]
    have hl := List.idxOf_lt_length_iff.2 hm
    rw [Nat.add_sub_cancel, List.getElem?_eq_getElem hl, List.getElem_idxOf hl]
  · exact absurd rfl h
theorem nid_old {N : List Nd} {n m : Nd} (h : m ≠ n) : nid (N ++ [n]) m = nid N m := by
  unfold nid
  by_cases hm : m ∈ N
  · rw [if_pos (by simp [hm]), if_pos hm, List.idxOf_append, if_pos hm]
  · rw [if_neg (by simp [hm, h]), if_neg hm]
theorem nid_new {N : List Nd} {n : Nd} (h : n ∉ N) : nid (N ++ [n]) n = N.length + 1 := by
  unfold nid
  rw [if_pos (by simp), List.idxOf_append, if_neg h]; simp
structure Fids (D : DataW Unit) (N : List Nd) : Prop where
  isMap : Maps.IsMap D
  num : ∀ n : Nd, n.1 ≤ 1000000000 → n.2 ≤ 1000000000 → D.atKey (nkey n) (.lit (.int .i64 0)) = .lit (.int .i64 (nid N n : Int))
theorem Fids.nil : Fids (.map []) [] := ⟨Maps.isMap_empty, fun n _ _ => by rw [Maps.atKey_of_not_has rfl]; rfl⟩
theorem Fids.put {D : DataW Unit} {N : List Nd} (h : Fids D N) {n : Nd} (hn : n.1 ≤ 1000000000 ∧ n.2 ≤ 1000000000) (hs : n ∉ N) : Fids (D.put (nkey n) (.lit (.int .i64 ((N.length + 1 : Nat) : Int)))) (N ++ [n]) := by
  refine ⟨h.isMap.put _ _, fun m h1 h2 => ?_⟩
  by_cases e : m = n
  · subst e; rw [Maps.atKey_put_same h.isMap (nkey_key _), nid_new hs]
  · rw [Maps.atKey_put_other (fun c => e (nkey_inj ⟨h1, h2⟩ hn c)), h.num m h1 h2, nid_old e]

/-! ### the forest -/
structure Frs (w : World) (fb tb : Nat) (S : Nat → Prop) (N : List Nd) (v : Value) (mb : Nat) : Prop where
  blk : w.heap[fb]? = some (.cells #[.pointer (some ⟨tb, 0, none⟩), v, .map (some mb)] 113 (0, 0))
  own : w.ownsRow 0 125 2 v N.length (ncells N)
  ids : ∃ D, w.ownsMap Tryd.prog 125 (plainElem Tryd.prog 3) mb N.length D ∧ Fids D N
  inS : S fb
  mapS : S mb
  rowS : ∀ g, v.ownBlock = some g → S g
  len : N.length ≤ 262144
  small : ∀ n ∈ N, n.1 ≤ 262144 ∧ n.2 ≤ 65536
section
variable {w : World} {fb tb : Nat} {S : Nat → Prop} {N : List Nd} {v : Value} {mb : Nat}
theorem Frs.kept {T : Nat → Prop} {w' : World} (h : Frs w fb tb S N v mb) (hb : But T w w') (hd : ∀ k, S k → ¬ T k) : Frs w' fb tb S N v mb :=
  ⟨(hb.block fb (Array.getElem?_eq_some_iff.1 h.blk).1 (hd _ h.inS)).trans h.blk, own_but h.own hb fun g e => hd g (h.rowS g e),
    h.ids.imp fun _ ⟨hm, hi⟩ => ⟨map_but hm hb (hd _ h.mapS), hi⟩, h.inS, h.mapS, h.rowS, h.len, h.small⟩
theorem Frs.mono {T : Nat → Prop} (h : Frs w fb tb S N v mb) (hT : ∀ k, S k → T k) : Frs w fb tb T N v mb :=
  ⟨h.blk, h.own, h.ids, hT _ h.inS, hT _ h.mapS, fun g e => hT _ (h.rowS g e), h.len, h.small⟩
theorem Frs.cell0 (h : Frs w fb tb S N v mb) : w.cell? ⟨fb, 0, none⟩ = some (.pointer (some ⟨tb, 0, none⟩)) := by rw [cell_of_row w fb 0 _ 113 (0, 0) h.blk]; rfl
theorem Frs.cell1 (h : Frs w fb tb S N v mb) : w.cell? ⟨fb, 1, none⟩ = some v := by rw [cell_of_row w fb 1 _ 113 (0, 0) h.blk]; rfl
theorem Frs.cell2 (h : Frs w fb tb S N v mb) : w.cell? ⟨fb, 2, none⟩ = some (.map (some mb)) := by rw [cell_of_row w fb 2 _ 113 (0, 0) h.blk]; rfl
theorem Frs.free (h : Frs w fb tb S N v mb) (j : Nat) : w.frozen? ⟨fb, j, none⟩ = false := frozen_of_row w fb j _ 113 h.blk
theorem Frs.lt (h : Frs w fb tb S N v mb) : fb < w.heap.size := (Array.getElem?_eq_some_iff.1 h.blk).1
theorem Frs.row_fb (h : Frs w fb tb S N v mb) : ∀ g, v.ownBlock = some g → g ≠ fb := by
  intro g hg e
  rcases h.own.2 with ⟨hv, _⟩ | ⟨g', cap, cur, hv, hb, hh, _⟩
  · rw [hv] at hg; simp [Value.ownBlock] at hg
  · rw [hv] at hg; simp [Value.ownBlock] at hg; subst hg; subst e
    rw [h.blk] at hh; simp at hh
theorem Frs.map_fb (h : Frs w fb tb S N v mb) : fb ≠ mb := by obtain ⟨D, ⟨es, cl, hh, _⟩, _⟩ := h.ids; exact ne_blocks h.blk hh
theorem Frs.row_map (h : Frs w fb tb S N v mb) : ∀ g, v.ownBlock = some g → g ≠ mb := by obtain ⟨D, ⟨es, cl, hh, _⟩, _⟩ := h.ids; exact own_map h.own hh
/-- The cells of a node. -/
theorem Frs.node_at (h : Frs w fb tb S N v mb) {i : Nat} {n : Nd} (hn : N[i]? = some n) : ∃ g c, v = .slice (some ⟨g, 0, none⟩) N.length c ∧ w.cell? ⟨g, i * 2, none⟩ = some (.int .i64 (n.1 : Int)) ∧ w.cell? ⟨g, i * 2 + 1, none⟩ = some (.int .i64 (n.2 : Int)) := by
  have hi := (List.getElem?_eq_some_iff.1 hn).1
  rcases h.own.2 with ⟨hv, h0⟩ | ⟨g, cap, cur, hv, hb, hg, _⟩
  · omega
  · have hc := ncells_at N i n hn
    have c1 := h.own.cells (g := g) (by rw [hv]; rfl) (i * 2) _ hc.1
    have c2 := h.own.cells (g := g) (by rw [hv]; rfl) (i * 2 + 1) _ hc.2
    have ha : ∀ j, (⟨g, 0, none⟩ : Addr).add j = ⟨g, j, none⟩ := fun j => by unfold Addr.add; split <;> simp_all
    rw [ha] at c1 c2
    exact ⟨g, cap, hv, c1, c2⟩
end
theorem new_f (tb : Nat) (w : World) :
    Calls Tryd.prog 56 #[.pointer (some ⟨tb, 0, none⟩)] w fun e w' => e = .returned (.pointer (some ⟨w.heap.size + 1, 0, none⟩)) ∧ (∃ v mb, Frs w' (w.heap.size + 1) tb (fun k => w.heap.size ≤ k ∧ k < w'.heap.size) [] v mb) ∧ Below w.heap.size w w' := by
  have hmm := @run_makeMap Tryd.prog
  go_enter Tryd.func56, Tryd.ntmps56
  go_wp2
  go_ret
  refine ⟨by simp, ⟨.slice none 0 0, w.heap.size, ?_⟩, ((Below.refl _ w).alloc (Nat.le_refl _) _).alloc (by simp) _⟩
  have hm := World.ownsMap_made w Tryd.prog 125 (plainElem (H := Unit) Tryd.prog 3)
  have hb : But (fun _ => False) (w.alloc (.map #[] 0)) ((w.alloc (.map #[] 0)).alloc (.cells #[.pointer (some ⟨tb, 0, none⟩), .slice none 0 0, .map (some w.heap.size)] 113 (0, 0))) := (But.refl _ _).alloc _
  refine ⟨?_, World.ownsRow_nil _ _ _ _, ⟨_, map_but hm hb (fun e => e), Fids.nil⟩, by simp, by simp; omega, by simp [Value.ownBlock], by simp, by simp⟩
  have := heap_alloc_new (w.alloc (.map #[] 0)) (.cells #[.pointer (some ⟨tb, 0, none⟩), .slice none 0 0, .map (some w.heap.size)] 113 (0, 0))
  rw [World.size_alloc] at this
  exact this
theorem new_f_nil (w : World) : Calls Tryd.prog 56 #[.pointer none] w fun e w' => e = .returned (.pointer none) ∧ w' = w := by
  go_enter Tryd.func56, Tryd.ntmps56
  go_wp2
  go_ret
  exact ⟨rfl, rfl⟩
theorem missing_any (fb tb : Nat) (w : World) (h0 : w.cell? ⟨fb, 0, none⟩ = some (.pointer (some ⟨tb, 0, none⟩))) :
    Calls Tryd.prog 77 #[.pointer (some ⟨fb, 0, none⟩)] w fun e w' => e = .returned (.bool false) ∧ w' = w := by
  go_enter Tryd.func77, Tryd.ntmps77
  go_wp2
  go_ret
  exact ⟨rfl, rfl⟩
theorem missing_nil (w : World) : Calls Tryd.prog 77 #[.pointer none] w fun e w' => e = .returned (.bool true) ∧ w' = w := by
  go_enter Tryd.func77, Tryd.ntmps77
  go_wp2
  go_ret
  exact ⟨rfl, rfl⟩
end Go.Proofs.YtpnacioliccglaaDoor.E6
