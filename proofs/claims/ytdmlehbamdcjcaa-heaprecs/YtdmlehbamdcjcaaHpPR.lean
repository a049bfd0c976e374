/-
  A heap by what is in it, in its order.
-/
import Derived.Test.YtdmlehbamdcjcaaHpHR
namespace Go.Proofs.Ytdmlehbamdcjcaa
open Go.RowKit
theorem ordR : Ord (fst bfR) := fst_ord fun a : Rc => a.stamp
/-- What is in a heap, in its order. -/
structure HsR (w : World) (base p : Nat) (v : Value) (n : Int) (S : List (Rc × Int)) : Prop where
  hq : ∃ E, HqR w base p v n E ∧ Hp (fst bfR) E ∧ E.Perm S
  srt : Srt (fst bfR) S
  trn : Turns S
  lt : ∀ e ∈ S, e.2 < n
  n0 : 0 ≤ n
theorem HsR.but {S : Nat → Prop} {w w' : World} {base p : Nat} {v : Value} {n : Int} {L : List (Rc × Int)} (h : HsR w base p v n L) (hb : But S w w') (hp : ¬ S p) (hv : ∀ g, v.ownBlock = some g → ¬ S g) : HsR w' base p v n L := by
  obtain ⟨E, h1, h2, h3⟩ := h.hq
  exact ⟨⟨E, h1.but hb hp hv, h2, h3⟩, h.srt, h.trn, h.lt, h.n0⟩
theorem HsR.below {w w' : World} {base p : Nat} {v : Value} {n : Int} {L : List (Rc × Int)} (h : HsR w base p v n L) (hb : Below w.heap.size w w') : HsR w' base p v n L :=
  h.but (S := fun _ => False) (But.of_below hb) (fun e => e) (fun _ _ e => e)
theorem HsR.plt {w : World} {base p : Nat} {v : Value} {n : Int} {L : List (Rc × Int)} (h : HsR w base p v n L) : p < w.heap.size := by
  obtain ⟨E, h1, _, _⟩ := h.hq
  exact h1.lt
theorem HsR.own {w : World} {base p : Nat} {v : Value} {n : Int} {L : List (Rc × Int)} (h : HsR w base p v n L) : ∀ g, v.ownBlock = some g → base ≤ g ∧ g < w.heap.size ∧ ∃ cur, w.heap[g]? = some (.cells cur 89 (0, 0)) := by
  obtain ⟨E, h1, _, _⟩ := h.hq
  intro g hg
  refine ⟨(h1.own.lt g hg).1, (h1.own.lt g hg).2, ?_⟩
  rcases h1.own.2 with ⟨e, _⟩ | ⟨g', cap, cur, e, _, hh, _⟩
  · rw [e] at hg; cases hg
  · rw [e] at hg; injection hg with hg; exact ⟨cur, by rw [← hg]; exact hh⟩
theorem HsR.blk {w : World} {base p : Nat} {v : Value} {n : Int} {L : List (Rc × Int)} (h : HsR w base p v n L) : w.heap[p]? = some (.cells #[v, .int .i64 n] 86 (0, 0)) := by
  obtain ⟨E, h1, _, _⟩ := h.hq
  exact h1.hp
theorem hnewR (w : World) : Calls Try.prog 21 #[] w fun r w' => r = .returned (.pointer (some ⟨w.heap.size, 0, none⟩)) ∧ HsR w' w.heap.size w.heap.size (.slice none 0 0) 0 [] ∧ Below w.heap.size w w' := by
  refine (newR w).mono ?_
  rintro r w' ⟨rfl, h, hb⟩
  exact ⟨rfl, ⟨⟨[], h, fun i x y _ hx => by simp at hx, .refl _⟩, .nil, .nil, fun e he => by simp at he, by omega⟩, hb⟩
theorem hlenR {w : World} {base p : Nat} {v : Value} {n : Int} {S : List (Rc × Int)} (h : HsR w base p v n S) : Calls Try.prog 24 #[.pointer (some ⟨p, 0, none⟩)] w fun r w' => r = .returned (.int .i64 S.length) ∧ w' = w := by
  obtain ⟨E, h1, h2, h3⟩ := h.hq
  rw [← h3.length_eq]
  exact lenR h1
theorem hpushR {w : World} {base p : Nat} {v : Value} {n : Int} {S : List (Rc × Int)} (x : Rc) (h : HsR w base p v n S) (hbase : base ≤ w.heap.size) (hn1 : n ≤ 9000000000000000000) (hl : (S.length : Int) + 1 ≤ 3518437208883) :
    Calls Try.prog 22 #[.pointer (some ⟨p, 0, none⟩), .agg #[.int .i64 x.stamp, .int .i64 x.kind, .int .u64 x.obj, .int .u64 x.arg, .int .i64 x.stack]] w fun r w' => r = .returned (.int .i64 0) ∧ ∃ v', HsR w' base p v' (n + 1) (ins (fst bfR) (x, n) S) ∧ But (fun k => k = p ∨ v.ownBlock = some k) w w' ∧ (∀ g, v'.ownBlock = some g → v.ownBlock = some g ∨ w.heap.size ≤ g) := by
  obtain ⟨E, h1, h2, h3⟩ := h.hq
  refine (pushR w base p v n E x h1 hbase h.n0 hn1 (by rw [h3.length_eq]; exact hl)).mono ?_
  rintro r w' ⟨rfl, g, c, E', hq, hp, hh, hb, hg⟩
  refine ⟨rfl, _, ⟨⟨E', hq, hh ordR h2, ?_⟩, ins_srt ordR _ h.srt, ?_, ?_, by have := h.n0; omega⟩, hb, fun g' hg' => ?_⟩
  · exact hp.trans (((h3.append_right _).trans List.perm_append_comm).trans (ins_perm _ _ _).symm)
  · exact Turns.perm (List.pairwise_cons.mpr ⟨fun e he => by have := h.lt e he; dsimp only; omega, h.trn⟩) (ins_perm _ _ _).symm
  · intro e he
    rcases List.mem_cons.mp ((ins_perm _ _ _).mem_iff.mp he) with rfl | he
    · dsimp only; omega
    · have := h.lt e he; omega
  · simp [Value.ownBlock] at hg'
    subst hg'
    exact hg
theorem hpopR {w : World} {base p : Nat} {v : Value} {n : Int} {e : Rc × Int} {S : List (Rc × Int)} (h : HsR w base p v n (e :: S)) (hl : (S.length : Int) + 1 ≤ 3518437208883) :
    Calls Try.prog 23 #[.pointer (some ⟨p, 0, none⟩)] w fun r w' => r = .returned (.tuple #[.agg #[.int .i64 e.1.stamp, .int .i64 e.1.kind, .int .u64 e.1.obj, .int .u64 e.1.arg, .int .i64 e.1.stack], .int .i64 0]) ∧ ∃ v', HsR w' base p v' n S ∧ But (fun k => k = p ∨ v.ownBlock = some k) w w' ∧ v'.ownBlock = v.ownBlock := by
  obtain ⟨E, h1, h2, h3⟩ := h.hq
  have hlen : E.length = S.length + 1 := h3.length_eq
  obtain ⟨d, hd⟩ : ∃ d, E[0]? = some d := ⟨_, List.getElem?_eq_getElem (by omega)⟩
  have hde : d = e := Hp.top ordR h2 h3 h.srt hd (fun x y hx hy => (h.trn.dist _) x y (h3.mem_iff.mp hx) (h3.mem_iff.mp hy))
  subst hde
  obtain ⟨g, c, rfl, _⟩ := h1.own.frm (by omega)
  rw [hlen] at h1
  refine (popR w base p g c S.length n E d h1 hlen hd hl).mono ?_
  rintro r w' ⟨rfl, E', hq, hp, hh, hb⟩
  refine ⟨rfl, _, ⟨⟨E', hq, hh ordR h2, ?_⟩, h.srt.tail, (List.pairwise_cons.mp h.trn).2, fun e he => h.lt e (List.mem_cons_of_mem _ he), h.n0⟩, hb.mono (fun k hk => ?_), rfl⟩
  · exact hp.trans (List.Perm.cons_inv ((cutTop_perm hd).symm.trans h3))
  · exact (hk : k = p ∨ k = g).imp id (fun e => by rw [e]; rfl)
theorem hpop0R {w : World} {base p : Nat} {v : Value} {n : Int} (h : HsR w base p v n []) :
    Calls Try.prog 23 #[.pointer (some ⟨p, 0, none⟩)] w fun r w' => r = .returned (.tuple #[.agg #[.int .i64 0, .int .i64 0, .int .u64 0, .int .u64 0, .int .i64 0], .int .i64 90]) ∧ Below w.heap.size w w' := by
  obtain ⟨E, h1, h2, h3⟩ := h.hq
  have := h3.eq_nil
  subst this
  exact pop_emptyR h1
theorem hpeekR {w : World} {base p : Nat} {v : Value} {n : Int} {e : Rc × Int} {S : List (Rc × Int)} (h : HsR w base p v n (e :: S)) :
    Calls Try.prog 47 #[.pointer (some ⟨p, 0, none⟩)] w fun r w' => r = .returned (.tuple #[.agg #[.int .i64 e.1.stamp, .int .i64 e.1.kind, .int .u64 e.1.obj, .int .u64 e.1.arg, .int .i64 e.1.stack], .int .i64 0]) ∧ Below w.heap.size w w' := by
  obtain ⟨E, h1, h2, h3⟩ := h.hq
  have hlen : E.length = S.length + 1 := h3.length_eq
  obtain ⟨d, hd⟩ : ∃ d, E[0]? = some d := ⟨_, List.getElem?_eq_getElem (by omega)⟩
  have hde : d = e := Hp.top ordR h2 h3 h.srt hd (fun x y hx hy => (h.trn.dist _) x y (h3.mem_iff.mp hx) (h3.mem_iff.mp hy))
  subst hde
  exact peekR h1 hd
theorem hpeek0R {w : World} {base p : Nat} {v : Value} {n : Int} (h : HsR w base p v n []) :
    Calls Try.prog 47 #[.pointer (some ⟨p, 0, none⟩)] w fun r w' => r = .returned (.tuple #[.agg #[.int .i64 0, .int .i64 0, .int .u64 0, .int .u64 0, .int .i64 0], .int .i64 90]) ∧ Below w.heap.size w w' := by
  obtain ⟨E, h1, h2, h3⟩ := h.hq
  have := h3.eq_nil
  subst this
  exact peek_emptyR h1
end Go.Proofs.Ytdmlehbamdcjcaa
