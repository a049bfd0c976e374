/-
  A heap by what is in it, in its order.
-/
import Derived.Test.YtdmlehbamdcjcabHpHI
namespace Go.Proofs.Ytdmlehbamdcjcab
open Go.RowKit
theorem ordI : Ord (fst bfI) := fst_ord fun a : It => a.k
/-- What is in a heap, in its order. -/
structure HsI (w : World) (base p : Nat) (v : Value) (n : Int) (S : List (It × Int)) : Prop where
  hq : ∃ E, HqI w base p v n E ∧ Hp (fst bfI) E ∧ E.Perm S
  srt : Srt (fst bfI) S
  trn : Turns S
  lt : ∀ e ∈ S, e.2 < n
  n0 : 0 ≤ n
theorem HsI.but {S : Nat → Prop} {w w' : World} {base p : Nat} {v : Value} {n : Int} {L : List (It × Int)} (h : HsI w base p v n L) (hb : But S w w') (hp : ¬ S p) (hv : ∀ g, v.ownBlock = some g → ¬ S g) : HsI w' base p v n L := by
  obtain ⟨E, h1, h2, h3⟩ := h.hq
  exact ⟨⟨E, h1.but hb hp hv, h2, h3⟩, h.srt, h.trn, h.lt, h.n0⟩
theorem HsI.below {w w' : World} {base p : Nat} {v : Value} {n : Int} {L : List (It × Int)} (h : HsI w base p v n L) (hb : Below w.heap.size w w') : HsI w' base p v n L :=
  h.but (S := fun _ => False) (But.of_below hb) (fun e => e) (fun _ _ e => e)
theorem HsI.plt {w : World} {base p : Nat} {v : Value} {n : Int} {L : List (It × Int)} (h : HsI w base p v n L) : p < w.heap.size := by
  obtain ⟨E, h1, _, _⟩ := h.hq
  exact h1.lt
theorem HsI.own {w : World} {base p : Nat} {v : Value} {n : Int} {L : List (It × Int)} (h : HsI w base p v n L) : ∀ g, v.ownBlock = some g → base ≤ g ∧ g < w.heap.size ∧ ∃ cur, w.heap[g]? = some (.cells cur 59 (0, 0)) := by
  obtain ⟨E, h1, _, _⟩ := h.hq
  intro g hg
  refine ⟨(h1.own.lt g hg).1, (h1.own.lt g hg).2, ?_⟩
  rcases h1.own.2 with ⟨e, _⟩ | ⟨g', cap, cur, e, _, hh, _⟩
  · rw [e] at hg; cases hg
  · rw [e] at hg; injection hg with hg; exact ⟨cur, by rw [← hg]; exact hh⟩
theorem HsI.blk {w : World} {base p : Nat} {v : Value} {n : Int} {L : List (It × Int)} (h : HsI w base p v n L) : w.heap[p]? = some (.cells #[v, .int .i64 n] 56 (0, 0)) := by
  obtain ⟨E, h1, _, _⟩ := h.hq
  exact h1.hp
theorem hnewI (w : World) : Calls Try.prog 11 #[] w fun r w' => r = .returned (.pointer (some ⟨w.heap.size, 0, none⟩)) ∧ HsI w' w.heap.size w.heap.size (.slice none 0 0) 0 [] ∧ Below w.heap.size w w' := by
  refine (newI w).mono ?_
  rintro r w' ⟨rfl, h, hb⟩
  exact ⟨rfl, ⟨⟨[], h, fun i x y _ hx => by simp at hx, .refl _⟩, .nil, .nil, fun e he => by simp at he, by omega⟩, hb⟩
theorem hlenI {w : World} {base p : Nat} {v : Value} {n : Int} {S : List (It × Int)} (h : HsI w base p v n S) : Calls Try.prog 13 #[.pointer (some ⟨p, 0, none⟩)] w fun r w' => r = .returned (.int .i64 S.length) ∧ w' = w := by
  obtain ⟨E, h1, h2, h3⟩ := h.hq
  rw [← h3.length_eq]
  exact lenI h1
theorem hpushI {w : World} {base p : Nat} {v : Value} {n : Int} {S : List (It × Int)} (x : It) (h : HsI w base p v n S) (hbase : base ≤ w.heap.size) (hn1 : n ≤ 9000000000000000000) (hl : (S.length : Int) + 1 ≤ 5000000000000) :
    Calls Try.prog 12 #[.pointer (some ⟨p, 0, none⟩), .agg #[.int .i64 x.k, .int .i64 x.t]] w fun r w' => r = .returned (.int .i64 0) ∧ ∃ v', HsI w' base p v' (n + 1) (ins (fst bfI) (x, n) S) ∧ But (fun k => k = p ∨ v.ownBlock = some k) w w' ∧ (∀ g, v'.ownBlock = some g → v.ownBlock = some g ∨ w.heap.size ≤ g) := by
  obtain ⟨E, h1, h2, h3⟩ := h.hq
  refine (pushI w base p v n E x h1 hbase h.n0 hn1 (by rw [h3.length_eq]; exact hl)).mono ?_
  rintro r w' ⟨rfl, g, c, E', hq, hp, hh, hb, hg⟩
  refine ⟨rfl, _, ⟨⟨E', hq, hh ordI h2, ?_⟩, ins_srt ordI _ h.srt, ?_, ?_, by have := h.n0; omega⟩, hb, fun g' hg' => ?_⟩
  · exact hp.trans (((h3.append_right _).trans List.perm_append_comm).trans (ins_perm _ _ _).symm)
  · exact Turns.perm (List.pairwise_cons.mpr ⟨fun e he => by have := h.lt e he; dsimp only; omega, h.trn⟩) (ins_perm _ _ _).symm
  · intro e he
    rcases List.mem_cons.mp ((ins_perm _ _ _).mem_iff.mp he) with rfl | he
    · dsimp only; omega
    · have := h.lt e he; omega
  · simp [Value.ownBlock] at hg'
    subst hg'
    exact hg
theorem hpopI {w : World} {base p : Nat} {v : Value} {n : Int} {e : It × Int} {S : List (It × Int)} (h : HsI w base p v n (e :: S)) (hl : (S.length : Int) + 1 ≤ 5000000000000) :
    Calls Try.prog 17 #[.pointer (some ⟨p, 0, none⟩)] w fun r w' => r = .returned (.tuple #[.agg #[.int .i64 e.1.k, .int .i64 e.1.t], .int .i64 0]) ∧ ∃ v', HsI w' base p v' n S ∧ But (fun k => k = p ∨ v.ownBlock = some k) w w' ∧ v'.ownBlock = v.ownBlock := by
  obtain ⟨E, h1, h2, h3⟩ := h.hq
  have hlen : E.length = S.length + 1 := h3.length_eq
  obtain ⟨d, hd⟩ : ∃ d, E[0]? = some d := ⟨_, List.getElem?_eq_getElem (by omega)⟩
  have hde : d = e := Hp.top ordI h2 h3 h.srt hd (fun x y hx hy => (h.trn.dist _) x y (h3.mem_iff.mp hx) (h3.mem_iff.mp hy))
  subst hde
  obtain ⟨g, c, rfl, _⟩ := h1.own.frm (by omega)
  rw [hlen] at h1
  refine (popI w base p g c S.length n E d h1 hlen hd hl).mono ?_
  rintro r w' ⟨rfl, E', hq, hp, hh, hb⟩
  refine ⟨rfl, _, ⟨⟨E', hq, hh ordI h2, ?_⟩, h.srt.tail, (List.pairwise_cons.mp h.trn).2, fun e he => h.lt e (List.mem_cons_of_mem _ he), h.n0⟩, hb.mono (fun k hk => ?_), rfl⟩
  · exact hp.trans (List.Perm.cons_inv ((cutTop_perm hd).symm.trans h3))
  · exact (hk : k = p ∨ k = g).imp id (fun e => by rw [e]; rfl)
theorem hpop0I {w : World} {base p : Nat} {v : Value} {n : Int} (h : HsI w base p v n []) :
    Calls Try.prog 17 #[.pointer (some ⟨p, 0, none⟩)] w fun r w' => r = .returned (.tuple #[.agg #[.int .i64 0, .int .i64 0], .int .i64 90]) ∧ Below w.heap.size w w' := by
  obtain ⟨E, h1, h2, h3⟩ := h.hq
  have := h3.eq_nil
  subst this
  exact pop_emptyI h1
theorem hpeekI {w : World} {base p : Nat} {v : Value} {n : Int} {e : It × Int} {S : List (It × Int)} (h : HsI w base p v n (e :: S)) :
    Calls Try.prog 16 #[.pointer (some ⟨p, 0, none⟩)] w fun r w' => r = .returned (.tuple #[.agg #[.int .i64 e.1.k, .int .i64 e.1.t], .int .i64 0]) ∧ Below w.heap.size w w' := by
  obtain ⟨E, h1, h2, h3⟩ := h.hq
  have hlen : E.length = S.length + 1 := h3.length_eq
  obtain ⟨d, hd⟩ : ∃ d, E[0]? = some d := ⟨_, List.getElem?_eq_getElem (by omega)⟩
  have hde : d = e := Hp.top ordI h2 h3 h.srt hd (fun x y hx hy => (h.trn.dist _) x y (h3.mem_iff.mp hx) (h3.mem_iff.mp hy))
  subst hde
  exact peekI h1 hd
theorem hpeek0I {w : World} {base p : Nat} {v : Value} {n : Int} (h : HsI w base p v n []) :
    Calls Try.prog 16 #[.pointer (some ⟨p, 0, none⟩)] w fun r w' => r = .returned (.tuple #[.agg #[.int .i64 0, .int .i64 0], .int .i64 90]) ∧ Below w.heap.size w w' := by
  obtain ⟨E, h1, h2, h3⟩ := h.hq
  have := h3.eq_nil
  subst this
  exact peek_emptyI h1
end Go.Proofs.Ytdmlehbamdcjcab
