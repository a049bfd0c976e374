/-
  Merge of any rows; of the rows of a trace.
-/
import Derived.Test.YtdlpffbeladgaabMrA
namespace Go.Proofs.Ytdlpffbeladgaab
open Go.RowKit
/-- What Merge answers: an error, or what is taken. -/
def Mres (Gs : List (Int × List Rc)) (err : Int) (O : List (Nat × Rc)) : Prop :=
  (rfault (-1) 0 Gs ≠ 0 ∧ err = rfault (-1) 0 Gs ∧ O = []) ∨
  (rfault (-1) 0 Gs = 0 ∧ ∃ (O' : List (Nat × Rc)) (Ls : List (List Rc)) (at_ f : Int), Run (Gs.map Prod.snd) O' Ls at_ ∧ Flt Ls at_ f ∧ f ≠ 0 ∧ ((f ≠ 90 ∧ err = f ∧ O = []) ∨ (f = 90 ∧ err = 0 ∧ O = O')))
theorem Mres.uniq {Gs : List (Int × List Rc)} {err err' : Int} {O O' : List (Nat × Rc)} (h : Mres Gs err O) (h' : Mres Gs err' O') : err = err' ∧ O = O' := by
  rcases h with ⟨h1, h2, h3⟩ | ⟨h1, P, Ls, at_, f, h2, h3, h4, h5⟩ <;> rcases h' with ⟨g1, g2, g3⟩ | ⟨g1, P', Ls', at', f', g2, g3, g4, g5⟩
  · exact ⟨by rw [h2, g2], by rw [h3, g3]⟩
  · exact absurd g1 h1
  · exact absurd h1 g1
  · obtain ⟨e1, e2⟩ := h2.uniq g2 h3 g3 h4 g4
    subst e1; subst e2
    rcases h5 with ⟨a1, a2, a3⟩ | ⟨a1, a2, a3⟩ <;> rcases g5 with ⟨c1, c2, c3⟩ | ⟨c1, c2, c3⟩
    · exact ⟨by rw [a2, c2], by rw [a3, c3]⟩
    · exact absurd c1 a1
    · exact absurd a1 c1
    · exact ⟨by rw [a2, c2], by rw [a3, c3]⟩
theorem Mres.none {Gs : List (Int × List Rc)} {err : Int} {O : List (Nat × Rc)} (h : Mres Gs err O) (he : err ≠ 0) : O = [] := by
  rcases h with ⟨_, _, h3⟩ | ⟨_, _, _, _, _, _, _, _, ⟨_, _, h3⟩ | ⟨_, h2, _⟩⟩
  · exact h3
  · exact h3
  · exact absurd h2 he
theorem Mres.len {Gs : List (Int × List Rc)} {err : Int} {O : List (Nat × Rc)} (h : Mres Gs err O) : O.length ≤ 1048576 := by
  rcases h with ⟨_, _, h3⟩ | ⟨h1, P, _, _, _, h2, _, _, ⟨_, _, h3⟩ | ⟨_, _, h3⟩⟩
  · rw [h3]; simp
  · rw [h3]; simp
  · rw [h3]
    have := h2.tot
    have := (RowsOk.of h1).tot
    omega
/-- What comes out of rows that are all taken. -/
theorem Mres.ok {Gs : List (Int × List Rc)} {O : List (Nat × Rc)} (h : Mres Gs 0 O) : RowsOk Gs ∧ Gors (Gs.map Prod.fst) (evs (Gs.map Prod.fst) O) ∧ rowsOf (Gs.map Prod.fst) (evs (Gs.map Prod.fst) O) = Gs := by
  rcases h with ⟨h1, h2, h3⟩ | ⟨h1, P, Ls, at_, f, h2, h3, h4, ⟨a1, a2, a3⟩ | ⟨a1, a2, a3⟩⟩
  · exact absurd h2.symm h1
  · exact absurd a2.symm h4
  · subst a3
    have hok := RowsOk.of h1
    refine ⟨hok, rows_back hok h2 ?_⟩
    rcases h3 with ⟨_, q⟩ | ⟨k, r, t, _, q2⟩
    · exact q
    · rw [a1] at q2
      split at q2
      · omega
      · split at q2 <;> omega
theorem evV_evs (gs : List Int) (O : List (Nat × Rc)) : O.map (evV gs) = (evs gs O).map Prod.fst := by unfold evs; rw [List.map_map]; rfl
theorem stk_evs (gs : List Int) (O : List (Nat × Rc)) : (O.map fun o => o.2.stack) = (evs gs O).map Prod.snd := by unfold evs; rw [List.map_map]; rfl
theorem merge_any (w : World) (a : Option Addr) (n c : Nat) (rws : List Rw) (Gs : List (Int × List Rc)) (hr : Rdz w a n rws Gs) (h0 : a = none → n = 0 ∧ c = 0) (hn : (n : Int) ≤ 9000000000000000000) (hm : ∀ G ∈ Gs, G.2.length * 40 ≤ 140737488355328) :
    Calls Try.prog 9 #[.slice a n c] w fun r w' => ∃ v1 v2 err O, r = .returned (.tuple #[v1, v2, .int .i64 err]) ∧ Mres Gs err O ∧ Own layV 30 w' w.heap.size v1 ((evs (Gs.map Prod.fst) O).map Prod.fst) ∧ Own layN 3 w' w.heap.size v2 ((evs (Gs.map Prod.fst) O).map Prod.snd) ∧ Below w.heap.size w w' := by
  by_cases hf : rfault (-1) 0 Gs = 0
  · refine (merge_ok w a n c rws Gs hr h0 hm (RowsOk.of hf)).mono ?_
    rintro r w' ⟨hb, O, Ls, at_, f, h1, h2, h3, ⟨h4, rfl⟩ | ⟨h4, v1, v2, rfl, o1, o2⟩⟩
    · exact ⟨_, _, f, [], rfl, .inr ⟨hf, O, Ls, at_, f, h1, h2, h3, .inl ⟨h4, rfl, rfl⟩⟩, Own.nil _ _ _ _, Own.nil _ _ _ _, hb⟩
    · exact ⟨v1, v2, 0, O, rfl, .inr ⟨hf, O, Ls, at_, f, h1, h2, h3, .inr ⟨h4, rfl, rfl⟩⟩, by rw [← evV_evs]; exact o1, by rw [← stk_evs]; exact o2, hb⟩
  · refine (merge_bad w a n c rws Gs hr hn hm hf).mono ?_
    rintro r w' ⟨rfl, hb⟩
    exact ⟨_, _, _, [], rfl, .inl ⟨hf, rfl, rfl⟩, Own.nil _ _ _ _, Own.nil _ _ _ _, hb⟩
def bareV (e : Vt) : Vt := ⟨e.g, e.kind, e.obj, e.arg, ⟨none, 0, 0⟩⟩
theorem Mres.trace {K : List Int} {L : List (Vt × Int)} (hK : Gors K L) (hl : L.length ≤ 1048576) (hg : ∀ e ∈ L, 0 ≤ e.1.g ∧ e.1.g < 65536) : Mres (rowsOf K L) 0 (taken K L 0) :=
  .inr ⟨(RowsOk.rows hK hl hg).zero, _, _, _, 90, run_rows hK, flt_none _ _, by decide, .inr ⟨rfl, rfl, rfl⟩⟩
theorem evs_trace {K : List Int} {L : List (Vt × Int)} (hK : Gors K L) : (evs ((rowsOf K L).map Prod.fst) (taken K L 0)).map Prod.fst = L.map (fun e => bareV e.1) ∧ (evs ((rowsOf K L).map Prod.fst) (taken K L 0)).map Prod.snd = L.map Prod.snd := by
  rw [map_fst_rowsOf, evs_taken hK.asc L 0 (fun e he => (hK.mem _).2 ⟨e, he, rfl⟩), List.map_map, List.map_map]
  exact ⟨rfl, rfl⟩
/-- The rows of a trace are put together as the trace. -/
theorem merge_trace (w : World) (a : Option Addr) (n c : Nat) (rws : List Rw) (K : List Int) (L : List (Vt × Int)) (hr : Rdz w a n rws (rowsOf K L)) (h0 : a = none → n = 0 ∧ c = 0) (hK : Gors K L) (hl : L.length ≤ 1048576) (hg : ∀ e ∈ L, 0 ≤ e.1.g ∧ e.1.g < 65536) :
    Calls Try.prog 9 #[.slice a n c] w fun r w' => ∃ v1 v2, r = .returned (.tuple #[v1, v2, .int .i64 0]) ∧ Own layV 30 w' w.heap.size v1 (L.map fun e => bareV e.1) ∧ Own layN 3 w' w.heap.size v2 (L.map Prod.snd) ∧ Below w.heap.size w w' := by
  have hgl : ∀ G ∈ rowsOf K L, G.2.length * 40 ≤ 140737488355328 := fun G hG => by
    unfold rowsOf at hG
    obtain ⟨g, _, rfl⟩ := List.mem_map.1 hG
    have := recG_len g L
    dsimp only
    omega
  have hn : (n : Int) ≤ 9000000000000000000 := by
    have h1 := hr.row.len
    have h2 := hr.len
    have h3 := hK.len
    unfold rowsOf at h2
    rw [List.length_map] at h2
    omega
  refine (merge_any w a n c rws _ hr h0 hn hgl).mono ?_
  rintro r w' ⟨v1, v2, err, O, rfl, h1, o1, o2, hb⟩
  obtain ⟨e1, e2⟩ := h1.uniq (Mres.trace hK hl hg)
  subst e1; subst e2
  rw [(evs_trace hK).1] at o1
  rw [(evs_trace hK).2] at o2
  exact ⟨v1, v2, rfl, o1, o2, hb⟩
end Go.Proofs.Ytdlpffbeladgaab
