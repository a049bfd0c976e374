/-
  A trace's rows and the run of their takings, as mathematics: two ways.
-/
import Derived.Test.YtdlpffbeladgaabMgM
namespace Go.Proofs.Ytdlpffbeladgaab
open Go.RowKit
/-- A goroutine's records of what is left of a trace, from the place n on. -/
def recS (g : Int) (L : List (Vt × Int)) (n : Nat) : List Rc := ((L.zipIdx n).filter fun x => decide (x.1.1.g = g)).map rcOf
theorem recS_zero (g : Int) (L : List (Vt × Int)) : recS g L 0 = recG g L := rfl
theorem recS_nil (g : Int) (n : Nat) : recS g [] n = [] := rfl
theorem recS_mine {g : Int} {x : Vt × Int} (L : List (Vt × Int)) (n : Nat) (h : x.1.g = g) : recS g (x :: L) n = rcOf (x, n) :: recS g L (n + 1) := by
  unfold recS
  rw [List.zipIdx_cons, List.filter_cons, if_pos (by simpa using h)]
  rfl
theorem recS_other {g : Int} {x : Vt × Int} (L : List (Vt × Int)) (n : Nat) (h : x.1.g ≠ g) : recS g (x :: L) n = recS g L (n + 1) := by
  unfold recS
  rw [List.zipIdx_cons, List.filter_cons, if_neg (by simpa using h)]
theorem recS_low (g : Int) : ∀ (L : List (Vt × Int)) (n : Nat) (r : Rc), r ∈ recS g L n → (n : Int) ≤ r.stamp ∧ r.stamp < n + L.length
  | [], _, r, h => by simp [recS] at h
  | x :: L, n, r, h => by
    by_cases hg : x.1.g = g
    · rw [recS_mine L n hg] at h
      rcases List.mem_cons.1 h with rfl | h
      · simp [rcOf]; omega
      · have := recS_low g L (n + 1) r h
        simp at this ⊢; omega
    · rw [recS_other L n hg] at h
      have := recS_low g L (n + 1) r h
      simp at this ⊢; omega
theorem recS_rise (g : Int) : ∀ (L : List (Vt × Int)) (n : Nat), (recS g L n).Pairwise fun a b => a.stamp < b.stamp
  | [], _ => by simp [recS]
  | x :: L, n => by
    by_cases hg : x.1.g = g
    · rw [recS_mine L n hg]
      refine List.pairwise_cons.2 ⟨fun b hb => ?_, recS_rise g L (n + 1)⟩
      have := recS_low g L (n + 1) b hb
      simp [rcOf]; omega
    · rw [recS_other L n hg]; exact recS_rise g L (n + 1)
theorem Rising.recG {g : Int} {L : List (Vt × Int)} (h : L.length ≤ 1048576) : Rising (recG g L) := by
  rw [← recS_zero]
  exact ⟨recS_rise g L 0, fun r hr => by have := recS_low g L 0 r hr; omega⟩
/-- Where a goroutine stands. -/
theorem asc_at {K : List Int} {g : Int} (h : g ∈ K) : ∃ k : Nat, K[k]? = some g := List.getElem?_of_mem h
theorem set_step {K : List Int} (hK : K.Pairwise fun a b => a < b) {x : Vt × Int} {L : List (Vt × Int)} {n k : Nat} (hk : K[k]? = some x.1.g) : (K.map fun g => recS g (x :: L) n).set k (recS x.1.g L (n + 1)) = K.map fun g => recS g L (n + 1) := by
  refine List.ext_getElem? fun j => ?_
  rw [List.getElem?_set]
  by_cases hj : k = j
  · subst hj
    have hl := get_lt hk
    rw [if_pos rfl, if_pos (by simpa using hl), List.getElem?_map, hk]; rfl
  · rw [if_neg hj, List.getElem?_map, List.getElem?_map]
    cases hg : K[j]? with
    | none => rfl
    | some g =>
      simp only [Option.map_some]
      rw [recS_other L n (fun e => hj (asc_inj hK hk (by rw [e]; exact hg)))]
theorem pick_step {K : List Int} (hK : K.Pairwise fun a b => a < b) {x : Vt × Int} {L : List (Vt × Int)} {n k : Nat} (hk : K[k]? = some x.1.g) : Pick (K.map fun g => recS g (x :: L) n) k (rcOf (x, n)) (recS x.1.g L (n + 1)) := by
  refine ⟨by rw [List.getElem?_map, hk]; simp only [Option.map_some]; rw [recS_mine L n rfl], fun j y u hj => ?_⟩
  rw [List.getElem?_map] at hj
  cases hg : K[j]? with
  | none => rw [hg] at hj; cases hj
  | some g =>
    rw [hg] at hj
    simp only [Option.map_some] at hj
    have hj := Option.some.inj hj
    by_cases e : x.1.g = g
    · rw [recS_mine L n e] at hj
      injection hj with h1 h2
      subst e
      have := asc_inj hK hk hg
      subst this
      rw [h1]; exact .inr ⟨rfl, Nat.le_refl _⟩
    · rw [recS_other L n e] at hj
      have := recS_low g L (n + 1) y (by rw [hj]; exact List.mem_cons_self ..)
      refine .inl ?_
      simp [rcOf]; omega
/-- What is taken of a trace, row by row. -/
def taken (K : List Int) (L : List (Vt × Int)) (n : Nat) : List (Nat × Rc) := (L.zipIdx n).map fun x => (K.idxOf x.1.1.g, rcOf x)
theorem idx_of {K : List Int} (hK : K.Pairwise fun a b => a < b) {k : Nat} {g : Int} (h : K[k]? = some g) : K.idxOf g = k := by
  have hm := List.mem_of_getElem? h
  refine asc_inj hK ?_ h
  have hl := List.idxOf_lt_length_iff.2 hm
  rw [List.getElem?_eq_getElem hl, List.getElem_idxOf hl]
theorem run_trace {K : List Int} (hK : K.Pairwise fun a b => a < b) (Ls0 : List (List Rc)) : ∀ (L : List (Vt × Int)) (n : Nat) (O : List (Nat × Rc)), (∀ e ∈ L, e.1.g ∈ K) → Run Ls0 O (K.map fun g => recS g L n) n → Run Ls0 (O ++ taken K L n) (K.map fun _ => []) ((n + L.length : Nat) : Int)
  | [], n, O, _, h => by simpa [taken, recS_nil] using h
  | x :: L, n, O, hm, h => by
    obtain ⟨k, hk⟩ := asc_at (hm x (List.mem_cons_self ..))
    have h1 := Run.snoc h (pick_step hK hk) (by simp [rcOf])
    rw [set_step hK hk, show ((n : Int) + 1) = ((n + 1 : Nat) : Int) by omega] at h1
    have h2 := run_trace hK Ls0 L (n + 1) _ (fun e he => hm e (List.mem_cons_of_mem _ he)) h1
    have e1 : O ++ taken K (x :: L) n = O ++ [(k, rcOf (x, n))] ++ taken K L (n + 1) := by
      unfold taken
      rw [List.zipIdx_cons, List.map_cons, idx_of hK hk, List.append_assoc]; rfl
    rw [e1, List.length_cons, show n + (L.length + 1) = n + 1 + L.length by omega]
    exact h2
theorem map_snd_rowsOf (K : List Int) (L : List (Vt × Int)) : (rowsOf K L).map Prod.snd = K.map fun g => recG g L := by unfold rowsOf; rw [List.map_map]; rfl
theorem map_fst_rowsOf (K : List Int) (L : List (Vt × Int)) : (rowsOf K L).map Prod.fst = K := by unfold rowsOf; rw [List.map_map]; exact List.map_id _
/-- A trace's rows are taken event by event. -/
theorem run_rows {K : List Int} {L : List (Vt × Int)} (h : Gors K L) : Run ((rowsOf K L).map Prod.snd) (taken K L 0) (K.map fun _ => []) (L.length : Int) := by
  have h1 := run_trace h.asc ((rowsOf K L).map Prod.snd) L 0 [] (fun e he => (h.mem _).2 ⟨e, he, rfl⟩) (by rw [map_snd_rowsOf]; exact Run.nil)
  simpa using h1
theorem tot_none (K : List Int) : tot (K.map fun _ => ([] : List Rc)) = 0 := by
  induction K with
  | nil => rfl
  | cons k K ih => rw [List.map_cons, tot_cons, ih]; rfl
theorem tot_rows {K : List Int} {L : List (Vt × Int)} (h : Gors K L) : tot ((rowsOf K L).map Prod.snd) = L.length := by
  have h1 := (run_rows h).tot
  rw [tot_none] at h1
  rw [← h1]; simp [taken]
theorem flt_none (K : List Int) (a : Int) : Flt (K.map fun _ => []) a 90 := .inl ⟨rfl, fun L hL => by obtain ⟨k, _, rfl⟩ := List.mem_map.1 hL; rfl⟩
theorem RowsOk.rows {K : List Int} {L : List (Vt × Int)} (h : Gors K L) (hl : L.length ≤ 1048576) (hg : ∀ e ∈ L, 0 ≤ e.1.g ∧ e.1.g < 65536) : RowsOk (rowsOf K L) := by
  refine ⟨by rw [map_fst_rowsOf]; exact h.asc, fun G hG => ?_, fun G hG => ?_, fun G hG => ?_, by rw [tot_rows h]; exact hl⟩
  all_goals (unfold rowsOf at hG; obtain ⟨g, hm, rfl⟩ := List.mem_map.1 hG)
  · obtain ⟨e, he, rfl⟩ := (h.mem g).1 hm
    exact hg e he
  · exact recG_ne.2 ((h.mem g).1 hm)
  · exact Rising.recG hl
/-- The events that takings tell, with their stacks' numbers. -/
def evs (gs : List Int) (O : List (Nat × Rc)) : List (Vt × Int) := O.map fun o => (⟨gs.getD o.1 0, o.2.kind, o.2.obj, o.2.arg, default⟩, o.2.stack)
theorem evs_snoc (gs : List Int) (O : List (Nat × Rc)) (o : Nat × Rc) : evs gs (O ++ [o]) = evs gs O ++ [(⟨gs.getD o.1 0, o.2.kind, o.2.obj, o.2.arg, default⟩, o.2.stack)] := by unfold evs; rw [List.map_append]; rfl
theorem run_back {gs : List Int} (hK : gs.Pairwise fun a b => a < b) {Ls0 Ls : List (List Rc)} {O : List (Nat × Rc)} {a : Int} (hl : Ls0.length = gs.length) (h : Run Ls0 O Ls a) : ∀ (k : Nat) (g : Int) (L0 L1 : List Rc), gs[k]? = some g → Ls0[k]? = some L0 → Ls[k]? = some L1 → L0 = recG g (evs gs O) ++ L1 := by
  induction h with
  | nil => intro k g L0 L1 h1 h2 h3; rw [h2] at h3; cases h3; rfl
  | @snoc O Ls a k' r t g1 g2 g3 ih =>
    intro k g L0 L1 h1 h2 h3
    have ha := g1.at_
    have hkl : k' < gs.length := by rw [← hl, ← g1.len]; exact get_lt g2.at_
    have hk' : gs[k']? = some (gs.getD k' 0) := by rw [List.getD_eq_getElem?_getD, List.getElem?_eq_getElem hkl]; rfl
    have hlen : (evs gs O).length = O.length := by unfold evs; rw [List.length_map]
    rw [evs_snoc]
    rw [List.getElem?_set] at h3
    by_cases hk : k' = k
    · subst hk
      rw [if_pos rfl, if_pos (get_lt g2.at_)] at h3
      cases h3
      rw [h1] at hk'
      have hg9 := Option.some.inj hk'
      rw [recG_mine (by dsimp only; exact hg9.symm), List.append_assoc]
      have := ih k' g L0 (r :: t) h1 h2 g2.at_
      rw [this]
      congr 1
      have e9 : rcOf (((⟨gs.getD k' 0, r.kind, r.obj, r.arg, default⟩ : Vt), r.stack), (evs gs O).length) = r := by
        unfold rcOf
        dsimp only
        rw [hlen, ← ha, ← g3]
      dsimp only at e9 ⊢
      rw [e9]; rfl
    · rw [if_neg hk] at h3
      rw [recG_other (by dsimp only; intro e; exact hk (asc_inj hK hk' (by rw [e]; exact h1)))]
      exact ih k g L0 L1 h1 h2 h3
/-- Rows that are all taken are those of what was taken. -/
theorem rows_back {Gs : List (Int × List Rc)} (hok : RowsOk Gs) {O : List (Nat × Rc)} {Ls : List (List Rc)} {a : Int} (h : Run (Gs.map Prod.snd) O Ls a) (he : ∀ L ∈ Ls, L = []) : Gors (Gs.map Prod.fst) (evs (Gs.map Prod.fst) O) ∧ rowsOf (Gs.map Prod.fst) (evs (Gs.map Prod.fst) O) = Gs := by
  have hl : (Gs.map Prod.snd).length = (Gs.map Prod.fst).length := by simp
  have each : ∀ (k : Nat) (G : Int × List Rc), Gs[k]? = some G → G.2 = recG G.1 (evs (Gs.map Prod.fst) O) := by
    intro k G hG
    have hkl : k < Ls.length := by rw [h.len, List.length_map]; exact get_lt hG
    have h1 := run_back hok.asc hl h k G.1 G.2 (Ls[k]) (by rw [List.getElem?_map, hG]; rfl) (by rw [List.getElem?_map, hG]; rfl) (List.getElem?_eq_getElem hkl)
    rw [he _ (List.getElem_mem hkl), List.append_nil] at h1
    exact h1
  have hin : ∀ o ∈ O, o.1 < Gs.length := by
    clear each he
    induction h with
    | nil => intro o ho; simp at ho
    | @snoc O Ls a k' r t g1 g2 g3 ih =>
      intro o ho
      rcases List.mem_append.1 ho with ho | ho
      · exact ih o ho
      · rw [List.mem_singleton.1 ho]
        have := get_lt g2.at_
        rw [g1.len, List.length_map] at this
        exact this
  refine ⟨⟨hok.asc, fun g => ?_⟩, ?_⟩
  · constructor
    · intro hg
      obtain ⟨G, hG, rfl⟩ := List.mem_map.1 hg
      obtain ⟨k, hk⟩ := List.getElem?_of_mem hG
      have := hok.ne G hG
      rw [each k G hk] at this
      exact recG_ne.1 this
    · rintro ⟨e, he, rfl⟩
      unfold evs at he
      obtain ⟨o, ho, rfl⟩ := List.mem_map.1 he
      dsimp only
      have := hin o ho
      rw [List.getD_eq_getElem?_getD, List.getElem?_eq_getElem (by rw [List.length_map]; exact this)]
      exact List.getElem_mem _
  · unfold rowsOf
    rw [List.map_map]
    refine List.ext_getElem? fun j => ?_
    rw [List.getElem?_map]
    cases hG : Gs[j]? with
    | none => rfl
    | some G =>
      simp only [Option.map_some, Function.comp]
      rw [← each j G hG]
theorem evs_taken {K : List Int} (hK : K.Pairwise fun a b => a < b) : ∀ (L : List (Vt × Int)) (n : Nat), (∀ e ∈ L, e.1.g ∈ K) → evs K (taken K L n) = L.map fun e => (⟨e.1.g, e.1.kind, e.1.obj, e.1.arg, default⟩, e.2)
  | [], _, _ => rfl
  | x :: L, n, hm => by
    have h1 := evs_taken hK L (n + 1) (fun e he => hm e (List.mem_cons_of_mem _ he))
    obtain ⟨k, hk⟩ := asc_at (hm x (List.mem_cons_self ..))
    unfold taken evs at h1 ⊢
    rw [List.zipIdx_cons, List.map_cons, List.map_cons, List.map_cons, h1]
    congr 1
    dsimp only
    rw [idx_of hK hk, List.getD_eq_getElem?_getD, hk]; rfl
end Go.Proofs.Ytdlpffbeladgaab
