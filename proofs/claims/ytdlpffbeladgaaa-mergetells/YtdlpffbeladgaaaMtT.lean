/-
  A record taken out of a trace's rows, or put in twice, as mathematics.
-/
import Derived.Test.YtdlpffbeladgaaaMrB
namespace Go.Proofs.Ytdlpffbeladgaaa
open Go.RowKit
/-- Rows that are left of a trace, with something amiss at a place. -/
structure Fam (R : Int → List (Vt × Int) → Nat → List Rc) (at_ : Nat) : Prop where
  mine : ∀ (x : Vt × Int) (M : List (Vt × Int)) (m : Nat), m < at_ → R x.1.g (x :: M) m = rcOf (x, m) :: R x.1.g M (m + 1)
  other : ∀ (g : Int) (x : Vt × Int) (M : List (Vt × Int)) (m : Nat), m < at_ → x.1.g ≠ g → R g (x :: M) m = R g M (m + 1)
  low : ∀ (g : Int) (M : List (Vt × Int)) (m : Nat) (r : Rc), m ≤ at_ → r ∈ R g M m → (m : Int) ≤ r.stamp
theorem Fam.run {R : Int → List (Vt × Int) → Nat → List Rc} {at_ : Nat} (F : Fam R at_) {K : List Int} (hK : K.Pairwise fun a b => a < b) (Ls0 : List (List Rc)) : ∀ (L : List (Vt × Int)) (n : Nat) (O : List (Nat × Rc)) (j : Nat), n + j = at_ → j ≤ L.length → (∀ (i : Nat) (e : Vt × Int), i < j → L[i]? = some e → e.1.g ∈ K) → Run Ls0 O (K.map fun g => R g L n) n → ∃ O', Run Ls0 O' (K.map fun g => R g (L.drop j) at_) at_
  | L, n, O, 0, hn, _, _, h => by
    have e : n = at_ := by omega
    subst e
    exact ⟨O, h⟩
  | [], n, O, j + 1, _, hl, _, _ => by simp at hl
  | x :: L, n, O, j + 1, hn, hl, hm, h => by
    obtain ⟨k, hk⟩ := asc_at (hm 0 x (by omega) rfl)
    have hlt : n < at_ := by omega
    have hp : Pick (K.map fun g => R g (x :: L) n) k (rcOf (x, n)) (R x.1.g L (n + 1)) := by
      refine ⟨by rw [List.getElem?_map, hk]; simp only [Option.map_some]; rw [F.mine x L n hlt], fun i y u hi => ?_⟩
      rw [List.getElem?_map] at hi
      cases hg : K[i]? with
      | none => rw [hg] at hi; cases hi
      | some g =>
        rw [hg] at hi
        simp only [Option.map_some] at hi
        have hi := Option.some.inj hi
        by_cases e : x.1.g = g
        · subst e
          rw [F.mine x L n hlt] at hi
          injection hi with h1 h2
          have := asc_inj hK hk hg
          subst this
          rw [h1]; exact .inr ⟨rfl, Nat.le_refl _⟩
        · rw [F.other g x L n hlt e] at hi
          have := F.low g L (n + 1) y (by omega) (by rw [hi]; exact List.mem_cons_self ..)
          refine .inl ?_
          simp [rcOf]; omega
    have hs : (K.map fun g => R g (x :: L) n).set k (R x.1.g L (n + 1)) = K.map fun g => R g L (n + 1) := by
      refine List.ext_getElem? fun i => ?_
      rw [List.getElem?_set]
      by_cases hi : k = i
      · subst hi
        have hl := get_lt hk
        rw [if_pos rfl, if_pos (by simpa using hl), List.getElem?_map, hk]; rfl
      · rw [if_neg hi, List.getElem?_map, List.getElem?_map]
        cases hg : K[i]? with
        | none => rfl
        | some g =>
          simp only [Option.map_some]
          rw [F.other g x L n hlt (fun e => hi (asc_inj hK hk (by rw [e]; exact hg)))]
    have h1 := Run.snoc h hp (by simp [rcOf])
    rw [hs, show ((n : Int) + 1) = ((n + 1 : Nat) : Int) by omega] at h1
    have := F.run hK Ls0 L (n + 1) _ j (by omega) (by simpa using hl) (fun i e hi he => hm (i + 1) e (by omega) he) h1
    rw [List.drop_succ_cons]
    exact this
/-- Without the record at a place. -/
def recF (at_ : Nat) (g : Int) (M : List (Vt × Int)) (m : Nat) : List Rc := (recS g M m).filter fun r => decide (r.stamp ≠ (at_ : Int))
theorem famF (at_ : Nat) : Fam (recF at_) at_ := by
  refine ⟨fun x M m hm => ?_, fun g x M m hm hg => ?_, fun g M m r hm hr => ?_⟩
  · unfold recF
    rw [recS_mine M m rfl, List.filter_cons, if_pos (decide_eq_true (show (rcOf (x, m)).stamp ≠ (at_ : Int) from (show (m : Int) ≠ (at_ : Int) by omega)))]
  · unfold recF
    rw [recS_other M m hg]
  · unfold recF at hr
    exact (recS_low g M m r (List.mem_filter.1 hr).1).1
theorem recF_skip (at_ : Nat) (g : Int) (y : Vt × Int) (M : List (Vt × Int)) : recF at_ g (y :: M) at_ = recS g M (at_ + 1) := by
  have all : ∀ r ∈ recS g M (at_ + 1), decide (r.stamp ≠ (at_ : Int)) = true := fun r hr => by
    have := recS_low g M (at_ + 1) r hr
    simp; omega
  unfold recF
  by_cases hg : y.1.g = g
  · rw [recS_mine M at_ hg, List.filter_cons, if_neg (by simp [rcOf]), List.filter_eq_self.2 all]
  · rw [recS_other M at_ hg, List.filter_eq_self.2 all]
/-- The rows without a stamp. -/
def wout (at_ : Int) (Gs : List (Int × List Rc)) : List (Int × List Rc) := (Gs.map fun G => (G.1, G.2.filter fun r => decide (r.stamp ≠ at_))).filter fun G => decide (0 < G.2.length)
theorem wout_rows (at_ : Nat) (K : List Int) (L : List (Vt × Int)) : wout at_ (rowsOf K L) = (K.filter fun g => decide (0 < (recF at_ g L 0).length)).map fun g => (g, recF at_ g L 0) := by
  unfold wout rowsOf
  rw [List.map_map, List.filter_map]
  rfl
theorem tot_le {α : Type} (f g : α → List Rc) : ∀ (K : List α), (∀ k ∈ K, (f k).length ≤ (g k).length) → tot (K.map f) ≤ tot (K.map g)
  | [], _ => Nat.le_refl _
  | k :: K, h => by
    rw [List.map_cons, List.map_cons, tot_cons, tot_cons]
    have h1 := h k (List.mem_cons_self ..)
    have h2 := tot_le f g K (fun x hx => h x (List.mem_cons_of_mem _ hx))
    omega
theorem tot_filter {α : Type} (f : α → List Rc) (p : α → Bool) : ∀ (K : List α), tot ((K.filter p).map f) ≤ tot (K.map f)
  | [] => Nat.le_refl _
  | k :: K => by
    rw [List.filter_cons]
    have := tot_filter f p K
    split
    · rw [List.map_cons, List.map_cons, tot_cons, tot_cons]; omega
    · rw [List.map_cons, tot_cons]; omega
theorem Rising.filter {L : List Rc} (h : Rising L) (p : Rc → Bool) : Rising (L.filter p) := ⟨h.1.filter _, fun r hr => h.2 r (List.mem_filter.1 hr).1⟩
theorem wout_ok {K : List Int} {L : List (Vt × Int)} (hK : Gors K L) (hl : L.length ≤ 1048576) (hg : ∀ e ∈ L, 0 ≤ e.1.g ∧ e.1.g < 65536) (at_ : Nat) : RowsOk (wout at_ (rowsOf K L)) := by
  rw [wout_rows]
  refine ⟨?_, fun G hG => ?_, fun G hG => ?_, fun G hG => ?_, ?_⟩
  · rw [List.map_map]
    exact (List.map_id _).symm ▸ hK.asc.filter _
  · obtain ⟨g, hm, rfl⟩ := List.mem_map.1 hG
    obtain ⟨e, he, rfl⟩ := (hK.mem g).1 (List.mem_filter.1 hm).1
    exact hg e he
  · obtain ⟨g, hm, rfl⟩ := List.mem_map.1 hG
    have h1 := (List.mem_filter.1 hm).2
    intro e
    dsimp only at e
    rw [e] at h1
    simp at h1
  · obtain ⟨g, hm, rfl⟩ := List.mem_map.1 hG
    exact (Rising.recG (g := g) hl).filter _
  · rw [List.map_map]
    have h1 := tot_filter (fun g => recF at_ g L 0) (fun g => decide (0 < (recF at_ g L 0).length)) K
    have h2 := tot_le (fun g => recF at_ g L 0) (fun g => recG g L) K (fun g _ => List.length_filter_le _ _)
    have h3 := tot_rows hK
    rw [map_snd_rowsOf] at h3
    have e : (Prod.snd ∘ fun g => (g, recF at_ g L 0)) = fun g => recF at_ g L 0 := rfl
    rw [e]
    omega
/-- A record is missing. -/
theorem wout_gap {K : List Int} {L : List (Vt × Int)} (hK : Gors K L) (hl : L.length ≤ 1048576) (hg : ∀ e ∈ L, 0 ≤ e.1.g ∧ e.1.g < 65536) (at_ : Nat) (ha : at_ + 1 < L.length) : Mres (wout at_ (rowsOf K L)) 100 [] := by
  have hok := wout_ok hK hl hg at_
  obtain ⟨K', hK'⟩ : ∃ K', K' = K.filter fun g => decide (0 < (recF at_ g L 0).length) := ⟨_, rfl⟩
  have hasc : K'.Pairwise fun a b => a < b := by rw [hK']; exact hK.asc.filter _
  have hsnd : (wout at_ (rowsOf K L)).map Prod.snd = K'.map fun g => recF at_ g L 0 := by rw [wout_rows, List.map_map, hK']; rfl
  have inK : ∀ (i : Nat) (e : Vt × Int), L[i]? = some e → i ≠ at_ → e.1.g ∈ K' := by
    intro i e hi hne
    rw [hK']
    refine List.mem_filter.2 ⟨(hK.mem _).2 ⟨e, List.mem_of_getElem? hi, rfl⟩, decide_eq_true ?_⟩
    have : rcOf (e, i) ∈ recF at_ e.1.g L 0 := List.mem_filter.2 ⟨by rw [recS_zero]; exact recG_mem.2 ⟨i, e, hi, rfl, rfl⟩, decide_eq_true (show (i : Int) ≠ (at_ : Int) by omega)⟩
    exact List.length_pos_of_mem this
  obtain ⟨O', hrun⟩ := (famF at_).run hasc ((wout at_ (rowsOf K L)).map Prod.snd) L 0 [] at_ (by omega) (by omega) (fun i e hi he => inK i e he (by omega)) (by rw [hsnd]; exact Run.nil)
  have hd : L.drop at_ = L[at_]'(by omega) :: L.drop (at_ + 1) := List.drop_eq_getElem_cons (by omega)
  have hd2 : L.drop (at_ + 1) = L[at_ + 1]'ha :: L.drop (at_ + 1 + 1) := List.drop_eq_getElem_cons ha
  have e1 : (K'.map fun g => recF at_ g (L.drop at_) at_) = K'.map fun g => recS g (L.drop (at_ + 1)) (at_ + 1) := by
    refine List.map_congr_left fun g _ => ?_
    rw [hd]; exact recF_skip at_ g _ _
  rw [e1, hd2] at hrun
  obtain ⟨k, hk⟩ := asc_at (inK (at_ + 1) (L[at_ + 1]'ha) (List.getElem?_eq_getElem ha) (by omega))
  refine .inr ⟨hok.zero, O', _, _, 100, hrun, .inr ⟨k, _, _, pick_step hasc hk, ?_⟩, by decide, .inl ⟨by decide, rfl, rfl⟩⟩
  rw [if_neg (by simp [rcOf]; omega), if_pos (by simp [rcOf]; omega)]
/-- The last record is missing. -/
theorem wout_last {K : List Int} {L : List (Vt × Int)} (hK : Gors K L) (at_ : Nat) (ha : at_ + 1 = L.length) : ∃ K', Gors K' (L.take at_) ∧ wout at_ (rowsOf K L) = rowsOf K' (L.take at_) := by
  have hL : L = L.take at_ ++ [L[at_]'(by omega)] := by
    have h1 := List.take_append_drop at_ L
    rw [List.drop_eq_getElem_cons (by omega), List.drop_of_length_le (by omega)] at h1
    exact h1.symm
  have hlen : (L.take at_).length = at_ := by rw [List.length_take]; omega
  have hrec : ∀ g, recF at_ g L 0 = recG g (L.take at_) := by
    intro g
    have all : ∀ r ∈ recG g (L.take at_), decide (r.stamp ≠ (at_ : Int)) = true := fun r hr => by
      rw [← recS_zero] at hr
      have := recS_low g _ 0 r hr
      rw [hlen] at this
      simp; omega
    unfold recF
    rw [recS_zero]
    conv => lhs; rw [hL]
    rw [recG_snoc, List.filter_append, List.filter_eq_self.2 all, hlen]
    split
    · rw [List.filter_cons, if_neg (by simp [rcOf])]; simp
    · simp
  refine ⟨K.filter fun g => decide (0 < (recF at_ g L 0).length), ⟨hK.asc.filter _, fun g => ?_⟩, ?_⟩
  · rw [List.mem_filter]
    constructor
    · rintro ⟨_, h2⟩
      rw [hrec g] at h2
      exact recG_ne.1 (fun e => by rw [e] at h2; simp at h2)
    · rintro ⟨e, he, rfl⟩
      refine ⟨(hK.mem _).2 ⟨e, List.mem_of_mem_take he, rfl⟩, decide_eq_true ?_⟩
      rw [hrec]
      exact List.length_pos_iff.2 (recG_ne.2 ⟨e, he, rfl⟩)
  · rw [wout_rows]
    unfold rowsOf
    exact List.map_congr_left fun g _ => by rw [hrec g]
/-- A list with a record put in its place. -/
def putR (at_ : Int) (r : Rc) (L : List Rc) : List Rc := (L.filter fun x => decide (x.stamp < at_)) ++ r :: (L.filter fun x => decide (at_ < x.stamp))
theorem Rising.put {L : List Rc} (h : Rising L) {at_ : Int} {r : Rc} (hr : r.stamp = at_) (h0 : 0 ≤ at_) (h1 : at_ < 1048576) : Rising (putR at_ r L) := by
  refine ⟨List.pairwise_append.2 ⟨h.1.filter _, List.pairwise_cons.2 ⟨fun b hb => ?_, h.1.filter _⟩, fun a ha b hb => ?_⟩, fun x hx => ?_⟩
  · have := of_decide_eq_true (List.mem_filter.1 hb).2
    omega
  · have h2 := of_decide_eq_true (List.mem_filter.1 ha).2
    rcases List.mem_cons.1 hb with rfl | hb
    · omega
    · have := of_decide_eq_true (List.mem_filter.1 hb).2
      omega
  · rcases List.mem_append.1 hx with hx | hx
    · exact h.2 x (List.mem_filter.1 hx).1
    · rcases List.mem_cons.1 hx with rfl | hx
      · omega
      · exact h.2 x (List.mem_filter.1 hx).1
theorem putR_len (at_ : Int) (r : Rc) : ∀ L : List Rc, (putR at_ r L).length ≤ L.length + 1
  | [] => by simp [putR]
  | x :: L => by
    have := putR_len at_ r L
    unfold putR at this ⊢
    rw [List.length_append, List.length_cons] at this ⊢
    rw [List.filter_cons, List.filter_cons, List.length_cons]
    by_cases h1 : x.stamp < at_
    · rw [if_pos (decide_eq_true h1), if_neg (by simp; omega), List.length_cons]; omega
    · rw [if_neg (by simpa using h1)]
      split
      · rw [List.length_cons]; omega
      · omega
/-- A trace's rows, one of them with a record more. -/
def recD (at_ : Nat) (c : Int) (r : Rc) (g : Int) (M : List (Vt × Int)) (m : Nat) : List Rc := if g = c then putR at_ r (recS g M m) else recS g M m
theorem famD (at_ : Nat) (c : Int) (r : Rc) (hr : r.stamp = at_) : Fam (recD at_ c r) at_ := by
  refine ⟨fun x M m hm => ?_, fun g x M m hm hg => ?_, fun g M m y hm hy => ?_⟩
  · unfold recD
    rw [recS_mine M m rfl]
    split
    · unfold putR
      rw [List.filter_cons, if_pos (decide_eq_true (show (rcOf (x, m)).stamp < (at_ : Int) from (show (m : Int) < (at_ : Int) by omega))), List.filter_cons, if_neg (by simp [rcOf]; omega)]
      rfl
    · rfl
  · unfold recD
    rw [recS_other M m hg]
  · unfold recD at hy
    split at hy
    · unfold putR at hy
      rcases List.mem_append.1 hy with hy | hy
      · exact (recS_low g M m y (List.mem_filter.1 hy).1).1
      · rcases List.mem_cons.1 hy with rfl | hy
        · omega
        · exact (recS_low g M m y (List.mem_filter.1 hy).1).1
    · exact (recS_low g M m y hy).1
theorem tot_set_le {Ls : List (List Rc)} {k : Nat} {L M : List Rc} (h : Ls[k]? = some L) (hl : M.length ≤ L.length + 1) : tot (Ls.set k M) ≤ tot Ls + 1 := by
  induction Ls generalizing k with
  | nil => simp at h
  | cons A Ls ih =>
    cases k with
    | zero => simp at h; subst h; rw [List.set_cons_zero, tot_cons, tot_cons]; omega
    | succ k =>
      simp at h
      have := ih h
      rw [List.set_cons_succ, tot_cons, tot_cons]; omega
/-- A stamp stands twice. -/
theorem dbl {K : List Int} {L : List (Vt × Int)} (hK : Gors K L) (hl : L.length < 1048576) (hg : ∀ e ∈ L, 0 ≤ e.1.g ∧ e.1.g < 65536) {at_ : Nat} {y : Vt × Int} (hy : L[at_]? = some y) {ro : Nat} {c : Int} (hro : K[ro]? = some c) (hc : c ≠ y.1.g) {r : Rc} (hr : r.stamp = at_) :
    Mres ((rowsOf K L).set ro (c, putR at_ r (recG c L))) 101 [] := by
  have hat : at_ < L.length := get_lt hy
  have hrowl : ro < K.length := get_lt hro
  have hset : (rowsOf K L).set ro (c, putR at_ r (recG c L)) = K.map fun g => (g, recD at_ c r g L 0) := by
    refine List.ext_getElem? fun i => ?_
    rw [List.getElem?_set, List.getElem?_map]
    by_cases hi : ro = i
    · subst hi
      rw [if_pos rfl, if_pos (by unfold rowsOf; simpa using hrowl), hro]
      simp only [Option.map_some]
      unfold recD
      rw [if_pos rfl, recS_zero]
    · rw [if_neg hi]
      unfold rowsOf
      rw [List.getElem?_map]
      cases hg' : K[i]? with
      | none => rfl
      | some g =>
        simp only [Option.map_some]
        unfold recD
        rw [if_neg (fun e => hi (asc_inj hK.asc hro (by rw [← e]; exact hg'))), recS_zero]
  have hok : RowsOk ((rowsOf K L).set ro (c, putR at_ r (recG c L))) := by
    refine ⟨?_, fun G hG => ?_, fun G hG => ?_, fun G hG => ?_, ?_⟩
    · rw [hset, List.map_map]
      exact (List.map_id K).symm ▸ hK.asc
    · rw [hset] at hG
      obtain ⟨g, hm, rfl⟩ := List.mem_map.1 hG
      obtain ⟨e, he, rfl⟩ := (hK.mem g).1 hm
      exact hg e he
    · rw [hset] at hG
      obtain ⟨g, hm, rfl⟩ := List.mem_map.1 hG
      dsimp only
      unfold recD
      split
      · unfold putR; simp
      · rw [recS_zero]; exact recG_ne.2 ((hK.mem g).1 hm)
    · rw [hset] at hG
      obtain ⟨g, hm, rfl⟩ := List.mem_map.1 hG
      dsimp only
      unfold recD
      rw [recS_zero]
      split
      · exact (Rising.recG (g := g) (by omega)).put hr (by omega) (by omega)
      · exact Rising.recG (by omega)
    · rw [List.map_set]
      have h1 := tot_set_le (Ls := (rowsOf K L).map Prod.snd) (k := ro) (L := recG c L) (M := putR at_ r (recG c L)) (by rw [map_snd_rowsOf, List.getElem?_map, hro]; rfl) (putR_len _ _ _)
      have h2 := tot_rows hK
      dsimp only at h1 ⊢
      omega
  have hsnd : ((rowsOf K L).set ro (c, putR at_ r (recG c L))).map Prod.snd = K.map fun g => recD at_ c r g L 0 := by rw [hset, List.map_map]; rfl
  obtain ⟨O', hrun⟩ := (famD at_ c r hr).run hK.asc (((rowsOf K L).set ro (c, putR at_ r (recG c L))).map Prod.snd) L 0 [] at_ (by omega) (by omega) (fun i e _ he => (hK.mem _).2 ⟨e, List.mem_of_getElem? he, rfl⟩) (by rw [hsnd]; exact Run.nil)
  have hd : L.drop at_ = y :: L.drop (at_ + 1) := drop_at hy
  rw [hd] at hrun
  obtain ⟨M, hM⟩ : ∃ M, M = L.drop (at_ + 1) := ⟨_, rfl⟩
  rw [← hM] at hrun
  obtain ⟨ky, hky⟩ := asc_at ((hK.mem y.1.g).2 ⟨y, List.mem_of_getElem? hy, rfl⟩)
  have hne : ro ≠ ky := fun e => hc (by rw [e, hky] at hro; exact (Option.some.inj hro).symm)
  -- the rows at the place
  have rowY : recD at_ c r y.1.g (y :: M) at_ = rcOf (y, at_) :: recS y.1.g M (at_ + 1) := by
    unfold recD
    rw [if_neg (fun e => hc e.symm), recS_mine M at_ rfl]
  have rowC : ∃ t, recD at_ c r c (y :: M) at_ = r :: t ∧ ∀ x ∈ t, (at_ : Int) < x.stamp := by
    unfold recD
    rw [if_pos rfl]
    unfold putR
    have hnil : ((recS c (y :: M) at_).filter fun x => decide (x.stamp < (at_ : Int))) = [] := by
      refine List.filter_eq_nil_iff.2 fun x hx => ?_
      have := recS_low c (y :: M) at_ x hx
      simp; omega
    rw [hnil]
    exact ⟨_, rfl, fun x hx => of_decide_eq_true (List.mem_filter.1 hx).2⟩
  obtain ⟨tc, hC, htc⟩ := rowC
  have rowO : ∀ g, g ≠ c → g ≠ y.1.g → ∀ x ∈ recD at_ c r g (y :: M) at_, (at_ : Int) < x.stamp := by
    intro g h1 h2 x hx
    unfold recD at hx
    rw [if_neg h1, recS_other M at_ (fun e => h2 e.symm)] at hx
    have := recS_low g M (at_ + 1) x hx
    omega
  have htY : ∀ x ∈ recS y.1.g M (at_ + 1), (at_ : Int) < x.stamp := fun x hx => by have := recS_low _ M (at_ + 1) x hx; omega
  -- two rows begin with the stamp
  have two : ∀ (i j : Nat) (ri rj : Rc) (ti tj : List Rc), i ≠ j → (K.map fun g => recD at_ c r g (y :: M) at_)[i]? = some (ri :: ti) → (K.map fun g => recD at_ c r g (y :: M) at_)[j]? = some (rj :: tj) → ri.stamp = at_ → rj.stamp = at_ → (∀ x ∈ ti, (at_ : Int) < x.stamp) → (∀ (k : Nat) (x : Rc) (u : List Rc), k ≠ i → k ≠ j → (K.map fun g => recD at_ c r g (y :: M) at_)[k]? = some (x :: u) → (at_ : Int) < x.stamp) → i < j → Mres ((rowsOf K L).set ro (c, putR at_ r (recG c L))) 101 [] := by
    intro i j ri rj ti tj hij hi hj h1 h2 h3 h4 hlt
    have p1 : Pick (K.map fun g => recD at_ c r g (y :: M) at_) i ri ti := ⟨hi, fun k x u hk => by
      by_cases e1 : k = i
      · subst e1; rw [hi] at hk; cases hk; exact .inr ⟨rfl, Nat.le_refl _⟩
      · by_cases e2 : k = j
        · subst e2; rw [hj] at hk; cases hk; exact .inr ⟨by omega, by omega⟩
        · have := h4 k x u e1 e2 hk; exact .inl (by omega)⟩
    have hr1 := Run.snoc hrun p1 h1
    have p2 : Pick ((K.map fun g => recD at_ c r g (y :: M) at_).set i ti) j rj tj := ⟨by rw [List.getElem?_set_ne hij]; exact hj, fun k x u hk => by
      by_cases e1 : i = k
      · subst e1
        rw [List.getElem?_set_self (get_lt hi)] at hk
        have := h3 x (by rw [Option.some.inj hk]; exact List.mem_cons_self ..)
        exact .inl (by omega)
      · rw [List.getElem?_set_ne e1] at hk
        by_cases e2 : k = j
        · subst e2; rw [hj] at hk; cases hk; exact .inr ⟨rfl, Nat.le_refl _⟩
        · have := h4 k x u (fun e => e1 e.symm) e2 hk; exact .inl (by omega)⟩
    exact .inr ⟨hok.zero, _, _, _, 101, hr1, .inr ⟨j, rj, tj, p2, by rw [if_pos (by omega)]⟩, by decide, .inl ⟨by decide, rfl, rfl⟩⟩
  have atY : (K.map fun g => recD at_ c r g (y :: M) at_)[ky]? = some (rcOf (y, at_) :: recS y.1.g M (at_ + 1)) := by rw [List.getElem?_map, hky]; simp only [Option.map_some]; rw [rowY]
  have atC : (K.map fun g => recD at_ c r g (y :: M) at_)[ro]? = some (r :: tc) := by rw [List.getElem?_map, hro]; simp only [Option.map_some]; rw [hC]
  have oth : ∀ (k : Nat) (x : Rc) (u : List Rc), k ≠ ky → k ≠ ro → (K.map fun g => recD at_ c r g (y :: M) at_)[k]? = some (x :: u) → (at_ : Int) < x.stamp := by
    intro k x u h1 h2 hk
    rw [List.getElem?_map] at hk
    cases hg' : K[k]? with
    | none => rw [hg'] at hk; cases hk
    | some g =>
      rw [hg'] at hk
      simp only [Option.map_some] at hk
      have hk := Option.some.inj hk
      exact rowO g (fun e => h2 (asc_inj hK.asc hg' (by rw [e]; exact hro))) (fun e => h1 (asc_inj hK.asc hg' (by rw [e]; exact hky))) x (by rw [hk]; exact List.mem_cons_self ..)
  by_cases hlt : ky < ro
  · exact two ky ro _ _ _ _ (fun e => hne e.symm) atY atC rfl hr htY (fun k x u h1 h2 hk => oth k x u h1 h2 hk) hlt
  · exact two ro ky _ _ _ _ hne atC atY hr rfl htc (fun k x u h1 h2 hk => oth k x u h2 h1 hk) (by omega)
end Go.Proofs.Ytdlpffbeladgaaa
