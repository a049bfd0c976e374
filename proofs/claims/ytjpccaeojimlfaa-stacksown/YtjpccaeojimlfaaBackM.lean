/-
  What is written is read as it was.
-/
import Derived.Test.YtjpccaeojimlfaaTwo
import Derived.Test.YtjpccaeojimlfaaBack
namespace Go.Proofs.Ytjpccaeojimlfaa
open Go.RowKit Go.Maps Go.Shelf
def bodyB (N : List Nd) (j cnt : Nat) : List Int := enc (j + 1) ++ (List.range' (j + 1) cnt).flatMap (recN N)
theorem bodyB_succ (N : List Nd) (j cnt : Nat) : bodyB N j (cnt + 1) = bodyB N j cnt ++ recN N (j + cnt + 1) := by
  unfold bodyB; rw [List.range'_concat, List.flatMap_append]
  simp only [List.flatMap_cons, List.flatMap_nil, List.append_nil, List.append_assoc, Nat.one_mul]
  rw [show j + 1 + cnt = j + cnt + 1 by omega]
theorem bodyB_one (N : List Nd) (j : Nat) : bodyB N j 1 = enc (j + 1) ++ recN N (j + 1) := by
  rw [bodyB_succ]; simp [bodyB]
inductive Cuts (N : List Nd) : List (List Int) → Nat → Prop
  | nil : Cuts N [] 0
  | snoc {bs : List (List Int)} {j cnt : Nat} : Cuts N bs j → 1 ≤ cnt → Cuts N (bs ++ [bodyB N j cnt]) (j + cnt)
theorem Cuts.step {N : List Nd} {bs : List (List Int)} {k lim : Nat} (h : Cuts N bs k) : Cuts N (stepW lim (recN N) bs (k + 1)) (k + 1) := by
  cases h with
  | nil => rw [stepW_nil, ← bodyB_one]; exact Cuts.snoc (bs := []) Cuts.nil (Nat.le_refl 1)
  | snoc h hc =>
    rename_i bs j cnt
    rw [stepW_snoc]
    split
    · rw [← bodyB_succ]; exact Cuts.snoc h (by omega)
    · rw [← bodyB_one]; exact Cuts.snoc (Cuts.snoc h hc) (Nat.le_refl 1)
theorem cuts_all (N : List Nd) (lim : Nat) : ∀ k, Cuts N (bodiesW lim (recN N) 1 k) k := by
  intro k
  induction k with
  | zero => exact Cuts.nil
  | succ k ih =>
    rw [bodiesW_succ, Nat.add_comm 1 k]
    exact ih.step
theorem cuts_nil {N : List Nd} {bs : List (List Int)} {k : Nat} (h : Cuts N bs k) : bs = [] ↔ k = 0 := by
  cases h with
  | nil => simp
  | snoc _ hc => simp; omega
theorem Rep.take {L : List ByteArray} {N : List Nd} {P : List Stk} (h : Rep L N P) {t : Nat} (ht : t ≤ N.length) : Rep L (N.take t) (P.take t) := by
  refine ⟨by simp [h.len], ?_, (List.take_sublist t P).nodup h.nodup, fun p hp => h.deep p (List.mem_of_mem_take hp)⟩
  intro i n hi
  have hit : i < t := by have := (List.getElem?_eq_some_iff.1 hi).1; simp at this; omega
  rw [List.getElem?_take_of_lt hit] at hi
  obtain ⟨s, u, h1, h2, h3, h4⟩ := h.node i n hi
  refine ⟨s, u, by rw [List.getElem?_take_of_lt hit]; exact h1, h2, ?_, ?_⟩
  · rw [← h3]
    have hh : Has (P.take t) u := by
      rcases h4 with e | e
      · exact .inl e
      · right
        rw [show P.take i = (P.take t).take i by rw [List.take_take]; congr 1; omega] at e
        exact List.mem_of_mem_take e
    have := num_append hh (P.drop t)
    rw [List.take_append_drop] at this
    exact this.symm
  · rw [List.take_take, show min i t = i by omega]; exact h4
theorem why_next {L : List ByteArray} {N : List Nd} {P : List Stk} (h : Fit L N P) (hl : N.length ≤ 262144) {t : Nat} (ht : t < N.length) : why (N.take t) (N.getD t (0, 0)) = 0 := by
  have hg := getN_get ht
  have hle := h.rep.anc t _ hg
  have hr := h.rep.take (t := t) (by omega)
  obtain ⟨s, u, h1, _, h3, h4⟩ := h.rep.node t _ hg
  have hlt : (N.take t).length = t := by rw [List.length_take]; omega
  have hd : depth (N.take t) (N.getD t (0, 0)).1 ≠ 16 := by
    rw [depth_eq hr (by rw [hlt]; exact hle)]
    have hu : stkP (P.take t) (N.getD t (0, 0)).1 = u := by
      have hn : num (P.take t) u = (N.getD t (0, 0)).1 := by
        rw [← h3]
        have := num_append h4 (P.drop t)
        rw [List.take_append_drop] at this
        exact this.symm
      rw [← hn]; exact stkP_num h4
    rw [hu]
    have := h.rep.deep _ (List.mem_of_getElem? h1)
    simp at this
    omega
  have hn : nid (N.take t) (N.getD t (0, 0)) = 0 := by
    apply nid_none
    intro hm
    obtain ⟨i, hi, e⟩ := List.getElem_of_mem hm
    rw [List.getElem_take] at e
    have hit : i < t := by rw [hlt] at hi; exact hi
    have e2 : N[t]'ht = N.getD t (0, 0) := by
      rw [List.getElem?_eq_getElem ht] at hg
      exact Option.some.inj hg
    have := (List.getElem_inj h.good.1 (h₀ := by omega) (h₁ := ht)).1 (e.trans e2.symm)
    omega
  unfold why
  rw [if_neg hd, if_neg (by omega), if_neg (by rw [hlt]; omega)]
theorem take_snoc {N : List Nd} {t : Nat} (ht : t < N.length) : N.take t ++ [N.getD t (0, 0)] = N.take (t + 1) := by
  rw [List.take_add_one, getN_get ht]; rfl
theorem rdRecN_at {L : List ByteArray} {N : List Nd} {P : List Stk} (h : Fit L N P) (hl : N.length ≤ 262144) (hL : L.length ≤ 65536) {t : Nat} (ht : t < N.length) (pre rest : List Int) : rdRecN L.length (N.take t) (pre ++ (recN N (t + 1) ++ rest)) pre.length = (((pre ++ recN N (t + 1)).length : Int), 0, N.take (t + 1)) := by
  have hg := getN_get ht
  have hle := h.rep.anc t _ hg
  have hf := (h.good.2 _ (List.mem_of_getElem? hg)).2
  have hlt : (N.take t).length = t := by rw [List.length_take]; omega
  have hw := why_next h hl ht
  have hsn := take_snoc ht
  have hrec : recN N (t + 1) = enc (t - (N.getD t (0, 0)).1) ++ enc (N.getD t (0, 0)).2 := by unfold recN; rw [Nat.add_sub_cancel]
  generalize N.getD t (0, 0) = n at hle hf hw hsn hrec
  obtain ⟨p, f⟩ := n
  dsimp only at hle hf hrec
  rw [hrec]
  have r1 : rdAt (pre ++ (enc (t - p) ++ enc f ++ rest)) pre.length = (((t - p : Nat) : Int), (pre.length : Int) + (enc (t - p)).length, 0) := by
    rw [List.append_assoc]; exact rdAt_enc pre (enc f ++ rest) (t - p) (by omega)
  have r2 : rdAt (pre ++ (enc (t - p) ++ enc f ++ rest)) ((pre.length : Int) + (enc (t - p)).length) = ((f : Int), ((pre.length : Int) + (enc (t - p)).length) + (enc f).length, 0) := by
    have := rdAt_enc (pre ++ enc (t - p)) rest f (by omega)
    rw [List.length_append] at this
    rw [show pre ++ (enc (t - p) ++ enc f ++ rest) = pre ++ enc (t - p) ++ (enc f ++ rest) by simp]
    simpa using this
  have e1 : t - (t - p) = p := by omega
  unfold rdRecN
  rw [r1, hlt]
  dsimp only
  rw [r2]
  dsimp only
  rw [if_neg (by simp), if_neg (by omega), if_neg (by simp), if_neg (by omega), Int.toNat_natCast, Int.toNat_natCast, e1, hw, if_neg (by simp), hsn]
  simp only [List.length_append, Int.natCast_add, Prod.mk.injEq, and_true]
  omega
theorem recN_pos (N : List Nd) (id : Nat) : 0 < (recN N id).length := by
  unfold recN; rw [List.length_append]; have := enc_pos (id - 1 - (N.getD (id - 1) (0, 0)).1); omega
theorem bodyB_split (N : List Nd) (j i cnt : Nat) (h : i < cnt) : ∃ rest, bodyB N j cnt = bodyB N j i ++ (recN N (j + i + 1) ++ rest) := by
  induction cnt with
  | zero => omega
  | succ c ih =>
    by_cases hc : i = c
    · subst hc; exact ⟨[], by rw [bodyB_succ]; simp⟩
    · obtain ⟨rest, hr⟩ := ih (by omega)
      exact ⟨rest ++ recN N (j + c + 1), by rw [bodyB_succ, hr]; simp⟩
theorem bodyB_len (N : List Nd) (j cnt : Nat) : cnt ≤ (bodyB N j cnt).length := by
  induction cnt with
  | zero => omega
  | succ c ih => rw [bodyB_succ, List.length_append]; have := recN_pos N (j + c + 1); omega
theorem rdRecsN_body {L : List ByteArray} {N : List Nd} {P : List Stk} (h : Fit L N P) (hl : N.length ≤ 262144) (hL : L.length ≤ 65536) {j cnt : Nat} (hc : j + cnt ≤ N.length) : ∀ (r i k : Nat), i + r = cnt → r ≤ k → rdRecsN L.length k (N.take (j + i)) (bodyB N j cnt) (bodyB N j i).length = (0, N.take (j + cnt)) := by
  intro r
  induction r with
  | zero =>
    intro i k hi _
    have : i = cnt := by omega
    subst this
    exact rdRecsN_out (by omega)
  | succ r ih =>
    intro i k hi hk
    obtain ⟨k, rfl⟩ : ∃ k', k = k' + 1 := ⟨k - 1, by omega⟩
    obtain ⟨rest, hr⟩ := bodyB_split N j i cnt (by omega)
    have hat := rdRecN_at h hl hL (t := j + i) (by omega) (bodyB N j i) rest
    have hlt : ((bodyB N j i).length : Int) < (bodyB N j cnt).length := by
      rw [hr, List.length_append, List.length_append]; have := recN_pos N (j + i + 1); omega
    rw [← hr] at hat
    rw [rdRecsN_next hlt (by rw [hat]), hat]
    dsimp only
    rw [← bodyB_succ]
    have := ih (i + 1) k (by omega) (by omega)
    rw [← Nat.add_assoc] at this
    exact this
theorem rdBodyN_body {L : List ByteArray} {N : List Nd} {P : List Stk} (h : Fit L N P) (hl : N.length ≤ 262144) (hL : L.length ≤ 65536) {j cnt : Nat} (h1 : 1 ≤ cnt) (hc : j + cnt ≤ N.length) : rdBodyN L.length (N.take j) (bodyB N j cnt) = (0, N.take (j + cnt)) := by
  have r0 : rdAt (bodyB N j cnt) 0 = (((j + 1 : Nat) : Int), ((enc (j + 1)).length : Int), 0) := by
    have := rdAt_enc [] ((List.range' (j + 1) cnt).flatMap (recN N)) (j + 1) (by omega)
    simpa [bodyB] using this
  have hlt : (N.take j).length = j := by rw [List.length_take]; omega
  have h0 : bodyB N j 0 = enc (j + 1) := by simp [bodyB]
  have hlen : (enc (j + 1)).length < (bodyB N j cnt).length := by
    obtain ⟨rest, hr⟩ := bodyB_split N j 0 cnt (by omega)
    rw [hr, h0, List.length_append, List.length_append]
    have := recN_pos N (j + 0 + 1)
    omega
  unfold rdBodyN
  rw [r0, hlt]
  dsimp only
  rw [if_neg (by simp), if_neg (by simp; omega)]
  have := rdRecsN_body h hl hL hc cnt 0 (bodyB N j cnt).length (by omega) (bodyB_len N j cnt)
  rw [h0] at this
  exact this
theorem rdAllN_snoc {m : Nat} {bs : List (List Int)} {z : List Int} {N0 N1 N2 : List Nd} (h : rdAllN m bs N0 = (0, N1)) (hz : rdBodyN m N1 z = (0, N2)) : rdAllN m (bs ++ [z]) N0 = (0, N2) := by
  induction bs generalizing N0 with
  | nil =>
    rw [rdAllN] at h
    have e : N0 = N1 := congrArg Prod.snd h
    subst e
    rw [List.nil_append, rdAllN, hz, if_neg (by simp)]; rfl
  | cons b bs ih =>
    rw [List.cons_append, rdAllN]
    rw [rdAllN] at h
    by_cases hb : (rdBodyN m N0 b).1 ≠ 0
    · rw [if_pos hb] at h; rw [h] at hb; exact absurd rfl hb
    · rw [if_neg hb] at h ⊢
      exact ih h
theorem rdAllN_cuts {L : List ByteArray} {N : List Nd} {P : List Stk} (h : Fit L N P) (hl : N.length ≤ 262144) (hL : L.length ≤ 65536) {bs : List (List Int)} {k : Nat} (hc : Cuts N bs k) : k ≤ N.length → rdAllN L.length bs [] = (0, N.take k) := by
  induction hc with
  | nil => intro _; simp [rdAllN]
  | snoc _ h1 ih => intro hk; exact rdAllN_snoc (ih (by omega)) (rdBodyN_body h hl hL h1 hk)
theorem rdAllN_bodies {L : List ByteArray} {N : List Nd} {P : List Stk} (h : Fit L N P) (hl : N.length ≤ 262144) (hL : L.length ≤ 65536) (lim : Nat) : rdAllN L.length (bodiesN N lim) [] = (0, N) := by
  have := rdAllN_cuts h hl hL (cuts_all N lim N.length) (Nat.le_refl _)
  rw [List.take_of_length_le (Nat.le_refl _)] at this
  exact this
/-! ### within the limit -/
theorem enc_three (x : Nat) (h : x < 2097152) : (enc x).length ≤ 3 := by
  have := (enc_len_inv x).2
  rcases this with e | e
  · omega
  · by_cases hc : (enc x).length ≤ 3
    · exact hc
    · have : 2 ^ 21 ≤ 2 ^ (7 * ((enc x).length - 1)) := Nat.pow_le_pow_right (by omega) (by omega)
      omega
theorem bodies_within {N : List Nd} {lim : Nat} (hl : N.length ≤ 262144) (hs : ∀ n ∈ N, n.2 ≤ 65536) (hlim : 64 ≤ lim) : ∀ k, k ≤ N.length → ∀ b ∈ bodiesW lim (recN N) 1 k, b.length ≤ lim := by
  intro k
  induction k with
  | zero => intro _ b hb; simp [bodiesW] at hb
  | succ k ih =>
    intro hk b
    have hnew : (enc (1 + k) ++ recN N (1 + k)).length ≤ lim := by
      have e1 := enc_three (1 + k) (by omega)
      have e2 := enc_three (1 + k - 1 - (N.getD (1 + k - 1) (0, 0)).1) (by omega)
      have e3 := enc_three (N.getD (1 + k - 1) (0, 0)).2 (by have := hs _ (List.mem_of_getElem? (getN_get (N := N) (k := 1 + k - 1) (by omega))); omega)
      unfold recN
      simp only [List.length_append]
      omega
    rw [bodiesW_succ]
    have hih := ih (by omega)
    rcases list_snoc (bodiesW lim (recN N) 1 k) with e | ⟨bs, x, e⟩
    · rw [e, stepW_nil]; intro hb; simp only [List.mem_singleton] at hb; rw [hb]; exact hnew
    · rw [e] at hih ⊢
      rw [stepW_snoc]
      split
      · rename_i hle
        intro hb
        rcases List.mem_append.1 hb with hb | hb
        · exact hih b (by simp [hb])
        · simp only [List.mem_singleton] at hb; rw [hb, List.length_append]; exact hle
      · intro hb
        rcases List.mem_append.1 hb with hb | hb
        · exact hih b hb
        · simp only [List.mem_singleton] at hb; rw [hb]; exact hnew
end Go.Proofs.Ytjpccaeojimlfaa
