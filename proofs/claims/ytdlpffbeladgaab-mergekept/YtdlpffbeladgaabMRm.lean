/-
  MergeRows: the rows of a trace hold its events, each once; the walk.
-/
import Derived.Test.YtdlpffbeladgaabSpT
import Derived.Test.YtdlpffbeladgaabLwD
namespace Go.Proofs.Ytdlpffbeladgaab
open Go.RowKit
theorem snocRec {α : Type} {P : List α → Prop} (nil : P []) (snoc : ∀ (L : List α) (e : α), P L → P (L ++ [e])) (L : List α) : P L := by
  have h : ∀ M : List α, P M.reverse := by
    intro M
    induction M with
    | nil => exact nil
    | cons a M ih => rw [List.reverse_cons]; exact snoc _ _ ih
  have := h L.reverse
  rwa [List.reverse_reverse] at this
theorem recG_asc (g : Int) : ∀ L : List (Vt × Int), (recG g L).Pairwise fun a b => a.stamp < b.stamp := by
  intro L
  induction L using snocRec with
  | nil => exact List.Pairwise.nil
  | snoc L e ih =>
    rw [recG_snoc]
    refine List.pairwise_append.2 ⟨ih, ?_, ?_⟩
    · split
      · exact List.pairwise_singleton _ _
      · exact List.Pairwise.nil
    · intro a ha b hb
      obtain ⟨k, x, h1, _, rfl⟩ := recG_mem.1 ha
      have := get_lt h1
      split at hb
      · have hb' := List.mem_singleton.1 hb
        subst hb'
        show (k : Int) < (L.length : Int)
        omega
      · simp at hb
theorem recG_lt {g : Int} {L : List (Vt × Int)} {i j : Nat} {a b : Rc} (hi : (recG g L)[i]? = some a) (hj : (recG g L)[j]? = some b) (hij : i < j) : a.stamp < b.stamp := by
  have l1 := get_lt hi
  have l2 := get_lt hj
  rw [List.getElem?_eq_getElem l1] at hi
  rw [List.getElem?_eq_getElem l2] at hj
  have := List.pairwise_iff_getElem.1 (recG_asc g L) i j l1 l2 hij
  rw [Option.some.inj hi, Option.some.inj hj] at this
  exact this
def sumG (L : List (Vt × Int)) : List Int → Nat
  | [] => 0
  | g :: K => (recG g L).length + sumG L K
theorem sumG_cons (L : List (Vt × Int)) (g : Int) (K : List Int) : sumG L (g :: K) = (recG g L).length + sumG L K := rfl
theorem sumG_app (L : List (Vt × Int)) : ∀ A B : List Int, sumG L (A ++ B) = sumG L A + sumG L B
  | [], B => by simp [sumG]
  | a :: A, B => by rw [List.cons_append, sumG_cons, sumG_cons, sumG_app L A B]; omega
theorem sumG_nil : ∀ K : List Int, sumG [] K = 0
  | [] => rfl
  | g :: K => by rw [sumG_cons, sumG_nil K]; rfl
theorem sumG_out (L : List (Vt × Int)) (e : Vt × Int) : ∀ K : List Int, e.1.g ∉ K → sumG (L ++ [e]) K = sumG L K
  | [], _ => rfl
  | g :: K, h => by
    rw [List.mem_cons, not_or] at h
    rw [sumG_cons, sumG_cons, recG_other h.1, sumG_out L e K h.2]
theorem sumG_in (L : List (Vt × Int)) (e : Vt × Int) : ∀ K : List Int, K.Nodup → e.1.g ∈ K → sumG (L ++ [e]) K = sumG L K + 1
  | [], _, h => by simp at h
  | g :: K, hn, h => by
    obtain ⟨h1, h2⟩ := List.nodup_cons.1 hn
    rw [sumG_cons, sumG_cons]
    by_cases hg : e.1.g = g
    · rw [recG_mine hg, sumG_out L e K (by rw [hg]; exact h1), List.length_append, List.length_singleton]; omega
    · rw [recG_other hg, sumG_in L e K h2 ((List.mem_cons.1 h).resolve_left hg)]; omega
theorem sumG_all (K : List Int) (hn : K.Nodup) : ∀ L : List (Vt × Int), (∀ e ∈ L, e.1.g ∈ K) → sumG L K = L.length := by
  intro L
  induction L using snocRec with
  | nil => intro _; exact sumG_nil K
  | snoc L e ih =>
    intro h
    rw [sumG_in L e K hn (h e (by simp)), ih (fun x hx => h x (by simp [hx])), List.length_append, List.length_singleton]
theorem sumG_le (L : List (Vt × Int)) (K : List Int) (i : Nat) : sumG L (K.take i) ≤ sumG L K := by
  have := sumG_app L (K.take i) (K.drop i)
  rw [List.take_append_drop] at this
  omega
theorem sumG_step {L : List (Vt × Int)} {K : List Int} {i : Nat} {g : Int} (h : K[i]? = some g) : sumG L (K.take (i + 1)) = sumG L (K.take i) + (recG g L).length := by
  rw [List.take_add_one, h, sumG_app]
  simp [sumG]
theorem rows_at {K : List Int} {L : List (Vt × Int)} (hK : Gors K L) {i : Nat} {G : Int × List Rc} (h : (rowsOf K L)[i]? = some G) : K[i]? = some G.1 ∧ G.2 = recG G.1 L ∧ 0 < G.2.length := by
  unfold rowsOf at h
  rw [List.getElem?_map] at h
  cases hk : K[i]? with
  | none => rw [hk] at h; simp at h
  | some g =>
    rw [hk] at h
    simp at h
    subst h
    refine ⟨rfl, rfl, ?_⟩
    exact List.length_pos_iff.2 (recG_ne.2 ((hK.mem g).1 (List.mem_of_getElem? hk)))
theorem rec_at {es : List Vt} {is : List Int} (hl : is.length = es.length) {g : Int} {q : Nat} {r : Rc} (h : (recG g (es.zip is))[q]? = some r) :
    ∃ (t : Nat) (e : Vt) (x : Int), t < es.length ∧ es[t]? = some e ∧ is[t]? = some x ∧ e.g = g ∧ r = ⟨(t : Int), e.kind, e.obj, e.arg, x⟩ := by
  obtain ⟨t, e, h1, h2, rfl⟩ := recG_mem.1 (List.mem_of_getElem? h)
  have ht := get_lt h1
  rw [List.length_zip] at ht
  have h3 : t < es.length := by omega
  have h4 : t < is.length := by omega
  refine ⟨t, es[t], is[t], h3, List.getElem?_eq_getElem h3, List.getElem?_eq_getElem h4, ?_⟩
  rw [List.getElem?_eq_getElem (by rw [List.length_zip]; omega), List.getElem_zip] at h1
  have h5 := Option.some.inj h1
  subst h5
  exact ⟨h2, rfl⟩
end Go.Proofs.Ytdlpffbeladgaab
