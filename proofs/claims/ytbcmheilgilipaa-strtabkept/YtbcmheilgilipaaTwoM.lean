/-
  Bodies that are written are read as they were; they are cut in one way. No walk here.
-/
import Derived.Test.YtbcmheilgilipaaBack
import Derived.Test.YtbcmheilgilipaaDecB
namespace Go.Proofs.Ytbcmheilgilipaa
open Go.RowKit
structure GoodL (L : List ByteArray) : Prop where
  nodup : L.Nodup
  small : ∀ s ∈ L, s.size ≤ 65536
  len : L.length ≤ 65536
  sum : total L ≤ 4194304
theorem Tab.good {w : World} {tb : Nat} {S : Nat → Prop} {L : List ByteArray} {v mv : Value} (h : Tab w tb S L v mv) : GoodL L := ⟨h.nodup, h.small, h.len, h.sum⟩
theorem strOf_sbytes (s : ByteArray) : strOfNums (sbytes s) = s := by
  have e : (strOfNums (sbytes s)).data.toList = s.data.toList := by
    rw [strOfNums_data]; unfold sbytes; rw [List.map_map]
    conv => rhs; rw [← List.map_id s.data.toList]
    apply List.map_congr_left
    intro b _
    simp
  exact skey_inj (by unfold skey; rw [e])
theorem bodyLen_mono {L : List ByteArray} {first j cnt : Nat} (hc : first + cnt ≤ L.length) (h : j < cnt) : (bodyOf L first j).length < (bodyOf L first cnt).length := by
  induction cnt with
  | zero => omega
  | succ m ih =>
    have hs : L[first + m]? = some (L.getD (first + m) ByteArray.empty) := by rw [List.getD_eq_getElem?_getD]; simp [show first + m < L.length by omega]
    have e := bodyOf_succ hs
    have hp := recd_pos (L.getD (first + m) ByteArray.empty)
    rw [e, List.length_append]
    by_cases hj : j = m
    · subst hj; omega
    · have := ih (by omega) (by omega); omega
theorem bodyLen_le {L : List ByteArray} {first j cnt : Nat} (hc : first + cnt ≤ L.length) (h : j ≤ cnt) : (bodyOf L first j).length ≤ (bodyOf L first cnt).length := by
  by_cases e : j = cnt
  · subst e; exact Nat.le_refl _
  · exact Nat.le_of_lt (bodyLen_mono hc (by omega))
theorem bodyLen_ge {L : List ByteArray} {first cnt : Nat} (hc : first + cnt ≤ L.length) : cnt ≤ (bodyOf L first cnt).length := by
  induction cnt with
  | zero => omega
  | succ m ih => have := ih (by omega); have := bodyLen_mono (j := m) hc (by omega); omega
theorem Cut.one {L : List ByteArray} {lim first c1 c2 : Nat} (h1 : Cut L lim first c1) (h2 : Cut L lim first c2) : ¬ c1 < c2 := by
  intro h
  have hs : L[first + c1]? = some (L.getD (first + c1) ByteArray.empty) := by rw [List.getD_eq_getElem?_getD]; have := h2.le; simp [show first + c1 < L.length by omega]
  have a1 := h1.full _ hs
  have a2 := bodyOf_succ hs
  have a3 := bodyLen_le (j := c1 + 1) h2.le (by omega)
  have a4 := h2.fits (by have := h1.pos; omega)
  rw [a2, List.length_append] at a3
  omega
theorem Cutting.uniq {L : List ByteArray} {lim : Nat} {bs bs' : List (List Int)} {first : Nat} (h : Cutting L lim first bs) (h' : Cutting L lim first bs') : bs = bs' := by
  induction bs generalizing first bs' with
  | nil =>
    cases bs' with
    | nil => rfl
    | cons b' bs' =>
      obtain ⟨c, hc, _⟩ := h'
      have e : first = L.length := h
      have := hc.pos; have := hc.le; omega
  | cons b bs ih =>
    obtain ⟨c, hc, hb, hr⟩ := h
    cases bs' with
    | nil =>
      have e : first = L.length := h'
      have := hc.pos; have := hc.le; omega
    | cons b' bs' =>
      obtain ⟨c', hc', hb', hr'⟩ := h'
      have e : c = c' := by have := hc.one hc'; have := hc'.one hc; omega
      subst e
      rw [hb, hb', ih hr hr']
theorem bodyOf_split {L : List ByteArray} {first j cnt : Nat} {s : ByteArray} (hs : L[first + j]? = some s) (hj : j < cnt) (hc : first + cnt ≤ L.length) : ∃ rest, bodyOf L first cnt = bodyOf L first j ++ (enc s.size ++ (sbytes s ++ rest)) := by
  induction cnt with
  | zero => omega
  | succ m ih =>
    by_cases e : j = m
    · subst e
      exact ⟨[], by rw [bodyOf_succ hs]; simp [recd]⟩
    · obtain ⟨rest, hr⟩ := ih (by omega) (by omega)
      have hm : L[first + m]? = some (L.getD (first + m) ByteArray.empty) := by rw [List.getD_eq_getElem?_getD]; simp [show first + m < L.length by omega]
      exact ⟨rest ++ recd (L.getD (first + m) ByteArray.empty), by rw [bodyOf_succ hm, hr]; simp⟩
theorem take_succ_get {L : List ByteArray} {k : Nat} {s : ByteArray} (h : L[k]? = some s) : L.take (k + 1) = L.take k ++ [s] := by
  have := List.getElem?_eq_some_iff.1 h
  rw [List.take_succ_eq_append_getElem this.1, this.2]
theorem GoodL.fresh {L : List ByteArray} (hg : GoodL L) {k : Nat} {s : ByteArray} (h : L[k]? = some s) : isIn (L.take k) s = false := by
  refine isIn_not.2 (fun hm => ?_)
  obtain ⟨i, hi, e⟩ := List.mem_take_iff_getElem.1 hm
  have hk := List.getElem?_eq_some_iff.1 h
  have := (List.getElem_inj hg.nodup (h₀ := by omega) (h₁ := hk.1)).1 (e.trans hk.2.symm)
  omega
theorem GoodL.room {L : List ByteArray} (hg : GoodL L) {k : Nat} {s : ByteArray} (h : L[k]? = some s) : roomy (L.take k).length (total (L.take k)) s.size = true := by
  have hk := (List.getElem?_eq_some_iff.1 h).1
  have h1 := hg.small s (List.mem_of_getElem? h)
  have h2 := hg.len
  have h3 := hg.sum
  have h4 := total_sub (List.take_sublist (k + 1) L)
  rw [take_succ_get h, total_snoc] at h4
  have h5 : (L.take k).length = k := by rw [List.length_take]; omega
  exact decide_eq_true (by omega)
theorem rdRec_body {L : List ByteArray} (hg : GoodL L) {first j cnt : Nat} (hj : j < cnt) (hc : first + cnt ≤ L.length) :
    rdRec (L.take (first + j)) (bodyOf L first cnt) ((bodyOf L first j).length : Int) = (((bodyOf L first (j + 1)).length : Int), 0, L.take (first + (j + 1))) := by
  have hs : L[first + j]? = some (L.getD (first + j) ByteArray.empty) := by rw [List.getD_eq_getElem?_getD]; simp [show first + j < L.length by omega]
  generalize L.getD (first + j) ByteArray.empty = s at hs
  obtain ⟨rest, hr⟩ := bodyOf_split hs hj hc
  have h1 := hg.small s (List.mem_of_getElem? hs)
  have hra := rdAt_enc (bodyOf L first j) (sbytes s ++ rest) s.size (by omega)
  rw [← hr] at hra
  have hlen : (bodyOf L first cnt).length = (bodyOf L first j).length + (enc s.size).length + s.size + rest.length := by rw [hr]; simp [sbytes_len]; omega
  have hcut : cutS (bodyOf L first cnt) ((bodyOf L first j).length + (enc s.size).length) s.size = s := by
    unfold cutS
    rw [hr, ← List.append_assoc, List.drop_left' (by simp), List.take_left' (sbytes_len s), strOf_sbytes]
  have e1 : ((bodyOf L first j).length : Int) + ((enc s.size).length : Int) = (((bodyOf L first j).length + (enc s.size).length : Nat) : Int) := by simp
  rw [e1] at hra
  rw [rdRec_new hra (by omega) (by omega) (by rw [Int.toNat_natCast, Int.toNat_natCast, hcut]; exact hg.fresh hs) (by rw [Int.toNat_natCast, Int.toNat_natCast, hcut]; exact hg.room hs), Int.toNat_natCast, Int.toNat_natCast, hcut, ← take_succ_get hs, bodyOf_succ hs, List.length_append, recd_len]
  congr 1
  omega
theorem rdRecs_body {L : List ByteArray} (hg : GoodL L) {first cnt : Nat} (hc : first + cnt ≤ L.length) : ∀ (m j k : Nat), j + m = cnt → m ≤ k →
    rdRecs k (L.take (first + j)) (bodyOf L first cnt) ((bodyOf L first j).length : Int) = (0, L.take (first + cnt))
  | 0, j, k, hj, _ => by
    have e : j = cnt := by omega
    subst e
    exact (by cases k with
      | zero => rfl
      | succ k => rw [rdRecs, if_neg (by omega)])
  | m + 1, j, k, hj, hk => by
    obtain ⟨k, rfl⟩ : ∃ k', k = k' + 1 := ⟨k - 1, by omega⟩
    have hlt := bodyLen_mono (j := j) hc (by omega)
    rw [rdRecs, if_pos (by omega), rdRec_body hg (by omega) hc, if_neg (by simp)]
    exact rdRecs_body hg hc m (j + 1) k (by omega) (by omega)
theorem rdBody_body {L : List ByteArray} (hg : GoodL L) {first cnt : Nat} (h0 : 1 ≤ cnt) (hc : first + cnt ≤ L.length) : rdBody (L.take first) (bodyOf L first cnt) = (0, L.take (first + cnt)) := by
  have hra := rdAt_enc [] ((L.drop first |>.take cnt).flatMap recd) first (by have := hg.len; omega)
  rw [List.nil_append] at hra
  have hra' : rdAt (bodyOf L first cnt) 0 = ((first : Int), ((bodyOf L first 0).length : Int), 0) := by
    rw [bodyOf_zero]
    have : ((([] : List Int).length : Nat) : Int) = 0 := rfl
    rw [this] at hra
    rw [Int.zero_add] at hra
    exact hra
  have hlt := bodyLen_mono (j := 0) hc (by omega)
  unfold rdBody
  rw [hra', if_neg (by simp), if_neg (by rw [List.length_take]; simp; omega)]
  have := rdRecs_body hg hc cnt 0 (bodyOf L first cnt).length (by omega) (bodyLen_ge hc)
  simpa using this
theorem rdAll_cut {L : List ByteArray} (hg : GoodL L) {lim : Nat} {bs : List (List Int)} {first : Nat} (h : Cutting L lim first bs) : rdAll bs (L.take first) = (0, L) := by
  induction bs generalizing first with
  | nil =>
    have e : first = L.length := h
    rw [rdAll, e, List.take_length]
  | cons b bs ih =>
    obtain ⟨cnt, hc, hb, hr⟩ := h
    rw [rdAll, hb, rdBody_body hg hc.pos hc.le, if_neg (by simp)]
    exact ih hr
end Go.Proofs.Ytbcmheilgilipaa
