import Derived.Test.YtafkammiehcdjaaGreatDoorForB
/-
  hasRoom of a forest.
-/
namespace Go.Proofs.YtafkammiehcdjaaGreatDoor.E6
open Go.RowKit Go.Maps Go.Shelf
/-- The unlike strings of a list that a table does not have; the list comes with its last one first. -/
def newR (L : List ByteArray) : List ByteArray → List ByteArray
  | [] => []
  | t :: r => if isIn L t || isIn r t then newR L r else newR L r ++ [t]
def newS (L l : List ByteArray) : List ByteArray := newR L l.reverse
theorem isIn_rev (l : List ByteArray) (s : ByteArray) : isIn l.reverse s = isIn l s := by
  rw [Bool.eq_iff_iff, isIn_iff, isIn_iff, List.mem_reverse]
theorem newS_nil (L : List ByteArray) : newS L [] = [] := rfl
theorem newS_snoc (L l : List ByteArray) (t : ByteArray) : newS L (l ++ [t]) = if isIn L t || isIn l t then newS L l else newS L l ++ [t] := by
  unfold newS; rw [List.reverse_append]; show newR L (t :: l.reverse) = _; rw [newR, isIn_rev]
theorem newS_take {L l : List ByteArray} {k : Nat} (h : k < l.length) : newS L (l.take (k + 1)) = if isIn L (l.getD k ByteArray.empty) || isIn (l.take k) (l.getD k ByteArray.empty) then newS L (l.take k) else newS L (l.take k) ++ [l.getD k ByteArray.empty] := by
  rw [← newS_snoc, List.take_add_one, getD_get h]; rfl
theorem newS_len (L l : List ByteArray) : (newS L l).length ≤ l.length := by
  unfold newS
  have e : l.length = l.reverse.length := by simp
  rw [e]
  clear e
  generalize l.reverse = r
  induction r with
  | nil => simp [newR]
  | cons t r ih => unfold newR; split <;> simp <;> omega
theorem newS_mem (L l : List ByteArray) : ∀ t, t ∈ newS L l ↔ t ∈ l ∧ t ∉ L := by
  intro t
  unfold newS
  have e : t ∈ l ↔ t ∈ l.reverse := by simp
  rw [e]
  clear e
  generalize l.reverse = q
  induction q with
  | nil => simp [newR]
  | cons u r ih =>
    unfold newR
    by_cases h : (isIn L u || isIn r u) = true
    · rw [if_pos h]
      refine Iff.trans ih ?_
      rw [Bool.or_eq_true, isIn_iff, isIn_iff] at h
      constructor
      · rintro ⟨h1, h2⟩; exact ⟨by simp [h1], h2⟩
      · rintro ⟨h1, h2⟩
        rcases List.mem_cons.1 h1 with rfl | h1
        · rcases h with h | h
          · exact absurd h h2
          · exact ⟨h, h2⟩
        · exact ⟨h1, h2⟩
    · rw [if_neg h, List.mem_append]
      rw [Bool.or_eq_true, isIn_iff, isIn_iff] at h
      constructor
      · rintro (h1 | h1)
        · exact ⟨by simp [(ih.1 h1).1], (ih.1 h1).2⟩
        · simp at h1; subst h1; exact ⟨by simp, fun e => h (.inl e)⟩
      · rintro ⟨h1, h2⟩
        rcases List.mem_cons.1 h1 with rfl | h1
        · exact .inr (by simp)
        · exact .inl (ih.2 ⟨h1, h2⟩)
structure Roomy (L : List ByteArray) (n : Nat) (l : List ByteArray) : Prop where
  each : ∀ t ∈ newS L l, t.size ≤ 65536
  count : L.length + (newS L l).length ≤ 65536
  sum : total L + total (newS L l) ≤ 4194304
  nodes : n + l.length ≤ 262144
theorem total_le {l : List ByteArray} (h : ∀ t ∈ l, t.size ≤ 65536) : total l ≤ l.length * 65536 := by
  induction l with
  | nil => simp [total]
  | cons t r ih =>
    have h1 := h t (by simp)
    have h2 := ih (fun x hx => h x (by simp [hx]))
    simp only [total, List.map_cons, List.sum_cons, List.length_cons] at h2 ⊢
    omega
def RoomE (L : List ByteArray) (n : Nat) (l : List ByteArray) (e : Ending) : Prop := ∃ b : Bool, e = .returned (.bool b) ∧ (b = true ↔ Roomy L n l)
set_option maxRecDepth 4000 in
theorem hasRoom_any {w : World} {fb tb : Nat} {S T : Nat → Prop} {N : List Nd} {v : Value} {mb : Nat} {L : List ByteArray} {tv tm : Value} (hT : Tab w tb T L tv tm) (hF : Frs w fb tb S N v mb)
    (a : Option Addr) (n c : Nat) (l : List ByteArray) (hr : SRow w a n l) (hn : n ≤ 16) (hc : n ≤ c) (hz : ∀ s ∈ l, s.size ≤ maxLen) :
    Calls Tryz.prog 54 #[.pointer (some ⟨fb, 0, none⟩), .slice a n c] w fun e w' => RoomE L N.length l e ∧ ∃ k, w' = w.drewN k := by
  have HT : Hid (Tab w tb T L tv tm) := hT
  have HF : Hid (Frs w fb tb S N v mb) := hF
  have HR : Hid (SRow w a n l) := hr
  have HZ : Hid (∀ s ∈ l, s.size ≤ maxLen) := hz
  have HL : Hid (l.length = n) := hr.len
  have hn' : (n : Int) ≤ 16 := by omega
  have c0 := hF.cell0
  have t0 := hT.cell0
  have t2 := hT.cell2
  obtain ⟨ta, tc, rfl⟩ := own_form hT.own
  have hsum : (total L : Int) ≤ 4194304 := by have := hT.sum; omega
  have hcnt : (L.length : Int) ≤ 65536 := by have := hT.len; omega
  have HQ1 : Hid (∀ j, Calls Tryz.prog 110 #[.pointer (some ⟨tb, 0, none⟩)] (w.drewN j) fun e w' => e = .returned (.int .i64 L.length) ∧ w' = w.drewN j) := hide (fun j => len_any tb _ tc ta _ (cell_drewN t0 j))
  have HQ2 : Hid (∀ j, Calls Tryz.prog 111 #[.pointer (some ⟨tb, 0, none⟩)] (w.drewN j) fun e w' => e = .returned (.int .i64 (total L : Nat)) ∧ w' = w.drewN j) := hide (fun j => bytes_any tb _ _ (cell_drewN t2 j))
  clear hT hF hr hz t0 t2
  go_enter Tryz.func54, Tryz.ntmps54
  go_wp2
  go_quiet ((first | (go_at_call 110; exact Calls.quiet_of_same (HQ1.out _)) | (go_at_call 111; exact Calls.quiet_of_same (HQ2.out _))))
  go_wp2
  go_loopw [5, 6, 23] (fun d z i wr => ∃ k q cn sz : Nat, k ≤ n ∧ i = .int .i64 k ∧ d = .int .i64 (cn : Int) ∧ z = .int .i64 (sz : Int) ∧ wr = w.drewN q ∧ cn = L.length + (newS L (l.take k)).length ∧ sz = total L + total (newS L (l.take k)) ∧ ∀ t ∈ newS L (l.take k), t.size ≤ 65536) (fun _ _ i _ => n - (intOf i).toNat)
  case atStart => exact ⟨0, nq, L.length, total L, Nat.zero_le _, rfl, rfl, rfl, rfl, rfl, rfl, by simp [newS, newR]⟩
  case round =>
    obtain ⟨k, q, cn, sz, hk, rfl, rfl, rfl, hw, hcn, hsz, hev⟩ := hrel
    have HW : Hid (wr = w.drewN q) := hw
    have HEV : Hid (∀ t ∈ newS L (l.take k), t.size ≤ 65536) := hev
    have HCN : Hid (cn = L.length + (newS L (l.take k)).length) := hcn
    have HSZ : Hid (sz = total L + total (newS L (l.take k))) := hsz
    have hTr : Hid (Tab wr tb T L (.slice ta L.length tc) tm) := hide (by rw [hw]; exact HT.out.drewN q)
    have hFr : Hid (Frs wr fb tb S N v mb) := hide (by rw [hw]; exact HF.out.drewN q)
    have hRr : Hid (SRow wr a n l) := hide (by rw [hw]; exact HR.out.drewN q)
    have hkl : (newS L (l.take k)).length ≤ k := by have := newS_len L (l.take k); rw [List.length_take] at this; omega
    have hcn' : (cn : Int) ≤ 65552 := by rw [hcn]; omega
    have hsz' : (sz : Int) ≤ 5242880 := by have := total_le hev; rw [hsz]; omega
    have c0 := hFr.out.cell0
    have c1 := hFr.out.cell1
    have hNl := hFr.out.len
    obtain ⟨va, vc, rfl⟩ := own_form hFr.out.own
    clear hw hcn hsz hev hkl
    by_cases hlt : k < n
    · obtain ⟨bo, oo, ha, hco⟩ := hRr.out.at (i := k) (by omega)
      subst ha
      have hN := newS_take (L := L) (l := l) (k := k) (by have := HL.out; omega)
      obtain ⟨s, hs⟩ : ∃ s, s = l.getD k ByteArray.empty := ⟨_, rfl⟩
      have HS : Hid (s.size ≤ maxLen) := hide (by rw [hs]; exact HZ.out _ (List.mem_of_getElem? (getD_get (by have := HL.out; omega))))
      rw [← hs] at hco hN
      obtain ⟨b, hb⟩ : ∃ b, isIn L s = b := ⟨_, rfl⟩
      obtain ⟨fr, hfr⟩ : ∃ fr : Int, fr = if isIn L s then (place L s : Int) else 0 := ⟨_, rfl⟩
      have HQ : Hid (Calls Tryz.prog 109 #[.pointer (some ⟨tb, 0, none⟩), .string s] wr fun e w' => e = .returned (.tuple #[.int .i64 fr, .bool b]) ∧ w' = wr) := hide (by
        have := find_any hTr.out s HS.out
        have e : lookV L s = .tuple #[.int .i64 fr, .bool b] := by unfold lookV; rw [hfr, ← hb]
        rwa [e] at this)
      obtain ⟨b2, hb2⟩ : ∃ b2, isIn (l.take k) s = b2 := ⟨_, rfl⟩
      have HC : Hid (Calls Tryz.prog 112 #[.slice (some ⟨bo, oo, none⟩) k c, .string s] wr fun e w' => e = .returned (.bool b2) ∧ w' = wr) := hide (by
        have := contains_any (some ⟨bo, oo, none⟩) k c (l.take k) s wr (hRr.out.take hk) (by omega)
        rwa [hb2] at this)
      rw [hb, hb2] at hN
      have HN : Hid _ := hide hN
      have HSM : Hid (s ∈ l) := hide (by rw [hs]; exact List.mem_of_getElem? (getD_get (by have := HL.out; omega)))
      have HSN : Hid (b = true ∨ s ∉ L) := hide (by cases b; exact .inr (isIn_not.1 hb); exact .inl rfl)
      have hss : (s.size : Int) ≤ 9223372036854775807 := by have := HS.out; unfold maxLen at this; omega
      clear hs hb hb2 hfr hN
      go_wp2_with fail
      refine HQ.out.mono ?_
      rintro e w' ⟨rfl, rfl⟩
      have hkc : (k : Int) ≤ c := by omega
      cases b
      · go_wp2_with fail
        refine HC.out.mono ?_
        rintro e w'' ⟨rfl, rfl⟩
        cases b2
        · by_cases hbig : (s.size : Int) > 65536
          · go_wp2
            go_ret
            refine ⟨⟨false, rfl, ?_⟩, q, HW.out⟩
            refine ⟨fun e => (by cases e), fun h => ?_⟩
            have := h.each s ((newS_mem L l s).2 ⟨HSM.out, HSN.out.resolve_left (by simp)⟩)
            omega
          · go_wp2
            refine ⟨⟨k + 1, q, cn + 1, sz + s.size, by omega, by go_num, by go_num, by go_num, HW.out, ?_, ?_, ?_⟩, by simp [intOf]; omega⟩
            · rw [HN.out, HCN.out]; simp; omega
            · rw [HN.out, HSZ.out]; simp [total_snoc]; omega
            · rw [HN.out]
              intro t ht
              simp at ht
              rcases ht with ht | rfl
              · exact HEV.out t ht
              · omega
        · go_wp2
          refine ⟨⟨k + 1, q, cn, sz, by omega, by go_num, rfl, rfl, HW.out, ?_, ?_, ?_⟩, by simp [intOf]; omega⟩
          · rw [HN.out, HCN.out]; simp
          · rw [HN.out, HSZ.out]; simp
          · rw [HN.out]; exact HEV.out
      · go_wp2
        refine ⟨⟨k + 1, q, cn, sz, by omega, by go_num, rfl, rfl, HW.out, ?_, ?_, ?_⟩, by simp [intOf]; omega⟩
        · rw [HN.out, HCN.out]; simp
        · rw [HN.out, HSZ.out]; simp
        · rw [HN.out]; exact HEV.out
    · have ht : l.take k = l := List.take_of_length_le (by have := HL.out; omega)
      rw [ht] at HCN HSZ HEV
      have hkn : k = n := by omega
      subst hkn
      by_cases h1 : (cn : Int) ≤ 65536
      · by_cases h2 : (sz : Int) ≤ 4194304
        · by_cases h3 : (N.length : Int) + k ≤ 262144
          · have HX : Hid (Roomy L N.length l) := ⟨HEV.out, by have := HCN.out; omega, by have := HSZ.out; omega, by have := HL.out; omega⟩
            clear ht
            go_wp2
            go_ret
            exact ⟨⟨true, rfl, fun _ => HX.out, fun _ => rfl⟩, q, HW.out⟩
          · have HX : Hid (¬ Roomy L N.length l) := fun h => h3 (by have := h.nodes; have := HL.out; omega)
            clear ht
            go_wp2
            go_ret
            exact ⟨⟨false, rfl, fun e => (by cases e), fun h => absurd h HX.out⟩, q, HW.out⟩
        · have HX : Hid (¬ Roomy L N.length l) := fun h => h2 (by have := h.sum; have := HSZ.out; omega)
          clear ht
          go_wp2
          go_ret
          exact ⟨⟨false, rfl, fun e => (by cases e), fun h => absurd h HX.out⟩, q, HW.out⟩
      · have HX : Hid (¬ Roomy L N.length l) := fun h => h1 (by have := h.count; have := HCN.out; omega)
        clear ht
        go_wp2
        go_ret
        exact ⟨⟨false, rfl, fun e => (by cases e), fun h => absurd h HX.out⟩, q, HW.out⟩
end Go.Proofs.YtafkammiehcdjaaGreatDoor.E6
/-
  Strings and nodes put in one behind the other.
-/
namespace Go.Proofs.YtafkammiehcdjaaGreatDoor.E6
open Go.RowKit Go.Maps Go.Shelf
/-- All nodes' numbers are those of nodes and strings. -/
def Good (L : List ByteArray) (N : List Nd) : Prop := N.Nodup ∧ ∀ n ∈ N, n.1 < N.length ∧ n.2 < L.length
structure Stt where
  L : List ByteArray
  N : List Nd
  id : Nat
def stp (s : Stt) (t : ByteArray) : Stt := ⟨internL s.L t, s.N ++ [(s.id, place (internL s.L t) t)], s.N.length + 1⟩
def runs (s : Stt) (r : List ByteArray) : Stt := r.foldl stp s
theorem runs_snoc (s : Stt) (r : List ByteArray) (t : ByteArray) : runs s (r ++ [t]) = stp (runs s r) t := by simp [runs]
theorem total_append (a b : List ByteArray) : total (a ++ b) = total a + total b := by simp [total]
theorem total_sub {E : List ByteArray} : ∀ {M : List ByteArray}, E.Nodup → (∀ x ∈ E, x ∈ M) → total E ≤ total M ∧ E.length ≤ M.length := by
  induction E with
  | nil => intro M _ _; simp [total]
  | cons x E ih =>
    intro M hd hs
    obtain ⟨s, t, rfl⟩ := List.append_of_mem (hs x (by simp))
    have hd' := List.nodup_cons.1 hd
    have h := ih (M := s ++ t) hd'.2 (fun y hy => by
      have := hs y (by simp [hy])
      simp at this ⊢
      rcases this with h | h | h
      · exact .inl h
      · subst h; exact absurd hy hd'.1
      · exact .inr h)
    rw [total_append] at h ⊢
    have e1 : total (x :: E) = x.size + total E := by simp [total]
    have e2 : total (x :: t) = x.size + total t := by simp [total]
    rw [e1, e2]
    simp only [List.length_append, List.length_cons] at h ⊢
    omega
theorem internL_old {L : List ByteArray} {s : ByteArray} (h : s ∈ L) : internL L s = L := by unfold internL; rw [isIn_iff.2 h]; rfl
theorem internL_new {L : List ByteArray} {s : ByteArray} (h : s ∉ L) (hr : roomy L.length (total L) s.size = true) : internL L s = L ++ [s] := by
  unfold internL; rw [isIn_not.2 h, hr]; rfl
theorem place_append {L : List ByteArray} {s : ByteArray} (h : s ∈ L) (E : List ByteArray) : place (L ++ E) s = place L s := by
  induction L with
  | nil => cases h
  | cons x l ih =>
    rw [List.cons_append]
    unfold place
    by_cases e : x.data = s.data
    · rw [if_pos e, if_pos e]
    · rw [if_neg e, if_neg e]
      rcases List.mem_cons.1 h with h | h
      · exact absurd (by rw [h]) e
      · rw [ih h]
theorem place_snoc {L : List ByteArray} {s : ByteArray} (h : s ∉ L) : place (L ++ [s]) s = L.length := by
  induction L with
  | nil => simp [place]
  | cons x l ih =>
    rw [List.cons_append]
    unfold place
    rw [if_neg (by intro e; apply h; cases x; cases s; subst e; simp), ih (fun hm => h (by simp [hm]))]; simp
theorem place_lt {L : List ByteArray} {s : ByteArray} (h : s ∈ L) : place L s < L.length := (List.getElem?_eq_some_iff.1 (place_get h)).1
/-- What is known when the first k of the strings are in. -/
structure Mid (L0 : List ByteArray) (N0 : List Nd) (id0 : Nat) (r : List ByteArray) (k : Nat) (s : Stt) : Prop where
  ext : ∃ E : List ByteArray, s.L = L0 ++ E ∧ (E.Nodup ∧ ∀ x ∈ E, x ∈ newS L0 r)
  nodes : s.N.length = N0.length + k
  idle : s.id ≤ s.N.length
  good : Good s.L s.N
  fresh : ∀ t, r.reverse[k]? = some t → (s.id, place (internL s.L t) t) ∉ s.N
  nodup : s.L.Nodup
/-- The next string is taken. -/
theorem Mid.room {L0 : List ByteArray} {N0 : List Nd} {id0 k : Nat} {r : List ByteArray} {s : Stt} (h : Mid L0 N0 id0 r k s) (hR : Roomy L0 N0.length r) {t : ByteArray} (ht : t ∈ r) : t ∈ s.L ∨ roomy s.L.length (total s.L) t.size = true := by
  by_cases hin : t ∈ s.L
  · exact .inl hin
  · right
    obtain ⟨E, hE, hd, hm⟩ := h.ext
    have hnot : t ∉ L0 ∧ t ∉ E := by rw [hE] at hin; simp at hin; exact hin
    have hnew : t ∈ newS L0 r := (newS_mem _ _ _).2 ⟨ht, hnot.1⟩
    have h2 := total_sub (E := t :: E) (M := newS L0 r) (List.nodup_cons.2 ⟨hnot.2, hd⟩) (by intro x hx; rcases List.mem_cons.1 hx with rfl | hx; exact hnew; exact hm x hx)
    have e1 : total (t :: E) = t.size + total E := by simp [total]
    rw [e1] at h2
    have := hR.each t hnew
    have := hR.count
    have := hR.sum
    unfold roomy
    apply decide_eq_true
    rw [hE, total_append, List.length_append]
    simp only [List.length_cons] at h2
    omega
theorem Mid.answers {L0 : List ByteArray} {N0 : List Nd} {id0 k : Nat} {r : List ByteArray} {s : Stt} (h : Mid L0 N0 id0 r k s) (hR : Roomy L0 N0.length r) {t : ByteArray} (ht : t ∈ r) :
    internV s.L t = .tuple #[.int .i64 (place (internL s.L t) t : Int), .int .i64 0] ∧ t ∈ internL s.L t := by
  rcases h.room hR ht with hin | hr
  · rw [internL_old hin]; unfold internV; rw [isIn_iff.2 hin]; exact ⟨rfl, hin⟩
  · by_cases hin : t ∈ s.L
    · rw [internL_old hin]; unfold internV; rw [isIn_iff.2 hin]; exact ⟨rfl, hin⟩
    · rw [internL_new hin hr, place_snoc hin]; unfold internV; rw [isIn_not.2 hin, hr]; exact ⟨rfl, by simp⟩
theorem Mid.step {L0 : List ByteArray} {N0 : List Nd} {id0 k : Nat} {r : List ByteArray} {s : Stt} (h : Mid L0 N0 id0 r k s) (hR : Roomy L0 N0.length r) {t : ByteArray} (ht : r.reverse[k]? = some t) : Mid L0 N0 id0 r (k + 1) (stp s t) := by
  have htr : t ∈ r := by have := List.mem_of_getElem? ht; simpa using this
  have hin := (h.answers hR htr).2
  have hL : ∃ E, internL s.L t = s.L ++ E := by
    unfold internL; split
    · exact ⟨[], by simp⟩
    · split
      · exact ⟨_, rfl⟩
      · exact ⟨[], by simp⟩
  obtain ⟨E', hE'⟩ := hL
  have hg : Good (stp s t).L (stp s t).N := by
    refine ⟨?_, ?_⟩
    · show (s.N ++ [_]).Nodup
      rw [List.nodup_append]
      refine ⟨h.good.1, by simp, ?_⟩
      intro a ha b hb
      simp at hb
      rintro rfl
      exact h.fresh t ht (by rw [← hb]; exact ha)
    · intro n hn
      show n.1 < (s.N ++ [_]).length ∧ n.2 < (internL s.L t).length
      have hl : s.L.length ≤ (internL s.L t).length := by rw [hE']; simp
      rcases List.mem_append.1 hn with hn | hn
      · have := h.good.2 n hn; simp; omega
      · simp at hn; subst hn
        have := h.idle
        have := place_lt hin
        simp; omega
  refine ⟨?_, by show (s.N ++ [_]).length = _; have := h.nodes; simp; omega, by show s.N.length + 1 ≤ (s.N ++ [_]).length; simp, hg, ?_, ?_⟩
  · obtain ⟨E, hE, hd, hm⟩ := h.ext
    show ∃ E, internL s.L t = _ ∧ _
    by_cases hs : t ∈ s.L
    · rw [internL_old hs]; exact ⟨E, hE, hd, hm⟩
    · have hr := (h.room hR htr).resolve_left hs
      rw [internL_new hs hr, hE]
      have hnot : t ∉ L0 ∧ t ∉ E := by rw [hE] at hs; simp at hs; exact hs
      refine ⟨E ++ [t], by simp, ?_, ?_⟩
      · rw [List.nodup_append]
        exact ⟨hd, by simp, by intro a ha b hb; simp at hb; rintro rfl; exact hnot.2 (by rw [← hb]; exact ha)⟩
      · intro x hx
        rcases List.mem_append.1 hx with hx | hx
        · exact hm x hx
        · simp at hx; subst hx; exact (newS_mem _ _ _).2 ⟨htr, hnot.1⟩
  · intro u _ hm
    have := (hg.2 _ hm).1
    have e1 : (stp s t).id = s.N.length + 1 := rfl
    have e2 : (stp s t).N.length = s.N.length + 1 := by show (s.N ++ [_]).length = _; simp
    simp only at this
    omega
  · show (internL s.L t).Nodup
    by_cases hs : t ∈ s.L
    · rw [internL_old hs]; exact h.nodup
    · have hr := (h.room hR htr).resolve_left hs
      rw [internL_new hs hr, List.nodup_append]
      exact ⟨h.nodup, by simp, by intro a ha b hb; simp at hb; rintro rfl; exact hs (by rw [← hb]; exact ha)⟩
theorem kn_le {L : List ByteArray} {N : List Nd} : ∀ {r : List ByteArray} {id : Nat}, id ≤ N.length → (kn L N id r).1 ≤ N.length := by
  intro r
  induction r with
  | nil => intro id h; exact h
  | cons s r ih =>
    intro id h
    unfold kn
    split
    · exact ih (nid_le _ _)
    · exact h
theorem kn_len {L : List ByteArray} {N : List Nd} : ∀ {r : List ByteArray} {id : Nat}, (kn L N id r).2.length ≤ r.length ∧ (kn L N id r).2 = r.drop (r.length - (kn L N id r).2.length) := by
  intro r
  induction r with
  | nil => intro id; simp [kn]
  | cons s r ih =>
    intro id
    unfold kn
    split
    · have h := @ih (nid N (id, place L s))
      refine ⟨by simp; omega, ?_⟩
      have e : (s :: r).length - (kn L N (nid N (id, place L s)) r).2.length = (r.length - (kn L N (nid N (id, place L s)) r).2.length) + 1 := by simp; omega
      rw [e, List.drop_succ_cons]
      exact h.2
    · simp
theorem kn_fresh {L : List ByteArray} {N : List Nd} (hf : ∀ n ∈ N, n.2 < L.length) : ∀ {r : List ByteArray} {id : Nat} {t : ByteArray}, (kn L N id r).2[0]? = some t → (t ∈ L ∨ roomy L.length (total L) t.size = true) → ((kn L N id r).1, place (internL L t) t) ∉ N := by
  intro r
  induction r with
  | nil => intro id t h; simp [kn] at h
  | cons s r ih =>
    intro id t
    unfold kn
    split
    · exact ih
    · rename_i hc
      intro h hr
      simp at h
      subst h
      by_cases hs : s ∈ L
      · rw [internL_old hs]
        intro hm
        exact hc ⟨isIn_iff.2 hs, by rw [nid, if_pos hm]; omega⟩
      · rw [internL_new hs (hr.resolve_left hs), place_snoc hs]
        intro hm
        have := hf _ hm
        simp at this
/-- At the start. -/
theorem Mid.start {L : List ByteArray} {N : List Nd} {r0 r : List ByteArray} (hg : Good L N) (hd : L.Nodup) (hr : r = (kn L N 0 r0).2.reverse) (hR : Roomy L N.length r) : Mid L N (kn L N 0 r0).1 r 0 ⟨L, N, (kn L N 0 r0).1⟩ := by
  have m0 : Mid L N (kn L N 0 r0).1 [] 0 ⟨L, N, (kn L N 0 r0).1⟩ := ⟨⟨[], by simp, by simp, by simp⟩, rfl, kn_le (Nat.zero_le _), hg, by simp, hd⟩
  refine ⟨⟨[], by simp, by simp, by simp⟩, rfl, m0.idle, hg, ?_, hd⟩
  intro t ht
  have e : r.reverse = (kn L N 0 r0).2 := by rw [hr, List.reverse_reverse]
  rw [e] at ht
  refine kn_fresh (fun n hn => (hg.2 n hn).2) ht ?_
  by_cases hs : t ∈ L
  · exact .inl hs
  · right
    have htr : t ∈ r := by rw [hr, List.mem_reverse]; exact List.mem_of_getElem? ht
    have hnew : t ∈ newS L r := (newS_mem _ _ _).2 ⟨htr, hs⟩
    have h2 := total_sub (E := [t]) (M := newS L r) (by simp) (by intro x hx; simp at hx; subst hx; exact hnew)
    have e1 : total [t] = t.size := by simp [total]
    rw [e1] at h2
    have := hR.each t hnew
    have := hR.count
    have := hR.sum
    unfold roomy
    apply decide_eq_true
    simp only [List.length_cons, List.length_nil] at h2
    omega
end Go.Proofs.YtafkammiehcdjaaGreatDoor.E6
/-
  Intern of a forest.
-/
namespace Go.Proofs.YtafkammiehcdjaaGreatDoor.E6
open Go.RowKit Go.Maps Go.Shelf
attribute [local go_sem] Oper.semAt_some
/-- A table and a forest over it. -/
structure St (w : World) (T S : Nat → Prop) (tb fb : Nat) (L : List ByteArray) (N : List Nd) : Prop where
  both : ∃ tv tm v mb, Tab w tb T L tv tm ∧ Frs w fb tb S N v mb
  dis : ∀ k, T k → ¬ S k
  tlt : ∀ k, T k → k < w.heap.size
  slt : ∀ k, S k → k < w.heap.size
theorem St.but {w w' : World} {T S U : Nat → Prop} {tb fb : Nat} {L : List ByteArray} {N : List Nd} (h : St w T S tb fb L N) (hb : But U w w') (hT : ∀ k, T k → ¬ U k) (hS : ∀ k, S k → ¬ U k) : St w' T S tb fb L N := by
  obtain ⟨tv, tm, v, mb, h1, h2⟩ := h.both
  exact ⟨⟨tv, tm, v, mb, h1.kept hb hT, h2.kept hb hS⟩, h.dis, fun k hk => Nat.lt_of_lt_of_le (h.tlt k hk) hb.size, fun k hk => Nat.lt_of_lt_of_le (h.slt k hk) hb.size⟩
theorem frozen_new (w : World) (u : Value) (t : TypeId) (j : Nat) : (w.alloc (.cells #[u] t)).frozen? ⟨w.heap.size, j, none⟩ = false := frozen_of_row _ _ j _ t (heap_alloc_new w _)
theorem rest_eq {L : List ByteArray} {N : List Nd} (ls : List ByteArray) : (kn L N 0 ls.reverse).2.reverse = ls.take (kn L N 0 ls.reverse).2.length := by
  have h := @kn_len L N ls.reverse 0
  have hl := h.1
  rw [List.length_reverse] at hl
  have e := h.2
  rw [List.length_reverse, List.drop_reverse, show ls.length - (ls.length - (kn L N 0 ls.reverse).2.length) = (kn L N 0 ls.reverse).2.length by omega] at e
  rw [e, List.reverse_reverse, ← e]
theorem restV_form {w : World} {a : Option Addr} {n c m : Nat} {ls : List ByteArray} (hr : SRow w a n ls) (hm : m ≤ n) (hc : n ≤ c) : ∃ ra rc, restV a c m = .slice ra m rc ∧ m ≤ rc ∧ SRow w ra m (ls.take m) ∧ (m ≠ 0 → ra = a) := by
  unfold restV
  by_cases h : m = 0
  · subst h; exact ⟨none, 0, by simp, Nat.le_refl _, ⟨by simp, .inl rfl⟩, fun e => absurd rfl e⟩
  · rw [if_neg h]; exact ⟨a, c, rfl, by omega, hr.take hm, fun _ => rfl⟩
def mids (L : List ByteArray) (N : List Nd) (id : Nat) (rest : List ByteArray) (k : Nat) : Stt := runs ⟨L, N, id⟩ (rest.take k)
theorem mids_all {L : List ByteArray} {N : List Nd} {id : Nat} {rest : List ByteArray} (h0 : Mid L N id rest.reverse 0 ⟨L, N, id⟩) (hR : Roomy L N.length rest.reverse) : ∀ k, k ≤ rest.length → Mid L N id rest.reverse k (mids L N id rest k) := by
  intro k
  induction k with
  | zero => intro _; exact h0
  | succ k ih =>
    intro hk
    have e : mids L N id rest (k + 1) = stp (mids L N id rest k) (rest.getD k ByteArray.empty) := by
      unfold mids; rw [← runs_snoc, List.take_add_one, getD_get (by omega)]; rfl
    rw [e]
    exact (ih (by omega)).step hR (by rw [List.reverse_reverse]; exact getD_get (by omega))
/-- What holds between two rounds of Intern. -/
structure Rnd (w0 : World) (T S : Nat → Prop) (tb fb ib : Nat) (s : Stt) (W : World) : Prop where
  st : ∃ T' S', St W T' S' tb fb s.L s.N ∧ (∀ k, T' k → T k ∨ w0.heap.size + 2 ≤ k) ∧ (∀ k, S' k → S k ∨ w0.heap.size + 2 ≤ k)
  but : But (fun k => T k ∨ S k ∨ k = ib) w0 W
  cell : W.cell? ⟨ib, 0, none⟩ = some (.int .i64 (s.id : Int))
  free : W.frozen? ⟨ib, 0, none⟩ = false
theorem cell_block {w w' : World} {a : Addr} {u : Value} (h : w.cell? a = some u) (hb : w'.heap[a.block]? = w.heap[a.block]?) : w'.cell? a = some u := by
  rw [← h]; unfold World.cell?; rw [hb]
theorem frozen_block {w w' : World} {a : Addr} (hb : w'.heap[a.block]? = w.heap[a.block]?) : w'.frozen? a = w.frozen? a := by
  unfold World.frozen?; rw [hb]
theorem but_put (W : World) (l : Nat) (o : Obj) : But (fun k => k = l) W (W.putObj l o) :=
  ⟨rfl, rfl, rfl, by simp, fun k _ hk => World.putObj_heap_other hk⟩
theorem Rnd.kept {w0 : World} {T S : Nat → Prop} {tb fb ib : Nat} {s : Stt} {W W' : World} {l : Nat} (h : Rnd w0 T S tb fb ib s W) (hb : But (fun k => k = l) W W') (hl : l = w0.heap.size ∨ l = w0.heap.size + 1) (hT : ∀ k, T k ∨ S k ∨ k = ib → k < w0.heap.size) : Rnd w0 T S tb fb ib s W' := by
  obtain ⟨T', S', hst, h1, h2⟩ := h.st
  have hne : ∀ k, (T k ∨ S k ∨ k = ib) ∨ w0.heap.size + 2 ≤ k → ¬ k = l := by
    intro k hk e
    rcases hk with hk | hk
    · have := hT k hk; omega
    · omega
  have hi : W'.heap[ib]? = W.heap[ib]? := hb.block ib (World.block_lt_of_cell? W _ h.cell) (hne ib (.inl (.inr (.inr rfl))))
  refine ⟨⟨T', S', hst.but hb ?_ ?_, h1, h2⟩, ?_, cell_block h.cell hi, (frozen_block (a := ⟨ib, 0, none⟩) hi).trans h.free⟩
  · intro k hk; exact hne k ((h1 k hk).imp (fun e => .inl e) id)
  · intro k hk; exact hne k ((h2 k hk).imp (fun e => .inr (.inl e)) id)
  · exact h.but.trans hb (fun i hi e => by subst e; omega)
set_option maxHeartbeats 2000000 in
set_option maxRecDepth 8000 in
theorem intern_f {w : World} {T S : Nat → Prop} {tb fb : Nat} {L : List ByteArray} {N : List Nd} (h : St w T S tb fb L N) (hg : Good L N) (a : Option Addr) (n c : Nat) (ls : List ByteArray) (hr : SRow w a n ls) (hn : n ≤ 16) (hc : n ≤ c) (hz : ∀ s ∈ ls, s.size ≤ maxLen)
    (hrT : ∀ b off, a = some ⟨b, off, none⟩ → n ≠ 0 → ¬ T b ∧ ¬ S b) (hR : Roomy L N.length (kn L N 0 ls.reverse).2.reverse) :
    Calls Tryz.prog 26 #[.pointer (some ⟨fb, 0, none⟩), .slice a n c] w fun e w' => e = .returned (.tuple #[.int .i64 ((runs ⟨L, N, (kn L N 0 ls.reverse).1⟩ (kn L N 0 ls.reverse).2).id : Int), .int .i64 0]) ∧
      (∃ T' S', St w' T' S' tb fb (runs ⟨L, N, (kn L N 0 ls.reverse).1⟩ (kn L N 0 ls.reverse).2).L (runs ⟨L, N, (kn L N 0 ls.reverse).1⟩ (kn L N 0 ls.reverse).2).N ∧ (∀ k, T' k → T k ∨ w.heap.size ≤ k) ∧ (∀ k, S' k → S k ∨ w.heap.size ≤ k)) ∧ But (fun k => T k ∨ S k) w w' := by
  have H : Hid (St w T S tb fb L N) := h
  have hn' : (n : Int) ≤ 16 := by omega
  obtain ⟨W0, hW0⟩ : ∃ W0, W0 = w.alloc (.cells #[.pointer (some ⟨fb, 0, none⟩)] 58) := ⟨_, rfl⟩
  have hb0 : But (fun _ => False) w W0 := by rw [hW0]; exact (But.refl _ _).alloc _
  have hS0 := h.but hb0 (fun _ _ e => e) (fun _ _ e => e)
  obtain ⟨tv, tm, v, mb, hT0, hF0⟩ := hS0.both
  have hr0 : SRow W0 a n ls := hr.but hb0 (fun _ _ _ _ e => e)
  have HM : Hid _ := hide (missing_any fb tb W0 hF0.cell0)
  have HK : Hid _ := hide (known_any hT0 hF0 a n c ls hr0 hn hc hz)
  have x0 : W0.cell? ⟨w.heap.size, 0, none⟩ = some (.pointer (some ⟨fb, 0, none⟩)) := by rw [hW0]; exact cell_new _ _ _
  have hB0 : W0.heap.size = w.heap.size + 1 := by rw [hW0]; simp
  have hre := rest_eq (L := L) (N := N) ls
  have hml := (@kn_len L N ls.reverse 0).1
  have HKL : Hid ((kn L N 0 ls.reverse).1 ≤ 262144) := hide (Nat.le_trans (kn_le (Nat.zero_le _)) hF0.len)
  have HMid : Hid _ := hide (Mid.start (r0 := ls.reverse) hg hT0.nodup rfl hR)
  obtain ⟨id, rest, hk⟩ : ∃ id rest, kn L N 0 ls.reverse = (id, rest) := ⟨_, _, rfl⟩
  rw [hk] at hR HK hre hml HMid HKL ⊢
  dsimp only at hR HK hre hml HMid HKL ⊢
  rw [List.length_reverse, hr.len] at hml
  obtain ⟨ra, rc, hrv, hrc, hrr, hra⟩ := restV_form hr0 hml hc
  rw [hrv] at HK
  rw [← hre] at hrr
  generalize hm : rest.length = m at HK hrv hrc hrr hra hml hre
  have H0 : Hid (St W0 T S tb fb L N) := hS0
  have HRr : Hid (SRow W0 ra m rest.reverse) := hrr
  have HBb : Hid (But (fun _ => False) w W0) := hb0
  have HG : Hid (Good L N) := hg
  have HRm : Hid (Roomy L N.length rest.reverse) := hR
  have HZ : Hid (∀ s ∈ rest.reverse, s.size ≤ maxLen) := hide (fun s hs => hz s (by rw [hre] at hs; exact List.mem_of_mem_take hs))
  have hra' : Hid (∀ b off, ra = some ⟨b, off, none⟩ → m ≠ 0 → ¬ T b ∧ ¬ S b) := hide (fun b off e hm0 => hrT b off (by rw [← hra hm0]; exact e) (by omega))
  have hid : id ≤ 262144 := HKL.out
  have HTS : Hid (∀ k, w.heap.size ≤ k → ¬ T k ∧ ¬ S k) := hide (fun k hk => ⟨fun e => by have := h.tlt k e; omega, fun e => by have := h.slt k e; omega⟩)
  have HRlt : Hid (∀ b off, ra = some ⟨b, off, none⟩ → m ≠ 0 → b < w.heap.size) := hide (fun b off e hm0 => by
    obtain ⟨b', off', e', hc'⟩ := hr.at (i := 0) (by omega)
    have : ra = a := hra hm0
    rw [this, e'] at e
    cases e
    exact World.block_lt_of_cell? w _ hc')
  have HMl : Hid (rest.length = m ∧ m ≤ 16) := ⟨hm, by omega⟩
  clear h hg hr hz hrT hR hb0 hS0 hT0 hF0 hr0 hk hre hrv hrr hra hm H HKL
  refine (callsIn_wide (n := 3)).1 ?_
  refine callsIn_of_wp_marks Tryz.func26 rfl trivial ?_ rfl
  simp only [Tryz.ntmps26, List.size_toArray, List.length_cons, List.length_nil, Nat.reduceAdd, Nat.reduceSub, Array.replicate_succ, Array.replicate_zero, List.push_toArray, List.append_toArray, List.nil_append, List.cons_append]
  gi_wp2_with fail
  rw [← hW0]
  have HW0 : Hid _ := hide hW0
  clear hW0
  refine ⟨trivial, CallsIn.mono (callsIn_wide.2 HM.out) ?_⟩
  rintro e w' ⟨rfl, rfl⟩
  gi_wp2_with fail
  refine ⟨trivial, CallsIn.mono (callsIn_wide.2 HK.out) ?_⟩
  rintro e w1 ⟨rfl, j, hj⟩
  have x1 : w1.cell? ⟨w.heap.size, 0, none⟩ = some (.pointer (some ⟨fb, 0, none⟩)) := by rw [hj]; exact cell_drewN x0 j
  have s1 : w1.heap.size = w.heap.size + 1 := by rw [hj]; exact hB0
  have hb1 : But (fun _ => False) w' w1 := by rw [hj]; exact But.of_below (below_drewN (Below.refl _ _) j)
  obtain ⟨W2, hW2⟩ : ∃ W2, W2 = w1.alloc (.cells #[.int .i64 (id : Int)] 3) := ⟨_, rfl⟩
  have hb2 : But (fun _ => False) w' W2 := by rw [hW2]; exact hb1.alloc _
  have H2 : Hid (St W2 T S tb fb L N) := hide (H0.out.but hb2 (fun _ _ e => e) (fun _ _ e => e))
  have R2 : Hid (SRow W2 ra m rest.reverse) := hide (HRr.out.but hb2 (fun _ _ _ _ e => e))
  have y2 : W2.cell? ⟨w.heap.size + 1, 0, none⟩ = some (.int .i64 (id : Int)) := by rw [hW2, ← s1]; exact cell_new _ _ _
  have z2 : W2.frozen? ⟨w.heap.size + 1, 0, none⟩ = false := by rw [hW2, ← s1]; exact frozen_new _ _ _ _
  have x2 : W2.cell? ⟨w.heap.size, 0, none⟩ = some (.pointer (some ⟨fb, 0, none⟩)) := by
    rw [hW2, ← x1]; exact (World.cell?_alloc_old _ _ _ (by rw [s1]; simp))
  have s2 : W2.heap.size = w.heap.size + 2 := by rw [hW2, World.size_alloc, s1]
  have B2 : Hid (But (fun _ => False) w W2) := hide (HBb.out.trans hb2 (fun _ _ e => e))
  clear hj hb1 hb2
  gi_wp2_with fail
  rw [← hW2]
  have HHW2 : Hid _ := hide hW2
  obtain ⟨tv2, tm2, v2, mb2, hT2, hF2⟩ := H2.out.both
  have HRo : Hid _ := hide (hasRoom_any hT2 hF2 ra m rc rest.reverse R2.out HMl.out.2 hrc HZ.out)
  clear hW2 hT2 hF2 x1 s1 x0 hB0
  refine ⟨trivial, CallsIn.mono (callsIn_wide.2 HRo.out) ?_⟩
  rintro e w3 ⟨⟨b, rfl, hb⟩, j3, hj3⟩
  obtain rfl : b = true := hb.2 HRm.out
  have b3 : But (fun _ => False) W2 w3 := by rw [hj3]; exact But.of_below (below_drewN (Below.refl _ _) j3)
  have y3 : w3.cell? ⟨w.heap.size + 1, 0, none⟩ = some (.int .i64 (id : Int)) := by rw [hj3]; exact cell_drewN y2 j3
  have z3 : w3.frozen? ⟨w.heap.size + 1, 0, none⟩ = false := by rw [hj3]; exact z2
  have x3 : w3.cell? ⟨w.heap.size, 0, none⟩ = some (.pointer (some ⟨fb, 0, none⟩)) := by rw [hj3]; exact cell_drewN x2 j3
  have s3 : w3.heap.size = w.heap.size + 2 := by rw [hj3]; exact s2
  have H3 : Hid (St w3 T S tb fb L N) := hide (H2.out.but b3 (fun _ _ e => e) (fun _ _ e => e))
  have R3 : Hid (SRow w3 ra m rest.reverse) := hide (R2.out.but b3 (fun _ _ _ _ e => e))
  have B3 : Hid (But (fun _ => False) w w3) := hide (B2.out.trans b3 (fun _ _ e => e))
  clear hj3 b3 y2 z2 x2 s2 hb
  gi_wp2_with fail
  refine ⟨trivial, CallsIn.mono (backward_in _ _ _ _ _) ?_⟩
  rintro e w4 ⟨rfl, hw4⟩
  have b4 : But (fun _ => False) w3 w4 := by rw [hw4]; exact (But.refl _ _).alloc _
  have s4 : w4.heap.size = w.heap.size + 3 := by rw [hw4, World.size_alloc, s3]
  have x4 : w4.cell? ⟨w.heap.size, 0, none⟩ = some (.pointer (some ⟨fb, 0, none⟩)) := cell_block x3 (b4.block _ (World.block_lt_of_cell? _ _ x3) (fun e => e))
  have y4 : w4.cell? ⟨w.heap.size + 1, 0, none⟩ = some (.int .i64 (id : Int)) := cell_block y3 (b4.block _ (World.block_lt_of_cell? _ _ y3) (fun e => e))
  have z4 : w4.frozen? ⟨w.heap.size + 1, 0, none⟩ = false := (frozen_block (a := ⟨w.heap.size + 1, 0, none⟩) (b4.block _ (World.block_lt_of_cell? _ _ y3) (fun e => e))).trans z3
  have v4 : w4.cell? ⟨w.heap.size + 2, 0, none⟩ = some (.slice ra m rc) := by rw [hw4, ← s3]; exact cell_new _ _ _
  have H4 : Hid (St w4 T S tb fb L N) := hide (H3.out.but b4 (fun _ _ e => e) (fun _ _ e => e))
  have R4 : Hid (SRow w4 ra m rest.reverse) := hide (R3.out.but b4 (fun _ _ _ _ e => e))
  have B4 : Hid (But (fun _ => False) w w4) := hide (B3.out.trans b4 (fun _ _ e => e))
  have TS : Hid (∀ k, T k ∨ S k → k < w.heap.size) := hide (fun k hk => by
    have h0 := HBb.out.size
    rcases hk with hk | hk
    · by_cases hlt : k < w.heap.size
      · exact hlt
      · exact absurd hk (HTS.out k (by omega)).1
    · by_cases hlt : k < w.heap.size
      · exact hlt
      · exact absurd hk (HTS.out k (by omega)).2)
  have HW4 : Hid (w4 = w3.alloc (.cells #[.slice ra m rc] 34)) := hw4
  clear hw4 b4
  gi_wp2_with fail
  have hmi : Hid (∀ k, k ≤ m → Mid L N id rest.reverse k (mids L N id rest k)) := hide (fun k hk => mids_all HMid.out HRm.out k (by have := HMl.out; omega))
  refine range_rounds (n := 3) (by omega) (gf := 113) (lb := #[.pointer (some ⟨w.heap.size + 2, 0, none⟩)]) rfl (enters_of Tryz.func113 (by kernel_rfl) rfl)
    (fun k => #[.int .i64 ((m - 1 - k : Nat) : Int), .string (rest.reverse.getD (m - 1 - k) ByteArray.empty)]) m (fun _ => rfl)
    (fun k W => Rnd w4 T S tb fb (w.heap.size + 1) (mids L N id rest k) W) ?hI ?h0 ?hseq
    (fun k => { tmps := #[Value.pointer (some ⟨fb, 0, none⟩), Value.slice a n c, .pointer (some ⟨w.heap.size, 0, none⟩), undef, .int .i64 0, .int .i64 0, .pointer (some ⟨w.heap.size + 1, 0, none⟩), .slice ra m rc, undef,
      .string (rest.reverse.getD (m - 1 - k) ByteArray.empty), undef, undef, .pointer (some ⟨fb, 0, none⟩), .bool false, .slice a n c, .int .i64 n, .bool (decide ((16 : Int) < (n : Int))), .tuple #[.int .i64 id, .slice ra m rc], .pointer (some ⟨fb, 0, none⟩), .slice a n c, .tuple #[.int .i64 id, .slice ra m rc], .int .i64 id, .slice ra m rc, .pointer (some ⟨fb, 0, none⟩), .slice ra m rc, .bool true, .bool false, .slice ra m rc,
      .func (Fn.func 113) #[] #[.pointer (some ⟨w.heap.size + 2, 0, none⟩)], .int .i64 ((m - 1 - k : Nat) : Int), .string (rest.reverse.getD (m - 1 - k) ByteArray.empty), undef, undef, undef, undef, undef, undef, undef, undef, undef, undef, undef, undef, undef, undef, undef], defers := [] }) ?assign ?body ?done
  case hI =>
    intro k W o o' h hl
    refine h.kept (but_put W _ o') (.inr rfl) ?_
    intro b hb
    rcases hb with hb | hb | hb
    · have := TS.out b (.inl hb); omega
    · have := TS.out b (.inr hb); omega
    · omega
  case h0 =>
    intro o
    have b5 : But (fun _ => False) w4 ((w4.alloc (.deferred (some []))).alloc (.loop o)) := ((But.refl _ _).alloc _).alloc _
    refine ⟨⟨T, S, H4.out.but b5 (fun _ _ e => e) (fun _ _ e => e), fun _ e => .inl e, fun _ e => .inl e⟩, b5.mono (fun _ e => e.elim), cell_block y4 (b5.block _ (World.block_lt_of_cell? _ _ y4) (fun e => e)), (frozen_block (a := ⟨w.heap.size + 1, 0, none⟩) (b5.block _ (World.block_lt_of_cell? _ _ y4) (fun e => e))).trans z4⟩
  case hseq =>
    intro l J W hJI hY h0
    refine back1_in 2 (by omega) l (w.heap.size + 2) m rc ra rest.reverse HMl.out.2 J ?_ hY W h0
    intro k W1 hj
    have h := hJI k W1 hj
    refine ⟨cell_block v4 (h.but.block _ (World.block_lt_of_cell? _ _ v4) ?_), R4.out.but h.but ?_⟩
    · rintro (e | e | e)
      · have := TS.out _ (.inl e); simp only at this; omega
      · have := TS.out _ (.inr e); simp only at this; omega
      · simp only at e; omega
    · intro b off e hm0
      have hx := hra'.out b off e hm0
      rintro (e1 | e1 | e1)
      · exact hx.1 e1
      · exact hx.2 e1
      · have := HRlt.out b off e hm0; omega
  case assign =>
    intro l k W K hK
    gi_wp2
    exact hK
  case body =>
    intro l k W hk h hlt
    have hml' := HMl.out
    obtain ⟨t, ht⟩ : ∃ t, t = rest.getD k ByteArray.empty := ⟨_, rfl⟩
    have htr : rest.reverse.getD (m - 1 - k) ByteArray.empty = t := by
      rw [ht, List.getD_eq_getElem?_getD, List.getD_eq_getElem?_getD, List.getElem?_reverse (by omega)]
      congr 2; omega
    have hgt : rest[k]? = some t := by rw [ht]; exact getD_get (by omega)
    have htm : t ∈ rest.reverse := by rw [List.mem_reverse]; exact List.mem_of_getElem? hgt
    have M := hmi.out k (by omega)
    have A := M.answers HRm.out htm
    have hfresh := M.fresh t (by rw [List.reverse_reverse]; exact hgt)
    have hstep : mids L N id rest (k + 1) = stp (mids L N id rest k) t := by
      unfold mids; rw [← runs_snoc, List.take_add_one, hgt]; rfl
    have hnl := M.nodes
    have hnm := HRm.out.nodes
    rw [List.length_reverse] at hnm
    have hil := M.idle
    obtain ⟨T', S', hst, h1, h2⟩ := h.st
    obtain ⟨tv', tm', v', mb', hT', hF'⟩ := hst.both
    have hTS : ∀ k, (T k ∨ S k ∨ k = w.heap.size + 1) → k < w4.heap.size := by
      rintro b (hb | hb | hb)
      · have := TS.out b (.inl hb); omega
      · have := TS.out b (.inr hb); omega
      · omega
    have nT : ∀ k, k < w4.heap.size + 2 → ¬ T k → ¬ T' k := fun b hb hn e => by rcases h1 b e with e | e; exact hn e; omega
    have nS : ∀ k, k < w4.heap.size + 2 → ¬ S k → ¬ S' k := fun b hb hn e => by rcases h2 b e with e | e; exact hn e; omega
    have oldN : ∀ k, w.heap.size ≤ k → ¬ T k ∧ ¬ S k := HTS.out
    have xW : W.cell? ⟨w.heap.size, 0, none⟩ = some (.pointer (some ⟨fb, 0, none⟩)) := cell_block x4 (h.but.block _ (World.block_lt_of_cell? _ _ x4) (by
      rintro (e | e | e)
      · exact (oldN _ (Nat.le_refl _)).1 e
      · exact (oldN _ (Nat.le_refl _)).2 e
      · simp only at e; omega))
    have cW := hF'.cell0
    have HQ : Hid (Calls Tryz.prog 56 #[.pointer (some ⟨tb, 0, none⟩), .string t] W fun e w' => e = .returned (.tuple #[.int .i64 (place (internL (mids L N id rest k).L t) t : Int), .int .i64 0]) ∧ (∃ v' mv', Tab w' tb (fun k => T' k ∨ (W.heap.size ≤ k ∧ k < w'.heap.size)) (internL (mids L N id rest k).L t) v' mv') ∧ But T' W w') := hide (by
      have := intern_any hT' t (HZ.out t htm)
      rwa [A.1] at this)
    have HXF : Hid _ := hide hF'
    have HR : Hid (Rnd w4 T S tb fb (w.heap.size + 1) (mids L N id rest k) W) := h
    have HSt : Hid (St W T' S' tb fb (mids L N id rest k).L (mids L N id rest k).N) := hst
    have Hn1 : Hid _ := hide h1
    have Hn2 : Hid _ := hide h2
    have HnT : Hid _ := hide nT
    have HnS : Hid _ := hide nS
    have HOld : Hid _ := hide oldN
    have HnTS : Hid _ := hide hTS
    have HSp : Hid _ := hide hstep
    have HMd : Hid _ := hide M
    have HFr : Hid _ := hide hfresh
    have HIn : Hid _ := hide A.2
    have Hlt : Hid _ := hide hlt
    have yW := h.cell
    have zW := h.free
    generalize hsk : mids L N id rest k = s at HQ HXF HR HSt HSp HMd HFr HIn yW zW hnl hil
    clear h1 h2 nT nS oldN hTS hstep M hfresh A h hst hT' hF' ht htm hgt
    rw [htr]
    gi_wp2_with fail
    refine ⟨trivial, CallsIn.mono (CallsIn.inRound l (callsIn_wide.2 HQ.out)) ?_⟩
    rintro e w5 ⟨rfl, ⟨tv5, tm5, hT5⟩, hB5⟩
    have hi5 : ¬ T' (w.heap.size + 1) := HnT.out _ (by omega) (HOld.out _ (by omega)).1
    have x5 : w5.cell? ⟨w.heap.size, 0, none⟩ = some (.pointer (some ⟨fb, 0, none⟩)) := cell_block xW (hB5.block _ (World.block_lt_of_cell? _ _ xW) (HnT.out _ (by simp only; omega) (HOld.out _ (Nat.le_refl _)).1))
    have y5 : w5.cell? ⟨w.heap.size + 1, 0, none⟩ = some (.int .i64 (s.id : Int)) := cell_block yW (hB5.block _ (World.block_lt_of_cell? _ _ yW) hi5)
    have z5 : w5.frozen? ⟨w.heap.size + 1, 0, none⟩ = false := (frozen_block (a := ⟨w.heap.size + 1, 0, none⟩) (hB5.block _ (World.block_lt_of_cell? _ _ yW) hi5)).trans zW
    have hF5 := HXF.out.kept hB5 (fun k hk e => HSt.out.dis k e hk)
    have hp5 : place (internL s.L t) t ≤ 65536 := by have := place_lt HIn.out; have := hT5.len; omega
    have HP : Hid _ := hide (put_f hF5 (s.id, place (internL s.L t) t) (by dsimp only; omega) hp5 HFr.out (by omega))
    have HT5 : Hid _ := hide hT5
    have HB5 : Hid _ := hide hB5
    clear hT5 hB5 hF5 xW yW zW cW
    unfold nodeV at HP
    gi_wp2_with fail
    refine ⟨trivial, CallsIn.mono (CallsIn.inRound l (callsIn_wide.2 HP.out)) ?_⟩
    rintro e w6 ⟨rfl, ⟨v6, hF6⟩, hB6⟩
    have hi6 : ¬ S' (w.heap.size + 1) := HnS.out _ (by omega) (HOld.out _ (by omega)).2
    have y6 : w6.cell? ⟨w.heap.size + 1, 0, none⟩ = some (.int .i64 (s.id : Int)) := cell_block y5 (hB6.block _ (World.block_lt_of_cell? _ _ y5) hi6)
    have z6 : w6.frozen? ⟨w.heap.size + 1, 0, none⟩ = false := (frozen_block (a := ⟨w.heap.size + 1, 0, none⟩) (hB6.block _ (World.block_lt_of_cell? _ _ y5) hi6)).trans z5
    have HF6 : Hid _ := hide hF6
    have HB6 : Hid _ := hide hB6
    clear hF6 hB6 x5 y5 z5
    gi_wp2
    have hlt' := Hlt.out
    have g5 := HB5.out.size
    have g6 := HB6.out.size
    have hz6 : But (fun k => k = w.heap.size + 1) w6 (w6.setCell ⟨w.heap.size + 1, 0, none⟩ (.int .i64 (↑N.length + ↑k + 1))) := (But.refl (fun k => k = w.heap.size + 1) w6).setCell ⟨w.heap.size + 1, 0, none⟩ (fun _ => rfl) _
    have hall : But (fun b => T' b ∨ S' b ∨ b = w.heap.size + 1) W (w6.setCell ⟨w.heap.size + 1, 0, none⟩ (.int .i64 (↑N.length + ↑k + 1))) :=
      ((HB5.out.mono (T := fun b => T' b ∨ S' b ∨ b = w.heap.size + 1) (fun _ e => .inl e)).trans HB6.out (fun _ _ e => .inr (.inl e))).trans hz6 (fun _ _ e => .inr (.inr e))
    have hT6 := HT5.out.kept HB6.out (fun b hb e => by
      rcases hb with hb | hb
      · exact HSt.out.dis b hb e
      · have := HSt.out.slt b e; omega)
    have st6 : St w6 (fun b => T' b ∨ (W.heap.size ≤ b ∧ b < w5.heap.size)) (fun b => S' b ∨ (w5.heap.size ≤ b ∧ b < w6.heap.size)) tb fb (internL s.L t) (s.N ++ [(s.id, place (internL s.L t) t)]) := by
      refine ⟨⟨_, _, _, _, hT6, HF6.out⟩, ?_, ?_, ?_⟩
      · rintro b (hb | hb) (hc | hc)
        · exact HSt.out.dis b hb hc
        · have := HSt.out.tlt b hb; omega
        · have := HSt.out.slt b hc; omega
        · omega
      · rintro b (hb | hb)
        · have := HSt.out.tlt b hb; omega
        · omega
      · rintro b (hb | hb)
        · have := HSt.out.slt b hb; omega
        · omega
    have st7 := st6.but hz6 (fun b hb e => by subst e; rcases hb with hb | hb; exact hi5 hb; omega) (fun b hb e => by subst e; rcases hb with hb | hb; exact hi6 hb; omega)
    refine ⟨⟨⟨_, _, by rw [HSp.out]; exact st7, ?_, ?_⟩, ?_, ?_, ?_⟩, ?_, ?_⟩
    · rintro b (hb | hb)
      · exact Hn1.out b hb
      · right; omega
    · rintro b (hb | hb)
      · exact Hn2.out b hb
      · right; omega
    · refine HR.out.but.trans hall (fun b hb e => ?_)
      rcases e with e | e | e
      · rcases Hn1.out b e with e | e
        · exact .inl e
        · omega
      · rcases Hn2.out b e with e | e
        · exact .inr (.inl e)
        · omega
      · exact .inr (.inr e)
    · rw [HSp.out]
      have e1 : (stp s t).id = s.N.length + 1 := rfl
      rw [e1, hnl]
      exact World.cell?_setCell_same' _ _ _ (by rw [y6]; rfl)
    · rw [World.frozen?_setCell]; exact z6
    · refine hall.block _ (by omega) ?_
      rintro (e | e | e)
      · exact HnT.out _ (by omega) (HOld.out _ (by omega)).1 e
      · exact HnS.out _ (by omega) (HOld.out _ (by omega)).2 e
      · omega
    · refine hall.block _ (by omega) ?_
      rintro (e | e | e)
      · exact HnT.out _ (by omega) (HOld.out _ (by omega)).1 e
      · exact HnS.out _ (by omega) (HOld.out _ (by omega)).2 e
      · omega
  case done =>
    intro W h hK
    have yW := h.cell
    have HR : Hid _ := hide h
    have HKK : Hid _ := hide hK
    have hall : Hid (mids L N id rest m = runs ⟨L, N, id⟩ rest) := hide (by unfold mids; rw [List.take_of_length_le (by have := HMl.out; omega)])
    clear h
    gi_wp2
    refine ⟨by simp, .inl ⟨_, _, rfl, run_takeDeferred HKK.out, ?_⟩⟩
    have hTS : ∀ k, (T k ∨ S k ∨ k = w.heap.size + 1) → k < w4.heap.size := by
      rintro b (hb | hb | hb)
      · have := TS.out b (.inl hb); omega
      · have := TS.out b (.inr hb); omega
      · omega
    have hf := HR.out.kept (but_put W w4.heap.size (.deferred none)) (.inl rfl) hTS
    rw [hall.out] at hf ⊢
    obtain ⟨T', S', hst, h1, h2⟩ := hf.st
    refine ⟨_, results_tmp2 rfl _ _ _, rfl, ⟨T', S', hst, fun b hb => ?_, fun b hb => ?_⟩, ?_⟩
    · rcases h1 b hb with e | e
      · exact .inl e
      · right; omega
    · rcases h2 b hb with e | e
      · exact .inl e
      · right; omega
    · refine (B4.out.mono (fun _ e => e.elim)).trans hf.but (fun b hb e => ?_)
      rcases e with e | e | e
      · exact .inl e
      · exact .inr e
      · omega
end Go.Proofs.YtafkammiehcdjaaGreatDoor.E6
/-
  Intern that refuses; Stack.
-/
namespace Go.Proofs.YtafkammiehcdjaaGreatDoor.E6
open Go.RowKit Go.Maps Go.Shelf
theorem intern_nil (a : Option Addr) (n c : Nat) (w : World) : Calls Tryz.prog 26 #[.pointer none, .slice a n c] w fun e w' => e = .returned (.tuple #[.int .i64 0, .int .i64 1]) ∧ Below w.heap.size w w' := by
  have HM : Hid _ := hide (missing_nil (w.alloc (.cells #[.pointer none] 58)))
  go_enter Tryz.func26, Tryz.ntmps26
  go_wp2_with fail
  refine HM.out.mono ?_
  rintro e w' ⟨rfl, rfl⟩
  go_wp2
  go_ret2
  exact ⟨rfl, (Below.refl _ w).alloc (Nat.le_refl _) _⟩
theorem intern_deep {w : World} {T S : Nat → Prop} {tb fb : Nat} {L : List ByteArray} {N : List Nd} (h : St w T S tb fb L N) (a : Option Addr) (n c : Nat) (hn : 16 < n) (hn' : (n : Int) ≤ 9223372036854775807) :
    Calls Tryz.prog 26 #[.pointer (some ⟨fb, 0, none⟩), .slice a n c] w fun e w' => e = .returned (.tuple #[.int .i64 0, .int .i64 51]) ∧ Below w.heap.size w w' := by
  obtain ⟨W0, hW0⟩ : ∃ W0, W0 = w.alloc (.cells #[.pointer (some ⟨fb, 0, none⟩)] 58) := ⟨_, rfl⟩
  have hb0 : But (fun _ => False) w W0 := by rw [hW0]; exact (But.refl _ _).alloc _
  have hS0 := h.but hb0 (fun _ _ e => e) (fun _ _ e => e)
  obtain ⟨tv, tm, v, mb, hT0, hF0⟩ := hS0.both
  have HM : Hid _ := hide (missing_any fb tb W0 hF0.cell0)
  have hnI : (16 : Int) < n := by omega
  clear h hb0 hS0 hT0 hF0 hn
  go_enter Tryz.func26, Tryz.ntmps26
  go_wp2_with fail
  rw [← hW0]
  refine HM.out.mono ?_
  rintro e w' ⟨rfl, rfl⟩
  have HW : Hid _ := hide hW0
  clear hW0
  go_wp2
  go_ret2
  refine ⟨rfl, ?_⟩
  rw [HW.out]; exact (Below.refl _ w).alloc (Nat.le_refl _) _
set_option maxRecDepth 4000 in
theorem intern_full {w : World} {T S : Nat → Prop} {tb fb : Nat} {L : List ByteArray} {N : List Nd} (h : St w T S tb fb L N) (a : Option Addr) (n c : Nat) (ls : List ByteArray) (hr : SRow w a n ls) (hn : n ≤ 16) (hc : n ≤ c) (hz : ∀ s ∈ ls, s.size ≤ maxLen)
    (hR : ¬ Roomy L N.length (kn L N 0 ls.reverse).2.reverse) :
    Calls Tryz.prog 26 #[.pointer (some ⟨fb, 0, none⟩), .slice a n c] w fun e w' => e = .returned (.tuple #[.int .i64 0, .int .i64 3]) ∧ Below w.heap.size w w' := by
  have hn' : (n : Int) ≤ 16 := by omega
  obtain ⟨W0, hW0⟩ : ∃ W0, W0 = w.alloc (.cells #[.pointer (some ⟨fb, 0, none⟩)] 58) := ⟨_, rfl⟩
  have hb0 : But (fun _ => False) w W0 := by rw [hW0]; exact (But.refl _ _).alloc _
  have hS0 := h.but hb0 (fun _ _ e => e) (fun _ _ e => e)
  obtain ⟨tv, tm, v, mb, hT0, hF0⟩ := hS0.both
  have hr0 : SRow W0 a n ls := hr.but hb0 (fun _ _ _ _ e => e)
  have HM : Hid _ := hide (missing_any fb tb W0 hF0.cell0)
  have HK : Hid _ := hide (known_any hT0 hF0 a n c ls hr0 hn hc hz)
  have x0 : W0.cell? ⟨w.heap.size, 0, none⟩ = some (.pointer (some ⟨fb, 0, none⟩)) := by rw [hW0]; exact cell_new _ _ _
  have hB0 : W0.heap.size = w.heap.size + 1 := by rw [hW0]; simp
  have hre := rest_eq (L := L) (N := N) ls
  have hml := (@kn_len L N ls.reverse 0).1
  have HKL : Hid ((kn L N 0 ls.reverse).1 ≤ 262144) := hide (Nat.le_trans (kn_le (Nat.zero_le _)) hF0.len)
  obtain ⟨id, rest, hk⟩ : ∃ id rest, kn L N 0 ls.reverse = (id, rest) := ⟨_, _, rfl⟩
  rw [hk] at hR HK hre hml HKL
  dsimp only at hR HK hre hml HKL
  rw [List.length_reverse, hr.len] at hml
  obtain ⟨ra, rc, hrv, hrc, hrr, hra⟩ := restV_form hr0 hml hc
  rw [hrv] at HK
  rw [← hre] at hrr
  generalize hm : rest.length = m at HK hrv hrc hrr hra hml hre
  have H0 : Hid (St W0 T S tb fb L N) := hS0
  have HRr : Hid (SRow W0 ra m rest.reverse) := hrr
  have HRm : Hid (¬ Roomy L N.length rest.reverse) := hR
  have HZ : Hid (∀ s ∈ rest.reverse, s.size ≤ maxLen) := hide (fun s hs => hz s (by rw [hre] at hs; exact List.mem_of_mem_take hs))
  have hid : id ≤ 262144 := HKL.out
  have hm16 : Hid (m ≤ 16) := hide (by omega)
  clear h hr hz hR hS0 hT0 hF0 hr0 hk hre hrv hrr hra hm HKL hb0
  go_enter Tryz.func26, Tryz.ntmps26
  go_wp2_with fail
  rw [← hW0]
  have HW0 : Hid _ := hide hW0
  clear hW0
  refine HM.out.mono ?_
  rintro e w' ⟨rfl, rfl⟩
  go_wp2_with fail
  refine HK.out.mono ?_
  rintro e w1 ⟨rfl, j, hj⟩
  have x1 : w1.cell? ⟨w.heap.size, 0, none⟩ = some (.pointer (some ⟨fb, 0, none⟩)) := by rw [hj]; exact cell_drewN x0 j
  have s1 : w1.heap.size = w.heap.size + 1 := by rw [hj]; exact hB0
  have hb1 : But (fun _ => False) w' w1 := by rw [hj]; exact But.of_below (below_drewN (Below.refl _ _) j)
  have hbb : Hid (Below w.heap.size w w1) := hide (by rw [hj, HW0.out]; exact below_drewN ((Below.refl _ w).alloc (Nat.le_refl _) _) j)
  obtain ⟨W2, hW2⟩ : ∃ W2, W2 = w1.alloc (.cells #[.int .i64 (id : Int)] 3) := ⟨_, rfl⟩
  have hb2 : But (fun _ => False) w' W2 := by rw [hW2]; exact hb1.alloc _
  have H2 : Hid (St W2 T S tb fb L N) := hide (H0.out.but hb2 (fun _ _ e => e) (fun _ _ e => e))
  have R2 : Hid (SRow W2 ra m rest.reverse) := hide (HRr.out.but hb2 (fun _ _ _ _ e => e))
  obtain ⟨tv2, tm2, v2, mb2, hT2, hF2⟩ := H2.out.both
  have HRo : Hid _ := hide (hasRoom_any hT2 hF2 ra m rc rest.reverse R2.out hm16.out hrc HZ.out)
  clear hj hb1 hb2 hT2 hF2
  go_wp2_with fail
  rw [← hW2]
  have HHW2 : Hid _ := hide hW2
  clear hW2 x1 s1 x0 hB0
  refine HRo.out.mono ?_
  rintro e w3 ⟨⟨b, rfl, hb⟩, j3, hj3⟩
  have hbf : b = false := by cases b; rfl; exact absurd (hb.1 rfl) HRm.out
  subst hbf
  have HJ : Hid _ := hide hj3
  clear hj3 hb
  go_wp2
  go_ret2
  refine ⟨rfl, ?_⟩
  rw [HJ.out, HHW2.out]
  exact below_drewN (hbb.out.alloc hbb.out.size _) j3
/-! ### Stack -/
end Go.Proofs.YtafkammiehcdjaaGreatDoor.E6
/-
  The stacks of a forest, in the order of their nodes.
-/
namespace Go.Proofs.YtafkammiehcdjaaGreatDoor.E6
open Go.RowKit Go.Maps Go.Shelf
abbrev Stk := List ByteArray
open Classical in
/-- The place of a stack. -/
noncomputable def idx : List Stk → Stk → Nat
  | [], _ => 0
  | x :: l, t => if x = t then 0 else idx l t + 1
open Classical in
/-- The number of a stack; 0: there is none, or it is empty. -/
noncomputable def num (P : List Stk) (t : Stk) : Nat := if t = [] then 0 else if t ∈ P then idx P t + 1 else 0
theorem idx_get {P : List Stk} {t : Stk} (h : t ∈ P) : P[idx P t]? = some t := by
  induction P with
  | nil => cases h
  | cons x l ih =>
    unfold idx
    by_cases e : x = t
    · rw [if_pos e, e]; rfl
    · rw [if_neg e]
      rcases List.mem_cons.1 h with h | h
      · exact absurd h.symm e
      · simpa using ih h
theorem idx_of_get {P : List Stk} {t : Stk} (hd : P.Nodup) {i : Nat} (h : P[i]? = some t) : idx P t = i := by
  have hs := idx_get (List.mem_of_getElem? h)
  have h1 := (List.getElem?_eq_some_iff.1 hs).1
  have h2 := (List.getElem?_eq_some_iff.1 h).1
  exact (List.getElem_inj hd (h₀ := h1) (h₁ := h2)).1 (by rw [(List.getElem?_eq_some_iff.1 hs).2, (List.getElem?_eq_some_iff.1 h).2])
theorem idx_lt {P : List Stk} {t : Stk} (h : t ∈ P) : idx P t < P.length := (List.getElem?_eq_some_iff.1 (idx_get h)).1
theorem idx_append {P : List Stk} {t : Stk} (h : t ∈ P) (Q : List Stk) : idx (P ++ Q) t = idx P t := by
  induction P with
  | nil => cases h
  | cons x l ih =>
    rw [List.cons_append]
    unfold idx
    by_cases e : x = t
    · rw [if_pos e, if_pos e]
    · rw [if_neg e, if_neg e]
      rcases List.mem_cons.1 h with h | h
      · exact absurd h.symm e
      · rw [ih h]
theorem idx_snoc {P : List Stk} {t : Stk} (h : t ∉ P) : idx (P ++ [t]) t = P.length := by
  induction P with
  | nil => simp [idx]
  | cons x l ih =>
    rw [List.cons_append]
    unfold idx
    rw [if_neg (by rintro rfl; exact h (by simp)), ih (fun hm => h (by simp [hm]))]; simp
theorem num_nil (P : List Stk) : num P [] = 0 := by simp [num]
theorem num_mem {P : List Stk} {t : Stk} (h0 : t ≠ []) (h : t ∈ P) : num P t = idx P t + 1 := by rw [num, if_neg h0, if_pos h]
theorem num_not {P : List Stk} {t : Stk} (h : t ∉ P) : num P t = 0 := by
  unfold num; split
  · rfl
  · rfl
theorem num_le (P : List Stk) (t : Stk) : num P t ≤ P.length := by
  unfold num; split
  · omega
  · split
    · rename_i h; have := idx_lt h; omega
    · omega
def Has (P : List Stk) (t : Stk) : Prop := t = [] ∨ t ∈ P
theorem num_inj {P : List Stk} (h0 : [] ∉ P) {t u : Stk} (ht : Has P t) (hu : Has P u) (h : num P t = num P u) : t = u := by
  have key : ∀ {x : Stk}, x ∈ P → num P x = idx P x + 1 := fun {x} hx => num_mem (fun e => h0 (by rw [← e]; exact hx)) hx
  rcases ht with rfl | ht
  · rcases hu with rfl | hu
    · rfl
    · rw [num_nil, key hu] at h; omega
  · rcases hu with rfl | hu
    · rw [num_nil, key ht] at h; omega
    · rw [key ht, key hu] at h
      have e1 := idx_get ht
      rw [show idx P t = idx P u by omega, idx_get hu] at e1
      exact (Option.some.inj e1).symm
theorem num_append {P : List Stk} {t : Stk} (h : Has P t) (Q : List Stk) : num (P ++ Q) t = num P t := by
  rcases h with rfl | h
  · rw [num_nil, num_nil]
  · unfold num
    split
    · rfl
    · rw [if_pos (by simp [h]), idx_append h]
/-- The nodes are those of the stacks. -/
structure Rep (L : List ByteArray) (N : List Nd) (P : List Stk) : Prop where
  len : P.length = N.length
  node : ∀ i n, N[i]? = some n → ∃ s t, P[i]? = some (s :: t) ∧ L[n.2]? = some s ∧ num P t = n.1 ∧ Has (P.take i) t
  nodup : P.Nodup
  deep : ∀ p ∈ P, p.length ≤ 16
theorem Rep.nil (L : List ByteArray) : Rep L [] [] := ⟨rfl, by simp, by simp, by simp⟩
section
variable {L : List ByteArray} {N : List Nd} {P : List Stk}
theorem Rep.get (h : Rep L N P) {i : Nat} {p : Stk} (hp : P[i]? = some p) : ∃ n s t, N[i]? = some n ∧ p = s :: t ∧ L[n.2]? = some s ∧ num P t = n.1 ∧ Has (P.take i) t := by
  have hi := (List.getElem?_eq_some_iff.1 hp).1
  have hi' : i < N.length := by rw [← h.len]; exact hi
  obtain ⟨s, t, h1, h2, h3, h4⟩ := h.node i N[i] (List.getElem?_eq_getElem hi')
  rw [hp] at h1
  exact ⟨N[i], s, t, List.getElem?_eq_getElem hi', Option.some.inj h1, h2, h3, h4⟩
theorem Rep.noNil (h : Rep L N P) : [] ∉ P := by
  intro hm
  obtain ⟨i, hi, e⟩ := List.getElem_of_mem hm
  obtain ⟨n, s, t, _, e', _⟩ := h.get (i := i) (p := []) (by rw [List.getElem?_eq_getElem hi, e])
  cases e'
theorem Rep.tail (h : Rep L N P) {s : ByteArray} {t : Stk} (hm : s :: t ∈ P) : Has P t ∧ s ∈ L := by
  obtain ⟨i, hi, e⟩ := List.getElem_of_mem hm
  obtain ⟨n, s', t', _, e', h2, _, h4⟩ := h.get (i := i) (p := s :: t) (by rw [List.getElem?_eq_getElem hi, e])
  cases e'
  exact ⟨h4.imp id List.mem_of_mem_take, List.mem_of_getElem? h2⟩
theorem Rep.nid (h : Rep L N P) (hN : N.Nodup) (hL : L.Nodup) {s : ByteArray} {t : Stk} (hs : s ∈ L) (ht : Has P t) : nid N (num P t, place L s) = num P (s :: t) := by
  by_cases hm : s :: t ∈ P
  · obtain ⟨n, s', t', hn, e', h2, h3, _⟩ := h.get (idx_get hm)
    cases e'
    have hpl := place_of_get hL h2
    have : n = (num P t, place L s) := Prod.ext h3.symm hpl.symm
    rw [this] at hn
    rw [nid_get hN hn, num_mem (by simp) hm]
  · rw [num_not hm]
    apply nid_none
    intro hin
    obtain ⟨i, hi, e⟩ := List.getElem_of_mem hin
    obtain ⟨s', t', h1, h2, h3, h4⟩ := h.node i _ (by rw [List.getElem?_eq_getElem hi, e])
    dsimp only at h2 h3
    rw [place_get hs] at h2
    cases h2
    have : t' = t := num_inj h.noNil (h4.imp id List.mem_of_mem_take) ht h3
    subst this
    exact hm (List.mem_of_getElem? h1)
open Classical in
/-- The outer parts of a stack put in, those that are not there; r: what is left, the outermost first; u: what went before. -/
noncomputable def addP (P : List Stk) : Stk → List ByteArray → List Stk
  | _, [] => P
  | u, s :: r => addP (if s :: u ∈ P then P else P ++ [s :: u]) (s :: u) r
theorem kn_rep (h : Rep L N P) (hN : N.Nodup) (hL : L.Nodup) : ∀ (r : List ByteArray) (t : Stk), Has P t →
    ∃ u, Has P u ∧ (kn L N (num P t) r).1 = num P u ∧ (kn L N (num P t) r).2.reverse ++ u = r.reverse ++ t ∧ addP P t r = addP P u (kn L N (num P t) r).2 ∧ ∀ s r', (kn L N (num P t) r).2 = s :: r' → s :: u ∉ P := by
  intro r
  induction r with
  | nil => intro t ht; exact ⟨t, ht, rfl, rfl, rfl, by intro s r' e; simp [kn] at e⟩
  | cons s r ih =>
    intro t ht
    by_cases hm : s :: t ∈ P
    · have hs := (h.tail hm).2
      have hk : kn L N (num P t) (s :: r) = kn L N (num P (s :: t)) r := by
        rw [kn, if_pos ⟨isIn_iff.2 hs, by rw [h.nid hN hL hs ht, num_mem (by simp) hm]; omega⟩, h.nid hN hL hs ht]
      rw [hk]
      obtain ⟨u, h1, h2, h3, h4, h5⟩ := ih (s :: t) (.inr hm)
      refine ⟨u, h1, h2, by rw [h3]; simp, ?_, h5⟩
      rw [addP, if_pos hm]; exact h4
    · have hk : kn L N (num P t) (s :: r) = (num P t, s :: r) := by
        rw [kn, if_neg]
        rintro ⟨h1, h2⟩
        rw [h.nid hN hL (isIn_iff.1 h1) ht, num_not hm] at h2
        exact h2 rfl
      rw [hk]
      refine ⟨t, ht, rfl, rfl, rfl, ?_⟩
      rintro s' r' e
      cases e
      exact hm
theorem Rep.snoc (h : Rep L N P) {L' : List ByteArray} {s : ByteArray} {u : Stk} (hE : ∃ E, L' = L ++ E) (hs : s ∈ L') (hu : Has P u) (hn : s :: u ∉ P) (hd : u.length < 16) : Rep L' (N ++ [(num P u, place L' s)]) (P ++ [s :: u]) := by
  obtain ⟨E, rfl⟩ := hE
  refine ⟨by simp [h.len], ?_, ?_, ?_⟩
  · intro i n hi
    by_cases hlt : i < N.length
    · rw [List.getElem?_append_left hlt] at hi
      obtain ⟨s', t', h1, h2, h3, h4⟩ := h.node i n hi
      refine ⟨s', t', by rw [List.getElem?_append_left (by rw [h.len]; exact hlt)]; exact h1, ?_, ?_, ?_⟩
      · rw [List.getElem?_append_left (List.getElem?_eq_some_iff.1 h2).1]; exact h2
      · rw [num_append (h4.imp id List.mem_of_mem_take)]; exact h3
      · rw [List.take_append_of_le_length (by rw [h.len]; omega)]; exact h4
    · have : i < (N ++ [(num P u, place (L ++ E) s)]).length := (List.getElem?_eq_some_iff.1 hi).1
      simp at this
      have hi' : i = N.length := by omega
      subst hi'
      simp at hi
      subst hi
      refine ⟨s, u, by rw [← h.len]; simp, place_get hs, num_append hu _, ?_⟩
      rw [← h.len, List.take_left]
      exact hu
  · rw [List.nodup_append]
    exact ⟨h.nodup, by simp, by intro a ha b hb; simp at hb; rintro rfl; exact hn (by rw [← hb]; exact ha)⟩
  · intro p hp
    rcases List.mem_append.1 hp with hp | hp
    · exact h.deep p hp
    · simp at hp; subst hp; simp; omega
end
theorem Rep.mono {L : List ByteArray} {N : List Nd} {P : List Stk} (h : Rep L N P) (E : List ByteArray) : Rep (L ++ E) N P :=
  ⟨h.len, fun i n hn => by
    obtain ⟨s, t, h1, h2, h3⟩ := h.node i n hn
    exact ⟨s, t, h1, by rw [List.getElem?_append_left (List.getElem?_eq_some_iff.1 h2).1]; exact h2, h3⟩, h.nodup, h.deep⟩
/-- The rest of a stack put in. -/
theorem runs_rep {L0 : List ByteArray} {N0 : List Nd} {id0 : Nat} {r0 : List ByteArray} (hR : Roomy L0 N0.length r0) : ∀ (r : List ByteArray) (k : Nat) (s : Stt) (P : List Stk) (u : Stk), Mid L0 N0 id0 r0 k s → r0.reverse.drop k = r → Rep s.L s.N P → Has P u → s.id = num P u → (∀ x r', r = x :: r' → x :: u ∉ P) → r.length + u.length ≤ 16 →
    Rep (runs s r).L (runs s r).N (addP P u r) ∧ (runs s r).id = num (addP P u r) (r.reverse ++ u) ∧ Has (addP P u r) (r.reverse ++ u) ∧ Good (runs s r).L (runs s r).N ∧ (runs s r).L.Nodup ∧ (∃ E, (runs s r).L = L0 ++ E) := by
  intro r
  induction r with
  | nil =>
    intro k s P u hM _ hP hu hid _ _
    obtain ⟨E, hE, _⟩ := hM.ext
    exact ⟨hP, hid, hu, hM.good, hM.nodup, E, hE⟩
  | cons x r ih =>
    intro k s P u hM hk hP hu hid hx hl
    have hxk : r0.reverse[k]? = some x := by
      have := congrArg (fun l => l[0]?) hk
      simpa using this
    have hxr : x ∈ r0 := by have := List.mem_of_getElem? hxk; simpa using this
    have hnot := hx x r rfl
    have hA := hM.answers hR hxr
    have hE : ∃ E, internL s.L x = s.L ++ E := by
      unfold internL; split
      · exact ⟨[], by simp⟩
      · split
        · exact ⟨_, rfl⟩
        · exact ⟨[], by simp⟩
    have hP' := hP.snoc hE hA.2 hu hnot (by simp at hl; omega)
    rw [← hid] at hP'
    have hmem : x :: u ∈ P ++ [x :: u] := by simp
    have hidn : (stp s x).id = num (P ++ [x :: u]) (x :: u) := by
      rw [num_mem (by simp) hmem, idx_snoc hnot, hP.len]; rfl
    have := ih (k + 1) (stp s x) (P ++ [x :: u]) (x :: u) (hM.step hR hxk) (by rw [← List.drop_drop, hk]; simp) hP' (.inr hmem) hidn (by
      rintro y r' rfl hm
      rcases List.mem_append.1 hm with hm | hm
      · rcases (hP.tail hm).1 with e | e
        · cases e
        · exact hnot e
      · simp at hm) (by simp at hl ⊢; omega)
    have e1 : runs s (x :: r) = runs (stp s x) r := rfl
    have e2 : addP P u (x :: r) = addP (P ++ [x :: u]) (x :: u) r := by rw [addP, if_neg hnot]
    rw [e1, e2]
    simpa using this
/-- Intern, as stacks. -/
theorem intern_rep {L : List ByteArray} {N : List Nd} {P : List Stk} {ls : List ByteArray} (hP : Rep L N P) (hg : Good L N) (hd : L.Nodup) (hl : ls.length ≤ 16) (hR : Roomy L N.length (kn L N 0 ls.reverse).2.reverse) :
    Rep (runs ⟨L, N, (kn L N 0 ls.reverse).1⟩ (kn L N 0 ls.reverse).2).L (runs ⟨L, N, (kn L N 0 ls.reverse).1⟩ (kn L N 0 ls.reverse).2).N (addP P [] ls.reverse) ∧
    (runs ⟨L, N, (kn L N 0 ls.reverse).1⟩ (kn L N 0 ls.reverse).2).id = num (addP P [] ls.reverse) ls ∧ Has (addP P [] ls.reverse) ls ∧ Good (runs ⟨L, N, (kn L N 0 ls.reverse).1⟩ (kn L N 0 ls.reverse).2).L (runs ⟨L, N, (kn L N 0 ls.reverse).1⟩ (kn L N 0 ls.reverse).2).N ∧ (runs ⟨L, N, (kn L N 0 ls.reverse).1⟩ (kn L N 0 ls.reverse).2).L.Nodup ∧ ∃ E, (runs ⟨L, N, (kn L N 0 ls.reverse).1⟩ (kn L N 0 ls.reverse).2).L = L ++ E := by
  obtain ⟨u, h1, h2, h3, h4, h5⟩ := kn_rep hP hg.1 hd ls.reverse [] (.inl rfl)
  rw [num_nil] at h2 h3 h4 h5
  have hM := Mid.start (r0 := ls.reverse) hg hd rfl hR
  have hlen : (kn L N 0 ls.reverse).2.length + u.length ≤ 16 := by
    have := congrArg List.length h3
    simp at this
    omega
  have := runs_rep hR (kn L N 0 ls.reverse).2 0 _ P u hM (by simp) hP h1 h2 h5 hlen
  rw [← h4] at this
  rw [h3] at this
  simpa using this
end Go.Proofs.YtafkammiehcdjaaGreatDoor.E6
/-
  Intern whatever comes; two stacks to begin with.
-/
namespace Go.Proofs.YtafkammiehcdjaaGreatDoor.E6
open Go.RowKit Go.Maps Go.Shelf
/-- The stack's frames that are put in, with the number that they are put under. -/
def left (L : List ByteArray) (N : List Nd) (ls : List ByteArray) : Nat × List ByteArray := kn L N 0 ls.reverse
def after (L : List ByteArray) (N : List Nd) (ls : List ByteArray) : Stt := runs ⟨L, N, (left L N ls).1⟩ (left L N ls).2
/-- What Intern answers and leaves. -/
inductive Res (L : List ByteArray) (N : List Nd) (P : List Stk) (ls : List ByteArray) : Nat → Int → List ByteArray → List Nd → List Stk → Prop
  | deep : 16 < ls.length → Res L N P ls 0 51 L N P
  | full : ls.length ≤ 16 → ¬ Roomy L N.length (left L N ls).2.reverse → Res L N P ls 0 3 L N P
  | ok : ls.length ≤ 16 → Roomy L N.length (left L N ls).2.reverse → Res L N P ls (after L N ls).id 0 (after L N ls).L (after L N ls).N (addP P [] ls.reverse)
theorem addP_ext (P : List Stk) (u : Stk) (r : List ByteArray) : ∃ Q, addP P u r = P ++ Q := by
  induction r generalizing P u with
  | nil => exact ⟨[], by simp [addP]⟩
  | cons s r ih =>
    rw [addP]
    split
    · exact ih _ _
    · obtain ⟨Q, hQ⟩ := ih (P ++ [s :: u]) (s :: u)
      exact ⟨[s :: u] ++ Q, by rw [hQ]; simp⟩
/-- What holds of strings, nodes and stacks. -/
structure Fit (L : List ByteArray) (N : List Nd) (P : List Stk) : Prop where
  good : Good L N
  rep : Rep L N P
  nodup : L.Nodup
theorem Fit.nil : Fit [] [] [] := ⟨⟨by simp, by simp⟩, Rep.nil _, by simp⟩
theorem Fit.ok {L : List ByteArray} {N : List Nd} {P : List Stk} {ls : List ByteArray} (h : Fit L N P) (hl : ls.length ≤ 16) (hR : Roomy L N.length (left L N ls).2.reverse) :
    Fit (after L N ls).L (after L N ls).N (addP P [] ls.reverse) ∧ (after L N ls).id = num (addP P [] ls.reverse) ls ∧ Has (addP P [] ls.reverse) ls ∧ ∃ E, (after L N ls).L = L ++ E := by
  have := intern_rep h.rep h.good h.nodup hl hR
  exact ⟨⟨this.2.2.2.1, this.1, this.2.2.2.2.1⟩, this.2.1, this.2.2.1, this.2.2.2.2.2⟩
theorem Res.fit {L L' : List ByteArray} {N N' : List Nd} {P P' : List Stk} {ls : List ByteArray} {id : Nat} {er : Int} (h : Res L N P ls id er L' N' P') (hf : Fit L N P) : Fit L' N' P' ∧ (∃ Q, P' = P ++ Q) ∧ ∃ E, L' = L ++ E := by
  cases h with
  | deep _ => exact ⟨hf, ⟨[], by simp⟩, ⟨[], by simp⟩⟩
  | full _ _ => exact ⟨hf, ⟨[], by simp⟩, ⟨[], by simp⟩⟩
  | ok hl hR => exact ⟨(hf.ok hl hR).1, addP_ext _ _ _, (hf.ok hl hR).2.2.2⟩
/-- Sets that only grow by new blocks. -/
def More (w : World) (T T' : Nat → Prop) : Prop := ∀ k, T' k → T k ∨ w.heap.size ≤ k
theorem intern_u {w : World} {T S : Nat → Prop} {tb fb : Nat} {L : List ByteArray} {N : List Nd} (P : List Stk) (h : St w T S tb fb L N) (hg : Good L N) (a : Option Addr) (n c : Nat) (ls : List ByteArray) (hr : SRow w a n ls) (hn : (n : Int) ≤ 9223372036854775806) (hc : n ≤ c) (hz : ∀ s ∈ ls, s.size ≤ maxLen)
    (hrT : ∀ b off, a = some ⟨b, off, none⟩ → n ≠ 0 → ¬ T b ∧ ¬ S b) :
    Calls Tryz.prog 26 #[.pointer (some ⟨fb, 0, none⟩), .slice a n c] w fun e w' => ∃ id er L' N' P', e = .returned (.tuple #[.int .i64 (id : Nat), .int .i64 er]) ∧ Res L N P ls id er L' N' P' ∧
      (∃ T' S', St w' T' S' tb fb L' N' ∧ More w T T' ∧ More w S S') ∧ But (fun k => T k ∨ S k) w w' := by
  by_cases hd : n ≤ 16
  · by_cases hR : Roomy L N.length (kn L N 0 ls.reverse).2.reverse
    · refine (intern_f h hg a n c ls hr hd hc hz hrT hR).mono ?_
      rintro e w' ⟨rfl, hT, hb⟩
      exact ⟨_, _, _, _, _, rfl, .ok (by rw [hr.len]; exact hd) hR, hT, hb⟩
    · refine (intern_full h a n c ls hr hd hc hz hR).mono ?_
      rintro e w' ⟨rfl, hb⟩
      exact ⟨_, _, _, _, _, rfl, .full (by rw [hr.len]; exact hd) hR, ⟨T, S, h.but (U := fun _ => False) (But.of_below hb) (fun _ _ e => e) (fun _ _ e => e), fun _ e => .inl e, fun _ e => .inl e⟩, But.of_below hb⟩
  · refine (intern_deep h a n c (by omega) (by omega)).mono ?_
    rintro e w' ⟨rfl, hb⟩
    exact ⟨_, _, _, _, _, rfl, .deep (by rw [hr.len]; omega), ⟨T, S, h.but (U := fun _ => False) (But.of_below hb) (fun _ _ e => e) (fun _ _ e => e), fun _ e => .inl e, fun _ e => .inl e⟩, But.of_below hb⟩
theorem tab_new (w : World) : Tab (w.alloc (.cells #[.slice none 0 0, .map none, .int .i64 0] 103)) w.heap.size (fun k => k = w.heap.size) [] (.slice none 0 0) (.map none) :=
  ⟨heap_alloc_new w _, World.ownsRow_nil _ _ _ _, .inl ⟨rfl, rfl⟩, rfl, by simp [Value.ownBlock], by simp, by simp, by simp, by simp [total]⟩
/-- A new table and a new forest over it. -/
theorem st_new {w w' : World} {v : Value} {mb : Nat} (hF : Frs w' ((w.alloc (.cells #[.slice none 0 0, .map none, .int .i64 0] 103)).heap.size + 1) w.heap.size (fun k => (w.alloc (.cells #[.slice none 0 0, .map none, .int .i64 0] 103)).heap.size ≤ k ∧ k < w'.heap.size) [] v mb)
    (hb : Below (w.alloc (.cells #[.slice none 0 0, .map none, .int .i64 0] 103)).heap.size (w.alloc (.cells #[.slice none 0 0, .map none, .int .i64 0] 103)) w') :
    St w' (fun k => k = w.heap.size) (fun k => w.heap.size + 1 ≤ k ∧ k < w'.heap.size) w.heap.size (w.heap.size + 2) [] [] ∧ Below w.heap.size w w' := by
  have hsz := hb.size
  have ht := (tab_new w).kept (T := fun _ => False) (But.of_below hb) (fun _ _ e => e)
  rw [World.size_alloc] at hF hb hsz
  refine ⟨⟨⟨_, _, _, _, ht, hF⟩, ?_, ?_, ?_⟩, ?_⟩
  · rintro k rfl; omega
  · rintro k rfl; omega
  · intro k hk; exact hk.2
  · exact ((Below.refl _ w).alloc (Nat.le_refl _) _).trans (hb.mono (Nat.le_succ _))
theorem But.beyond {U : Nat → Prop} {w0 w w' : World} (h : But U w w') (hb : Below w0.heap.size w0 w) (hU : ∀ k, U k → w0.heap.size ≤ k) : Below w0.heap.size w0 w' := hb.trans (h.below hb.size hU)
theorem row_own {w : World} {base : Nat} {v : Value} {L : List ByteArray} (h : w.ownsRow base 9 1 v L.length (L.map Value.string)) : ∃ a c, v = .slice a L.length c ∧ SRow w a L.length L ∧ L.length ≤ c := by
  rcases h.2 with ⟨hv, h0⟩ | ⟨g, cap, cur, hv, hb, hg, hn, hm, hs, ht⟩
  · exact ⟨none, 0, by rw [hv, h0], ⟨rfl, .inl h0⟩, by omega⟩
  · subst hv; exact ⟨_, cap, rfl, SRow.of_own h, hn⟩
end Go.Proofs.YtafkammiehcdjaaGreatDoor.E6
