/-
  The law's small calls: num, textsSame, outer, seen.
-/
import Derived.Test.YtjpccaeojimlfaaForF
namespace Go.Proofs.Ytjpccaeojimlfaa
open Go.RowKit Go.Maps Go.Shelf
theorem num_any (e : Int) (w : World) : Calls Try.prog 15 #[.int .i64 e] w fun x w' => x = .returned (.int .i64 e) ∧ w' = w := by
  go_enter Try.func15, Try.ntmps15
  go_wp2
  go_ret
  exact ⟨rfl, rfl⟩
def eqB (A B : List ByteArray) : Bool := decide (A.map ByteArray.data = B.map ByteArray.data)
theorem map_data_inj {A B : List ByteArray} (h : A.map ByteArray.data = B.map ByteArray.data) : A = B := by
  induction A generalizing B with
  | nil => cases B; rfl; simp at h
  | cons x A ih =>
    cases B with
    | nil => simp at h
    | cons y B =>
      simp at h
      rw [ih h.2]
      cases x; cases y; simp at h; rw [h.1]
theorem eqB_iff {A B : List ByteArray} : eqB A B = true ↔ A = B := by
  unfold eqB; rw [decide_eq_true_eq]
  exact ⟨map_data_inj, fun h => by rw [h]⟩
theorem eqB_self (A : List ByteArray) : eqB A A = true := eqB_iff.2 rfl
theorem eqB_not {A B : List ByteArray} (h : A ≠ B) : eqB A B = false := by
  cases e : eqB A B
  · rfl
  · exact absurd (eqB_iff.1 e) h
theorem take_same {A B : List ByteArray} {k n : Nat} (hA : A.length = n) (hB : B.length = n) (hk : k < n) (h : A.take k = B.take k) : (A.take (k + 1) = B.take (k + 1)) ↔ A.getD k ByteArray.empty = B.getD k ByteArray.empty := by
  rw [List.take_add_one, List.take_add_one, getD_get (by omega), getD_get (by omega), h]
  simp
set_option maxRecDepth 4000 in
theorem texts_any (a b : Option Addr) (n ca m cb : Nat) (A B : List ByteArray) (w : World) (hA : SRow w a n A) (hB : SRow w b m B) (hn : (n : Int) ≤ 9223372036854775806) :
    Calls Try.prog 19 #[.slice a n ca, .slice b m cb] w fun e w' => e = .returned (.bool (eqB A B)) ∧ ∃ k, w' = w.drewN k := by
  have hla := hA.len
  have hlb := hB.len
  by_cases hnm : n = m
  · subst hnm
    have H1 : Hid (SRow w a n A) := hA
    have H2 : Hid (SRow w b n B) := hB
    have L1 : Hid (A.length = n) := hla
    have L2 : Hid (B.length = n) := hlb
    clear hA hB hla hlb
    go_enter Try.func19, Try.ntmps19
    go_wp2
    go_loopw [5] (fun i wr => ∃ k q : Nat, k ≤ n ∧ i = .int .i64 k ∧ wr = w.drewN q ∧ A.take k = B.take k) (fun i _ => n - (intOf i).toNat)
    case atStart => exact ⟨0, 0, Nat.zero_le _, rfl, rfl, rfl⟩
    case round =>
      obtain ⟨k, q, hk, rfl, hw, he⟩ := hrel
      have HW : Hid (wr = w.drewN q) := hw
      have H1r : Hid (SRow wr a n A) := hide (by rw [hw]; exact H1.out.drewN q)
      have H2r : Hid (SRow wr b n B) := hide (by rw [hw]; exact H2.out.drewN q)
      clear hw
      have HE : Hid (A.take k = B.take k) := he
      clear he
      by_cases hlt : k < n
      · obtain ⟨b1, o1, rfl, hc1⟩ := H1r.out.at hlt
        obtain ⟨b2, o2, rfl, hc2⟩ := H2r.out.at hlt
        have HS : Hid _ := hide (take_same L1.out L2.out hlt HE.out)
        generalize A.getD k ByteArray.empty = x at hc1 HS
        generalize B.getD k ByteArray.empty = y at hc2 HS
        cases hxy : x.toList == y.toList
        · have HN : Hid (eqB A B = false) := hide (eqB_not (fun e => str_ne hxy (HS.out.1 (by rw [e]))))
          have hne : (x.toList != y.toList) = true := by rw [bne, hxy]; rfl
          go_wp2
          go_quiet (fail)
          go_wp2
          go_ret
          exact ⟨ret_bool HN.out.symm, q + nq, by rw [HW.out]; exact World.drewN_drewN _ _ _⟩
        · have HN : Hid (A.take (k + 1) = B.take (k + 1)) := HS.out.2 (str_eq hxy)
          have hne : (x.toList != y.toList) = false := by rw [bne, hxy]; rfl
          go_wp2
          go_quiet (fail)
          go_wp2
          exact ⟨⟨k + 1, q + nq, by omega, by go_num, by rw [HW.out]; exact World.drewN_drewN _ _ _, HN.out⟩, by simp [intOf]; omega⟩
      · have HN : Hid (eqB A B = true) := hide (eqB_iff.2 (by
          have e := HE.out
          rwa [List.take_of_length_le (by have := L1.out; omega), List.take_of_length_le (by have := L2.out; omega)] at e))
        go_wp2
        go_ret
        exact ⟨ret_bool HN.out.symm, q, HW.out⟩
  · have HN : Hid (eqB A B = false) := hide (eqB_not (fun e => hnm (by rw [← hla, ← hlb, e])))
    have hq : ((n : Int) != (m : Int)) = true := by simp; omega
    generalize eqB A B = r at HN ⊢
    clear hA hB hla hlb
    go_enter Try.func19, Try.ntmps19
    go_wp2
    go_ret
    exact ⟨ret_bool HN.out.symm, 0, rfl⟩
theorem SRow.drop {w : World} {b off n : Nat} {L : List ByteArray} (h : SRow w (some ⟨b, off, none⟩) n L) {j : Nat} (hj : j ≤ n) : SRow w (some ⟨b, off + j, none⟩) (n - j) (L.drop j) := by
  refine ⟨by have := h.len; simp; omega, ?_⟩
  rcases h.cells with h0 | ⟨b', off', ha, hc⟩
  · exact .inl (by omega)
  · cases ha
    refine .inr ⟨b, off + j, rfl, fun i hi => ?_⟩
    have := hc (j + i) (by omega)
    rw [Nat.add_assoc, this]
    simp [List.getD_eq_getElem?_getD]
theorem outer_any (b off n c k : Nat) (w : World) (hk : 1 ≤ k) (hkn : k ≤ n) (hn : (n : Int) ≤ 9223372036854775806) (hc : n ≤ c) :
    Calls Try.prog 18 #[.slice (some ⟨b, off, none⟩) n c, .int .i64 (k : Int)] w fun e w' => e = .returned (.slice (some ⟨b, off + (n - k), none⟩) k (c - (n - k))) ∧ w' = w := by
  obtain ⟨j, rfl⟩ : ∃ j, n = j + k := ⟨n - k, by omega⟩
  have e1 : j + k - k = j := by omega
  rw [e1]
  have hI : ((j + k : Nat) : Int) - (k : Int) = (j : Int) := by omega
  have h1 : ((j + k : Nat) : Int) ≤ c := by omega
  have h2 : ¬ c = j := by omega
  have h3 : (j : Int) ≤ ((j + k : Nat) : Int) := by omega
  have h4 : j ≤ j + k := by omega
  have h5 : j + k - j = k := by omega
  go_enter Try.func18, Try.ntmps18
  go_wp2
  go_ret
  exact ⟨rfl, rfl⟩
/-! ### lists of stacks -/
structure PRow (w : World) (a : Option Addr) (n : Nat) (P : List Stk) : Prop where
  len : P.length = n
  cells : n = 0 ∨ ∃ b off, a = some ⟨b, off, none⟩ ∧ ∀ i, i < n → ∃ ai ci, w.cell? ⟨b, off + i, none⟩ = some (.slice ai (P.getD i []).length ci) ∧ SRow w ai (P.getD i []).length (P.getD i []) ∧ (P.getD i []).length ≤ ci
theorem PRow.at {w : World} {a : Option Addr} {n : Nat} {P : List Stk} (h : PRow w a n P) {i : Nat} (hi : i < n) : ∃ b off ai ci, a = some ⟨b, off, none⟩ ∧ w.cell? ⟨b, off + i, none⟩ = some (.slice ai (P.getD i []).length ci) ∧ SRow w ai (P.getD i []).length (P.getD i []) ∧ (P.getD i []).length ≤ ci := by
  rcases h.cells with h0 | ⟨b, off, ha, hc⟩
  · omega
  · obtain ⟨ai, ci, h1, h2, h3⟩ := hc i hi
    exact ⟨b, off, ai, ci, ha, h1, h2, h3⟩
theorem SRow.below {w w' : World} {a : Option Addr} {n : Nat} {L : List ByteArray} (h : SRow w a n L) (hb : Below w.heap.size w w') : SRow w' a n L := h.but (T := fun _ => False) (But.of_below hb) (fun _ _ _ _ e => e)
theorem PRow.below {w w' : World} {a : Option Addr} {n : Nat} {P : List Stk} (h : PRow w a n P) (hb : Below w.heap.size w w') : PRow w' a n P := by
  refine ⟨h.len, h.cells.imp (fun e => e) ?_⟩
  rintro ⟨b, off, ha, hc⟩
  refine ⟨b, off, ha, fun i hi => ?_⟩
  obtain ⟨ai, ci, h1, h2, h3⟩ := hc i hi
  exact ⟨ai, ci, cell_block h1 (hb.block b (World.block_lt_of_cell? w _ h1)), h2.below hb, h3⟩
theorem PRow.drewN {w : World} {a : Option Addr} {n : Nat} {P : List Stk} (h : PRow w a n P) (j : Nat) : PRow (w.drewN j) a n P := h.below (below_drewN (Below.refl _ _) j)
theorem getP_get {P : List Stk} {k : Nat} (h : k < P.length) : P[k]? = some (P.getD k []) := by
  rw [List.getD_eq_getElem?_getD]; simp [h]
open Classical in
/-- Is it among them? -/
noncomputable def inP (P : List Stk) (p : Stk) : Bool := decide (p ∈ P)
theorem inP_iff {P : List Stk} {p : Stk} : inP P p = true ↔ p ∈ P := by unfold inP; simp
theorem inP_not {P : List Stk} {p : Stk} : inP P p = false ↔ p ∉ P := by unfold inP; simp
theorem seen_any (a b : Option Addr) (n c m cb : Nat) (P : List Stk) (p : Stk) (w : World) (hP : PRow w a n P) (hp : SRow w b m p) (hn : (n : Int) ≤ 9223372036854775806) (hz : ∀ q ∈ P, (q.length : Int) ≤ 9223372036854775806) :
    Calls Try.prog 17 #[.slice a n c, .int .i64 (n : Int), .slice b m cb] w fun e w' => e = .returned (.bool (inP P p)) ∧ ∃ k, w' = w.drewN k := by
  have H1 : Hid (PRow w a n P) := hP
  have H2 : Hid (SRow w b m p) := hp
  have HL : Hid (P.length = n) := hP.len
  have HZ : Hid (∀ q ∈ P, (q.length : Int) ≤ 9223372036854775806) := hz
  clear hP hp hz
  go_enter Try.func17, Try.ntmps17
  go_wp2
  go_loopw [7] (fun i wr => ∃ k q : Nat, k ≤ n ∧ i = .int .i64 k ∧ wr = w.drewN q ∧ p ∉ P.take k) (fun i _ => n - (intOf i).toNat)
  case atStart => exact ⟨0, 0, Nat.zero_le _, rfl, rfl, by simp⟩
  case round =>
    obtain ⟨k, q, hk, rfl, hw, he⟩ := hrel
    have HW : Hid (wr = w.drewN q) := hw
    have H1r : Hid (PRow wr a n P) := hide (by rw [hw]; exact H1.out.drewN q)
    have H2r : Hid (SRow wr b m p) := hide (by rw [hw]; exact H2.out.drewN q)
    have HE : Hid (p ∉ P.take k) := he
    clear hw he
    by_cases hlt : k < n
    · obtain ⟨b1, o1, ai, ci, ha, hc1, hr1, _⟩ := H1r.out.at hlt
      subst ha
      obtain ⟨x, hx⟩ : ∃ x, x = P.getD k [] := ⟨_, rfl⟩
      rw [← hx] at hc1 hr1
      have hxP : P[k]? = some x := by rw [hx]; exact getP_get (by have := HL.out; omega)
      have HQ : Hid _ := hide (texts_any ai b x.length ci m cb x p wr hr1 H2r.out (HZ.out x (List.mem_of_getElem? hxP)))
      have HX : Hid (if eqB x p = true then inP P p = true else p ∉ P.take (k + 1)) := hide (by
        split
        · rename_i e; rw [eqB_iff] at e; subst e; exact inP_iff.2 (List.mem_of_getElem? hxP)
        · rename_i e
          rw [List.take_add_one, hxP]
          intro hm
          rcases List.mem_append.1 hm with hm | hm
          · exact HE.out hm
          · simp at hm; subst hm; exact e (eqB_self _))
      generalize eqB x p = bb at HQ HX
      clear hx hxP hr1
      go_wp2_with fail
      refine HQ.out.mono ?_
      rintro e w1 ⟨rfl, j, hj⟩
      have HJ : Hid (∃ m, w1 = w.drewN m) := hide ⟨q + j, by rw [hj, HW.out]; exact World.drewN_drewN _ _ _⟩
      clear hj
      cases bb
      · have := HX.out
        rw [if_neg (by simp)] at this
        go_wp2
        obtain ⟨m, hm⟩ := HJ.out
        exact ⟨⟨k + 1, m, by omega, by go_num, hm, this⟩, by simp [intOf]; omega⟩
      · have HY : Hid (inP P p = true) := hide (by have := HX.out; rwa [if_pos rfl] at this)
        go_wp2
        go_ret
        exact ⟨ret_bool HY.out.symm, HJ.out⟩
    · have HY : Hid (inP P p = false) := hide (by
        have e := HE.out
        rw [List.take_of_length_le (by have := HL.out; omega)] at e
        exact inP_not.2 e)
      go_wp2
      go_ret
      exact ⟨ret_bool HY.out.symm, q, HW.out⟩
/-- The parts: a row of the call's own, its stacks in memory that was there at the start. -/
structure Parts (w0 w : World) (v : Value) (P : List Stk) : Prop where
  own : ∃ vals : List Value, w.ownsRow w0.heap.size 28 1 v P.length vals ∧ ∀ (i : Nat) (p : Stk), P[i]? = some p → ∃ ai ci, vals[i]? = some (Value.slice ai p.length ci) ∧ SRow w0 ai p.length p ∧ p.length ≤ ci
theorem Parts.prow {w0 w : World} {a : Option Addr} {n c : Nat} {P : List Stk} (h : Parts w0 w (.slice a n c) P) (hb : Below w0.heap.size w0 w) : PRow w a P.length P ∧ n = P.length := by
  obtain ⟨vals, ho, hv⟩ := h.own
  obtain ⟨a', c', e⟩ := own_form ho
  cases e
  refine ⟨⟨rfl, ?_⟩, rfl⟩
  by_cases h0 : P.length = 0
  · exact .inl h0
  · right
    rcases ho.2 with ⟨_, e⟩ | ⟨g, cap, cur, e, hg, _⟩
    · exact absurd e h0
    · cases e
      refine ⟨g, 0, rfl, fun i hi => ?_⟩
      obtain ⟨ai, ci, h1, h2, h3⟩ := hv i _ (getP_get hi)
      have := ho.cells (g := g) rfl i _ h1
      have ha : (⟨g, 0, none⟩ : Addr).add i = ⟨g, 0 + i, none⟩ := by unfold Addr.add; split <;> simp_all
      rw [ha] at this
      exact ⟨ai, ci, this, h2.below hb, h3⟩
theorem Parts.kept {T : Nat → Prop} {w0 w w' : World} {v : Value} {P : List Stk} (h : Parts w0 w v P) (hb : But T w w') (hT : ∀ g, v.ownBlock = some g → ¬ T g) : Parts w0 w' v P := by
  obtain ⟨vals, ho, hv⟩ := h.own
  exact ⟨vals, own_but ho hb hT, hv⟩
theorem Parts.lt {w0 w : World} {v : Value} {P : List Stk} (h : Parts w0 w v P) : ∀ g, v.ownBlock = some g → w0.heap.size ≤ g ∧ g < w.heap.size := by
  obtain ⟨vals, ho, _⟩ := h.own
  intro g hg
  refine ⟨?_, own_lt ho g hg⟩
  rcases ho.2 with ⟨hv, _⟩ | ⟨g', cap, cur, hv, hb, _⟩
  · rw [hv] at hg; simp [Value.ownBlock] at hg
  · rw [hv] at hg; simp [Value.ownBlock] at hg; omega
theorem Try.infoStrs : (Try.prog.info? 28).map (fun i => (i.zero, i.size, i.bytes)) = some (some (.slice none 0 0), 1, 24) := by kernel_rfl
/-- 'append(parts, s)'. -/
theorem append_part (w : World) {ops : Array Oper} {rest : List Oper} {o : Oper} {a : Act} {Q : Exit → Act → World → Prop} (hgd : o.guard = none) (s x : Operand)
    (ho : o.op = .call { callee := .builtin .append, args := #[s, x], argTypes := #[22, 22] }) (w0 : World) (v : Value) (P : List Stk) (hs : a.eval s = v) (hown : Parts w0 w v P)
    (X : Nat) (ai : Option Addr) (ci : Nat) (p : Stk) (hx : a.eval x = .slice (some ⟨X, 0, none⟩) 1 1) (hc : w.cell? ⟨X, 0, none⟩ = some (.slice ai p.length ci)) (hp : SRow w0 ai p.length p) (hci : p.length ≤ ci)
    (hb : (P.length : Int) ≤ 4294967296) (hbase : w0.heap.size ≤ w.heap.size)
    (h : ∀ (a' : Option Addr) (c' : Nat) w', Parts w0 w' (.slice a' (P.length + 1) c') (P ++ [p]) → w.grownBy w' v.ownBlock → ((Value.slice a' (P.length + 1) c').ownBlock = v.ownBlock ∨ (Value.slice a' (P.length + 1) c').ownBlock = some w.heap.size) → wpList Try.prog ops Q rest (a.put o.dst (.slice a' (P.length + 1) c')) w') : wpList Try.prog ops Q (o :: rest) a w := by
  obtain ⟨i0, hi, hz0, hz1, hz2⟩ := info_parts Try.infoStrs
  obtain ⟨vals, hown, hv⟩ := hown.own
  refine wpList_append_own_at w hgd s x 22 ho w0.heap.size 28 i0 (.slice none 0 0) 1 24 Try.underlying22 hi hz0 hz1 hz2 rfl (by decide) v P.length _ hs hown ⟨X, 0, none⟩ 1 1 [.slice ai p.length ci] hx rfl (by intro t u ht; match t, ht with | 0, ht => simp at ht; subst ht; simpa [Addr.add] using hc) (by intro u hu; simp at hu; subst hu; rfl) (by unfold maxLen; omega) (by omega) hbase ?_
  intro v' w' h1 h2 _ h3
  obtain ⟨a', c', rfl⟩ := own_form h1
  refine h a' c' w' ⟨_, by simpa using h1, ?_⟩ h2 h3
  have hvl : vals.length = P.length := by have := hown.1; simpa using this
  intro i q hq
  by_cases hi : i < P.length
  · rw [List.getElem?_append_left hi] at hq
    obtain ⟨ai', ci', e1, e2⟩ := hv i q hq
    exact ⟨ai', ci', by rw [List.getElem?_append_left (by omega)]; exact e1, e2⟩
  · have : i < (P ++ [p]).length := (List.getElem?_eq_some_iff.1 hq).1
    simp at this
    have hi' : i = P.length := by omega
    subst hi'
    simp at hq
    subst hq
    exact ⟨ai, ci, by rw [← hvl]; simp, hp, hci⟩
end Go.Proofs.Ytjpccaeojimlfaa
