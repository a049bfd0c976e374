/-
  The document reads a record.
-/
import Derived.Test.YtffakkdmojhjkaaRRd
import Derived.Test.YtffakkdmojhjkaaRefL
import Derived.Test.YtffakkdmojhjkaaDecG
import Derived.Deep.RegionLaw
namespace Go.Proofs.Ytffakkdmojhjkaa
open Go.RowKit Go.Maps Go.Shelf
attribute [local go_sem] Oper.semAt_some
theorem rdepth_any {w : World} {fb tb : Nat} {S : Nat → Prop} {N : List Nd} {v : Value} (hF : RFr w fb tb S N v) (hA : Anc N) (id : Nat) (hid : id ≤ N.length) :
    Calls Try.prog 83 #[.pointer (some ⟨fb, 0, none⟩), .int .i64 (id : Int)] w fun e w' => e = .returned (.int .i64 (depth N id : Int)) ∧ w' = w := by
  have HF : Hid (RFr w fb tb S N v) := hF
  have HA : Hid (Anc N) := hA
  have c1 := hF.cell1
  obtain ⟨va, vc, rfl⟩ := own_form hF.own
  have hNl : (N.length : Int) ≤ 262144 := by have := hF.len; omega
  have hdb : Hid (depth N id ≤ 262144) := hide (by have := depth_le hA id hid; have := hF.len; omega)
  clear hF hA
  go_enter Try.func83, Try.ntmps83
  go_wp2
  go_loopw [1, 5] (fun i d wr => ∃ (j q : Nat), j ≤ N.length ∧ i = .int .i64 (j : Int) ∧ d = .int .i64 (q : Int) ∧ q + depth N j = depth N id ∧ wr = w) (fun i _ _ => (intOf i).toNat)
  case atStart => exact ⟨id, 0, hid, rfl, rfl, by omega, rfl⟩
  case round =>
    obtain ⟨j, q, hj, rfl, rfl, hq, rfl⟩ := hrel
    have HQ : Hid _ := hide hq
    cases j with
    | zero =>
      have HX : Hid (q = depth N id) := hide (by have := HQ.out; rw [depth_zero] at this; omega)
      clear hq
      go_wp2
      go_ret
      exact ⟨by rw [← HX.out]; rfl, rfl⟩
    | succ j =>
      obtain ⟨g, c, hv, n0, n1⟩ := HF.out.node_at (getN_get (N := N) (k := j) (by omega))
      cases hv
      have hle := HA.out j _ (getN_get (N := N) (k := j) (by omega))
      have HX : Hid (q + 1 + depth N (N.getD j (0, 0)).1 = depth N id) := hide (by have := HQ.out; rw [depth_succ HA.out (by omega)] at this; omega)
      have hqb : (q : Int) ≤ 262144 := by have := HX.out; have := hdb.out; omega
      generalize (N.getD j (0, 0)).1 = p at n0 hle HX
      have hj' : (j : Int) < N.length := by omega
      have HL : Hid (p ≤ j) := hle
      clear hq n1 hle
      go_wp2
      exact ⟨⟨p, q + 1, by have := HL.out; omega, rfl, by go_num, HX.out, trivial⟩, by have := HL.out; simp [intOf]; omega⟩
theorem step_rnodes {ops : Array Oper} {o : Oper} {a : Act} {w : World} {K : Act → World → Prop} {Q : Exit → Act → World → Prop} {E : Prop}
    (hg : o.guard = none) (s x : Operand) (hop : o.op = Op.call { callee := Callee.builtin Builtin.append, args := #[s, x], argTypes := #[80, 80] })
    (v : Value) (N : List Nd) (hs : a.eval s = v) (hown : w.ownsRow 0 88 2 v N.length (ncells N))
    (X : Nat) (n : Nd) (hx : a.eval x = .slice (some ⟨X, 0, none⟩) 1 1) (c0 : w.cell? ⟨X, 0, none⟩ = some (.int .i64 (n.1 : Int))) (c1 : w.cell? ⟨X, 1, none⟩ = some (.int .i64 (n.2 : Int)))
    (hb : (N.length : Int) ≤ 4294967296)
    (h : ∀ (a' : Option Addr) (c' : Nat) w', w'.ownsRow 0 88 2 (.slice a' (N.length + 1) c') (N.length + 1) (ncells (N ++ [n])) → w.grownBy w' v.ownBlock → ((Value.slice a' (N.length + 1) c').ownBlock = v.ownBlock ∨ (Value.slice a' (N.length + 1) c').ownBlock = some w.heap.size) → K (a.put o.dst (.slice a' (N.length + 1) c')) w') :
    if Region.wanted o (yielded ops a.tmps) = true then Oper.wp Try.prog o a w K Q else E := by
  have hw : Region.wanted o (yielded ops a.tmps) = true := by simp [Region.wanted, hg]
  rw [if_pos hw]
  obtain ⟨i0, hi, hz0, hz1, hz2⟩ := info_parts Try.infoRNode
  obtain ⟨v', w', hr, h2, h3, _, h5⟩ := run_append_own_at (P := Try.prog) w 0 80 o.type 88 i0 _ 2 16 Try.underlying80 hi hz0 hz1 hz2 rfl (by decide) v N.length _ hown ⟨X, 0, none⟩ 1 1 [.int .i64 (n.1 : Int), .int .i64 (n.2 : Int)] rfl
    (by intro j u hu
        match j, hu with
        | 0, hu => simp at hu; subst hu; simpa [Addr.add] using c0
        | 1, hu => simp at hu; subst hu; simpa [Addr.add] using c1)
    (by intro u hu; simp at hu; rcases hu with rfl | rfl <;> rfl) (by unfold maxLen; omega) (by omega) (Nat.zero_le _)
  obtain ⟨a', c', rfl⟩ := own_form h2
  unfold Oper.wp execOp
  simp only [hop, resolve, invoke, builtin, Sem.run_bind, Sem.run_pure, Result.andThen_ok, List.map_toArray, List.map_cons, List.map_nil, hs, hx, hr]
  exact h a' c' w' (by rw [ncells_snoc]; exact h2) h3 h5
/-- The document's forest, all its memory new since w0, over a table that was there. -/
structure RFN (w0 w : World) (T S : Nat → Prop) (tb fb : Nat) (L : List ByteArray) (N : List Nd) : Prop where
  tab : ∃ tv, RTab w0 tb T L tv
  frs : ∃ v, RFr w fb tb S N v
  news : ∀ k, S k → w0.heap.size ≤ k ∧ k < w.heap.size
  bel : Below w0.heap.size w0 w
  fit : ∃ P, Fit L N P
theorem RFN.but {w0 w w' : World} {T S U : Nat → Prop} {tb fb : Nat} {L : List ByteArray} {N : List Nd} (h : RFN w0 w T S tb fb L N) (hb : But U w w') (hU : ∀ k, U k → w0.heap.size ≤ k ∧ ¬ S k) : RFN w0 w' T S tb fb L N := by
  obtain ⟨v, hF⟩ := h.frs
  exact ⟨h.tab, ⟨v, hF.kept hb (fun k hk e => (hU k e).2 hk)⟩, fun k hk => ⟨(h.news k hk).1, Nat.lt_of_lt_of_le (h.news k hk).2 hb.size⟩, hb.beyond h.bel (fun k e => (hU k e).1), h.fit⟩
theorem RFN.below {w0 w w' : World} {T S : Nat → Prop} {tb fb : Nat} {L : List ByteArray} {N : List Nd} (h : RFN w0 w T S tb fb L N) (hb : Below w.heap.size w w') : RFN w0 w' T S tb fb L N := h.but (U := fun _ => False) (But.of_below hb) (fun _ e => e.elim)
set_option maxHeartbeats 1000000 in
set_option maxRecDepth 4000 in
theorem rread_any {w0 w : World} {T S : Nat → Prop} {tb fb : Nat} {L : List ByteArray} {N : List Nd} (h : RFN w0 w T S tb fb L N) (a : Option Addr) (n c : Nat) (zs : List Int) (t : Int) (hr : Row w0 a n zs) (hn : (n : Int) ≤ 140737488355328) :
    Calls Try.prog 69 #[.pointer (some ⟨fb, 0, none⟩), .slice a n c, .int .i64 t] w fun e w' => e = recE (rdRecN L.length N zs t) ∧ ∃ S', RFN w0 w' T S' tb fb L (rdRecN L.length N zs t).2.2 ∧ More w S S' ∧ But S w w' := by
  have HN : Hid (RFN w0 w T S tb fb L N) := h
  obtain ⟨tv, hT0⟩ := h.tab
  obtain ⟨v, hF⟩ := h.frs
  have hS := h.news
  obtain ⟨P, hfit⟩ := h.fit
  have hT := hT0.kept (T := fun _ => False) (But.of_below h.bel) (fun _ _ e => e)
  have c0 := hF.cell0
  have c1 := hF.cell1
  have t0 := hT.cell0
  obtain ⟨va, vc, rfl⟩ := own_form hF.own
  obtain ⟨ta, tc, rfl⟩ := own_form hT.own
  have hNl : (N.length : Int) ≤ 262144 := by have := hF.len; omega
  have hLl : (L.length : Int) ≤ 65536 := by have := hT.len; omega
  have hrw := hr.below h.bel
  have HQ1 : Hid _ := hide (rru_any a n c t zs w hrw (by omega))
  have HR : Hid (Row w a n zs) := hrw
  have HTL : Hid _ := hide (rlen_any tb _ tc ta w t0)
  have HF : Hid _ := hide hF
  have HS : Hid _ := hide hS
  have HFit : Hid (Fit L N P) := hfit
  have hbd := rdAt_bd zs t hr.u8
  have e1 : (rdAt zs t).2.2 ≠ 0 → rdRecN L.length N zs t = (0, (rdAt zs t).2.2, N) := fun h => by unfold rdRecN; rw [if_pos h]
  have e2 : (rdAt zs t).2.2 = 0 → (N.length : Int) < (rdAt zs t).1 → rdRecN L.length N zs t = (0, 52, N) := fun h h' => by unfold rdRecN; rw [if_neg (by omega), if_pos h']
  have e3 : (rdAt zs t).2.2 = 0 → ¬ (N.length : Int) < (rdAt zs t).1 → (rdAt zs (rdAt zs t).2.1).2.2 ≠ 0 → rdRecN L.length N zs t = (0, (rdAt zs (rdAt zs t).2.1).2.2, N) := fun h h' h3 => by unfold rdRecN; rw [if_neg (by omega), if_neg h', if_pos h3]
  have e4 : (rdAt zs t).2.2 = 0 → ¬ (N.length : Int) < (rdAt zs t).1 → (rdAt zs (rdAt zs t).2.1).2.2 = 0 → (L.length : Int) ≤ (rdAt zs (rdAt zs t).2.1).1 → rdRecN L.length N zs t = (0, 40, N) := fun h h' h3 h4 => by unfold rdRecN; rw [if_neg (by omega), if_neg h', if_neg (by omega), if_pos h4]
  have e5 : (rdAt zs t).2.2 = 0 → ¬ (N.length : Int) < (rdAt zs t).1 → (rdAt zs (rdAt zs t).2.1).2.2 = 0 → ¬ (L.length : Int) ≤ (rdAt zs (rdAt zs t).2.1).1 → why N (N.length - (rdAt zs t).1.toNat, (rdAt zs (rdAt zs t).2.1).1.toNat) ≠ 0 → rdRecN L.length N zs t = (0, why N (N.length - (rdAt zs t).1.toNat, (rdAt zs (rdAt zs t).2.1).1.toNat), N) := fun h h' h3 h4 h5 => by unfold rdRecN; rw [if_neg (by omega), if_neg h', if_neg (by omega), if_neg h4, if_pos h5]
  have e6 : (rdAt zs t).2.2 = 0 → ¬ (N.length : Int) < (rdAt zs t).1 → (rdAt zs (rdAt zs t).2.1).2.2 = 0 → ¬ (L.length : Int) ≤ (rdAt zs (rdAt zs t).2.1).1 → why N (N.length - (rdAt zs t).1.toNat, (rdAt zs (rdAt zs t).2.1).1.toNat) = 0 → rdRecN L.length N zs t = ((rdAt zs (rdAt zs t).2.1).2.1, 0, N ++ [(N.length - (rdAt zs t).1.toNat, (rdAt zs (rdAt zs t).2.1).1.toNat)]) := fun h h' h3 h4 h5 => by unfold rdRecN; rw [if_neg (by omega), if_neg h', if_neg (by omega), if_neg h4, if_neg (by omega)]
  generalize rdRecN L.length N zs t = R at e1 e2 e3 e4 e5 e6 ⊢
  have hbd2 := fun q => rdAt_bd zs q hr.u8
  have HQ2' : Hid _ := hide (fun q : Int => rru_any a n c q zs w hrw (by omega))
  generalize hr1 : rdAt zs t = r1 at HQ1 hbd e1 e2 e3 e4 e5 e6
  obtain ⟨x, p, f⟩ := r1
  simp only [out3] at HQ1 hbd e1 e2 e3 e4 e5 e6
  clear h hT0 hF hS hfit hT hr hrw hr1 t0
  by_cases hf : f ≠ 0
  · have HE : Hid (R = (0, f, N)) := e1 hf
    clear e1 e2 e3 e4 e5 e6 hbd2
    go_enter Try.func69, Try.ntmps69
    go_wp2_with fail
    refine HQ1.out.mono ?_
    rintro e w1 ⟨rfl, hh⟩; rw [hh]; clear hh
    go_wp2
    go_ret2
    exact ⟨by rw [HE.out]; rfl, S, by rw [HE.out]; exact HN.out, fun _ e => .inl e, But.refl _ _⟩
  have hf0 : f = 0 := by omega
  clear hf
  subst hf0
  have hx0 := hbd.1
  have hx1 := hbd.2.1
  by_cases hx : (N.length : Int) < x
  · have HE : Hid (R = (0, 52, N)) := e2 rfl hx
    clear e1 e2 e3 e4 e5 e6 hbd2 hbd
    go_enter Try.func69, Try.ntmps69
    go_wp2_with fail
    refine HQ1.out.mono ?_
    rintro e w1 ⟨rfl, hh⟩; rw [hh]; clear hh
    go_wp2
    go_ret2
    exact ⟨by rw [HE.out]; rfl, S, by rw [HE.out]; exact HN.out, fun _ e => .inl e, But.refl _ _⟩
  have HQ2 : Hid _ := hide (HQ2'.out p)
  have hbq := hbd2 p
  generalize rdAt zs p = r2 at HQ2 hbq e3 e4 e5 e6
  obtain ⟨y, p2, f2⟩ := r2
  simp only [out3] at HQ2 hbq e3 e4 e5 e6
  clear hbd2 HQ2' e1 e2 hbd
  by_cases hf2 : f2 ≠ 0
  · have HE : Hid (R = (0, f2, N)) := e3 (by first | rfl | trivial) hx hf2
    clear e3 e4 e5 e6 hbq
    go_enter Try.func69, Try.ntmps69
    go_wp2_with fail
    refine HQ1.out.mono ?_
    rintro e w1 ⟨rfl, hh⟩; rw [hh]; clear hh
    go_wp2_with fail
    refine HQ2.out.mono ?_
    rintro e w1 ⟨rfl, hh⟩; rw [hh]; clear hh
    go_wp2
    go_ret2
    exact ⟨by rw [HE.out]; rfl, S, by rw [HE.out]; exact HN.out, fun _ e => .inl e, But.refl _ _⟩
  have hf20 : f2 = 0 := by omega
  clear hf2
  subst hf20
  have hy0 := hbq.1
  have hy1 := hbq.2.1
  by_cases hy : (L.length : Int) ≤ y
  · have HE : Hid (R = (0, 40, N)) := e4 (by first | rfl | trivial) hx (by first | rfl | trivial) hy
    clear e3 e4 e5 e6 hbq
    go_enter Try.func69, Try.ntmps69
    go_wp2_with fail
    refine HQ1.out.mono ?_
    rintro e w1 ⟨rfl, hh⟩; rw [hh]; clear hh
    go_wp2_with fail
    refine HQ2.out.mono ?_
    rintro e w1 ⟨rfl, hh⟩; rw [hh]; clear hh
    go_wp2_with fail
    refine HTL.out.mono ?_
    rintro e w1 ⟨rfl, hh⟩; rw [hh]; clear hh
    go_wp2
    go_ret2
    exact ⟨by rw [HE.out]; rfl, S, by rw [HE.out]; exact HN.out, fun _ e => .inl e, But.refl _ _⟩
  obtain ⟨X, rfl⟩ := Int.eq_ofNat_of_zero_le hx0
  obtain ⟨Y, rfl⟩ := Int.eq_ofNat_of_zero_le hy0
  rw [Int.toNat_natCast, Int.toNat_natCast] at e5 e6
  have hXN : X ≤ N.length := by omega
  obtain ⟨q, hq⟩ : ∃ q, q = N.length - X := ⟨_, rfl⟩
  have hqI : (N.length : Int) - X = (q : Int) := by omega
  rw [← hq] at e5 e6
  have hqn : q ≤ N.length := by omega
  have HY65 : Hid (Y ≤ 65536 ∧ Y < L.length ∧ q ≤ N.length) := ⟨by omega, by omega, hqn⟩
  obtain ⟨W1, hW1⟩ : ∃ W1, W1 = w.alloc (.cells #[.int .i64 (q : Int), .int .i64 (Y : Int)] 88) := ⟨_, rfl⟩
  have b1 : Below w.heap.size w W1 := by rw [hW1]; exact (Below.refl _ w).alloc (Nat.le_refl _) _
  have r1 : W1.heap[w.heap.size]? = some (.cells #[.int .i64 (q : Int), .int .i64 (Y : Int)] 88 (0, 0)) := by rw [hW1]; exact heap_alloc_new w _
  have hF1 := HF.out.kept (T := fun _ => False) (But.of_below b1) (fun _ _ e => e)
  have HRf : Hid _ := hide (rdepth_any hF1 HFit.out.rep.anc q hqn)
  have HFd : Hid _ := hide (find_f hF1 (q, Y))
  have HB1 : Hid _ := hide b1
  have HF1 : Hid _ := hide hF1
  have d1 := hF1.cell1
  have q0 : W1.cell? ⟨w.heap.size, 0, none⟩ = some (.int .i64 (q : Int)) := by rw [cell_of_row W1 w.heap.size 0 _ 88 (0, 0) r1]; rfl
  have q1 : W1.cell? ⟨w.heap.size, 1, none⟩ = some (.int .i64 (Y : Int)) := by rw [cell_of_row W1 w.heap.size 1 _ 88 (0, 0) r1]; rfl
  have HR1 : Hid _ := hide r1
  have hyI : ¬ (L.length : Int) ≤ (Y : Int) := hy
  have hXI : (X : Int) ≤ N.length := by omega
  unfold nodeV at HFd
  dsimp only at HFd
  have e5' := e5 (by first | rfl | trivial) hx (by first | rfl | trivial) hy
  have e6' := e6 (by first | rfl | trivial) hx (by first | rfl | trivial) hy
  clear e3 e4 e5 e6 hbq b1 r1 hF1 hq hXN hqn hx hy
  have hdI : (depth N q : Int) ≤ 262144 := by have := depth_le HFit.out.rep.anc q HY65.out.2.2; omega
  have hnI : (nid N (q, Y) : Int) ≤ 262144 := by have := nid_le N (q, Y); omega
  have HWy : Hid (why N (q, Y) = if depth N q = 16 then 51 else if nid N (q, Y) ≠ 0 then 52 else if N.length = 262144 then 3 else 0) := hide rfl
  generalize hwy : why N (q, Y) = y at HWy e5' e6'
  have HWq : Hid (why N (q, Y) = y) := hwy
  clear hwy
  have HNi : Hid (nid N (q, Y) = 0 → (q, Y) ∉ N) := hide (fun h hm => by rw [nid, if_pos hm] at h; omega)
  generalize depth N q = d at HRf hdI HWy
  generalize nid N (q, Y) = m at HFd hnI HWy HNi
  have hw64 : wrap64 ((N.length : Int) - X) = (q : Int) := by unfold wrap64; omega
  by_cases hd : d = 16
  · subst hd
    have HE : Hid (R = (0, 51, N)) := hide (by have e := HWy.out; rw [if_pos rfl] at e; rw [e] at e5'; exact e5' (by decide))
    clear e5' e6' HFd d1 q1
    go_enter Try.func69, Try.ntmps69
    go_wp2_with fail
    refine HQ1.out.mono ?_
    rintro e w1 ⟨rfl, hh⟩; rw [hh]; clear hh
    go_wp2_with fail
    refine HQ2.out.mono ?_
    rintro e w1 ⟨rfl, hh⟩; rw [hh]; clear hh
    go_wp2_with fail
    refine HTL.out.mono ?_
    rintro e w1 ⟨rfl, hh⟩; rw [hh]; clear hh
    go_wp2_with fail
    rw [← hW1]
    clear hW1
    refine HRf.out.mono ?_
    rintro e w2 ⟨rfl, hh⟩; rw [hh]; clear hh w2
    go_wp2
    go_ret2
    exact ⟨by rw [HE.out]; rfl, S, by rw [HE.out]; exact HN.out.below HB1.out, fun _ e => .inl e, But.of_below HB1.out⟩
  have hd16 : ((d : Int) == 16) = false := by rw [beq_eq_false_iff_ne]; omega
  by_cases hm : m ≠ 0
  · have HE : Hid (R = (0, 52, N)) := hide (by have e := HWy.out; rw [if_neg hd, if_pos hm] at e; rw [e] at e5'; exact e5' (by decide))
    have hm0 : ((m : Int) != 0) = true := by simp; omega
    clear e5' e6' d1 hm hd
    go_enter Try.func69, Try.ntmps69
    go_wp2_with fail
    refine HQ1.out.mono ?_
    rintro e w1 ⟨rfl, hh⟩; rw [hh]; clear hh
    go_wp2_with fail
    refine HQ2.out.mono ?_
    rintro e w1 ⟨rfl, hh⟩; rw [hh]; clear hh
    go_wp2_with fail
    refine HTL.out.mono ?_
    rintro e w1 ⟨rfl, hh⟩; rw [hh]; clear hh
    go_wp2_with fail
    rw [← hW1]
    clear hW1
    refine HRf.out.mono ?_
    rintro e w2 ⟨rfl, hh⟩; rw [hh]; clear hh w2
    go_wp2_with fail
    refine HFd.out.mono ?_
    rintro e w2 ⟨rfl, hb2⟩
    have HB2 : Hid (Below w.heap.size w w2) := hide (HB1.out.trans (hb2.mono HB1.out.size))
    clear hb2 q0 q1
    go_wp2
    go_ret2
    exact ⟨by rw [HE.out]; rfl, S, by rw [HE.out]; exact HN.out.below HB2.out, fun _ e => .inl e, But.of_below HB2.out⟩
  have hm0 : m = 0 := by omega
  subst hm0
  by_cases hfull : N.length = 262144
  · have HE : Hid (R = (0, 3, N)) := hide (by have e := HWy.out; rw [if_neg hd, if_neg hm, if_pos hfull] at e; rw [e] at e5'; exact e5' (by decide))
    have hfI : ((N.length : Int) == 262144) = true := by rw [beq_iff_eq]; omega
    clear e5' e6' hm hd hfull
    go_enter Try.func69, Try.ntmps69
    go_wp2_with fail
    refine HQ1.out.mono ?_
    rintro e w1 ⟨rfl, hh⟩; rw [hh]; clear hh
    go_wp2_with fail
    refine HQ2.out.mono ?_
    rintro e w1 ⟨rfl, hh⟩; rw [hh]; clear hh
    go_wp2_with fail
    refine HTL.out.mono ?_
    rintro e w1 ⟨rfl, hh⟩; rw [hh]; clear hh
    go_wp2_with fail
    rw [← hW1]
    clear hW1
    refine HRf.out.mono ?_
    rintro e w2 ⟨rfl, hh⟩; rw [hh]; clear hh w2
    go_wp2_with fail
    refine HFd.out.mono ?_
    rintro e w2 ⟨rfl, hb2⟩
    have HB2 : Hid (Below w.heap.size w w2) := hide (HB1.out.trans (hb2.mono HB1.out.size))
    have k1 := (HF1.out.below hb2).cell1
    clear hb2 q0 q1 d1
    go_wp2
    go_ret2
    exact ⟨by rw [HE.out]; rfl, S, by rw [HE.out]; exact HN.out.below HB2.out, fun _ e => .inl e, But.of_below HB2.out⟩
  have HE : Hid (R = (p2, 0, N ++ [(q, Y)])) := hide (by have e := HWy.out; rw [if_neg hd, if_neg hm, if_neg hfull] at e; exact e6' e)
  have HE0 : Hid (y = 0) := hide (by have e := HWy.out; rw [if_neg hd, if_neg hm, if_neg hfull] at e; exact e)
  have hfI : ((N.length : Int) == 262144) = false := by rw [beq_eq_false_iff_ne]; omega
  have HFl : Hid (N.length < 262144) := hide (by omega)
  clear e5' e6' hm hd hfull
  go_enter Try.func69, Try.ntmps69
  go_wp2_with fail
  refine HQ1.out.mono ?_
  rintro e w1 ⟨rfl, hh⟩; rw [hh]; clear hh
  go_wp2_with fail
  refine HQ2.out.mono ?_
  rintro e w1 ⟨rfl, hh⟩; rw [hh]; clear hh
  go_wp2_with fail
  refine HTL.out.mono ?_
  rintro e w1 ⟨rfl, hh⟩; rw [hh]; clear hh
  go_wp2_with fail
  rw [← hW1]
  clear hW1
  refine HRf.out.mono ?_
  rintro e w2 ⟨rfl, hh⟩; rw [hh]; clear hh w2
  go_wp2_with fail
  refine HFd.out.mono ?_
  rintro e w2 ⟨rfl, hb2⟩
  have HB2 : Hid (Below w.heap.size w w2) := hide (HB1.out.trans (hb2.mono HB1.out.size))
  have hF2 := HF1.out.below hb2
  have HF2 : Hid _ := hide hF2
  have k1 := hF2.cell1
  have hfb : fb < w2.heap.size := hF2.lt
  have hr2 : w2.heap[w.heap.size]? = some (.cells #[.int .i64 (q : Int), .int .i64 (Y : Int)] 88 (0, 0)) := (hb2.block _ (Array.getElem?_eq_some_iff.1 HR1.out).1).trans HR1.out
  have y0 : w2.cell? ⟨w.heap.size, 0, none⟩ = some (.int .i64 (q : Int)) := by rw [cell_of_row w2 w.heap.size 0 _ 88 (0, 0) hr2]; rfl
  have y1 : w2.cell? ⟨w.heap.size, 1, none⟩ = some (.int .i64 (Y : Int)) := by rw [cell_of_row w2 w.heap.size 1 _ 88 (0, 0) hr2]; rfl
  have oA : Hid ((w2.alloc (.cells #[.int .i64 (q : Int), .int .i64 (Y : Int)] 88)).drew.ownsRow 0 88 2 (.slice va N.length vc) N.length (ncells N)) := own_drew (hF2.own.alloc _)
  have kA : Hid (But (fun k => (Value.slice va N.length vc).ownBlock = some k) w2 (w2.alloc (.cells #[.int .i64 (q : Int), .int .i64 (Y : Int)] 88)).drew) := ((But.refl _ w2).alloc _).drew
  have sA : Hid ((w2.alloc (.cells #[.int .i64 (q : Int), .int .i64 (Y : Int)] 88)).drew.heap.size = w2.heap.size + 1) := hide (by simp)
  have hrow := heap_alloc_new w2 (.cells #[.int .i64 (q : Int), .int .i64 (Y : Int)] 88 (0, 0))
  have x0 : Hid ((w2.alloc (.cells #[.int .i64 (q : Int), .int .i64 (Y : Int)] 88)).drew.cell? ⟨w2.heap.size, 0, none⟩ = some (.int .i64 (q : Int))) := hide (by
    have := cell_of_row _ w2.heap.size 0 _ 88 (0, 0) hrow; exact this)
  have x1 : Hid ((w2.alloc (.cells #[.int .i64 (q : Int), .int .i64 (Y : Int)] 88)).drew.cell? ⟨w2.heap.size, 1, none⟩ = some (.int .i64 (Y : Int))) := hide (by
    have := cell_of_row _ w2.heap.size 1 _ 88 (0, 0) hrow; exact this)
  clear hb2 q0 q1 d1 hrow hr2 hF2 c0 c1
  go_wp2
  go_region_law (refine step_rnodes rfl (.tmp 81) (.tmp 83) rfl (.slice va N.length vc) N (by simp [Act.eval]) oA.out w2.heap.size (q, Y) (by simp [Act.eval]) x0.out x1.out (by omega) ?_
                 intro a' c' w3 o3 g3 hloc
                 have k3 : Hid (But (fun k => (Value.slice va N.length vc).ownBlock = some k) w2 w3) := hide (kA.out.grown g3 (fun k _ e => e))
                 have hb3 : Hid (w3.heap[fb]? = some (.cells #[.pointer (some ⟨tb, 0, none⟩), .slice va N.length vc] 82 (0, 0))) := hide ((k3.out.block fb hfb (fun e => HF2.out.row_fb fb e rfl)).trans HF2.out.blk)
                 have d1 : w3.cell? ⟨fb, 1, none⟩ = some (.slice va N.length vc) := by rw [cell_of_row w3 fb 1 _ 82 (0, 0) hb3.out]; rfl
                 have f3 : ∀ j, w3.frozen? ⟨fb, j, none⟩ = false := fun j => frozen_of_row w3 fb j _ 82 hb3.out
                 have O3 : Hid _ := hide o3
                 have HLo : Hid ((Value.slice a' (N.length + 1) c').ownBlock = (Value.slice va N.length vc).ownBlock ∨ ∃ g, (Value.slice a' (N.length + 1) c').ownBlock = some g ∧ w2.heap.size ≤ g ∧ g < w3.heap.size) := hide (by
                   rcases hloc with e | e
                   · exact .inl e
                   · exact .inr ⟨_, e, by rw [sA.out]; omega, own_lt o3 _ e⟩)
                 clear o3 g3 hloc)
  all_goals
    have E := rputf_end HF2.out (n := (q, Y)) (by have := HY65.out; dsimp only; omega) HY65.out.1 HFl.out O3.out k3.out HLo.out
    have E1 : Hid _ := hide E.1
    have E2 : Hid _ := hide E.2
    clear E
    go_wp2
    go_ret2
    have hk : But S w (w3.setCell ⟨fb, 1, none⟩ (.slice a' (N.length + 1) c')) := (But.of_below (S := S) HB2.out).trans E2.out (fun _ _ e => e)
    have s2 := HB2.out.size
    have s3 := E2.out.size
    have s4 : (w3.setCell ⟨fb, 1, none⟩ (.slice a' (N.length + 1) c')).heap.size = w3.heap.size := size_set _ _ _
    have s5 := HN.out.bel.size
    have hnw : ∀ k, (S k ∨ (w2.heap.size ≤ k ∧ k < w3.heap.size)) → w0.heap.size ≤ k ∧ k < (w3.setCell ⟨fb, 1, none⟩ (.slice a' (N.length + 1) c')).heap.size := by
      rintro k (e | e)
      · have := HS.out k e; omega
      · omega
    have hfin : RFN w0 (w3.setCell ⟨fb, 1, none⟩ (.slice a' (N.length + 1) c')) T (fun k => S k ∨ (w2.heap.size ≤ k ∧ k < w3.heap.size)) tb fb L (N ++ [(q, Y)]) := ⟨HN.out.tab, ⟨_, E1.out⟩, hnw, hk.beyond HN.out.bel (fun k e => (HS.out k e).1), HFit.out.next (n := (q, Y)) HY65.out.2.2 HY65.out.2.1 (HWq.out.trans HE0.out)⟩
    exact ⟨by rw [HE.out]; rfl, _, by rw [HE.out]; exact hfin, (fun k e => by rcases e with e | e; exact .inl e; exact .inr (by omega)), hk⟩
end Go.Proofs.Ytffakkdmojhjkaa
