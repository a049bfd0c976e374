/-
  The document's forest: Stack.
-/
import Derived.Test.YtffakkdmojhjkaaRefI
import Derived.Test.YtffakkdmojhjkaaForF
namespace Go.Proofs.Ytffakkdmojhjkaa
open Go.RowKit Go.Maps Go.Shelf
attribute [local go_sem] Oper.semAt_some
theorem rstack_nil (id : Int) (w : World) : Calls Try.prog 19 #[.pointer none, .int .i64 id] w fun e w' => e = .returned (.tuple #[.slice none 0 0, .int .i64 1]) ∧ w' = w := by
  go_enter Try.func19, Try.ntmps19
  go_wp2
  go_ret2
  exact ⟨rfl, rfl⟩
theorem rstack_out {w : World} {fb tb : Nat} {S : Nat → Prop} {N : List Nd} {v : Value} (hF : RFr w fb tb S N v) (id : Int) (ho : id < 0 ∨ (N.length : Int) < id) :
    Calls Try.prog 19 #[.pointer (some ⟨fb, 0, none⟩), .int .i64 id] w fun e w' => e = .returned (.tuple #[.slice none 0 0, .int .i64 50]) ∧ w' = w := by
  have c1 := hF.cell1
  obtain ⟨va, vc, rfl⟩ := own_form hF.own
  clear hF
  by_cases h0 : id < 0
  · clear ho
    go_enter Try.func19, Try.ntmps19
    go_wp2
    go_ret2
    exact ⟨rfl, rfl⟩
  · have d0 : decide (id < 0) = false := decide_eq_false h0
    have d1 : decide ((N.length : Int) < id) = true := decide_eq_true (ho.resolve_left h0)
    clear ho h0
    go_enter Try.func19, Try.ntmps19
    go_wp2
    go_ret2
    exact ⟨rfl, rfl⟩
set_option maxRecDepth 4000 in
theorem rstack_in {w : World} {T S : Nat → Prop} {tb fb : Nat} {L : List ByteArray} {N : List Nd} {P : List Stk} (h : RSt w T S tb fb L N) (hP : Rep L N P) (id : Nat) (hid : id ≤ N.length) :
    Calls Try.prog 19 #[.pointer (some ⟨fb, 0, none⟩), .int .i64 (id : Int)] w fun e w' => ∃ v : Value, e = .returned (.tuple #[v, .int .i64 0]) ∧ w'.ownsRow w.heap.size 9 1 v (stkP P id).length ((stkP P id).map Value.string) ∧ Below w.heap.size w w' := by
  obtain ⟨tv, v, hT, hF⟩ := h.both
  have HT : Hid (RTab w tb T L tv) := hT
  have HF : Hid (RFr w fb tb S N v) := hF
  have HP : Hid (Rep L N P) := hP
  have c0 := hF.cell0
  have c1 := hF.cell1
  obtain ⟨va, vc, rfl⟩ := own_form hF.own
  have hNl : (N.length : Int) ≤ 262144 := by have := hF.len; omega
  have hid' : (id : Int) ≤ N.length := by omega
  have HL16 : Hid ((stkP P id).length ≤ 16) := hide (stkP_len hP id)
  have d1 : decide ((id : Int) < 0) = false := by simp
  have d2 : decide (N.length < id) = false := by simp; omega
  clear h hT hF hP
  go_enter Try.func19, Try.ntmps19
  go_wp2
  go_loopw [1, 6] (fun d o wr => ∃ (j : Nat) (pre : Stk) (a : Option Addr) (cp : Nat), d = .int .i64 j ∧ j ≤ N.length ∧ o = .slice a pre.length cp ∧ pre ++ stkP P j = stkP P id ∧ wr.ownsRow w.heap.size 9 1 (.slice a pre.length cp) pre.length (pre.map Value.string) ∧ Below w.heap.size w wr) (fun d _ _ => (intOf d).toNat)
  case atStart => exact ⟨id, [], none, 0, rfl, hid, rfl, rfl, World.ownsRow_nil _ _ _ _, Below.refl _ _⟩
  case round =>
    obtain ⟨j, pre, a, cp, rfl, hj, rfl, hpre, hown, hbel⟩ := hrel
    have HO : Hid _ := hide hown
    have HB : Hid (Below w.heap.size w wr) := hide hbel
    have hTr := HT.out.below hbel
    have hFr := HF.out.below hbel
    have k0 := hFr.cell0
    have k1 := hFr.cell1
    cases j with
    | zero =>
      have HX : Hid (pre = stkP P id) := hide (by rw [← hpre]; simp [stkP])
      clear hpre hown hbel hTr hFr
      go_wp2
      go_ret2
      exact ⟨_, rfl, by rw [← HX.out]; exact HO.out, HB.out⟩
    | succ j =>
      have hjl : j < N.length := by omega
      obtain ⟨s, t, h1, h2, h3, h4⟩ := HP.out.node j N[j] (List.getElem?_eq_getElem hjl)
      obtain ⟨g, gc, hv, n0, n1⟩ := hFr.node_at (List.getElem?_eq_getElem hjl)
      cases hv
      obtain ⟨p, f, hnd⟩ : ∃ p f, N[j] = (p, f) := ⟨_, _, rfl⟩
      rw [hnd] at h2 h3 n0 n1
      dsimp only at h2 h3 n0 n1
      have HN1 : Hid (stkP P (j + 1) = s :: t) := hide (by rw [stkP, if_neg (by omega), Nat.add_sub_cancel, List.getD_eq_getElem?_getD, h1]; rfl)
      have HN2 : Hid (stkP P p = t) := hide (by rw [← h3]; exact stkP_num (h4.imp (fun e => e) List.mem_of_mem_take))
      have hp : p ≤ j := by
        rw [← h3]
        rcases h4 with e | e
        · rw [e, num_nil]; omega
        · have ht : t ∈ P := List.mem_of_mem_take e
          have hne : t ≠ [] := fun e0 => HP.out.noNil (by rw [← e0]; exact ht)
          rw [num_mem hne ht]
          obtain ⟨i, hi, e1⟩ := List.getElem_of_mem e
          rw [List.getElem_take] at e1
          have hii : i < j := by simp at hi; omega
          have := idx_of_get (t := t) HP.out.nodup (i := i) (by rw [List.getElem?_eq_getElem (by rw [List.length_take] at hi; omega), e1])
          omega
      have hf : (f : Int) ≤ 65536 := by have := (List.getElem?_eq_some_iff.1 h2).1; have := hTr.len; omega
      have HPre : Hid (pre ++ stkP P (j + 1) = stkP P id) := hpre
      have HTr : Hid _ := hide hTr
      have HN0 : Hid (∀ W : World, Below w.heap.size w W → W.cell? ⟨g, j * 2, none⟩ = some (.int .i64 (p : Int))) := hide (fun W hW => by
        obtain ⟨g', gc', hv', n0', _⟩ := (HF.out.below hW).node_at (List.getElem?_eq_getElem hjl)
        cases hv'
        rw [hnd] at n0'
        exact n0')
      have HS : Hid (L[f]? = some s) := h2
      have hplen : (pre.length : Int) ≤ 16 := by have h0 := congrArg List.length hpre; have := HL16.out; rw [List.length_append] at h0; omega
      have HPp : Hid (p ≤ j) := hp
      have hj' : (j : Int) + 1 ≤ N.length := by omega
      have hp' : (p : Int) ≤ 262144 := by omega
      obtain ⟨ta, tc, htv⟩ := own_form hTr.own
      subst htv
      have HX : Hid (∀ q, Calls Try.prog 48 #[.pointer (some ⟨tb, 0, none⟩), .int .i64 (f : Int)] (wr.drewN q) fun e w' => e = .returned (.tuple #[.string s, .int .i64 0]) ∧ w' = wr.drewN q) := hide (fun q => by
        have := rtext_any tb L.length tc ta L (f : Int) (wr.drewN q) (cell_drewN HTr.out.cell0 q) ((SRow.of_own HTr.out.own).drewN q) (by omega) (by omega)
        have e : textV L (f : Int) = .tuple #[.string s, .int .i64 0] := by
          unfold textV; rw [if_pos (by have := (List.getElem?_eq_some_iff.1 HS.out).1; omega)]
          rw [Int.toNat_natCast, List.getD_eq_getElem?_getD, HS.out]; rfl
        rwa [e] at this)
      clear h1 h2 h3 h4 hnd hown hbel hTr hFr hpre hp
      go_wp2
      go_quiet ((go_at_call 48; exact Calls.quiet_of_same (HX.out _)))
      have HW1 : Hid (Below w.heap.size w (wr.drewN nq)) := hide (below_drewN HB.out nq)
      have HO1 : Hid ((wr.drewN nq).ownsRow w.heap.size 9 1 (.slice a pre.length cp) pre.length (pre.map Value.string)) := hide (own_but HO.out (But.of_below (S := fun _ => False) (below_drewN (Below.refl _ _) nq)) (fun _ _ e => e))
      generalize wr.drewN nq = W1 at HW1 HO1 ⊢
      clear HO HX k0 k1 n0 n1
      go_wp2_with (first
        | (at_builtin; refine append_str _ rfl _ _ rfl w.heap.size (.slice a pre.length cp) pre rfl (HO1.out.alloc _) W1.heap.size s rfl (cell_new _ _ _) (by omega) (Nat.le_trans HW1.out.size (by simp)) ?_
           intro a2 c2 w2 o2 g2 hloc
           have k2 : Hid (But (fun k => (Value.slice a pre.length cp).ownBlock = some k) W1 w2) := hide (((But.refl _ W1).alloc _).grown g2 (fun k _ e => e))
           have HB2 : Hid (Below w.heap.size w w2) := hide (HW1.out.trans (k2.out.below HW1.out.size (by
             intro k e
             rcases HO1.out.2 with ⟨hv, _⟩ | ⟨g', cap, cur, hv, hb, _⟩
             · rw [hv] at e; simp [Value.ownBlock] at e
             · rw [hv] at e; simp [Value.ownBlock] at e; omega)))
           have hF2 := HF.out.below HB2.out
           have q1 := hF2.cell1
           have q0 := HN0.out w2 HB2.out
           have O2 : Hid _ := hide o2
           clear o2 g2 hloc hF2)
        | go_in)
      refine ⟨⟨p, pre ++ [s], a2, c2, rfl, by have := HPp.out; omega, by simp, ?_, ?_, HB2.out⟩, by have := HPp.out; simp [intOf]; omega⟩
      · rw [← HPre.out, HN1.out, HN2.out]; simp
      · simpa using O2.out
end Go.Proofs.Ytffakkdmojhjkaa
