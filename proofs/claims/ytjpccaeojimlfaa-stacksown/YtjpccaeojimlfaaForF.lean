/-
  Stack.
-/
import Derived.Test.YtjpccaeojimlfaaForP
namespace Go.Proofs.Ytjpccaeojimlfaa
open Go.RowKit Go.Maps Go.Shelf
/-- The stack of a number. -/
def stkP (P : List Stk) (id : Nat) : Stk := if id = 0 then [] else P.getD (id - 1) []
theorem stkP_num {P : List Stk} {t : Stk} (h : Has P t) : stkP P (num P t) = t := by
  rcases h with rfl | h
  · rw [num_nil]; rfl
  · by_cases h0 : t = []
    · subst h0; rw [num_nil]; rfl
    · rw [num_mem h0 h, stkP, if_neg (by omega), Nat.add_sub_cancel, List.getD_eq_getElem?_getD, idx_get h]; rfl
theorem stkP_len {L : List ByteArray} {N : List Nd} {P : List Stk} (h : Rep L N P) (id : Nat) : (stkP P id).length ≤ 16 := by
  unfold stkP; split
  · simp
  · rw [List.getD_eq_getElem?_getD]
    cases hp : P[id - 1]? with
    | none => simp
    | some p => simpa using h.deep p (List.mem_of_getElem? hp)
theorem stack_nil (id : Int) (w : World) : Calls Try.prog 20 #[.pointer none, .int .i64 id] w fun e w' => e = .returned (.tuple #[.slice none 0 0, .int .i64 1]) ∧ w' = w := by
  have HM : Hid _ := hide (missing_nil w)
  go_enter Try.func20, Try.ntmps20
  go_wp2_with fail
  refine HM.out.mono ?_
  rintro e w' ⟨rfl, rfl⟩
  go_wp2
  go_ret2
  exact ⟨rfl, rfl⟩
theorem stack_out {w : World} {fb tb : Nat} {S : Nat → Prop} {N : List Nd} {v : Value} {mb : Nat} (hF : Frs w fb tb S N v mb) (id : Int) (hi : -9223372036854775808 ≤ id ∧ id ≤ 9223372036854775807) (ho : id < 0 ∨ (N.length : Int) < id) :
    Calls Try.prog 20 #[.pointer (some ⟨fb, 0, none⟩), .int .i64 id] w fun e w' => e = .returned (.tuple #[.slice none 0 0, .int .i64 50]) ∧ w' = w := by
  have HM : Hid _ := hide (missing_any fb tb w hF.cell0)
  have c1 := hF.cell1
  obtain ⟨va, vc, rfl⟩ := own_form hF.own
  have hNl : (N.length : Int) ≤ 262144 := by have := hF.len; omega
  obtain ⟨hi1, hi2⟩ := hi
  clear hF
  by_cases h0 : id < 0
  · go_enter Try.func20, Try.ntmps20
    go_wp2_with fail
    refine HM.out.mono ?_
    rintro e w' ⟨rfl, rfl⟩
    go_wp2
    go_ret2
    exact ⟨rfl, rfl⟩
  · have h1 : (N.length : Int) < id := by omega
    go_enter Try.func20, Try.ntmps20
    go_wp2_with fail
    refine HM.out.mono ?_
    rintro e w' ⟨rfl, rfl⟩
    go_wp2
    go_ret2
    exact ⟨rfl, rfl⟩
set_option maxRecDepth 4000 in
theorem stack_in {w : World} {T S : Nat → Prop} {tb fb : Nat} {L : List ByteArray} {N : List Nd} {P : List Stk} (h : St w T S tb fb L N) (hP : Rep L N P) (id : Nat) (hid : id ≤ N.length) :
    Calls Try.prog 20 #[.pointer (some ⟨fb, 0, none⟩), .int .i64 (id : Int)] w fun e w' => ∃ v : Value, e = .returned (.tuple #[v, .int .i64 0]) ∧ w'.ownsRow w.heap.size 9 1 v (stkP P id).length ((stkP P id).map Value.string) ∧ Below w.heap.size w w' := by
  obtain ⟨tv, tm, v, mb, hT, hF⟩ := h.both
  have HT : Hid (Tab w tb T L tv tm) := hT
  have HF : Hid (Frs w fb tb S N v mb) := hF
  have HP : Hid (Rep L N P) := hP
  have HM : Hid _ := hide (missing_any fb tb w hF.cell0)
  have c0 := hF.cell0
  have c1 := hF.cell1
  obtain ⟨va, vc, rfl⟩ := own_form hF.own
  have hNl : (N.length : Int) ≤ 262144 := by have := hF.len; omega
  have hid' : (id : Int) ≤ N.length := by omega
  have HL16 : Hid ((stkP P id).length ≤ 16) := hide (stkP_len hP id)
  have d1 : decide ((id : Int) < 0) = false := by simp
  have d2 : decide (N.length < id) = false := by simp; omega
  have hmf : ∀ (fn : Fn) (first cap : Array Value) (w : World), (Instr.makeFunc fn first cap).run Try.prog w = .ok (.func fn first cap) w := fun _ _ _ _ => rfl
  clear h hT hF hP
  go_enter Try.func20, Try.ntmps20
  go_wp2_with fail
  refine HM.out.mono ?_
  rintro e w' ⟨rfl, rfl⟩
  go_wp2
  go_loopw [1, 7] (fun d o wr => ∃ (j : Nat) (pre : Stk) (a : Option Addr) (cp : Nat), d = .int .i64 j ∧ j ≤ N.length ∧ o = .slice a pre.length cp ∧ pre ++ stkP P j = stkP P id ∧ wr.ownsRow w'.heap.size 9 1 (.slice a pre.length cp) pre.length (pre.map Value.string) ∧ Below w'.heap.size w' wr) (fun d _ _ => (intOf d).toNat)
  case atStart => exact ⟨id, [], none, 0, rfl, hid, rfl, rfl, World.ownsRow_nil _ _ _ _, Below.refl _ _⟩
  case round =>
    obtain ⟨j, pre, a, cp, rfl, hj, rfl, hpre, hown, hbel⟩ := hrel
    have HO : Hid _ := hide hown
    have HB : Hid _ := hide hbel
    have hTr := HT.out.kept (T := fun _ => False) (But.of_below hbel) (fun _ _ e => e)
    have hFr := HF.out.kept (T := fun _ => False) (But.of_below hbel) (fun _ _ e => e)
    have k0 := hFr.cell0
    have k1 := hFr.cell1
    cases j with
    | zero =>
      have HX : Hid (pre = stkP P id) := hide (by rw [← hpre]; simp [stkP])
      clear hpre hown hbel hTr hFr
      go_wp2
      go_ret2
      exact ⟨_, rfl, by rw [← HX.out]; exact HO.out, HB.out⟩
    | succ j =>
      have hjl : j < N.length := by omega
      obtain ⟨s, t, h1, h2, h3, h4⟩ := HP.out.node j N[j] (List.getElem?_eq_getElem hjl)
      obtain ⟨g, gc, hv, n0, n1⟩ := hFr.node_at (List.getElem?_eq_getElem hjl)
      cases hv
      obtain ⟨p, f, hnd⟩ : ∃ p f, N[j] = (p, f) := ⟨_, _, rfl⟩
      rw [hnd] at h2 h3 n0 n1
      dsimp only at h2 h3 n0 n1
      have HN1 : Hid (stkP P (j + 1) = s :: t) := hide (by rw [stkP, if_neg (by omega), Nat.add_sub_cancel, List.getD_eq_getElem?_getD, h1]; rfl)
      have HN2 : Hid (stkP P p = t) := hide (by rw [← h3]; exact stkP_num (h4.imp (fun e => e) List.mem_of_mem_take))
      have hp : p ≤ j := by
        rw [← h3]
        rcases h4 with e | e
        · rw [e, num_nil]; omega
        · have ht : t ∈ P := List.mem_of_mem_take e
          have hne : t ≠ [] := fun e0 => HP.out.noNil (by rw [← e0]; exact ht)
          rw [num_mem hne ht]
          obtain ⟨i, hi, e1⟩ := List.getElem_of_mem e
          rw [List.getElem_take] at e1
          have hii : i < j := by simp at hi; omega
          have := idx_of_get (t := t) HP.out.nodup (i := i) (by rw [List.getElem?_eq_getElem (by rw [List.length_take] at hi; omega), e1])
          omega
      have hf : (f : Int) ≤ 65536 := by have := (List.getElem?_eq_some_iff.1 h2).1; have := hTr.len; omega
      have HPre : Hid (pre ++ stkP P (j + 1) = stkP P id) := hpre
      have HTr : Hid _ := hide hTr
      have HS : Hid (L[f]? = some s) := h2
      have hplen : (pre.length : Int) ≤ 16 := by have h0 := congrArg List.length hpre; have := HL16.out; rw [List.length_append] at h0; omega
      have HPp : Hid (p ≤ j) := hp
      have hj' : (j : Int) + 1 ≤ N.length := by omega
      have hp' : (p : Int) ≤ 262144 := by omega
      clear h1 h2 h3 h4 hnd hown hbel hTr hFr hpre hp
      obtain ⟨W1, hW1⟩ : ∃ W1, W1 = wr.alloc (.cells #[.int .i64 (p : Int), .int .i64 (f : Int)] 73) := ⟨_, rfl⟩
      have b1 : But (fun _ => False) wr W1 := by rw [hW1]; exact (But.refl _ _).alloc _
      have hT1 := HTr.out.kept b1 (fun _ _ e => e)
      obtain ⟨ta, tc, htv⟩ := own_form hT1.own
      subst htv
      have HX : Hid (Calls Try.prog 33 #[.pointer (some ⟨tb, 0, none⟩), .int .i64 (f : Int)] W1 fun e w' => e = .returned (.tuple #[.string s, .int .i64 0]) ∧ w' = W1) := hide (by
        have := text_any tb L.length tc ta L (f : Int) W1 hT1.cell0 (SRow.of_own hT1.own) (by omega) (by omega)
        have e : textV L (f : Int) = .tuple #[.string s, .int .i64 0] := by
          unfold textV; rw [if_pos (by have := (List.getElem?_eq_some_iff.1 HS.out).1; omega)]
          rw [Int.toNat_natCast, List.getD_eq_getElem?_getD, HS.out]; rfl
        rwa [e] at this)
      have r1 : W1.heap[wr.heap.size]? = some (.cells #[.int .i64 (p : Int), .int .i64 (f : Int)] 73 (0, 0)) := by rw [hW1]; exact heap_alloc_new wr _
      have HR1 : Hid _ := hide r1
      have q0 : W1.cell? ⟨wr.heap.size, 0, none⟩ = some (.int .i64 (p : Int)) := by rw [cell_of_row W1 wr.heap.size 0 _ 73 (0, 0) r1]; rfl
      have HO1 : Hid (W1.ownsRow w'.heap.size 9 1 (.slice a pre.length cp) pre.length (pre.map Value.string)) := hide (own_but HO.out b1 (fun _ _ e => e))
      have HB1 : Hid (Below w'.heap.size w' W1) := hide (by rw [hW1]; exact HB.out.alloc HB.out.size _)
      have HL1 : Hid (∀ g, (Value.slice a pre.length cp).ownBlock = some g → g ≠ wr.heap.size) := hide (fun g e => by have := own_lt HO.out g e; omega)
      clear hT1 b1 r1
      go_wp2_with fail
      rw [← hW1]
      have HW1 : Hid _ := hide hW1
      clear hW1
      refine HX.out.mono ?_
      rintro e w1 ⟨rfl, rfl⟩
      go_wp2_with (first
        | (at_builtin; refine append_str _ rfl _ _ rfl w'.heap.size (.slice a pre.length cp) pre rfl (HO1.out.alloc _) w1.heap.size s rfl (cell_new _ _ _) (by omega) (Nat.le_trans HB1.out.size (by simp)) ?_
           intro a2 c2 w2 o2 g2 hloc
           have k2 : Hid (But (fun k => (Value.slice a pre.length cp).ownBlock = some k) w1 w2) := hide (((But.refl _ w1).alloc _).grown g2 (fun k _ e => e))
           have r2 : w2.heap[wr.heap.size]? = some (.cells #[.int .i64 (p : Int), .int .i64 (f : Int)] 73 (0, 0)) := (k2.out.block _ (Array.getElem?_eq_some_iff.1 HR1.out).1 (fun e => HL1.out _ e rfl)).trans HR1.out
           have q2 : w2.cell? ⟨wr.heap.size, 0, none⟩ = some (.int .i64 (p : Int)) := by rw [cell_of_row w2 wr.heap.size 0 _ 73 (0, 0) r2]; rfl
           have O2 : Hid _ := hide o2
           clear o2 g2 hloc r2 q0)
        | go_in)
      refine ⟨⟨p, pre ++ [s], a2, c2, rfl, by have := HPp.out; omega, by simp, ?_, ?_, ?_⟩, by have := HPp.out; simp [intOf]; omega⟩
      · rw [← HPre.out, HN1.out, HN2.out]; simp
      · simpa using O2.out
      · refine HB1.out.trans (k2.out.below HB1.out.size ?_)
        intro k e
        rcases HO1.out.2 with ⟨hv, _⟩ | ⟨g', cap, cur, hv, hb, _⟩
        · rw [hv] at e; simp [Value.ownBlock] at e
        · rw [hv] at e; simp [Value.ownBlock] at e; omega
end Go.Proofs.Ytjpccaeojimlfaa
