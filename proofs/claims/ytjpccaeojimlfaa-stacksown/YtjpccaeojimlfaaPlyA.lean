/-
  A list with room behind it.
-/
import Derived.Test.YtjpccaeojimlfaaLawA
import Derived.Test.YtjpccaeojimlfaaRowz
namespace Go.Proofs.Ytjpccaeojimlfaa
open Go.RowKit Go.Maps Go.Shelf
def sRoom : ByteArray := ⟨#[114, 111, 111, 109]⟩
theorem srow_cells {w : World} {ad : Addr} {m : Nat} {L : List ByteArray} (h : SRow w (some ad) m L) : ∀ j u, (L.map Value.string)[j]? = some u → w.cell? (ad.add j) = some u := by
  intro j u hj
  have hlt : j < L.length := by have := (List.getElem?_eq_some_iff.1 hj).1; simpa using this
  obtain ⟨b, off, e, hc⟩ := h.at (i := j) (by rw [← h.len]; exact hlt)
  cases e
  have ha : (⟨b, off, none⟩ : Addr).add j = ⟨b, off + j, none⟩ := by unfold Addr.add; split <;> simp_all
  rw [ha, hc]
  rw [List.getElem?_map, getD_get hlt] at hj
  simpa using hj
/-- 'append(l, m...)', l the call's own. -/
theorem append_strs (w : World) {ops : Array Oper} {rest : List Oper} {o : Oper} {a : Act} {Q : Exit → Act → World → Prop} (hgd : o.guard = none) (s x : Operand)
    (ho : o.op = .call { callee := .builtin .append, args := #[s, x], argTypes := #[28, 28] }) (base : Nat)
    (v : Value) (n : Nat) (xs : List ByteArray) (hs : a.eval s = v) (hown : w.ownsRow base 9 1 v n (xs.map Value.string))
    (ra : Option Addr) (m c : Nat) (zs : List ByteArray) (hx : a.eval x = .slice ra m c) (hr : SRow w ra m zs) (h0 : ra = none → m = 0 ∧ c = 0)
    (hb : (n + m) * 16 ≤ 140737488355328) (hbase : base ≤ w.heap.size)
    (h : ∀ (a' : Option Addr) (c' : Nat) w', w'.ownsRow base 9 1 (.slice a' (n + m) c') (n + m) ((xs ++ zs).map Value.string) → w.grownBy w' v.ownBlock → ((Value.slice a' (n + m) c').ownBlock = v.ownBlock ∨ (Value.slice a' (n + m) c').ownBlock = some w.heap.size) → wpList Try.prog ops Q rest (a.put o.dst (.slice a' (n + m) c')) w') : wpList Try.prog ops Q (o :: rest) a w := by
  obtain ⟨i0, hi, hz0, hz1, hz2⟩ := info_parts Try.info9
  cases ra with
  | none =>
    obtain ⟨rfl, rfl⟩ := h0 rfl
    have e1 := List.length_eq_zero_iff.1 hr.len
    subst e1
    obtain ⟨a', c', rfl⟩ := own_form hown
    refine wpList_append_own_none hgd s x 28 ho base 9 i0 1 Try.underlying28 hi _ n _ hs hown hx (h a' c' w (by simpa using hown) (World.grownBy.refl w _) (.inl rfl))
  | some ad =>
    refine wpList_append_own_at w hgd s x 28 ho base 9 i0 (.string ⟨#[]⟩) 1 16 Try.underlying28 hi hz0 hz1 hz2 rfl (by decide) v n _ hs hown ad m c (zs.map Value.string) hx (by have := hr.len; simpa using this) (srow_cells hr) (by intro u hu; obtain ⟨y, _, rfl⟩ := List.mem_map.1 hu; rfl) (by unfold maxLen; omega) hb hbase ?_
    intro v' w' h1 h2 _ h4
    obtain ⟨a', c', rfl⟩ := own_form h1
    exact h a' c' w' (by rw [List.map_append]; exact h1) h2 h4
/-- 'append(l, s)', l the call's own and long. -/
theorem append_strL (w : World) {ops : Array Oper} {rest : List Oper} {o : Oper} {a : Act} {Q : Exit → Act → World → Prop} (hgd : o.guard = none) (s x : Operand)
    (ho : o.op = .call { callee := .builtin .append, args := #[s, x], argTypes := #[28, 28] }) (base : Nat)
    (v : Value) (n : Nat) (L : List ByteArray) (hs : a.eval s = v) (hown : w.ownsRow base 9 1 v n (L.map Value.string))
    (X : Nat) (z : ByteArray) (hx : a.eval x = .slice (some ⟨X, 0, none⟩) 1 1) (hc : w.cell? ⟨X, 0, none⟩ = some (.string z))
    (hb : (n + 1) * 16 ≤ 140737488355328) (hbase : base ≤ w.heap.size)
    (h : ∀ (a' : Option Addr) (c' : Nat) w', w'.ownsRow base 9 1 (.slice a' (n + 1) c') (n + 1) ((L ++ [z]).map Value.string) → w.grownBy w' v.ownBlock → ((Value.slice a' (n + 1) c').ownBlock = v.ownBlock ∨ (Value.slice a' (n + 1) c').ownBlock = some w.heap.size) → wpList Try.prog ops Q rest (a.put o.dst (.slice a' (n + 1) c')) w') : wpList Try.prog ops Q (o :: rest) a w := by
  obtain ⟨i0, hi, hz0, hz1, hz2⟩ := info_parts Try.info9
  refine wpList_append_own_at w hgd s x 28 ho base 9 i0 (.string ⟨#[]⟩) 1 16 Try.underlying28 hi hz0 hz1 hz2 rfl (by decide) v n _ hs hown ⟨X, 0, none⟩ 1 1 [.string z] hx rfl (by intro t u ht; match t, ht with | 0, ht => simp at ht; subst ht; simpa [Addr.add] using hc) (by intro u hu; simp at hu; subst hu; rfl) (by unfold maxLen; omega) hb hbase ?_
  intro v' w' h1 h2 _ h3
  obtain ⟨a', c', rfl⟩ := own_form h1
  exact h a' c' w' (by rw [List.map_append]; exact h1) h2 h3
theorem own_base {w : World} {base n : Nat} {e : TypeId} {size : Nat} {v : Value} {xs : List Value} (h : w.ownsRow base e size v n xs) : ∀ g, v.ownBlock = some g → base ≤ g := by
  intro g hg
  rcases h.2 with ⟨hv, _⟩ | ⟨g', cap, cur, hv, hb, hh, _⟩
  · rw [hv] at hg; simp [Value.ownBlock] at hg
  · rw [hv] at hg; simp [Value.ownBlock] at hg; omega
def Rm (w0 w : World) (a : Option Addr) (n c : Nat) (l : List ByteArray) (k : Nat) : Prop := w.ownsRow w0.heap.size 9 1 (.slice a (n + k) c) (n + k) ((l ++ List.replicate k sRoom).map Value.string) ∧ Below w0.heap.size w0 w
set_option maxRecDepth 4000 in
theorem roomy_any (a : Option Addr) (n c : Nat) (ls : List ByteArray) (w : World) (hr : SRow w a n ls) (h0 : a = none → n = 0 ∧ c = 0) (hn : (n : Int) ≤ 8796093021952) :
    Calls Try.prog 58 #[.slice a n c] w fun e w' => ∃ a' c', e = .returned (.slice a' n c') ∧ Rm w w' a' n c' ls 70 := by
  have HR : Hid (SRow w a n ls) := hr
  have H0 : Hid (a = none → n = 0 ∧ c = 0) := h0
  have HN : Hid (n ≤ 8796093021952) := by have := hn; exact hide (by omega)
  clear hr h0
  go_enter Try.func58, Try.ntmps58
  go_wp2_with (first
    | (at_builtin; refine append_strs _ rfl _ _ rfl w.heap.size (.slice none 0 0) 0 [] rfl (World.ownsRow_nil _ _ _ _) a n c ls rfl HR.out H0.out (by have := HN.out; omega) (Nat.le_refl _) ?_
       intro a1 c1 w1 o1 g1 _
       have HO1 : Hid (Rm w w1 a1 n c1 ls 0) := hide ⟨by rw [Nat.zero_add] at o1; simpa using o1, (Below.refl _ w).grown g1 (Nat.le_refl _) (fun k e => by simp [Value.ownBlock] at e)⟩
       clear o1 g1)
    | go_in)
  go_loopw [3, 4] (fun t i wr => ∃ (k : Nat) (a' : Option Addr) (c' : Nat), k ≤ 70 ∧ i = .int .i64 k ∧ t = .slice a' (n + k) c' ∧ Rm w wr a' n c' ls k) (fun _ i _ => 70 - (intOf i).toNat)
  case atStart => exact ⟨0, a1, c1, by omega, rfl, rfl, HO1.out⟩
  case round =>
    clear HO1
    obtain ⟨k, a', c', hk, rfl, rfl, hrm⟩ := hrel
    have HRm : Hid (Rm w wr a' n c' ls k) := hrm
    clear hrm
    by_cases hlt : k < 70
    · have hkI : (k : Int) < 70 := by omega
      go_wp2_with (first
        | (at_builtin; refine append_strL _ rfl _ _ rfl w.heap.size (.slice a' (n + k) c') (n + k) (ls ++ List.replicate k sRoom) rfl (HRm.out.1.alloc _) wr.heap.size sRoom rfl (cell_new _ _ _) (by have := HN.out; omega) (Nat.le_trans HRm.out.2.size (by simp)) ?_
           intro a2 c2 w2 o2 g2 _
           have HR2 : Hid (Rm w w2 a2 n c2 ls (k + 1)) := hide ⟨by
             have e : ls ++ List.replicate (k + 1) sRoom = ls ++ List.replicate k sRoom ++ [sRoom] := by rw [List.replicate_succ']; simp
             rw [e]; exact o2, (HRm.out.2.alloc HRm.out.2.size _).grown g2 (Nat.le_trans HRm.out.2.size (by simp)) (fun k e => own_base HRm.out.1 k e)⟩
           clear o2 g2)
        | go_in)
      exact ⟨⟨k + 1, a2, c2, by omega, by go_num, rfl, HR2.out⟩, by simp [intOf]; omega⟩
    · have hk7 : k = 70 := by omega
      subst hk7
      obtain ⟨g, hg⟩ : ∃ g, a' = some ⟨g, 0, none⟩ := by
        rcases HRm.out.1.2 with ⟨hv, h⟩ | ⟨g', cap, cur, hv, hb, hh, _⟩
        · omega
        · cases hv; exact ⟨g', rfl⟩
      subst hg
      have hcap : (n : Int) ≤ c' := by
        rcases HRm.out.1.2 with ⟨hv, h⟩ | ⟨g', cap, cur, hv, hb, hh, h1, h2⟩
        · omega
        · cases hv; omega
      go_wp2
      go_ret
      exact ⟨_, _, rfl, HRm.out⟩
theorem Rm.cell {w0 w : World} {a : Option Addr} {n c k : Nat} {l : List ByteArray} (h : Rm w0 w a n c l k) (hl : l.length = n) (hk : 0 < k) : ∃ g, a = some ⟨g, 0, none⟩ ∧ w0.heap.size ≤ g ∧ g < w.heap.size ∧ n + k ≤ c ∧ c ≤ maxLen ∧ SRow w (some ⟨g, 0, none⟩) n l ∧ (∀ i, i < k → w.cell? ⟨g, n + i, none⟩ = some (.string sRoom)) ∧ (∀ j, w.frozen? ⟨g, j, none⟩ = false) := by
  have hs := SRow.of_own (n := n + k) (L := l ++ List.replicate k sRoom) (by simpa [hl] using h.1)
  rcases h.1.2 with ⟨hv, h0⟩ | ⟨g, cap, cur, hv, hb, hh, h1, h2, _⟩
  · omega
  · cases hv
    refine ⟨g, rfl, hb, (Array.getElem?_eq_some_iff.1 hh).1, h1, h2, ?_, fun i hi => ?_, fun j => frozen_of_row w g j _ 9 hh⟩
    · have := hs.take (k := n) (by omega)
      rwa [List.take_left' hl] at this
    · obtain ⟨b, off, e, hc⟩ := hs.at (i := n + i) (by omega)
      cases e
      rw [Nat.zero_add] at hc
      rw [hc, List.getD_eq_getElem?_getD, List.getElem?_append_right (by omega), List.getElem?_replicate, if_pos (by omega)]
      rfl
set_option maxRecDepth 4000 in
theorem kept_any (a a' : Option Addr) (n c c' : Nat) (ls : List ByteArray) (w0 w : World) (hr : SRow w a n ls) (hn : (n : Int) ≤ 8796093021952) (hm : Rm w0 w a' n c' ls 70) :
    Calls Try.prog 60 #[.slice a' n c', .slice a n c] w fun e w' => e = .returned (.bool true) ∧ Below w.heap.size w w' := by
  obtain ⟨g, rfl, _, _, h1, h2, h3, h4, _⟩ := hm.cell hr.len (by decide)
  have HQ : Hid _ := hide (texts_any (some ⟨g, 0, none⟩) a n c' n c ls ls w h3 hr (by omega))
  rw [eqB_self] at HQ
  have HC : Hid (∀ i, i < 70 → w.cell? ⟨g, n + i, none⟩ = some (.string sRoom)) := h4
  have hcI : (n : Int) + 70 ≤ c' := by omega
  have hwr : IntKind.i64.wrap ((n : Int) + 70) = (n : Int) + 70 := by rw [IntKind.wrap_i64]; omega
  clear hr hm h3 h4
  go_enter Try.func60, Try.ntmps60
  go_wp2_with fail
  refine HQ.out.mono ?_
  rintro e w1 ⟨rfl, m1, hw1⟩
  have HB : Hid (Below w.heap.size w w1) := hide (by rw [hw1]; exact below_drewN (Below.refl _ _) m1)
  clear hw1
  go_wp2
  go_loopw [6] (fun i wr => ∃ k : Nat, k ≤ 70 ∧ i = .int .i64 k ∧ wr = w1) (fun i _ => 70 - (intOf i).toNat)
  case atStart => exact ⟨0, by decide, rfl, rfl⟩
  case round =>
    obtain ⟨k, hk, rfl, rfl⟩ := hrel
    by_cases hlt : k < 70
    · have hkI : (k : Int) < 70 := by omega
      have hco := cell_block (HC.out k hlt) (HB.out.block _ (World.block_lt_of_cell? _ _ (HC.out k hlt)))
      have hq : (sRoom.toList == [114, 111, 111, 109]) = true := by rw [ByteArray.toList_eq]; rfl
      clear hwr
      go_wp2
      exact ⟨⟨k + 1, by omega, by go_num, trivial⟩, by simp [intOf]; omega⟩
    · have hk7 : ¬ (k : Int) < 70 := by omega
      go_wp2
      go_ret
      exact ⟨rfl, HB.out⟩
end Go.Proofs.Ytjpccaeojimlfaa
