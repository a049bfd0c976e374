/-
  The statements' own copied, twins, sameLists.
-/
import Derived.Test.YtbcmheilgilipaaDecD
import Derived.Test.YtbcmheilgilipaaVarA
namespace Go.Proofs.Ytbcmheilgilipaa
open Go.RowKit Go.Maps
theorem nil_eq (a : Option Addr) (n c : Nat) (w : World) : (binOp .eql 31 (.slice a n c) (.slice none 0 0)).run Try.prog w = .ok (.bool a.isNone) w := by
  have h := Lib.run_eql_slice_nil (P := Try.prog) w 31 5 a n c 0 0 Try.underlying31
  simpa using h
theorem copied_nil (w : World) : Calls Try.prog 21 #[.slice none 0 0] w fun e w' => e = .returned (.slice none 0 0) ∧ w' = w := by
  have hn := nil_eq none 0 0
  go_enter Try.func21, Try.ntmps21
  go_wp2
  go_ret
  exact ⟨rfl, rfl⟩

set_option maxHeartbeats 800000 in
/-- copied, of a list that is not nil, with n bytes. -/
theorem copied_core (x : Addr) (n c : Nat) (zs : List Int) (w : World) (hz : zs.length = n) (hn : n ≤ 140737488351232)
    (hx : n = 0 ∨ x.spot = none) (hc : ∀ i, i < n → w.cell? ⟨x.block, x.off + i, none⟩ = some (.int .u8 (zs.getD i 0))) :
    Calls Try.prog 21 #[.slice (some x) n c] w fun e w' => e = .returned (.slice (some ⟨w.heap.size, 0, none⟩) n n) ∧ w'.ownsRow w.heap.size 5 1 (.slice (some ⟨w.heap.size, 0, none⟩) n n) n (zs.map (Value.int .u8)) ∧ Below w.heap.size w w' := by
  obtain ⟨i0, hi, hz0, hz1, hz2⟩ := info_parts Try.info5
  have hn0 := nil_eq (some x) n c
  simp only [Option.isNone_some] at hn0
  go_enter Try.func21, Try.ntmps21
  go_wp2_with (at_make; refine wpList_make_own _ rfl _ _ 31 rfl w.heap.size 5 i0 (.int .u8 0) 1 Try.underlying31 hi hz0 hz1 _ _ _ n rfl rfl (by omega) ?b2 ?b3 (Nat.le_refl _) ?_)
  case b2 => rw [hz2]; omega
  case b3 => unfold maxLen; omega
  intro w0 hown0 hgrow0
  clear hn0
  go_wp2
  go_loopw [3, 4] (fun out si wr => ∃ k : Nat, k ≤ n ∧ si = .int .i64 k ∧ out = .slice (some ⟨w.heap.size, 0, none⟩) k n ∧
      wr.ownsRow w.heap.size 5 1 (.slice (some ⟨w.heap.size, 0, none⟩) k n) k ((zs.take k).map (Value.int .u8)) ∧ Below w.heap.size w wr)
    (fun _ si _ => n - (intOf si).toNat)
  case atStart => exact ⟨0, Nat.zero_le _, rfl, rfl, hown0, (Below.refl _ _).grown hgrow0 (Nat.le_refl _) (fun k h => by cases h)⟩
  case round =>
    obtain ⟨k, hk, rfl, rfl, hown, hnx⟩ := hrel
    by_cases hlt : k < n
    · obtain ⟨b, off, sp⟩ := x
      have hsp : sp = none := hx.resolve_left (by omega)
      subst hsp
      have hck := hc k hlt
      simp only at hck
      have hcr : wr.cell? ⟨b, off + k, none⟩ = some (.int .u8 (zs.getD k 0)) := (hnx.cell (p := ⟨b, off + k, none⟩) (World.block_lt_of_cell? w _ hck)).trans hck
      have hkz : k < zs.length := by omega
      clear hc hck
      go_wp2_with (at_builtin; refine wpList_append_fits _ rfl (.tmp 16) (.tmp 21) 31 rfl w.heap.size 5 i0 1 Try.underlying31 hi hz1 w.heap.size k n _ rfl (hown.alloc _) ⟨wr.heap.size, 0, none⟩ 1 1 [.int .u8 (zs.getD k 0)] rfl rfl (by intro t u ht; match t, ht with | 0, ht => simp at ht; subst ht; simp [Addr.add, hkz]) (by intro u hu; simp at hu; subst hu; rfl) (by omega) ?_; intro w1 hown1 hgrow1)
      exact ⟨⟨k + 1, by omega, by go_num, rfl, by rw [← take_get hkz]; exact hown1, (hnx.alloc hnx.size _).grown hgrow1 (by simp; have := hnx.size; omega) (fun k hk => by cases hk; exact Nat.le_refl _)⟩, by simp [intOf]; omega⟩
    · have hkn : k = n := by omega
      subst hkn
      rw [List.take_of_length_le (by omega)] at hown
      go_wp2
      go_ret
      exact ⟨rfl, hown, hnx⟩

/-- copied: a list of its own with the same bytes (none, if there is none). -/
theorem copied_any (a : Option Addr) (n c : Nat) (zs : List Int) (w : World) (hr : Row w a n zs) (hn : n ≤ 140737488351232) (h0 : a = none → n = 0 ∧ c = 0) :
    Calls Try.prog 21 #[.slice a n c] w fun e w' => ∃ a' c', e = .returned (.slice a' n c') ∧ (a = none → a' = none ∧ c' = 0) ∧ w'.ownsRow w.heap.size 5 1 (.slice a' n c') n (zs.map (Value.int .u8)) ∧ Below w.heap.size w w' := by
  cases a with
  | none =>
    obtain ⟨rfl, rfl⟩ := h0 rfl
    have e1 := List.length_eq_zero_iff.1 hr.len
    subst e1
    exact (copied_nil w).mono fun e w' ⟨he, hw⟩ => ⟨none, 0, he, fun _ => ⟨rfl, rfl⟩, by subst hw; exact World.ownsRow_nil _ _ _ _, by subst hw; exact Below.refl _ _⟩
  | some x =>
    refine (copied_core x n c zs w hr.len hn ?_ ?_).mono fun e w' ⟨he, h1, h2⟩ => ⟨_, _, he, (fun h => by cases h), h1, h2⟩
    · rcases hr.cells with h | ⟨b, off, hb, _⟩
      · exact .inl h
      · cases hb; exact .inr rfl
    · intro i hi
      rcases hr.cells with h | ⟨b, off, hb, hc⟩
      · omega
      · cases hb; exact hc i hi
/-- 'append(l, b)' of one list in a new cell, l the call's own, of whatever length a list may have. -/
theorem append_lstB (w : World) {ops : Array Oper} {rest : List Oper} {o : Oper} {a : Act} {Q : Exit → Act → World → Prop} (hgd : o.guard = none) (s x : Operand)
    (ho : o.op = .call { callee := .builtin .append, args := #[s, x], argTypes := #[27, 27] }) (base : Nat)
    (v : Value) (n : Nat) (vals : List Value) (hs : a.eval s = v) (hown : w.ownsRow base 31 1 v n vals)
    (X : Nat) (z : Value) (hx : a.eval x = .slice (some ⟨X, 0, none⟩) 1 1) (hc : w.cell? ⟨X, 0, none⟩ = some z) (h1 : z.oneCell' = true)
    (hb : ((n : Int) + 1) * 24 ≤ 140737488355328) (hbase : base ≤ w.heap.size)
    (h : ∀ (a' : Option Addr) (c' : Nat) w', w'.ownsRow base 31 1 (.slice a' (n + 1) c') (n + 1) (vals ++ [z]) → w.grownBy w' v.ownBlock → wpList Try.prog ops Q rest (a.put o.dst (.slice a' (n + 1) c')) w') : wpList Try.prog ops Q (o :: rest) a w := by
  obtain ⟨i0, hi, hz0, hz1, hz2⟩ := info_parts Try.info31
  refine wpList_append_own_at w hgd s x 27 ho base 31 i0 (.slice none 0 0) 1 24 Try.underlying27 hi hz0 hz1 hz2 rfl (by decide) v n _ hs hown ⟨X, 0, none⟩ 1 1 [z] hx rfl (by intro t u ht; match t, ht with | 0, ht => simp at ht; subst ht; simpa [Addr.add] using hc) (by intro u hu; simp at hu; subst hu; exact h1) (by unfold maxLen; omega) (by omega) hbase ?_
  intro v' w' h1 h2 _ _
  obtain ⟨a', c', rfl⟩ := own_form h1
  exact h a' c' w' h1 h2
theorem twins_any (a : Option Addr) (n c : Nat) (bs : List (List Int)) (w : World) (hr : LRow w a n bs) (hn : (n : Int) * 24 ≤ 140737488351232) (hs : ∀ z ∈ bs, z.length ≤ 140737488351232) (hu : ∀ z ∈ bs, ∀ y ∈ z, 0 ≤ y ∧ y ≤ 255)
    (hc0 : ∀ i, i < n → ∀ b off ai li ci, a = some ⟨b, off, none⟩ → w.cell? ⟨b, off + i, none⟩ = some (.slice ai li ci) → ai = none → ci = 0) :
    Calls Try.prog 19 #[.slice a n c] w fun e w' => ∃ a' c' vals, e = .returned (.slice a' bs.length c') ∧ Lists w' w.heap.size (.slice a' bs.length c') bs vals ∧ Below w.heap.size w w' := by
  have HR : Hid (LRow w a n bs) := hr
  have HL : Hid (bs.length = n) := hr.len
  have HS : Hid (∀ z ∈ bs, z.length ≤ 140737488351232) := hs
  have HU : Hid (∀ z ∈ bs, ∀ y ∈ z, 0 ≤ y ∧ y ≤ 255) := hu
  have HC0 : Hid _ := hide hc0
  clear hr hs hu hc0
  go_enter Try.func19, Try.ntmps19
  go_wp2
  go_loopw [3, 4] (fun o i wr => ∃ (k : Nat) (a' : Option Addr) (c' : Nat) (vals : List Value), k ≤ n ∧ i = .int .i64 k ∧ o = .slice a' (bs.take k).length c' ∧ Lists wr w.heap.size (.slice a' (bs.take k).length c') (bs.take k) vals ∧ Below w.heap.size w wr) (fun _ i _ => n - (intOf i).toNat)
  case atStart => exact ⟨0, none, 0, [], Nat.zero_le _, rfl, by simp, by simpa using Lists.nil w w.heap.size, Below.refl _ _⟩
  case round =>
    obtain ⟨k, a', c', vals, hk, rfl, rfl, hls, hbel⟩ := hrel
    have HLs : Hid (Lists wr w.heap.size (.slice a' (bs.take k).length c') (bs.take k) vals) := hls
    have HB : Hid (Below w.heap.size w wr) := hbel
    have hlk : (bs.take k).length = k := by rw [List.length_take]; have := HL.out; omega
    by_cases hlt : k < n
    · obtain ⟨b, off, z, ai, ci, rfl, hz, hcz, hrz, hnz, hzc, hzl⟩ := HR.out.at hlt
      have hcz2 : wr.cell? ⟨b, off + k, none⟩ = some (.slice ai z.length ci) := by rw [hbel.cell (p := ⟨b, off + k, none⟩) (World.block_lt_of_cell? w _ hcz)]; exact hcz
      have HQ : Hid _ := hide (copied_any ai z.length ci z wr (hrz.below hbel) (HS.out z (List.mem_of_getElem? hz)) (fun e => ⟨hnz e, HC0.out k hlt b off ai _ ci rfl hcz e⟩))
      have HZ : Hid (bs[k]? = some z) := hz
      rw [hlk] at HLs ⊢
      clear hls hbel hz hcz hrz hnz hzc
      go_wp2_with fail
      refine HQ.out.mono ?_
      rintro e w1 ⟨a1, c1, rfl, _, ho1, hb1⟩
      have HO : Hid (w1.ownsRow wr.heap.size 5 1 (.slice a1 z.length c1) z.length (z.map (Value.int .u8))) := ho1
      have HB1 : Hid (Below wr.heap.size wr w1) := hb1
      clear ho1 hb1
      have hown : w1.ownsRow w.heap.size 31 1 (.slice a' k c') k vals := by have := (HLs.out.below HB1.out).own; rwa [hlk] at this
      go_wp2_with (first
        | (at_builtin; refine append_lstB _ rfl _ _ rfl w.heap.size (.slice a' k c') k vals rfl (hown.alloc _) w1.heap.size (.slice a1 z.length c1) rfl (cell_new _ _ _) rfl (by omega) (by have := HB.out.size; have := HB1.out.size; simp; omega) ?_
           intro a2 c2 w2 o2 g2)
        | go_in)
      have ht : bs.take (k + 1) = bs.take k ++ [z] := by
        have := List.getElem?_eq_some_iff.1 HZ.out
        rw [List.take_succ_eq_append_getElem this.1, this.2]
      have hl1 : (bs.take (k + 1)).length = k + 1 := by rw [ht, List.length_append, hlk]; rfl
      refine ⟨⟨k + 1, a2, c2, vals ++ [.slice a1 z.length c1], by omega, by go_num, by rw [hl1], ?_, ?_⟩, by simp [intOf]; omega⟩
      · have h0 : Lists wr w.heap.size (.slice a' k c') (bs.take k) vals := HLs.out
        have := h0.snoc (b := z) (a2 := a2) (c2 := c2) HB1.out HB.out.size HO.out (HU.out z (List.mem_of_getElem? HZ.out)) (by rw [hlk]; exact o2) g2
        rw [hl1, ht]
        rw [hlk] at this
        exact this
      · exact ((HB.out.trans (HB1.out.mono HB.out.size)).alloc (Nat.le_trans HB.out.size HB1.out.size) _).grown g2 (by have := HB.out.size; have := HB1.out.size; simp; omega) (fun k hk => (hown.lt k hk).1)
    · have ht : bs.take k = bs := List.take_of_length_le (by have := HL.out; omega)
      rw [ht] at HLs ⊢
      clear hls hbel hlk ht
      go_wp2
      go_ret
      exact ⟨a', c', vals, rfl, HLs.out, HB.out⟩
theorem sl_any (a b : Option Addr) (n ca m cb : Nat) (A B : List (List Int)) (w : World) (hA : LRow w a n A) (hB : LRow w b m B) (hn : (n : Int) ≤ 9223372036854775806) :
    Calls Try.prog 18 #[.slice a n ca, .slice b m cb] w fun e w' => e = .returned (.bool (decide (A = B))) ∧ ∃ k, w' = w.drewN k := by
  have hla := hA.len
  have hlb := hB.len
  by_cases hnm : n = m
  · subst hnm
    have H1 : Hid (LRow w a n A) := hA
    have H2 : Hid (LRow w b n B) := hB
    have L1 : Hid (A.length = n) := hla
    have L2 : Hid (B.length = n) := hlb
    clear hA hB hla hlb
    go_enter Try.func18, Try.ntmps18
    go_wp2
    go_loopw [5] (fun i wr => ∃ k q : Nat, k ≤ n ∧ i = .int .i64 k ∧ wr = w.drewN q ∧ A.take k = B.take k) (fun i _ => n - (intOf i).toNat)
    case atStart => exact ⟨0, 0, Nat.zero_le _, rfl, rfl, rfl⟩
    case round =>
      obtain ⟨k, q, hk, rfl, hw, he⟩ := hrel
      have HW : Hid (wr = w.drewN q) := hw
      have H1r : Hid (LRow wr a n A) := hide (by rw [hw]; exact H1.out.below (below_drewN (Below.refl _ _) q))
      have H2r : Hid (LRow wr b n B) := hide (by rw [hw]; exact H2.out.below (below_drewN (Below.refl _ _) q))
      clear hw
      have HE : Hid (A.take k = B.take k) := he
      clear he
      by_cases hlt : k < n
      · obtain ⟨b1, o1, x, ax, cx, rfl, hx, hcx, hrx, hnx, hxc, hxl⟩ := H1r.out.at hlt
        obtain ⟨b2, o2, y, ay, cy, rfl, hy, hcy, hry, hny, _⟩ := H2r.out.at hlt
        have HQ : Hid (∀ j, Calls Try.prog 13 #[.slice ax x.length cx, .slice ay y.length cy] (wr.drewN j) fun e w' => e = .returned (.bool (decide (x = y))) ∧ ∃ k, w' = (wr.drewN j).drewN k) := hide (fun j => same_any ax ay x.length cx y.length cy x y (wr.drewN j) (hrx.drewN j) (hry.drewN j) (by omega))
        have HS : Hid ((A.take (k + 1) = B.take (k + 1)) ↔ x = y) := take_eq_step hx hy HE.out
        clear hx hy hrx hry hnx hny hxc hxl
        by_cases hxy : x = y
        · rw [decide_eq_true hxy] at HQ
          have HN : Hid (A.take (k + 1) = B.take (k + 1)) := HS.out.2 hxy
          clear hxy
          go_wp2
          go_quiet ((go_at_call 13; exact Calls.quiet_of (HQ.out _)))
          go_wp2
          exact ⟨⟨k + 1, q + nq, by omega, by go_num, by rw [HW.out]; exact World.drewN_drewN _ _ _, HN.out⟩, by simp [intOf]; omega⟩
        · rw [decide_eq_false hxy] at HQ
          have HN : Hid (decide (A = B) = false) := decide_eq_false (fun e => hxy (HS.out.1 (by rw [e])))
          clear hxy
          go_wp2
          go_quiet ((go_at_call 13; exact Calls.quiet_of (HQ.out _)))
          go_wp2
          go_ret
          exact ⟨ret_bool HN.out.symm, q + nq, by rw [HW.out]; exact World.drewN_drewN _ _ _⟩
      · have HN : Hid (decide (A = B) = true) := hide (decide_eq_true (by
          have e := HE.out
          rwa [List.take_of_length_le (by have := L1.out; omega), List.take_of_length_le (by have := L2.out; omega)] at e))
        go_wp2
        go_ret
        exact ⟨ret_bool HN.out.symm, q, HW.out⟩
  · have HN : Hid (decide (A = B) = false) := decide_eq_false (fun e => hnm (by rw [← hla, ← hlb, e]))
    have hq : ((n : Int) != (m : Int)) = true := by simp; omega
    generalize decide (A = B) = r at HN ⊢
    clear hA hB hla hlb
    go_enter Try.func18, Try.ntmps18
    go_wp2
    go_ret
    exact ⟨ret_bool HN.out.symm, 0, rfl⟩
end Go.Proofs.Ytbcmheilgilipaa
