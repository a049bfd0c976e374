/-
  Bodies with room behind each.
-/
import Derived.Test.YtdppbaipmmcjbaaDoorSl
import Derived.Test.YtdppbaipmmcjbaaDoorSRd
import Derived.Test.YtdppbaipmmcjbaaDoorSEnc
import Derived.Lib.AppendStr
import Derived.Deep.QuietTactic
import Derived.BigQuiet
namespace Go.Proofs.YtdppbaipmmcjbaaDoor
open Go.RowKit
attribute [local go_sem] Oper.semAt_some
theorem cell_block {w w' : World} {a : Addr} {u : Value} (h : w.cell? a = some u) (hb : w'.heap[a.block]? = w.heap[a.block]?) : w'.cell? a = some u := by
  rw [← h]; unfold World.cell?; rw [hb]
def sBeh : ByteArray := ⟨#[119, 104, 97, 116, 32, 108, 105, 101, 115, 32, 98, 101, 104, 105, 110, 100, 32, 97, 32, 98, 111, 100, 121, 32, 105, 115, 32, 116, 104, 101, 32, 99, 97, 108, 108, 101, 114, 39, 115]⟩
def beh : List Int := [119, 104, 97, 116, 32, 108, 105, 101, 115, 32, 98, 101, 104, 105, 110, 100, 32, 97, 32, 98, 111, 100, 121, 32, 105, 115, 32, 116, 104, 101, 32, 99, 97, 108, 108, 101, 114, 39, 115]
theorem strCells_beh : Lib.strCells sBeh = beh.map (Value.int .u8) := by rfl
theorem strOf_beh : strOfNums beh = sBeh := by rfl
theorem beh_u8 : ∀ z ∈ beh, 0 ≤ z ∧ z ≤ 255 := by decide
/-- 'append(b, behind...)', b the call's own. -/
theorem append_beh (w : World) {ops : Array Oper} {rest : List Oper} {o : Oper} {a : Act} {Q : Exit → Act → World → Prop} (hgd : o.guard = none) (sl x : Operand)
    (ho : o.op = .call { callee := .builtin .append, args := #[sl, x], argTypes := #[35, 9] }) (base : Nat)
    (v : Value) (n : Nat) (xs : List Int) (hs : a.eval sl = v) (hown : w.ownsRow base 5 1 v n (xs.map (Value.int .u8)))
    (hx : a.eval x = .string sBeh) (hb : (n : Int) ≤ 140737488351232) (hbase : base ≤ w.heap.size)
    (h : ∀ (a' : Option Addr) (c' : Nat) w', w'.ownsRow base 5 1 (.slice a' (n + 39) c') (n + 39) ((xs ++ beh).map (Value.int .u8)) → w.grownBy w' v.ownBlock → wpList Tryd.prog ops Q rest (a.put o.dst (.slice a' (n + 39) c')) w') : wpList Tryd.prog ops Q (o :: rest) a w := by
  obtain ⟨i0, hi, hz0, hz1, hz2⟩ := info_parts Tryd.info5
  have hsz : sBeh.size = 39 := rfl
  refine Lib.wpList_append_own_string w hgd sl x 35 9 ho base 5 i0 Tryd.underlying35 Tryd.underlying9 hi hz0 hz1 hz2 v n _ hs hown sBeh hx (by rw [hsz]; unfold maxLen; omega) (by rw [hsz]; omega) hbase ?_
  intro v' w' h1 h2 _
  rw [hsz] at h1
  obtain ⟨a', c', rfl⟩ := own_form h1
  exact h a' c' w' (by rw [List.map_append, ← strCells_beh]; exact h1) h2
/-- Lists of bytes, each with room behind it that is marked. -/
structure Twn (w : World) (base : Nat) (v : Value) (bs : List (List Int)) (vals : List Value) : Prop where
  own : w.ownsRow base 35 1 v bs.length vals
  each : ∀ (i : Nat) (b : List Int), bs[i]? = some b → ∃ (g c : Nat), vals[i]? = some (Value.slice (some ⟨g, 0, none⟩) b.length c) ∧ w.ownsRow base 5 1 (.slice (some ⟨g, 0, none⟩) (b.length + 39) c) (b.length + 39) ((b ++ beh).map (Value.int .u8))
  apart : vals.Pairwise (fun x y => ∀ g, x.ownBlock = some g → y.ownBlock ≠ some g)
  u8 : ∀ b ∈ bs, ∀ z ∈ b, 0 ≤ z ∧ z ≤ 255
section
variable {w : World} {base : Nat} {v : Value} {bs : List (List Int)} {vals : List Value}
theorem Twn.nil (w : World) (base : Nat) : Twn w base (.slice none 0 0) [] [] := ⟨World.ownsRow_nil _ _ _ _, fun i b h => by simp at h, List.Pairwise.nil, by simp⟩
theorem Twn.len (h : Twn w base v bs vals) : vals.length = bs.length := by have := h.own.1; simpa using this
theorem Twn.row (h : Twn w base v bs vals) {x : Value} (hx : x ∈ vals) : ∃ b, b ∈ bs ∧ ∃ g c, x = .slice (some ⟨g, 0, none⟩) b.length c ∧ w.ownsRow base 5 1 (.slice (some ⟨g, 0, none⟩) (b.length + 39) c) (b.length + 39) ((b ++ beh).map (Value.int .u8)) := by
  obtain ⟨i, hi, rfl⟩ := List.getElem_of_mem hx
  have hl := h.len
  obtain ⟨g, c, h1, h2⟩ := h.each i bs[i] (by simp [← hl, hi])
  refine ⟨bs[i], List.getElem_mem _, g, c, ?_, h2⟩
  rw [List.getElem?_eq_getElem hi] at h1
  exact Option.some.inj h1
theorem Twn.blocks (h : Twn w base v bs vals) : ∀ x ∈ vals, ∀ g, x.ownBlock = some g → base ≤ g ∧ g < w.heap.size := by
  intro x hx g hg
  obtain ⟨b, _, g', c, rfl, ho⟩ := h.row hx
  exact ho.lt g (by simpa [Value.ownBlock] using hg)
theorem Twn.but {S : Nat → Prop} {w' : World} (h : Twn w base v bs vals) (hb : But S w w') (hS : ∀ g, base ≤ g → ¬ S g) : Twn w' base v bs vals :=
  ⟨own_but h.own hb (fun g hg => hS g (h.own.lt g hg).1), fun i b hi => by
    obtain ⟨g, c, h1, h2⟩ := h.each i b hi
    exact ⟨g, c, h1, own_but h2 hb (fun g' hg => hS g' (h2.lt g' hg).1)⟩, h.apart, h.u8⟩
theorem Twn.below {w' : World} (h : Twn w base v bs vals) (hb : Below w.heap.size w w') : Twn w' base v bs vals := h.but (S := fun _ => False) (But.of_below hb) (fun _ _ e => e)
theorem Twn.lists (h : Twn w base v bs vals) : Lists w base v bs vals :=
  ⟨h.own, fun i b hi => by
    obtain ⟨g, c, h1, h2⟩ := h.each i b hi
    rw [List.map_append] at h2
    exact ⟨_, c, h1, own_take h2 (by simp)⟩, h.apart, h.u8⟩
theorem Twn.snoc {w1 w2 : World} {b : List Int} {g c : Nat} {a2 : Option Addr} {c2 : Nat} (h : Twn w base v bs vals) (hb1 : Below w.heap.size w w1) (hbase : base ≤ w.heap.size)
    (ho1 : w1.ownsRow w.heap.size 5 1 (.slice (some ⟨g, 0, none⟩) (b.length + 39) c) (b.length + 39) ((b ++ beh).map (Value.int .u8))) (hu : ∀ z ∈ b, 0 ≤ z ∧ z ≤ 255)
    (o2 : w2.ownsRow base 35 1 (.slice a2 (bs.length + 1) c2) (bs.length + 1) (vals ++ [.slice (some ⟨g, 0, none⟩) b.length c])) (g2 : (w1.alloc (.cells #[.slice (some ⟨g, 0, none⟩) b.length c] 35)).grownBy w2 v.ownBlock) :
    Twn w2 base (.slice a2 (bs.length + 1) c2) (bs ++ [b]) (vals ++ [.slice (some ⟨g, 0, none⟩) b.length c]) := by
  have hl := h.len
  have h1 := h.below hb1
  have k2 : But (fun k => v.ownBlock = some k) w1 w2 := (But.refl _ w1).alloc _ |>.grown g2 (fun k _ e => e)
  have hone : w2.ownsRow w.heap.size 5 1 (.slice (some ⟨g, 0, none⟩) (b.length + 39) c) (b.length + 39) ((b ++ beh).map (Value.int .u8)) := own_but ho1 k2 (fun g hg e => own_types ho1 h1.own (by decide) g hg e)
  refine ⟨by rw [List.length_append]; exact o2, fun i b' hi => ?_, ?_, ?_⟩
  · by_cases hlt : i < bs.length
    · rw [List.getElem?_append_left hlt] at hi
      obtain ⟨a', c', e1, e2⟩ := h1.each i b' hi
      exact ⟨a', c', by rw [List.getElem?_append_left (by omega)]; exact e1, own_but e2 k2 (fun g hg e => own_types e2 h1.own (by decide) g hg e)⟩
    · have hi2 := (List.getElem?_eq_some_iff.1 hi).1
      simp at hi2
      have e0 : i = bs.length := by omega
      subst e0
      rw [List.getElem?_append_right (Nat.le_refl _)] at hi
      simp at hi
      subst hi
      exact ⟨g, c, by rw [← hl, List.getElem?_append_right (Nat.le_refl _)]; simp, own_mono hone hbase⟩
  · rw [List.pairwise_append]
    refine ⟨h.apart, List.pairwise_singleton _ _, ?_⟩
    intro x hx y hy
    simp at hy
    subst hy
    intro g' hg e
    have := (h.blocks x hx g' hg).2
    have := (ho1.lt g' (by simpa [Value.ownBlock] using e)).1
    omega
  · intro b' hb'
    rcases List.mem_append.1 hb' with hb' | hb'
    · exact h.u8 b' hb'
    · simp at hb'; subst hb'; exact hu
end
set_option maxHeartbeats 1000000 in
set_option maxRecDepth 4000 in
theorem twin_any (a : Option Addr) (n c : Nat) (bs : List (List Int)) (w : World) (hr : LRow w a n bs) (hn : (n : Int) * 24 ≤ 140737488351232) (hz : ∀ z ∈ bs, (z.length : Int) ≤ 140737488351232) (hu : ∀ z ∈ bs, ∀ y ∈ z, 0 ≤ y ∧ y ≤ 255)
    (hcap : ∀ i, i < n → ∀ b off ai li ci, a = some ⟨b, off, none⟩ → w.cell? ⟨b, off + i, none⟩ = some (.slice ai li ci) → ai = none → ci = 0) :
    Calls Tryd.prog 14 #[.slice a n c] w fun e w' => ∃ a' c' vals, e = .returned (.slice a' n c') ∧ Twn w' w.heap.size (.slice a' n c') bs vals ∧ Below w.heap.size w w' := by
  have HR : Hid (LRow w a n bs) := hr
  have HL : Hid (bs.length = n) := hr.len
  have HZ : Hid _ := hide hz
  have HU : Hid _ := hide hu
  have HC : Hid _ := hide hcap
  have HNn : Hid ((n : Int) * 24 ≤ 140737488351232) := hn
  have hnI : (n : Int) ≤ 140737488351232 := by omega
  clear hr hz hu hcap hn
  go_enter Tryd.func14, Tryd.ntmps14
  go_wp2
  go_loopw [3, 4] (fun o i wr => ∃ (k : Nat) (a' : Option Addr) (c' : Nat) (vals : List Value), k ≤ n ∧ i = .int .i64 k ∧ o = .slice a' k c' ∧ Twn wr w.heap.size (.slice a' k c') (bs.take k) vals ∧ Below w.heap.size w wr) (fun _ i _ => n - (intOf i).toNat)
  case atStart => exact ⟨0, none, 0, [], Nat.zero_le _, rfl, rfl, by simpa using Twn.nil _ _, Below.refl _ _⟩
  case round =>
    obtain ⟨k, a', c', vals, hk, rfl, rfl, hT, hB⟩ := hrel
    have HT : Hid (Twn wr w.heap.size (.slice a' k c') (bs.take k) vals) := hT
    have HB : Hid (Below w.heap.size w wr) := hB
    have HTl : Hid ((bs.take k).length = k) := hide (by have := HL.out; simp; omega)
    clear hT
    by_cases hlt : k < n
    · obtain ⟨b, off, z, ai, ci, rfl, hzk, hc, hrz, hn0, hzc, hzl⟩ := HR.out.at hlt
      have hcr : wr.cell? ⟨b, off + k, none⟩ = some (.slice ai z.length ci) := cell_block hc (hB.block b (World.block_lt_of_cell? w _ hc))
      have HRz : Hid (Row wr ai z.length z) := hide (hrz.below hB)
      have HN0 : Hid (ai = none → z.length = 0 ∧ ci = 0) := hide (fun e => ⟨hn0 e, HC.out k hlt b off ai z.length ci rfl hc e⟩)
      have HZk : Hid ((z.length : Int) ≤ 140737488351232 ∧ ∀ y ∈ z, 0 ≤ y ∧ y ≤ 255) := hide ⟨HZ.out z (List.mem_of_getElem? hzk), HU.out z (List.mem_of_getElem? hzk)⟩
      have HTk : Hid (bs.take (k + 1) = bs.take k ++ [z]) := hide (by
        rw [List.take_add_one, hzk]; rfl)
      have hltI : (k : Int) < n := by omega
      have hzI : (z.length : Int) ≤ 140737488351232 := HZk.out.1
      clear hc hrz hzk hn0 hB hzc hzl
      go_upto_region 7 with (first
        | (at_builtin; go_must (
           refine append_row _ rfl _ _ rfl wr.heap.size (.slice none 0 0) 0 [] rfl (World.ownsRow_nil _ _ _ _) ai z.length ci z rfl HRz.out HN0.out (by omega) (Nat.le_refl _) ?_
           intro v1 w1 o1 g1
           have HO1 : Hid (w1.ownsRow wr.heap.size 5 1 v1 z.length (z.map (Value.int .u8))) := hide (by rw [Nat.zero_add] at o1; simpa using o1)
           have HB1 : Hid (Below wr.heap.size wr w1) := hide ((Below.refl _ wr).grown g1 (Nat.le_refl _) (fun k e => by simp [Value.ownBlock] at e))
           clear o1 g1)))
      go_upto_region 8 with (first
        | (at_builtin; go_must (
           refine append_beh _ rfl _ _ rfl wr.heap.size v1 z.length z rfl HO1.out rfl hzI HB1.out.size ?_
           intro a2 c2 w2 o2 g2
           have HO2 : Hid (w2.ownsRow wr.heap.size 5 1 (.slice a2 (z.length + 39) c2) (z.length + 39) ((z ++ beh).map (Value.int .u8))) := o2
           have HB2 : Hid (Below wr.heap.size wr w2) := hide (HB1.out.grown g2 HB1.out.size (fun k e => (HO1.out.lt k e).1))
           obtain ⟨G, cG, hG, _, _⟩ := own_some o2 (by omega)
           have hG1 : a2 = some ⟨G, 0, none⟩ := by injection hG
           subst hG1
           clear hG cG
           have hcp := own_capB o2
           have hcI : (z.length : Int) + 39 ≤ c2 := by omega
           have hcm : (c2 : Int) ≤ 9223372036854775807 := hcp.2
           clear o2 g2 hcp
           have hcr2 : w2.cell? ⟨b, off + k, none⟩ = some (.slice ai z.length ci) := cell_block hcr (HB2.out.block b (World.block_lt_of_cell? wr _ hcr)))))
      go_wp2_with (first
        | (at_builtin; go_must (
           refine append_lstC _ rfl _ _ rfl w.heap.size (.slice a' k c') k vals rfl (by have := ((HT.out.below HB2.out).own.alloc (.cells #[.slice (some ⟨G, 0, none⟩) z.length c2] 35)); rwa [HTl.out] at this) w2.heap.size (.slice (some ⟨G, 0, none⟩) z.length c2) rfl (cell_new1 _ _ _) rfl (by have := HNn.out; omega) (Nat.le_trans (Nat.le_trans HB.out.size HB2.out.size) (by simp)) ?_
           intro a3 c3 w3 o3 g3 _
           have hT3 : Twn w3 w.heap.size (.slice a3 ((bs.take k).length + 1) c3) (bs.take k ++ [z]) (vals ++ [.slice (some ⟨G, 0, none⟩) z.length c2]) := HT.out.snoc HB2.out HB.out.size HO2.out HZk.out.2 (by rw [HTl.out]; exact o3) g3
           rw [HTl.out, ← HTk.out] at hT3
           have HT3 : Hid _ := hide hT3
           have HB3 : Hid (Below w.heap.size w w3) := hide ((((HB.out.trans (HB2.out.mono HB.out.size)).alloc (Nat.le_trans HB.out.size HB2.out.size) _)).grown g3 (Nat.le_trans (Nat.le_trans HB.out.size HB2.out.size) (by simp)) (fun k e => (HT.out.own.lt k e).1))
           clear o3 g3 hT3)))
      exact ⟨⟨k + 1, a3, c3, _, by omega, by go_num, rfl, HT3.out, HB3.out⟩, by simp [intOf]; omega⟩
    · have hkn : k = n := by omega
      subst hkn
      have HT4 : Hid (Twn wr w.heap.size (.slice a' k c') bs vals) := hide (by
        have := HT.out
        rwa [List.take_of_length_le (by have := HL.out; omega)] at this)
      clear hB
      go_wp2
      go_ret
      exact ⟨a', c', vals, rfl, HT4.out, HB.out⟩
theorem Twn.at {w : World} {base : Nat} {a : Option Addr} {n c : Nat} {bs : List (List Int)} {vals : List Value} (h : Twn w base (.slice a n c) bs vals) {i : Nat} {b : List Int} (hi : bs[i]? = some b) :
    ∃ G g cb, a = some ⟨G, 0, none⟩ ∧ w.cell? ⟨G, i, none⟩ = some (.slice (some ⟨g, 0, none⟩) b.length cb) ∧ b.length + 39 ≤ cb ∧ (cb : Int) ≤ 9223372036854775807 ∧ Row w (some ⟨g, b.length, none⟩) 39 beh := by
  obtain ⟨g, cb, h1, h2⟩ := h.each i b hi
  rcases h.own.2 with ⟨_, e⟩ | ⟨G, cap, cur, e, _⟩
  · have := (List.getElem?_eq_some_iff.1 hi).1; omega
  · cases e
    have hc := h.own.cells (g := G) rfl i _ h1
    have ha : (⟨G, 0, none⟩ : Addr).add i = ⟨G, i, none⟩ := by unfold Addr.add; split <;> simp_all
    rw [ha] at hc
    have hcp := own_capB h2
    refine ⟨G, g, cb, rfl, hc, hcp.1, hcp.2, rfl, u8_of_mem beh_u8, .inr ⟨g, b.length, rfl, fun k hk => ?_⟩⟩
    rw [h2.cellAt (b.length + k) (by omega)]
    have hbl : beh.length = 39 := rfl
    rw [List.getElem?_map, List.getElem?_append_right (by omega), Nat.add_sub_cancel_left, List.getD_eq_getElem?_getD, List.getElem?_eq_getElem (by omega)]
    rfl
set_option maxHeartbeats 1000000 in
set_option maxRecDepth 4000 in
theorem bkept_any (a a' : Option Addr) (n c c' base : Nat) (bs : List (List Int)) (vals : List Value) (w : World) (hr : LRow w a n bs) (hT : Twn w base (.slice a' n c') bs vals) (hn : (n : Int) ≤ 140737488351232) (hz : ∀ z ∈ bs, (z.length : Int) ≤ 140737488351232) :
    Calls Tryd.prog 18 #[.slice a' n c', .slice a n c] w fun e w' => e = .returned (.bool true) ∧ ∃ k, w' = w.drewN k := by
  have hL := hr.len
  have hLr : LRow w a' n bs := by
    have hT' : Lists w base (.slice a' bs.length c') bs vals := by rw [hL]; exact hT.lists
    have := hT'.lrow (fun z h => by have := hz z h; omega)
    rwa [hL] at this
  have HQ := sl_any a' a n c' n c bs bs w hLr hr (by omega)
  rw [decide_eq_true (show bs = bs from rfl)] at HQ
  have HQ := hide HQ
  have HT : Hid _ := hide hT
  have HL : Hid (bs.length = n) := hL
  have HZ : Hid _ := hide hz
  clear hr hLr hT hL hz
  go_enter Tryd.func18, Tryd.ntmps18
  go_wp2_with fail
  refine HQ.out.mono ?_
  rintro e w1 ⟨rfl, m1, hw1⟩
  have HW1 : Hid _ := hide hw1
  clear hw1 HQ
  go_wp2
  go_loopw [5] (fun i wr => ∃ k q : Nat, k ≤ n ∧ i = .int .i64 k ∧ wr = w.drewN q) (fun i _ => n - (intOf i).toNat)
  case atStart => exact ⟨0, m1, Nat.zero_le _, rfl, HW1.out⟩
  case round =>
    obtain ⟨k, q, hk, rfl, hw⟩ := hrel
    have HW : Hid (wr = w.drewN q) := hw
    have hTr : Twn wr base (.slice a' n c') bs vals := by rw [hw]; exact HT.out.below (below_drewN (Below.refl _ _) q)
    clear hw
    by_cases hlt : k < n
    · have hzk : bs[k]? = some (bs.getD k []) := by rw [List.getD_eq_getElem?_getD]; simp [show k < bs.length by rw [HL.out]; exact hlt]
      have hzl : ((bs.getD k []).length : Int) ≤ 140737488351232 := HZ.out _ (List.mem_of_getElem? hzk)
      obtain ⟨G, g, cb, rfl, hc, hcb, hcm, hrow⟩ := hTr.at hzk
      generalize bs.getD k [] = z at hzk hzl hc hcb hrow
      have hcv : ∀ (j : Nat) (c2 : Nat), (convert 35 9 (.slice (some ⟨g, z.length, none⟩) 39 c2)).run Tryd.prog (wr.drewN j) = .ok (.string sBeh) (wr.drewN j) := fun j c2 => by rw [conv_any c2 (hrow.drewN j) (fun e => by cases e), strOf_beh]
      have hq : (sBeh.toList == [119, 104, 97, 116, 32, 108, 105, 101, 115, 32, 98, 101, 104, 105, 110, 100, 32, 97, 32, 98, 111, 100, 121, 32, 105, 115, 32, 116, 104, 101, 32, 99, 97, 108, 108, 101, 114, 39, 115]) = true := by rw [ByteArray.toList_eq]; rfl
      have hltI : (k : Int) < n := by omega
      have hcbI : (z.length : Int) + 39 ≤ cb := by omega
      have hcne : ¬ cb = z.length := by omega
      clear hzk hrow hTr hcb
      go_wp2
      go_quiet (fail)
      go_wp2
      exact ⟨⟨k + 1, q + nq, by omega, by go_num, by rw [HW.out]; exact World.drewN_drewN _ _ _⟩, by simp [intOf]; omega⟩
    · have hltI : ¬ (k : Int) < n := by omega
      clear hTr
      go_wp2
      go_ret
      exact ⟨rfl, q, HW.out⟩
end Go.Proofs.YtdppbaipmmcjbaaDoor
