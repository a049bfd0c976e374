/-
  twin.
-/
import Derived.Test.YtnengkdddckjaaaEvtW
import Derived.Laws.AppendOwnNone
import Derived.Laws.MakeOwn
namespace Go.Proofs.Ytnengkdddckjaaa.E6
open Go.RowKit Go.Maps
/-- 'append(u, e)', u the call's own. -/
theorem append_ev (w : World) {ops : Array Oper} {rest : List Oper} {o : Oper} {a : Act} {Q : Exit → Act → World → Prop} (hgd : o.guard = none) (s x : Operand)
    (ho : o.op = .call { callee := .builtin .append, args := #[s, x], argTypes := #[22, 22] }) (base : Nat)
    (v : Value) (n : Nat) (L : List Ev) (hs : a.eval s = v) (hown : w.ownsRow base 38 5 v n (ecells L))
    (X : Nat) (e : Ev) (hx : a.eval x = .slice (some ⟨X, 0, none⟩) 1 1) (hc : EvB w X e.g e.k e.o e.a e.sa e.ls.length e.sc)
    (hb : (n + 1) * 56 ≤ 140737488355328) (hbase : base ≤ w.heap.size)
    (h : ∀ (a' : Option Addr) (c' : Nat) w', w'.ownsRow base 38 5 (.slice a' (n + 1) c') (n + 1) (ecells (L ++ [e])) → w.grownBy w' v.ownBlock → ((Value.slice a' (n + 1) c').ownBlock = v.ownBlock ∨ (Value.slice a' (n + 1) c').ownBlock = some w.heap.size) → wpList Try.prog ops Q rest (a.put o.dst (.slice a' (n + 1) c')) w') : wpList Try.prog ops Q (o :: rest) a w := by
  obtain ⟨i0, hi, hz0, hz1, hz2⟩ := info_parts Try.infoEvent
  refine wpList_append_own_at w hgd s x 22 ho base 38 i0 _ 5 56 Try.underlying22 hi hz0 hz1 hz2 rfl (by decide) v n _ hs hown ⟨X, 0, none⟩ 1 1 (ecell e) hx rfl
    (by intro t u ht
        match t, ht with
        | 0, ht => simp [ecell] at ht; subst ht; simpa [Addr.add] using hc.c0
        | 1, ht => simp [ecell] at ht; subst ht; simpa [Addr.add] using hc.c1
        | 2, ht => simp [ecell] at ht; subst ht; simpa [Addr.add] using hc.c2
        | 3, ht => simp [ecell] at ht; subst ht; simpa [Addr.add] using hc.c3
        | 4, ht => simp [ecell] at ht; subst ht; simpa [Addr.add] using hc.c4)
    (by intro u hu; simp [ecell] at hu; rcases hu with rfl | rfl | rfl | rfl | rfl <;> rfl) (by unfold maxLen; omega) hb hbase ?_
  intro v' w' h1 h2 _ h4
  obtain ⟨a', c', rfl⟩ := own_form h1
  exact h a' c' w' (by rw [ecells_snoc]; exact h1) h2 h4
/-- The events that were twinned so far. -/
structure Tw (w0 wr : World) (es : List Ev) (j : Nat) (fs : List Ev) (v : Value) : Prop where
  len : fs.length = j
  own : wr.ownsRow w0.heap.size 38 5 v j (ecells fs)
  each : ∀ (i : Nat) f, fs[i]? = some f → ∃ e, es[i]? = some e ∧ e.twin f ∧ f.ls.length ≤ f.sc ∧ (f.sa = none → f.ls.length = 0 ∧ f.sc = 0) ∧ wr.ownsRow w0.heap.size 9 1 (.slice f.sa f.ls.length f.sc) f.ls.length (f.ls.map Value.string)
  bel : Below w0.heap.size w0 wr
theorem own_ne {w : World} {b1 b2 n1 n2 : Nat} {e1 e2 : TypeId} {z1 z2 : Nat} {v1 v2 : Value} {x1 x2 : List Value} (h1 : w.ownsRow b1 e1 z1 v1 n1 x1) (h2 : w.ownsRow b2 e2 z2 v2 n2 x2) (he : e1 ≠ e2) : ∀ g, v1.ownBlock = some g → ¬ v2.ownBlock = some g := by
  intro g hg1 hg2
  rcases h1.2 with ⟨hv, _⟩ | ⟨g1, c1, cur1, hv1, _, hh1, _⟩
  · rw [hv] at hg1; simp [Value.ownBlock] at hg1
  · rcases h2.2 with ⟨hv, _⟩ | ⟨g2, c2, cur2, hv2, _, hh2, _⟩
    · rw [hv] at hg2; simp [Value.ownBlock] at hg2
    · rw [hv1] at hg1; rw [hv2] at hg2
      simp [Value.ownBlock] at hg1 hg2
      subst hg1; subst hg2
      rw [hh1] at hh2
      simp at hh2
      exact he hh2.2
theorem own_base {w : World} {b b' n : Nat} {e : TypeId} {z : Nat} {v : Value} {x : List Value} (h : w.ownsRow b e z v n x) (hb : b' ≤ b) : w.ownsRow b' e z v n x :=
  ⟨h.1, h.2.imp id fun ⟨g, c, cur, h1, h2, r⟩ => ⟨g, c, cur, h1, Nat.le_trans hb h2, r⟩⟩
/-- One event more. -/
theorem Tw.next {w0 wr W4 w5 : World} {es fs : List Ev} {j : Nat} {v v' : Value} (h : Tw w0 wr es j fs v) {e f : Ev} (he : es[j]? = some e) (htw : e.twin f) (hcap : f.ls.length ≤ f.sc) (hnil : f.sa = none → f.ls.length = 0 ∧ f.sc = 0)
    (hb4 : Below wr.heap.size wr W4) (of : W4.ownsRow w0.heap.size 9 1 (.slice f.sa f.ls.length f.sc) f.ls.length (f.ls.map Value.string))
    (o5 : w5.ownsRow w0.heap.size 38 5 v' (j + 1) (ecells (fs ++ [f]))) (g5 : W4.grownBy w5 v.ownBlock) : Tw w0 w5 es (j + 1) (fs ++ [f]) v' := by
  have hv4 : W4.ownsRow w0.heap.size 38 5 v j (ecells fs) := own_but (S := fun _ => False) h.own (But.of_below hb4) (fun _ _ e => e)
  have k5 : But (fun k => v.ownBlock = some k) W4 w5 := (But.refl _ W4).grown g5 (fun k _ e => e)
  refine ⟨by rw [List.length_append, h.len]; rfl, o5, fun i g hg => ?_, ?_⟩
  · by_cases hi : i < j
    · rw [List.getElem?_append_left (by rw [h.len]; exact hi)] at hg
      obtain ⟨e', h1, h2, h3, h4, h5⟩ := h.each i g hg
      have h6 : W4.ownsRow w0.heap.size 9 1 (.slice g.sa g.ls.length g.sc) g.ls.length (g.ls.map Value.string) := own_but (S := fun _ => False) h5 (But.of_below hb4) (fun _ _ e => e)
      exact ⟨e', h1, h2, h3, h4, own_but h6 k5 (own_ne h6 hv4 (by decide))⟩
    · rw [List.getElem?_append_right (by rw [h.len]; omega)] at hg
      have hlt := (List.getElem?_eq_some_iff.1 hg).1
      simp at hlt
      have hij : i = j := by have := h.len; omega
      subst hij
      rw [h.len, Nat.sub_self] at hg
      simp at hg
      subst hg
      exact ⟨e, he, htw, hcap, hnil, own_but of k5 (own_ne of hv4 (by decide))⟩
  · have hs := h.bel.size
    refine (h.bel.trans (hb4.mono hs)).trans (k5.below (Nat.le_trans hs hb4.size) ?_)
    intro k hk
    exact (h.own.lt k hk).1
/-- 'append(s, l...)', s the call's own and empty. -/
theorem append_sts (w : World) {ops : Array Oper} {rest : List Oper} {o : Oper} {a : Act} {Q : Exit → Act → World → Prop} (hgd : o.guard = none) (s x : Operand)
    (ho : o.op = .call { callee := .builtin .append, args := #[s, x], argTypes := #[36, 36] }) (base : Nat)
    (v : Value) (hs : a.eval s = v) (hown : w.ownsRow base 9 1 v 0 [])
    (ad : Addr) (m c : Nat) (zs : List ByteArray) (hx : a.eval x = .slice (some ad) m c) (hr : SRow w (some ad) m zs) (hm : m * 16 ≤ 140737488355328) (hbase : base ≤ w.heap.size)
    (h : ∀ (a' : Option Addr) (c' : Nat) w', w'.ownsRow base 9 1 (.slice a' m c') m (zs.map Value.string) → w.grownBy w' v.ownBlock → wpList Try.prog ops Q rest (a.put o.dst (.slice a' m c')) w') : wpList Try.prog ops Q (o :: rest) a w := by
  obtain ⟨i0, hi, hz0, hz1, hz2⟩ := info_parts Try.info9
  refine wpList_append_own_at w hgd s x 36 ho base 9 i0 _ 1 16 Try.underlying36 hi hz0 hz1 hz2 rfl (by decide) v 0 [] hs hown ad m c (zs.map Value.string) hx (by have := hr.len; simpa using this) (srow_cells hr) (by intro u hu; obtain ⟨y, _, rfl⟩ := List.mem_map.1 hu; rfl) (by unfold maxLen; omega) (by omega) hbase ?_
  intro v' w' h2 h3 _ _
  rw [Nat.zero_add] at h2
  obtain ⟨a', c', rfl⟩ := own_form h2
  exact h a' c' w' (by simpa using h2) h3
theorem nil_evs (w : World) : (binOp .eql 22 (.slice none 0 0) (.slice none 0 0)).run Try.prog w = .ok (.bool true) w := by kernel_rfl
theorem some_evs (ad : Addr) (n c : Nat) (w : World) : (binOp .eql 22 (.slice (some ad) n c) (.slice none 0 0)).run Try.prog w = .ok (.bool false) w := by kernel_rfl
theorem nil_sts (w : World) : (binOp .neq 36 (.slice none 0 0) (.slice none 0 0)).run Try.prog w = .ok (.bool false) w := by kernel_rfl
theorem some_sts (ad : Addr) (n c : Nat) (w : World) : (binOp .neq 36 (.slice (some ad) n c) (.slice none 0 0)).run Try.prog w = .ok (.bool true) w := by kernel_rfl
theorem made_evs (w : World) (n : Nat) (hn : n * 56 ≤ 140737488355328) : ∃ w', (Instr.makeSlice 22 (.int .i64 0) (.int .i64 (n : Int))).run Try.prog w = .ok (.slice (some ⟨w.heap.size, 0, none⟩) 0 n) w' ∧ w'.ownsRow w.heap.size 38 5 (.slice (some ⟨w.heap.size, 0, none⟩) 0 n) 0 [] ∧ w.grownBy w' none := by
  obtain ⟨i0, hi, hz0, hz1, hz2⟩ := info_parts Try.infoEvent
  exact run_make_own (P := Try.prog) w w.heap.size 22 38 i0 _ 5 Try.underlying22 hi hz0 hz1 .i64 .i64 n (by rw [hz2]; omega) (by unfold maxLen; omega) (Nat.le_refl _)
theorem made_sts (w : World) (base n : Nat) (hb : base ≤ w.heap.size) (hn : n * 16 ≤ 140737488355328) : ∃ w', (Instr.makeSlice 36 (.int .i64 0) (.int .i64 (n : Int))).run Try.prog w = .ok (.slice (some ⟨w.heap.size, 0, none⟩) 0 n) w' ∧ w'.ownsRow base 9 1 (.slice (some ⟨w.heap.size, 0, none⟩) 0 n) 0 [] ∧ w.grownBy w' none := by
  obtain ⟨i0, hi, hz0, hz1, hz2⟩ := info_parts Try.info9
  exact run_make_own (P := Try.prog) w base 36 9 i0 _ 1 Try.underlying36 hi hz0 hz1 .i64 .i64 n (by rw [hz2]; omega) (by unfold maxLen; omega) hb
set_option maxRecDepth 8000 in
set_option maxHeartbeats 4000000 in
theorem twin_any (a : Option Addr) (n c : Nat) (es : List Ev) (w : World) (hr : ERow w a n es) (hok : ∀ e ∈ es, e.ok) (hn : n * 56 ≤ 140737488355328) (hc0 : a = none → c = 0) :
    Calls Try.prog 4 #[.slice a n c] w fun e w' => ∃ fs v, e = .returned v ∧ Tw w w' es n fs v := by
  have HR : Hid _ := hide hr
  have HO : Hid _ := hide hok
  have HN : Hid _ := hide hn
  have hnI : (n : Int) ≤ 9223372036854775806 := by omega
  have b1 := nil_evs
  have b2 := some_evs
  have b3 := nil_sts
  have b4 := some_sts
  cases a with
  | none =>
    have h0 : n = 0 := by
      rcases hr.cells with h0 | ⟨b, off, e, _⟩
      · exact h0
      · cases e
    subst h0
    have hc := hc0 rfl
    subst hc
    clear hr hok hn hc0
    go_enter Try.func4, Try.ntmps4
    go_wp2
    go_ret
    exact ⟨[], _, rfl, rfl, World.ownsRow_nil _ _ _ _, fun i f hf => by simp at hf, Below.refl _ _⟩
  | some ad =>
    obtain ⟨w1, hmk, hown, hgr⟩ := made_evs w n hn
    have HT0 : Hid (Tw w w1 es 0 [] (.slice (some ⟨w.heap.size, 0, none⟩) 0 n)) := hide ⟨rfl, hown, fun i f hf => by simp at hf, ⟨hgr.os, hgr.tape, hgr.output, hgr.size, fun k hk => hgr.block k hk (by simp)⟩⟩
    clear hr hok hn hc0 hown hgr
    go_enter Try.func4, Try.ntmps4
    go_wp2
    go_loopw [3, 4] (fun u i wr => ∃ (j : Nat) (fs : List Ev) (ua : Option Addr) (uc : Nat), j ≤ n ∧ i = .int .i64 j ∧ u = .slice ua j uc ∧ Tw w wr es j fs (.slice ua j uc)) (fun _ i _ => n - (intOf i).toNat)
    case atStart => exact ⟨0, [], _, _, Nat.zero_le _, rfl, rfl, HT0.out⟩
    case round =>
      clear hmk HT0
      obtain ⟨j, fs, ua, uc, hj, rfl, rfl, htw⟩ := hrel
      have HT : Hid _ := hide htw
      clear htw
      by_cases hlt : j < n
      · have hjI : (j : Int) < n := by omega
        have hrr := HR.out.bel HT.out.bel
        obtain ⟨b, off, e, hada, hej, c0, c1, c2, c3, c4, hs⟩ := hrr.at hlt
        cases hada
        have HS : Hid _ := hide hs
        have HE : Hid _ := hide hej
        clear hrr hs hej
        obtain ⟨eg, ek, eo, ea, esa, esc, els⟩ := e
        dsimp only at c0 c1 c2 c3 c4
        have hme := HO.out _ (List.mem_of_getElem? HE.out)
        have HM : Hid _ := hide hme
        have hm16 : els.length * 16 ≤ 140737488355328 := by have := hme.len; dsimp only at this; omega
        clear hme
        obtain ⟨W1, hW1⟩ : ∃ W1, W1 = wr.alloc (.cells #[.int .i64 eg, .int .i64 ek, .int .u64 eo, .int .u64 ea, .slice esa els.length esc] 38) := ⟨_, rfl⟩
        have hb1 : Below wr.heap.size wr W1 := by rw [hW1]; exact below_new wr _
        have r1 : W1.heap[wr.heap.size]? = some (.cells #[.int .i64 eg, .int .i64 ek, .int .u64 eo, .int .u64 ea, .slice esa els.length esc] 38 (0, 0)) := by rw [hW1]; exact heap_alloc_new wr _
        have hz1 : W1.heap.size = wr.heap.size + 1 := by rw [hW1]; simp
        have s1 : SRow W1 esa els.length els := SRow.bel HS.out hb1
        have p4 : W1.cell? ⟨wr.heap.size, 4, none⟩ = some (.slice esa els.length esc) := by rw [cell_of_row W1 _ 4 _ 38 (0, 0) r1]; rfl
        have HB1 : Hid _ := hide hb1
        have HR1 : Hid _ := hide r1
        have HZ1 : Hid _ := hide hz1
        have HS1 : Hid _ := hide s1
        have HNi : Hid (esa = none → els.length = 0 ∧ esc = 0) := hide HM.out.nil
        have HW1 := hide hW1
        have hlI : (els.length : Int) ≤ 9223372036854775806 := by omega
        have hbW1 : w.heap.size ≤ W1.heap.size := Nat.le_trans HT.out.bel.size hb1.size
        clear hW1 hb1 r1 hz1 s1
        cases esa with
        | none =>
          obtain ⟨hl0, hc0⟩ := HNi.out rfl
          have hnil := List.length_eq_zero_iff.1 hl0
          subst hc0
          subst hnil
          have HEv2 : Hid (EvB (W1.alloc (.cells #[.int .i64 eg, .int .i64 ek, .int .u64 eo, .int .u64 ea, .slice none 0 0] 38)) (wr.heap.size + 1) eg ek eo ea none 0 0) := hide (by rw [← HZ1.out]; exact EvB.new)
          have HBa : Hid (Below wr.heap.size wr (W1.alloc (.cells #[.int .i64 eg, .int .i64 ek, .int .u64 eo, .int .u64 ea, .slice none 0 0] 38))) := hide (HB1.out.trans ((below_new W1 _).mono HB1.out.size))
          have hj56 : Hid ((j + 1) * 56 ≤ 140737488355328) := hide (by have := HN.out; omega)
          have HW1' : Hid (W1 = wr.alloc (.cells #[.int .i64 eg, .int .i64 ek, .int .u64 eo, .int .u64 ea, .slice none 0 0] 38)) := hide HW1.out
          have HE' : Hid (es[j]? = some ⟨eg, ek, eo, ea, none, 0, []⟩) := hide HE.out
          clear hm16 p4
          go_wp2_with (first
            | (at_builtin; rw [← HW1'.out]; refine append_ev _ rfl _ _ rfl w.heap.size (.slice ua j uc) j fs rfl (own_but (S := fun _ => False) HT.out.own (But.of_below HBa.out) (fun _ _ e => e)) (wr.heap.size + 1) ⟨eg, ek, eo, ea, none, 0, []⟩ rfl HEv2.out hj56.out (Nat.le_trans hbW1 (by simp)) ?_
               intro a2 c2 w5 o5 g5 _
               have HT5 : Hid _ := hide (HT.out.next (f := ⟨eg, ek, eo, ea, none, 0, []⟩) HE'.out ⟨rfl, rfl, rfl, rfl, rfl⟩ (Nat.le_refl _) (fun _ => ⟨rfl, rfl⟩) HBa.out (World.ownsRow_nil _ _ _ _) o5 g5)
               clear o5 g5)
            | go_in)
          exact ⟨⟨j + 1, _, a2, c2, by omega, by go_num, rfl, HT5.out⟩, by simp [intOf]; omega⟩
        | some sd =>
          obtain ⟨wm, hmk2, hown2, hgr2⟩ := made_sts W1 w.heap.size els.length hbW1 hm16
          have hbm : Below W1.heap.size W1 wm := ⟨hgr2.os, hgr2.tape, hgr2.output, hgr2.size, fun k hk => hgr2.block k hk (by simp)⟩
          have HBm := hide hbm
          have HSm := hide (SRow.bel HS1.out hbm)
          have HOm := hide hown2
          have hrm := (hbm.block _ (by rw [HZ1.out]; omega)).trans HR1.out
          have m4 : wm.cell? ⟨wr.heap.size, 4, none⟩ = some (.slice (some sd) els.length esc) := by rw [cell_of_row wm _ 4 _ 38 (0, 0) hrm]; rfl
          have HRm := hide hrm
          have HLb := hide (Nat.le_trans hbW1 hbm.size)
          rw [HW1.out] at hmk2
          have hszm : (wr.alloc (.cells #[.int .i64 eg, .int .i64 ek, .int .u64 eo, .int .u64 ea, .slice (some sd) els.length esc] 38)).heap.size = wr.heap.size + 1 := by simp
          rw [hszm] at hmk2
          rw [HZ1.out] at HOm
          have hj56 : Hid ((j + 1) * 56 ≤ 140737488355328) := hide (by have := HN.out; omega)
          clear hown2 hgr2 hbm hrm hszm p4
          go_wp2_with (first
            | (at_builtin; refine append_sts _ rfl _ _ rfl w.heap.size (.slice (some ⟨wr.heap.size + 1, 0, none⟩) 0 els.length) rfl HOm.out sd els.length esc els rfl HSm.out hm16 HLb.out ?_
               intro a' c' w2 o2 g2
               have O2 := hide o2
               have k2 : Hid (But (fun k => k = wr.heap.size + 1) wm w2) := hide ((But.refl _ wm).grown g2 (fun k _ e => (Option.some.inj e).symm))
               have hr2 := (k2.out.block wr.heap.size (Nat.lt_of_lt_of_le (by rw [HZ1.out]; omega) HBm.out.size) (fun e => by have e9 : wr.heap.size = wr.heap.size + 1 := e; omega)).trans HRm.out
               have d0 : w2.cell? ⟨wr.heap.size, 0, none⟩ = some (.int .i64 eg) := by rw [cell_of_row w2 _ 0 _ 38 (0, 0) hr2]; rfl
               have d1 : w2.cell? ⟨wr.heap.size, 1, none⟩ = some (.int .i64 ek) := by rw [cell_of_row w2 _ 1 _ 38 (0, 0) hr2]; rfl
               have d2 : w2.cell? ⟨wr.heap.size, 2, none⟩ = some (.int .u64 eo) := by rw [cell_of_row w2 _ 2 _ 38 (0, 0) hr2]; rfl
               have d3 : w2.cell? ⟨wr.heap.size, 3, none⟩ = some (.int .u64 ea) := by rw [cell_of_row w2 _ 3 _ 38 (0, 0) hr2]; rfl
               have d4 : w2.cell? ⟨wr.heap.size, 4, none⟩ = some (.slice (some sd) els.length esc) := by rw [cell_of_row w2 _ 4 _ 38 (0, 0) hr2]; rfl
               have f2 : w2.frozen? ⟨wr.heap.size, 4, none⟩ = false := frozen_of_row w2 _ 4 _ 38 hr2
               have R2 := hide hr2
               obtain ⟨W3, hW3⟩ : ∃ W3, W3 = w2.setCell ⟨wr.heap.size, 4, none⟩ (.slice a' els.length c') := ⟨_, rfl⟩
               have he3 : EvB W3 wr.heap.size eg ek eo ea a' els.length c' := by rw [hW3]; exact heap_setCell_same w2 wr.heap.size 4 _ 38 _ hr2
               have hz3 : W3.heap.size = w2.heap.size := by rw [hW3]; simp [World.setCell]
               have hb3 : Below wr.heap.size wr W3 := by
                 have h1 : But (fun k => k = wr.heap.size + 1) wr w2 := (But.of_below (HB1.out.trans (HBm.out.mono HB1.out.size))).trans k2.out (fun _ _ e => e)
                 have h0 : Below wr.heap.size wr w2 := h1.below (Nat.le_refl _) (fun k e => by have e9 : k = wr.heap.size + 1 := e; omega)
                 rw [hW3]
                 exact ((But.of_below (S := fun k => k = wr.heap.size) h0).setCell ⟨wr.heap.size, 4, none⟩ (fun _ => rfl) _).below (Nat.le_refl _) (fun k e => by have e9 : k = wr.heap.size := e; omega)
               have o3 : W3.ownsRow w.heap.size 9 1 (.slice a' els.length c') els.length (els.map Value.string) := by
                 rw [hW3]
                 refine own_but (S := fun k => k = wr.heap.size) o2 ((But.refl (fun k => k = wr.heap.size) w2).setCell ⟨wr.heap.size, 4, none⟩ (fun _ => rfl) _) ?_
                 intro g hg e
                 have e9 : g = wr.heap.size := e
                 rcases o2.2 with ⟨hv, _⟩ | ⟨g1, c1', cur1, hv1, _, hh1, _⟩
                 · rw [hv] at hg; simp [Value.ownBlock] at hg
                 · rw [hv1] at hg
                   simp [Value.ownBlock] at hg
                   rw [hg, e9, hr2] at hh1
                   simp at hh1
               have hcap : els.length ≤ c' ∧ (a' = none → els.length = 0 ∧ c' = 0) := by
                 rcases o3.2 with ⟨hv, h0⟩ | ⟨g, cap, cur, hv, hb, hh, hn, hm, hs, ht⟩
                 · simp at hv; exact ⟨by omega, fun _ => ⟨by omega, by omega⟩⟩
                 · simp at hv; exact ⟨by omega, fun e => by rw [hv.1] at e; cases e⟩
               have HO3 := hide o3
               have HB3 := hide hb3
               have HCap := hide hcap
               have HW3 := hide hW3
               have HEv3 : Hid (EvB (W3.alloc (.cells #[.int .i64 eg, .int .i64 ek, .int .u64 eo, .int .u64 ea, .slice a' els.length c'] 38)) w2.heap.size eg ek eo ea a' els.length c') := hide (by rw [← hz3]; exact EvB.new)
               have HBase := hide (Nat.le_trans HT.out.bel.size hb3.size)
               have hl2 : wr.heap.size < w2.heap.size := (Array.getElem?_eq_some_iff.1 hr2).1
               clear o2 g2 hr2 he3 hb3 o3 hcap hW3 hz3 O2 R2 k2)
            | (at_builtin; rw [← HW3.out]; refine append_ev _ rfl _ _ rfl w.heap.size (.slice ua j uc) j fs rfl ((own_but (S := fun _ => False) HT.out.own (But.of_below HB3.out) (fun _ _ e => e)).alloc _) w2.heap.size ⟨eg, ek, eo, ea, a', c', els⟩ rfl HEv3.out hj56.out (Nat.le_trans HBase.out (by simp)) ?_
               intro a2 c2 w5 o5 g5 _
               have HT5 : Hid _ := hide (HT.out.next (f := ⟨eg, ek, eo, ea, a', c', els⟩) HE.out ⟨rfl, rfl, rfl, rfl, rfl⟩ HCap.out.1 HCap.out.2 (HB3.out.trans ((below_new W3 _).mono HB3.out.size)) (HO3.out.alloc _) o5 g5)
               clear o5 g5)
            | go_in)
          exact ⟨⟨j + 1, _, a2, c2, by omega, by go_num, rfl, HT5.out⟩, by simp [intOf]; omega⟩
      · have hjn : j = n := by omega
        subst hjn
        go_wp2
        go_ret
        exact ⟨_, _, rfl, HT.out⟩
end Go.Proofs.Ytnengkdddckjaaa.E6
