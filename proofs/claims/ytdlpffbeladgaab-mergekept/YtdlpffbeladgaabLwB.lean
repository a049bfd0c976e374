/-
  The law's twins: the same rows, in memory of their own.
-/
import Derived.Test.YtdlpffbeladgaabSpB
namespace Go.Proofs.Ytdlpffbeladgaab
open Go.RowKit
set_option maxRecDepth 8000 in
/-- 'append(nil, l...)' in a region that draws. -/
theorem step_lay0 {α : Type} (y : Lay α) (w : World) {ops : Array Oper} {oo : Oper} {aa : Act} {Kc : Act → World → Prop} {Q : Exit → Act → World → Prop} {E0 : Prop} (t e : TypeId) (i0 : TypeInfo) (z : Value) (bytes : Nat)
    (hu : Try.prog.underlying t = some (.slice e)) (hi : Try.prog.info? e = some i0) (hz0 : i0.zero = some z) (hz1 : i0.size = y.z) (hz2 : i0.bytes = bytes) (hzs : z.cells.size = y.z)
    (hw : Region.wanted oo (yielded ops aa.tmps) = true)
    (s x : Operand) (ho : oo.op = .call { callee := .builtin .append, args := #[s, x], argTypes := #[t, t] }) (base : Nat) (hs : aa.eval s = .slice none 0 0)
    (ra : Option Addr) (m c : Nat) (M : List α) (hx : aa.eval x = .slice ra m c) (hr : TRow y w ra m M) (h0 : ra = none → m = 0 ∧ c = 0)
    (hm : m ≤ maxLen) (hb : m * bytes ≤ 140737488355328) (hbase : base ≤ w.heap.size)
    (h : ∀ (a' : Option Addr) (c' : Nat) w', Own y e w' base (.slice a' m c') M → w.grownBy w' none → (∀ q, (Value.slice a' m c').ownBlock = some q → q = w.heap.size) → Kc (aa.put oo.dst (.slice a' m c')) w') :
    if Region.wanted oo (yielded ops aa.tmps) = true then Oper.wp Try.prog oo aa w Kc Q else E0 := by
  cases ra with
  | none =>
    rw [if_pos hw]
    obtain ⟨rfl, rfl⟩ := h0 rfl
    have e1 := List.length_eq_zero_iff.1 hr.len
    subst e1
    have hr := run_append_owned_none (P := Try.prog) (w := w) base t oo.type e i0 y.z hu hi (.slice none 0 0) 0 [] (World.ownsRow_nil w base e y.z)
    unfold Oper.wp execOp
    simp only [ho, resolve, invoke, builtin, Sem.run_bind, Sem.run_pure, Result.andThen_ok, List.map_toArray, List.map_cons, List.map_nil, hs, hx, hr]
    exact h none 0 w (Own.nil _ _ _ _) (World.grownBy.refl w _) (fun q hq => by simp [Value.ownBlock] at hq)
  | some ad =>
    refine step_layW2 y w t e i0 z bytes hu hi hz0 hz1 hz2 hzs hw s x ho base (.slice none 0 0) [] hs (Own.nil _ _ _ _) ad m c M hx hr (by rw [List.length_nil, Nat.zero_add]; exact hm) (by rw [List.length_nil, Nat.zero_add]; exact hb) hbase ?_
    intro v' w' o g l
    rw [List.nil_append] at o
    obtain ⟨a', c', hv, _, _⟩ := own_form o
    rw [hr.len] at hv
    subst hv
    refine h a' c' w' o g (fun q hq => ?_)
    rcases l with l | l
    · rw [l] at hq; simp [Value.ownBlock] at hq
    · rw [l] at hq; exact (Option.some.inj hq).symm
/-- One row more. -/
theorem Rowz.snoc {w w1 w2 : World} {base : Nat} {v v' : Value} {rws : List Rw} {Gs : List (Int × List Rc)} (h : Rowz w base v rws Gs) {s : Sl} {g : Int} {R : List Rc}
    (hb : Below w.heap.size w w1) (ho : Own layR 42 w1 base s.v R) (hs : ∀ q, s.v.ownBlock = some q → w.heap.size ≤ q) (hv : Own layW 40 w2 base v' (rws ++ [⟨g, s⟩])) (hg : w1.grownBy w2 v.ownBlock) :
    Rowz w2 base v' (rws ++ [⟨g, s⟩]) (Gs ++ [(g, R)]) := by
  have h1 := h.below hb
  have b2 : But (fun k => v.ownBlock = some k) w1 w2 := But.of_grown hg fun _ e => e
  have hne : ∀ {u : Value} {C : List Rc}, Own layR 42 w1 base u C → ∀ q, u.ownBlock = some q → ¬ v.ownBlock = some q := by
    intro u C hu q hq hv
    obtain ⟨c1, e1⟩ := own_ty hu hq
    obtain ⟨c2, e2⟩ := own_ty h1.own hv
    rw [e1] at e2
    simp at e2
  refine ⟨hv, by simp [h.len], fun k rw G h3 h4 => ?_, fun i j p q b h3 h4 h5 h6 => ?_⟩
  · by_cases hk : k < rws.length
    · rw [List.getElem?_append_left hk] at h3
      rw [List.getElem?_append_left (by rw [← h.len]; exact hk)] at h4
      obtain ⟨e1, e2⟩ := h1.each k rw G h3 h4
      exact ⟨e1, e2.but b2 (hne e2)⟩
    · have := get_lt h3
      rw [List.length_append, List.length_singleton] at this
      have e : k = rws.length := by omega
      subst e
      rw [List.getElem?_append_right (Nat.le_refl _), Nat.sub_self] at h3
      rw [List.getElem?_append_right (by rw [h.len]; exact Nat.le_refl _), h.len, Nat.sub_self] at h4
      simp at h3 h4
      subst h3; subst h4
      exact ⟨rfl, ho.but b2 (hne ho)⟩
  · have old : ∀ (i : Nat) (p : Rw) (b : Nat), rws[i]? = some p → p.s.v.ownBlock = some b → b < w.heap.size := by
      intro i p b h7 h8
      obtain ⟨G, hG⟩ : ∃ G, Gs[i]? = some G := ⟨_, List.getElem?_eq_getElem (by rw [← h.len]; exact get_lt h7)⟩
      exact ((h.each i p G h7 hG).2.lt b h8).2
    have l1 := get_lt h3
    have l2 := get_lt h4
    rw [List.length_append, List.length_singleton] at l1 l2
    by_cases hi : i < rws.length <;> by_cases hj : j < rws.length
    · rw [List.getElem?_append_left hi] at h3
      rw [List.getElem?_append_left hj] at h4
      exact h.one i j p q b h3 h4 h5 h6
    · rw [List.getElem?_append_left hi] at h3
      have e : j = rws.length := by omega
      subst e
      rw [List.getElem?_append_right (Nat.le_refl _), Nat.sub_self] at h4
      simp at h4
      subst h4
      have := old i p b h3 h5
      have := hs b h6
      omega
    · rw [List.getElem?_append_left hj] at h4
      have e : i = rws.length := by omega
      subst e
      rw [List.getElem?_append_right (Nat.le_refl _), Nat.sub_self] at h3
      simp at h3
      subst h3
      have := old j q b h4 h6
      have := hs b h5
      omega
    · omega
set_option maxRecDepth 8000 in
set_option maxHeartbeats 3200000 in
theorem twins_any (w : World) (a : Option Addr) (n c : Nat) (L : List Rw) (Gs : List (Int × List Rc)) (hr : Rdz w a n L Gs) (hn : n * 32 ≤ 140737488355328) (hm : ∀ G ∈ Gs, G.2.length * 40 ≤ 140737488355328) :
    Calls Try.prog 8 #[.slice a n c] w fun r w' => ∃ v rws, r = .returned v ∧ Rowz w' w.heap.size v rws Gs ∧ Below w.heap.size w w' := by
  obtain ⟨i0, hi0, hz0, hz1, hz2⟩ := info_parts Try.infoR
  obtain ⟨i1, hi1, hy0, hy1, hy2⟩ := info_parts Try.infoW
  have HR : Hid _ := hide hr
  have HL : Hid _ := hide hr.row.len
  have HG : Hid (Gs.length = n) := hide (by rw [← hr.len, hr.row.len])
  have HM : Hid _ := hide hm
  have hnI : (n : Int) ≤ 4398046511104 := by omega
  clear hr hm
  go_enter Try.func8, Try.ntmps8
  go_wp2_with fail
  go_loopw [3, 4] (fun v i wr => ∃ (k : Nat) (rws : List Rw), i = .int .i64 k ∧ k ≤ n ∧ Hid (Rowz wr w.heap.size v rws (Gs.take k)) ∧ Hid (Below w.heap.size w wr)) (fun _ i _ => n - numV i)
  case atStart => exact ⟨0, [], rfl, Nat.zero_le _, hide ⟨Own.nil _ _ _ _, rfl, fun k rw G h => by simp at h, fun i j p q b h => by simp at h⟩, hide (Below.refl _ _)⟩
  case round =>
    obtain ⟨k, rws, rfl, hk, HZ, HB⟩ := hrel
    obtain ⟨va, vc, hvv, -, -⟩ := own_form HZ.out.own
    have hrl : rws.length = k := by rw [HZ.out.len, List.length_take, HG.out]; omega
    rw [hrl] at hvv
    subst hvv
    have HRL : Hid _ := hide hrl
    clear hrl
    by_cases hlt : k < n
    · have hltI : (k : Int) < (n : Int) := by omega
      obtain ⟨p, hp⟩ : ∃ r, L[k]? = some r := ⟨L[k]'(by rw [HL.out]; exact hlt), List.getElem?_eq_getElem _⟩
      obtain ⟨G, hG⟩ : ∃ r, Gs[k]? = some r := ⟨Gs[k]'(by rw [HG.out]; exact hlt), List.getElem?_eq_getElem _⟩
      have A1 := HR.out.below HB.out
      obtain ⟨b1, o1, rfl, hb1, hc1⟩ := A1.row.at (by omega)
      obtain ⟨pg, pr, p0, -⟩ := A1.each k p G hp hG
      have x0 := hc1 k p hp 0 _ rfl
      have x1 := hc1 k p hp 1 _ rfl
      have HT : Hid (Gs.take (k + 1) = Gs.take k ++ [G]) := hide (by
        have hlk := get_lt hG
        rw [List.take_succ_eq_append_getElem hlk]
        rw [List.getElem?_eq_getElem hlk] at hG
        rw [Option.some.inj hG])
      have hGl := HM.out G (List.mem_of_getElem? hG)
      obtain ⟨g, R⟩ := G
      obtain ⟨p0', pa, pn, pc⟩ := p
      dsimp only at pg pr p0 hGl
      subst pg
      rw [pr.len] at hGl
      simp only [layW, Nat.add_zero] at x0 x1
      obtain ⟨w3, hw3⟩ : ∃ w3, w3 = wr.alloc (.cells #[.int .i64 p0', .slice none 0 0] 40) := ⟨_, rfl⟩
      have b3 : Below wr.heap.size wr w3 := by rw [hw3]; exact below_alloc1 _ _
      have s3 : wr.heap.size < w3.heap.size := by rw [hw3]; simp
      have r3 : w3.heap[wr.heap.size]? = some (.cells #[.int .i64 p0', .slice none 0 0] 40 (0, 0)) := by rw [hw3]; exact heap_new _ _
      have HX : Hid (∀ X, But (fun q => q = wr.heap.size) w3 X → X.cell? ⟨b1, o1 + k * 2 + 1, none⟩ = some (.slice pa pn pc)) := hide (fun X hX => (World.cell?_of_block (hX.block b1 (Nat.lt_trans hb1 s3) (fun e9 => absurd e9 (Nat.ne_of_lt hb1)))).trans ((b3.cell (p := ⟨b1, o1 + k * 2 + 1, none⟩) hb1).trans x1))
      have HPR : Hid (TRow layR w3 pa pn R) := hide (pr.below b3)
      have HP0 : Hid _ := hide p0
      have HW3 : Hid _ := hide hw3
      have HB3 : Hid _ := hide b3
      have HR3 : Hid _ := hide r3
      have z0 : w3.drew.cell? ⟨wr.heap.size, 1, none⟩ = some (.slice none 0 0) := cell_at (cs := #[.int .i64 p0', .slice none 0 0]) r3 rfl
      have hwsz : w.heap.size ≤ w3.heap.size := by have := HB.out.size; omega
      clear A1 hc1 hp hG pr p0 hw3 b3 r3
      go_wp2_with fail
      rw [← HW3.out]
      refine wp_region_noPanic ?_
      refine wp_region_held_drew (S := fun X => X.cell? ⟨b1, o1 + k * 2 + 1, none⟩ = some (.slice pa pn pc)) (by kernel_rfl) (HX.out _ (But.refl _ _).drew) (fun hHeld => ?_)
      refine wpAnyH_take (i := 0) (oi := _) (v := ?v0) rfl (by kernel_rfl) (by kernel_rfl) (by kernel_rfl) (fun _ _ _ h => h) (Or.inl ⟨by rfl, ?y0⟩) (by assumption) ?r0
      case y0 => (intro w' hSw; (try dsimp only at hSw); go_simp; try with_reducible rfl)
      refine wpAnyH_take (i := 2) (oi := _) (v := ?v2) rfl (by kernel_rfl) (by kernel_rfl) (by kernel_rfl) (fun _ _ _ h => h) (Or.inl ⟨by rfl, ?y2⟩) (by assumption) ?r2
      case y2 => (intro w' hSw; (try dsimp only at hSw); go_simp; try with_reducible rfl)
      refine wpAnyH_take (i := 3) (oi := _) (v := ?v3) rfl (by kernel_rfl) (by kernel_rfl) (by kernel_rfl) (fun _ _ _ h => h) (Or.inl ⟨by rfl, ?y3⟩) (by assumption) ?r3
      case y3 => (intro w' hSw; (try dsimp only at hSw); go_simp; try with_reducible rfl)
      refine wpAnyH_take (i := 4) (oi := _) (v := ?v4) rfl (by kernel_rfl) (by kernel_rfl) (by kernel_rfl) (fun _ _ _ h => h) (Or.inl ⟨by rfl, ?y4⟩) (by assumption) ?r4
      case y4 => (intro w' hSw; (try dsimp only at hSw); go_simp; try with_reducible rfl)
      refine wpAnyH_take (i := 5) (oi := _) (v := ?v5) rfl (by kernel_rfl) (by kernel_rfl) (by kernel_rfl) (fun _ _ _ h => h) (Or.inl ⟨by rfl, ?y5⟩) (by assumption) ?r5
      case y5 => (intro w' hSw; (try dsimp only at hSw); go_simp; try with_reducible rfl)
      refine wpAnyH_take (i := 6) (oi := _) (v := ?v6) rfl (by kernel_rfl) (by kernel_rfl) (by kernel_rfl) (fun _ _ _ h => h) (Or.inl ⟨by rfl, ?y6⟩) (by assumption) ?r6
      case y6 => (intro w' hSw; (try dsimp only at hSw); go_simp; try with_reducible rfl)
      refine wpAnyH_ready (rs := [1]) (by kernel_rfl) (by simp) ?_
      refine AllReadyH.cons (o := _) rfl (fun KK hKK => ?_) AllReadyH.nil
      go_simp
      refine hKK.out _ _ (HX.out _ (But.refl _ _).drew) (fun hHeld1 => ?_)
      clear hKK KK
      refine wpAnyH_ready (rs := [7]) (by kernel_rfl) (by simp) ?_
      refine AllReadyH.cons (o := _) rfl (fun KK hKK => ?_) AllReadyH.nil
      refine step_lay0 layR _ 38 42 i0 _ 40 Try.underlying38 hi0 hz0 hz1 hz2 rfl rfl (.tmp 19) (.tmp 24) rfl w.heap.size rfl pa pn pc R rfl (HPR.out.below (Below.refl _ _).drew) HP0.out (by unfold maxLen; omega) hGl (by simpa using hwsz) ?_
      intro na nc w4 o4 g4 l4
      have hb5 : Below w3.heap.size w3 w4 := (Below.refl _ _).drew.grown g4 (Nat.le_refl _) (fun _ e9 => by cases e9)
      have r4 := (hb5.block wr.heap.size s3).trans HR3.out
      have z1 : w4.cell? ⟨wr.heap.size, 1, none⟩ = some (.slice none 0 0) := cell_at r4 rfl
      have fz := frz r4 1
      have HR4 : Hid _ := hide r4
      have HO4 : Hid _ := hide o4
      have HL4 : Hid _ := hide l4
      have HB5 : Hid _ := hide hb5
      clear r4 o4 l4 g4
      refine hKK.out _ _ (HX.out _ (But.of_below hb5)) (fun hHeld7 => ?_)
      clear hKK KK
      refine wpAnyH_take (i := 8) (oi := _) (v := ?v8) rfl (by kernel_rfl) (by kernel_rfl) (by kernel_rfl) (fun _ _ _ h => h) (Or.inl ⟨by rfl, ?y8⟩) (by assumption) ?r8
      case y8 => (intro w' hSw; (try dsimp only at hSw); go_simp; try with_reducible rfl)
      refine wpAnyH_ready (rs := [9]) (by kernel_rfl) (by simp) ?_
      refine AllReadyH.cons (o := _) rfl (fun KK hKK => ?_) AllReadyH.nil
      go_simp
      refine hKK.out _ _ (HX.out _ ((But.of_below (S := fun q => q = wr.heap.size) HB5.out).setCell ⟨wr.heap.size, 1, none⟩ (fun _ => rfl) _)) (fun hHeld9 => ?_)
      clear hKK KK
      refine wpAnyH_done (by kernel_rfl) ?_ _
      refine NoPanic.normal ?_
      obtain ⟨w5, hw5⟩ : ∃ w5, w5 = w4.setCell ⟨wr.heap.size, 1, none⟩ (.slice na pn nc) := ⟨_, rfl⟩
      have r5 : w5.heap[wr.heap.size]? = some (.cells #[.int .i64 p0', .slice na pn nc] 40 (0, 0)) := by rw [hw5]; exact set1_heap _ HR4.out
      have b45 : But (fun q => q = wr.heap.size) w4 w5 := by rw [hw5]; exact (But.refl (fun q => q = wr.heap.size) w4).setCell ⟨wr.heap.size, 1, none⟩ (fun _ => rfl) _
      have hs45 : w4.heap.size ≤ w5.heap.size := b45.size
      have b05 : Below wr.heap.size wr w5 := HB3.out.trans ((HB5.out.mono (Nat.le_of_lt s3)).trans (b45.below (Nat.le_trans (Nat.le_of_lt s3) HB5.out.size) (fun q hq => Nat.le_of_eq hq.symm)))
      have O5 : Own layR 42 w5 w.heap.size (.slice na pn nc) R := HO4.out.but b45 (fun q hq e9 => by have h8 := HL4.out q hq; have e8 : q = wr.heap.size := e9; simp at h8; omega)
      have q0 : w5.cell? ⟨wr.heap.size, 0, none⟩ = some (.int .i64 p0') := cell_at r5 rfl
      have q1 : w5.cell? ⟨wr.heap.size, 1, none⟩ = some (.slice na pn nc) := cell_at r5 rfl
      have HZ5 : Hid (Own layW 40 w5 w.heap.size (.slice va k vc) rws) := hide (HZ.out.own.below b05)
      have HB05 : Hid _ := hide b05
      have HO5 : Hid _ := hide O5
      have HSL : Hid (∀ q, (Value.slice na pn nc).ownBlock = some q → wr.heap.size ≤ q) := hide (fun q hq => by have h8 := HL4.out q hq; simp at h8; omega)
      have hsw5 : w.heap.size ≤ w5.heap.size := by have := HB.out.size; have := b05.size; omega
      rw [← hw5]
      clear hw5 r5 b45 b05 O5 z0 z1 fz hHeld hHeld1 hHeld7 hHeld9 x0 x1 hb5
      go_wp2_with (at_builtin; refine append_lay layW _ 31 40 i1 _ 32 Try.underlying31 hi1 hy0 hy1 hy2 rfl rfl (.tmp 27) (.tmp 29) rfl w.heap.size _ _ rfl (HZ5.out.below (below_alloc1 _ _)) _ _ _ [(⟨p0', ⟨na, pn, nc⟩⟩ : Rw)] rfl (TRow.one (heap_new _ _)) (fun e => by cases e) (by rw [HRL.out]; unfold maxLen; omega) (by rw [HRL.out]; omega) (by simp; omega) ?_; intro v9 w9 o9 g9 l9)
      have HZ9 : Hid (Rowz w9 w.heap.size v9 (rws ++ [⟨p0', ⟨na, pn, nc⟩⟩]) (Gs.take (k + 1))) := hide (by
        rw [HT.out]
        exact HZ.out.snoc (s := ⟨na, pn, nc⟩) (HB05.out.alloc HB05.out.size _) (HO5.out.below (below_alloc1 _ _)) HSL.out o9 g9)
      have HB9 : Hid (Below w.heap.size w w9) := hide (HB.out.trans (((HB05.out.alloc HB05.out.size _).mono HB.out.size).grown g9 (by simp; omega) (fun q hq => (HZ.out.own.lt q hq).1)))
      clear o9 g9 l9 q0 q1
      go_wp2
      exact ⟨⟨k + 1, _, by go_num, by omega, HZ9, HB9⟩, by simp [numV]; omega⟩
    · have hltI : ¬ (k : Int) < (n : Int) := by omega
      obtain rfl : k = n := by omega
      go_wp2
      go_ret
      refine ⟨_, rfl, ⟨rws, ?_⟩, HB.out⟩
      have h9 := HZ.out
      rw [List.take_of_length_le (by rw [HG.out]; exact Nat.le_refl _)] at h9
      exact h9
end Go.Proofs.Ytdlpffbeladgaab
