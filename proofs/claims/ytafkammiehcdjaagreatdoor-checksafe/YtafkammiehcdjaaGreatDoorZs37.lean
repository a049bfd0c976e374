import Derived.Test.YtafkammiehcdjaaGreatDoorZs36
/-
  CheckSafe.
-/
namespace Go.Proofs.YtafkammiehcdjaaGreatDoor
open Go.RowKit Go.Maps Go.Shelf
set_option linter.unusedVariables false
/-- What is known of the events that were taken. -/
structure SfL (w : World) (M : CS) (ps : List E6.Ev) (gs : List Int) : Prop where
  rch : Rch (ps.map me) M
  tk : M.taken = ps.length
  pre : ∀ tail, CS.new.run (ps ++ tail) 0 = M.run tail ps.length
  ok : ∀ f ∈ ps, f.ok ∧ f.chk = 0
  st : ∀ f ∈ ps, E6.SRow w f.sa f.ls.length f.ls
  gr : ∀ g ∈ gs, 0 ≤ g ∧ g ≤ 65535
  gl : gs.length ≤ ps.length + 1
section
variable {w : World} {M : CS} {ps : List E6.Ev} {gs : List Int} {e : E6.Ev}
theorem SfL.eb (h : SfL w M ps gs) : ∀ f ∈ ps, Eb f.g f.k f.o f.a := fun f hf => (gdm_of (h.ok f hf).2 (h.ok f hf).1).2
theorem SfL.us (h : SfL w M ps gs) : ∀ x ∈ ps.map me, IsU x.o := fun x hx => by
  obtain ⟨f, hf, rfl⟩ := List.mem_map.1 hx
  have := (h.eb f hf).ok
  exact ⟨this.o0, this.o1⟩
theorem SfL.push (h : SfL w M ps gs) (hok : e.ok) (hc : e.chk = 0) (hs : E6.SRow w e.sa e.ls.length e.ls) (hw : M.why (me e) = 0) : SfL w (M.next (me e)) (ps ++ [e]) gs := by
  have hg := (gdm_of hc hok).1
  refine ⟨by rw [List.map_append]; exact .step h.rch hg hw, by rw [next_taken hw, h.tk, List.length_append]; rfl, fun tail => ?_, fun f hf => ?_, fun f hf => ?_, h.gr, by rw [List.length_append]; have := h.gl; simp; omega⟩
  · rw [List.append_assoc, h.pre]
    show M.run (e :: tail) ps.length = _
    rw [CS.run, if_neg (fun q => q hw), List.length_append]
    rfl
  · rcases List.mem_append.1 hf with hf | hf
    · exact h.ok f hf
    · cases List.mem_singleton.1 hf; exact ⟨hok, hc⟩
  · rcases List.mem_append.1 hf with hf | hf
    · exact h.st f hf
    · cases List.mem_singleton.1 hf; exact hs
theorem SfL.addG (h : SfL w M (ps ++ [e]) gs) (hl : gs.length ≤ ps.length + 1) {g : Int} (h0 : 0 ≤ g) (h1 : g ≤ 65535) : SfL w M (ps ++ [e]) (gs ++ [g]) := by
  refine ⟨h.rch, h.tk, h.pre, h.ok, h.st, fun x hx => ?_, by rw [List.length_append, List.length_append]; simp; omega⟩
  rcases List.mem_append.1 hx with hx | hx
  · exact h.gr x hx
  · cases List.mem_singleton.1 hx; exact ⟨h0, h1⟩
theorem SfL.run (h : SfL w M ps gs) (hb : (E6.bounds ps).2 = 0) : runV ps = (-1, 0, 0) := by
  have h1 := h.pre []
  rw [List.append_nil] at h1
  rw [runV_zero hb, h1]
  rfl
theorem held_few (hi : M.inv) (ht : M.taken ≤ 1048576) (g : Int) : ((heldK M g).length : Int) ≤ 2000000 := by
  unfold heldK
  cases hg : M.gs g with
  | none => simp
  | some r =>
    have h1 := (hi.gor g r hg).2.2.2.1
    rw [List.length_map]
    omega
end
theorem Sf.row {w wr : World} {cb wb : Nat} {M : CS} {vt vg : Value} {ps : List E6.Ev} {gs : List Int} (h : Sf w wr cb wb M vt ps vg gs) (hl : SfL w M ps gs) : ∃ a c, vt = .slice a ps.length c ∧ E6.ERow wr a ps.length ps ∧ ps.length ≤ c ∧ (a = none → c = 0) :=
  E6.erow_own h.ot rfl (fun f hf => E6.SRow.bel (hl.st f hf) h.bel)
set_option maxRecDepth 8000 in
set_option maxHeartbeats 16000000 in
theorem safe_any (a : Option Addr) (n c : Nat) (es : List E6.Ev) (w : World) (hK : E6.Kr w) (hr : E6.ERow w a n es) (hok : ∀ e ∈ es, e.ok) (hn : n * 56 ≤ 140737488355328) :
    Calls Tryz.prog 5 #[.slice a n c] w fun e w' => e = .returned (.bool true) ∧ Below w.heap.size w w' := by
  have HAw := hide (awake_any w hK)
  have HK := hide hK
  have HR := hide hr
  have HO := hide hok
  have hnI : (n : Int) ≤ 9223372036854775806 := by omega
  have hsz := hK.size
  clear hK hr hok hn
  go_enter Tryz.func5, Tryz.ntmps5
  go_wp2_with fail
  refine HAw.out.mono ?_
  rintro r w1 ⟨rfl, hb1⟩
  have HB1 := hide hb1
  have HNw := hide (New_any w1)
  unfold gPtr at HNw
  clear hb1 HAw
  go_wp2_with fail
  refine HNw.out.mono ?_
  rintro r w4 ⟨rfl, hs4⟩
  have HS := hide (RSt.under HB1.out hs4)
  generalize w1.heap.size + 5 = cb at HS ⊢
  clear hs4 HNw HB1
  obtain ⟨W5, hW5⟩ : ∃ W5, W5 = w4.alloc (.cells #[.slice none 0 0] 42) := ⟨_, rfl⟩
  obtain ⟨W6, hW6⟩ : ∃ W6, W6 = W5.alloc (.cells #[.int .i64 0] 3) := ⟨_, rfl⟩
  have hb5 : Below w4.heap.size w4 W5 := by rw [hW5]; exact below_alloc1 w4 _
  have hb6 : Below W5.heap.size W5 W6 := by rw [hW6]; exact below_alloc1 W5 _
  have h5s : W5.heap.size = w4.heap.size + 1 := by rw [hW5, World.size_alloc]
  have HSf : Hid (Sf w W6 cb w4.heap.size CS.new (.slice none 0 0) [] (.slice (some ⟨w4.heap.size + 1, 0, none⟩) 1 1) [0]) := hide (by
    obtain ⟨B, F, k1, k2⟩ := HS.out.ck
    have hbb := hb5.trans (hb6.mono hb5.size)
    have hno : ∀ k, w4.heap.size ≤ k → F k = none := fun k hk => by
      cases hq : F k with
      | none => rfl
      | some l => have := k1.lt k l hq; omega
    refine ⟨⟨B, F, k1.below hbb, k2, hno _ (Nat.le_refl _), fun k hk => (by simp [Value.ownBlock] at hk), fun k hk => ?_⟩, HS.out.inv, ?_, HS.out.bel.size, World.ownsRow_nil _ _ _ _, ?_, HS.out.bel.trans (hbb.mono HS.out.bel.size)⟩
    · have hk' : some (w4.heap.size + 1) = some k := hk
      injection hk' with hk'
      exact hno k (by omega)
    · have h1 : W5.heap[w4.heap.size]? = some (.cells #[.slice none 0 0] 42 (0, 0)) := by rw [hW5]; exact heap_new _ _
      exact (hb6.block _ (by omega)).trans h1
    · have h1 := World.ownsRow_lit (size := 1) (e := 3) (base := w.heap.size) W5 #[Value.int .i64 0] 1 (by have := HS.out.bel.size; omega) (by unfold maxLen; omega) (by rfl)
      rw [← hW6, h5s] at h1
      exact h1)
  have HLg : Hid (SfL w CS.new [] [0]) := hide ⟨.new, rfl, fun _ => rfl, fun f hf => (by cases hf), fun f hf => (by cases hf), fun g hg => (by cases List.mem_singleton.1 hg; omega), by simp⟩
  have HW6 : Hid (W6 = (w4.alloc (.cells #[.slice none 0 0] 42)).alloc (.cells #[.int .i64 0] 3)) := hide (by rw [hW6, hW5])
  clear hW5 hW6 hb5 hb6 h5s
  go_wp2_with fail
  first | rw [← HW6.out] | skip
  go_wp2
  generalize w4.heap.size = wb at HSf ⊢
  clear HW6 HS
  go_loopw [5, 6] (fun vg i wr => ∃ (j : Nat) (M : CS) (vt : Value) (ps : List E6.Ev) (gs : List Int), j ≤ n ∧ i = .int .i64 j ∧ Hid (Sf w wr cb wb M vt ps vg gs) ∧ Hid (SfL w M ps gs) ∧ Hid (M.taken ≤ 1048576)) (fun _ i _ => n - (intOf i).toNat)
  case atStart => exact ⟨0, CS.new, _, [], [0], Nat.zero_le _, rfl, HSf, HLg, hide (by decide)⟩
  case round =>
    obtain ⟨j, M, vt, ps, gs, hj, rfl, HS, HL, HTk⟩ := hrel
    clear HSf HLg
    obtain ⟨ga, gc, hvg, _, _⟩ := own_form HS.out.og
    have hvg' : u5 = .slice ga gs.length gc := hvg
    subst hvg'
    by_cases hlt : j < n
    · have hjI : (j : Int) < n := by omega
      obtain ⟨b, off, e, ha, hej, c0, c1, c2, c3, c4, hs⟩ := HR.out.at hlt
      subst ha
      have hme := HO.out e (List.mem_of_getElem? hej)
      have HCe : Hid (∀ X, Below w.heap.size w X → X.cell? ⟨b, off + j * 5, none⟩ = some (.int .i64 e.g) ∧ X.cell? ⟨b, off + j * 5 + 1, none⟩ = some (.int .i64 e.k) ∧ X.cell? ⟨b, off + j * 5 + 2, none⟩ = some (.int .u64 e.o) ∧ X.cell? ⟨b, off + j * 5 + 3, none⟩ = some (.int .u64 e.a) ∧ X.cell? ⟨b, off + j * 5 + 4, none⟩ = some (.slice e.sa e.ls.length e.sc)) := hide (fun X hX => ⟨E6.cell_bel c0 hX, E6.cell_bel c1 hX, E6.cell_bel c2 hX, E6.cell_bel c3 hX, E6.cell_bel c4 hX⟩)
      have HSe : Hid (E6.SRow w e.sa e.ls.length e.ls) := hide hs
      have HMe := hide hme
      obtain ⟨q0, q1, q2, q3, q4⟩ := HCe.out wr HS.out.bel
      obtain ⟨B, F, kc, kf⟩ := HS.out.ck
      have HAd := hide (Add_any (sa := e.sa) (sn := e.ls.length) (sc := e.sc) (ls := e.ls) (g := e.g) (k := e.k) (o := e.o) (a := e.a) kc HS.out.inv HTk.out (HK.out.below HS.out.bel (by omega)) (E6.SRow.bel hs HS.out.bel) (by have := hme.len; omega) hme.ho.1 hme.ho.2 hme.ha.1 hme.ha.2)
      have HInv : Hid (M.addS e.chk (me e)).inv := hide (addS_inv HS.out.inv (fun hc => chk_eb hc hme.ho.1 hme.ho.2 hme.ha.1 hme.ha.2))
      have HKf := hide kf
      have hlsI : (e.ls.length : Int) ≤ 9223372036854775806 := by have := hme.len; omega
      unfold gPtr evC at HAd
      obtain ⟨ck, hck⟩ : ∃ ck, ck = E6.chk e.g e.k e.o e.a e.ls := ⟨_, rfl⟩
      have HCk : Hid (e.chk = ck) := hide hck.symm
      rw [← hck] at HAd
      rw [HCk.out] at HInv
      have HCc : Hid (∀ X, Below w.heap.size w X → Calls Tryz.prog 16 #[.agg #[.int .i64 e.g, .int .i64 e.k, .int .u64 e.o, .int .u64 e.a, .slice e.sa e.ls.length e.sc]] X fun r w' => r = .returned (.int .i64 ck) ∧ Below X.heap.size X w') := hide (fun X hX => by
        rw [hck]
        exact E6.check_any e.g e.k e.o e.a e.sa e.ls.length e.sc e.ls X (HK.out.below hX (by omega)) (E6.SRow.bel HSe.out hX) hlsI)
      clear hs hej hme c0 c1 c2 c3 c4 kc kf hck
      by_cases hc0 : ck = 0
      · subst hc0
        by_cases hfull : M.taken = 1048576
        · obtain ⟨z1, z2, z3⟩ := add_full hfull (⟨e.g, e.k, e.o, e.a⟩ : Me)
          have z3' : M.addS 0 (me e) = M := z3
          rw [z1, z2, z3] at HAd
          rw [z3'] at HInv
          have hpl : (ps.length : Int) = 1048576 := by have := HL.out.tk; omega
          clear z1 z2 z3 z3'
          go_wp2_with fail
          refine HAd.out.mono ?_
          rintro r w5 ⟨rfl, hR⟩
          have HS5 := hide (HS.out.add (B := B) HKf.out hR HInv.out)
          obtain ⟨p0, p1, p2, p3, p4⟩ := HCe.out w5 HS5.out.bel
          have HC5 := hide (HCc.out w5 HS5.out.bel)
          clear HAd hR q0 q1 q2 q3 q4
          go_wp2_with fail
          refine HC5.out.mono ?_
          rintro r w6 ⟨rfl, hb6⟩
          have HS6 := hide (HS5.out.on hb6)
          obtain ⟨ta, tc, hvt, _, _⟩ := own_form HS6.out.ot
          subst hvt
          have y0 : w6.cell? ⟨wb, 0, none⟩ = some (.slice ta ps.length tc) := cell_at HS6.out.wc rfl
          have yl := lt_of_heap HS6.out.wc
          have hd9 : decide ((ps.length : Int) < 1048576) = false := decide_eq_false (by omega)
          have hd8 : decide (ps.length < 1048576) = false := decide_eq_false (by omega)
          clear HC5 hb6 p0 p1 p2 p3 p4 hpl
          go_wp2
          exact ⟨⟨j + 1, M, _, ps, gs, by omega, by go_num, HS6, HL, HTk⟩, by simp [intOf]; omega⟩
        · obtain ⟨z1, z2, z3⟩ := add_why hfull (⟨e.g, e.k, e.o, e.a⟩ : Me)
          rw [z1, z2, z3] at HAd
          have z3' : M.addS 0 (me e) = if M.why (me e) ≠ 0 then M else M.next (me e) := z3
          rw [z3'] at HInv
          have hgd := gdm_of HCk.out HMe.out
          have HGd := hide hgd.1
          have HEb := hide hgd.2
          have hrg : 0 ≤ M.why (me e) ∧ M.why (me e) ≤ 28 := by rw [HL.out.rch.why hgd.1]; exact rsn_rg _ _
          obtain ⟨Y, hY⟩ : ∃ Y, Y = M.why (me e) := ⟨_, rfl⟩
          have hY' : M.why (⟨e.g, e.k, e.o, e.a⟩ : Me) = Y := hY.symm
          rw [hY'] at HAd
          rw [← hY] at hrg HInv
          have HY := hide hY
          clear z1 z2 z3 z3' hgd hY hY'
          by_cases hY0 : Y = 0
          · subst hY0
            rw [if_neg (fun q => q rfl)] at HAd HInv
            have HTk2 : Hid ((M.next (me e)).taken ≤ 1048576) := hide (by rw [next_taken HY.out.symm]; have := HTk.out; omega)
            go_wp2_with fail
            refine HAd.out.mono ?_
            rintro r w5 ⟨rfl, hR⟩
            have HS5 : Hid (Sf w w5 cb wb (M.next (me e)) vt ps (.slice ga gs.length gc) gs) := hide (HS.out.add (B := B) HKf.out hR HInv.out)
            have HL5 := hide (HL.out.push HMe.out HCk.out HSe.out HY.out.symm)
            obtain ⟨ta, tc, hvt, _, _⟩ := own_form HS5.out.ot
            subst hvt
            have y0 : w5.cell? ⟨wb, 0, none⟩ = some (.slice ta ps.length tc) := cell_at HS5.out.wc rfl
            have yl := lt_of_heap HS5.out.wc
            have yf : w5.frozen? ⟨wb, 0, none⟩ = false := frozen_of_row w5 wb 0 _ _ HS5.out.wc
            obtain ⟨p0, p1, p2, p3, p4⟩ := HCe.out w5 HS5.out.bel
            have HM56 : Hid ((ps.length + 1) * 56 ≤ 140737488355328) := hide (by have := HL.out.tk; have := HTk.out; omega)
            have HOT := hide ((own_but (S := fun _ => False) HS5.out.ot (But.of_below (Below.refl _ _).drew) (fun _ _ e => e)).alloc (.cells #[.int .i64 e.g, .int .i64 e.k, .int .u64 e.o, .int .u64 e.a, .slice e.sa e.ls.length e.sc] 36))
            clear HAd hR q0 q1 q2 q3 q4
            go_wp2_with fail
            have HSA := hide (HS5.out.on ((below_alloc1 w5 (.cells #[.int .i64 e.g, .int .i64 e.k, .int .u64 e.o, .int .u64 e.a, .slice e.sa e.ls.length e.sc] 36)).drew))
            go_region_law (refine E6.step_ev rfl (.tmp 71) (.tmp 76) rfl w.heap.size (.slice ta ps.length tc) ps.length ps (by simp [Act.eval]) HOT.out w5.heap.size e (by simp [Act.eval]) E6.EvB.new HM56.out (Nat.le_trans HS5.out.bel.size (by simp)) ?_; intro a3 c3 w7 o2 g2 l2; have x1 := HSA.out.wc7 g2; have x2 : w7.cell? ⟨wb, 0, none⟩ = some (.slice ta ps.length tc) := cell_at x1 rfl; have x3 : w7.frozen? ⟨wb, 0, none⟩ = false := frozen_of_row w7 wb 0 _ _ x1; have x4 := lt_of_heap x1; have HS7 : Hid (Sf w (w7.setCell ⟨wb, 0, none⟩ (.slice a3 (ps.length + 1) c3)) cb wb (M.next (me e)) (.slice a3 (ps.length + 1) c3) (ps ++ [e]) (.slice ga gs.length gc) gs) := hide (HSA.out.pushT (by rw [List.length_append]; exact o2) g2 (l2.imp id .inl)); clear o2 g2 l2 x1)
            all_goals
              clear x2 x3 x4 y0 yl yf p0 p1 p2 p3 p4 HOT HSA HM56 HS5 HS HInv HKf HCc
              generalize w7.setCell ⟨wb, 0, none⟩ (.slice a3 (ps.length + 1) c3) = W8 at HS7 ⊢
              obtain ⟨v0, v1, v2, v3, v4⟩ := HCe.out W8 HS7.out.bel
              by_cases hk7 : e.k = 7
              · have bk7 := beq_t hk7
                have hfa := HEb.out.fj (.inl hk7)
                have hfb := HEb.out.ok.a0
                have hwa : IntKind.i64.wrap e.a = e.a := by rw [IntKind.wrap_i64]; omega
                obtain ⟨i0, hi, hz0, hz1, hz2⟩ := info_parts Tryz.infoI
                have HS8 := hide (HS7.out.on (below_alloc1 W8 (.cells #[.int .i64 e.a] 3)))
                have HT8 := hide (TRow.one (y := layI) (w := W8.alloc (.cells #[.int .i64 e.a] 3)) (B := W8.heap.size) (x := e.a) (heap_new W8 (.cells #[.int .i64 e.a] 3)))
                have HGl : Hid (gs.length ≤ ps.length + 1 ∧ ps.length ≤ 1048576) := hide ⟨HL.out.gl, by have := HL.out.tk; have := HTk.out; omega⟩
                have HL8 := hide (HL5.out.addG HL.out.gl hfb hfa)
                clear hk7 hfa hfb
                go_wp2_with (at_builtin; refine append_lay layI _ 43 3 i0 _ 8 Tryz.underlying43 hi hz0 hz1 hz2 rfl rfl _ _ rfl w.heap.size _ gs rfl HS8.out.og _ 1 1 [e.a] rfl HT8.out (fun e => by cases e) ?b1 ?b2 HS8.out.bel.size ?_)
                case b1 => unfold maxLen; have := HGl.out; omega
                case b2 => have := HGl.out; omega
                intro vg' w9 o1 g1 l1
                have HS9 := hide (HS8.out.pushG o1 g1 (by rw [World.size_alloc]; exact l1))
                obtain ⟨ga', gc', hvg', _, _⟩ := own_form HS9.out.og
                obtain ⟨gl, hgl⟩ : ∃ gl, (gs ++ [e.a]).length = gl := ⟨_, rfl⟩
                rw [hgl] at hvg'
                have HGL := hide hgl
                subst hvg'
                clear hgl
                clear o1 g1 l1 HS8 HT8 HGl v0 v1 v2 v3 v4 HS7
                have HB0 := hide (Below.refl w9.heap.size w9)
                have HBd := hide ((Below.refl w9.heap.size w9).drew)
                have yw : w9.cell? ⟨wb, 0, none⟩ = some (.slice a3 (ps.length + 1) c3) := cell_at HS9.out.wc rfl
                have yl9 := lt_of_heap HS9.out.wc
                have HSx : Hid (∀ X, Below w9.heap.size w9 X → X.cell? ⟨wb, 0, none⟩ = some (.slice a3 (ps.length + 1) c3) ∧ X.cell? ⟨b, off + j * 5, none⟩ = some (.int .i64 e.g) ∧ X.cell? ⟨b, off + j * 5 + 1, none⟩ = some (.int .i64 e.k) ∧ X.cell? ⟨b, off + j * 5 + 2, none⟩ = some (.int .u64 e.o) ∧ X.cell? ⟨b, off + j * 5 + 3, none⟩ = some (.int .u64 e.a) ∧ X.cell? ⟨b, off + j * 5 + 4, none⟩ = some (.slice e.sa e.ls.length e.sc)) := hide (fun X hX => ⟨E6.cell_bel yw hX, HCe.out X (HS9.out.bel.trans (hX.mono HS9.out.bel.size))⟩)
                obtain ⟨t0, t1, t2, t3, t4⟩ := HCe.out w9 HS9.out.bel
                have hrowA := HS9.out.row HL8.out
                have hrowB : E6.ERow w9 a3 (ps.length + 1) (ps ++ [e]) := by
                  obtain ⟨ra, rc, rv, rr, _⟩ := hrowA
                  rw [List.length_append] at rv rr
                  cases rv
                  exact rr
                have HSo := hide (sound_any a3 (ps.length + 1) c3 (ps ++ [e]) w9.drew (hrowB.bel HBd.out) (by have h1 := HL8.out.tk; have h2 := HTk2.out; rw [List.length_append] at h1; simp at h1; omega) HL8.out.eb e.g e.o e.a (.slice e.sa e.ls.length e.sc) HL.out.rch e.k HEb.out (by rw [List.map_append]; rfl) HGd.out HY.out.symm)
                unfold evC at HSo
                have HEx : Hid (∀ X, Below w9.heap.size w9 X → Calls Tryz.prog 18 #[.pointer (some ⟨cb, 0, none⟩), .slice ga' gl gc'] X fun r w' => r = .returned (.bool true) ∧ Below X.heap.size X w') := hide (fun X hX => by
                  have hs9 := HS9.out.on hX
                  obtain ⟨B9, F9, k9, _⟩ := hs9.ck
                  exact excluded_any k9 hs9.inv HL8.out.rch.lkL HL8.out.us ga' gl gc' (gs ++ [e.a]) (hs9.og.row HGL.out) HL8.out.gr (by have h0 := HGL.out; have h1 := HL8.out.gl; have h2 := HL8.out.tk; have h3 := HTk2.out; omega) (held_few hs9.inv HTk2.out))
                clear hrowA hrowB
                go_wp2_with fail
                go_region_held3 (fun X => X.cell? ⟨wb, 0, none⟩ = some (.slice a3 (ps.length + 1) c3) ∧ X.cell? ⟨b, off + j * 5, none⟩ = some (.int .i64 e.g) ∧ X.cell? ⟨b, off + j * 5 + 1, none⟩ = some (.int .i64 e.k) ∧ X.cell? ⟨b, off + j * 5 + 2, none⟩ = some (.int .u64 e.o) ∧ X.cell? ⟨b, off + j * 5 + 3, none⟩ = some (.int .u64 e.a) ∧ X.cell? ⟨b, off + j * 5 + 4, none⟩ = some (.slice e.sa e.ls.length e.sc))
                  (first | with_reducible exact HSx.out _ HB0.out | with_reducible exact HSx.out _ HBd.out | with_reducible exact HSx.out _ HB10.out | with_reducible exact HSx.out _ HB11.out)
                  (first | (go_at_call 17; go_must (refine HSo.out.mono ?_; rintro e9 w10 ⟨rfl, h10⟩; have HB10 : Hid (Below w9.heap.size w9 w10) := hide (HBd.out.trans (h10.mono HBd.out.size)); clear h10)) | (go_at_call 18; go_must (refine (HEx.out _ HB10.out).mono ?_; rintro e9 w11 ⟨rfl, h11⟩; have HB11 : Hid (Below w9.heap.size w9 w11) := hide (HB10.out.trans (h11.mono HB10.out.size)); clear h11)))
                go_wp2
                exact ⟨⟨j + 1, M.next (me e), _, ps ++ [e], (gs ++ [e.a]), by omega, by go_num, hide (HS9.out.on HB11.out), HL8, HTk2⟩, by simp [intOf]; omega⟩
              · have bk7 := beq_f hk7
                clear hk7 v0 v1 v2 v3 v4
                have HB0 := hide (Below.refl W8.heap.size W8)
                have HBd := hide ((Below.refl W8.heap.size W8).drew)
                have yw : W8.cell? ⟨wb, 0, none⟩ = some (.slice a3 (ps.length + 1) c3) := cell_at HS7.out.wc rfl
                have yl9 := lt_of_heap HS7.out.wc
                have HSx : Hid (∀ X, Below W8.heap.size W8 X → X.cell? ⟨wb, 0, none⟩ = some (.slice a3 (ps.length + 1) c3) ∧ X.cell? ⟨b, off + j * 5, none⟩ = some (.int .i64 e.g) ∧ X.cell? ⟨b, off + j * 5 + 1, none⟩ = some (.int .i64 e.k) ∧ X.cell? ⟨b, off + j * 5 + 2, none⟩ = some (.int .u64 e.o) ∧ X.cell? ⟨b, off + j * 5 + 3, none⟩ = some (.int .u64 e.a) ∧ X.cell? ⟨b, off + j * 5 + 4, none⟩ = some (.slice e.sa e.ls.length e.sc)) := hide (fun X hX => ⟨E6.cell_bel yw hX, HCe.out X (HS7.out.bel.trans (hX.mono HS7.out.bel.size))⟩)
                obtain ⟨t0, t1, t2, t3, t4⟩ := HCe.out W8 HS7.out.bel
                have hrowA := HS7.out.row HL5.out
                have hrowB : E6.ERow W8 a3 (ps.length + 1) (ps ++ [e]) := by
                  obtain ⟨ra, rc, rv, rr, _⟩ := hrowA
                  rw [List.length_append] at rv rr
                  cases rv
                  exact rr
                have HSo := hide (sound_any a3 (ps.length + 1) c3 (ps ++ [e]) W8.drew (hrowB.bel HBd.out) (by have h1 := HL5.out.tk; have h2 := HTk2.out; rw [List.length_append] at h1; simp at h1; omega) HL5.out.eb e.g e.o e.a (.slice e.sa e.ls.length e.sc) HL.out.rch e.k HEb.out (by rw [List.map_append]; rfl) HGd.out HY.out.symm)
                unfold evC at HSo
                have HEx : Hid (∀ X, Below W8.heap.size W8 X → Calls Tryz.prog 18 #[.pointer (some ⟨cb, 0, none⟩), .slice ga gs.length gc] X fun r w' => r = .returned (.bool true) ∧ Below X.heap.size X w') := hide (fun X hX => by
                  have hs9 := HS7.out.on hX
                  obtain ⟨B9, F9, k9, _⟩ := hs9.ck
                  exact excluded_any k9 hs9.inv HL5.out.rch.lkL HL5.out.us ga gs.length gc gs (hs9.og.row rfl) HL5.out.gr (by have h0 := HL5.out.gl; have h1 := HL5.out.gl; have h2 := HL5.out.tk; have h3 := HTk2.out; omega) (held_few hs9.inv HTk2.out))
                clear hrowA hrowB
                go_wp2_with fail
                go_region_held3 (fun X => X.cell? ⟨wb, 0, none⟩ = some (.slice a3 (ps.length + 1) c3) ∧ X.cell? ⟨b, off + j * 5, none⟩ = some (.int .i64 e.g) ∧ X.cell? ⟨b, off + j * 5 + 1, none⟩ = some (.int .i64 e.k) ∧ X.cell? ⟨b, off + j * 5 + 2, none⟩ = some (.int .u64 e.o) ∧ X.cell? ⟨b, off + j * 5 + 3, none⟩ = some (.int .u64 e.a) ∧ X.cell? ⟨b, off + j * 5 + 4, none⟩ = some (.slice e.sa e.ls.length e.sc))
                  (first | with_reducible exact HSx.out _ HB0.out | with_reducible exact HSx.out _ HBd.out | with_reducible exact HSx.out _ HB10.out | with_reducible exact HSx.out _ HB11.out)
                  (first | (go_at_call 17; go_must (refine HSo.out.mono ?_; rintro e9 w10 ⟨rfl, h10⟩; have HB10 : Hid (Below W8.heap.size W8 w10) := hide (HBd.out.trans (h10.mono HBd.out.size)); clear h10)) | (go_at_call 18; go_must (refine (HEx.out _ HB10.out).mono ?_; rintro e9 w11 ⟨rfl, h11⟩; have HB11 : Hid (Below W8.heap.size W8 w11) := hide (HB10.out.trans (h11.mono HB10.out.size)); clear h11)))
                go_wp2
                exact ⟨⟨j + 1, M.next (me e), _, ps ++ [e], gs, by omega, by go_num, hide (HS7.out.on HB11.out), HL5, HTk2⟩, by simp [intOf]; omega⟩
          · have hYb : (Y != 0) = true := bne_t hY0
            rw [if_pos hY0] at HAd HInv
            have d1 : decide (Y < 0) = false := decide_eq_false (by omega)
            have d2 : decide (28 < Y) = false := decide_eq_false (by omega)
            clear hY0 hrg
            go_wp2_with fail
            refine HAd.out.mono ?_
            rintro r w5 ⟨rfl, hR⟩
            have HS5 := hide (HS.out.add (B := B) HKf.out hR HInv.out)
            obtain ⟨p0, p1, p2, p3, p4⟩ := HCe.out w5 HS5.out.bel
            have HC5 := hide (HCc.out w5 HS5.out.bel)
            clear HAd hR q0 q1 q2 q3 q4
            go_wp2_with fail
            refine HC5.out.mono ?_
            rintro r w6 ⟨rfl, hb6⟩
            have HS6 := hide (HS5.out.on hb6)
            clear HC5 hb6 p0 p1 p2 p3 p4
            go_wp2
            exact ⟨⟨j + 1, M, vt, ps, gs, by omega, by go_num, HS6, HL, HTk⟩, by simp [intOf]; omega⟩
      · obtain ⟨z1, z2, z3⟩ := add_bad (M := M) hc0 (⟨e.g, e.k, e.o, e.a⟩ : Me)
        have z3' : M.addS ck (me e) = M := z3
        rw [z1, z2, z3] at HAd
        rw [z3'] at HInv
        have hcb : (ck != 0) = true := bne_t hc0
        clear z1 z2 z3 z3' hc0
        go_wp2_with fail
        refine HAd.out.mono ?_
        rintro r w5 ⟨rfl, hR⟩
        have HS5 := hide (HS.out.add (B := B) HKf.out hR HInv.out)
        obtain ⟨p0, p1, p2, p3, p4⟩ := HCe.out w5 HS5.out.bel
        have HC5 := hide (HCc.out w5 HS5.out.bel)
        clear HAd hR q0 q1 q2 q3 q4
        go_wp2_with fail
        refine HC5.out.mono ?_
        rintro r w6 ⟨rfl, hb6⟩
        have HS6 := hide (HS5.out.on hb6)
        clear HC5 hb6 p0 p1 p2 p3 p4
        go_wp2
        exact ⟨⟨j + 1, M, vt, ps, gs, by omega, by go_num, HS6, HL, HTk⟩, by simp [intOf]; omega⟩
    · have hjn : ¬ (j : Int) < n := by omega
      obtain ⟨ta, tc, hvt, hrow, htc, hz⟩ := HS.out.row HL.out
      subst hvt
      have y0 : wr.cell? ⟨wb, 0, none⟩ = some (.slice ta ps.length tc) := cell_at HS.out.wc rfl
      have yl := lt_of_heap HS.out.wc
      have hpl : (ps.length : Int) ≤ 1048576 := by have := HL.out.tk; have := HTk.out; omega
      have HRw := hide hrow
      have HZ := hide hz
      have HQ := hide (quiet_any ta ps.length tc ps wr hrow hpl HL.out.eb HL.out.rch)
      have HOk : Hid (∀ f ∈ ps, f.ok) := hide (fun f hf => (HL.out.ok f hf).1)
      clear hrow hz
      go_wp2_with fail
      refine HQ.out.mono ?_
      rintro r w5 ⟨rfl, hb5⟩
      have HS5 := hide (HS.out.on hb5)
      have HR5 := hide (HRw.out.bel hb5)
      have y1 : w5.cell? ⟨wb, 0, none⟩ = some (.slice ta ps.length tc) := cell_at HS5.out.wc rfl
      have yl1 := lt_of_heap HS5.out.wc
      have HTw := hide (twin_all ta ps.length tc ps w5 HR5.out HOk.out (by omega) HZ.out)
      clear HQ hb5 y0 yl
      go_wp2_with fail
      refine HTw.out.mono ?_
      rintro r w6 ⟨a6, c6, fs6, rfl, hrow6, hok6, hv6, hbn6, hb6⟩
      have HS6 := hide (HS5.out.on hb6)
      have HR6 := hide (HR5.out.bel hb6)
      have HBn := hide (E6.bounds_any a6 ps.length c6 fs6 w6 (HK.out.below HS6.out.bel (by omega)) hrow6 hok6 (by omega))
      rw [hbn6] at HBn
      clear HTw hrow6 hok6 hv6 hbn6 hb6 y1 yl1
      obtain ⟨bp, hbp⟩ : ∃ bp, bp = (E6.bounds ps).1 := ⟨_, rfl⟩
      obtain ⟨be, hbe⟩ : ∃ be, be = (E6.bounds ps).2 := ⟨_, rfl⟩
      rw [← hbp, ← hbe] at HBn
      have HBe := hide hbe
      clear hbp hbe
      go_wp2_with fail
      refine HBn.out.mono ?_
      rintro r w7 ⟨rfl, hb7⟩
      have HS7 := hide (HS6.out.on hb7)
      have HR7 := hide (HR6.out.bel hb7)
      have y2 : w7.cell? ⟨wb, 0, none⟩ = some (.slice ta ps.length tc) := cell_at HS7.out.wc rfl
      have yl2 := lt_of_heap HS7.out.wc
      have HTw := hide (twin_all ta ps.length tc ps w7 HR7.out HOk.out (by omega) HZ.out)
      clear HBn hb7
      go_wp2_with fail
      refine HTw.out.mono ?_
      rintro r w8 ⟨a8, c8, fs8, rfl, hrow8, hok8, hv8, _, hb8⟩
      have HS8 := hide (HS7.out.on hb8)
      have HRn := hide (Run_any a8 ps.length c8 fs8 w8 (HK.out.below HS8.out.bel (by omega)) hrow8 hok8 (by omega))
      rw [hv8] at HRn
      clear HTw hrow8 hok8 hv8 hb8 y2 yl2
      by_cases hb0 : be = 0
      · have hbz : (E6.bounds ps).2 = 0 := by rw [← HBe.out]; exact hb0
        rw [HL.out.run hbz] at HRn
        subst hb0
        clear hbz HBe
        go_wp2_with fail
        refine HRn.out.mono ?_
        rintro r w9 ⟨rfl, hb9⟩
        have HS9 := hide (HS8.out.on hb9)
        clear HRn hb9
        go_wp2
        go_ret
        exact ⟨rfl, HS9.out.bel⟩
      · have hbb : (be != 0) = true := bne_t hb0
        have hv : runV ps = ((E6.bounds ps).1, 0, be) := by unfold runV; rw [if_pos (by rw [← HBe.out]; exact hb0), ← HBe.out]
        rw [hv] at HRn
        generalize (E6.bounds ps).1 = bq at HRn
        clear hb0 hv HBe
        go_wp2_with fail
        refine HRn.out.mono ?_
        rintro r w9 ⟨rfl, hb9⟩
        have HS9 := hide (HS8.out.on hb9)
        clear HRn hb9
        go_wp2
        go_ret
        exact ⟨rfl, HS9.out.bel⟩
end Go.Proofs.YtafkammiehcdjaaGreatDoor
