/-
  Encode: the program's and the document's.
-/
import Derived.Test.YtajkenbcndmjpabClNa
import Derived.Test.YtajkenbcndmjpabClE
import Derived.Test.YtajkenbcndmjpabUvs
namespace Go.Proofs.Ytajkenbcndmjpab
open Go.RowKit
open Go.Proofs.Ytajkenbcndmjpab.W1 (enc enc_pos enc_le uv_any ruv_any)
def layB : Lay Int := ⟨fun b => [.int .u8 b], 1, by decide, fun _ => rfl, by intro a u hu; simp at hu; subst hu; rfl⟩
theorem Try.infoB : (Try.prog.info? 5).map (fun i => (i.zero, i.size, i.bytes)) = some (some (.int .u8 0), 1, 1) := by kernel_rfl
theorem layB_fl (zs : List Int) : layB.fl zs = zs.map (Value.int .u8) := by
  induction zs with
  | nil => rfl
  | cons z zs ih => rw [layB.fl_cons, List.map_cons, ih]; rfl
theorem own_b {w : World} {base : Nat} {v : Value} {zs : List Int} (h : w.ownsRow base 5 1 v zs.length (zs.map (Value.int .u8))) : Own layB 5 w base v zs := by
  unfold Own
  rw [layB_fl]
  exact h
theorem enc_bad {w : World} {v : Value} {L : List Tk} (h : CL w v L) (hg : gd 0 L = false) : Calls Try.prog 7 #[v] w fun e w' => e = .returned (.tuple #[.slice none 0 0, .int .i64 170]) ∧ Below w.heap.size w w' := by
  have H1 := hide (cgood_any h)
  rw [hg] at H1
  clear h hg
  go_enter Try.func7, Try.ntmps7
  go_wp2_with fail
  refine H1.out.mono ?_
  rintro e w1 ⟨rfl, hb⟩
  have HB := hide hb
  clear hb H1
  go_wp2
  go_ret2
  exact ⟨rfl, HB.out⟩
/-- What is written so far, and what is left. -/
structure Wr (L : List Tk) (k : Nat) (m : Int) (T : List Int) : Prop where
  t : T ++ txt m (L.drop k) = encC L
  g : gd m (L.drop k) = true
theorem Wr.next {L : List Tk} {k : Nat} {m : Int} {T : List Int} {x : Tk} (h : Wr L k m T) (hx : L[k]? = some x) : Wr L (k + 1) (x.g + 1) (T ++ (enc (x.g - m).toNat ++ enc x.t.toNat)) ∧ m ≤ x.g ∧ x.g < 65536 ∧ 1 ≤ x.t := by
  have h1 := h.t
  have h2 := h.g
  rw [drop_at hx] at h1 h2
  obtain ⟨a1, a2, a3, a4⟩ := gd_cons.1 h2
  exact ⟨⟨by rw [← h1, txt]; simp, a4⟩, a1, a2, a3⟩
theorem Wr.len {L : List Tk} {k : Nat} {m : Int} {T : List Int} (h : Wr L k m T) (hg : gd 0 L = true) (hf : fits L) : (T.length : Int) ≤ 2000000 := by
  have h1 := congrArg List.length h.t
  rw [List.length_append] at h1
  have h2 := encC_len hg hf
  have h3 := gd_len0 hg
  omega
theorem Wr.done {L : List Tk} {m : Int} {T : List Int} {n : Nat} (h : Wr L n m T) (hn : L.length ≤ n) : T = encC L := by
  have h1 := h.t
  rw [List.drop_eq_nil_of_le hn, txt, List.append_nil] at h1
  exact h1
set_option maxRecDepth 100000 in
set_option maxHeartbeats 4000000 in
theorem enc_ok {w : World} {v : Value} {L : List Tk} (h : CV w v L) (hf : fits L) : Calls Try.prog 7 #[v] w fun e w' => ∃ x, e = .returned (.tuple #[x, .int .i64 0]) ∧ Own layB 5 w' w.heap.size x (encC L) ∧ Below w.heap.size w w' := by
  have H1 := hide (cgood_any h.cl)
  rw [h.gd] at H1
  obtain ⟨a, n, c, rfl, hc⟩ := h.cl.ex
  have hln := gd_len0 h.gd
  rw [hc.row.len] at hln
  obtain ⟨i0, hi, hz0, hz1, hz2⟩ := info_parts Try.infoB
  have HT := hide hc.row
  have HG := hide h.gd
  have HF := hide hf
  have hw0 : IntKind.u64.wrap (n : Int) = n := by simp [IntKind.wrap, IntKind.bits, IntKind.signed]; omega
  have HU0 := hide (fun W => uv_any (n : Int) W (by omega) (by omega))
  clear h hc hf
  go_enter Try.func7, Try.ntmps7
  go_wp2_with fail
  refine H1.out.mono ?_
  rintro e w1 ⟨rfl, hb⟩
  have HB := hide hb
  clear hb H1
  go_wp2_with fail
  refine (HU0.out _).mono ?_
  rintro e w2 ⟨c2, rfl, o2, hb⟩
  have HO2 := hide ((own_b o2).mono HB.out.size)
  replace HB := hide (Below.on HB.out hb)
  have HS : Hid (Wr L 0 0 (enc (n : Int).toNat)) := hide ⟨by rw [List.drop_zero, Int.toNat_natCast, ← HT.out.len]; rfl, by rw [List.drop_zero]; exact HG.out⟩
  generalize enc (n : Int).toNat = T0 at HO2 HS ⊢
  clear hb o2 HU0
  go_wp2
  go_loopw [4, 5, 17] (fun b l i wr => ∃ (k : Nat) (m : Int) (T : List Int), k ≤ n ∧ i = .int .i64 k ∧ l = .int .i64 m ∧ 0 ≤ m ∧ m ≤ 65536 ∧ Hid (Own layB 5 wr w.heap.size b T) ∧ Hid (Wr L k m T) ∧ Hid (Below w.heap.size w wr)) (fun _ _ i _ => n - (intOf i).toNat)
  case atStart => exact ⟨0, 0, T0, Nat.zero_le _, rfl, rfl, by omega, by omega, HO2, HS, HB⟩
  case round =>
    obtain ⟨k, m, T, hk, rfl, rfl, hm0, hm1, HO, HW, HBr⟩ := hrel
    by_cases hlt : k < n
    · have hltI : (k : Int) < n := by omega
      obtain ⟨b1, off, x, rfl, hx, hb, c0, c1⟩ := (HT.out.below HBr.out).some hlt
      obtain ⟨hw1, hx1, hx2, hx3⟩ := HW.out.next hx
      have hx4 := (HF.out x (List.mem_of_getElem? hx)).2.2.2
      have HW1 := hide hw1
      have HTl := hide (HW.out.len HG.out HF.out)
      obtain ⟨xg, xt⟩ := x
      dsimp only at c0 c1 hx1 hx2 hx3 hx4 HW1
      obtain ⟨d, hd⟩ : ∃ d, xg - m = d := ⟨_, rfl⟩
      have hd0 : 0 ≤ d := by omega
      have hd1 : d ≤ 65536 := by omega
      have hwd : IntKind.u64.wrap d = d := by simp [IntKind.wrap, IntKind.bits, IntKind.signed]; omega
      have hwt : IntKind.u64.wrap xt = xt := by simp [IntKind.wrap, IntKind.bits, IntKind.signed]; omega
      have HUd := hide (fun W => uv_any d W (by omega) (by omega))
      have HUt := hide (fun W => uv_any xt W (by omega) (by omega))
      have HE1 := hide (enc_le d.toNat (by omega))
      have HE2 := hide (enc_le xt.toNat (by omega))
      rw [hd] at HW1
      generalize enc d.toNat = E1 at HUd HE1 HW1
      generalize enc xt.toNat = E2 at HUt HE2 HW1
      obtain ⟨W1, hW1⟩ : ∃ W1, W1 = wr.alloc (.cells #[.int .i64 xg, .int .i64 xt] 43) := ⟨_, rfl⟩
      have b1' : Below wr.heap.size wr W1 := by rw [hW1]; exact below_alloc1 _ _
      have hp : W1.heap[wr.heap.size]? = some (.cells #[.int .i64 xg, .int .i64 xt] 43 (0, 0)) := by rw [hW1]; exact heap_new _ _
      have HP := hide hp
      replace HBr := hide (Below.on HBr.out b1')
      replace HO := hide (HO.out.below b1')
      have hwg : wrap64 (xg + 1) = xg + 1 := by unfold wrap64; omega
      clear hx hw1 b1' hp hb
      go_wp2_with fail
      rw [← hW1]
      clear hW1
      refine (HUd.out W1).mono ?_
      rintro e W2 ⟨c2, rfl, o2, hb⟩
      have hp2 := (hb.block _ (get_lt' HP.out)).trans HP.out
      have HP2 := hide hp2
      have HU2 := hide (own_b o2)
      replace HBr := hide (Below.on HBr.out hb)
      replace HO := hide (HO.out.below hb)
      clear o2 hb HUd c0 c1 hp2
      go_wp2_with (at_builtin; refine append_lay layB _ 23 5 i0 _ 1 Try.underlying23 hi hz0 hz1 hz2 rfl rfl (.tmp 21) (.tmp 27) rfl w.heap.size _ T rfl HO.out (some ⟨W1.heap.size, 0, none⟩) E1.length c2 E1 rfl (HU2.out.row rfl) (by intro e; cases e) ?b1 ?b2 HBr.out.size ?_)
      case b1 => unfold maxLen; have := HTl.out; have := HE1.out; omega
      case b2 => have := HTl.out; have := HE1.out; omega
      intro v3 W3 o3 g3 l3
      have HO3 := hide o3
      have bb3 : But (fun q => _ = some q) W2 W3 := But.of_grown g3 (fun k e => e)
      have hp3 : W3.heap[wr.heap.size]? = some (.cells #[.int .i64 xg, .int .i64 xt] 43 (0, 0)) := (bb3.block _ (get_lt' HP2.out) (fun e => own_ne_cells HO.out HP2.out (by decide) e)).trans HP2.out
      have HB3 := hide (HBr.out.grown g3 HBr.out.size (fun q hq => (HO.out.lt q hq).1))
      have k1 : W3.cell? ⟨wr.heap.size, 1, none⟩ = some (.int .i64 xt) := cell_at hp3 rfl
      have HP3 := hide hp3
      clear o3 g3 l3 bb3 hp3 HP HP2 HU2
      go_wp2_with fail
      refine (HUt.out W3).mono ?_
      rintro e W4 ⟨c4, rfl, o4, hb⟩
      have hp4 := (hb.block _ (get_lt' HP3.out)).trans HP3.out
      have HP4 := hide hp4
      have HU4 := hide (own_b o4)
      replace HB3 := hide (Below.on HB3.out hb)
      replace HO3 := hide (HO3.out.below hb)
      have HTl2 : Hid (((T ++ E1).length : Int) ≤ 2000010) := hide (by rw [List.length_append]; have := HTl.out; have := HE1.out; omega)
      clear o4 hb HUt hp4 k1
      go_wp2_with (at_builtin; refine append_lay layB _ 23 5 i0 _ 1 Try.underlying23 hi hz0 hz1 hz2 rfl rfl (.tmp 29) (.tmp 33) rfl w.heap.size v3 (T ++ E1) rfl HO3.out (some ⟨W3.heap.size, 0, none⟩) E2.length c4 E2 rfl (HU4.out.row rfl) (by intro e; cases e) ?b1 ?b2 HB3.out.size ?_)
      case b1 => unfold maxLen; have := HTl2.out; have := HE2.out; omega
      case b2 => have := HTl2.out; have := HE2.out; omega
      intro v5 W5 o5 g5 l5
      have HO5 := hide o5
      have bb5 : But (fun q => v3.ownBlock = some q) W4 W5 := But.of_grown g5 (fun k e => e)
      have hp5 : W5.heap[wr.heap.size]? = some (.cells #[.int .i64 xg, .int .i64 xt] 43 (0, 0)) := (bb5.block _ (get_lt' HP4.out) (fun e => own_ne_cells HO3.out HP4.out (by decide) e)).trans HP4.out
      have HB5 := hide (HB3.out.grown g5 HB3.out.size (fun q hq => (HO3.out.lt q hq).1))
      have k0 : W5.cell? ⟨wr.heap.size, 0, none⟩ = some (.int .i64 xg) := cell_at hp5 rfl
      clear o5 g5 l5 bb5 hp5 HP3 HP4 HU4
      go_wp2
      exact ⟨⟨k + 1, xg + 1, _, by omega, by go_num, rfl, by omega, by omega, HO5, HW1, HB5⟩, by simp [intOf]; omega⟩
    · have hkn : k = n := by omega
      subst hkn
      have hT := HW.out.done (by rw [HT.out.len]; exact Nat.le_refl _)
      have hd : decide ((k : Int) < (k : Int)) = false := by simp
      rw [hT] at HO
      clear hT
      go_wp2
      go_ret2
      exact ⟨_, rfl, HO.out, HBr.out⟩
theorem renc_bad {w : World} {v : Value} {L : List Tk} (h : CL w v L) (hg : gd 0 L = false) : Calls Try.prog 8 #[v] w fun e w' => e = .returned (.tuple #[.slice none 0 0, .int .i64 170]) ∧ Below w.heap.size w w' := by
  have H1 := hide (rgoodB_any h)
  rw [hg] at H1
  clear h hg
  go_enter Try.func8, Try.ntmps8
  go_wp2_with fail
  refine H1.out.mono ?_
  rintro e w1 ⟨rfl, hb⟩
  have HB := hide hb
  clear hb H1
  go_wp2
  go_ret2
  exact ⟨rfl, HB.out⟩
set_option maxRecDepth 100000 in
set_option maxHeartbeats 4000000 in
theorem renc_ok {w : World} {v : Value} {L : List Tk} (h : CV w v L) (hf : fits L) : Calls Try.prog 8 #[v] w fun e w' => ∃ x, e = .returned (.tuple #[x, .int .i64 0]) ∧ Own layB 5 w' w.heap.size x (encC L) ∧ Below w.heap.size w w' := by
  have H1 := hide (rgoodB_any h.cl)
  rw [h.gd] at H1
  obtain ⟨a, n, c, rfl, hc⟩ := h.cl.ex
  have hln := gd_len0 h.gd
  rw [hc.row.len] at hln
  obtain ⟨i0, hi, hz0, hz1, hz2⟩ := info_parts Try.infoB
  have HT := hide hc.row
  have HG := hide h.gd
  have HF := hide hf
  have hw0 : IntKind.u64.wrap (n : Int) = n := by simp [IntKind.wrap, IntKind.bits, IntKind.signed]; omega
  have HU0 := hide (fun W => ruv_any (n : Int) W (by omega) (by omega))
  have HE0 := hide (enc_le (n : Int).toNat (by omega))
  clear h hc hf
  go_enter Try.func8, Try.ntmps8
  go_wp2_with fail
  refine H1.out.mono ?_
  rintro e w1 ⟨rfl, hb⟩
  have HB := hide hb
  clear hb H1
  go_wp2_with fail
  refine (HU0.out _).mono ?_
  rintro e w2 ⟨u2, rfl, o2, hb⟩
  have HS : Hid (Wr L 0 0 (enc (n : Int).toNat)) := hide ⟨by rw [List.drop_zero, Int.toNat_natCast, ← HT.out.len]; rfl, by rw [List.drop_zero]; exact HG.out⟩
  have ho2 := own_b o2
  generalize enc (n : Int).toNat = T0 at ho2 HS HE0 o2
  obtain ⟨a2, c2, rfl, h02, -⟩ := own_form ho2
  have HO2 := hide ho2
  have H02 := hide h02
  replace HB := hide (Below.on HB.out hb)
  clear hb o2 HU0 ho2 h02
  go_wp2_with (at_builtin; refine append_lay layB _ 23 5 i0 _ 1 Try.underlying23 hi hz0 hz1 hz2 rfl rfl (.tmp 12) (.tmp 16) rfl w.heap.size (.slice none 0 0) [] rfl (Own.nil _ _ _ _) a2 T0.length c2 T0 rfl (HO2.out.row rfl) H02.out ?b1 ?b2 HB.out.size ?_)
  case b1 => unfold maxLen; have := HE0.out; simp; omega
  case b2 => have := HE0.out; simp; omega
  intro v3 W3 o3 g3 l3
  have HO3 : Hid (Own layB 5 W3 w.heap.size v3 T0) := hide (by simpa using o3)
  have HB3 := hide (HB.out.grown g3 HB.out.size (fun q hq => by cases hq))
  clear o3 g3 l3 HO2 H02
  go_wp2
  go_loopw [5, 6, 7] (fun b l i wr => ∃ (k : Nat) (m : Int) (T : List Int), k ≤ n ∧ i = .int .i64 k ∧ l = .int .i64 (m - 1) ∧ 0 ≤ m ∧ m ≤ 65536 ∧ Hid (Own layB 5 wr w.heap.size b T) ∧ Hid (Wr L k m T) ∧ Hid (Below w.heap.size w wr)) (fun _ _ i _ => n - (intOf i).toNat)
  case atStart => exact ⟨0, 0, T0, Nat.zero_le _, rfl, rfl, by omega, by omega, HO3, HS, HB3⟩
  case round =>
    obtain ⟨k, m, T, hk, rfl, rfl, hm0, hm1, HO, HW, HBr⟩ := hrel
    by_cases hlt : k < n
    · have hltI : (k : Int) < n := by omega
      obtain ⟨b1, off, x, rfl, hx, hb, c0, c1⟩ := (HT.out.below HBr.out).some hlt
      obtain ⟨hw1, hx1, hx2, hx3⟩ := HW.out.next hx
      have hx4 := (HF.out x (List.mem_of_getElem? hx)).2.2.2
      have HW1 := hide hw1
      have HTl := hide (HW.out.len HG.out HF.out)
      obtain ⟨xg, xt⟩ := x
      dsimp only at c0 c1 hx1 hx2 hx3 hx4 HW1
      obtain ⟨d, hd⟩ : ∃ d, xg - m = d := ⟨_, rfl⟩
      have hd0 : 0 ≤ d := by omega
      have hd1 : d ≤ 65536 := by omega
      have hsub : xg - (m - 1) - 1 = d := by omega
      have hwd : IntKind.u64.wrap d = d := by simp [IntKind.wrap, IntKind.bits, IntKind.signed]; omega
      have hwt : IntKind.u64.wrap xt = xt := by simp [IntKind.wrap, IntKind.bits, IntKind.signed]; omega
      have HUd := hide (fun W => ruv_any d W (by omega) (by omega))
      have HUt := hide (fun W => ruv_any xt W (by omega) (by omega))
      have HE1 := hide (enc_le d.toNat (by omega))
      have HE2 := hide (enc_le xt.toNat (by omega))
      rw [hd] at HW1
      generalize enc d.toNat = E1 at HUd HE1 HW1
      generalize enc xt.toNat = E2 at HUt HE2 HW1
      have hK : ∀ X, Below wr.heap.size wr X → X.cell? ⟨b1, off + k * 2, none⟩ = some (.int .i64 xg) ∧ X.cell? ⟨b1, off + k * 2 + 1, none⟩ = some (.int .i64 xt) := fun X hX => ⟨(hX.cell (p := ⟨b1, off + k * 2, none⟩) hb).trans c0, (hX.cell (p := ⟨b1, off + k * 2 + 1, none⟩) hb).trans c1⟩
      have HK := hide hK
      have hbB : ∀ X, b1 < w.heap.size ∨ Below wr.heap.size wr X → True := fun _ _ => trivial
      have HTw := hide (HT.out.some hlt)
      clear hx hw1 hK hbB
      obtain ⟨b1', off', x', e1', hx', hb1', _, _⟩ := HTw.out
      cases e1'
      have HKw : Hid (∀ X, Below w.heap.size w X → X.cell? ⟨b1, off + k * 2, none⟩ = some (.int .i64 xg) ∧ X.cell? ⟨b1, off + k * 2 + 1, none⟩ = some (.int .i64 xt)) := hide (fun X hX => by
        have q0 := (HBr.out.cell (p := ⟨b1, off + k * 2, none⟩) hb1').symm.trans c0
        have q1 := (HBr.out.cell (p := ⟨b1, off + k * 2 + 1, none⟩) hb1').symm.trans c1
        exact ⟨(hX.cell (p := ⟨b1, off + k * 2, none⟩) hb1').trans q0, (hX.cell (p := ⟨b1, off + k * 2 + 1, none⟩) hb1').trans q1⟩)
      clear HTw hx' hb1' HK
      go_wp2_with fail
      refine (HUd.out wr).mono ?_
      rintro e W2 ⟨u2, rfl, o2, hb⟩
      have ho2 := own_b o2
      obtain ⟨a2, c2, rfl, h02, -⟩ := own_form ho2
      have HU2 := hide ho2
      have H02 := hide h02
      replace HBr := hide (Below.on HBr.out hb)
      replace HO := hide (HO.out.below hb)
      clear o2 hb HUd c0 c1 ho2 h02
      go_wp2_with (at_builtin; refine append_lay layB _ 23 5 i0 _ 1 Try.underlying23 hi hz0 hz1 hz2 rfl rfl (.tmp 24) (.tmp 34) rfl w.heap.size _ T rfl HO.out a2 E1.length c2 E1 rfl (HU2.out.row rfl) H02.out ?b1 ?b2 HBr.out.size ?_)
      case b1 => unfold maxLen; have := HTl.out; have := HE1.out; omega
      case b2 => have := HTl.out; have := HE1.out; omega
      intro v3 W3 o3 g3 l3
      have HO3' := hide o3
      have HB3' := hide (HBr.out.grown g3 HBr.out.size (fun q hq => (HO.out.lt q hq).1))
      have k1 := (HKw.out W3 HB3'.out).2
      clear o3 g3 l3 HU2 H02
      go_wp2_with fail
      refine (HUt.out W3).mono ?_
      rintro e W4 ⟨u4, rfl, o4, hb⟩
      have ho4 := own_b o4
      obtain ⟨a4, c4, rfl, h04, -⟩ := own_form ho4
      have HU4 := hide ho4
      have H04 := hide h04
      replace HB3' := hide (Below.on HB3'.out hb)
      replace HO3' := hide (HO3'.out.below hb)
      have HTl2 : Hid (((T ++ E1).length : Int) ≤ 2000010) := hide (by rw [List.length_append]; have := HTl.out; have := HE1.out; omega)
      clear o4 hb HUt k1 ho4 h04
      go_wp2_with (at_builtin; refine append_lay layB _ 23 5 i0 _ 1 Try.underlying23 hi hz0 hz1 hz2 rfl rfl (.tmp 36) (.tmp 43) rfl w.heap.size v3 (T ++ E1) rfl HO3'.out a4 E2.length c4 E2 rfl (HU4.out.row rfl) H04.out ?b1 ?b2 HB3'.out.size ?_)
      case b1 => unfold maxLen; have := HTl2.out; have := HE2.out; omega
      case b2 => have := HTl2.out; have := HE2.out; omega
      intro v5 W5 o5 g5 l5
      have HO5 := hide o5
      have HB5 := hide (HB3'.out.grown g5 HB3'.out.size (fun q hq => (HO3'.out.lt q hq).1))
      have k0 := (HKw.out W5 HB5.out).1
      clear o5 g5 l5 HU4 H04
      go_wp2
      exact ⟨⟨k + 1, xg + 1, _, by omega, by go_num, by congr 1; omega, by omega, by omega, HO5, HW1, HB5⟩, by simp [intOf]; omega⟩
    · have hkn : k = n := by omega
      subst hkn
      have hT := HW.out.done (by rw [HT.out.len]; exact Nat.le_refl _)
      have hd : decide ((k : Int) < (k : Int)) = false := by simp
      rw [hT] at HO
      clear hT
      go_wp2
      go_ret2
      exact ⟨_, rfl, HO.out, HBr.out⟩
end Go.Proofs.Ytajkenbcndmjpab
