/-
  One step of a play: Encode.
-/
import Derived.Test.YtjpccaeojimlfaaPlyE
import Derived.Test.YtjpccaeojimlfaaSl
import Derived.BigRegion
namespace Go.Proofs.Ytjpccaeojimlfaa
open Go.RowKit Go.Maps Go.Shelf
attribute [local go_sem] Oper.semAt_some
/-- Lists whose bytes are written over. -/
structure Ovb (w3 wr : World) (base : Nat) (v : Value) (bs : List (List Int)) (vals : List Value) : Prop where
  ls : ∃ cs, Lists wr base v cs vals ∧ cs.map List.length = bs.map List.length
  but : But (fun g => ∃ x ∈ vals, x.ownBlock = some g) w3 wr
theorem Ovb.start {w : World} {base : Nat} {v : Value} {bs : List (List Int)} {vals : List Value} (h : Lists w base v bs vals) : Ovb w w base v bs vals := ⟨⟨bs, h, rfl⟩, But.refl _ _⟩
theorem Ovb.row {w3 wr : World} {base : Nat} {a : Option Addr} {n c : Nat} {bs : List (List Int)} {vals : List Value} (h : Ovb w3 wr base (.slice a n c) bs vals) {i : Nat} {b : List Int} (hi : bs[i]? = some b) :
    ∃ g ab cb, a = some ⟨g, 0, none⟩ ∧ b.length ≤ cb ∧ vals[i]? = some (.slice ab b.length cb) ∧ wr.cell? ⟨g, i, none⟩ = some (.slice ab b.length cb) := by
  obtain ⟨cs, hl, he⟩ := h.ls
  have hlen : cs.length = bs.length := by have := congrArg List.length he; simpa using this
  have hib := (List.getElem?_eq_some_iff.1 hi).1
  have hci : cs[i]? = some cs[i] := by simp
  have hlb : cs[i].length = b.length := by
    have e1 : (cs.map List.length)[i]? = (bs.map List.length)[i]? := by rw [he]
    rw [List.getElem?_map, List.getElem?_map, hci, hi] at e1
    simpa using e1
  obtain ⟨ab, cb, h1, h2⟩ := hl.each i _ hci
  rcases hl.own.2 with ⟨_, e⟩ | ⟨g, cap, cur, e, _⟩
  · omega
  · cases e
    have := hl.own.cells (g := g) rfl i _ h1
    have ha : (⟨g, 0, none⟩ : Addr).add i = ⟨g, i, none⟩ := by unfold Addr.add; split <;> simp_all
    rw [ha] at this
    rw [hlb] at h1 h2 this
    refine ⟨g, ab, cb, rfl, ?_, h1, this⟩
    rcases h2.2 with ⟨e, e0⟩ | ⟨g', cap, cur, e, _, _, h3, _⟩
    · omega
    · cases e; omega
theorem Ovb.at {w3 wr : World} {base : Nat} {v : Value} {bs : List (List Int)} {vals : List Value} (h : Ovb w3 wr base v bs vals) {i : Nat} {b : List Int} (hi : bs[i]? = some b) {ab : Option Addr} {cb : Nat} (hv : vals[i]? = some (.slice ab b.length cb)) {j : Nat} (hj : j < b.length) :
    ∃ g2 z, ab = some ⟨g2, 0, none⟩ ∧ 0 ≤ z ∧ z ≤ 255 ∧ wr.cell? ⟨g2, j, none⟩ = some (.int .u8 z) ∧ wr.frozen? ⟨g2, j, none⟩ = false ∧ ∀ y, 0 ≤ y ∧ y ≤ 255 → Ovb w3 (wr.setCell ⟨g2, j, none⟩ (.int .u8 y)) base v bs vals := by
  obtain ⟨cs, hl, he⟩ := h.ls
  have hlen : cs.length = bs.length := by have := congrArg List.length he; simpa using this
  have hib := (List.getElem?_eq_some_iff.1 hi).1
  have hci : cs[i]? = some cs[i] := by simp
  have hlb : cs[i].length = b.length := by
    have e1 : (cs.map List.length)[i]? = (bs.map List.length)[i]? := by rw [he]
    rw [List.getElem?_map, List.getElem?_map, hci, hi] at e1
    simpa using e1
  obtain ⟨ab', cb', h1, h2⟩ := hl.each i _ hci
  rw [hv, hlb] at h1
  cases h1
  obtain ⟨g2, rfl⟩ : ∃ g2, ab = some ⟨g2, 0, none⟩ := own_some h2 (by omega)
  have hz := hl.u8 _ (List.mem_of_getElem? hci) (cs[i][j]'(by omega)) (List.getElem_mem _)
  refine ⟨g2, cs[i][j]'(by omega), rfl, hz.1, hz.2, ?_, h2.frozenAt j, fun y hy => ⟨⟨_, hl.store (k := j) hci (by rw [hlb]; exact hv) y hy, ?_⟩, h.but.setCell ⟨g2, j, none⟩ (fun _ => ⟨_, List.mem_of_getElem? hv, rfl⟩) _⟩⟩
  · rw [h2.cellAt j (by omega)]
    simp [hlb, hj]
  · rw [List.map_set, List.length_set, ← he]
    apply List.ext_getElem?
    intro q
    by_cases e : i = q
    · subst e
      rw [List.getElem?_set_self (by simp; omega), List.getElem?_map, hci]; rfl
    · rw [List.getElem?_set_ne e]
theorem Ovb.drew {w3 wr : World} {base : Nat} {v : Value} {bs : List (List Int)} {vals : List Value} (h : Ovb w3 wr base v bs vals) : Ovb w3 wr.drew base v bs vals := by
  obtain ⟨cs, hl, he⟩ := h.ls
  exact ⟨⟨cs, hl.below ((Below.refl _ wr).drew), he⟩, h.but.drew⟩
theorem sub255 {z : Int} (h0 : 0 ≤ z) (h1 : z ≤ 255) : IntKind.u8.wrap (255 - z) = 255 - z := by rw [IntKind.wrap_u8]; omega
section
variable {w0 w : World} {pb tb ub FB GB : Nat} {f g : Nat → Nat} {Z : Nat → Nat → Prop} {L : List ByteArray} {N : Nat → List Nd} {P : Nat → List Stk}
set_option maxHeartbeats 1000000 in
set_option maxRecDepth 4000 in
theorem step_encode (h : Ply w0 w pb tb ub FB GB f g Z L L N N P) (wh : Int) (sa : Option Addr) (sn sc : Nat) (s : ByteArray) (n : Int) :
    Calls Try.prog 43 #[.pointer (some ⟨pb, 0, none⟩), .agg #[.int .i64 5, .int .i64 wh, .slice sa sn sc, .string s, .int .i64 n]] w (StepR w0 pb) := by
  obtain ⟨i, hi, hwho⟩ := who_all wh
  have hX := boxed5 w 5 wh sa sn sc s n
  obtain ⟨W0, hW0⟩ : ∃ W0, W0 = w.alloc (opO 5 wh sa sn sc s n) := ⟨_, rfl⟩
  rw [← hW0] at hX
  unfold opO at hW0
  have h0 := h.below hX.bel
  obtain ⟨p0, p1, p2, p3⟩ := h0.cells
  obtain ⟨kF, kG⟩ := h0.forest i hi
  obtain ⟨x, hx⟩ : ∃ x, x = fPtr f i := ⟨_, rfl⟩
  obtain ⟨y, hy⟩ : ∃ y, y = fPtr g i := ⟨_, rfl⟩
  have b0 := hX.c0
  have b1 := hX.c1
  have b4 := hX.c4
  have H0 : Hid _ := hide h0
  have hi' : (i : Int) < 3 := by omega
  have HQ1 : Hid _ := hide (encode_x h0 i n)
  have HQ2 : Hid (∀ W : World, Below W0.heap.size W0 W → _) := hide (fun W hW => rencode_x (h0.below hW) i n)
  rw [← hx] at kF HQ1
  simp only [← hy] at kG HQ2
  have hOK := eAns_ok h0 i n
  obtain ⟨A, er, hA⟩ : ∃ A er, eAns N i n = (A, er) := ⟨_, _, rfl⟩
  rw [hA] at HQ1 HQ2 hOK
  dsimp only at HQ1 HQ2 hOK
  have HOK : Hid (∀ z ∈ A, (z.length : Int) ≤ 140737488355328) := hOK.2
  have hAI : (A.length : Int) ≤ 262144 := by have := hOK.1; omega
  have HW0 : Hid _ := hide hW0
  rw [hW0] at HQ1 kF kG b0 b1 b4 p2 p3
  clear hx hy h hX h0 p0 p1 hA hOK hW0
  go_enter Try.func43, Try.ntmps43
  rcases hwho with ⟨d0, rfl⟩ | ⟨d0, d2, rfl⟩ | ⟨rfl, hi3⟩
  all_goals
    go_wp2_with fail
    rw [← HW0.out] at HQ1 ⊢
    refine HQ1.out.mono ?_
    rintro e w1 ⟨a1, c1, vals, rfl, hl1, hb1⟩
    have HB1 : Hid (Below W0.heap.size W0 w1) := hb1
    have HL1 : Hid _ := hide hl1
    have HQ3 : Hid _ := hide (HQ2.out w1 hb1)
    rw [← HW0.out] at b4
    have m4 : w1.cell? ⟨w.heap.size, 4, none⟩ = some (.int .i64 n) := cell_below b4 hb1
    clear hl1 hb1 HQ2 HQ1 b0 b1 b4 kF kG p2 p3
    go_wp2_with fail
    refine HQ3.out.mono ?_
    rintro e w2 ⟨a2, c2, vals2, rfl, hl2, hb2⟩
    have HB2 : Hid (Below W0.heap.size W0 w2) := hide (HB1.out.trans (hb2.mono HB1.out.size))
    have HL2 : Hid _ := hide (HL1.out.below hb2)
    have HQ4 : Hid _ := hide (sl_any a1 a2 A.length c1 A.length c2 A A w2 (HL2.out.lrow HOK.out) (hl2.lrow HOK.out) (by omega))
    rw [decide_eq_true (show A = A from rfl)] at HQ4
    clear hl2 hb2 HQ3 m4
    go_wp2_with fail
    refine HQ4.out.mono ?_
    rintro e w3 ⟨rfl, m3, hw3⟩
    have HB3 : Hid (Below W0.heap.size W0 w3) := hide (by rw [hw3]; exact below_drewN HB2.out m3)
    have HV3 : Hid (Ovb w3 w3 W0.heap.size (.slice a1 A.length c1) A vals) := hide (Ovb.start (by rw [hw3]; exact HL2.out.below (below_drewN (Below.refl _ _) m3)))
    have HLT : Hid (∀ g, (∃ x ∈ vals, x.ownBlock = some g) → W0.heap.size ≤ g) := hide (fun g ⟨x, hx, hg⟩ => (HL2.out.blocks x hx g hg).1)
    clear hw3 HQ4 HL2 HL1
    go_wp2
    go_loopw [32] (fun q wr => ∃ k : Nat, k ≤ A.length ∧ q = .int .i64 k ∧ Ovb w3 wr W0.heap.size (.slice a1 A.length c1) A vals) (fun q _ => A.length - (intOf q).toNat)
    case atStart => exact ⟨0, Nat.zero_le _, rfl, HV3.out⟩
    case round =>
      obtain ⟨k, hk, rfl, hO⟩ := hrel
      have HO : Hid _ := hide hO
      by_cases hlt : k < A.length
      · have HZk : Hid (A[k]? = some (A.getD k [])) := hide (by rw [List.getD_eq_getElem?_getD]; simp [hlt])
        have hzl : ((A.getD k []).length : Int) ≤ 140737488355328 := by have := HOK.out _ (List.mem_of_getElem? HZk.out); omega
        have hltI : (k : Int) < A.length := by omega
        generalize A.getD k [] = z at HZk hzl
        clear hO
        go_wp2
        go_loopw [33] (fun q wr' => ∃ j : Nat, j ≤ z.length ∧ q = .int .i64 j ∧ Ovb w3 wr' W0.heap.size (.slice a1 A.length c1) A vals) (fun q _ => z.length - (intOf q).toNat)
        case atStart => exact ⟨0, Nat.zero_le _, rfl, HO.out⟩
        case round =>
          clear HO
          obtain ⟨j, hj, rfl, hO⟩ := hrel
          have HO : Hid _ := hide hO
          obtain ⟨gg, ab, cb, rfl, hcb, hv, hc⟩ := hO.row HZk.out
          by_cases hlj : j < z.length
          · obtain ⟨g2, zz, rfl, hz0, hz1, hcz, hfz, hu⟩ := hO.at HZk.out hv hlj
            have HU : Hid _ := hide (hu (255 - zz) (by omega))
            have hljI : (j : Int) < z.length := by omega
            have hw := sub255 hz0 hz1
            clear hO hu hv
            go_wp2
            go_region
            go_wp2
            exact ⟨⟨j + 1, by omega, by go_num, HU.out.drew⟩, by simp [intOf]; omega⟩
          · have hljI : ¬ (j : Int) < z.length := by omega
            clear hO hv
            go_wp2
            exact ⟨⟨k + 1, by omega, by go_num, HO.out⟩, by simp [intOf]; omega⟩
      · have hltI : ¬ (k : Int) < A.length := by omega
        clear hO
        go_wp2
        go_ret
        have hG : Ply w0 wr pb tb ub FB GB f g Z L L N N P := H0.out.since HB3.out HO.out.but HLT.out
        exact ⟨rfl, _, _, _, _, _, _, _, _, _, _, hG⟩
end
end Go.Proofs.Ytjpccaeojimlfaa
