/-
  StreamDecodes: the walk.
-/
import Derived.Test.YtamoioebgnmcaaaDoorSRD
import Derived.Test.YtamoioebgnmcaaaDoorSLaw
namespace Go.Proofs.YtamoioebgnmcaaaDoor
open Go.RowKit
/-- What Decode answers, whatever the limit. -/
def Dv (lim : Int) (bs : List (List Int)) : List Rc × Int := if 64 ≤ lim ∧ lim ≤ 1048576 then decV lim.toNat bs else ([], 2)
theorem decV_nil {lim : Nat} {bs : List (List Int)} (h : (decV lim bs).2 ≠ 0) : (decV lim bs).1 = [] := by
  unfold decV at h ⊢
  split
  · rfl
  · rename_i h1
    rw [if_neg h1] at h
    split
    · rename_i h2
      rw [if_pos h2] at h
      exact absurd rfl h
    · rfl
theorem rsl_u {w : World} {base : Nat} {v : Value} {L : List Rc} (h : w.ownsRow base 52 5 v L.length (flat L)) : ∃ av cv, v = .slice av L.length cv ∧ RRow w av L.length L := by
  obtain ⟨a, c, e⟩ := own_formR h
  subst e
  exact ⟨a, c, rfl, RRow.of_own h⟩
theorem RRow.none (w : World) : RRow w none 0 [] := ⟨rfl, .inl rfl⟩
theorem Dv_len {lim : Int} {bs : List (List Int)} (hu : ∀ z ∈ bs, ∀ i : Nat, 0 ≤ z[i]?.getD 0 ∧ z[i]?.getD 0 ≤ 255) : ((Dv lim bs).1.length : Int) ≤ 1048576 := by
  unfold Dv
  split
  · by_cases h : (decV lim.toNat bs).2 = 0
    · obtain ⟨hs, _⟩ := decV_inv (L := (decV lim.toNat bs).1) hu (Prod.ext rfl h)
      have := strE_len _ 0 (by decide) (by decide) hs
      omega
    · rw [decV_nil h]; simp
  · simp
theorem dec_u (a : Option Addr) (n c : Nat) (bs : List (List Int)) (lim : Int) (w : World) (hK : Kn w) (hw : 0 < w.heap.size) (hr : LRow w a n bs) (hn : (n : Int) ≤ 9223372036854775000) :
    Calls Tryd.prog 15 #[.slice a n c, .int .i64 lim] w fun e w' => Below w.heap.size w w' ∧ ∃ av cv, e = .returned (.tuple #[.slice av (Dv lim bs).1.length cv, .int .i64 (Dv lim bs).2]) ∧ RRow w' av (Dv lim bs).1.length (Dv lim bs).1 := by
  by_cases hlim : 64 ≤ lim ∧ lim ≤ 1048576
  · have e1 : Dv lim bs = decV lim.toNat bs := by unfold Dv; rw [if_pos hlim]
    rw [e1]
    refine (dec_any a n c bs lim w hK hw hr hlim hn).mono ?_
    rintro e w' ⟨hb, h1, h2⟩
    refine ⟨hb, ?_⟩
    by_cases h : (decV lim.toNat bs).2 = 0
    · obtain ⟨v, rfl, ho⟩ := h2 h
      obtain ⟨av, cv, rfl, hrr⟩ := rsl_u ho
      exact ⟨av, cv, by rw [h], hrr⟩
    · obtain rfl := h1 h
      rw [decV_nil h]
      exact ⟨none, 0, rfl, RRow.none _⟩
  · have e1 : Dv lim bs = ([], 2) := by unfold Dv; rw [if_neg hlim]
    rw [e1]
    refine (dec_lim a n c lim w hlim).mono ?_
    rintro e w' ⟨rfl, rfl⟩
    exact ⟨Below.refl _ _, none, 0, rfl, RRow.none _⟩
theorem rdec_lim (a : Option Addr) (n c : Nat) (lim : Int) (w : World) (h : ¬ (64 ≤ lim ∧ lim ≤ 1048576)) :
    Calls Tryd.prog 16 #[.slice a n c, .int .i64 lim] w fun e w' => e = .returned (.tuple #[.slice none 0 0, .int .i64 2]) ∧ w' = w := by
  have HL := rlimits_any lim w
  rw [decide_eq_false h] at HL
  clear h
  go_enter Tryd.func16, Tryd.ntmps16
  go_wp2_with fail
  refine HL.mono ?_
  rintro e w1 ⟨rfl, hw1⟩
  rw [hw1]
  clear HL hw1 w1
  go_wp2
  go_ret2
  exact ⟨rfl, rfl⟩
theorem rdec_u (a : Option Addr) (n c : Nat) (bs : List (List Int)) (lim : Int) (w : World) (hr : LRow w a n bs) (hn : (n : Int) ≤ 9223372036854775000) :
    Calls Tryd.prog 16 #[.slice a n c, .int .i64 lim] w fun e w' => Below w.heap.size w w' ∧ ∃ av cv, e = .returned (.tuple #[.slice av (Dv lim bs).1.length cv, .int .i64 (Dv lim bs).2]) ∧ RRow w' av (Dv lim bs).1.length (Dv lim bs).1 := by
  by_cases hlim : 64 ≤ lim ∧ lim ≤ 1048576
  · have e1 : Dv lim bs = decV lim.toNat bs := by unfold Dv; rw [if_pos hlim]
    rw [e1]
    refine (rdec_any a n c bs lim w hr hlim hn).mono ?_
    rintro e w' ⟨hb, h1, h2⟩
    refine ⟨hb, ?_⟩
    by_cases h : (decV lim.toNat bs).2 = 0
    · obtain ⟨v, rfl, ho⟩ := h2 h
      obtain ⟨av, cv, rfl, hrr⟩ := rsl_u ho
      exact ⟨av, cv, by rw [h], hrr⟩
    · obtain rfl := h1 h
      rw [decV_nil h]
      exact ⟨none, 0, rfl, RRow.none _⟩
  · have e1 : Dv lim bs = ([], 2) := by unfold Dv; rw [if_neg hlim]
    rw [e1]
    refine (rdec_lim a n c lim w hlim).mono ?_
    rintro e w' ⟨rfl, rfl⟩
    exact ⟨Below.refl _ _, none, 0, rfl, RRow.none _⟩
theorem chunk_len {zs : List Int} (hu : ∀ i : Nat, 0 ≤ zs[i]?.getD 0 ∧ zs[i]?.getD 0 ≤ 255) : ((chunkV zs).1.length : Int) ≤ 1048576 := by
  by_cases h : (chunkV zs).2 = 0
  · obtain ⟨_, _, hs, _, _⟩ := chunk_inv (L := (chunkV zs).1) hu (Prod.ext rfl h)
    have := strE_len _ 0 (by decide) (by decide) hs
    omega
  · rw [(chunk_ne2 hu).2 h]; simp
theorem chunk_u (ad : Option Addr) (n c : Nat) (zs : List Int) (w : World) (hK : Kn w) (hw : 0 < w.heap.size) (hr : Row w ad n zs) (hn : (n : Int) ≤ 9223372036854700000) :
    Calls Tryd.prog 19 #[.slice ad n c] w fun e w' => Below w.heap.size w w' ∧ ∃ av cv, e = .returned (.tuple #[.slice av (chunkV zs).1.length cv, .int .i64 (chunkV zs).2]) ∧ RRow w' av (chunkV zs).1.length (chunkV zs).1 := by
  refine (chunk_any ad n c zs w hK hw hr hn).mono ?_
  rintro e w' ⟨hb, h1, h2⟩
  refine ⟨hb, ?_⟩
  by_cases h : (chunkV zs).2 = 0
  · obtain ⟨v, rfl, ho⟩ := h2 h
    obtain ⟨av, cv, rfl, hrr⟩ := rsl_u ho
    exact ⟨av, cv, by rw [h], hrr⟩
  · obtain rfl := h1 h
    rw [(chunk_ne2 hr.u8).2 h]
    exact ⟨none, 0, rfl, RRow.none _⟩
theorem rchunk_u (ad : Option Addr) (n c : Nat) (zs : List Int) (w : World) (hr : Row w ad n zs) (hn : (n : Int) ≤ 9223372036854700000) :
    Calls Tryd.prog 20 #[.slice ad n c] w fun e w' => Below w.heap.size w w' ∧ ∃ av cv, e = .returned (.tuple #[.slice av (chunkV zs).1.length cv, .int .i64 (chunkV zs).2]) ∧ RRow w' av (chunkV zs).1.length (chunkV zs).1 := by
  refine (rchunk_any ad n c zs w hr hn).mono ?_
  rintro e w' ⟨hb, h1, h2⟩
  refine ⟨hb, ?_⟩
  by_cases h : (chunkV zs).2 = 0
  · obtain ⟨v, rfl, ho⟩ := h2 h
    obtain ⟨av, cv, rfl, hrr⟩ := rsl_u ho
    exact ⟨av, cv, by rw [h], hrr⟩
  · obtain rfl := h1 h
    rw [(chunk_ne2 hr.u8).2 h]
    exact ⟨none, 0, rfl, RRow.none _⟩
set_option maxHeartbeats 3200000 in
set_option maxRecDepth 10000 in
theorem decodes_any (a : Option Addr) (n c : Nat) (bs : List (List Int)) (lim : Int) (w : World) (hK : Kn w) (hw : 0 < w.heap.size) (hr : LRow w a n bs) (hn : (n : Int) * 24 ≤ 140737488351232) (hz : ∀ z ∈ bs, (z.length : Int) ≤ 140737488351232) (hu : ∀ z ∈ bs, ∀ y ∈ z, 0 ≤ y ∧ y ≤ 255)
    (hcap : ∀ i, i < n → ∀ b off ai li ci, a = some ⟨b, off, none⟩ → w.cell? ⟨b, off + i, none⟩ = some (.slice ai li ci) → ai = none → ci = 0) :
    Calls Tryd.prog 4 #[.slice a n c, .int .i64 lim] w fun e w' => e = .returned (.bool true) ∧ Below w.heap.size w w' := by
  have TW := twin_any a n c bs w hr hn hz hu hcap
  have HR : Hid _ := hide hr
  have HL : Hid _ := hide hr.len
  have HZ : Hid _ := hide hz
  have HU : Hid (∀ z ∈ bs, ∀ i : Nat, 0 ≤ z[i]?.getD 0 ∧ z[i]?.getD 0 ≤ 255) := hide (fun z hz => u8_of_mem (hu z hz))
  have HKN : Hid _ := hide hK
  have hnI : (n : Int) ≤ 140737488351232 := by omega
  clear hr hn hz hu hcap hK
  go_enter Tryd.func4, Tryd.ntmps4
  go_wp2_with fail
  refine TW.mono ?_
  rintro e w1 ⟨a1, c1, vals, rfl, hT, hb1⟩
  have HT : Hid _ := hide hT
  have HB1 : Hid _ := hide hb1
  have hs1 := hb1.size
  have HLR : Hid (∀ W, Below w1.heap.size w1 W → LRow W a1 n bs) := hide (fun W hW => by
    have h1 := (HT.out.below hW).lists
    have hT' : Lists W w.heap.size (.slice a1 bs.length c1) bs vals := by rw [HL.out]; exact h1
    have h2 := hT'.lrow (fun z h => by have := HZ.out z h; omega)
    rwa [HL.out] at h2)
  have HRW : Hid (∀ W, Below w1.heap.size w1 W → LRow W a n bs ∧ Kn W ∧ 0 < W.heap.size ∧ Below w.heap.size w W) := hide (fun W hW => by
    have hB : Below w.heap.size w W := HB1.out.trans (hW.mono HB1.out.size)
    exact ⟨HR.out.below hB, HKN.out.below hB hw, Nat.lt_of_lt_of_le hw hB.size, hB⟩)
  have BK : Hid (∀ W, Below w1.heap.size w1 W → Calls Tryd.prog 18 #[.slice a1 n c1, .slice a n c] W fun e w' => e = .returned (.bool true) ∧ Below W.heap.size W w') := hide (fun W hW => (bkept_any a a1 n c c1 w.heap.size bs vals W (HRW.out W hW).1 (HT.out.below hW) hnI HZ.out).mono (by
    rintro e w' ⟨rfl, m, rfl⟩
    exact ⟨rfl, below_drewN (Below.refl _ _) _⟩))
  have hDl := Dv_len (lim := lim) HU.out
  have DE := dec_u a1 n c1 bs lim w1 (HRW.out w1 (Below.refl _ _)).2.1 (HRW.out w1 (Below.refl _ _)).2.2.1 (HLR.out w1 (Below.refl _ _)) (by omega)
  have RD : Hid _ := hide (fun W (hW : Below w1.heap.size w1 W) => rdec_u a n c bs lim W (HRW.out W hW).1 (by omega))
  generalize Dv lim bs = Dd at DE RD hDl
  obtain ⟨Ld, Ed⟩ := Dd
  dsimp only at DE RD hDl
  obtain ⟨NL, hNL⟩ : ∃ NL, NL = Ld.length := ⟨_, rfl⟩
  rw [← hNL] at DE RD hDl
  clear TW hT hb1 hNL
  go_wp2_with fail
  refine DE.mono ?_
  rintro e w2 ⟨hb2, av, cv, rfl, r2⟩
  have HB2 : Hid _ := hide hb2
  have HR2 : Hid _ := hide r2
  have RD2 := RD.out w2 hb2
  clear DE hb2 r2
  go_wp2_with fail
  refine RD2.mono ?_
  rintro e w3 ⟨hb3, bv, dv, rfl, r3⟩
  have RS := rsame_eq av bv NL cv dv Ld w3 (HR2.out.below hb3) r3 (by omega)
  have HB3 : Hid (Below w1.heap.size w1 w3) := hide (HB2.out.trans (hb3.mono HB2.out.size))
  have q1 : (Ed != Ed) = false := by simp
  clear RD2 hb3 r3 RD
  go_wp2_with fail
  refine RS.mono ?_
  rintro e w4 ⟨rfl, m4, hw4⟩
  have hb4 : Below w1.heap.size w1 w4 := by rw [hw4]; exact below_drewN HB3.out _
  have BK4 := BK.out w4 hb4
  have HB4 : Hid _ := hide hb4
  clear RS hw4 hb4
  go_wp2_with fail
  refine BK4.mono ?_
  rintro e w5 ⟨rfl, hb5⟩
  have HB5 : Hid (Below w1.heap.size w1 w5) := hide (HB4.out.trans (hb5.mono HB4.out.size))
  clear BK4 hb5 q1 HB4
  go_wp2_with fail
  go_loopw [10] (fun iv wr => ∃ k : Nat, iv = .int .i64 (k : Int) ∧ k ≤ n ∧ Hid (Below w1.heap.size w1 wr)) (fun iv _ => n - (intOf iv).toNat)
  case atStart => exact ⟨0, rfl, Nat.zero_le _, HB5⟩
  case round =>
    obtain ⟨k, rfl, hk, HBk⟩ := hrel
    rename World => wr
    by_cases hlt : k < n
    · have hltI : (k : Int) < (n : Int) := by omega
      obtain ⟨b1, o1, z, ai, ci, hza, hzz, z1, zrow, -, -, zl⟩ := (HLR.out wr HBk.out).at hlt
      obtain ⟨b2, o2, z2, bi, di, hya, hyy, y1, yrow, -, -, -⟩ := (HRW.out wr HBk.out).1.at hlt
      have e9 : z2 = z := by rw [hzz] at hyy; exact (Option.some.inj hyy).symm
      subst e9
      subst hza; subst hya
      have hCl := chunk_len zrow.u8
      have CH := chunk_u ai z2.length ci z2 wr (HRW.out wr HBk.out).2.1 (HRW.out wr HBk.out).2.2.1 zrow (by omega)
      have RC : Hid _ := hide (fun W (hW : Below wr.heap.size wr W) => rchunk_u bi z2.length di z2 W (yrow.below hW) (by omega))
      have HY1 : Hid (∀ W, Below wr.heap.size wr W → W.cell? ⟨b2, o2 + k, none⟩ = some (.slice bi z2.length di)) := hide (fun W hW => (hW.cell (p := ⟨b2, o2 + k, none⟩) (World.block_lt_of_cell? wr _ y1)).trans y1)
      generalize chunkV z2 = Cc at CH RC hCl
      obtain ⟨Lc, Ec⟩ := Cc
      dsimp only at CH RC hCl
      obtain ⟨NC, hNC⟩ : ∃ NC, NC = Lc.length := ⟨_, rfl⟩
      rw [← hNC] at CH RC hCl
      clear hzz hyy zrow yrow zl hNC y1
      go_wp2_with fail
      refine CH.mono ?_
      rintro e w6 ⟨hb6, av6, cv6, rfl, r6⟩
      have y6 := HY1.out w6 hb6
      have RC6 := RC.out w6 hb6
      have HB6 : Hid _ := hide hb6
      have HR6 : Hid _ := hide r6
      clear CH hb6 r6 z1
      go_wp2_with fail
      refine RC6.mono ?_
      rintro e w7 ⟨hb7, bv7, dv7, rfl, r7⟩
      have RS := rsame_eq av6 bv7 NC cv6 dv7 Lc w7 (HR6.out.below hb7) r7 (by omega)
      have HB7 : Hid (Below w1.heap.size w1 w7) := hide ((HBk.out.trans (HB6.out.mono HBk.out.size)).trans (hb7.mono (Nat.le_trans HBk.out.size HB6.out.size)))
      have q1 : (Ec != Ec) = false := by simp
      clear RC6 hb7 r7 y6 RC
      go_wp2_with fail
      refine RS.mono ?_
      rintro e w8 ⟨rfl, m8, hw8⟩
      have hb8 : Below w1.heap.size w1 w8 := by rw [hw8]; exact below_drewN HB7.out _
      have BK8 := BK.out w8 hb8
      have HB8 : Hid _ := hide hb8
      clear RS hw8 hb8
      go_wp2_with fail
      refine BK8.mono ?_
      rintro e w9 ⟨rfl, hb9⟩
      have HB9 : Hid (Below w1.heap.size w1 w9) := hide (HB8.out.trans (hb9.mono HB8.out.size))
      clear BK8 hb9
      go_wp2
      exact ⟨⟨k + 1, by go_num, by omega, HB9⟩, by simp [intOf]; omega⟩
    · have hltI : ¬ (k : Int) < (n : Int) := by omega
      go_wp2
      go_ret
      exact ⟨rfl, (HRW.out wr HBk.out).2.2.2⟩
end Go.Proofs.YtamoioebgnmcaaaDoor
