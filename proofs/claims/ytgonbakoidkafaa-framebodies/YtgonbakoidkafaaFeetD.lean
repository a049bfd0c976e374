/-
  DecodeFoot, the program's and the document's.
-/
import Derived.Test.YtgonbakoidkafaaFeetC
namespace Go.Proofs.Ytgonbakoidkafaa
open Go.RowKit
theorem rd_place : ∀ (l : List Int) (p : Int) (k : Nat) (X : Int), (rd l p k X).2.2 = 0 → p < (rd l p k X).2.1 ∧ (rd l p k X).2.1 ≤ p + l.length
  | [], p, k, X => by simp [rd]
  | c :: r, p, k, X => by
    rw [rd]
    split
    · simp
    · split
      · intro h
        have := rd_place r (p + 1) (k + 1) _ h
        simp only [List.length_cons]; omega
      · split
        · simp
        · intro _; simp only [List.length_cons]; omega
theorem rdAt_place (zs : List Int) (t : Int) (h : (rdAt zs t).2.2 = 0) : t < (rdAt zs t).2.1 ∧ (rdAt zs t).2.1 ≤ zs.length ∧ 0 ≤ t := by
  unfold rdAt at h ⊢
  split at h
  · simp at h
  · rename_i hn
    rw [if_neg hn]
    have := rd_place _ _ _ _ h
    rw [List.length_drop] at this
    omega
/-- What DecodeFoot answers. -/
def footV (zs : List Int) : Value :=
  if (rdAt zs 0).2.2 ≠ 0 then .tuple #[.agg #[.int .i64 0, .int .u32 0], .int .i64 (rdAt zs 0).2.2]
  else if 4294967295 < (rdAt zs 0).1 then .tuple #[.agg #[.int .i64 0, .int .u32 0], .int .i64 32]
  else if (zs.length : Int) < (rdAt zs 0).2.1 + 4 then .tuple #[.agg #[.int .i64 0, .int .u32 0], .int .i64 10]
  else if (rdAt zs 0).2.1 + 4 < (zs.length : Int) then .tuple #[.agg #[.int .i64 0, .int .u32 0], .int .i64 33]
  else .tuple #[.agg #[.int .i64 (rdAt zs 0).1, .int .u32 (val (zs.drop (rdAt zs 0).2.1.toNat))], .int .i64 0]
theorem ret_eq {a b : Value} (h : b = a) : Ending.returned a = .returned b := by rw [h]
set_option maxHeartbeats 800000 in
theorem df_any (a : Option Addr) (n c : Nat) (zs : List Int) (w : World) (hr : Row w a n zs) (hn : (n : Int) ≤ 9223372036854700000) (hcap : n ≤ c) :
    Calls Try.prog 12 #[.slice a n c] w fun e w' => e = .returned (footV zs) ∧ Below w.heap.size w w' := by
  obtain ⟨R, hR⟩ : ∃ R, footV zs = R := ⟨_, rfl⟩
  have HR := hide hR
  rw [hR]
  clear hR
  have hb := rdAt_bd zs 0 hr.u8
  have hp := rdAt_place zs 0
  have rc := fun W (hB : Below w.heap.size w W) => rc_any a n c 0 zs W (hr.below hB) hn
  obtain ⟨q, hq⟩ : ∃ q, rdAt zs 0 = q := ⟨_, rfl⟩
  unfold footV at HR
  rw [hq] at hb hp rc HR
  obtain ⟨x, p, r⟩ := q
  have HQ := hide hq
  clear hq
  simp only [out3] at hb hp rc HR
  have hb1 := hb.1
  have hb2 := hb.2.1
  have hl := hr.len
  have rc1 := rc (w.alloc (.cells #[.int .i64 0, .int .u32 0] 26)) (below_alloc1 _ _)
  clear rc hb
  by_cases h0 : r = 0
  · subst h0
    obtain ⟨hp0, hp1, _⟩ := hp rfl
    by_cases h1 : 4294967295 < x
    · have HR1 : Hid (R = .tuple #[.agg #[.int .i64 0, .int .u32 0], .int .i64 32]) := by have := HR.out; rw [if_neg (by simp), if_pos h1] at this; exact this.symm
      have fm := fm_any (min x 9223372036854775807) (w.alloc (.cells #[.int .i64 0, .int .u32 0] 26))
      rw [show decide (0 ≤ min x 9223372036854775807 ∧ min x 9223372036854775807 ≤ 4294967295) = false from decide_eq_false (by omega)] at fm
      clear HR hr
      go_enter Try.func12, Try.ntmps12
      go_wp2_with fail
      refine rc1.mono ?_
      rintro e w' ⟨rfl, rfl⟩
      clear rc1
      go_wp2_with fail
      refine fm.mono ?_
      rintro e w' ⟨rfl, rfl⟩
      clear fm
      go_wp2
      refine bodyPost_ret (v := .tuple #[.agg #[.int .i64 0, .int .u32 0], .int .i64 32]) (by simp [results, Try.results12, go_sem]) rfl ⟨ret_eq HR1.out, below_alloc1 _ _⟩
    · have hm : min x 9223372036854775807 = x := by omega
      have fm := fm_any x (w.alloc (.cells #[.int .i64 0, .int .u32 0] 26))
      rw [show decide (0 ≤ x ∧ x ≤ 4294967295) = true from decide_eq_true (by omega)] at fm
      rw [hm] at rc1
      clear hm
      by_cases h2 : (n : Int) < p + 4
      · have HR1 : Hid (R = .tuple #[.agg #[.int .i64 0, .int .u32 0], .int .i64 10]) := by have := HR.out; rw [if_neg (by simp), if_neg h1, if_pos (by omega)] at this; exact this.symm
        clear HR hr
        go_enter Try.func12, Try.ntmps12
        go_wp2_with fail
        refine rc1.mono ?_
        rintro e w' ⟨rfl, rfl⟩
        clear rc1
        go_wp2_with fail
        refine fm.mono ?_
        rintro e w' ⟨rfl, rfl⟩
        clear fm
        go_wp2
        refine bodyPost_ret (v := .tuple #[.agg #[.int .i64 0, .int .u32 0], .int .i64 10]) (by simp [results, Try.results12, go_sem]) rfl ⟨ret_eq HR1.out, below_alloc1 _ _⟩
      · by_cases h3 : p + 4 < (n : Int)
        · have HR1 : Hid (R = .tuple #[.agg #[.int .i64 0, .int .u32 0], .int .i64 33]) := by have := HR.out; rw [if_neg (by simp), if_neg h1, if_neg (by omega), if_pos (by omega)] at this; exact this.symm
          clear HR hr
          go_enter Try.func12, Try.ntmps12
          go_wp2_with fail
          refine rc1.mono ?_
          rintro e w' ⟨rfl, rfl⟩
          clear rc1
          go_wp2_with fail
          refine fm.mono ?_
          rintro e w' ⟨rfl, rfl⟩
          clear fm
          go_wp2
          refine bodyPost_ret (v := .tuple #[.agg #[.int .i64 0, .int .u32 0], .int .i64 33]) (by simp [results, Try.results12, go_sem]) rfl ⟨ret_eq HR1.out, below_alloc1 _ _⟩
        · obtain ⟨t, rfl⟩ := Int.eq_ofNat_of_zero_le (show 0 ≤ p by omega)
          have hnt : n = t + 4 := by omega
          subst hnt
          have HR1 : Hid (R = .tuple #[.agg #[.int .i64 x, .int .u32 (val (zs.drop t))], .int .i64 0]) := by have := HR.out; rw [if_neg (by simp), if_neg h1, if_neg (by omega), if_neg (by omega), Int.toNat_natCast] at this; exact this.symm
          obtain ⟨b, off, rfl, hc⟩ := hr.cells.resolve_left (by omega)
          have hct : ¬ c = t := by omega
          have nb := nb_any b (off + t) (c - t) (zs.drop t) (w.alloc (.cells #[.int .i64 0, .int .u32 0] 26)) (by rw [List.length_drop]; omega) (fun z hz => mem_of_u8 hr.u8 z (List.mem_of_mem_drop hz)) (fun i hi => by
            have h1 := hc (t + i) (by omega)
            rw [(below_alloc1 w (.cells #[.int .i64 0, .int .u32 0] 26)).cell (p := ⟨b, off + t + i, none⟩) (World.block_lt_of_cell? w ⟨b, off + (t + i), none⟩ h1), Nat.add_assoc, h1]
            simp)
          clear HR hr hc
          go_enter Try.func12, Try.ntmps12
          go_wp2_with fail
          refine rc1.mono ?_
          rintro e w' ⟨rfl, rfl⟩
          clear rc1
          go_wp2_with fail
          refine fm.mono ?_
          rintro e w' ⟨rfl, rfl⟩
          clear fm
          go_wp2_with fail
          refine nb.mono ?_
          rintro e w' ⟨rfl, rfl⟩
          clear nb
          go_wp2
          refine bodyPost_ret (v := .tuple #[.agg #[.int .i64 x, .int .u32 (val (zs.drop t))], .int .i64 0]) (by simp [results, Try.results12, go_sem]) rfl ⟨ret_eq HR1.out, below_alloc1 _ _⟩
  · have HR1 : Hid (R = .tuple #[.agg #[.int .i64 0, .int .u32 0], .int .i64 r]) := by have := HR.out; rw [if_pos h0] at this; exact this.symm
    have hr0 : (r != 0) = true := by simp [h0]
    clear HR hr hp h0
    go_enter Try.func12, Try.ntmps12
    go_wp2_with fail
    refine rc1.mono ?_
    rintro e w' ⟨rfl, rfl⟩
    clear rc1
    go_wp2
    refine bodyPost_ret (v := .tuple #[.agg #[.int .i64 0, .int .u32 0], .int .i64 r]) (by simp [results, Try.results12, go_sem]) rfl ⟨ret_eq HR1.out, below_alloc1 _ _⟩
set_option maxHeartbeats 800000 in
theorem rdf_any (a : Option Addr) (n c : Nat) (zs : List Int) (w : World) (hr : Row w a n zs) (hn : (n : Int) ≤ 9223372036854700000) :
    Calls Try.prog 13 #[.slice a n c] w fun e w' => e = .returned (footV zs) ∧ Below w.heap.size w w' := by
  obtain ⟨R, hR⟩ : ∃ R, footV zs = R := ⟨_, rfl⟩
  have HR := hide hR
  rw [hR]
  clear hR
  have hb := rdAt_bd zs 0 hr.u8
  have hp := rdAt_place zs 0
  have rc := fun W (hB : Below w.heap.size w W) => rru_any a n c 0 zs W (hr.below hB) hn
  obtain ⟨q, hq⟩ : ∃ q, rdAt zs 0 = q := ⟨_, rfl⟩
  unfold footV at HR
  rw [hq] at hb hp rc HR
  obtain ⟨x, p, r⟩ := q
  have HQ := hide hq
  clear hq
  simp only [out3] at hb hp rc HR
  have hb1 := hb.1
  have hb2 := hb.2.1
  have hl := hr.len
  have rc1 := rc (w.alloc (.cells #[.int .i64 0, .int .u32 0] 26)) (below_alloc1 _ _)
  clear rc hb
  by_cases h0 : r = 0
  · subst h0
    obtain ⟨hp0, hp1, _⟩ := hp rfl
    by_cases h1 : 4294967295 < x
    · have HR1 : Hid (R = .tuple #[.agg #[.int .i64 0, .int .u32 0], .int .i64 32]) := by have := HR.out; rw [if_neg (by simp), if_pos h1] at this; exact this.symm
      clear HR hr
      go_enter Try.func13, Try.ntmps13
      go_wp2_with fail
      refine rc1.mono ?_
      rintro e w' ⟨rfl, rfl⟩
      clear rc1
      go_wp2
      refine bodyPost_ret (v := .tuple #[.agg #[.int .i64 0, .int .u32 0], .int .i64 32]) (by simp [results, Try.results13, go_sem]) rfl ⟨ret_eq HR1.out, below_alloc1 _ _⟩
    · by_cases h2 : (n : Int) < p + 4
      · have HR1 : Hid (R = .tuple #[.agg #[.int .i64 0, .int .u32 0], .int .i64 10]) := by have := HR.out; rw [if_neg (by simp), if_neg h1, if_pos (by omega)] at this; exact this.symm
        clear HR hr
        go_enter Try.func13, Try.ntmps13
        go_wp2_with fail
        refine rc1.mono ?_
        rintro e w' ⟨rfl, rfl⟩
        clear rc1
        go_wp2
        refine bodyPost_ret (v := .tuple #[.agg #[.int .i64 0, .int .u32 0], .int .i64 10]) (by simp [results, Try.results13, go_sem]) rfl ⟨ret_eq HR1.out, below_alloc1 _ _⟩
      · by_cases h3 : p + 4 < (n : Int)
        · have HR1 : Hid (R = .tuple #[.agg #[.int .i64 0, .int .u32 0], .int .i64 33]) := by have := HR.out; rw [if_neg (by simp), if_neg h1, if_neg (by omega), if_pos (by omega)] at this; exact this.symm
          clear HR hr
          go_enter Try.func13, Try.ntmps13
          go_wp2_with fail
          refine rc1.mono ?_
          rintro e w' ⟨rfl, rfl⟩
          clear rc1
          go_wp2
          refine bodyPost_ret (v := .tuple #[.agg #[.int .i64 0, .int .u32 0], .int .i64 33]) (by simp [results, Try.results13, go_sem]) rfl ⟨ret_eq HR1.out, below_alloc1 _ _⟩
        · obtain ⟨t, rfl⟩ := Int.eq_ofNat_of_zero_le (show 0 ≤ p by omega)
          have hnt : n = t + 4 := by omega
          have HR1 : Hid (R = .tuple #[.agg #[.int .i64 x, .int .u32 (val (zs.drop t))], .int .i64 0]) := by have := HR.out; rw [if_neg (by simp), if_neg h1, if_neg (by omega), if_neg (by omega), Int.toNat_natCast] at this; exact this.symm
          obtain ⟨b, off, rfl, hc⟩ := hr.cells.resolve_left (by omega)
          have nb := hg_any b off n c t (zs.drop t) (w.alloc (.cells #[.int .i64 0, .int .u32 0] 26)) (by omega) hn (by rw [List.length_drop]; omega) (fun z hz => mem_of_u8 hr.u8 z (List.mem_of_mem_drop hz)) (fun i hi => by
            have h1 := hc (t + i) (by omega)
            rw [(below_alloc1 w (.cells #[.int .i64 0, .int .u32 0] 26)).cell (p := ⟨b, off + (t + i), none⟩) (World.block_lt_of_cell? w ⟨b, off + (t + i), none⟩ h1), h1]
            simp)
          have hv := val_bd (zs.drop t) (fun z hz => mem_of_u8 hr.u8 z (List.mem_of_mem_drop hz))
          rw [List.length_drop, show zs.length - t = 4 by omega] at hv
          have hv0 := hv.1
          have hv1 : val (zs.drop t) < 4294967296 := hv.2
          clear hv
          generalize val (zs.drop t) = V at nb hv0 hv1 HR1
          have hs4 : (4 : Int) ≤ (n : Int) - (t : Int) := by omega
          have hs5 : (n : Int) - (t : Int) ≤ 4 := by omega
          have NB := hide nb
          clear HR hr hc nb h2 h3 hp hp1 hl hnt
          go_enter Try.func13, Try.ntmps13
          go_wp2_with fail
          refine rc1.mono ?_
          rintro e w' ⟨rfl, rfl⟩
          clear rc1
          go_wp2_with fail
          refine NB.out.mono ?_
          rintro e w' ⟨rfl, rfl⟩
          clear NB
          go_wp2
          refine bodyPost_ret (v := .tuple #[.agg #[.int .i64 x, .int .u32 V], .int .i64 0]) (by simp [results, Try.results13, go_sem]) rfl ⟨ret_eq HR1.out, below_alloc1 _ _⟩
  · have HR1 : Hid (R = .tuple #[.agg #[.int .i64 0, .int .u32 0], .int .i64 r]) := by have := HR.out; rw [if_pos h0] at this; exact this.symm
    have hr0 : (r != 0) = true := by simp [h0]
    clear HR hr hp h0
    go_enter Try.func13, Try.ntmps13
    go_wp2_with fail
    refine rc1.mono ?_
    rintro e w' ⟨rfl, rfl⟩
    clear rc1
    go_wp2
    refine bodyPost_ret (v := .tuple #[.agg #[.int .i64 0, .int .u32 0], .int .i64 r]) (by simp [results, Try.results13, go_sem]) rfl ⟨ret_eq HR1.out, below_alloc1 _ _⟩
end Go.Proofs.Ytgonbakoidkafaa
