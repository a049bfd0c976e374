/-
  The document's Encode.
-/
import Derived.Test.YtamoioebgnmcaaaDoorSRfB
namespace Go.Proofs.YtamoioebgnmcaaaDoor
open Go.RowKit
theorem renc_lim (a : Option Addr) (n c : Nat) (lim : Int) (w : World) (h : ¬ (64 ≤ lim ∧ lim ≤ 1048576)) :
    Calls Tryd.prog 11 #[.slice a n c, .int .i64 lim] w fun e w' => e = .returned (.tuple #[.slice none 0 0, .int .i64 2]) ∧ w' = w := by
  have HL := rlimits_any lim w
  rw [decide_eq_false h] at HL
  clear h
  go_enter Tryd.func11, Tryd.ntmps11
  go_wp2_with fail
  refine HL.mono ?_
  rintro e w1 ⟨rfl, rfl⟩
  go_wp2
  go_ret2
  exact ⟨rfl, rfl⟩
set_option maxHeartbeats 1600000 in
set_option maxRecDepth 8000 in
theorem renc_any (a : Option Addr) (n c : Nat) (L : List Rc) (lim : Int) (w : World) (hr : RRow w a n L) (hok : ∀ r ∈ L, r.ok) (hlim : 64 ≤ lim ∧ lim ≤ 1048576) (hn : (n : Int) ≤ 9223372036854775000) :
    Calls Tryd.prog 11 #[.slice a n c, .int .i64 lim] w fun e w' => Below w.heap.size w w' ∧ (strE 0 L ≠ 0 → e = .returned (.tuple #[.slice none 0 0, .int .i64 (strE 0 L)])) ∧ (strE 0 L = 0 → ∃ ao co vals, e = .returned (.tuple #[.slice ao (cutS lim.toNat [] St.zero L).length co, .int .i64 0]) ∧ Lists w' w.heap.size (.slice ao (cutS lim.toNat [] St.zero L).length co) (cutS lim.toNat [] St.zero L) vals) := by
  have HL := rlimits_any lim w
  rw [decide_eq_true hlim] at HL
  have hl := hr.len
  have HR : Hid _ := hide hr
  have HOK : Hid _ := hide hok
  have HLM : Hid _ := hide hlim
  have HLL : Hid _ := hide hl
  clear hr hok hlim hl
  go_enter Tryd.func11, Tryd.ntmps11
  go_wp2_with fail
  refine HL.mono ?_
  rintro e w1 ⟨rfl, hw1⟩
  rw [hw1]
  clear hw1 w1 HL
  go_wp2_with fail
  go_loopw [7, 8] (fun s7 s8 wr => ∃ (k : Nat) (m : Int), s8 = .int .i64 k ∧ k ≤ n ∧ s7 = .int .i64 (m - 1) ∧ Below w.heap.size w wr ∧ strE 0 L = strE m (L.drop k)) (fun _ s8 _ => n - (intOf s8).toNat)
  case atStart => exact ⟨0, 0, rfl, Nat.zero_le _, rfl, Below.refl _ _, rfl⟩
  case round =>
    obtain ⟨k, m, rfl, hk, rfl, hB, hS⟩ := hrel
    have HB : Hid _ := hide hB
    have HS : Hid _ := hide hS
    have hsz := hB.size
    by_cases hlt : k < n
    · obtain ⟨⟨t, kd, o, ar, q⟩, hrk⟩ : ∃ r, L[k]? = some r := ⟨L[k]'(by have := HLL.out; omega), List.getElem?_eq_getElem _⟩
      obtain ⟨b0, off, ea, hcs⟩ := ((HR.out.below hB).cells).resolve_left (by omega)
      subst ea
      obtain ⟨x0, x1, x2, x3, x4⟩ := hcs k _ hrk
      dsimp only at x0 x1 x2 x3 x4
      have hbl0 := World.block_lt_of_cell? wr _ x0
      have HF := rfault_any (m - 1) t kd o ar q wr (HOK.out _ (List.mem_of_getElem? hrk))
      have HRK : Hid _ := hide hrk
      have hltI : (k : Int) < (n : Int) := by omega
      clear hcs hrk hB hS
      by_cases hE : putE St.zero ⟨t, kd, o, ar, q⟩ = 0
      · by_cases hlow : t < m
        · have hf : flt (m - 1) ⟨t, kd, o, ar, q⟩ = 80 := by unfold flt; rw [if_neg (by omega), if_pos (by dsimp only; omega)]
          rw [hf] at HF
          have HSE : Hid (strE 0 L = 80) := hide (HS.out.trans (strE_low HRK.out hE hlow))
          clear hf hE hlow
          go_wp2_with fail
          refine HF.mono ?_
          rintro e w2 ⟨rfl, hb2⟩
          have HB2 : Hid _ := hide (HB.out.trans (hb2.mono hsz))
          clear hb2 HF
          go_wp2
          go_ret2
          exact ⟨HB2.out, fun _ => by rw [HSE.out]; rfl, fun e => absurd (HSE.out.symm.trans e) (by decide)⟩
        · have hf : flt (m - 1) ⟨t, kd, o, ar, q⟩ = 0 := by unfold flt; rw [if_neg (by omega), if_neg (by dsimp only; omega)]
          rw [hf] at HF
          have HSE : Hid (strE 0 L = strE (t + 1) (L.drop (k + 1))) := hide (HS.out.trans (strE_on HRK.out hE hlow))
          clear hf hE hlow
          go_wp2_with fail
          refine HF.mono ?_
          rintro e w2 ⟨rfl, hb2⟩
          have HB2 : Hid _ := hide (HB.out.trans (hb2.mono hsz))
          have d0 := (hb2.cell (p := ⟨b0, off + k * 5, none⟩) hbl0).trans x0
          clear hb2 HF x0 x1 x2 x3 x4
          go_wp2
          exact ⟨⟨k + 1, t + 1, by go_num, by omega, by congr 1; omega, HB2.out, HSE.out⟩, by simp [intOf]; omega⟩
      · have hf : flt (m - 1) ⟨t, kd, o, ar, q⟩ = putE St.zero ⟨t, kd, o, ar, q⟩ := by unfold flt; rw [if_pos hE]
        rw [hf] at HF
        have HSE : Hid (strE 0 L = putE St.zero ⟨t, kd, o, ar, q⟩) := hide (HS.out.trans (strE_bad HRK.out hE))
        clear hf
        generalize putE St.zero ⟨t, kd, o, ar, q⟩ = E at HF HSE hE
        go_wp2_with fail
        refine HF.mono ?_
        rintro e w2 ⟨rfl, hb2⟩
        have HB2 : Hid _ := hide (HB.out.trans (hb2.mono hsz))
        clear hb2 HF
        go_wp2
        go_ret2
        exact ⟨HB2.out, fun _ => by rw [HSE.out]; rfl, fun e => absurd (HSE.out.symm.trans e) hE⟩
    · have hd : L.drop k = [] := List.drop_eq_nil_of_le (by have := HLL.out; omega)
      have HSE : Hid (strE 0 L = 0) := hide (by rw [HS.out, hd]; rfl)
      have HBD := rbodies_any a n c L lim wr (HR.out.below hB) HOK.out HSE.out HLM.out
      clear hd hS hB
      go_wp2_with fail
      refine HBD.mono ?_
      rintro e w2 ⟨hb2, ao, co, vals, rfl, hls⟩
      have HB2 : Hid _ := hide (HB.out.trans (hb2.mono hsz))
      have HLS : Hid _ := hide (hls.mono hsz)
      clear hb2 hls HBD
      go_wp2
      go_ret2
      exact ⟨HB2.out, fun e => absurd HSE.out e, fun _ => ⟨ao, co, vals, rfl, HLS.out⟩⟩
end Go.Proofs.YtamoioebgnmcaaaDoor
