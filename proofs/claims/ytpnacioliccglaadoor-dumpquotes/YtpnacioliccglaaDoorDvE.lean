/-
  strconv.UnquoteChar: three digits to the base 8.
-/
import Derived.Test.YtpnacioliccglaaDoorDvD
namespace Go.Proofs.YtpnacioliccglaaDoor
open Go.RowKit Go.Maps Go.Shelf
set_option linter.unusedVariables false
set_option maxRecDepth 8000 in
set_option maxHeartbeats 4000000 in
theorem uc_oct (z : ByteArray) (q : Nat) (E : Value) (w : World) (hE : w.cell? ⟨3, 0, none⟩ = some E) (hs : z.size ≤ 1073741824) (h1 : 1 < z.size) (hq : q = 34 ∨ q = 39) (hb : bA z 0 = 92) (hb1 : 48 ≤ bA z 1 ∧ bA z 1 ≤ 55) :
    Calls Tryd.prog 97 #[.string z, .int .u8 (q : Int)] w fun e w' => UcX z E e ∧ Below w.heap.size w w' := by
  have h00 : 1 < z.size := h1
  have hI : ¬ ((z.size : Nat) : Int) = 0 := by omega
  have hI2 : ¬ ((z.size : Nat) : Int) ≤ 1 := by omega
  have hI3 : (2 : Int) ≤ ((z.size : Nat) : Int) := by omega
  have h01 : 0 < z.size := by omega
  have hb0 : ((z[0].toNat : Nat) : Int) = 92 := (bA_int h01).trans (by rw [hb]; rfl)
  obtain ⟨m, hm⟩ : ∃ m, z.size - 2 = m := ⟨_, rfl⟩
  have HS : Hid (∀ k, ((z.extract 2 z.size).extract k m).size < z.size) := hide (fun k => by simp; omega)
  have HX : Hid (bA z 1 ≠ 120) := hide (by omega)
  have hc : bA z 1 = 48 ∨ bA z 1 = 49 ∨ bA z 1 = 50 ∨ bA z 1 = 51 ∨ bA z 1 = 52 ∨ bA z 1 = 53 ∨ bA z 1 = 54 ∨ bA z 1 = 55 := by omega
  have HB1 := hide (bA_int h1)
  clear hb hb1
  rcases hq with rfl | rfl
  all_goals
    rcases hc with e1 | e1 | e1 | e1 | e1 | e1 | e1 | e1
    all_goals
      have hb2 := HB1.out
      rw [e1] at hb2
      clear e1
      by_cases hlen : m < 2
      · have hlI : ((z.size - 2 : Nat) : Int) < 2 := by omega
        go_enter Tryd.func97, Tryd.ntmps97
        go_wp2
        (try simp only [Exit.inBlock, Exit.then])
        refine bodyPost_ret (uc_tmp4 rfl _ _ _) rfl ?_
        exact ⟨ucX_err (fun h4 h1 => absurd h1 HX.out), Below.refl _ _⟩
      · have hlI : ¬ ((z.size - 2 : Nat) : Int) < 2 := by omega
        go_enter Tryd.func97, Tryd.ntmps97
        go_wp2
        go_loopw [17, 18, 7] (fun v j er wr => ∃ (i : Nat) (V : Int), er = .nilIface ∧ i ≤ 2 ∧ j = .int .i64 i ∧ v = .int .i32 V ∧ -2147483648 ≤ V ∧ V ≤ 2147483647 ∧ wr = w) (fun _ j _ _ => 2 - (intOf j).toNat)
        case atStart => exact ⟨0, _, rfl, Nat.zero_le _, rfl, rfl, by omega, by omega, rfl⟩
        case round =>
          obtain ⟨i, V, rfl, hi, rfl, rfl, hV0, hV1, hw⟩ := hrel
          subst hw
          by_cases hlt : i < 2
          · have hjI : (i : Int) < 2 := by omega
            have hi3 : i < (z.extract 2 z.size).size := by simp; omega
            have hi4 : i < z.size - 2 := by omega
            obtain ⟨b, hb9⟩ : ∃ b : Nat, (z.extract 2 z.size)[i].toNat = b := ⟨_, rfl⟩
            have hb256 : b < 256 := by rw [← hb9]; exact UInt8.toNat_lt _
            have hbx : (((z.extract 2 z.size)[i].toNat : Nat) : Int) = (b : Int) := by rw [hb9]
            clear hb9
            by_cases hlo : b < 48
            · have k1 : (b : Int) - 48 < 0 := by omega
              go_wp2
              (try simp only [Exit.inBlock, Exit.then])
              refine bodyPost_ret (uc_tmp4 rfl _ _ _) rfl ?_
              exact ⟨ucX_err (fun h4 h1 => absurd h1 HX.out), Below.refl _ _⟩
            by_cases hhi : 55 < b
            · have k1 : ¬ (b : Int) - 48 < 0 := by omega
              have k2 : 7 < (b : Int) - 48 := by omega
              go_wp2
              (try simp only [Exit.inBlock, Exit.then])
              refine bodyPost_ret (uc_tmp4 rfl _ _ _) rfl ?_
              exact ⟨ucX_err (fun h4 h1 => absurd h1 HX.out), Below.refl _ _⟩
            · have k1 : ¬ (b : Int) - 48 < 0 := by omega
              have k2 : ¬ 7 < (b : Int) - 48 := by omega
              go_wp2
              exact ⟨⟨i + 1, _, rfl, by omega, by go_num, rfl, (or_rng _ _).1, (or_rng _ _).2, trivial⟩, by simp [intOf]; omega⟩
          · have hi9 : i = 2 := by omega
            have hjI : ¬ (i : Int) < 2 := by omega
            subst hi9
            by_cases hv : 255 < V
            · go_wp2
              (try simp only [Exit.inBlock, Exit.then])
              refine bodyPost_ret (uc_tmp4 rfl _ _ _) rfl ?_
              exact ⟨ucX_err (fun h4 h1 => absurd h1 HX.out), Below.refl _ _⟩
            · go_wp2
              (try simp only [Exit.inBlock, Exit.then])
              refine bodyPost_ret (uc_tmp4 rfl _ _ _) rfl ?_
              exact ⟨⟨.inr ⟨V, false, _, rfl, hV0, hV1, HS.out _⟩, fun x y h4 h1 => absurd h1 HX.out⟩, Below.refl _ _⟩
end Go.Proofs.YtpnacioliccglaaDoor
