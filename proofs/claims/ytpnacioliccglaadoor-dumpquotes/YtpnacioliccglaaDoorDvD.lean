/-
  strconv.UnquoteChar: its ways with loops.
-/
import Derived.Test.YtpnacioliccglaaDoorDvC
namespace Go.Proofs.YtpnacioliccglaaDoor
open Go.RowKit Go.Maps Go.Shelf
set_option linter.unusedVariables false
/-- An answer that is no fault: a rune, what is left, which is shorter. -/
def ucA (z : ByteArray) (e : Ending) : Prop := ∃ (r : Int) (mb : Bool) (tl : ByteArray), e = .returned (.tuple #[.int .i32 r, .bool mb, .string tl, .nilIface]) ∧ -2147483648 ≤ r ∧ r ≤ 2147483647 ∧ tl.size < z.size
theorem wrap_rng (N : Int) : -2147483648 ≤ IntKind.i32.wrap N ∧ IntKind.i32.wrap N ≤ 2147483647 := by
  simp only [IntKind.wrap, IntKind.bits, IntKind.signed]
  simp
  split <;> omega
theorem or4f : ∀ x y : Fin 16, bits .or .i32 (wrap32 (((x.val : Nat) : Int) * 16)) ((y.val : Nat) : Int) = ((16 * x.val + y.val : Nat) : Int) := by decide +kernel
theorem or4 {x y : Nat} (hx : x < 16) (hy : y < 16) : bits .or .i32 (wrap32 ((x : Int) * 16)) (y : Int) = 16 * (x : Int) + (y : Int) := by
  have := or4f ⟨x, hx⟩ ⟨y, hy⟩
  push_cast at this
  exact this
theorem or4z {y : Nat} (hy : y < 16) : bits .or .i32 (wrap32 ((0 : Int) * 16)) (y : Int) = (y : Int) := by
  have := or4 (x := 0) (by decide) hy
  simpa using this
theorem hexV_lt {b x : Nat} (h : hexV b = some x) : x < 16 := by
  unfold hexV at h
  split at h
  · cases h; omega
  split at h
  · cases h; omega
  split at h
  · cases h; omega
  · cases h
theorem or_rng (x y : Int) : -2147483648 ≤ bits .or .i32 x y ∧ bits .or .i32 x y ≤ 2147483647 := wrap_rng _
/-- What a digit's escape answers; its two digits tell the byte. -/
def UcX (z : ByteArray) (E : Value) (e : Ending) : Prop := (e = .returned (ucE E) ∨ ucA z e) ∧ (∀ x y : Nat, z.size ≥ 4 → bA z 1 = 120 → hexV (bA z 2) = some x → hexV (bA z 3) = some y → e = .returned (.tuple #[.int .i32 ((16 * x + y : Nat) : Int), .bool false, .string (frm (frm z 2) 2), .nilIface]))
theorem ucX_err {z : ByteArray} {E : Value} (h : z.size ≥ 4 → bA z 1 = 120 → hexV (bA z 2) = none ∨ hexV (bA z 3) = none) : UcX z E (.returned (.tuple #[.int .i32 0, .bool false, .string ⟨#[]⟩, E])) :=
  ⟨.inl rfl, fun x y h4 h1 hx hy => by rcases h h4 h1 with e | e; · rw [e] at hx; cases hx
                                       rw [e] at hy; cases hy⟩
set_option maxRecDepth 8000 in
set_option maxHeartbeats 4000000 in
theorem uc_hex2 (z : ByteArray) (q : Nat) (E : Value) (w : World) (hE : w.cell? ⟨3, 0, none⟩ = some E) (hs : z.size ≤ 1073741824) (h1 : 1 < z.size) (hq : q = 34 ∨ q = 39) (hb : bA z 0 = 92) (hb1 : bA z 1 = 120) :
    Calls Tryd.prog 97 #[.string z, .int .u8 (q : Int)] w fun e w' => UcX z E e ∧ w' = w := by
  have h00 : 1 < z.size := h1
  have hI : ¬ ((z.size : Nat) : Int) = 0 := by omega
  have hI2 : ¬ ((z.size : Nat) : Int) ≤ 1 := by omega
  have hI3 : (2 : Int) ≤ ((z.size : Nat) : Int) := by omega
  have h01 : 0 < z.size := by omega
  have hb0 : ((z[0].toNat : Nat) : Int) = 92 := (bA_int h01).trans (by rw [hb]; rfl)
  have hb2 : ((z[1].toNat : Nat) : Int) = 120 := (bA_int h1).trans (by rw [hb1]; rfl)
  obtain ⟨m, hm⟩ : ∃ m, z.size - 2 = m := ⟨_, rfl⟩
  have HF : Hid (frm (frm z 2) 2 = (z.extract 2 z.size).extract 2 m) := hide (by unfold frm; rw [show (z.extract 2 z.size).size = m by simp; omega])
  have HS : Hid (∀ k, ((z.extract 2 z.size).extract k m).size < z.size) := hide (fun k => by simp; omega)
  have HB := hide hb
  have HB1 := hide hb1
  clear hb hb1
  by_cases hlen : m < 2
  · have hlI : ((z.size - 2 : Nat) : Int) < 2 := by omega
    rcases hq with rfl | rfl
    all_goals
      go_enter Tryd.func97, Tryd.ntmps97
      go_wp2
      (try simp only [Exit.inBlock, Exit.then])
      refine bodyPost_ret (uc_tmp4 rfl _ _ _) rfl ?_
      exact ⟨ucX_err (fun h4 h1 => by have := HB1.out; omega), rfl⟩
  · have hlI : ¬ ((z.size - 2 : Nat) : Int) < 2 := by omega
    rcases hq with rfl | rfl
    all_goals
      go_enter Tryd.func97, Tryd.ntmps97
      go_wp2
      go_loopw [13, 14, 7] (fun v j er wr => ∃ (i : Nat) (V : Int), er = .nilIface ∧ i ≤ 2 ∧ j = .int .i64 i ∧ v = .int .i32 V ∧ -2147483648 ≤ V ∧ V ≤ 2147483647 ∧ wr = w ∧ Hid ((i = 1 → ∀ x : Nat, hexV (bA z 2) = some x → V = x) ∧ (i = 2 → ∀ x y : Nat, hexV (bA z 2) = some x → hexV (bA z 3) = some y → V = 16 * x + y) ∧ (i = 0 → V = 0))) (fun _ j _ _ => 2 - (intOf j).toNat)
      case atStart => exact ⟨0, 0, rfl, Nat.zero_le _, rfl, rfl, by omega, by omega, rfl, hide ⟨fun h => by omega, fun h => by omega, fun _ => rfl⟩⟩
      case round =>
        obtain ⟨i, V, rfl, hi, rfl, rfl, hV0, hV1, hw, HX⟩ := hrel
        subst hw
        by_cases hlt : i < 2
        · have hjI : (i : Int) < 2 := by omega
          have hi2 : 2 + i < z.size := by omega
          have hi3 : i < z.size - 2 := by omega
          go_wp2_with fail
          refine (scUnhex_any _ (UInt8.toNat_lt _) _).mono ?_
          rintro e w2 ⟨x, rfl, hx16, hxx, hw2⟩
          subst hw2
          generalize hX : hexV _ = H at hxx ⊢
          have hh : hexV (bA z (2 + i)) = H := by rw [← hX, bA_get hi2]; first | rfl | simp [ByteArray.getElem_extract]
          clear hX
          cases H with
          | none =>
            go_wp2
            (try simp only [Exit.inBlock, Exit.then])
            refine bodyPost_ret (uc_tmp4 rfl _ _ _) rfl ?_
            exact ⟨ucX_err (fun h4 h9 => by (have : i = 0 ∨ i = 1 := by omega); exact this.elim (fun e => by subst e; exact .inl hh) (fun e => by subst e; exact .inr hh)), rfl⟩
          | some x0 =>
            have hx0 := hxx x0 rfl
            go_wp2
            exact ⟨⟨i + 1, bits .or .i32 (wrap32 (V * 16)) (x0 : Int), rfl, by omega, by go_num, rfl, (or_rng _ _).1, (or_rng _ _).2, trivial, hide ⟨fun h a ha => by (have e : i = 0 := by omega); subst e; rw [hh] at ha; cases ha; rw [HX.out.2.2 rfl]; exact or4z (by omega), fun h a b ha hb => by (have e : i = 1 := by omega); subst e; rw [hh] at hb; cases hb; rw [HX.out.1 rfl a ha]; exact or4 (hexV_lt ha) (by omega), fun h => by omega⟩⟩, by simp [intOf]; omega⟩
        · have hi9 : i = 2 := by omega
          have hjI : ¬ (i : Int) < 2 := by omega
          subst hi9
          clear hlt hi
          go_wp2
          (try simp only [Exit.inBlock, Exit.then])
          refine bodyPost_ret (uc_tmp4 rfl _ _ _) rfl ?_
          refine ⟨⟨.inr ⟨V, false, _, rfl, hV0, hV1, HS.out _⟩, fun x y h4 h9 hx hy => ?_⟩, rfl⟩
          rw [HX.out.2.1 (by first | rfl | trivial) x y hx hy, HF.out]
          rfl
set_option maxRecDepth 8000 in
set_option maxHeartbeats 4000000 in
theorem uc_hex4 (z : ByteArray) (q : Nat) (E : Value) (w : World) (hE : w.cell? ⟨3, 0, none⟩ = some E) (hs : z.size ≤ 1073741824) (h1 : 1 < z.size) (hq : q = 34 ∨ q = 39) (hb : bA z 0 = 92) (hb1 : bA z 1 = 117) :
    Calls Tryd.prog 97 #[.string z, .int .u8 (q : Int)] w fun e w' => UcX z E e ∧ w' = w := by
  have h00 : 1 < z.size := h1
  have hI : ¬ ((z.size : Nat) : Int) = 0 := by omega
  have hI2 : ¬ ((z.size : Nat) : Int) ≤ 1 := by omega
  have hI3 : (2 : Int) ≤ ((z.size : Nat) : Int) := by omega
  have h01 : 0 < z.size := by omega
  have hb0 : ((z[0].toNat : Nat) : Int) = 92 := (bA_int h01).trans (by rw [hb]; rfl)
  have hb2 : ((z[1].toNat : Nat) : Int) = 117 := (bA_int h1).trans (by rw [hb1]; rfl)
  obtain ⟨m, hm⟩ : ∃ m, z.size - 2 = m := ⟨_, rfl⟩
  have HF : Hid (frm (frm z 2) 2 = (z.extract 2 z.size).extract 2 m) := hide (by unfold frm; rw [show (z.extract 2 z.size).size = m by simp; omega])
  have HS : Hid (∀ k, ((z.extract 2 z.size).extract k m).size < z.size) := hide (fun k => by simp; omega)
  have HB := hide hb
  have HB1 := hide hb1
  clear hb hb1
  by_cases hlen : m < 4
  · have hlI : ((z.size - 2 : Nat) : Int) < 4 := by omega
    rcases hq with rfl | rfl
    all_goals
      go_enter Tryd.func97, Tryd.ntmps97
      go_wp2
      (try simp only [Exit.inBlock, Exit.then])
      refine bodyPost_ret (uc_tmp4 rfl _ _ _) rfl ?_
      exact ⟨ucX_err (fun h4 h1 => by have := HB1.out; omega), rfl⟩
  · have hlI : ¬ ((z.size - 2 : Nat) : Int) < 4 := by omega
    rcases hq with rfl | rfl
    all_goals
      go_enter Tryd.func97, Tryd.ntmps97
      go_wp2
      go_loopw [13, 14, 7] (fun v j er wr => ∃ (i : Nat) (V : Int), er = .nilIface ∧ i ≤ 4 ∧ j = .int .i64 i ∧ v = .int .i32 V ∧ -2147483648 ≤ V ∧ V ≤ 2147483647 ∧ wr = w ∧ Hid (True)) (fun _ j _ _ => 4 - (intOf j).toNat)
      case atStart => exact ⟨0, 0, rfl, Nat.zero_le _, rfl, rfl, by omega, by omega, rfl, hide trivial⟩
      case round =>
        obtain ⟨i, V, rfl, hi, rfl, rfl, hV0, hV1, hw, HX⟩ := hrel
        subst hw
        by_cases hlt : i < 4
        · have hjI : (i : Int) < 4 := by omega
          have hi2 : 2 + i < z.size := by omega
          have hi3 : i < z.size - 2 := by omega
          go_wp2_with fail
          refine (scUnhex_any _ (UInt8.toNat_lt _) _).mono ?_
          rintro e w2 ⟨x, rfl, hx16, hxx, hw2⟩
          subst hw2
          generalize hX : hexV _ = H at hxx ⊢
          have hh : hexV (bA z (2 + i)) = H := by rw [← hX, bA_get hi2]; first | rfl | simp [ByteArray.getElem_extract]
          clear hX
          cases H with
          | none =>
            go_wp2
            (try simp only [Exit.inBlock, Exit.then])
            refine bodyPost_ret (uc_tmp4 rfl _ _ _) rfl ?_
            exact ⟨ucX_err (fun h4 h9 => by have := HB1.out; omega), rfl⟩
          | some x0 =>
            have hx0 := hxx x0 rfl
            go_wp2
            exact ⟨⟨i + 1, bits .or .i32 (wrap32 (V * 16)) (x0 : Int), rfl, by omega, by go_num, rfl, (or_rng _ _).1, (or_rng _ _).2, trivial, hide trivial⟩, by simp [intOf]; omega⟩
        · have hi9 : i = 4 := by omega
          have hjI : ¬ (i : Int) < 4 := by omega
          subst hi9
          clear hlt hi
          have HVR := hide (Tryd.utf8_ValidRune V wr)
          cases hvr : Lib.validRune V with
          | true =>
            rw [hvr] at HVR
            go_wp2_with fail
            refine HVR.out.mono ?_
            rintro e w9 ⟨rfl, rfl⟩
            go_wp2
            (try simp only [Exit.inBlock, Exit.then])
            refine bodyPost_ret (uc_tmp4 rfl _ _ _) rfl ?_
            exact ⟨⟨.inr ⟨V, true, _, rfl, hV0, hV1, HS.out _⟩, fun x y h4 h9 hx hy => by have := HB1.out; omega⟩, rfl⟩
          | false =>
            rw [hvr] at HVR
            go_wp2_with fail
            refine HVR.out.mono ?_
            rintro e w9 ⟨rfl, rfl⟩
            go_wp2
            (try simp only [Exit.inBlock, Exit.then])
            refine bodyPost_ret (uc_tmp4 rfl _ _ _) rfl ?_
            exact ⟨ucX_err (fun h4 h9 => by have := HB1.out; omega), rfl⟩
set_option maxRecDepth 8000 in
set_option maxHeartbeats 4000000 in
theorem uc_hex8 (z : ByteArray) (q : Nat) (E : Value) (w : World) (hE : w.cell? ⟨3, 0, none⟩ = some E) (hs : z.size ≤ 1073741824) (h1 : 1 < z.size) (hq : q = 34 ∨ q = 39) (hb : bA z 0 = 92) (hb1 : bA z 1 = 85) :
    Calls Tryd.prog 97 #[.string z, .int .u8 (q : Int)] w fun e w' => UcX z E e ∧ w' = w := by
  have h00 : 1 < z.size := h1
  have hI : ¬ ((z.size : Nat) : Int) = 0 := by omega
  have hI2 : ¬ ((z.size : Nat) : Int) ≤ 1 := by omega
  have hI3 : (2 : Int) ≤ ((z.size : Nat) : Int) := by omega
  have h01 : 0 < z.size := by omega
  have hb0 : ((z[0].toNat : Nat) : Int) = 92 := (bA_int h01).trans (by rw [hb]; rfl)
  have hb2 : ((z[1].toNat : Nat) : Int) = 85 := (bA_int h1).trans (by rw [hb1]; rfl)
  obtain ⟨m, hm⟩ : ∃ m, z.size - 2 = m := ⟨_, rfl⟩
  have HF : Hid (frm (frm z 2) 2 = (z.extract 2 z.size).extract 2 m) := hide (by unfold frm; rw [show (z.extract 2 z.size).size = m by simp; omega])
  have HS : Hid (∀ k, ((z.extract 2 z.size).extract k m).size < z.size) := hide (fun k => by simp; omega)
  have HB := hide hb
  have HB1 := hide hb1
  clear hb hb1
  by_cases hlen : m < 8
  · have hlI : ((z.size - 2 : Nat) : Int) < 8 := by omega
    rcases hq with rfl | rfl
    all_goals
      go_enter Tryd.func97, Tryd.ntmps97
      go_wp2
      (try simp only [Exit.inBlock, Exit.then])
      refine bodyPost_ret (uc_tmp4 rfl _ _ _) rfl ?_
      exact ⟨ucX_err (fun h4 h1 => by have := HB1.out; omega), rfl⟩
  · have hlI : ¬ ((z.size - 2 : Nat) : Int) < 8 := by omega
    rcases hq with rfl | rfl
    all_goals
      go_enter Tryd.func97, Tryd.ntmps97
      go_wp2
      go_loopw [13, 14, 7] (fun v j er wr => ∃ (i : Nat) (V : Int), er = .nilIface ∧ i ≤ 8 ∧ j = .int .i64 i ∧ v = .int .i32 V ∧ -2147483648 ≤ V ∧ V ≤ 2147483647 ∧ wr = w ∧ Hid (True)) (fun _ j _ _ => 8 - (intOf j).toNat)
      case atStart => exact ⟨0, 0, rfl, Nat.zero_le _, rfl, rfl, by omega, by omega, rfl, hide trivial⟩
      case round =>
        obtain ⟨i, V, rfl, hi, rfl, rfl, hV0, hV1, hw, HX⟩ := hrel
        subst hw
        by_cases hlt : i < 8
        · have hjI : (i : Int) < 8 := by omega
          have hi2 : 2 + i < z.size := by omega
          have hi3 : i < z.size - 2 := by omega
          go_wp2_with fail
          refine (scUnhex_any _ (UInt8.toNat_lt _) _).mono ?_
          rintro e w2 ⟨x, rfl, hx16, hxx, hw2⟩
          subst hw2
          generalize hX : hexV _ = H at hxx ⊢
          have hh : hexV (bA z (2 + i)) = H := by rw [← hX, bA_get hi2]; first | rfl | simp [ByteArray.getElem_extract]
          clear hX
          cases H with
          | none =>
            go_wp2
            (try simp only [Exit.inBlock, Exit.then])
            refine bodyPost_ret (uc_tmp4 rfl _ _ _) rfl ?_
            exact ⟨ucX_err (fun h4 h9 => by have := HB1.out; omega), rfl⟩
          | some x0 =>
            have hx0 := hxx x0 rfl
            go_wp2
            exact ⟨⟨i + 1, bits .or .i32 (wrap32 (V * 16)) (x0 : Int), rfl, by omega, by go_num, rfl, (or_rng _ _).1, (or_rng _ _).2, trivial, hide trivial⟩, by simp [intOf]; omega⟩
        · have hi9 : i = 8 := by omega
          have hjI : ¬ (i : Int) < 8 := by omega
          subst hi9
          clear hlt hi
          have HVR := hide (Tryd.utf8_ValidRune V wr)
          cases hvr : Lib.validRune V with
          | true =>
            rw [hvr] at HVR
            go_wp2_with fail
            refine HVR.out.mono ?_
            rintro e w9 ⟨rfl, rfl⟩
            go_wp2
            (try simp only [Exit.inBlock, Exit.then])
            refine bodyPost_ret (uc_tmp4 rfl _ _ _) rfl ?_
            exact ⟨⟨.inr ⟨V, true, _, rfl, hV0, hV1, HS.out _⟩, fun x y h4 h9 hx hy => by have := HB1.out; omega⟩, rfl⟩
          | false =>
            rw [hvr] at HVR
            go_wp2_with fail
            refine HVR.out.mono ?_
            rintro e w9 ⟨rfl, rfl⟩
            go_wp2
            (try simp only [Exit.inBlock, Exit.then])
            refine bodyPost_ret (uc_tmp4 rfl _ _ _) rfl ?_
            exact ⟨ucX_err (fun h4 h9 => by have := HB1.out; omega), rfl⟩
end Go.Proofs.YtpnacioliccglaaDoor
