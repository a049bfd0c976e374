/-
  strconv.UnquoteChar: its ways without loops.
-/
import Derived.Test.YtpnacioliccglaaDoorDvA
import Derived.Test.YtpnacioliccglaaDoorDvL
namespace Go.Proofs.YtpnacioliccglaaDoor
open Go.RowKit Go.Maps Go.Shelf
set_option linter.unusedVariables false
/-- What it answers: a fault. -/
def ucE (E : Value) : Value := .tuple #[.int .i32 0, .bool false, .string ⟨#[]⟩, E]
/-- A rune, whether it has several bytes, what is left. -/
def ucO (z : ByteArray) (r : Int) (mb : Bool) (k : Nat) : Value := .tuple #[.int .i32 r, .bool mb, .string (frm z k), .nilIface]
theorem uc_tmp4 {fn : Func} {t u v x : Tmp} (h : fn.results = #[.tmp t, .tmp u, .tmp v, .tmp x]) (tmps : Array Value) (P : Program) (w : World) :
    (results fn tmps).run P w = .ok (.tuple #[tmps.getD t undef, tmps.getD u undef, tmps.getD v undef, tmps.getD x undef]) w := by
  simp [results, h]
theorem bA_int {z : ByteArray} {i : Nat} (h : i < z.size) : ((z[i].toNat : Nat) : Int) = (bA z i : Int) := by rw [bA_get h]
set_option maxRecDepth 8000 in
set_option maxHeartbeats 4000000 in
theorem uc_quote (z : ByteArray) (q : Nat) (E : Value) (w : World) (hE : w.cell? ⟨3, 0, none⟩ = some E) (hs : z.size ≤ 1073741824) (h1 : 0 < z.size) (hq : q = 34 ∨ q = 39) (hb : bA z 0 = q) :
    Calls Tryd.prog 97 #[.string z, .int .u8 (q : Int)] w fun e w' => e = .returned (ucE E) ∧ Below w.heap.size w w' := by
  have hI : ¬ ((z.size : Nat) : Int) = 0 := by omega
  have h00 : 0 < z.size := by omega
  rcases hq with rfl | rfl
  · have hb0 : ((z[0].toNat : Nat) : Int) = 34 := (bA_int h1).trans (by rw [hb]; rfl)
    unfold ucE
    go_enter Tryd.func97, Tryd.ntmps97
    go_wp2
    (try simp only [Exit.inBlock, Exit.then])
    refine bodyPost_ret (uc_tmp4 rfl _ _ _) rfl ?_
    exact ⟨rfl, Below.refl _ _⟩
  · have hb0 : ((z[0].toNat : Nat) : Int) = 39 := (bA_int h1).trans (by rw [hb]; rfl)
    unfold ucE
    go_enter Tryd.func97, Tryd.ntmps97
    go_wp2
    (try simp only [Exit.inBlock, Exit.then])
    refine bodyPost_ret (uc_tmp4 rfl _ _ _) rfl ?_
    exact ⟨rfl, Below.refl _ _⟩
set_option maxRecDepth 8000 in
set_option maxHeartbeats 4000000 in
theorem uc_one (z : ByteArray) (q : Nat) (E : Value) (w : World) (hE : w.cell? ⟨3, 0, none⟩ = some E) (hs : z.size ≤ 1073741824) (h1 : 0 < z.size) (hq : q = 34 ∨ q = 39) (hb : bA z 0 ≠ q) (hl : bA z 0 < 128) (hn : bA z 0 ≠ 92) :
    Calls Tryd.prog 97 #[.string z, .int .u8 (q : Int)] w fun e w' => e = .returned (ucO z (bA z 0) false 1) ∧ Below w.heap.size w w' := by
  have hI : ¬ ((z.size : Nat) : Int) = 0 := by omega
  have h00 : 0 < z.size := by omega
  obtain ⟨b, hbb⟩ : ∃ b, bA z 0 = b := ⟨_, rfl⟩
  rw [hbb] at hb hl hn ⊢
  have hb0 : ((z[0].toNat : Nat) : Int) = (b : Int) := (bA_int h1).trans (by rw [hbb])
  have k2 : ¬ (128 : Int) ≤ b := by omega
  have k3 : ((b : Int) == 92) = false := by rw [beq_eq_false_iff_ne]; omega
  unfold ucO frm
  rcases hq with rfl | rfl
  · have k1 : ((b : Int) == 34) = false := by rw [beq_eq_false_iff_ne]; omega
    go_enter Tryd.func97, Tryd.ntmps97
    go_wp2
    go_quiet (fail)
    go_wp2
    (try simp only [Exit.inBlock, Exit.then])
    refine bodyPost_ret (uc_tmp4 rfl _ _ _) rfl ?_
    exact ⟨rfl, below_drewN (Below.refl _ _) _⟩
  · have k1 : ((b : Int) == 39) = false := by rw [beq_eq_false_iff_ne]; omega
    go_enter Tryd.func97, Tryd.ntmps97
    go_wp2
    go_quiet (fail)
    go_wp2
    (try simp only [Exit.inBlock, Exit.then])
    refine bodyPost_ret (uc_tmp4 rfl _ _ _) rfl ?_
    exact ⟨rfl, below_drewN (Below.refl _ _) _⟩
set_option maxRecDepth 8000 in
set_option maxHeartbeats 4000000 in
theorem uc_big (z : ByteArray) (q : Nat) (w : World) (hT : Lib.Utf8Tabs 6 7 w) (hs : z.size ≤ 1073741824) (h1 : 0 < z.size) (hq : q = 34 ∨ q = 39) (hl : 128 ≤ bA z 0) :
    Calls Tryd.prog 97 #[.string z, .int .u8 (q : Int)] w fun e w' => e = .returned (ucO z ((Utf8.decode z 0).1 : Int) true (Utf8.decode z 0).2) ∧ Below w.heap.size w w' := by
  have hI : ¬ ((z.size : Nat) : Int) = 0 := by omega
  have HC := hide (Tryd.utf8_DecodeRuneInString z w hT)
  have hd : Lib.decodeGo z = Utf8.decode z 0 := by unfold Lib.decodeGo; rw [if_neg (by omega)]
  rw [hd] at HC
  have hst := (dv_sg z 0).2
  have hin := stp_in (s := z) (i := 0) h1
  rw [← hst] at hin
  obtain ⟨R, hR⟩ : ∃ R, (Utf8.decode z 0).1 = R := ⟨_, rfl⟩
  obtain ⟨K, hK⟩ : ∃ K, (Utf8.decode z 0).2 = K := ⟨_, rfl⟩
  rw [hR, hK] at HC ⊢
  rw [hK] at hin
  have hKI : (K : Int) ≤ ((z.size : Nat) : Int) := by omega
  obtain ⟨b, hbb⟩ : ∃ b, bA z 0 = b := ⟨_, rfl⟩
  rw [hbb] at hl
  have hb0 : ((z[0].toNat : Nat) : Int) = (b : Int) := (bA_int h1).trans (by rw [hbb])
  have k2 : (128 : Int) ≤ b := by omega
  clear hd hst hR hK hin
  unfold ucO frm
  rcases hq with rfl | rfl
  · have k1 : ((b : Int) == 34) = false := by rw [beq_eq_false_iff_ne]; omega
    go_enter Tryd.func97, Tryd.ntmps97
    go_wp2_with fail
    refine HC.out.mono ?_
    rintro x w2 ⟨rfl, hb⟩
    have HB := hide hb
    clear hb HC
    go_wp2
    go_quiet (fail)
    go_wp2
    (try simp only [Exit.inBlock, Exit.then])
    refine bodyPost_ret (uc_tmp4 rfl _ _ _) rfl ?_
    exact ⟨rfl, below_drewN HB.out _⟩
  · have k1 : ((b : Int) == 39) = false := by rw [beq_eq_false_iff_ne]; omega
    go_enter Tryd.func97, Tryd.ntmps97
    go_wp2_with fail
    refine HC.out.mono ?_
    rintro x w2 ⟨rfl, hb⟩
    have HB := hide hb
    clear hb HC
    go_wp2
    go_quiet (fail)
    go_wp2
    (try simp only [Exit.inBlock, Exit.then])
    refine bodyPost_ret (uc_tmp4 rfl _ _ _) rfl ?_
    exact ⟨rfl, below_drewN HB.out _⟩
set_option maxRecDepth 8000 in
set_option maxHeartbeats 4000000 in
theorem uc_short (z : ByteArray) (q : Nat) (E : Value) (w : World) (hE : w.cell? ⟨3, 0, none⟩ = some E) (hs : z.size ≤ 1073741824) (h1 : z.size = 1) (hq : q = 34 ∨ q = 39) (hb : bA z 0 = 92) :
    Calls Tryd.prog 97 #[.string z, .int .u8 (q : Int)] w fun e w' => e = .returned (ucE E) ∧ Below w.heap.size w w' := by
  have hI : ¬ ((z.size : Nat) : Int) = 0 := by omega
  have hI2 : ((z.size : Nat) : Int) ≤ 1 := by omega
  have h01 : 0 < z.size := by omega
  have hb0 : ((z[0].toNat : Nat) : Int) = 92 := (bA_int h01).trans (by rw [hb]; rfl)
  unfold ucE
  rcases hq with rfl | rfl
  · go_enter Tryd.func97, Tryd.ntmps97
    go_wp2
    (try simp only [Exit.inBlock, Exit.then])
    refine bodyPost_ret (uc_tmp4 rfl _ _ _) rfl ?_
    exact ⟨rfl, Below.refl _ _⟩
  · go_enter Tryd.func97, Tryd.ntmps97
    go_wp2
    (try simp only [Exit.inBlock, Exit.then])
    refine bodyPost_ret (uc_tmp4 rfl _ _ _) rfl ?_
    exact ⟨rfl, Below.refl _ _⟩
set_option maxRecDepth 8000 in
set_option maxHeartbeats 4000000 in
theorem uc_97 (z : ByteArray) (q : Nat) (E : Value) (w : World) (hE : w.cell? ⟨3, 0, none⟩ = some E) (hs : z.size ≤ 1073741824) (h1 : 1 < z.size) (hq : q = 34 ∨ q = 39) (hb : bA z 0 = 92) (hb1 : bA z 1 = 97) :
    Calls Tryd.prog 97 #[.string z, .int .u8 (q : Int)] w fun e w' => e = .returned (ucO z (7) false 2) ∧ Below w.heap.size w w' := by
  have h00 : 1 < z.size := h1
  have hI : ¬ ((z.size : Nat) : Int) = 0 := by omega
  have hI2 : ¬ ((z.size : Nat) : Int) ≤ 1 := by omega
  have hI3 : (2 : Int) ≤ ((z.size : Nat) : Int) := by omega
  have h01 : 0 < z.size := by omega
  have hb0 : ((z[0].toNat : Nat) : Int) = 92 := (bA_int h01).trans (by rw [hb]; rfl)
  have hb2 : ((z[1].toNat : Nat) : Int) = 97 := (bA_int h1).trans (by rw [hb1]; rfl)
  unfold ucO frm
  rcases hq with rfl | rfl
  · go_enter Tryd.func97, Tryd.ntmps97
    go_wp2
    (try simp only [Exit.inBlock, Exit.then])
    refine bodyPost_ret (uc_tmp4 rfl _ _ _) rfl ?_
    exact ⟨rfl, Below.refl _ _⟩
  · go_enter Tryd.func97, Tryd.ntmps97
    go_wp2
    (try simp only [Exit.inBlock, Exit.then])
    refine bodyPost_ret (uc_tmp4 rfl _ _ _) rfl ?_
    exact ⟨rfl, Below.refl _ _⟩
set_option maxRecDepth 8000 in
set_option maxHeartbeats 4000000 in
theorem uc_98 (z : ByteArray) (q : Nat) (E : Value) (w : World) (hE : w.cell? ⟨3, 0, none⟩ = some E) (hs : z.size ≤ 1073741824) (h1 : 1 < z.size) (hq : q = 34 ∨ q = 39) (hb : bA z 0 = 92) (hb1 : bA z 1 = 98) :
    Calls Tryd.prog 97 #[.string z, .int .u8 (q : Int)] w fun e w' => e = .returned (ucO z (8) false 2) ∧ Below w.heap.size w w' := by
  have h00 : 1 < z.size := h1
  have hI : ¬ ((z.size : Nat) : Int) = 0 := by omega
  have hI2 : ¬ ((z.size : Nat) : Int) ≤ 1 := by omega
  have hI3 : (2 : Int) ≤ ((z.size : Nat) : Int) := by omega
  have h01 : 0 < z.size := by omega
  have hb0 : ((z[0].toNat : Nat) : Int) = 92 := (bA_int h01).trans (by rw [hb]; rfl)
  have hb2 : ((z[1].toNat : Nat) : Int) = 98 := (bA_int h1).trans (by rw [hb1]; rfl)
  unfold ucO frm
  rcases hq with rfl | rfl
  · go_enter Tryd.func97, Tryd.ntmps97
    go_wp2
    (try simp only [Exit.inBlock, Exit.then])
    refine bodyPost_ret (uc_tmp4 rfl _ _ _) rfl ?_
    exact ⟨rfl, Below.refl _ _⟩
  · go_enter Tryd.func97, Tryd.ntmps97
    go_wp2
    (try simp only [Exit.inBlock, Exit.then])
    refine bodyPost_ret (uc_tmp4 rfl _ _ _) rfl ?_
    exact ⟨rfl, Below.refl _ _⟩
set_option maxRecDepth 8000 in
set_option maxHeartbeats 4000000 in
theorem uc_102 (z : ByteArray) (q : Nat) (E : Value) (w : World) (hE : w.cell? ⟨3, 0, none⟩ = some E) (hs : z.size ≤ 1073741824) (h1 : 1 < z.size) (hq : q = 34 ∨ q = 39) (hb : bA z 0 = 92) (hb1 : bA z 1 = 102) :
    Calls Tryd.prog 97 #[.string z, .int .u8 (q : Int)] w fun e w' => e = .returned (ucO z (12) false 2) ∧ Below w.heap.size w w' := by
  have h00 : 1 < z.size := h1
  have hI : ¬ ((z.size : Nat) : Int) = 0 := by omega
  have hI2 : ¬ ((z.size : Nat) : Int) ≤ 1 := by omega
  have hI3 : (2 : Int) ≤ ((z.size : Nat) : Int) := by omega
  have h01 : 0 < z.size := by omega
  have hb0 : ((z[0].toNat : Nat) : Int) = 92 := (bA_int h01).trans (by rw [hb]; rfl)
  have hb2 : ((z[1].toNat : Nat) : Int) = 102 := (bA_int h1).trans (by rw [hb1]; rfl)
  unfold ucO frm
  rcases hq with rfl | rfl
  · go_enter Tryd.func97, Tryd.ntmps97
    go_wp2
    (try simp only [Exit.inBlock, Exit.then])
    refine bodyPost_ret (uc_tmp4 rfl _ _ _) rfl ?_
    exact ⟨rfl, Below.refl _ _⟩
  · go_enter Tryd.func97, Tryd.ntmps97
    go_wp2
    (try simp only [Exit.inBlock, Exit.then])
    refine bodyPost_ret (uc_tmp4 rfl _ _ _) rfl ?_
    exact ⟨rfl, Below.refl _ _⟩
set_option maxRecDepth 8000 in
set_option maxHeartbeats 4000000 in
theorem uc_110 (z : ByteArray) (q : Nat) (E : Value) (w : World) (hE : w.cell? ⟨3, 0, none⟩ = some E) (hs : z.size ≤ 1073741824) (h1 : 1 < z.size) (hq : q = 34 ∨ q = 39) (hb : bA z 0 = 92) (hb1 : bA z 1 = 110) :
    Calls Tryd.prog 97 #[.string z, .int .u8 (q : Int)] w fun e w' => e = .returned (ucO z (10) false 2) ∧ Below w.heap.size w w' := by
  have h00 : 1 < z.size := h1
  have hI : ¬ ((z.size : Nat) : Int) = 0 := by omega
  have hI2 : ¬ ((z.size : Nat) : Int) ≤ 1 := by omega
  have hI3 : (2 : Int) ≤ ((z.size : Nat) : Int) := by omega
  have h01 : 0 < z.size := by omega
  have hb0 : ((z[0].toNat : Nat) : Int) = 92 := (bA_int h01).trans (by rw [hb]; rfl)
  have hb2 : ((z[1].toNat : Nat) : Int) = 110 := (bA_int h1).trans (by rw [hb1]; rfl)
  unfold ucO frm
  rcases hq with rfl | rfl
  · go_enter Tryd.func97, Tryd.ntmps97
    go_wp2
    (try simp only [Exit.inBlock, Exit.then])
    refine bodyPost_ret (uc_tmp4 rfl _ _ _) rfl ?_
    exact ⟨rfl, Below.refl _ _⟩
  · go_enter Tryd.func97, Tryd.ntmps97
    go_wp2
    (try simp only [Exit.inBlock, Exit.then])
    refine bodyPost_ret (uc_tmp4 rfl _ _ _) rfl ?_
    exact ⟨rfl, Below.refl _ _⟩
set_option maxRecDepth 8000 in
set_option maxHeartbeats 4000000 in
theorem uc_114 (z : ByteArray) (q : Nat) (E : Value) (w : World) (hE : w.cell? ⟨3, 0, none⟩ = some E) (hs : z.size ≤ 1073741824) (h1 : 1 < z.size) (hq : q = 34 ∨ q = 39) (hb : bA z 0 = 92) (hb1 : bA z 1 = 114) :
    Calls Tryd.prog 97 #[.string z, .int .u8 (q : Int)] w fun e w' => e = .returned (ucO z (13) false 2) ∧ Below w.heap.size w w' := by
  have h00 : 1 < z.size := h1
  have hI : ¬ ((z.size : Nat) : Int) = 0 := by omega
  have hI2 : ¬ ((z.size : Nat) : Int) ≤ 1 := by omega
  have hI3 : (2 : Int) ≤ ((z.size : Nat) : Int) := by omega
  have h01 : 0 < z.size := by omega
  have hb0 : ((z[0].toNat : Nat) : Int) = 92 := (bA_int h01).trans (by rw [hb]; rfl)
  have hb2 : ((z[1].toNat : Nat) : Int) = 114 := (bA_int h1).trans (by rw [hb1]; rfl)
  unfold ucO frm
  rcases hq with rfl | rfl
  · go_enter Tryd.func97, Tryd.ntmps97
    go_wp2
    (try simp only [Exit.inBlock, Exit.then])
    refine bodyPost_ret (uc_tmp4 rfl _ _ _) rfl ?_
    exact ⟨rfl, Below.refl _ _⟩
  · go_enter Tryd.func97, Tryd.ntmps97
    go_wp2
    (try simp only [Exit.inBlock, Exit.then])
    refine bodyPost_ret (uc_tmp4 rfl _ _ _) rfl ?_
    exact ⟨rfl, Below.refl _ _⟩
set_option maxRecDepth 8000 in
set_option maxHeartbeats 4000000 in
theorem uc_116 (z : ByteArray) (q : Nat) (E : Value) (w : World) (hE : w.cell? ⟨3, 0, none⟩ = some E) (hs : z.size ≤ 1073741824) (h1 : 1 < z.size) (hq : q = 34 ∨ q = 39) (hb : bA z 0 = 92) (hb1 : bA z 1 = 116) :
    Calls Tryd.prog 97 #[.string z, .int .u8 (q : Int)] w fun e w' => e = .returned (ucO z (9) false 2) ∧ Below w.heap.size w w' := by
  have h00 : 1 < z.size := h1
  have hI : ¬ ((z.size : Nat) : Int) = 0 := by omega
  have hI2 : ¬ ((z.size : Nat) : Int) ≤ 1 := by omega
  have hI3 : (2 : Int) ≤ ((z.size : Nat) : Int) := by omega
  have h01 : 0 < z.size := by omega
  have hb0 : ((z[0].toNat : Nat) : Int) = 92 := (bA_int h01).trans (by rw [hb]; rfl)
  have hb2 : ((z[1].toNat : Nat) : Int) = 116 := (bA_int h1).trans (by rw [hb1]; rfl)
  unfold ucO frm
  rcases hq with rfl | rfl
  · go_enter Tryd.func97, Tryd.ntmps97
    go_wp2
    (try simp only [Exit.inBlock, Exit.then])
    refine bodyPost_ret (uc_tmp4 rfl _ _ _) rfl ?_
    exact ⟨rfl, Below.refl _ _⟩
  · go_enter Tryd.func97, Tryd.ntmps97
    go_wp2
    (try simp only [Exit.inBlock, Exit.then])
    refine bodyPost_ret (uc_tmp4 rfl _ _ _) rfl ?_
    exact ⟨rfl, Below.refl _ _⟩
set_option maxRecDepth 8000 in
set_option maxHeartbeats 4000000 in
theorem uc_118 (z : ByteArray) (q : Nat) (E : Value) (w : World) (hE : w.cell? ⟨3, 0, none⟩ = some E) (hs : z.size ≤ 1073741824) (h1 : 1 < z.size) (hq : q = 34 ∨ q = 39) (hb : bA z 0 = 92) (hb1 : bA z 1 = 118) :
    Calls Tryd.prog 97 #[.string z, .int .u8 (q : Int)] w fun e w' => e = .returned (ucO z (11) false 2) ∧ Below w.heap.size w w' := by
  have h00 : 1 < z.size := h1
  have hI : ¬ ((z.size : Nat) : Int) = 0 := by omega
  have hI2 : ¬ ((z.size : Nat) : Int) ≤ 1 := by omega
  have hI3 : (2 : Int) ≤ ((z.size : Nat) : Int) := by omega
  have h01 : 0 < z.size := by omega
  have hb0 : ((z[0].toNat : Nat) : Int) = 92 := (bA_int h01).trans (by rw [hb]; rfl)
  have hb2 : ((z[1].toNat : Nat) : Int) = 118 := (bA_int h1).trans (by rw [hb1]; rfl)
  unfold ucO frm
  rcases hq with rfl | rfl
  · go_enter Tryd.func97, Tryd.ntmps97
    go_wp2
    (try simp only [Exit.inBlock, Exit.then])
    refine bodyPost_ret (uc_tmp4 rfl _ _ _) rfl ?_
    exact ⟨rfl, Below.refl _ _⟩
  · go_enter Tryd.func97, Tryd.ntmps97
    go_wp2
    (try simp only [Exit.inBlock, Exit.then])
    refine bodyPost_ret (uc_tmp4 rfl _ _ _) rfl ?_
    exact ⟨rfl, Below.refl _ _⟩
set_option maxRecDepth 8000 in
set_option maxHeartbeats 4000000 in
theorem uc_92 (z : ByteArray) (q : Nat) (E : Value) (w : World) (hE : w.cell? ⟨3, 0, none⟩ = some E) (hs : z.size ≤ 1073741824) (h1 : 1 < z.size) (hq : q = 34 ∨ q = 39) (hb : bA z 0 = 92) (hb1 : bA z 1 = 92) :
    Calls Tryd.prog 97 #[.string z, .int .u8 (q : Int)] w fun e w' => e = .returned (ucO z (92) false 2) ∧ Below w.heap.size w w' := by
  have h00 : 1 < z.size := h1
  have hI : ¬ ((z.size : Nat) : Int) = 0 := by omega
  have hI2 : ¬ ((z.size : Nat) : Int) ≤ 1 := by omega
  have hI3 : (2 : Int) ≤ ((z.size : Nat) : Int) := by omega
  have h01 : 0 < z.size := by omega
  have hb0 : ((z[0].toNat : Nat) : Int) = 92 := (bA_int h01).trans (by rw [hb]; rfl)
  have hb2 : ((z[1].toNat : Nat) : Int) = 92 := (bA_int h1).trans (by rw [hb1]; rfl)
  unfold ucO frm
  rcases hq with rfl | rfl
  · go_enter Tryd.func97, Tryd.ntmps97
    go_wp2
    (try simp only [Exit.inBlock, Exit.then])
    refine bodyPost_ret (uc_tmp4 rfl _ _ _) rfl ?_
    exact ⟨rfl, Below.refl _ _⟩
  · go_enter Tryd.func97, Tryd.ntmps97
    go_wp2
    (try simp only [Exit.inBlock, Exit.then])
    refine bodyPost_ret (uc_tmp4 rfl _ _ _) rfl ?_
    exact ⟨rfl, Below.refl _ _⟩
set_option maxRecDepth 8000 in
set_option maxHeartbeats 4000000 in
theorem uc_qq (z : ByteArray) (q : Nat) (E : Value) (w : World) (hE : w.cell? ⟨3, 0, none⟩ = some E) (hs : z.size ≤ 1073741824) (h1 : 1 < z.size) (hq : q = 34 ∨ q = 39) (hb : bA z 0 = 92) (hb1 : bA z 1 = q) :
    Calls Tryd.prog 97 #[.string z, .int .u8 (q : Int)] w fun e w' => e = .returned (ucO z (q) false 2) ∧ Below w.heap.size w w' := by
  have h00 : 1 < z.size := h1
  have hI : ¬ ((z.size : Nat) : Int) = 0 := by omega
  have hI2 : ¬ ((z.size : Nat) : Int) ≤ 1 := by omega
  have hI3 : (2 : Int) ≤ ((z.size : Nat) : Int) := by omega
  have h01 : 0 < z.size := by omega
  have hb0 : ((z[0].toNat : Nat) : Int) = 92 := (bA_int h01).trans (by rw [hb]; rfl)
  unfold ucO frm
  rcases hq with rfl | rfl
  · have hb2 : ((z[1].toNat : Nat) : Int) = 34 := (bA_int h1).trans (by rw [hb1]; rfl)
    go_enter Tryd.func97, Tryd.ntmps97
    go_wp2
    (try simp only [Exit.inBlock, Exit.then])
    refine bodyPost_ret (uc_tmp4 rfl _ _ _) rfl ?_
    exact ⟨rfl, Below.refl _ _⟩
  · have hb2 : ((z[1].toNat : Nat) : Int) = 39 := (bA_int h1).trans (by rw [hb1]; rfl)
    go_enter Tryd.func97, Tryd.ntmps97
    go_wp2
    (try simp only [Exit.inBlock, Exit.then])
    refine bodyPost_ret (uc_tmp4 rfl _ _ _) rfl ?_
    exact ⟨rfl, Below.refl _ _⟩
set_option maxRecDepth 8000 in
set_option maxHeartbeats 4000000 in
theorem uc_qn (z : ByteArray) (q : Nat) (E : Value) (w : World) (hE : w.cell? ⟨3, 0, none⟩ = some E) (hs : z.size ≤ 1073741824) (h1 : 1 < z.size) (hq : q = 34 ∨ q = 39) (hb : bA z 0 = 92) (hb1 : bA z 1 = 73 - q) :
    Calls Tryd.prog 97 #[.string z, .int .u8 (q : Int)] w fun e w' => e = .returned (ucE E) ∧ Below w.heap.size w w' := by
  have h00 : 1 < z.size := h1
  have hI : ¬ ((z.size : Nat) : Int) = 0 := by omega
  have hI2 : ¬ ((z.size : Nat) : Int) ≤ 1 := by omega
  have hI3 : (2 : Int) ≤ ((z.size : Nat) : Int) := by omega
  have h01 : 0 < z.size := by omega
  have hb0 : ((z[0].toNat : Nat) : Int) = 92 := (bA_int h01).trans (by rw [hb]; rfl)
  unfold ucE
  rcases hq with rfl | rfl
  · have hb2 : ((z[1].toNat : Nat) : Int) = 39 := (bA_int h1).trans (by rw [hb1]; rfl)
    go_enter Tryd.func97, Tryd.ntmps97
    go_wp2
    (try simp only [Exit.inBlock, Exit.then])
    refine bodyPost_ret (uc_tmp4 rfl _ _ _) rfl ?_
    exact ⟨rfl, Below.refl _ _⟩
  · have hb2 : ((z[1].toNat : Nat) : Int) = 34 := (bA_int h1).trans (by rw [hb1]; rfl)
    go_enter Tryd.func97, Tryd.ntmps97
    go_wp2
    (try simp only [Exit.inBlock, Exit.then])
    refine bodyPost_ret (uc_tmp4 rfl _ _ _) rfl ?_
    exact ⟨rfl, Below.refl _ _⟩
set_option maxRecDepth 8000 in
set_option maxHeartbeats 4000000 in
theorem uc_none (z : ByteArray) (q : Nat) (E : Value) (w : World) (hE : w.cell? ⟨3, 0, none⟩ = some E) (hs : z.size ≤ 1073741824) (h1 : 1 < z.size) (hq : q = 34 ∨ q = 39) (hb : bA z 0 = 92) (m97 : bA z 1 ≠ 97) (m98 : bA z 1 ≠ 98) (m102 : bA z 1 ≠ 102) (m110 : bA z 1 ≠ 110) (m114 : bA z 1 ≠ 114) (m116 : bA z 1 ≠ 116) (m118 : bA z 1 ≠ 118) (m120 : bA z 1 ≠ 120) (m117 : bA z 1 ≠ 117) (m85 : bA z 1 ≠ 85) (m48 : bA z 1 ≠ 48) (m49 : bA z 1 ≠ 49) (m50 : bA z 1 ≠ 50) (m51 : bA z 1 ≠ 51) (m52 : bA z 1 ≠ 52) (m53 : bA z 1 ≠ 53) (m54 : bA z 1 ≠ 54) (m55 : bA z 1 ≠ 55) (m92 : bA z 1 ≠ 92) (m39 : bA z 1 ≠ 39) (m34 : bA z 1 ≠ 34) :
    Calls Tryd.prog 97 #[.string z, .int .u8 (q : Int)] w fun e w' => e = .returned (ucE E) ∧ Below w.heap.size w w' := by
  have h00 : 1 < z.size := h1
  have hI : ¬ ((z.size : Nat) : Int) = 0 := by omega
  have hI2 : ¬ ((z.size : Nat) : Int) ≤ 1 := by omega
  have hI3 : (2 : Int) ≤ ((z.size : Nat) : Int) := by omega
  have h01 : 0 < z.size := by omega
  have hb0 : ((z[0].toNat : Nat) : Int) = 92 := (bA_int h01).trans (by rw [hb]; rfl)
  obtain ⟨b, hbb⟩ : ∃ b, bA z 1 = b := ⟨_, rfl⟩
  rw [hbb] at m97 m98 m102 m110 m114 m116 m118 m120 m117 m85 m48 m49 m50 m51 m52 m53 m54 m55 m92 m39 m34
  have hb2 : ((z[1].toNat : Nat) : Int) = (b : Int) := (bA_int h1).trans (by rw [hbb])
  have n97 : ((b : Int) == 97) = false := by rw [beq_eq_false_iff_ne]; omega
  have n98 : ((b : Int) == 98) = false := by rw [beq_eq_false_iff_ne]; omega
  have n102 : ((b : Int) == 102) = false := by rw [beq_eq_false_iff_ne]; omega
  have n110 : ((b : Int) == 110) = false := by rw [beq_eq_false_iff_ne]; omega
  have n114 : ((b : Int) == 114) = false := by rw [beq_eq_false_iff_ne]; omega
  have n116 : ((b : Int) == 116) = false := by rw [beq_eq_false_iff_ne]; omega
  have n118 : ((b : Int) == 118) = false := by rw [beq_eq_false_iff_ne]; omega
  have n120 : ((b : Int) == 120) = false := by rw [beq_eq_false_iff_ne]; omega
  have n117 : ((b : Int) == 117) = false := by rw [beq_eq_false_iff_ne]; omega
  have n85 : ((b : Int) == 85) = false := by rw [beq_eq_false_iff_ne]; omega
  have n48 : ((b : Int) == 48) = false := by rw [beq_eq_false_iff_ne]; omega
  have n49 : ((b : Int) == 49) = false := by rw [beq_eq_false_iff_ne]; omega
  have n50 : ((b : Int) == 50) = false := by rw [beq_eq_false_iff_ne]; omega
  have n51 : ((b : Int) == 51) = false := by rw [beq_eq_false_iff_ne]; omega
  have n52 : ((b : Int) == 52) = false := by rw [beq_eq_false_iff_ne]; omega
  have n53 : ((b : Int) == 53) = false := by rw [beq_eq_false_iff_ne]; omega
  have n54 : ((b : Int) == 54) = false := by rw [beq_eq_false_iff_ne]; omega
  have n55 : ((b : Int) == 55) = false := by rw [beq_eq_false_iff_ne]; omega
  have n92 : ((b : Int) == 92) = false := by rw [beq_eq_false_iff_ne]; omega
  have n39 : ((b : Int) == 39) = false := by rw [beq_eq_false_iff_ne]; omega
  have n34 : ((b : Int) == 34) = false := by rw [beq_eq_false_iff_ne]; omega
  clear m97 m98 m102 m110 m114 m116 m118 m120 m117 m85 m48 m49 m50 m51 m52 m53 m54 m55 m92 m39 m34
  unfold ucE
  rcases hq with rfl | rfl
  · go_enter Tryd.func97, Tryd.ntmps97
    go_wp2
    (try simp only [Exit.inBlock, Exit.then])
    refine bodyPost_ret (uc_tmp4 rfl _ _ _) rfl ?_
    exact ⟨rfl, Below.refl _ _⟩
  · go_enter Tryd.func97, Tryd.ntmps97
    go_wp2
    (try simp only [Exit.inBlock, Exit.then])
    refine bodyPost_ret (uc_tmp4 rfl _ _ _) rfl ?_
    exact ⟨rfl, Below.refl _ _⟩
end Go.Proofs.YtpnacioliccglaaDoor
