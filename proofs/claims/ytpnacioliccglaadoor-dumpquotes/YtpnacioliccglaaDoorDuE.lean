/-
  Words: the document's signs.
-/
import Derived.Test.YtpnacioliccglaaDoorDuC
namespace Go.Proofs.YtpnacioliccglaaDoor
open Go.RowKit Go.Maps Go.Shelf
set_option linter.unusedVariables false
/-- What the document has to write for a sign of n bytes. -/
structure SgC (s : ByteArray) (i n c : Nat) (X : List UInt8) : Prop where
  q : c = 92 ∨ c = 34 → X = [92, s.get! i]
  e10 : c = 10 → X = [92, 110]
  e13 : c = 13 → X = [92, 114]
  e9 : c = 9 → X = [92, 116]
  one : c ≠ 92 → c ≠ 34 → c ≠ 10 → c ≠ 13 → c ≠ 9 → n = 1 → 32 ≤ c → c ≤ 126 → X = [s.get! i]
  hx : c ≠ 92 → c ≠ 34 → c ≠ 10 → c ≠ 13 → c ≠ 9 → ¬ (n = 1 ∧ 32 ≤ c ∧ c ≤ 126) → n ≤ 1 → X = hxB c
  two : c ≠ 92 → c ≠ 34 → c ≠ 10 → c ≠ 13 → c ≠ 9 → n = 2 → c = 194 → bA s (i + 1) < 160 → X = hxB c ++ hxB (bA s (i + 1))
  df : c ≠ 92 → c ≠ 34 → c ≠ 10 → c ≠ 13 → c ≠ 9 → ¬ n ≤ 1 → ¬ (n = 2 ∧ c = 194 ∧ bA s (i + 1) < 160) → X = bsA s i n
theorem sgc {s : ByteArray} {i : Nat} : SgC s i (wl s i) (bA s i) (sg s i) := by
  unfold sg
  refine ⟨fun e => ?_, fun e => ?_, fun e => ?_, fun e => ?_, fun a b c d e f g h => ?_, fun a b c d e f g => ?_, fun a b c d e f g h => ?_, fun a b c d e f g => ?_⟩
  · rw [if_pos e]
  · rw [if_neg (by omega), if_pos e]
  · rw [if_neg (by omega), if_neg (by omega), if_pos e]
  · rw [if_neg (by omega), if_neg (by omega), if_neg (by omega), if_pos e]
  · rw [if_neg (by omega), if_neg c, if_neg d, if_neg e, if_pos ⟨f, g, h⟩]
  · rw [if_neg (by omega), if_neg c, if_neg d, if_neg e, if_neg f, if_pos g]
  · rw [if_neg (by omega), if_neg c, if_neg d, if_neg e, if_neg (by omega), if_neg (by omega), if_pos ⟨f, g, h⟩]
  · rw [if_neg (by omega), if_neg c, if_neg d, if_neg e, if_neg (by omega), if_neg f, if_neg g]
set_option maxRecDepth 8000 in
set_option maxHeartbeats 4000000 in
theorem sign_any (B : Nat) (v : Value) (L : List UInt8) (s : ByteArray) (i : Nat) (w : World) (hi : i < s.size) (hs : (s.size : Int) ≤ 9223372036854775000) (hown : Ou w B v L) (hb : L.length + 16 ≤ 140737488355328) (hB : B ≤ w.heap.size) :
    Calls Tryd.prog 25 #[v, .string s, .int .i64 (i : Int), .int .i64 (wl s i : Int)] w fun e w' => ∃ v', e = .returned v' ∧ Ou w' B v' (L ++ sg s i) ∧ Fr B w w' := by
  have HO := hide hown
  have HB := hide hb
  have HBd := hide hB
  have HG := sgc (s := s) (i := i)
  have hw4 := wl_le s i
  have hin := stp_in hi
  have hI : (i : Int) < s.size := by omega
  have hi0 : (0 : Int) ≤ i := by omega
  obtain ⟨X, hX⟩ : ∃ X, sg s i = X := ⟨_, rfl⟩
  rw [hX] at HG ⊢
  obtain ⟨n, hn⟩ : ∃ n, wl s i = n := ⟨_, rfl⟩
  unfold stp at hin
  rw [hn] at HG hw4 hin ⊢
  have hg := gB_get hi
  have hc0 := bA_get hi
  obtain ⟨c, hc⟩ : ∃ c, s[i].toNat = c := ⟨_, rfl⟩
  have hcl : c < 256 := by rw [← hc]; exact (s[i]).toNat_lt
  rw [hc] at hc0
  rw [hc0] at HG
  have HGc : Hid ((s.get! i).toNat = c) := hide (by rw [hg]; exact hc)
  have HGG := hide HG
  have HIn : Hid (i + (if n = 0 then 1 else n) ≤ s.size) := hide hin
  clear hX hn hg hc0 HG hown hb hB hin
  have hcI : (0 : Int) ≤ c := by omega
  have hnI : (0 : Int) ≤ n := by omega
  by_cases c92 : c = 92
  · subst c92
    have hX := HGG.out.q (.inl rfl)
    rw [show s.get! i = 92 from UInt8.toNat_inj.1 HGc.out] at hX
    subst hX
    go_enter Tryd.func25, Tryd.ntmps25
    go_wp2_with (at_builtin; go_loud (refine append_u _ rfl _ _ rfl B _ L rfl (ou_fr HO.out) w.heap.size 2 2 _ [92, 92] rfl (heap_new _ _) (by first | rfl | (rw [← HGc.out]; rfl)) rfl (by have := HB.out; omega) (by rw [World.size_alloc]; exact Nat.le_succ_of_le HBd.out) ?_); intro v3 w3 o3 f3; have HN2 := hide o3; have HM2 := hide (((Fr.refl B w).alloc HBd.out _).trans f3); clear o3 f3)
    go_ret
    exact ⟨_, rfl, HN2.out, HM2.out⟩
  by_cases c34 : c = 34
  · subst c34
    have hX := HGG.out.q (.inr rfl)
    rw [show s.get! i = 34 from UInt8.toNat_inj.1 HGc.out] at hX
    subst hX
    go_enter Tryd.func25, Tryd.ntmps25
    go_wp2_with (at_builtin; go_loud (refine append_u _ rfl _ _ rfl B _ L rfl (ou_fr HO.out) w.heap.size 2 2 _ [92, 34] rfl (heap_new _ _) (by first | rfl | (rw [← HGc.out]; rfl)) rfl (by have := HB.out; omega) (by rw [World.size_alloc]; exact Nat.le_succ_of_le HBd.out) ?_); intro v3 w3 o3 f3; have HN2 := hide o3; have HM2 := hide (((Fr.refl B w).alloc HBd.out _).trans f3); clear o3 f3)
    go_ret
    exact ⟨_, rfl, HN2.out, HM2.out⟩
  by_cases c10 : c = 10
  · subst c10
    have hX := HGG.out.e10 rfl
    subst hX
    go_enter Tryd.func25, Tryd.ntmps25
    go_wp2_with (at_builtin; go_loud (refine append_u _ rfl _ _ rfl B _ L rfl (ou_fr HO.out) w.heap.size 2 2 _ [92, 110] rfl (heap_new _ _) (by first | rfl | (rw [← HGc.out]; rfl)) rfl (by have := HB.out; omega) (by rw [World.size_alloc]; exact Nat.le_succ_of_le HBd.out) ?_); intro v3 w3 o3 f3; have HN2 := hide o3; have HM2 := hide (((Fr.refl B w).alloc HBd.out _).trans f3); clear o3 f3)
    go_ret
    exact ⟨_, rfl, HN2.out, HM2.out⟩
  by_cases c13 : c = 13
  · subst c13
    have hX := HGG.out.e13 rfl
    subst hX
    go_enter Tryd.func25, Tryd.ntmps25
    go_wp2_with (at_builtin; go_loud (refine append_u _ rfl _ _ rfl B _ L rfl (ou_fr HO.out) w.heap.size 2 2 _ [92, 114] rfl (heap_new _ _) (by first | rfl | (rw [← HGc.out]; rfl)) rfl (by have := HB.out; omega) (by rw [World.size_alloc]; exact Nat.le_succ_of_le HBd.out) ?_); intro v3 w3 o3 f3; have HN2 := hide o3; have HM2 := hide (((Fr.refl B w).alloc HBd.out _).trans f3); clear o3 f3)
    go_ret
    exact ⟨_, rfl, HN2.out, HM2.out⟩
  by_cases c9 : c = 9
  · subst c9
    have hX := HGG.out.e9 rfl
    subst hX
    go_enter Tryd.func25, Tryd.ntmps25
    go_wp2_with (at_builtin; go_loud (refine append_u _ rfl _ _ rfl B _ L rfl (ou_fr HO.out) w.heap.size 2 2 _ [92, 116] rfl (heap_new _ _) (by first | rfl | (rw [← HGc.out]; rfl)) rfl (by have := HB.out; omega) (by rw [World.size_alloc]; exact Nat.le_succ_of_le HBd.out) ?_); intro v3 w3 o3 f3; have HN2 := hide o3; have HM2 := hide (((Fr.refl B w).alloc HBd.out _).trans f3); clear o3 f3)
    go_ret
    exact ⟨_, rfl, HN2.out, HM2.out⟩
  have hb92 : ((c : Int) == 92) = false := by rw [beq_eq_false_iff_ne]; omega
  have hb34 : ((c : Int) == 34) = false := by rw [beq_eq_false_iff_ne]; omega
  have hb10 : ((c : Int) == 10) = false := by rw [beq_eq_false_iff_ne]; omega
  have hb13 : ((c : Int) == 13) = false := by rw [beq_eq_false_iff_ne]; omega
  have hb9 : ((c : Int) == 9) = false := by rw [beq_eq_false_iff_ne]; omega
  have H1 := hide (HGG.out.one c92 c34 c10 c13 c9)
  have HH := hide (HGG.out.hx c92 c34 c10 c13 c9)
  have H2 := hide (HGG.out.two c92 c34 c10 c13 c9)
  have HD := hide (HGG.out.df c92 c34 c10 c13 c9)
  clear c92 c34 c10 c13 c9 HGG
  have HX := hide (fun (v : Value) (L : List UInt8) (c : Nat) (W : World) => hex_any B v L c W)
  by_cases d1 : n = 1 ∧ 32 ≤ c ∧ c ≤ 126
  · obtain ⟨rfl, d2, d3⟩ := d1
    have hX := H1.out rfl d2 d3
    subst hX
    have e2 : (32 : Int) ≤ c := by omega
    have e3 : (c : Int) ≤ 126 := by omega
    clear H1 HH H2 HD d2 d3
    go_enter Tryd.func25, Tryd.ntmps25
    go_wp2_with (at_builtin; go_loud (refine append_u _ rfl _ _ rfl B _ L rfl (ou_fr HO.out) w.heap.size 1 1 _ [s.get! i] rfl (heap_new _ _) (by first | rfl | (rw [← HGc.out]; rfl)) rfl (by have := HB.out; omega) (by rw [World.size_alloc]; exact Nat.le_succ_of_le HBd.out) ?_); intro v3 w3 o3 f3; have HN2 := hide o3; have HM2 := hide (((Fr.refl B w).alloc HBd.out _).trans f3); clear o3 f3)
    go_ret
    exact ⟨_, rfl, HN2.out, HM2.out⟩
  by_cases d2 : n ≤ 1
  · have hX := HH.out d1 d2
    subst hX
    have HXc := hide (hex_any B v L c w hcl HO.out (by have := HB.out; omega) HBd.out)
    clear H1 HH H2 HD
    have e2 : (n : Int) ≤ 1 := by omega
    by_cases d3 : n = 1
    · subst d3
      by_cases d4 : 32 ≤ c
      · have e4 : (32 : Int) ≤ c := by omega
        have e5 : ¬ (c : Int) ≤ 126 := by omega
        clear d1 d2 d4
        go_enter Tryd.func25, Tryd.ntmps25
        go_wp2_with fail
        refine HXc.out.mono ?_
        rintro x w3 ⟨v3, rfl, o3, f3⟩
        have HN2 := hide o3
        have HM2 := hide f3
        clear o3 f3 HXc
        go_wp2
        go_ret
        exact ⟨_, rfl, HN2.out, HM2.out⟩
      · have e4 : ¬ (32 : Int) ≤ c := by omega
        clear d1 d2 d4
        go_enter Tryd.func25, Tryd.ntmps25
        go_wp2_with fail
        refine HXc.out.mono ?_
        rintro x w3 ⟨v3, rfl, o3, f3⟩
        have HN2 := hide o3
        have HM2 := hide f3
        clear o3 f3 HXc
        go_wp2
        go_ret
        exact ⟨_, rfl, HN2.out, HM2.out⟩
    · have hn0 : n = 0 := by omega
      subst hn0
      clear d1 d2 d3
      go_enter Tryd.func25, Tryd.ntmps25
      go_wp2_with fail
      refine HXc.out.mono ?_
      rintro x w3 ⟨v3, rfl, o3, f3⟩
      have HN2 := hide o3
      have HM2 := hide f3
      clear o3 f3 HXc
      go_wp2
      go_ret
      exact ⟨_, rfl, HN2.out, HM2.out⟩
  have g1 : ((n : Int) == 1) = false := by rw [beq_eq_false_iff_ne]; omega
  have g2 : ¬ (n : Int) ≤ 1 := by omega
  have hin2 : i + n ≤ s.size := by have := HIn.out; rw [if_neg (by omega)] at this; exact this
  have hi1 : i + 1 < s.size := by omega
  have hi1I : (i : Int) + 1 < s.size := by omega
  have HDf := hide (fun h => HD.out d2 h)
  have hb1 := bA_get hi1
  obtain ⟨e, he⟩ : ∃ e, s[i + 1].toNat = e := ⟨_, rfl⟩
  have hel : e < 256 := by rw [← he]; exact (s[i + 1]).toNat_lt
  rw [he] at hb1
  rw [hb1] at H2 HDf
  have heI : (0 : Int) ≤ e := by omega
  clear H1 HH HD hb1 HGc
  have HLoop : Hid (X = bsA s i n → True) := hide (fun _ => trivial)
  by_cases d3 : n = 2 ∧ c = 194 ∧ e < 160
  · obtain ⟨rfl, rfl, d4⟩ := d3
    have hX := H2.out rfl rfl d4
    subst hX
    have HXc := hide (hex_any B v L 194 w hcl HO.out (by have := HB.out; omega) HBd.out)
    have e4 : (e : Int) < 160 := by omega
    clear H2 HDf d1 d2 d4 HLoop
    go_enter Tryd.func25, Tryd.ntmps25
    go_wp2_with fail
    refine HXc.out.mono ?_
    rintro x w3 ⟨v3, rfl, o3, f3⟩
    have HM2 := hide f3
    have HXd := hide (hex_any B v3 (L ++ hxB 194) e w3 hel o3 (by rw [List.length_append, hxB_len]; have := HB.out; omega) (Nat.le_trans HBd.out f3.size))
    clear o3 f3 HXc
    go_wp2_with fail
    refine HXd.out.mono ?_
    rintro x w4 ⟨v4, rfl, o4, f4⟩
    have HN3 := hide o4
    have HM3 := hide (HM2.out.trans f4)
    clear o4 f4 HXd
    go_wp2
    go_ret
    exact ⟨_, rfl, by rw [← List.append_assoc]; exact HN3.out, HM3.out⟩
  have hX := HDf.out d3
  subst hX
  have hnn : (n : Int) ≤ 4 := by omega
  have hsI : (s.size : Int) ≤ 9223372036854775000 := hs
  have hin3 : (i : Int) + n ≤ s.size := by omega
  clear HLoop H2 HDf
  by_cases d4 : n = 2
  · subst d4
    by_cases d5 : c = 194
    · subst d5
      have e5 : ¬ (e : Int) < 160 := by omega
      clear d1 d2 d3 hs
      go_enter Tryd.func25, Tryd.ntmps25
      go_wp2
      go_loopw [0, 10] (fun s0 s10 wr => ∃ k : Nat, k ≤ 2 ∧ s10 = .int .i64 k ∧ Hid (Ou wr B s0 (L ++ bsA s i k) ∧ Fr B w wr)) (fun _ s _ => 2 - (intOf s).toNat)
      case atStart => exact ⟨0, Nat.zero_le _, rfl, hide ⟨by rw [bsA, List.append_nil]; exact HO.out, Fr.refl _ _⟩⟩
      case round =>
        obtain ⟨k, hk, rfl, HJ⟩ := hrel
        by_cases hlt : k < 2
        · have hkI : (k : Int) < 2 := by omega
          have hk0 : (0 : Int) ≤ k := by omega
          have hik : i + k < s.size := by omega
          have hikI : (i : Int) + k < s.size := by omega
          have hw1 : IntKind.i64.wrap ((i : Int) + k) = (i : Int) + k := by rw [IntKind.wrap_i64]; omega
          have hgk := gB_get hik
          obtain ⟨z, hz⟩ : ∃ z, s[i + k].toNat = z := ⟨_, rfl⟩
          have HGk : Hid ((s.get! (i + k)).toNat = z) := hide (by rw [hgk]; exact hz)
          have HSz : Hid (B ≤ wr.heap.size) := hide (Nat.le_trans HBd.out HJ.out.2.size)
          clear hgk
          go_wp2_with (at_builtin; go_loud (refine append_u _ rfl _ _ rfl B _ (L ++ bsA s i k) rfl (ou_fr HJ.out.1) wr.heap.size 1 1 _ [s.get! (i + k)] rfl (heap_new _ _) (by rw [← HGk.out]; rfl) rfl (by rw [List.length_append, bsA_len]; have := HB.out; omega) (by rw [World.size_alloc]; exact Nat.le_succ_of_le HSz.out) ?_); intro v3 w3 o3 f3; have HJ2 : Hid (Ou w3 B v3 (L ++ bsA s i (k + 1)) ∧ Fr B w w3) := hide ⟨by rw [bsA, ← List.append_assoc]; exact o3, HJ.out.2.trans (((Fr.refl B wr).alloc HSz.out _).trans f3)⟩; clear o3 f3)
          exact ⟨⟨k + 1, by omega, by go_num, HJ2⟩, by simp [intOf]; omega⟩
        · have h9 : k = 2 := by omega
          subst h9
          have hkI : ¬ (2 : Int) < 2 := by omega
          go_wp2
          go_ret
          exact ⟨_, rfl, HJ.out.1, HJ.out.2⟩
    · have e5 : ((c : Int) == 194) = false := by rw [beq_eq_false_iff_ne]; omega
      clear d1 d2 d3 d5 hs
      go_enter Tryd.func25, Tryd.ntmps25
      go_wp2
      go_loopw [0, 10] (fun s0 s10 wr => ∃ k : Nat, k ≤ 2 ∧ s10 = .int .i64 k ∧ Hid (Ou wr B s0 (L ++ bsA s i k) ∧ Fr B w wr)) (fun _ s _ => 2 - (intOf s).toNat)
      case atStart => exact ⟨0, Nat.zero_le _, rfl, hide ⟨by rw [bsA, List.append_nil]; exact HO.out, Fr.refl _ _⟩⟩
      case round =>
        obtain ⟨k, hk, rfl, HJ⟩ := hrel
        by_cases hlt : k < 2
        · have hkI : (k : Int) < 2 := by omega
          have hk0 : (0 : Int) ≤ k := by omega
          have hik : i + k < s.size := by omega
          have hikI : (i : Int) + k < s.size := by omega
          have hw1 : IntKind.i64.wrap ((i : Int) + k) = (i : Int) + k := by rw [IntKind.wrap_i64]; omega
          have hgk := gB_get hik
          obtain ⟨z, hz⟩ : ∃ z, s[i + k].toNat = z := ⟨_, rfl⟩
          have HGk : Hid ((s.get! (i + k)).toNat = z) := hide (by rw [hgk]; exact hz)
          have HSz : Hid (B ≤ wr.heap.size) := hide (Nat.le_trans HBd.out HJ.out.2.size)
          clear hgk
          go_wp2_with (at_builtin; go_loud (refine append_u _ rfl _ _ rfl B _ (L ++ bsA s i k) rfl (ou_fr HJ.out.1) wr.heap.size 1 1 _ [s.get! (i + k)] rfl (heap_new _ _) (by rw [← HGk.out]; rfl) rfl (by rw [List.length_append, bsA_len]; have := HB.out; omega) (by rw [World.size_alloc]; exact Nat.le_succ_of_le HSz.out) ?_); intro v3 w3 o3 f3; have HJ2 : Hid (Ou w3 B v3 (L ++ bsA s i (k + 1)) ∧ Fr B w w3) := hide ⟨by rw [bsA, ← List.append_assoc]; exact o3, HJ.out.2.trans (((Fr.refl B wr).alloc HSz.out _).trans f3)⟩; clear o3 f3)
          exact ⟨⟨k + 1, by omega, by go_num, HJ2⟩, by simp [intOf]; omega⟩
        · have h9 : k = 2 := by omega
          subst h9
          have hkI : ¬ (2 : Int) < 2 := by omega
          go_wp2
          go_ret
          exact ⟨_, rfl, HJ.out.1, HJ.out.2⟩
  · have e5 : ((n : Int) == 2) = false := by rw [beq_eq_false_iff_ne]; omega
    clear d1 d2 d3 d4 hs
    go_enter Tryd.func25, Tryd.ntmps25
    go_wp2
    go_loopw [0, 10] (fun s0 s10 wr => ∃ k : Nat, k ≤ n ∧ s10 = .int .i64 k ∧ Hid (Ou wr B s0 (L ++ bsA s i k) ∧ Fr B w wr)) (fun _ s _ => n - (intOf s).toNat)
    case atStart => exact ⟨0, Nat.zero_le _, rfl, hide ⟨by rw [bsA, List.append_nil]; exact HO.out, Fr.refl _ _⟩⟩
    case round =>
      obtain ⟨k, hk, rfl, HJ⟩ := hrel
      by_cases hlt : k < n
      · have hkI : (k : Int) < n := by omega
        have hk0 : (0 : Int) ≤ k := by omega
        have hik : i + k < s.size := by omega
        have hikI : (i : Int) + k < s.size := by omega
        have hw1 : IntKind.i64.wrap ((i : Int) + k) = (i : Int) + k := by rw [IntKind.wrap_i64]; omega
        have hgk := gB_get hik
        obtain ⟨z, hz⟩ : ∃ z, s[i + k].toNat = z := ⟨_, rfl⟩
        have HGk : Hid ((s.get! (i + k)).toNat = z) := hide (by rw [hgk]; exact hz)
        have HSz : Hid (B ≤ wr.heap.size) := hide (Nat.le_trans HBd.out HJ.out.2.size)
        clear hgk
        go_wp2_with (at_builtin; go_loud (refine append_u _ rfl _ _ rfl B _ (L ++ bsA s i k) rfl (ou_fr HJ.out.1) wr.heap.size 1 1 _ [s.get! (i + k)] rfl (heap_new _ _) (by rw [← HGk.out]; rfl) rfl (by rw [List.length_append, bsA_len]; have := HB.out; omega) (by rw [World.size_alloc]; exact Nat.le_succ_of_le HSz.out) ?_); intro v3 w3 o3 f3; have HJ2 : Hid (Ou w3 B v3 (L ++ bsA s i (k + 1)) ∧ Fr B w w3) := hide ⟨by rw [bsA, ← List.append_assoc]; exact o3, HJ.out.2.trans (((Fr.refl B wr).alloc HSz.out _).trans f3)⟩; clear o3 f3)
        exact ⟨⟨k + 1, by omega, by go_num, HJ2⟩, by simp [intOf]; omega⟩
      · have h9 : k = n := by omega
        subst h9
        have hkI : ¬ (k : Int) < k := by omega
        go_wp2
        go_ret
        exact ⟨_, rfl, HJ.out.1, HJ.out.2⟩
end Go.Proofs.YtpnacioliccglaaDoor
