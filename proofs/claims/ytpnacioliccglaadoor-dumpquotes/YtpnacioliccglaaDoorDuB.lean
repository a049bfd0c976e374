/-
  Digits of a string's bytes; what is shown.
-/
import Derived.Test.YtpnacioliccglaaDoorDuA
namespace Go.Proofs.YtpnacioliccglaaDoor
open Go.RowKit Go.Maps Go.Shelf
set_option linter.unusedVariables false
/-- The bytes of a string as digits, the first j of them. -/
def dgF (s : ByteArray) : Nat → List UInt8
  | 0 => []
  | j + 1 => dgF s j ++ hxB (bA s j)
theorem dgF_len (s : ByteArray) : ∀ j, (dgF s j).length = 4 * j
  | 0 => rfl
  | j + 1 => by rw [dgF, List.length_append, dgF_len s j, hxB_len]; omega
theorem and15 : ∀ n : Fin 256, bits BinOp.and .u8 (n.val : Int) 15 = ((n.val % 16 : Nat) : Int) := by decide +kernel
set_option maxRecDepth 8000 in
theorem dig_any (B : Nat) (v : Value) (L : List UInt8) (s : ByteArray) (w : World) (hown : Ou w B v L) (hb : L.length + 4 * s.size ≤ 140737488355328) (hB : B ≤ w.heap.size) :
    Calls Tryd.prog 46 #[v, .string s] w fun e w' => ∃ v', e = .returned v' ∧ Ou w' B v' (L ++ dgF s s.size) ∧ Fr B w w' := by
  have HO := hide hown
  have HB := hide hb
  have HBd := hide hB
  obtain ⟨n, hn⟩ : ∃ n, s.size = n := ⟨_, rfl⟩
  have hnI : (n : Int) ≤ 9223372036854775806 := by omega
  rw [hn] at HB ⊢
  have HN := hide hn
  have hnI2 : (s.size : Int) = n := by omega
  clear hown hb hB
  go_enter Tryd.func46, Tryd.ntmps46
  go_wp2
  go_loopw [0, 8] (fun s0 s8 wr => ∃ j : Nat, j ≤ n ∧ s8 = .int .i64 j ∧ Hid (Ou wr B s0 (L ++ dgF s j) ∧ Fr B w wr)) (fun _ s _ => n - (intOf s).toNat)
  case atStart => exact ⟨0, Nat.zero_le _, rfl, hide ⟨by rw [dgF, List.append_nil]; exact HO.out, Fr.refl _ _⟩⟩
  case round =>
    obtain ⟨j, hj, rfl, HJ⟩ := hrel
    by_cases hlt : j < n
    · have hjI : (j : Int) < n := by omega
      have hj0 : (0 : Int) ≤ j := by omega
      have hjs : j < s.size := by omega
      have hlt8 := (s[j]).toNat_lt
      obtain ⟨q, hq⟩ : ∃ q, q = s[j].toNat / 16 := ⟨_, rfl⟩
      obtain ⟨r, hr⟩ : ∃ r, r = s[j].toNat % 16 := ⟨_, rfl⟩
      have hw1 : (s[j].toNat : Int) / 16 = (q : Int) := by omega
      have hw2 : bits BinOp.and .u8 (s[j].toNat : Int) 15 = (r : Int) := by rw [hr]; exact and15 ⟨s[j].toNat, hlt8⟩
      have hq0 : (0 : Int) ≤ q := by omega
      have hq1 : (q : Int) < 16 := by omega
      have hr0 : (0 : Int) ≤ r := by omega
      have hr1 : (r : Int) < 16 := by omega
      have hqN : q < 16 := by omega
      have hrN : r < 16 := by omega
      have HX : Hid (dgF s (j + 1) = dgF s j ++ [92, 120, dgt q, dgt r]) := hide (by rw [dgF, bA_get hjs, hq, hr]; rfl)
      have HQ := hide (dgt_get hqN)
      have HR := hide (dgt_get hrN)
      clear hq hr hlt8 hn
      go_wp2_with fail
      go_region_law (refine step_u rfl (.tmp 11) (.tmp 22) rfl B u0 (L ++ dgF s j) (by first | (simp [Act.eval]; done) | (simp [Act.eval, Act.put]; done) | rfl) ((ou_fr HJ.out.1).below (Below.refl _ _).drew) wr.heap.size 4 4 _ [92, 120, dgt q, dgt r] (by first | (simp [Act.eval]; done) | (simp [Act.eval, Act.put]; done) | rfl) (heap_new _ _) (by rw [HQ.out, HR.out]; rfl) rfl (by rw [List.length_append, dgF_len]; have := HB.out; omega) (by show B ≤ (World.alloc _ _).heap.size; rw [World.size_alloc]; exact Nat.le_succ_of_le (Nat.le_trans HBd.out HJ.out.2.size)) ?_; intro v' w' o2 f2)
      all_goals
        have HJ2 : Hid (Ou w' B v' (L ++ dgF s (j + 1)) ∧ Fr B w w') := hide ⟨by rw [HX.out, ← List.append_assoc]; exact o2, HJ.out.2.trans ((((Fr.refl B wr).alloc (Nat.le_trans HBd.out HJ.out.2.size) _).drew).trans f2)⟩
        clear o2 f2
        go_wp2
        exact ⟨⟨j + 1, by omega, by go_num, HJ2⟩, by simp [intOf]; omega⟩
    · have h9 : j = n := by omega
      subst h9
      have hjI : ¬ (j : Int) < j := by omega
      clear hn
      go_wp2
      go_ret
      exact ⟨_, rfl, HJ.out.1, HJ.out.2⟩
set_option maxRecDepth 8000 in
theorem shown_any (r : Nat) (w : World) (hr : r ≤ 1114111) : Calls Tryd.prog 47 #[.int .i32 (r : Int)] w fun e w' => e = .returned (.bool (decide ((32 ≤ r ∧ r ≤ 126) ∨ 160 ≤ r))) ∧ w' = w := by
  obtain ⟨D, hD⟩ : ∃ D, decide ((32 ≤ r ∧ r ≤ 126) ∨ 160 ≤ r) = D := ⟨_, rfl⟩
  rw [hD]
  have hk : (D = true ∧ ((32 ≤ r ∧ r ≤ 126) ∨ 160 ≤ r)) ∨ (D = false ∧ ¬ ((32 ≤ r ∧ r ≤ 126) ∨ 160 ≤ r)) := by
    rw [← hD]
    by_cases h : (32 ≤ r ∧ r ≤ 126) ∨ 160 ≤ r
    · exact .inl ⟨decide_eq_true h, h⟩
    · exact .inr ⟨decide_eq_false h, h⟩
  clear hD
  rcases hk with ⟨rfl, hk⟩ | ⟨rfl, hk⟩ <;> by_cases h1 : (32 : Int) ≤ r <;> by_cases h2 : (r : Int) ≤ 126 <;> by_cases h4 : (160 : Int) ≤ r
  all_goals
    first
      | (exfalso; omega)
      | (clear hk
         go_enter Tryd.func47, Tryd.ntmps47
         go_wp2
         go_ret
         exact ⟨rfl, rfl⟩)
/-- The bytes of FFFD stand there. -/
def badB (s : ByteArray) (i : Nat) : Bool := decide (i + 2 < s.size) && (decide (bA s i = 239) && (decide (bA s (i + 1) = 191) && decide (bA s (i + 2) = 189)))
theorem badB_iff {s : ByteArray} {i : Nat} : badB s i = true ↔ i + 2 < s.size ∧ bA s i = 239 ∧ bA s (i + 1) = 191 ∧ bA s (i + 2) = 189 := by simp [badB]
/-- From a place on. -/
def frm (s : ByteArray) (i : Nat) : ByteArray := s.extract i s.size
theorem frm_list (s : ByteArray) (i : Nat) : (frm s i).data.toList = s.data.toList.drop i := by
  unfold frm
  have h : (s.extract i s.size).data = s.data.extract i s.size := by simp
  rw [h, Array.toList_extract]
  have e : s.size = s.data.toList.length := (Array.length_toList).symm
  rw [List.extract_eq_take_drop, e]
  apply List.take_of_length_le
  rw [List.length_drop]
  exact Nat.le_refl _
theorem lst_at {s : ByteArray} {i : Nat} (h : i < s.size) : s.data.toList[i]? = some (s.get! i) := by
  rw [gB_get h]
  cases s with
  | mk d =>
    show d.toList[i]? = some d[i]
    rw [Array.getElem?_toList]
    exact Array.getElem?_eq_getElem h
theorem pre3 {s : ByteArray} {i : Nat} (h : i < s.size) : Lib.hasPrefix (frm s i).data.toList [239, 191, 189] = badB s i := by
  rw [frm_list]
  have u : ∀ (k : Nat) (b : UInt8), s.get! k = b ↔ bA s k = b.toNat := fun k b => by unfold bA; exact UInt8.toNat_inj.symm
  unfold Lib.hasPrefix
  rw [Bool.eq_iff_iff, badB_iff, List.isPrefixOf_iff_prefix]
  constructor
  · rintro ⟨t, ht⟩
    have hl : (s.data.toList.drop i).length = 3 + t.length := by rw [← ht]; simp; omega
    rw [List.length_drop] at hl
    have e : s.data.toList.length = s.size := Array.length_toList
    have g : ∀ k b, ([239, 191, 189] ++ t : List UInt8)[k]? = some b → k < 3 → s.get! (i + k) = b := fun k b hb hk => by
      rw [ht, List.getElem?_drop, lst_at (by omega)] at hb
      exact Option.some.inj hb
    exact ⟨by omega, (u i 239).1 (g 0 239 rfl (by omega)), (u (i + 1) 191).1 (g 1 191 rfl (by omega)), (u (i + 2) 189).1 (g 2 189 rfl (by omega))⟩
  · rintro ⟨h1, h2, h3, h4⟩
    have g0 := (u i 239).2 h2
    have g1 := (u (i + 1) 191).2 h3
    have g2 := (u (i + 2) 189).2 h4
    refine ⟨s.data.toList.drop (i + 3), ?_⟩
    have d : ∀ k, k < s.size → s.data.toList.drop k = s.get! k :: s.data.toList.drop (k + 1) := fun k hk => by
      have hl : k < s.data.toList.length := by rw [Array.length_toList]; exact hk
      have h5 := lst_at hk
      rw [List.getElem?_eq_getElem hl] at h5
      rw [List.drop_eq_getElem_cons hl, Option.some.inj h5]
    rw [d i (by omega), d (i + 1) (by omega), d (i + 2) (by omega), g0, g1, g2]
    rfl
theorem stray_any (r : Nat) (s : ByteArray) (i : Nat) (w : World) (hr : r ≤ 1114111) (hi : i < s.size) : Calls Tryd.prog 45 #[.int .i32 (r : Int), .string (frm s i)] w fun e w' => e = .returned (.bool (decide (r = 65533) && !badB s i)) ∧ w' = w := by
  have HP := hide (Tryd.strings_HasPrefix (frm s i) ⟨#[239, 191, 189]⟩ w)
  have e : Lib.hasPrefix (frm s i).data.toList (⟨#[239, 191, 189]⟩ : ByteArray).data.toList = badB s i := pre3 hi
  rw [e] at HP
  generalize badB s i = D at HP ⊢
  generalize frm s i = S at HP ⊢
  by_cases h : r = 65533
  · subst h
    clear e
    go_enter Tryd.func45, Tryd.ntmps45
    go_wp2_with fail
    refine HP.out.mono ?_
    rintro x w1 ⟨rfl, rfl⟩
    clear HP
    cases D
    all_goals
      go_wp2
      go_ret
      exact ⟨rfl, rfl⟩
  · have hI : ((r : Int) == 65533) = false := by rw [beq_eq_false_iff_ne]; omega
    have hb : decide (r = 65533) = false := decide_eq_false h
    rw [hb]
    clear e hb h
    go_enter Tryd.func45, Tryd.ntmps45
    go_wp2
    go_ret
    exact ⟨rfl, rfl⟩
end Go.Proofs.YtpnacioliccglaaDoor
