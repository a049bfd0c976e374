/-
  Lists of bytes in memory, and the contracts of sameBytes and copied.
-/
import Derived.Test.YtgecdnmgifcghaaDoorNums
import Derived.BigQuiet
import Derived.Deep.QuietTactic
import Derived.WalkSpells
import Derived.WalkSmall
namespace Go.Proofs.YtgecdnmgifcghaaDoor
open Go.RowKit

/-- The list at 'a' of 'n' bytes holds the numbers 'zs'. -/
structure Row (w : World) (a : Option Addr) (n : Nat) (zs : List Int) : Prop where
  len : zs.length = n
  u8 : ∀ i : Nat, 0 ≤ zs[i]?.getD 0 ∧ zs[i]?.getD 0 ≤ 255
  cells : n = 0 ∨ ∃ b off, a = some ⟨b, off, none⟩ ∧ ∀ i, i < n → w.cell? ⟨b, off + i, none⟩ = some (.int .u8 (zs.getD i 0))

theorem Row.empty (w : World) (a : Option Addr) : Row w a 0 [] := ⟨rfl, fun i => by simp, .inl rfl⟩
theorem Row.below {w w' : World} {a : Option Addr} {n : Nat} {zs : List Int} (h : Row w a n zs) (hb : Below w.heap.size w w') : Row w' a n zs := by
  refine ⟨h.len, h.u8, ?_⟩
  rcases h.cells with h0 | ⟨b, off, ha, hc⟩
  · exact .inl h0
  · refine .inr ⟨b, off, ha, fun i hi => ?_⟩
    have := hc i hi
    rw [hb.cell (p := ⟨b, off + i, none⟩) (World.block_lt_of_cell? w _ this)]; exact this

theorem same_ne {A B : List Int} {k : Nat} {hA : k < A.length} {hB : k < B.length} (h : (A[k] != B[k]) = true) : false = decide (A = B) := by
  symm; apply decide_eq_false; intro e; subst e; simp at h
theorem same_step {A B : List Int} {k : Nat} {hA : k < A.length} {hB : k < B.length} (h : (A[k] != B[k]) = false) (he : A.take k = B.take k) : A.take (k + 1) = B.take (k + 1) := by
  rw [List.take_succ_eq_append_getElem hA, List.take_succ_eq_append_getElem hB, he]; simp at h; rw [h]
theorem same_all {A B : List Int} {n k : Nat} (hA : A.length = n) (hB : B.length = n) (hk : n ≤ k) (he : A.take k = B.take k) : true = decide (A = B) := by
  symm; apply decide_eq_true; rwa [List.take_of_length_le (by omega), List.take_of_length_le (by omega)] at he

set_option maxHeartbeats 400000 in
/-- sameBytes, both of one length, not empty. -/
theorem same_core (ba oa ca bb ob cb n : Nat) (A B : List Int) (w : World) (hA : A.length = n) (hB : B.length = n) (hn : n ≤ 9223372036854775807)
    (ha : ∀ i, i < n → w.cell? ⟨ba, oa + i, none⟩ = some (.int .u8 (A.getD i 0))) (hb : ∀ i, i < n → w.cell? ⟨bb, ob + i, none⟩ = some (.int .u8 (B.getD i 0))) :
    Calls Tryd.prog 12 #[.slice (some ⟨ba, oa, none⟩) n ca, .slice (some ⟨bb, ob, none⟩) n cb] w fun e w' => e = .returned (.bool (decide (A = B))) ∧ ∃ m, w' = w.drewN m := by
  go_enter Tryd.func12, Tryd.ntmps12
  go_wp2
  go_loopw [5] (fun i wr => ∃ k m : Nat, k ≤ n ∧ i = .int .i64 k ∧ wr = w.drewN m ∧ A.take k = B.take k) (fun i _ => n - (intOf i).toNat)
  case atStart => exact ⟨0, 0, Nat.zero_le _, rfl, rfl, rfl⟩
  case round =>
    obtain ⟨k, m, hk, rfl, rfl, he⟩ := hrel
    have HE : Hid (A.take k = B.take k) := he
    clear he
    by_cases hlt : k < n
    · have h1 := ha k hlt
      have h2 := hb k hlt
      clear ha hb
      go_wp2
      go_quiet (fail)
      go_wp2
      · go_ret
        exact ⟨ret_bool (same_ne ‹_›), _, World.drewN_drewN _ _ _⟩
      · exact ⟨⟨k + 1, m + nq, by omega, by go_num, rfl, same_step ‹_› HE.out⟩, by simp [intOf]; omega⟩
    · go_wp2
      go_ret
      exact ⟨ret_bool (same_all hA hB (by omega) HE.out), _, rfl⟩

theorem same_ne_len (a b : Option Addr) (la ca lb cb : Nat) (A B : List Int) (w : World) (hA : A.length = la) (hB : B.length = lb) (hne : la ≠ lb) :
    Calls Tryd.prog 12 #[.slice a la ca, .slice b lb cb] w fun e w' => e = .returned (.bool (decide (A = B))) ∧ ∃ m, w' = w.drewN m := by
  have H : Hid (decide (A = B) = false) := decide_eq_false (fun e => hne (by rw [← hA, ← hB, e]))
  have hq : ((la : Int) != (lb : Int)) = true := by simp; omega
  clear hA hB
  go_enter Tryd.func12, Tryd.ntmps12
  go_wp2
  go_ret
  exact ⟨ret_bool H.out.symm, 0, rfl⟩
theorem same_zero (a b : Option Addr) (ca cb : Nat) (w : World) :
    Calls Tryd.prog 12 #[.slice a 0 ca, .slice b 0 cb] w fun e w' => e = .returned (.bool true) ∧ ∃ m, w' = w.drewN m := by
  go_enter Tryd.func12, Tryd.ntmps12
  go_wp2
  refine wp_loop_rounds 1 ?_
  rw [rounds_succ]
  go_wp2
  go_ret
  exact ⟨rfl, 0, rfl⟩
/-- sameBytes: are the two lists the same? -/
theorem same_any (a b : Option Addr) (la ca lb cb : Nat) (A B : List Int) (w : World) (hA : Row w a la A) (hB : Row w b lb B) (hm : la ≤ 9223372036854775807) :
    Calls Tryd.prog 12 #[.slice a la ca, .slice b lb cb] w fun e w' => e = .returned (.bool (decide (A = B))) ∧ ∃ m, w' = w.drewN m := by
  by_cases hne : la = lb
  · subst hne
    by_cases h0 : la = 0
    · subst h0
      have e1 := List.length_eq_zero_iff.1 hA.len
      have e2 := List.length_eq_zero_iff.1 hB.len
      subst e1 e2
      exact (same_zero a b ca cb w).mono fun e w' h => h
    · obtain ⟨ba, oa, rfl, hca⟩ := hA.cells.resolve_left h0
      obtain ⟨bb, ob, rfl, hcb⟩ := hB.cells.resolve_left h0
      exact same_core ba oa ca bb ob cb la A B w hA.len hB.len hm hca hcb
  · exact same_ne_len a b la ca lb cb A B w hA.len hB.len hne

/-! ### copied -/
theorem Tryd.info5 : (Tryd.prog.info? 5).map (fun i => (i.zero, i.size, i.bytes)) = some (some (.int .u8 0), 1, 1) := by kernel_rfl
theorem nil_eq (a : Option Addr) (n c : Nat) (w : World) : (binOp .eql 27 (.slice a n c) (.slice none 0 0)).run Tryd.prog w = .ok (.bool a.isNone) w := by
  have h := Lib.run_eql_slice_nil (P := Tryd.prog) w 27 5 a n c 0 0 Tryd.underlying27
  simpa using h
theorem copied_nil (w : World) : Calls Tryd.prog 13 #[.slice none 0 0] w fun e w' => e = .returned (.slice none 0 0) ∧ w' = w := by
  have hn := nil_eq none 0 0
  go_enter Tryd.func13, Tryd.ntmps13
  go_wp2
  go_ret
  exact ⟨rfl, rfl⟩

theorem take_get {zs : List Int} {k : Nat} (h : k < zs.length) : (zs.take k).map (Value.int .u8) ++ [Value.int .u8 (zs.getD k 0)] = (zs.take (k + 1)).map (Value.int .u8) := by
  rw [List.take_succ_eq_append_getElem h, List.map_append]; congr 1; simp [h]

set_option maxHeartbeats 800000 in
/-- copied, of a list that is not nil, with n bytes. -/
theorem copied_core (x : Addr) (n c : Nat) (zs : List Int) (w : World) (hz : zs.length = n) (hn : n ≤ 140737488351232)
    (hx : n = 0 ∨ x.spot = none) (hc : ∀ i, i < n → w.cell? ⟨x.block, x.off + i, none⟩ = some (.int .u8 (zs.getD i 0))) :
    Calls Tryd.prog 13 #[.slice (some x) n c] w fun e w' => e = .returned (.slice (some ⟨w.heap.size, 0, none⟩) n n) ∧ w'.ownsRow w.heap.size 5 1 (.slice (some ⟨w.heap.size, 0, none⟩) n n) n (zs.map (Value.int .u8)) ∧ Below w.heap.size w w' := by
  obtain ⟨i0, hi, hz0, hz1, hz2⟩ := info_parts Tryd.info5
  have hn0 := nil_eq (some x) n c
  simp only [Option.isNone_some] at hn0
  go_enter Tryd.func13, Tryd.ntmps13
  go_wp2_with (at_make; refine wpList_make_own _ rfl _ _ 27 rfl w.heap.size 5 i0 (.int .u8 0) 1 Tryd.underlying27 hi hz0 hz1 _ _ _ n rfl rfl (by omega) ?b2 ?b3 (Nat.le_refl _) ?_)
  case b2 => rw [hz2]; omega
  case b3 => unfold maxLen; omega
  intro w0 hown0 hgrow0
  clear hn0
  go_wp2
  go_loopw [3, 4] (fun out si wr => ∃ k : Nat, k ≤ n ∧ si = .int .i64 k ∧ out = .slice (some ⟨w.heap.size, 0, none⟩) k n ∧
      wr.ownsRow w.heap.size 5 1 (.slice (some ⟨w.heap.size, 0, none⟩) k n) k ((zs.take k).map (Value.int .u8)) ∧ Below w.heap.size w wr)
    (fun _ si _ => n - (intOf si).toNat)
  case atStart => exact ⟨0, Nat.zero_le _, rfl, rfl, hown0, (Below.refl _ _).grown hgrow0 (Nat.le_refl _) (fun k h => by cases h)⟩
  case round =>
    obtain ⟨k, hk, rfl, rfl, hown, hnx⟩ := hrel
    by_cases hlt : k < n
    · obtain ⟨b, off, sp⟩ := x
      have hsp : sp = none := hx.resolve_left (by omega)
      subst hsp
      have hck := hc k hlt
      simp only at hck
      have hcr : wr.cell? ⟨b, off + k, none⟩ = some (.int .u8 (zs.getD k 0)) := (hnx.cell (p := ⟨b, off + k, none⟩) (World.block_lt_of_cell? w _ hck)).trans hck
      have hkz : k < zs.length := by omega
      clear hc hck
      go_wp2_with (at_builtin; refine wpList_append_fits _ rfl (.tmp 16) (.tmp 21) 27 rfl w.heap.size 5 i0 1 Tryd.underlying27 hi hz1 w.heap.size k n _ rfl (hown.alloc _) ⟨wr.heap.size, 0, none⟩ 1 1 [.int .u8 (zs.getD k 0)] rfl rfl (by intro t u ht; match t, ht with | 0, ht => simp at ht; subst ht; simp [Addr.add, hkz]) (by intro u hu; simp at hu; subst hu; rfl) (by omega) ?_; intro w1 hown1 hgrow1)
      exact ⟨⟨k + 1, by omega, by go_num, rfl, by rw [← take_get hkz]; exact hown1, (hnx.alloc hnx.size _).grown hgrow1 (by simp; have := hnx.size; omega) (fun k hk => by cases hk; exact Nat.le_refl _)⟩, by simp [intOf]; omega⟩
    · have hkn : k = n := by omega
      subst hkn
      rw [List.take_of_length_le (by omega)] at hown
      go_wp2
      go_ret
      exact ⟨rfl, hown, hnx⟩

/-- A list that a call owns, as a row of bytes. -/
theorem Row.of_own {w : World} {base n : Nat} {v : Value} {zs : List Int} (h : w.ownsRow base 5 1 v n (zs.map (Value.int .u8))) (hu : ∀ i : Nat, 0 ≤ zs[i]?.getD 0 ∧ zs[i]?.getD 0 ≤ 255) :
    ∃ a cap, v = .slice a n cap ∧ n ≤ cap ∧ Row w a n zs := by
  have hl : zs.length = n := by have := h.1; simpa using this
  rcases h.2 with ⟨rfl, rfl⟩ | ⟨g, cap, cur, rfl, hb, hg, hn, hm, hs, ht⟩
  · exact ⟨none, 0, rfl, Nat.le_refl _, ⟨hl, hu, .inl rfl⟩⟩
  · refine ⟨_, cap, rfl, hn, ⟨hl, hu, .inr ⟨g, 0, rfl, fun i hi => ?_⟩⟩⟩
    have := h.cells (g := g) rfl i (.int .u8 (zs.getD i 0)) (by simp [hl, hi])
    have ha : (⟨g, 0, none⟩ : Addr).add i = ⟨g, 0 + i, none⟩ := by unfold Addr.add; split <;> simp_all
    rwa [ha] at this

/-- copied: a list of its own with the same bytes (none, if there is none). -/
theorem copied_any (a : Option Addr) (n c : Nat) (zs : List Int) (w : World) (hr : Row w a n zs) (hn : n ≤ 140737488351232) (h0 : a = none → n = 0 ∧ c = 0) :
    Calls Tryd.prog 13 #[.slice a n c] w fun e w' => ∃ a' c', e = .returned (.slice a' n c') ∧ (a = none → a' = none ∧ c' = 0) ∧ w'.ownsRow w.heap.size 5 1 (.slice a' n c') n (zs.map (Value.int .u8)) ∧ Below w.heap.size w w' := by
  cases a with
  | none =>
    obtain ⟨rfl, rfl⟩ := h0 rfl
    have e1 := List.length_eq_zero_iff.1 hr.len
    subst e1
    exact (copied_nil w).mono fun e w' ⟨he, hw⟩ => ⟨none, 0, he, fun _ => ⟨rfl, rfl⟩, by subst hw; exact World.ownsRow_nil _ _ _ _, by subst hw; exact Below.refl _ _⟩
  | some x =>
    refine (copied_core x n c zs w hr.len hn ?_ ?_).mono fun e w' ⟨he, h1, h2⟩ => ⟨_, _, he, (fun h => by cases h), h1, h2⟩
    · rcases hr.cells with h | ⟨b, off, hb, _⟩
      · exact .inl h
      · cases hb; exact .inr rfl
    · intro i hi
      rcases hr.cells with h | ⟨b, off, hb, hc⟩
      · omega
      · cases hb; exact hc i hi
end Go.Proofs.YtgecdnmgifcghaaDoor
