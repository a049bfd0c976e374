/-
  A table and the document's with the same strings.
-/
import Derived.Test.YtffakkdmojhjkaaRefL
namespace Go.Proofs.Ytffakkdmojhjkaa
open Go.RowKit Go.Maps Go.Shelf
/-- The program's table and the document's, all their memory new since w0, none shared. -/
structure Tbs (w0 w : World) (tb ub : Nat) (T U : Nat → Prop) (L : List ByteArray) : Prop where
  tab : ∃ tv tm, Tab w tb T L tv tm
  rtab : ∃ tv, RTab w ub U L tv
  dis : ∀ k, T k → ¬ U k
  rng : ∀ k, T k ∨ U k → w0.heap.size ≤ k ∧ k < w.heap.size
  bel : Below w0.heap.size w0 w
theorem Tbs.but {w0 w w' : World} {tb ub : Nat} {T U V : Nat → Prop} {L : List ByteArray} (h : Tbs w0 w tb ub T U L) (hb : But V w w') (hV : ∀ k, V k → w.heap.size ≤ k ∨ (w0.heap.size ≤ k ∧ ¬ T k ∧ ¬ U k)) : Tbs w0 w' tb ub T U L := by
  obtain ⟨tv, tm, ht⟩ := h.tab
  obtain ⟨rv, hr⟩ := h.rtab
  have hs := hb.size
  have h0 := h.bel.size
  refine ⟨⟨tv, tm, ht.kept hb (fun k hk e => ?_)⟩, ⟨rv, hr.kept hb (fun k hk e => ?_)⟩, h.dis, fun k hk => ?_, h.bel.trans (hb.below h.bel.size (fun k e => ?_))⟩
  · have := h.rng k (.inl hk)
    rcases hV k e with e | e
    · omega
    · exact e.2.1 hk
  · have := h.rng k (.inr hk)
    rcases hV k e with e | e
    · omega
    · exact e.2.2 hk
  · have := h.rng k hk; omega
  · rcases hV k e with e | e
    · omega
    · exact e.1
theorem Tbs.below {w0 w w' : World} {tb ub : Nat} {T U : Nat → Prop} {L : List ByteArray} (h : Tbs w0 w tb ub T U L) (hb : Below w.heap.size w w') : Tbs w0 w' tb ub T U L := h.but (V := fun _ => False) (But.of_below hb) (fun _ e => e.elim)
theorem tabs_new (w : World) : Tbs w ((w.alloc (.cells #[.slice none 0 0, .map none, .int .i64 0] 73)).alloc (.cells #[.slice none 0 0, .int .i64 0] 75)) w.heap.size (w.heap.size + 1) (fun k => k = w.heap.size) (fun k => k = w.heap.size + 1) [] := by
  have tA := tab_new w
  obtain ⟨Wa, hWa⟩ : ∃ Wa, Wa = w.alloc (.cells #[.slice none 0 0, .map none, .int .i64 0] 73) := ⟨_, rfl⟩
  have sa : Wa.heap.size = w.heap.size + 1 := by rw [hWa]; simp
  have bA : Below w.heap.size w Wa := by rw [hWa]; exact (Below.refl _ w).alloc (Nat.le_refl _) _
  rw [← hWa] at tA ⊢
  refine ⟨⟨_, _, tA.kept (T := fun _ => False) (But.of_below ((Below.refl _ Wa).alloc (Nat.le_refl _) _)) (fun _ _ e => e)⟩, ⟨.slice none 0 0, ?_⟩, by omega, fun k hk => by simp [sa]; omega, bA.alloc (by omega) _⟩
  have e := heap_alloc_new Wa (.cells #[.slice none 0 0, .int .i64 0] 75)
  rw [sa] at e
  exact ⟨e, World.ownsRow_nil _ _ _ _, rfl, by simp [Value.ownBlock], by simp, by simp, by simp, by simp [total]⟩
theorem tabs_step {w0 w w1 w2 : World} {tb ub : Nat} {T U : Nat → Prop} {L L' : List ByteArray} (h : Tbs w0 w tb ub T U L) {tv tm rv : Value}
    (ht : Tab w1 tb (fun k => T k ∨ (w.heap.size ≤ k ∧ k < w1.heap.size)) L' tv tm) (hb1 : But T w w1)
    (hr : RTab w2 ub (fun k => U k ∨ (w1.heap.size ≤ k ∧ k < w2.heap.size)) L' rv) (hb2 : But U w1 w2) :
    Tbs w0 w2 tb ub (fun k => T k ∨ (w.heap.size ≤ k ∧ k < w1.heap.size)) (fun k => U k ∨ (w1.heap.size ≤ k ∧ k < w2.heap.size)) L' := by
  have s1 := hb1.size
  have s2 := hb2.size
  have s0 := h.bel.size
  refine ⟨⟨tv, tm, ht.kept hb2 (fun k hk e => ?_)⟩, ⟨rv, hr⟩, fun k h1 h2 => ?_, fun k hk => ?_, (h.bel.trans (hb1.below s0 (fun k hk => (h.rng k (.inl hk)).1))).trans (hb2.below (by omega) (fun k hk => (h.rng k (.inr hk)).1))⟩
  · rcases hk with hk | hk
    · exact h.dis k hk e
    · have := h.rng k (.inr e); omega
  · rcases h1 with h1 | h1 <;> rcases h2 with h2 | h2
    · exact h.dis k h1 h2
    · have := h.rng k (.inl h1); omega
    · have := h.rng k (.inr h2); omega
    · omega
  · rcases hk with (hk | hk) | (hk | hk)
    · have := h.rng k (.inl hk); omega
    · omega
    · have := h.rng k (.inr hk); omega
    · omega
theorem internV_form (L : List ByteArray) (s : ByteArray) : ∃ a b : Int, internV L s = .tuple #[.int .i64 a, .int .i64 b] := by
  unfold internV
  split
  · exact ⟨_, _, rfl⟩
  · split
    · exact ⟨_, _, rfl⟩
    · exact ⟨_, _, rfl⟩
theorem tables_any (a : Option Addr) (n c : Nat) (ls : List ByteArray) (w : World) (hr : SRow w a n ls) (hn : (n : Int) ≤ 9223372036854775806) (hz : ∀ s ∈ ls, s.size ≤ maxLen) :
    Calls Try.prog 9 #[.slice a n c] w fun e w' => ∃ tb ub T U L, e = .returned (.tuple #[.pointer (some ⟨tb, 0, none⟩), .pointer (some ⟨ub, 0, none⟩)]) ∧ Tbs w w' tb ub T U L := by
  have HR : Hid (SRow w a n ls) := hr
  have HL : Hid (ls.length = n) := hr.len
  have HZ : Hid _ := hide hz
  have HN : Hid _ := hide (new_any w)
  obtain ⟨Wa, hWa⟩ : ∃ Wa, Wa = w.alloc (.cells #[.slice none 0 0, .map none, .int .i64 0] 73) := ⟨_, rfl⟩
  have HT0 : Hid _ := hide (tabs_new w)
  rw [← hWa] at HN HT0
  have HRN : Hid _ := hide (rnew_any Wa)
  have sa : Wa.heap.size = w.heap.size + 1 := by rw [hWa]; simp
  obtain ⟨Wb, hWb⟩ : ∃ Wb, Wb = Wa.alloc (.cells #[.slice none 0 0, .int .i64 0] 75) := ⟨_, rfl⟩
  rw [← hWb, sa] at HRN
  rw [← hWb] at HT0
  clear hWa hWb hr hz sa
  go_enter Try.func9, Try.ntmps9
  go_wp2_with fail
  refine HN.out.mono ?_
  rintro e w1 ⟨rfl, rfl⟩
  go_wp2_with fail
  refine HRN.out.mono ?_
  rintro e w2 ⟨rfl, hw2⟩
  rw [hw2]
  clear hw2 w2
  go_wp2
  go_loopw [6] (fun i wr => ∃ (k : Nat) (T U : Nat → Prop) (L : List ByteArray), k ≤ n ∧ i = .int .i64 k ∧ Tbs w wr w.heap.size (w.heap.size + 1) T U L) (fun i _ => n - (intOf i).toNat)
  case atStart => exact ⟨0, _, _, _, Nat.zero_le _, rfl, HT0.out⟩
  case round =>
    clear HT0
    obtain ⟨k, T, U, L, hk, rfl, hT⟩ := hrel
    have HT : Hid _ := hide hT
    by_cases hlt : k < n
    · obtain ⟨b, off, rfl, hc⟩ := HR.out.at hlt
      have hbw := World.block_lt_of_cell? w _ hc
      have hcr : wr.cell? ⟨b, off + k, none⟩ = some (.string (ls.getD k ByteArray.empty)) := cell_block hc (hT.bel.block b hbw)
      have HC : Hid _ := hide hc
      have hsm : (ls.getD k ByteArray.empty).size ≤ maxLen := HZ.out _ (List.mem_of_getElem? (getD_get (by have := HL.out; omega)))
      generalize ls.getD k ByteArray.empty = s at hcr hsm HC
      obtain ⟨tv, tm, ht⟩ := hT.tab
      obtain ⟨rv, hrt⟩ := hT.rtab
      have HQ1 : Hid _ := hide (intern_any ht s hsm)
      have HRt : Hid _ := hide hrt
      have hltI : (k : Int) < n := by omega
      have HS : Hid _ := hide hsm
      have HBw : Hid (b < w.heap.size) := hbw
      clear hc ht hrt hT hsm hbw
      obtain ⟨r1, r2, hV⟩ := internV_form L s
      rw [hV] at HQ1
      have HV : Hid _ := hide hV
      clear hV
      go_wp2_with fail
      refine HQ1.out.mono ?_
      rintro e w3 ⟨rfl, ⟨v3, m3, ht3⟩, hb3⟩
      have HT3 : Hid _ := hide ht3
      have HB3 : Hid (But T wr w3) := hb3
      have hc3 : w3.cell? ⟨b, off + k, none⟩ = some (.string s) := cell_but hcr hb3 (fun e => by have := HT.out.rng b (.inl e); have := HBw.out; omega)
      have HQ2 : Hid _ := hide (rintern_any (HRt.out.kept hb3 (fun k h1 h2 => HT.out.dis k h2 h1)) s HS.out)
      rw [HV.out] at HQ2
      clear ht3 hb3 hcr HQ1
      go_wp2_with fail
      refine HQ2.out.mono ?_
      rintro e w4 ⟨rfl, ⟨v4, ht4⟩, hb4⟩
      have HT4 : Hid _ := hide (tabs_step HT.out HT3.out HB3.out ht4 hb4)
      clear ht4 hb4 hc3 HQ2
      go_wp2
      exact ⟨⟨k + 1, _, _, _, by omega, by go_num, HT4.out⟩, by simp [intOf]; omega⟩
    · have hltI : ¬ (k : Int) < n := by omega
      clear hT
      go_wp2
      go_ret2
      exact ⟨_, _, rfl, T, U, L, HT.out⟩
end Go.Proofs.Ytffakkdmojhjkaa
