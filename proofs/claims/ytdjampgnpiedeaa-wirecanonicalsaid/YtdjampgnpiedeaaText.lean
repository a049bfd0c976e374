/-
  The words, and the contract of 'text'.
-/
import Derived.Test.YtdjampgnpiedeaaBack
import Derived.Test.YtdjampgnpiedeaaWrites
namespace Go.Proofs.Ytdjampgnpiedeaa
open Go.RowKit

/-- A word: is it signed, the number without a sign, the one with a sign. -/
structure Wd where
  s : Bool
  x : Int
  n : Int
def Wd.ok (d : Wd) : Prop := 0 ≤ d.x ∧ d.x ≤ 18446744073709551615 ∧ -9223372036854775808 ≤ d.n ∧ d.n ≤ 9223372036854775807
def Wd.bytes (d : Wd) : List Int := if d.s then enc (zig d.n).toNat else enc d.x.toNat
def textOf (ws : List Wd) : List Int := (ws.map Wd.bytes).flatten
instance : Inhabited Wd := ⟨⟨false, 0, 0⟩⟩

/-- The words lie at a. -/
structure Wds (w : World) (a : Option Addr) (n : Nat) (ws : List Wd) : Prop where
  len : ws.length = n
  ok : ∀ d ∈ ws, d.ok
  cells : n = 0 ∨ ∃ b off, a = some ⟨b, off, none⟩ ∧ ∀ i (h : i < ws.length), w.cell? ⟨b, off + i * 3, none⟩ = some (.bool ws[i].s) ∧ w.cell? ⟨b, off + i * 3 + 1, none⟩ = some (.int .u64 ws[i].x) ∧ w.cell? ⟨b, off + i * 3 + 2, none⟩ = some (.int .i64 ws[i].n)

theorem Wds.below {w w' : World} {a : Option Addr} {n : Nat} {ws : List Wd} (h : Wds w a n ws) (hb : Below w.heap.size w w') : Wds w' a n ws := by
  refine ⟨h.len, h.ok, ?_⟩
  rcases h.cells with h0 | ⟨b, off, ha, hc⟩
  · exact .inl h0
  · refine .inr ⟨b, off, ha, fun i hi => ?_⟩
    obtain ⟨h1, h2, h3⟩ := hc i hi
    have hlt := World.block_lt_of_cell? w _ h1
    exact ⟨(hb.cell (p := ⟨b, off + i * 3, none⟩) hlt).trans h1, (hb.cell (p := ⟨b, off + i * 3 + 1, none⟩) hlt).trans h2, (hb.cell (p := ⟨b, off + i * 3 + 2, none⟩) hlt).trans h3⟩

theorem Wd.bytes_len (d : Wd) (h : d.ok) : d.bytes.length ≤ 10 := by
  unfold Wd.bytes
  have hz := zig_bd d.n h.2.2.1 h.2.2.2
  have h1 := h.1; have h2 := h.2.1
  split <;> exact enc_le _ (by omega)
theorem textOf_len (ws : List Wd) (h : ∀ d ∈ ws, d.ok) : (textOf ws).length ≤ 10 * ws.length := by
  induction ws with
  | nil => simp [textOf]
  | cons d r ih =>
    have h1 := Wd.bytes_len d (h d (by simp))
    have h2 := ih (fun z hz => h z (by simp [hz]))
    simp only [textOf, List.map_cons, List.flatten_cons, List.length_append, List.length_cons] at h2 ⊢
    omega
theorem textOf_snoc (ws : List Wd) (k : Nat) (h : k < ws.length) : textOf (ws.take (k + 1)) = textOf (ws.take k) ++ ws[k].bytes := by
  simp only [textOf]; rw [List.take_succ_eq_append_getElem h, List.map_append, List.flatten_append]; simp

theorem grown_of {w W : World} {r : Option Nat} (hb : Below w.heap.size w W) : w.grownBy W r := ⟨hb.os, hb.tape, hb.output, hb.size, fun k hk _ => hb.block k hk⟩
theorem own_apart {w : World} {base : Nat} {v : Value} {n : Nat} {xs : List Value} (_h : w.ownsRow base 5 1 v n xs) : v.ownBlock = none ∨ v.ownBlock ≠ none := by cases v.ownBlock <;> simp

set_option maxHeartbeats 800000 in
theorem text_core (b off n c : Nat) (ws : List Wd) (w : World) (hl : ws.length = n) (hn : (n : Int) ≤ 5864062014634) (hok : ∀ d ∈ ws, d.ok)
    (hc : ∀ i (h : i < ws.length), w.cell? ⟨b, off + i * 3, none⟩ = some (.bool ws[i].s) ∧ w.cell? ⟨b, off + i * 3 + 1, none⟩ = some (.int .u64 ws[i].x) ∧ w.cell? ⟨b, off + i * 3 + 2, none⟩ = some (.int .i64 ws[i].n)) :
    Calls Try.prog 33 #[.slice (some ⟨b, off, none⟩) n c] w fun e w' => ∃ v, e = .returned v ∧ w'.ownsRow w.heap.size 5 1 v (textOf ws).length ((textOf ws).map (Value.int .u8)) ∧ Below w.heap.size w w' := by
  obtain ⟨i0, hi, hz0, hz1, hz2⟩ := info_parts Try.info5
  have HOK := (show Hid (∀ d ∈ ws, d.ok) from hok)
  have HCC := (show Hid (∀ i (h : i < ws.length), w.cell? ⟨b, off + i * 3, none⟩ = some (.bool ws[i].s) ∧ w.cell? ⟨b, off + i * 3 + 1, none⟩ = some (.int .u64 ws[i].x) ∧ w.cell? ⟨b, off + i * 3 + 2, none⟩ = some (.int .i64 ws[i].n)) from hc)
  clear hok hc
  go_enter Try.func33, Try.ntmps33
  go_wp2
  go_loopw [3, 4] (fun v si wr => ∃ k : Nat, k ≤ n ∧ si = .int .i64 k ∧ wr.ownsRow w.heap.size 5 1 v (textOf (ws.take k)).length ((textOf (ws.take k)).map (Value.int .u8)) ∧ Below w.heap.size w wr)
    (fun _ si _ => n - (intOf si).toNat)
  case atStart => exact ⟨0, Nat.zero_le _, rfl, World.ownsRow_nil _ _ _ _, Below.refl _ _⟩
  case round =>
    obtain ⟨k, hk, rfl, hown, hnx⟩ := hrel
    have HL : Hid ((textOf (ws.take k)).length ≤ 10 * n) := by
      have := textOf_len (ws.take k) (fun d hd => HOK.out d (List.mem_of_mem_take hd))
      rw [List.length_take] at this
      show _ ≤ _
      omega
    by_cases hlt : k < n
    · have hkl : k < ws.length := by omega
      obtain ⟨h1, h2, h3⟩ := HCC.out k hkl
      have hblt := World.block_lt_of_cell? w _ h1
      replace h1 := (hnx.cell (p := ⟨b, off + k * 3, none⟩) hblt).trans h1
      replace h2 := (hnx.cell (p := ⟨b, off + k * 3 + 1, none⟩) hblt).trans h2
      replace h3 := (hnx.cell (p := ⟨b, off + k * 3 + 2, none⟩) hblt).trans h3
      have HD : Hid (ws[k].ok) := HOK.out _ (List.getElem_mem hkl)
      have HT : Hid (textOf (ws.take (k + 1)) = textOf (ws.take k) ++ ws[k].bytes) := textOf_snoc ws k hkl
      generalize ws[k] = d at h1 h2 h3 HD HT
      obtain ⟨s, x, m⟩ := d
      have x1 : 0 ≤ x := HD.out.1
      have x2 : x ≤ 18446744073709551615 := HD.out.2.1
      have m1 : -9223372036854775808 ≤ m := HD.out.2.2.1
      have m2 : m ≤ 9223372036854775807 := HD.out.2.2.2
      simp only at h1 h2 h3
      cases s
      · have HE : Hid (textOf (ws.take (k + 1)) = textOf (ws.take k) ++ enc x.toNat) := HT.out
        have hEl : (enc x.toNat).length ≤ 10 := enc_le _ (by omega)
        go_wp2_with fail
        refine (uv_any _ _ x1 x2).mono ?_
        rintro e w1 ⟨c1, rfl, hown1, hb1⟩
        generalize enc x.toNat = E at HE hEl hown1
        have HL1 := HL
        clear HD HT HCC HOK h1 h2 h3
        have hown' := hown.kept (grown_of hb1) (own_apart hown)
        go_wp2_with (at_builtin; refine wpList_append_own _ rfl (.tmp 24) (.tmp 30) 28 rfl w.heap.size 5 i0 (.int .u8 0) 1 1 Try.underlying28 hi hz0 hz1 hz2 rfl (by decide) _ _ _ rfl hown' ⟨wr.heap.size, 0, none⟩ E.length c1 (E.map (Value.int .u8)) rfl (by simp) (hown1.cells rfl) (ints_oneCell _ _) (by have := HL1.out; unfold maxLen; omega) (by have := HL1.out; omega) (by have := hnx.size; have := hb1.size; omega) ?_; intro v' w2 hown2 hgrow2 _)
        refine ⟨⟨k + 1, by omega, by go_num, ?_, ?_⟩, by simp [intOf]; omega⟩
        · rw [HE.out, List.length_append, List.map_append]; exact hown2
        · exact (hnx.trans (hb1.mono hnx.size)).grown hgrow2 (by have := hnx.size; have := hb1.size; omega) (fun j hj => (hown.lt j hj).1)
      · have HE : Hid (textOf (ws.take (k + 1)) = textOf (ws.take k) ++ enc (zig m).toNat) := HT.out
        have hEl : (enc (zig m).toNat).length ≤ 10 := enc_le _ (by have := zig_bd m m1 m2; omega)
        go_wp2_with fail
        refine (vr_any _ _ m1 m2).mono ?_
        rintro e w1 ⟨c1, rfl, hown1, hb1⟩
        generalize enc (zig m).toNat = E at HE hEl hown1
        have HL1 := HL
        clear HD HT HCC HOK h1 h2 h3
        have hown' := hown.kept (grown_of hb1) (own_apart hown)
        go_wp2_with (at_builtin; refine wpList_append_own _ rfl (.tmp 16) (.tmp 22) 28 rfl w.heap.size 5 i0 (.int .u8 0) 1 1 Try.underlying28 hi hz0 hz1 hz2 rfl (by decide) _ _ _ rfl hown' ⟨wr.heap.size, 0, none⟩ E.length c1 (E.map (Value.int .u8)) rfl (by simp) (hown1.cells rfl) (ints_oneCell _ _) (by have := HL1.out; unfold maxLen; omega) (by have := HL1.out; omega) (by have := hnx.size; have := hb1.size; omega) ?_; intro v' w2 hown2 hgrow2 _)
        refine ⟨⟨k + 1, by omega, by go_num, ?_, ?_⟩, by simp [intOf]; omega⟩
        · rw [HE.out, List.length_append, List.map_append]; exact hown2
        · exact (hnx.trans (hb1.mono hnx.size)).grown hgrow2 (by have := hnx.size; have := hb1.size; omega) (fun j hj => (hown.lt j hj).1)
    · have hkn : k = n := by omega
      subst hkn
      rw [List.take_of_length_le (by omega)] at hown
      clear HCC HOK
      go_wp2
      go_ret
      exact ⟨_, rfl, hown, hnx⟩
theorem text_zero (a : Option Addr) (c : Nat) (w : World) :
    Calls Try.prog 33 #[.slice a 0 c] w fun e w' => e = .returned (.slice none 0 0) ∧ w' = w := by
  go_enter Try.func33, Try.ntmps33
  go_wp2
  refine wp_loop_rounds 1 ?_
  rw [rounds_succ]
  go_wp2
  go_ret
  exact ⟨rfl, rfl⟩
/-- text: the words' bytes, one behind the other, in new memory. -/
theorem text_any (a : Option Addr) (n c : Nat) (ws : List Wd) (w : World) (h : Wds w a n ws) (hn : (n : Int) ≤ 5864062014634) :
    Calls Try.prog 33 #[.slice a n c] w fun e w' => ∃ v, e = .returned v ∧ w'.ownsRow w.heap.size 5 1 v (textOf ws).length ((textOf ws).map (Value.int .u8)) ∧ Below w.heap.size w w' := by
  by_cases h0 : n = 0
  · subst h0
    have e1 := List.length_eq_zero_iff.1 h.len
    subst e1
    exact (text_zero a c w).mono fun e w' ⟨he, hw⟩ => ⟨_, he, World.ownsRow_nil _ _ _ _, by subst hw; exact Below.refl _ _⟩
  · obtain ⟨b, off, rfl, hc⟩ := h.cells.resolve_left h0
    exact text_core b off n c ws w h.len hn h.ok hc
theorem Wd.bytes_u8 (d : Wd) : ∀ z ∈ d.bytes, 0 ≤ z ∧ z ≤ 255 := by
  intro z hz
  have key : ∀ x : Nat, z ∈ enc x → 0 ≤ z ∧ z ≤ 255 := by
    intro x hx
    obtain ⟨i, hi, rfl⟩ := List.getElem_of_mem hx
    have := enc_u8 x i hi
    simpa [hi] using this
  unfold Wd.bytes at hz
  split at hz <;> exact key _ hz
theorem textOf_u8 (ws : List Wd) : ∀ z ∈ textOf ws, 0 ≤ z ∧ z ≤ 255 := by
  intro z hz
  simp only [textOf, List.mem_flatten, List.mem_map] at hz
  obtain ⟨l, ⟨d, _, rfl⟩, hz⟩ := hz
  exact d.bytes_u8 z hz
theorem u8_of_mem {l : List Int} (h : ∀ z ∈ l, 0 ≤ z ∧ z ≤ 255) : ∀ i : Nat, 0 ≤ l[i]?.getD 0 ∧ l[i]?.getD 0 ≤ 255 := by
  intro i
  by_cases hi : i < l.length
  · have := h l[i] (List.getElem_mem hi)
    simpa [hi] using this
  · rw [List.getElem?_eq_none (by omega)]; simp
theorem mem_of_u8 {l : List Int} (h : ∀ i : Nat, 0 ≤ l[i]?.getD 0 ∧ l[i]?.getD 0 ≤ 255) : ∀ z ∈ l, 0 ≤ z ∧ z ≤ 255 := by
  intro z hz
  obtain ⟨i, hi, rfl⟩ := List.getElem_of_mem hz
  have := h i
  simpa [hi] using this
end Go.Proofs.Ytdjampgnpiedeaa
