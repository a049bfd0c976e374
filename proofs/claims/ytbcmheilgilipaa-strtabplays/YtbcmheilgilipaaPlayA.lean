/-
  Calls with nil tables; Encode at every limit.
-/
import Derived.Test.YtbcmheilgilipaaDecs
namespace Go.Proofs.Ytbcmheilgilipaa
open Go.RowKit Go.Maps
theorem intern_nil (s : ByteArray) (w : World) : Calls Try.prog 20 #[.pointer none, .string s] w fun e w' => e = .returned (.tuple #[.int .i64 0, .int .i64 1]) ∧ w' = w := by
  go_enter Try.func20, Try.ntmps20
  go_wp2
  go_ret2
  exact ⟨rfl, rfl⟩
theorem rintern_nil (s : ByteArray) (w : World) : Calls Try.prog 32 #[.pointer none, .string s] w fun e w' => e = .returned (.tuple #[.int .i64 0, .int .i64 1]) ∧ w' = w := by
  go_enter Try.func32, Try.ntmps32
  go_wp2
  go_ret2
  exact ⟨rfl, rfl⟩
theorem find_nil (s : ByteArray) (w : World) : Calls Try.prog 28 #[.pointer none, .string s] w fun e w' => e = .returned (.tuple #[.int .i64 0, .bool false]) ∧ w' = w := by
  go_enter Try.func28, Try.ntmps28
  go_wp2
  go_ret2
  exact ⟨rfl, rfl⟩
theorem rfind_nil (s : ByteArray) (w : World) : Calls Try.prog 33 #[.pointer none, .string s] w fun e w' => e = .returned (.tuple #[.int .i64 0, .bool false]) ∧ w' = w := by
  go_enter Try.func33, Try.ntmps33
  go_wp2
  go_ret2
  exact ⟨rfl, rfl⟩
theorem text_nil (i : Int) (w : World) : Calls Try.prog 17 #[.pointer none, .int .i64 i] w fun e w' => e = .returned (.tuple #[.string ⟨#[]⟩, .int .i64 1]) ∧ w' = w := by
  go_enter Try.func17, Try.ntmps17
  go_wp2
  go_ret2
  exact ⟨rfl, rfl⟩
theorem rtext_nil (i : Int) (w : World) : Calls Try.prog 27 #[.pointer none, .int .i64 i] w fun e w' => e = .returned (.tuple #[.string ⟨#[]⟩, .int .i64 1]) ∧ w' = w := by
  go_enter Try.func27, Try.ntmps27
  go_wp2
  go_ret2
  exact ⟨rfl, rfl⟩
theorem enc_nil (i : Int) (w : World) : Calls Try.prog 11 #[.pointer none, .int .i64 i] w fun e w' => e = .returned (.tuple #[.slice none 0 0, .int .i64 1]) ∧ w' = w := by
  go_enter Try.func11, Try.ntmps11
  go_wp2
  go_ret2
  exact ⟨rfl, rfl⟩
theorem renc_nil (i : Int) (w : World) : Calls Try.prog 34 #[.pointer none, .int .i64 i] w fun e w' => e = .returned (.tuple #[.slice none 0 0, .int .i64 1]) ∧ w' = w := by
  go_enter Try.func34, Try.ntmps34
  go_wp2
  go_ret2
  exact ⟨rfl, rfl⟩
theorem enc_bad (tb : Nat) (i : Int) (w : World) (h : ¬ (64 ≤ i ∧ i ≤ 1048576)) : Calls Try.prog 11 #[.pointer (some ⟨tb, 0, none⟩), .int .i64 i] w fun e w' => e = .returned (.tuple #[.slice none 0 0, .int .i64 2]) ∧ w' = w := by
  have Q := lm_any i w
  rw [decide_eq_false h] at Q
  have HQ : Hid _ := hide Q
  clear Q h
  go_enter Try.func11, Try.ntmps11
  go_wp2_with fail
  refine HQ.out.mono ?_
  rintro e w1 ⟨rfl, rfl⟩
  go_wp2
  go_ret2
  exact ⟨rfl, rfl⟩
theorem renc_bad (tb : Nat) (i : Int) (w : World) (h : ¬ (64 ≤ i ∧ i ≤ 1048576)) : Calls Try.prog 34 #[.pointer (some ⟨tb, 0, none⟩), .int .i64 i] w fun e w' => e = .returned (.tuple #[.slice none 0 0, .int .i64 2]) ∧ w' = w := by
  by_cases h1 : i < 64
  · have q1 : decide (i < 64) = true := decide_eq_true h1
    clear h
    go_enter Try.func34, Try.ntmps34
    go_wp2
    go_ret2
    exact ⟨rfl, rfl⟩
  · have q1 : decide (i < 64) = false := decide_eq_false h1
    have q2 : decide ((1048576 : Int) < i) = true := decide_eq_true (by omega)
    clear h
    go_enter Try.func34, Try.ntmps34
    go_wp2
    go_ret2
    exact ⟨rfl, rfl⟩
theorem renc_any {w : World} {tb : Nat} {S : Nat → Prop} {L : List ByteArray} {v : Value} (h : RTab w tb S L v) (lim : Nat) (hlo : 64 ≤ (lim : Int)) (hhi : (lim : Int) ≤ 1048576) :
    Calls Try.prog 34 #[.pointer (some ⟨tb, 0, none⟩), .int .i64 (lim : Int)] w fun e w' => ∃ a c bs vals, e = .returned (.tuple #[.slice a bs.length c, .int .i64 0]) ∧ Cutting L lim 0 bs ∧ Lists w' w.heap.size (.slice a bs.length c) bs vals ∧ Below w.heap.size w w' := by
  have c0 := h.cell0
  obtain ⟨a0, k0, rfl⟩ := own_form h.own
  have HQ : Hid _ := hide (rbodies_any a0 k0 lim L w (SRow.of_own h.own) h.len h.sum h.small hhi)
  have q1 : decide ((lim : Int) < 64) = false := decide_eq_false (by omega)
  have q2 : decide ((1048576 : Int) < (lim : Int)) = false := decide_eq_false (by omega)
  clear h
  go_enter Try.func34, Try.ntmps34
  go_wp2_with fail
  refine HQ.out.mono ?_
  rintro e w2 ⟨a, c, bs, vals, rfl, hcu, hls, hb⟩
  have H1 : Hid (Cutting L lim 0 bs) := hcu
  have H2 : Hid (Lists w2 w.heap.size (.slice a bs.length c) bs vals) := hls
  have H3 : Hid (Below w.heap.size w w2) := hb
  clear hcu hls hb
  go_wp2
  go_ret2
  exact ⟨a, c, bs, vals, rfl, H1.out, H2.out, H3.out⟩
end Go.Proofs.Ytbcmheilgilipaa
