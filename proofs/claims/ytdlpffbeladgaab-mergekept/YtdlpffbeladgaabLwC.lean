/-
  The law's twin and made.
-/
import Derived.Test.YtdlpffbeladgaabLwB
import Derived.Test.YtdlpffbeladgaabLwA
import Derived.Lib.SliceRun
namespace Go.Proofs.Ytdlpffbeladgaab
open Go.RowKit
def layS : Lay ByteArray := ⟨fun s => [.string s], 1, by decide, fun _ => rfl, by intro a u hu; simp at hu; rcases hu with rfl; rfl⟩
theorem Try.infoS : (Try.prog.info? 9).map (fun i => (i.zero, i.size, i.bytes)) = some (some (.string ⟨#[]⟩), 1, 16) := by kernel_rfl
/-- A stack that can be read. -/
def Stk (w : World) (e : Vt) : Prop := ∃ S : List ByteArray, TRow layS w e.s.a e.s.n S ∧ (e.s.a = none → e.s.n = 0 ∧ e.s.c = 0) ∧ e.s.n * 16 ≤ 140737488355328
theorem Stk.below {w w' : World} {e : Vt} (h : Stk w e) (hb : Below w.heap.size w w') : Stk w' e := by
  obtain ⟨S, h1, h2, h3⟩ := h
  exact ⟨S, h1.below hb, h2, h3⟩
/-- The same event, its stack as long. -/
structure Twn (e f : Vt) : Prop where
  g : f.g = e.g
  kind : f.kind = e.kind
  obj : f.obj = e.obj
  arg : f.arg = e.arg
  n : f.s.n = e.s.n
structure Twns (es fs : List Vt) : Prop where
  len : fs.length = es.length
  each : ∀ (i : Nat) (e f : Vt), es[i]? = some e → fs[i]? = some f → Twn e f
theorem Twns.snoc {es fs : List Vt} (h : Twns es fs) {e f : Vt} (he : Twn e f) : Twns (es ++ [e]) (fs ++ [f]) := by
  refine ⟨by simp [h.len], fun i x y hx hy => ?_⟩
  by_cases hi : i < es.length
  · rw [List.getElem?_append_left hi] at hx
    rw [List.getElem?_append_left (by rw [h.len]; exact hi)] at hy
    exact h.each i x y hx hy
  · have := get_lt hx
    rw [List.length_append, List.length_singleton] at this
    have e9 : i = es.length := by omega
    subst e9
    rw [List.getElem?_append_right (Nat.le_refl _), Nat.sub_self] at hx
    rw [List.getElem?_append_right (by rw [h.len]; exact Nat.le_refl _), h.len, Nat.sub_self] at hy
    simp at hx hy
    subst hx; subst hy
    exact he
set_option maxRecDepth 8000 in
set_option maxHeartbeats 6400000 in
theorem twin_any (w : World) (a : Option Addr) (n c : Nat) (es : List Vt) (hr : TRow layV w a n es) (h0 : a = none → n = 0 ∧ c = 0) (hS : ∀ e ∈ es, Stk w e) (hn : n * 56 ≤ 140737488355328) :
    Calls Try.prog 5 #[.slice a n c] w fun r w' => ∃ v fs, r = .returned v ∧ Own layV 30 w' w.heap.size v fs ∧ Twns es fs ∧ Below w.heap.size w w' := by
  obtain ⟨i0, hi0, hz0, hz1, hz2⟩ := info_parts Try.infoV
  obtain ⟨i1, hi1, hy0, hy1, hy2⟩ := info_parts Try.infoS
  have qT : ∀ (w : World) (a : Option Addr) (n c n' c' : Nat), (binOp .eql 22 (.slice a n c) (.slice none n' c')).run Try.prog w = .ok (.bool a.isNone) w := fun w a n c n' c' => Lib.run_eql_slice_nil w _ _ a n c n' c' Try.underlying22
  have qS : ∀ (w : World) (a : Option Addr) (n c n' c' : Nat), (binOp .neq 28 (.slice a n c) (.slice none n' c')).run Try.prog w = .ok (.bool (!a.isNone)) w := fun w a n c n' c' => by
    simp only [binOp]
    simp [Op.equal, Op.maxDepth, Lib.run_equalIn_slice_nil w 9999 28 _ a n c n' c' Try.underlying28]
  cases a with
  | none =>
    have hE : es = [] := List.eq_nil_of_length_eq_zero (by rw [hr.len]; exact (h0 rfl).1)
    clear hr h0 hS
    subst hE
    go_enter Try.func5, Try.ntmps5
    go_wp2
    go_ret
    exact ⟨_, [], rfl, Own.nil _ _ _ _, ⟨rfl, fun i e f h => by simp at h⟩, Below.refl _ _⟩
  | some ad =>
    have HR : Hid _ := hide hr
    have HL : Hid _ := hide hr.len
    have HS : Hid _ := hide hS
    have hnI : (n : Int) ≤ 2600000000000 := by omega
    obtain ⟨w2, hmk, o2, g2⟩ := run_make_own (P := Try.prog) w w.heap.size 22 30 i0 _ 5 Try.underlying22 hi0 hz0 hz1 .i64 .i64 n (by rw [hz2]; omega) (by unfold maxLen; omega) (Nat.le_refl _)
    have HO2 : Hid (Own layV 30 w2 w.heap.size (.slice (some ⟨w.heap.size, 0, none⟩) 0 n) []) := hide o2
    have HB2 : Hid (Below w.heap.size w w2) := hide ((Below.refl _ _).grown g2 (Nat.le_refl _) (fun k hk => by cases hk))
    clear hr h0 hS o2 g2
    go_enter Try.func5, Try.ntmps5
    go_wp2_with fail
    go_loopw [3, 4] (fun v i wr => ∃ (k : Nat) (fs : List Vt), i = .int .i64 k ∧ k ≤ n ∧ Hid (Own layV 30 wr w.heap.size v fs) ∧ Hid (Twns (es.take k) fs) ∧ Hid (Below w.heap.size w wr)) (fun _ i _ => n - numV i)
    case atStart => exact ⟨0, [], rfl, Nat.zero_le _, HO2, hide ⟨rfl, fun i e f h => by simp at h⟩, HB2⟩
    case round =>
      obtain ⟨k, fs, rfl, hk, HO, HT, HB⟩ := hrel
      obtain ⟨va, vc, hvv, -, -⟩ := own_form HO.out
      have hrl : fs.length = k := by rw [HT.out.len, List.length_take, HL.out]; omega
      rw [hrl] at hvv
      subst hvv
      have HRL : Hid _ := hide hrl
      clear hrl hmk
      by_cases hlt : k < n
      · have hltI : (k : Int) < (n : Int) := by omega
        obtain ⟨e, he⟩ : ∃ r, es[k]? = some r := ⟨es[k]'(by rw [HL.out]; exact hlt), List.getElem?_eq_getElem _⟩
        obtain ⟨b1, o1, hq9, hb1, hc1⟩ := (HR.out.below HB.out).at (by omega)
        injection hq9 with hq9
        subst hq9
        obtain ⟨S, hsr, hs0, hsn⟩ := (HS.out e (List.mem_of_getElem? he)).below HB.out
        have x0 := hc1 k e he 0 _ rfl
        have x1 := hc1 k e he 1 _ rfl
        have x2 := hc1 k e he 2 _ rfl
        have x3 := hc1 k e he 3 _ rfl
        have x4 := hc1 k e he 4 _ rfl
        simp only [layV, Nat.add_zero] at x0 x1 x2 x3 x4
        have HTk : Hid (es.take (k + 1) = es.take k ++ [e]) := hide (by
          have hlk := get_lt he
          rw [List.take_succ_eq_append_getElem hlk]
          rw [List.getElem?_eq_getElem hlk] at he
          rw [Option.some.inj he])
        clear hc1 he
        obtain ⟨eg, ek, eo, ea, sa, sn, sc⟩ := e
        dsimp only at x0 x1 x2 x3 x4 hsr hs0 hsn
        obtain ⟨w3, hw3⟩ : ∃ w3, w3 = wr.alloc (.cells #[.int .i64 eg, .int .i64 ek, .int .u64 eo, .int .u64 ea, .slice sa sn sc] 30) := ⟨_, rfl⟩
        have b3 : Below wr.heap.size wr w3 := by rw [hw3]; exact below_alloc1 _ _
        have s3 : wr.heap.size < w3.heap.size := by rw [hw3]; simp
        have r3 : w3.heap[wr.heap.size]? = some (.cells #[.int .i64 eg, .int .i64 ek, .int .u64 eo, .int .u64 ea, .slice sa sn sc] 30 (0, 0)) := by rw [hw3]; exact heap_new _ _
        have hsr3 := hsr.below b3
        have z4 : w3.cell? ⟨wr.heap.size, 4, none⟩ = some (.slice sa sn sc) := cell_at r3 rfl
        have HW3 : Hid _ := hide hw3
        have HB3 : Hid _ := hide b3
        have HR3 : Hid _ := hide r3
        have hwsz : w.heap.size ≤ w3.heap.size := by have := HB.out.size; omega
        have hwr : w.heap.size ≤ wr.heap.size := HB.out.size
        clear hw3 b3 r3 hsr
        cases sa with
        | none =>
          obtain ⟨hs1, hs2⟩ := hs0 rfl
          subst hs1; subst hs2
          have HSR : Hid _ := hide hsr3
          clear hsr3 hs0
          go_wp2_with (first
          | (at_builtin; rw [← HW3.out]; refine append_lay layS _ 28 9 i1 _ 16 Try.underlying28 hi1 hy0 hy1 hy2 rfl rfl (.tmp 29) (.tmp 31) rfl w.heap.size (.slice none 0 0) [] rfl (Own.nil layS 9 w3 w.heap.size) _ _ _ S rfl HSR.out (fun _ => ⟨rfl, rfl⟩) (by simp [maxLen]) (by simp) hwsz ?_; intro v4 w4 o4 g4 l4
             have hb4 : Below w3.heap.size w3 w4 := (Below.refl _ _).grown g4 (Nat.le_refl _) (fun q hq => by have hq9 : (Value.slice none 0 0).ownBlock = some q := hq; cases hq9)
             rw [List.nil_append] at o4
             obtain ⟨ta, tc, hv4, -, -⟩ := own_form o4
             rw [HSR.out.len] at hv4
             subst hv4
             have r4 := (hb4.block wr.heap.size s3).trans HR3.out
             have z0 : w4.cell? ⟨wr.heap.size, 0, none⟩ = some (.int .i64 eg) := cell_at r4 rfl
             have z1 : w4.cell? ⟨wr.heap.size, 1, none⟩ = some (.int .i64 ek) := cell_at r4 rfl
             have z2 : w4.cell? ⟨wr.heap.size, 2, none⟩ = some (.int .u64 eo) := cell_at r4 rfl
             have z3 : w4.cell? ⟨wr.heap.size, 3, none⟩ = some (.int .u64 ea) := cell_at r4 rfl
             have y4 := cell_at (i := 4) r4 rfl
             have fz := frz r4 4
             have HB4 : Hid (Below wr.heap.size wr w4) := hide (HB3.out.trans (hb4.mono (Nat.le_of_lt s3)))
             clear o4 g4 l4 hb4 r4)
          | (at_builtin; refine append_lay layV _ 22 30 i0 _ 56 Try.underlying22 hi0 hz0 hz1 hz2 rfl rfl (.tmp 35) (.tmp 37) rfl w.heap.size (.slice va k vc) fs rfl (HO.out.below ((HB4.out.setCell (p := ⟨wr.heap.size, 4, none⟩) (Nat.le_refl _) _).alloc (by have := HB4.out.size; simp [World.setCell]; omega) _)) _ _ _ [(⟨eg, ek, eo, ea, ⟨ta, 0, tc⟩⟩ : Vt)] rfl (TRow.one (heap_newS (by simp [World.setCell]))) (fun e => by cases e) (by rw [HRL.out]; unfold maxLen; omega) (by rw [HRL.out]; omega) (by have := HB4.out.size; simp [World.setCell]; omega) ?_; intro v9 w9 o9 g9 l9))
          have HO9 : Hid _ := hide o9
          have HT9 : Hid (Twns (es.take (k + 1)) (fs ++ [⟨eg, ek, eo, ea, ⟨ta, 0, tc⟩⟩])) := hide (by rw [HTk.out]; exact HT.out.snoc ⟨rfl, rfl, rfl, rfl, rfl⟩)
          have HB9 : Hid (Below w.heap.size w w9) := hide (HB.out.trans (((((HB4.out.setCell (p := ⟨wr.heap.size, 4, none⟩) (Nat.le_refl _) _).alloc (by have := HB4.out.size; simp [World.setCell]; omega) _).mono hwr).grown g9 (by have := HB4.out.size; simp [World.setCell]; omega) (fun q hq => (HO.out.lt q hq).1))))
          clear o9 g9 l9 z0 z1 z2 z3 y4 fz x0 x1 x2 x3 x4 z4
          go_wp2
          exact ⟨⟨k + 1, _, by go_num, by omega, HO9, HT9, HB9⟩, by simp [numV]; omega⟩
        | some sd =>
          have HSR : Hid _ := hide hsr3
          obtain ⟨w5, hmk, o5, g5⟩ := run_make_own (P := Try.prog) w3 w.heap.size 28 9 i1 _ 1 Try.underlying28 hi1 hy0 hy1 .i64 .i64 sn (by rw [hy2]; omega) (by unfold maxLen; omega) hwsz
          have b5 : Below w3.heap.size w3 w5 := (Below.refl _ _).grown g5 (Nat.le_refl _) (fun k hk => by cases hk)
          have HO5 : Hid (Own layS 9 w5 w.heap.size (.slice (some ⟨w3.heap.size, 0, none⟩) 0 sn) []) := hide o5
          have y45 : w5.cell? ⟨wr.heap.size, 4, none⟩ = some (.slice (some sd) sn sc) := (b5.cell (p := ⟨wr.heap.size, 4, none⟩) s3).trans z4
          have HB5 : Hid _ := hide b5
          have hsI : (sn : Int) ≤ 8796093022208 := by omega
          clear hsr3 hs0 o5 g5 b5
          go_upto_region 10 with fail
          rw [← HW3.out]
          go_wp2_with (first
          | (at_builtin; refine append_lay layS _ 28 9 i1 _ 16 Try.underlying28 hi1 hy0 hy1 hy2 rfl rfl (.tmp 29) (.tmp 31) rfl w.heap.size (.slice (some ⟨w3.heap.size, 0, none⟩) 0 sn) [] rfl HO5.out _ _ _ S rfl (HSR.out.below HB5.out) (fun e => by cases e) (by simp [maxLen]; omega) (by simp; omega) (Nat.le_trans hwsz HB5.out.size) ?_; intro v4 w4 o4 g4 l4
             have hb4 : Below w3.heap.size w3 w4 := HB5.out.grown g4 HB5.out.size (fun q hq => by have hq9 : (Value.slice (some ⟨w3.heap.size, 0, none⟩) 0 sn).ownBlock = some q := hq; cases hq9; exact Nat.le_refl _)
             rw [List.nil_append] at o4
             obtain ⟨ta, tc, hv4, -, -⟩ := own_form o4
             rw [HSR.out.len] at hv4
             subst hv4
             have r4 := (hb4.block wr.heap.size s3).trans HR3.out
             have z0 : w4.cell? ⟨wr.heap.size, 0, none⟩ = some (.int .i64 eg) := cell_at r4 rfl
             have z1 : w4.cell? ⟨wr.heap.size, 1, none⟩ = some (.int .i64 ek) := cell_at r4 rfl
             have z2 : w4.cell? ⟨wr.heap.size, 2, none⟩ = some (.int .u64 eo) := cell_at r4 rfl
             have z3 : w4.cell? ⟨wr.heap.size, 3, none⟩ = some (.int .u64 ea) := cell_at r4 rfl
             have y4 := cell_at (i := 4) r4 rfl
             have fz := frz r4 4
             have HB4 : Hid (Below wr.heap.size wr w4) := hide (HB3.out.trans (hb4.mono (Nat.le_of_lt s3)))
             clear o4 g4 l4 hb4 r4)
          | (at_builtin; refine append_lay layV _ 22 30 i0 _ 56 Try.underlying22 hi0 hz0 hz1 hz2 rfl rfl (.tmp 35) (.tmp 37) rfl w.heap.size (.slice va k vc) fs rfl (HO.out.below ((HB4.out.setCell (p := ⟨wr.heap.size, 4, none⟩) (Nat.le_refl _) _).alloc (by have := HB4.out.size; simp [World.setCell]; omega) _)) _ _ _ [(⟨eg, ek, eo, ea, ⟨ta, sn, tc⟩⟩ : Vt)] rfl (TRow.one (heap_newS (by simp [World.setCell]))) (fun e => by cases e) (by rw [HRL.out]; unfold maxLen; omega) (by rw [HRL.out]; omega) (by have := HB4.out.size; simp [World.setCell]; omega) ?_; intro v9 w9 o9 g9 l9))
          have HO9 : Hid _ := hide o9
          have HT9 : Hid (Twns (es.take (k + 1)) (fs ++ [⟨eg, ek, eo, ea, ⟨ta, sn, tc⟩⟩])) := hide (by rw [HTk.out]; exact HT.out.snoc ⟨rfl, rfl, rfl, rfl, rfl⟩)
          have HB9 : Hid (Below w.heap.size w w9) := hide (HB.out.trans (((((HB4.out.setCell (p := ⟨wr.heap.size, 4, none⟩) (Nat.le_refl _) _).alloc (by have := HB4.out.size; simp [World.setCell]; omega) _).mono hwr).grown g9 (by have := HB4.out.size; simp [World.setCell]; omega) (fun q hq => (HO.out.lt q hq).1))))
          clear o9 g9 l9 z0 z1 z2 z3 y4 fz x0 x1 x2 x3 x4 z4
          go_wp2
          exact ⟨⟨k + 1, _, by go_num, by omega, HO9, HT9, HB9⟩, by simp [numV]; omega⟩
      · have hltI : ¬ (k : Int) < (n : Int) := by omega
        obtain rfl : k = n := by omega
        go_wp2
        go_ret
        have h9 := HT.out
        rw [List.take_of_length_le (by rw [HL.out]; exact Nat.le_refl _)] at h9
        exact ⟨_, rfl, fs, HO.out, h9, HB.out⟩
end Go.Proofs.Ytdlpffbeladgaab
