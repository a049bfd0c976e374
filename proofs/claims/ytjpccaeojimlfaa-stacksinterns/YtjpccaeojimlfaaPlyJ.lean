/-
  A play.
-/
import Derived.Test.YtjpccaeojimlfaaPlyF
import Derived.Test.YtjpccaeojimlfaaPlyH
import Derived.Test.YtjpccaeojimlfaaPlyI
import Derived.Deep.QuietTactic
namespace Go.Proofs.Ytjpccaeojimlfaa
open Go.RowKit Go.Maps Go.Shelf
attribute [local go_sem] Oper.semAt_some
structure SOp5 where
  kd : Int
  wh : Int
  sa : Option Addr
  sc : Nat
  ls : List ByteArray
  s : ByteArray
  n : Int
structure SOp5.ok (w : World) (o : SOp5) : Prop where
  s : o.s.size ≤ maxLen
  n : -9223372036854775808 ≤ o.n ∧ o.n ≤ 9223372036854775807
  row : SRow w o.sa o.ls.length o.ls
  nil : o.sa = none → o.ls.length = 0 ∧ o.sc = 0
  len : (o.ls.length : Int) ≤ 8796093021952
  small : ∀ s ∈ o.ls, s.size ≤ maxLen
structure Ops5 (w : World) (a : Option Addr) (n : Nat) (f : Nat → SOp5) : Prop where
  ok : ∀ i, i < n → (f i).ok w
  cells : n = 0 ∨ ∃ b off, a = some ⟨b, off, none⟩ ∧ ∀ i, i < n → w.cell? ⟨b, off + i * 5, none⟩ = some (.int .i64 (f i).kd) ∧ w.cell? ⟨b, off + i * 5 + 1, none⟩ = some (.int .i64 (f i).wh) ∧ w.cell? ⟨b, off + i * 5 + 2, none⟩ = some (.slice (f i).sa (f i).ls.length (f i).sc) ∧ w.cell? ⟨b, off + i * 5 + 3, none⟩ = some (.string (f i).s) ∧ w.cell? ⟨b, off + i * 5 + 4, none⟩ = some (.int .i64 (f i).n)
theorem Ops5.at {w w' : World} {a : Option Addr} {n : Nat} {f : Nat → SOp5} (h : Ops5 w a n f) (hb : Below w.heap.size w w') {i : Nat} (hi : i < n) : ∃ b off, a = some ⟨b, off, none⟩ ∧ w'.cell? ⟨b, off + i * 5, none⟩ = some (.int .i64 (f i).kd) ∧ w'.cell? ⟨b, off + i * 5 + 1, none⟩ = some (.int .i64 (f i).wh) ∧ w'.cell? ⟨b, off + i * 5 + 2, none⟩ = some (.slice (f i).sa (f i).ls.length (f i).sc) ∧ w'.cell? ⟨b, off + i * 5 + 3, none⟩ = some (.string (f i).s) ∧ w'.cell? ⟨b, off + i * 5 + 4, none⟩ = some (.int .i64 (f i).n) := by
  rcases h.cells with h0 | ⟨b, off, ha, hc⟩
  · omega
  · obtain ⟨e0, e1, e2, e3, e4⟩ := hc i hi
    have hl := World.block_lt_of_cell? w _ e0
    exact ⟨b, off, ha, (hb.cell (p := ⟨b, off + i * 5, none⟩) hl).trans e0, (hb.cell (p := ⟨b, off + i * 5 + 1, none⟩) hl).trans e1, (hb.cell (p := ⟨b, off + i * 5 + 2, none⟩) hl).trans e2, (hb.cell (p := ⟨b, off + i * 5 + 3, none⟩) hl).trans e3, (hb.cell (p := ⟨b, off + i * 5 + 4, none⟩) hl).trans e4⟩
theorem step_any {w0 w : World} {pb : Nat} (h : Play5 w0 w pb) (o : SOp5) (ho : o.ok w0) :
    Calls Try.prog 43 #[.pointer (some ⟨pb, 0, none⟩), .agg #[.int .i64 o.kd, .int .i64 o.wh, .slice o.sa o.ls.length o.sc, .string o.s, .int .i64 o.n]] w (StepR w0 pb) := by
  obtain ⟨tb, ub, FB, GB, f, g, Z, L, N, P, hp⟩ := h
  obtain ⟨kd, wh, sa, sc, ls, s, n⟩ := o
  by_cases k0 : kd = 0
  · subst k0; exact step_intern hp wh sa _ sc s n ls ho.row ho.nil ho.len ho.small
  by_cases k1 : kd = 1
  · subst k1; exact step_stack hp wh sa _ sc s n ho.n
  by_cases k2 : kd = 2
  · subst k2; exact step_len hp wh sa _ sc s n
  by_cases k3 : kd = 3
  · subst k3; exact step_word hp wh sa _ sc s n ho.s
  by_cases k4 : kd = 4
  · subst k4; exact step_table hp wh sa _ sc s n
  by_cases k5 : kd = 5
  · subst k5; exact step_encode hp wh sa _ sc s n
  exact step_other hp kd wh sa _ sc s n (by omega)
theorem Play5.below {w0 w w' : World} {pb : Nat} (h : Play5 w0 w pb) (hb : Below w.heap.size w w') : Play5 w0 w' pb := by
  obtain ⟨tb, ub, FB, GB, f, g, Z, L, N, P, hp⟩ := h
  exact ⟨tb, ub, FB, GB, f, g, Z, L, N, P, hp.below hb⟩
theorem Play5.bel {w0 w : World} {pb : Nat} (h : Play5 w0 w pb) : Below w0.heap.size w0 w := by
  obtain ⟨tb, ub, FB, GB, f, g, Z, L, N, P, hp⟩ := h
  exact hp.bel
set_option maxHeartbeats 2000000 in
set_option maxRecDepth 4000 in
theorem play_any (a : Option Addr) (n c : Nat) (f : Nat → SOp5) (lo hi : Int) (w : World) (hr : Ops5 w a n f) (hn : (n : Int) ≤ 9223372036854775806) :
    Calls Try.prog 27 #[.slice a n c, .int .i64 lo, .int .i64 hi] w fun e w' => e = .returned (.bool true) ∧ Below w.heap.size w w' := by
  have HR : Hid (Ops5 w a n f) := hr
  have HB : Hid _ := hide (begin_any w)
  clear hr
  go_enter Try.func27, Try.ntmps27
  go_wp2_with fail
  refine HB.out.mono ?_
  rintro e w1 ⟨pb, rfl, hp⟩
  have HP : Hid (Play5 w w1 pb) := hp
  clear hp HB
  go_wp2
  go_loopw [8] (fun i wr => ∃ k : Nat, k ≤ 3 ∧ i = .int .i64 k ∧ Play5 w wr pb) (fun i _ => 3 - (intOf i).toNat)
  case atStart => exact ⟨0, by decide, rfl, HP.out⟩
  case round =>
    clear HP
    obtain ⟨k, hk, rfl, hD⟩ := hrel
    have HD : Hid (Play5 w wr pb) := hD
    obtain ⟨tb, ub, FB, GB, f1, g1, Z, L, N, P, hp⟩ := hD
    obtain ⟨_, _, p2, p3⟩ := hp.cells
    by_cases hlt : k < 3
    · obtain ⟨kF, kG⟩ := hp.forest k hlt
      clear hp
      have hk3 : k = 0 ∨ k = 1 ∨ k = 2 := by omega
      rcases hk3 with rfl | rfl | rfl
      · rw [fPtr_lt _ (by decide)] at kF kG
        go_wp2
        go_quiet (fail)
        go_wp2
        exact ⟨⟨1, by omega, by go_num, HD.out.below (below_drewN (Below.refl _ _) _)⟩, by simp [intOf]⟩
      · rw [fPtr_lt _ (by decide)] at kF kG
        go_wp2
        go_quiet (fail)
        go_wp2
        exact ⟨⟨2, by omega, by go_num, HD.out.below (below_drewN (Below.refl _ _) _)⟩, by simp [intOf]⟩
      · rw [fPtr_no _ (by decide)] at kF kG
        go_wp2
        go_quiet (fail)
        go_wp2
        exact ⟨⟨3, by omega, by go_num, HD.out.below (below_drewN (Below.refl _ _) _)⟩, by simp [intOf]⟩
    · clear hp p2 p3
      have hltI : ¬ (k : Int) < 3 := by omega
      go_wp2
      go_loopw [9] (fun i wr => ∃ k : Nat, k ≤ n ∧ i = .int .i64 k ∧ Play5 w wr pb) (fun i _ => n - (intOf i).toNat)
      case atStart => exact ⟨0, Nat.zero_le _, rfl, HD.out⟩
      case round =>
        clear HD
        obtain ⟨j, hj, rfl, hD⟩ := hrel
        have HD : Hid (Play5 w wr pb) := hD
        clear hD
        by_cases hlj : j < n
        · obtain ⟨b, off, rfl, e0, e1, e2, e3, e4⟩ := HR.out.at HD.out.bel hlj
          have HOk : Hid ((f j).ok w) := HR.out.ok j hlj
          have hljI : (j : Int) < n := by omega
          generalize f j = o at e0 e1 e2 e3 e4 HOk
          have HQ : Hid _ := hide (step_any HD.out o HOk.out)
          obtain ⟨kd, wh, sa, sc, ls, s, N⟩ := o
          dsimp only at e0 e1 e2 e3 e4 HQ
          go_wp2_with fail
          refine HQ.out.mono ?_
          rintro e w2 ⟨rfl, hD2⟩
          have HD2 : Hid (Play5 w w2 pb) := hD2
          clear hD2 HQ e0 e1 e2 e3 e4
          go_wp2
          exact ⟨⟨j + 1, by omega, by go_num, HD2.out⟩, by simp [intOf]; omega⟩
        · have hljI : ¬ (j : Int) < n := by omega
          go_wp2
          go_ret
          exact ⟨rfl, HD.out.bel⟩
theorem interns_any (a : Option Addr) (n c : Nat) (f : Nat → SOp5) (w : World) (hr : Ops5 w a n f) (hn : (n : Int) ≤ 9223372036854775806) :
    Calls Try.prog 7 #[.slice a n c] w fun e w' => e = .returned (.bool true) ∧ Below w.heap.size w w' := by
  have HQ : Hid _ := hide (play_any a n c f 0 0 w hr hn)
  clear hr
  go_enter Try.func7, Try.ntmps7
  go_wp2_with fail
  refine HQ.out.mono ?_
  rintro e w1 ⟨rfl, hb⟩
  have HB : Hid _ := hide hb
  clear hb
  go_wp2
  go_ret
  exact ⟨rfl, HB.out⟩
theorem plays_any (a : Option Addr) (n c : Nat) (f : Nat → SOp5) (w : World) (hr : Ops5 w a n f) (hn : (n : Int) ≤ 9223372036854775806) :
    Calls Try.prog 8 #[.slice a n c] w fun e w' => e = .returned (.bool true) ∧ Below w.heap.size w w' := by
  have HQ : Hid _ := hide (play_any a n c f 0 5 w hr hn)
  clear hr
  go_enter Try.func8, Try.ntmps8
  go_wp2_with fail
  refine HQ.out.mono ?_
  rintro e w1 ⟨rfl, hb⟩
  have HB : Hid _ := hide hb
  clear hb
  go_wp2
  go_ret
  exact ⟨rfl, HB.out⟩
end Go.Proofs.Ytjpccaeojimlfaa
