import Derived.Test.YtpnacioliccglaaDoorZt16
set_option maxRecDepth 8000
set_option maxHeartbeats 8000000
set_option linter.unusedVariables false
/-
  Intern of a forest.
-/
namespace Go.Proofs.YtpnacioliccglaaDoor.E6
open Go.RowKit Go.Maps Go.Shelf
attribute [local go_sem] Oper.semAt_some
/-- A table and a forest over it. -/
structure St (w : World) (T S : Nat → Prop) (tb fb : Nat) (L : List ByteArray) (N : List Nd) : Prop where
  both : ∃ tv tm v mb, Tab w tb T L tv tm ∧ Frs w fb tb S N v mb
  dis : ∀ k, T k → ¬ S k
  tlt : ∀ k, T k → k < w.heap.size
  slt : ∀ k, S k → k < w.heap.size
theorem St.but {w w' : World} {T S U : Nat → Prop} {tb fb : Nat} {L : List ByteArray} {N : List Nd} (h : St w T S tb fb L N) (hb : But U w w') (hT : ∀ k, T k → ¬ U k) (hS : ∀ k, S k → ¬ U k) : St w' T S tb fb L N := by
  obtain ⟨tv, tm, v, mb, h1, h2⟩ := h.both
  exact ⟨⟨tv, tm, v, mb, h1.kept hb hT, h2.kept hb hS⟩, h.dis, fun k hk => Nat.lt_of_lt_of_le (h.tlt k hk) hb.size, fun k hk => Nat.lt_of_lt_of_le (h.slt k hk) hb.size⟩
theorem frozen_new (w : World) (u : Value) (t : TypeId) (j : Nat) : (w.alloc (.cells #[u] t)).frozen? ⟨w.heap.size, j, none⟩ = false := frozen_of_row _ _ j _ t (heap_alloc_new w _)
theorem rest_eq {L : List ByteArray} {N : List Nd} (ls : List ByteArray) : (kn L N 0 ls.reverse).2.reverse = ls.take (kn L N 0 ls.reverse).2.length := by
  have h := @kn_len L N ls.reverse 0
  have hl := h.1
  rw [List.length_reverse] at hl
  have e := h.2
  rw [List.length_reverse, List.drop_reverse, show ls.length - (ls.length - (kn L N 0 ls.reverse).2.length) = (kn L N 0 ls.reverse).2.length by omega] at e
  rw [e, List.reverse_reverse, ← e]
theorem restV_form {w : World} {a : Option Addr} {n c m : Nat} {ls : List ByteArray} (hr : SRow w a n ls) (hm : m ≤ n) (hc : n ≤ c) : ∃ ra rc, restV a c m = .slice ra m rc ∧ m ≤ rc ∧ SRow w ra m (ls.take m) ∧ (m ≠ 0 → ra = a) := by
  unfold restV
  by_cases h : m = 0
  · subst h; exact ⟨none, 0, by simp, Nat.le_refl _, ⟨by simp, .inl rfl⟩, fun e => absurd rfl e⟩
  · rw [if_neg h]; exact ⟨a, c, rfl, by omega, hr.take hm, fun _ => rfl⟩
def mids (L : List ByteArray) (N : List Nd) (id : Nat) (rest : List ByteArray) (k : Nat) : Stt := runs ⟨L, N, id⟩ (rest.take k)
theorem mids_all {L : List ByteArray} {N : List Nd} {id : Nat} {rest : List ByteArray} (h0 : Mid L N id rest.reverse 0 ⟨L, N, id⟩) (hR : Roomy L N.length rest.reverse) : ∀ k, k ≤ rest.length → Mid L N id rest.reverse k (mids L N id rest k) := by
  intro k
  induction k with
  | zero => intro _; exact h0
  | succ k ih =>
    intro hk
    have e : mids L N id rest (k + 1) = stp (mids L N id rest k) (rest.getD k ByteArray.empty) := by
      unfold mids; rw [← runs_snoc, List.take_add_one, getD_get (by omega)]; rfl
    rw [e]
    exact (ih (by omega)).step hR (by rw [List.reverse_reverse]; exact getD_get (by omega))
/-- What holds between two rounds of Intern. -/
structure Rnd (w0 : World) (T S : Nat → Prop) (tb fb ib : Nat) (s : Stt) (W : World) : Prop where
  st : ∃ T' S', St W T' S' tb fb s.L s.N ∧ (∀ k, T' k → T k ∨ w0.heap.size + 2 ≤ k) ∧ (∀ k, S' k → S k ∨ w0.heap.size + 2 ≤ k)
  but : But (fun k => T k ∨ S k ∨ k = ib) w0 W
  cell : W.cell? ⟨ib, 0, none⟩ = some (.int .i64 (s.id : Int))
  free : W.frozen? ⟨ib, 0, none⟩ = false
theorem cell_block {w w' : World} {a : Addr} {u : Value} (h : w.cell? a = some u) (hb : w'.heap[a.block]? = w.heap[a.block]?) : w'.cell? a = some u := by
  rw [← h]; unfold World.cell?; rw [hb]
theorem frozen_block {w w' : World} {a : Addr} (hb : w'.heap[a.block]? = w.heap[a.block]?) : w'.frozen? a = w.frozen? a := by
  unfold World.frozen?; rw [hb]
theorem but_put (W : World) (l : Nat) (o : Obj) : But (fun k => k = l) W (W.putObj l o) :=
  ⟨rfl, rfl, rfl, by simp, fun k _ hk => World.putObj_heap_other hk⟩
theorem Rnd.kept {w0 : World} {T S : Nat → Prop} {tb fb ib : Nat} {s : Stt} {W W' : World} {l : Nat} (h : Rnd w0 T S tb fb ib s W) (hb : But (fun k => k = l) W W') (hl : l = w0.heap.size ∨ l = w0.heap.size + 1) (hT : ∀ k, T k ∨ S k ∨ k = ib → k < w0.heap.size) : Rnd w0 T S tb fb ib s W' := by
  obtain ⟨T', S', hst, h1, h2⟩ := h.st
  have hne : ∀ k, (T k ∨ S k ∨ k = ib) ∨ w0.heap.size + 2 ≤ k → ¬ k = l := by
    intro k hk e
    rcases hk with hk | hk
    · have := hT k hk; omega
    · omega
  have hi : W'.heap[ib]? = W.heap[ib]? := hb.block ib (World.block_lt_of_cell? W _ h.cell) (hne ib (.inl (.inr (.inr rfl))))
  refine ⟨⟨T', S', hst.but hb ?_ ?_, h1, h2⟩, ?_, cell_block h.cell hi, (frozen_block (a := ⟨ib, 0, none⟩) hi).trans h.free⟩
  · intro k hk; exact hne k ((h1 k hk).imp (fun e => .inl e) id)
  · intro k hk; exact hne k ((h2 k hk).imp (fun e => .inr (.inl e)) id)
  · exact h.but.trans hb (fun i hi e => by subst e; omega)
set_option maxHeartbeats 2000000 in
set_option maxRecDepth 8000 in
theorem intern_f {w : World} {T S : Nat → Prop} {tb fb : Nat} {L : List ByteArray} {N : List Nd} (h : St w T S tb fb L N) (hg : Good L N) (a : Option Addr) (n c : Nat) (ls : List ByteArray) (hr : SRow w a n ls) (hn : n ≤ 16) (hc : n ≤ c) (hz : ∀ s ∈ ls, s.size ≤ maxLen)
    (hrT : ∀ b off, a = some ⟨b, off, none⟩ → n ≠ 0 → ¬ T b ∧ ¬ S b) (hR : Roomy L N.length (kn L N 0 ls.reverse).2.reverse) :
    Calls Tryd.prog 58 #[.pointer (some ⟨fb, 0, none⟩), .slice a n c] w fun e w' => e = .returned (.tuple #[.int .i64 ((runs ⟨L, N, (kn L N 0 ls.reverse).1⟩ (kn L N 0 ls.reverse).2).id : Int), .int .i64 0]) ∧
      (∃ T' S', St w' T' S' tb fb (runs ⟨L, N, (kn L N 0 ls.reverse).1⟩ (kn L N 0 ls.reverse).2).L (runs ⟨L, N, (kn L N 0 ls.reverse).1⟩ (kn L N 0 ls.reverse).2).N ∧ (∀ k, T' k → T k ∨ w.heap.size ≤ k) ∧ (∀ k, S' k → S k ∨ w.heap.size ≤ k)) ∧ But (fun k => T k ∨ S k) w w' := by
  have H : Hid (St w T S tb fb L N) := h
  have hn' : (n : Int) ≤ 16 := by omega
  obtain ⟨W0, hW0⟩ : ∃ W0, W0 = w.alloc (.cells #[.pointer (some ⟨fb, 0, none⟩)] 77) := ⟨_, rfl⟩
  have hb0 : But (fun _ => False) w W0 := by rw [hW0]; exact (But.refl _ _).alloc _
  have hS0 := h.but hb0 (fun _ _ e => e) (fun _ _ e => e)
  obtain ⟨tv, tm, v, mb, hT0, hF0⟩ := hS0.both
  have hr0 : SRow W0 a n ls := hr.but hb0 (fun _ _ _ _ e => e)
  have HM : Hid _ := hide (missing_any fb tb W0 hF0.cell0)
  have HK : Hid _ := hide (known_any hT0 hF0 a n c ls hr0 hn hc hz)
  have x0 : W0.cell? ⟨w.heap.size, 0, none⟩ = some (.pointer (some ⟨fb, 0, none⟩)) := by rw [hW0]; exact cell_new _ _ _
  have hB0 : W0.heap.size = w.heap.size + 1 := by rw [hW0]; simp
  have hre := rest_eq (L := L) (N := N) ls
  have hml := (@kn_len L N ls.reverse 0).1
  have HKL : Hid ((kn L N 0 ls.reverse).1 ≤ 262144) := hide (Nat.le_trans (kn_le (Nat.zero_le _)) hF0.len)
  have HMid : Hid _ := hide (Mid.start (r0 := ls.reverse) hg hT0.nodup rfl hR)
  obtain ⟨id, rest, hk⟩ : ∃ id rest, kn L N 0 ls.reverse = (id, rest) := ⟨_, _, rfl⟩
  rw [hk] at hR HK hre hml HMid HKL ⊢
  dsimp only at hR HK hre hml HMid HKL ⊢
  rw [List.length_reverse, hr.len] at hml
  obtain ⟨ra, rc, hrv, hrc, hrr, hra⟩ := restV_form hr0 hml hc
  rw [hrv] at HK
  rw [← hre] at hrr
  generalize hm : rest.length = m at HK hrv hrc hrr hra hml hre
  have H0 : Hid (St W0 T S tb fb L N) := hS0
  have HRr : Hid (SRow W0 ra m rest.reverse) := hrr
  have HBb : Hid (But (fun _ => False) w W0) := hb0
  have HG : Hid (Good L N) := hg
  have HRm : Hid (Roomy L N.length rest.reverse) := hR
  have HZ : Hid (∀ s ∈ rest.reverse, s.size ≤ maxLen) := hide (fun s hs => hz s (by rw [hre] at hs; exact List.mem_of_mem_take hs))
  have hra' : Hid (∀ b off, ra = some ⟨b, off, none⟩ → m ≠ 0 → ¬ T b ∧ ¬ S b) := hide (fun b off e hm0 => hrT b off (by rw [← hra hm0]; exact e) (by omega))
  have hid : id ≤ 262144 := HKL.out
  have HTS : Hid (∀ k, w.heap.size ≤ k → ¬ T k ∧ ¬ S k) := hide (fun k hk => ⟨fun e => by have := h.tlt k e; omega, fun e => by have := h.slt k e; omega⟩)
  have HRlt : Hid (∀ b off, ra = some ⟨b, off, none⟩ → m ≠ 0 → b < w.heap.size) := hide (fun b off e hm0 => by
    obtain ⟨b', off', e', hc'⟩ := hr.at (i := 0) (by omega)
    have : ra = a := hra hm0
    rw [this, e'] at e
    cases e
    exact World.block_lt_of_cell? w _ hc')
  have HMl : Hid (rest.length = m ∧ m ≤ 16) := ⟨hm, by omega⟩
  clear h hg hr hz hrT hR hb0 hS0 hT0 hF0 hr0 hk hre hrv hrr hra hm H HKL
  refine (callsIn_wide (n := 3)).1 ?_
  refine callsIn_of_wp_marks Tryd.func58 rfl trivial ?_ rfl
  simp only [Tryd.ntmps58, List.size_toArray, List.length_cons, List.length_nil, Nat.reduceAdd, Nat.reduceSub, Array.replicate_succ, Array.replicate_zero, List.push_toArray, List.append_toArray, List.nil_append, List.cons_append]
  gi_wp2_with fail
  rw [← hW0]
  have HW0 : Hid _ := hide hW0
  clear hW0
  refine ⟨trivial, CallsIn.mono (callsIn_wide.2 HM.out) ?_⟩
  rintro e w' ⟨rfl, rfl⟩
  gi_wp2_with fail
  refine ⟨trivial, CallsIn.mono (callsIn_wide.2 HK.out) ?_⟩
  rintro e w1 ⟨rfl, j, hj⟩
  have x1 : w1.cell? ⟨w.heap.size, 0, none⟩ = some (.pointer (some ⟨fb, 0, none⟩)) := by rw [hj]; exact cell_drewN x0 j
  have s1 : w1.heap.size = w.heap.size + 1 := by rw [hj]; exact hB0
  have hb1 : But (fun _ => False) w' w1 := by rw [hj]; exact But.of_below (below_drewN (Below.refl _ _) j)
  obtain ⟨W2, hW2⟩ : ∃ W2, W2 = w1.alloc (.cells #[.int .i64 (id : Int)] 3) := ⟨_, rfl⟩
  have hb2 : But (fun _ => False) w' W2 := by rw [hW2]; exact hb1.alloc _
  have H2 : Hid (St W2 T S tb fb L N) := hide (H0.out.but hb2 (fun _ _ e => e) (fun _ _ e => e))
  have R2 : Hid (SRow W2 ra m rest.reverse) := hide (HRr.out.but hb2 (fun _ _ _ _ e => e))
  have y2 : W2.cell? ⟨w.heap.size + 1, 0, none⟩ = some (.int .i64 (id : Int)) := by rw [hW2, ← s1]; exact cell_new _ _ _
  have z2 : W2.frozen? ⟨w.heap.size + 1, 0, none⟩ = false := by rw [hW2, ← s1]; exact frozen_new _ _ _ _
  have x2 : W2.cell? ⟨w.heap.size, 0, none⟩ = some (.pointer (some ⟨fb, 0, none⟩)) := by
    rw [hW2, ← x1]; exact (World.cell?_alloc_old _ _ _ (by rw [s1]; simp))
  have s2 : W2.heap.size = w.heap.size + 2 := by rw [hW2, World.size_alloc, s1]
  have B2 : Hid (But (fun _ => False) w W2) := hide (HBb.out.trans hb2 (fun _ _ e => e))
  clear hj hb1 hb2
  gi_wp2_with fail
  rw [← hW2]
  have HHW2 : Hid _ := hide hW2
  obtain ⟨tv2, tm2, v2, mb2, hT2, hF2⟩ := H2.out.both
  have HRo : Hid _ := hide (hasRoom_any hT2 hF2 ra m rc rest.reverse R2.out HMl.out.2 hrc HZ.out)
  clear hW2 hT2 hF2 x1 s1 x0 hB0
  refine ⟨trivial, CallsIn.mono (callsIn_wide.2 HRo.out) ?_⟩
  rintro e w3 ⟨⟨b, rfl, hb⟩, j3, hj3⟩
  obtain rfl : b = true := hb.2 HRm.out
  have b3 : But (fun _ => False) W2 w3 := by rw [hj3]; exact But.of_below (below_drewN (Below.refl _ _) j3)
  have y3 : w3.cell? ⟨w.heap.size + 1, 0, none⟩ = some (.int .i64 (id : Int)) := by rw [hj3]; exact cell_drewN y2 j3
  have z3 : w3.frozen? ⟨w.heap.size + 1, 0, none⟩ = false := by rw [hj3]; exact z2
  have x3 : w3.cell? ⟨w.heap.size, 0, none⟩ = some (.pointer (some ⟨fb, 0, none⟩)) := by rw [hj3]; exact cell_drewN x2 j3
  have s3 : w3.heap.size = w.heap.size + 2 := by rw [hj3]; exact s2
  have H3 : Hid (St w3 T S tb fb L N) := hide (H2.out.but b3 (fun _ _ e => e) (fun _ _ e => e))
  have R3 : Hid (SRow w3 ra m rest.reverse) := hide (R2.out.but b3 (fun _ _ _ _ e => e))
  have B3 : Hid (But (fun _ => False) w w3) := hide (B2.out.trans b3 (fun _ _ e => e))
  clear hj3 b3 y2 z2 x2 s2 hb
  gi_wp2_with fail
  refine ⟨trivial, CallsIn.mono (backward_in _ _ _ _ _) ?_⟩
  rintro e w4 ⟨rfl, hw4⟩
  have b4 : But (fun _ => False) w3 w4 := by rw [hw4]; exact (But.refl _ _).alloc _
  have s4 : w4.heap.size = w.heap.size + 3 := by rw [hw4, World.size_alloc, s3]
  have x4 : w4.cell? ⟨w.heap.size, 0, none⟩ = some (.pointer (some ⟨fb, 0, none⟩)) := cell_block x3 (b4.block _ (World.block_lt_of_cell? _ _ x3) (fun e => e))
  have y4 : w4.cell? ⟨w.heap.size + 1, 0, none⟩ = some (.int .i64 (id : Int)) := cell_block y3 (b4.block _ (World.block_lt_of_cell? _ _ y3) (fun e => e))
  have z4 : w4.frozen? ⟨w.heap.size + 1, 0, none⟩ = false := (frozen_block (a := ⟨w.heap.size + 1, 0, none⟩) (b4.block _ (World.block_lt_of_cell? _ _ y3) (fun e => e))).trans z3
  have v4 : w4.cell? ⟨w.heap.size + 2, 0, none⟩ = some (.slice ra m rc) := by rw [hw4, ← s3]; exact cell_new _ _ _
  have H4 : Hid (St w4 T S tb fb L N) := hide (H3.out.but b4 (fun _ _ e => e) (fun _ _ e => e))
  have R4 : Hid (SRow w4 ra m rest.reverse) := hide (R3.out.but b4 (fun _ _ _ _ e => e))
  have B4 : Hid (But (fun _ => False) w w4) := hide (B3.out.trans b4 (fun _ _ e => e))
  have TS : Hid (∀ k, T k ∨ S k → k < w.heap.size) := hide (fun k hk => by
    have h0 := HBb.out.size
    rcases hk with hk | hk
    · by_cases hlt : k < w.heap.size
      · exact hlt
      · exact absurd hk (HTS.out k (by omega)).1
    · by_cases hlt : k < w.heap.size
      · exact hlt
      · exact absurd hk (HTS.out k (by omega)).2)
  have HW4 : Hid (w4 = w3.alloc (.cells #[.slice ra m rc] 23)) := hw4
  clear hw4 b4
  gi_wp2_with fail
  have hmi : Hid (∀ k, k ≤ m → Mid L N id rest.reverse k (mids L N id rest k)) := hide (fun k hk => mids_all HMid.out HRm.out k (by have := HMl.out; omega))
  refine range_rounds (n := 3) (by omega) (gf := 104) (lb := #[.pointer (some ⟨w.heap.size + 2, 0, none⟩)]) rfl (enters_of Tryd.func104 (by kernel_rfl) rfl)
    (fun k => #[.int .i64 ((m - 1 - k : Nat) : Int), .string (rest.reverse.getD (m - 1 - k) ByteArray.empty)]) m (fun _ => rfl)
    (fun k W => Rnd w4 T S tb fb (w.heap.size + 1) (mids L N id rest k) W) ?hI ?h0 ?hseq
    (fun k => { tmps := #[Value.pointer (some ⟨fb, 0, none⟩), Value.slice a n c, .pointer (some ⟨w.heap.size, 0, none⟩), undef, .int .i64 0, .int .i64 0, .pointer (some ⟨w.heap.size + 1, 0, none⟩), .slice ra m rc, undef,
      .string (rest.reverse.getD (m - 1 - k) ByteArray.empty), undef, undef, .pointer (some ⟨fb, 0, none⟩), .bool false, .slice a n c, .int .i64 n, .bool (decide ((16 : Int) < (n : Int))), .tuple #[.int .i64 id, .slice ra m rc], .pointer (some ⟨fb, 0, none⟩), .slice a n c, .tuple #[.int .i64 id, .slice ra m rc], .int .i64 id, .slice ra m rc, .pointer (some ⟨fb, 0, none⟩), .slice ra m rc, .bool true, .bool false, .slice ra m rc,
      .func (Fn.func 104) #[] #[.pointer (some ⟨w.heap.size + 2, 0, none⟩)], .int .i64 ((m - 1 - k : Nat) : Int), .string (rest.reverse.getD (m - 1 - k) ByteArray.empty), undef, undef, undef, undef, undef, undef, undef, undef, undef, undef, undef, undef, undef, undef, undef], defers := [] }) ?assign ?body ?done
  case hI =>
    intro k W o o' h hl
    refine h.kept (but_put W _ o') (.inr rfl) ?_
    intro b hb
    rcases hb with hb | hb | hb
    · have := TS.out b (.inl hb); omega
    · have := TS.out b (.inr hb); omega
    · omega
  case h0 =>
    intro o
    have b5 : But (fun _ => False) w4 ((w4.alloc (.deferred (some []))).alloc (.loop o)) := ((But.refl _ _).alloc _).alloc _
    refine ⟨⟨T, S, H4.out.but b5 (fun _ _ e => e) (fun _ _ e => e), fun _ e => .inl e, fun _ e => .inl e⟩, b5.mono (fun _ e => e.elim), cell_block y4 (b5.block _ (World.block_lt_of_cell? _ _ y4) (fun e => e)), (frozen_block (a := ⟨w.heap.size + 1, 0, none⟩) (b5.block _ (World.block_lt_of_cell? _ _ y4) (fun e => e))).trans z4⟩
  case hseq =>
    intro l J W hJI hY h0
    refine back1_in 2 (by omega) l (w.heap.size + 2) m rc ra rest.reverse HMl.out.2 J ?_ hY W h0
    intro k W1 hj
    have h := hJI k W1 hj
    refine ⟨cell_block v4 (h.but.block _ (World.block_lt_of_cell? _ _ v4) ?_), R4.out.but h.but ?_⟩
    · rintro (e | e | e)
      · have := TS.out _ (.inl e); simp only at this; omega
      · have := TS.out _ (.inr e); simp only at this; omega
      · simp only at e; omega
    · intro b off e hm0
      have hx := hra'.out b off e hm0
      rintro (e1 | e1 | e1)
      · exact hx.1 e1
      · exact hx.2 e1
      · have := HRlt.out b off e hm0; omega
  case assign =>
    intro l k W K hK
    gi_wp2
    exact hK
  case body =>
    intro l k W hk h hlt
    have hml' := HMl.out
    obtain ⟨t, ht⟩ : ∃ t, t = rest.getD k ByteArray.empty := ⟨_, rfl⟩
    have htr : rest.reverse.getD (m - 1 - k) ByteArray.empty = t := by
      rw [ht, List.getD_eq_getElem?_getD, List.getD_eq_getElem?_getD, List.getElem?_reverse (by omega)]
      congr 2; omega
    have hgt : rest[k]? = some t := by rw [ht]; exact getD_get (by omega)
    have htm : t ∈ rest.reverse := by rw [List.mem_reverse]; exact List.mem_of_getElem? hgt
    have M := hmi.out k (by omega)
    have A := M.answers HRm.out htm
    have hfresh := M.fresh t (by rw [List.reverse_reverse]; exact hgt)
    have hstep : mids L N id rest (k + 1) = stp (mids L N id rest k) t := by
      unfold mids; rw [← runs_snoc, List.take_add_one, hgt]; rfl
    have hnl := M.nodes
    have hnm := HRm.out.nodes
    rw [List.length_reverse] at hnm
    have hil := M.idle
    obtain ⟨T', S', hst, h1, h2⟩ := h.st
    obtain ⟨tv', tm', v', mb', hT', hF'⟩ := hst.both
    have hTS : ∀ k, (T k ∨ S k ∨ k = w.heap.size + 1) → k < w4.heap.size := by
      rintro b (hb | hb | hb)
      · have := TS.out b (.inl hb); omega
      · have := TS.out b (.inr hb); omega
      · omega
    have nT : ∀ k, k < w4.heap.size + 2 → ¬ T k → ¬ T' k := fun b hb hn e => by rcases h1 b e with e | e; exact hn e; omega
    have nS : ∀ k, k < w4.heap.size + 2 → ¬ S k → ¬ S' k := fun b hb hn e => by rcases h2 b e with e | e; exact hn e; omega
    have oldN : ∀ k, w.heap.size ≤ k → ¬ T k ∧ ¬ S k := HTS.out
    have xW : W.cell? ⟨w.heap.size, 0, none⟩ = some (.pointer (some ⟨fb, 0, none⟩)) := cell_block x4 (h.but.block _ (World.block_lt_of_cell? _ _ x4) (by
      rintro (e | e | e)
      · exact (oldN _ (Nat.le_refl _)).1 e
      · exact (oldN _ (Nat.le_refl _)).2 e
      · simp only at e; omega))
    have cW := hF'.cell0
    have HQ : Hid (Calls Tryd.prog 81 #[.pointer (some ⟨tb, 0, none⟩), .string t] W fun e w' => e = .returned (.tuple #[.int .i64 (place (internL (mids L N id rest k).L t) t : Int), .int .i64 0]) ∧ (∃ v' mv', Tab w' tb (fun k => T' k ∨ (W.heap.size ≤ k ∧ k < w'.heap.size)) (internL (mids L N id rest k).L t) v' mv') ∧ But T' W w') := hide (by
      have := intern_any hT' t (HZ.out t htm)
      rwa [A.1] at this)
    have HXF : Hid _ := hide hF'
    have HR : Hid (Rnd w4 T S tb fb (w.heap.size + 1) (mids L N id rest k) W) := h
    have HSt : Hid (St W T' S' tb fb (mids L N id rest k).L (mids L N id rest k).N) := hst
    have Hn1 : Hid _ := hide h1
    have Hn2 : Hid _ := hide h2
    have HnT : Hid _ := hide nT
    have HnS : Hid _ := hide nS
    have HOld : Hid _ := hide oldN
    have HnTS : Hid _ := hide hTS
    have HSp : Hid _ := hide hstep
    have HMd : Hid _ := hide M
    have HFr : Hid _ := hide hfresh
    have HIn : Hid _ := hide A.2
    have Hlt : Hid _ := hide hlt
    have yW := h.cell
    have zW := h.free
    generalize hsk : mids L N id rest k = s at HQ HXF HR HSt HSp HMd HFr HIn yW zW hnl hil
    clear h1 h2 nT nS oldN hTS hstep M hfresh A h hst hT' hF' ht htm hgt
    rw [htr]
    gi_wp2_with fail
    refine ⟨trivial, CallsIn.mono (CallsIn.inRound l (callsIn_wide.2 HQ.out)) ?_⟩
    rintro e w5 ⟨rfl, ⟨tv5, tm5, hT5⟩, hB5⟩
    have hi5 : ¬ T' (w.heap.size + 1) := HnT.out _ (by omega) (HOld.out _ (by omega)).1
    have x5 : w5.cell? ⟨w.heap.size, 0, none⟩ = some (.pointer (some ⟨fb, 0, none⟩)) := cell_block xW (hB5.block _ (World.block_lt_of_cell? _ _ xW) (HnT.out _ (by simp only; omega) (HOld.out _ (Nat.le_refl _)).1))
    have y5 : w5.cell? ⟨w.heap.size + 1, 0, none⟩ = some (.int .i64 (s.id : Int)) := cell_block yW (hB5.block _ (World.block_lt_of_cell? _ _ yW) hi5)
    have z5 : w5.frozen? ⟨w.heap.size + 1, 0, none⟩ = false := (frozen_block (a := ⟨w.heap.size + 1, 0, none⟩) (hB5.block _ (World.block_lt_of_cell? _ _ yW) hi5)).trans zW
    have hF5 := HXF.out.kept hB5 (fun k hk e => HSt.out.dis k e hk)
    have hp5 : place (internL s.L t) t ≤ 65536 := by have := place_lt HIn.out; have := hT5.len; omega
    have HP : Hid _ := hide (put_f hF5 (s.id, place (internL s.L t) t) (by dsimp only; omega) hp5 HFr.out (by omega))
    have HT5 : Hid _ := hide hT5
    have HB5 : Hid _ := hide hB5
    clear hT5 hB5 hF5 xW yW zW cW
    unfold nodeV at HP
    gi_wp2_with fail
    refine ⟨trivial, CallsIn.mono (CallsIn.inRound l (callsIn_wide.2 HP.out)) ?_⟩
    rintro e w6 ⟨rfl, ⟨v6, hF6⟩, hB6⟩
    have hi6 : ¬ S' (w.heap.size + 1) := HnS.out _ (by omega) (HOld.out _ (by omega)).2
    have y6 : w6.cell? ⟨w.heap.size + 1, 0, none⟩ = some (.int .i64 (s.id : Int)) := cell_block y5 (hB6.block _ (World.block_lt_of_cell? _ _ y5) hi6)
    have z6 : w6.frozen? ⟨w.heap.size + 1, 0, none⟩ = false := (frozen_block (a := ⟨w.heap.size + 1, 0, none⟩) (hB6.block _ (World.block_lt_of_cell? _ _ y5) hi6)).trans z5
    have HF6 : Hid _ := hide hF6
    have HB6 : Hid _ := hide hB6
    clear hF6 hB6 x5 y5 z5
    gi_wp2
    have hlt' := Hlt.out
    have g5 := HB5.out.size
    have g6 := HB6.out.size
    have hz6 : But (fun k => k = w.heap.size + 1) w6 (w6.setCell ⟨w.heap.size + 1, 0, none⟩ (.int .i64 (↑N.length + ↑k + 1))) := (But.refl (fun k => k = w.heap.size + 1) w6).setCell ⟨w.heap.size + 1, 0, none⟩ (fun _ => rfl) _
    have hall : But (fun b => T' b ∨ S' b ∨ b = w.heap.size + 1) W (w6.setCell ⟨w.heap.size + 1, 0, none⟩ (.int .i64 (↑N.length + ↑k + 1))) :=
      ((HB5.out.mono (T := fun b => T' b ∨ S' b ∨ b = w.heap.size + 1) (fun _ e => .inl e)).trans HB6.out (fun _ _ e => .inr (.inl e))).trans hz6 (fun _ _ e => .inr (.inr e))
    have hT6 := HT5.out.kept HB6.out (fun b hb e => by
      rcases hb with hb | hb
      · exact HSt.out.dis b hb e
      · have := HSt.out.slt b e; omega)
    have st6 : St w6 (fun b => T' b ∨ (W.heap.size ≤ b ∧ b < w5.heap.size)) (fun b => S' b ∨ (w5.heap.size ≤ b ∧ b < w6.heap.size)) tb fb (internL s.L t) (s.N ++ [(s.id, place (internL s.L t) t)]) := by
      refine ⟨⟨_, _, _, _, hT6, HF6.out⟩, ?_, ?_, ?_⟩
      · rintro b (hb | hb) (hc | hc)
        · exact HSt.out.dis b hb hc
        · have := HSt.out.tlt b hb; omega
        · have := HSt.out.slt b hc; omega
        · omega
      · rintro b (hb | hb)
        · have := HSt.out.tlt b hb; omega
        · omega
      · rintro b (hb | hb)
        · have := HSt.out.slt b hb; omega
        · omega
    have st7 := st6.but hz6 (fun b hb e => by subst e; rcases hb with hb | hb; exact hi5 hb; omega) (fun b hb e => by subst e; rcases hb with hb | hb; exact hi6 hb; omega)
    refine ⟨⟨⟨_, _, by rw [HSp.out]; exact st7, ?_, ?_⟩, ?_, ?_, ?_⟩, ?_, ?_⟩
    · rintro b (hb | hb)
      · exact Hn1.out b hb
      · right; omega
    · rintro b (hb | hb)
      · exact Hn2.out b hb
      · right; omega
    · refine HR.out.but.trans hall (fun b hb e => ?_)
      rcases e with e | e | e
      · rcases Hn1.out b e with e | e
        · exact .inl e
        · omega
      · rcases Hn2.out b e with e | e
        · exact .inr (.inl e)
        · omega
      · exact .inr (.inr e)
    · rw [HSp.out]
      have e1 : (stp s t).id = s.N.length + 1 := rfl
      rw [e1, hnl]
      exact World.cell?_setCell_same' _ _ _ (by rw [y6]; rfl)
    · rw [World.frozen?_setCell]; exact z6
    · refine hall.block _ (by omega) ?_
      rintro (e | e | e)
      · exact HnT.out _ (by omega) (HOld.out _ (by omega)).1 e
      · exact HnS.out _ (by omega) (HOld.out _ (by omega)).2 e
      · omega
    · refine hall.block _ (by omega) ?_
      rintro (e | e | e)
      · exact HnT.out _ (by omega) (HOld.out _ (by omega)).1 e
      · exact HnS.out _ (by omega) (HOld.out _ (by omega)).2 e
      · omega
  case done =>
    intro W h hK
    have yW := h.cell
    have HR : Hid _ := hide h
    have HKK : Hid _ := hide hK
    have hall : Hid (mids L N id rest m = runs ⟨L, N, id⟩ rest) := hide (by unfold mids; rw [List.take_of_length_le (by have := HMl.out; omega)])
    clear h
    gi_wp2
    refine ⟨by simp, .inl ⟨_, _, rfl, run_takeDeferred HKK.out, ?_⟩⟩
    have hTS : ∀ k, (T k ∨ S k ∨ k = w.heap.size + 1) → k < w4.heap.size := by
      rintro b (hb | hb | hb)
      · have := TS.out b (.inl hb); omega
      · have := TS.out b (.inr hb); omega
      · omega
    have hf := HR.out.kept (but_put W w4.heap.size (.deferred none)) (.inl rfl) hTS
    rw [hall.out] at hf ⊢
    obtain ⟨T', S', hst, h1, h2⟩ := hf.st
    refine ⟨_, results_tmp2 rfl _ _ _, rfl, ⟨T', S', hst, fun b hb => ?_, fun b hb => ?_⟩, ?_⟩
    · rcases h1 b hb with e | e
      · exact .inl e
      · right; omega
    · rcases h2 b hb with e | e
      · exact .inl e
      · right; omega
    · refine (B4.out.mono (fun _ e => e.elim)).trans hf.but (fun b hb e => ?_)
      rcases e with e | e | e
      · exact .inl e
      · exact .inr e
      · omega
end Go.Proofs.YtpnacioliccglaaDoor.E6
/-
  Intern that refuses; Stack.
-/
namespace Go.Proofs.YtpnacioliccglaaDoor.E6
open Go.RowKit Go.Maps Go.Shelf
theorem intern_nil (a : Option Addr) (n c : Nat) (w : World) : Calls Tryd.prog 58 #[.pointer none, .slice a n c] w fun e w' => e = .returned (.tuple #[.int .i64 0, .int .i64 1]) ∧ Below w.heap.size w w' := by
  have HM : Hid _ := hide (missing_nil (w.alloc (.cells #[.pointer none] 77)))
  go_enter Tryd.func58, Tryd.ntmps58
  go_wp2_with fail
  refine HM.out.mono ?_
  rintro e w' ⟨rfl, rfl⟩
  go_wp2
  go_ret2
  exact ⟨rfl, (Below.refl _ w).alloc (Nat.le_refl _) _⟩
theorem intern_deep {w : World} {T S : Nat → Prop} {tb fb : Nat} {L : List ByteArray} {N : List Nd} (h : St w T S tb fb L N) (a : Option Addr) (n c : Nat) (hn : 16 < n) (hn' : (n : Int) ≤ 9223372036854775807) :
    Calls Tryd.prog 58 #[.pointer (some ⟨fb, 0, none⟩), .slice a n c] w fun e w' => e = .returned (.tuple #[.int .i64 0, .int .i64 51]) ∧ Below w.heap.size w w' := by
  obtain ⟨W0, hW0⟩ : ∃ W0, W0 = w.alloc (.cells #[.pointer (some ⟨fb, 0, none⟩)] 77) := ⟨_, rfl⟩
  have hb0 : But (fun _ => False) w W0 := by rw [hW0]; exact (But.refl _ _).alloc _
  have hS0 := h.but hb0 (fun _ _ e => e) (fun _ _ e => e)
  obtain ⟨tv, tm, v, mb, hT0, hF0⟩ := hS0.both
  have HM : Hid _ := hide (missing_any fb tb W0 hF0.cell0)
  have hnI : (16 : Int) < n := by omega
  clear h hb0 hS0 hT0 hF0 hn
  go_enter Tryd.func58, Tryd.ntmps58
  go_wp2_with fail
  rw [← hW0]
  refine HM.out.mono ?_
  rintro e w' ⟨rfl, rfl⟩
  have HW : Hid _ := hide hW0
  clear hW0
  go_wp2
  go_ret2
  refine ⟨rfl, ?_⟩
  rw [HW.out]; exact (Below.refl _ w).alloc (Nat.le_refl _) _
set_option maxRecDepth 4000 in
theorem intern_full {w : World} {T S : Nat → Prop} {tb fb : Nat} {L : List ByteArray} {N : List Nd} (h : St w T S tb fb L N) (a : Option Addr) (n c : Nat) (ls : List ByteArray) (hr : SRow w a n ls) (hn : n ≤ 16) (hc : n ≤ c) (hz : ∀ s ∈ ls, s.size ≤ maxLen)
    (hR : ¬ Roomy L N.length (kn L N 0 ls.reverse).2.reverse) :
    Calls Tryd.prog 58 #[.pointer (some ⟨fb, 0, none⟩), .slice a n c] w fun e w' => e = .returned (.tuple #[.int .i64 0, .int .i64 3]) ∧ Below w.heap.size w w' := by
  have hn' : (n : Int) ≤ 16 := by omega
  obtain ⟨W0, hW0⟩ : ∃ W0, W0 = w.alloc (.cells #[.pointer (some ⟨fb, 0, none⟩)] 77) := ⟨_, rfl⟩
  have hb0 : But (fun _ => False) w W0 := by rw [hW0]; exact (But.refl _ _).alloc _
  have hS0 := h.but hb0 (fun _ _ e => e) (fun _ _ e => e)
  obtain ⟨tv, tm, v, mb, hT0, hF0⟩ := hS0.both
  have hr0 : SRow W0 a n ls := hr.but hb0 (fun _ _ _ _ e => e)
  have HM : Hid _ := hide (missing_any fb tb W0 hF0.cell0)
  have HK : Hid _ := hide (known_any hT0 hF0 a n c ls hr0 hn hc hz)
  have x0 : W0.cell? ⟨w.heap.size, 0, none⟩ = some (.pointer (some ⟨fb, 0, none⟩)) := by rw [hW0]; exact cell_new _ _ _
  have hB0 : W0.heap.size = w.heap.size + 1 := by rw [hW0]; simp
  have hre := rest_eq (L := L) (N := N) ls
  have hml := (@kn_len L N ls.reverse 0).1
  have HKL : Hid ((kn L N 0 ls.reverse).1 ≤ 262144) := hide (Nat.le_trans (kn_le (Nat.zero_le _)) hF0.len)
  obtain ⟨id, rest, hk⟩ : ∃ id rest, kn L N 0 ls.reverse = (id, rest) := ⟨_, _, rfl⟩
  rw [hk] at hR HK hre hml HKL
  dsimp only at hR HK hre hml HKL
  rw [List.length_reverse, hr.len] at hml
  obtain ⟨ra, rc, hrv, hrc, hrr, hra⟩ := restV_form hr0 hml hc
  rw [hrv] at HK
  rw [← hre] at hrr
  generalize hm : rest.length = m at HK hrv hrc hrr hra hml hre
  have H0 : Hid (St W0 T S tb fb L N) := hS0
  have HRr : Hid (SRow W0 ra m rest.reverse) := hrr
  have HRm : Hid (¬ Roomy L N.length rest.reverse) := hR
  have HZ : Hid (∀ s ∈ rest.reverse, s.size ≤ maxLen) := hide (fun s hs => hz s (by rw [hre] at hs; exact List.mem_of_mem_take hs))
  have hid : id ≤ 262144 := HKL.out
  have hm16 : Hid (m ≤ 16) := hide (by omega)
  clear h hr hz hR hS0 hT0 hF0 hr0 hk hre hrv hrr hra hm HKL hb0
  go_enter Tryd.func58, Tryd.ntmps58
  go_wp2_with fail
  rw [← hW0]
  have HW0 : Hid _ := hide hW0
  clear hW0
  refine HM.out.mono ?_
  rintro e w' ⟨rfl, rfl⟩
  go_wp2_with fail
  refine HK.out.mono ?_
  rintro e w1 ⟨rfl, j, hj⟩
  have x1 : w1.cell? ⟨w.heap.size, 0, none⟩ = some (.pointer (some ⟨fb, 0, none⟩)) := by rw [hj]; exact cell_drewN x0 j
  have s1 : w1.heap.size = w.heap.size + 1 := by rw [hj]; exact hB0
  have hb1 : But (fun _ => False) w' w1 := by rw [hj]; exact But.of_below (below_drewN (Below.refl _ _) j)
  have hbb : Hid (Below w.heap.size w w1) := hide (by rw [hj, HW0.out]; exact below_drewN ((Below.refl _ w).alloc (Nat.le_refl _) _) j)
  obtain ⟨W2, hW2⟩ : ∃ W2, W2 = w1.alloc (.cells #[.int .i64 (id : Int)] 3) := ⟨_, rfl⟩
  have hb2 : But (fun _ => False) w' W2 := by rw [hW2]; exact hb1.alloc _
  have H2 : Hid (St W2 T S tb fb L N) := hide (H0.out.but hb2 (fun _ _ e => e) (fun _ _ e => e))
  have R2 : Hid (SRow W2 ra m rest.reverse) := hide (HRr.out.but hb2 (fun _ _ _ _ e => e))
  obtain ⟨tv2, tm2, v2, mb2, hT2, hF2⟩ := H2.out.both
  have HRo : Hid _ := hide (hasRoom_any hT2 hF2 ra m rc rest.reverse R2.out hm16.out hrc HZ.out)
  clear hj hb1 hb2 hT2 hF2
  go_wp2_with fail
  rw [← hW2]
  have HHW2 : Hid _ := hide hW2
  clear hW2 x1 s1 x0 hB0
  refine HRo.out.mono ?_
  rintro e w3 ⟨⟨b, rfl, hb⟩, j3, hj3⟩
  have hbf : b = false := by cases b; rfl; exact absurd (hb.1 rfl) HRm.out
  subst hbf
  have HJ : Hid _ := hide hj3
  clear hj3 hb
  go_wp2
  go_ret2
  refine ⟨rfl, ?_⟩
  rw [HJ.out, HHW2.out]
  exact below_drewN (hbb.out.alloc hbb.out.size _) j3
/-! ### Stack -/
end Go.Proofs.YtpnacioliccglaaDoor.E6
