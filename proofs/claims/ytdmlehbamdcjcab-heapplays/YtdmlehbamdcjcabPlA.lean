/-
  A step of a script: what the program's heap and the document's answer is the same.
-/
import Derived.Test.YtdmlehbamdcjcabHpPI
import Derived.Test.YtdmlehbamdcjcabRfC
import Derived.Test.YtdmlehbamdcjcabLwAI
namespace Go.Proofs.Ytdmlehbamdcjcab
open Go.RowKit
theorem r9sorted_nil (w : World) : Calls Try.prog 32 #[.pointer none] w fun r w' => r = .returned (.slice none 0 0) ∧ w' = w := by
  go_enter Try.func32, Try.ntmps32
  go_wp2
  go_ret
  exact ⟨rfl, rfl⟩
set_option maxRecDepth 8000 in
theorem r9sorted {w : World} {q : Nat} {L : List It} (h : Rq w q L) (hl : (L.length : Int) ≤ 5000000000000) : Calls Try.prog 32 #[.pointer (some ⟨q, 0, none⟩)] w fun r w' => ∃ v, r = .returned v ∧ Own layI 28 w' w.heap.size v L ∧ Below w.heap.size w w' := by
  obtain ⟨i0, hi, hz0, hz1, hz2⟩ := info_parts Try.infoTI
  obtain ⟨a, c, h⟩ := h
  have c0 : w.cell? ⟨q, 0, none⟩ = some (.slice a L.length c) := cell_at h.hp rfl
  have HR : Hid _ := hide h.row
  have HN : Hid _ := hide h.nil
  clear h
  go_enter Try.func32, Try.ntmps32
  go_wp2_with (at_builtin; refine append_lay layI _ 24 28 i0 _ 16 Try.underlying24 hi hz0 hz1 hz2 rfl rfl (.tmp 6) (.tmp 10) rfl w.heap.size _ [] rfl (Own.nil _ _ _ _) _ _ _ L rfl HR.out HN.out (by simp [maxLen]; omega) (by simp; omega) (Nat.le_refl _) ?_; intro v2 w2 hown2 hgr2 hl2)
  go_ret
  exact ⟨v2, rfl, hown2, (Below.refl _ _).grown hgr2 (Nat.le_refl _) (fun k hk => by cases hk)⟩
/-- What a step leaves behind it. -/
def After (w w' : World) (base p : Nat) (v : Value) (n : Int) (q : Nat) : Prop := ∃ v' n' S', HsI w' base p v' n' S' ∧ Rq w' q (S'.map Prod.fst) ∧ n' ≤ n + 1 ∧ (S'.length : Int) ≤ n' ∧ But (fun k => k = p ∨ v.ownBlock = some k ∨ k = q) w w' ∧ (∀ g, v'.ownBlock = some g → v.ownBlock = some g ∨ w.heap.size ≤ g)
theorem rq_ne {w : World} {q p : Nat} {L : List It} {cs : Array Value} {t : TypeId} {fr : Nat × Nat} (h : Rq w q L) (hp : w.heap[p]? = some (.cells cs t fr)) (ht : t ≠ 64) : p ≠ q := by
  obtain ⟨a, c, h⟩ := h
  intro e
  have h9 := h.hp
  rw [← e, hp] at h9
  injection h9 with h9
  injection h9 with _ h9 _
  exact ht h9
theorem ty_ne {w : World} {b p : Nat} {cs ds : Array Value} {t u : TypeId} {fr fs : Nat × Nat} (h : w.heap[b]? = some (.cells cs t fr)) (hp : w.heap[p]? = some (.cells ds u fs)) (ht : t ≠ u) : b ≠ p := by
  intro e
  rw [e, hp] at h
  injection h with h
  injection h with _ h _
  exact ht h.symm
/-- A call of the program's heap leaves the document's alone. -/
theorem Rq.past {w w' : World} {base p q : Nat} {v : Value} {n : Int} {S : List (It × Int)} {L : List It} (hr : Rq w q L) (h : HsI w base p v n S) (hb : But (fun k => k = p ∨ v.ownBlock = some k) w w') : Rq w' q L := by
  refine hr.but hb ?_ ?_
  · rintro (e | e)
    · exact rq_ne hr h.blk (by decide) e.symm
    · obtain ⟨_, _, cur, hc⟩ := h.own _ e
      exact rq_ne hr hc (by decide) rfl
  · rintro b cur fr hbb (e | e)
    · exact ty_ne hbb h.blk (by decide) e
    · obtain ⟨_, _, cur', hc⟩ := h.own _ e
      exact ty_ne hbb hc (by decide) rfl
/-- A call of the document's heap leaves the program's alone. -/
theorem HsI.past {w w' : World} {base p q : Nat} {v : Value} {n : Int} {S : List (It × Int)} {L : List It} (h : HsI w base p v n S) (hr : Rq w q L) (hb : But (fun k => k = q) w w') : HsI w' base p v n S := by
  refine h.but hb (fun e => rq_ne hr h.blk (by decide) e) (fun g hg e => ?_)
  obtain ⟨_, _, cur, hc⟩ := h.own g hg
  exact rq_ne hr hc (by decide) e
set_option maxRecDepth 8000 in
set_option maxHeartbeats 1600000 in
theorem plays1 (wh xk xt : Int) (w : World) (base p : Nat) (v : Value) (n : Int) (S : List (It × Int)) (q : Nat) (h : HsI w base p v n S) (hr : Rq w q (S.map Prod.fst)) (hbase : base ≤ w.heap.size) (hn : n + 1 ≤ 5000000000000) (hS : (S.length : Int) ≤ n) :
    Calls Try.prog 19 #[.agg #[.int .i64 1, .int .i64 wh, .int .i64 xk, .int .i64 xt], .pointer (some ⟨p, 0, none⟩), .pointer (some ⟨q, 0, none⟩)] w fun r w' => r = .returned (.bool true) ∧ After w w' base p v n q := by
  obtain ⟨w1, hw1⟩ : ∃ w1, w1 = w.alloc (.cells #[.int .i64 1, .int .i64 wh, .int .i64 xk, .int .i64 xt] 47) := ⟨_, rfl⟩
  have hb1 : Below w.heap.size w w1 := by rw [hw1]; exact below_alloc1 _ _
  have hs1 : w.heap.size < w1.heap.size := by rw [hw1]; simp
  have r1 : w1.heap[w.heap.size]? = some (.cells #[.int .i64 1, .int .i64 wh, .int .i64 xk, .int .i64 xt] 47 (0, 0)) := by rw [hw1]; exact heap_new _ _
  have x0 : w1.cell? ⟨w.heap.size, 0, none⟩ = some (.int .i64 1) := cell_at r1 rfl
  have x2 : w1.cell? ⟨w.heap.size, 2, none⟩ = some (.int .i64 xk) := cell_at r1 rfl
  have x3 : w1.cell? ⟨w.heap.size, 3, none⟩ = some (.int .i64 xt) := cell_at r1 rfl
  have HW1 : Hid _ := hide hw1
  have HB1 : Hid _ := hide hb1
  have R1 : Hid _ := hide r1
  clear hw1 hb1 r1
  have h1 := h.below HB1.out
  have hr1 := hr.but (S := fun _ => False) (But.of_below HB1.out) (fun e => e) (fun _ _ _ _ e => e)
  have hp := h.plt
  have hv : ∀ g, v.ownBlock = some g → g < w.heap.size := fun g hg => (h.own g hg).2.1
  have PU := hpushI ⟨xk, xt⟩ h1 (by omega) (by omega) (by omega)
  have H1 : Hid _ := hide h1
  have HR1 : Hid _ := hide hr1
  have HV : Hid _ := hide hv
  have HSr : Hid _ := hide h.srt
  have HLT : Hid _ := hide h.lt
  clear h hr h1 hr1 hv
  go_enter Try.func19, Try.ntmps19
  go_wp2_with fail
  rw [← HW1.out]
  refine PU.mono ?_
  rintro r w2 ⟨rfl, v2, h2, b2, g2⟩
  clear PU
  have hr2 := HR1.out.past H1.out b2
  have q2 := (b2.block w.heap.size hs1 (fun e => e.elim (fun e => by omega) (fun e => by have := HV.out _ e; omega))).trans R1.out
  have y2 : w2.cell? ⟨w.heap.size, 2, none⟩ = some (.int .i64 xk) := cell_at q2 rfl
  have y3 : w2.cell? ⟨w.heap.size, 3, none⟩ = some (.int .i64 xt) := cell_at q2 rfl
  have RP := r9push w2 q (S.map Prod.fst) ⟨xk, xt⟩ hr2 (srt_fst _ HSr.out) (by rw [List.length_map]; omega)
  have H2 : Hid _ := hide h2
  have HR2 : Hid _ := hide hr2
  have B2 : Hid _ := hide b2
  have G2 : Hid _ := hide g2
  clear h2 hr2 b2 g2 q2 x0 x2 x3
  go_wp2_with fail
  refine RP.mono ?_
  rintro r w3 ⟨rfl, hr3, b3⟩
  have A3 : Hid (After w w3 base p v n q) := hide (by
    refine ⟨v2, n + 1, _, H2.out.past HR2.out b3, ?_, by omega, ?_, ?_, fun g hg => (G2.out g hg).imp id (fun e => by omega)⟩
    · rw [show (ins (fst bfI) ((⟨xk, xt⟩ : It), n) S).map Prod.fst = ins bfI ⟨xk, xt⟩ (S.map Prod.fst) from ins_fst (fun a : It => a.k) ⟨xk, xt⟩ n HLT.out]
      exact hr3
    · rw [ins_len]; omega
    · exact ((But.of_below HB1.out).trans B2.out (fun _ _ e => e.imp id .inl)).trans b3 (fun _ _ e => .inr (.inr e)))
  clear hr3 b3 RP y2 y3
  go_wp2
  go_ret
  exact ⟨rfl, A3.out⟩
set_option maxRecDepth 8000 in
set_option maxHeartbeats 1600000 in
theorem plays2e (wh xk xt : Int) (w : World) (base p : Nat) (v : Value) (n : Int) (q : Nat) (h : HsI w base p v n []) (hr : Rq w q (([] : List (It × Int)).map Prod.fst)) (_hbase : base ≤ w.heap.size) (_hn : n + 1 ≤ 5000000000000) (hS : (([] : List (It × Int)).length : Int) ≤ n) :
    Calls Try.prog 19 #[.agg #[.int .i64 2, .int .i64 wh, .int .i64 xk, .int .i64 xt], .pointer (some ⟨p, 0, none⟩), .pointer (some ⟨q, 0, none⟩)] w fun r w' => r = .returned (.bool true) ∧ After w w' base p v n q := by
  obtain ⟨w1, hw1⟩ : ∃ w1, w1 = w.alloc (.cells #[.int .i64 2, .int .i64 wh, .int .i64 xk, .int .i64 xt] 47) := ⟨_, rfl⟩
  have hb1 : Below w.heap.size w w1 := by rw [hw1]; exact below_alloc1 _ _
  have hs1 : w.heap.size < w1.heap.size := by rw [hw1]; simp
  have r1 : w1.heap[w.heap.size]? = some (.cells #[.int .i64 2, .int .i64 wh, .int .i64 xk, .int .i64 xt] 47 (0, 0)) := by rw [hw1]; exact heap_new _ _
  have x0 : w1.cell? ⟨w.heap.size, 0, none⟩ = some (.int .i64 2) := cell_at r1 rfl
  have x2 : w1.cell? ⟨w.heap.size, 2, none⟩ = some (.int .i64 xk) := cell_at r1 rfl
  have x3 : w1.cell? ⟨w.heap.size, 3, none⟩ = some (.int .i64 xt) := cell_at r1 rfl
  have HW1 : Hid _ := hide hw1
  have HB1 : Hid _ := hide hb1
  have R1 : Hid _ := hide r1
  clear hw1 hb1 r1
  have h1 := h.below HB1.out
  have hr1 := hr.but (S := fun _ => False) (But.of_below HB1.out) (fun e => e) (fun _ _ _ _ e => e)
  have H1 : Hid _ := hide h1
  have HR1 : Hid _ := hide hr1
  have hp := h.plt
  have hqq := hr.lt
  have hqp : p ≠ q := rq_ne hr h.blk (by decide)
  have PO := hpop0I H1.out
  clear h hr h1 hr1
  go_enter Try.func19, Try.ntmps19
  go_wp2_with fail
  rw [← HW1.out]
  refine PO.mono ?_
  rintro r w2 ⟨rfl, b2'⟩
  have b2 : But (fun k => k = p ∨ v.ownBlock = some k) w1 w2 := But.of_below b2'
  have h2 := H1.out.below b2'
  have hr2' := HR1.out.past H1.out b2
  have g2 : v.ownBlock = v.ownBlock := rfl
  clear PO
  obtain ⟨w3, hw3⟩ : ∃ w3, w3 = w2.alloc (.cells #[.int .i64 0, .int .i64 0] 28) := ⟨_, rfl⟩
  have b3 : Below w2.heap.size w2 w3 := by rw [hw3]; exact below_alloc1 _ _
  have r3 : w3.heap[w2.heap.size]? = some (.cells #[.int .i64 0, .int .i64 0] 28 (0, 0)) := by rw [hw3]; exact heap_new _ _
  have hs3 : w2.heap.size < w3.heap.size := by rw [hw3]; simp
  have hr2 := hr2'.but (S := fun _ => False) (But.of_below b3) (fun e => e) (fun _ _ _ _ e => e)
  have h3 := h2.below b3
  have hs2 := b2.size
  have RP := r9pop_empty hr2
  have HW3 : Hid _ := hide hw3
  have R3 : Hid _ := hide r3
  have H3 : Hid _ := hide h3
  have HR3 : Hid _ := hide hr2
  have B3 : Hid (But (fun k => k = p ∨ v.ownBlock = some k ∨ k = q) w w3) := hide (((But.of_below HB1.out).trans b2 (fun _ _ e => e.imp id .inl)).on b3)
  have G2 : Hid _ := hide g2
  clear hw3 r3 b3 h3 hr2 b2 hr2' h2 g2 x0 x2 x3
  go_wp2_with fail
  rw [← HW3.out]
  refine RP.mono ?_
  rintro r w4 ⟨rfl, b4'⟩
  have b4 : But (fun k => k = q) w3 w4 := But.of_below b4'
  have hr4 := HR3.out.but (S := fun _ => False) (But.of_below b4') (fun e => e) (fun _ _ _ _ e => e)
  have hs4 := b4.size
  have q4 := (b4.block w2.heap.size hs3 (by intro e; have e9 : w2.heap.size = q := e; omega)).trans R3.out
  have y0 : w4.cell? ⟨w2.heap.size, 0, none⟩ = some (.int .i64 0) := cell_at q4 rfl
  have y1 : w4.cell? ⟨w2.heap.size, 1, none⟩ = some (.int .i64 0) := cell_at q4 rfl
  have hq4 : w2.heap.size < w4.heap.size := by omega
  have hne4 : ¬ w2.heap.size = w4.heap.size := by omega
  have hql : ∀ W' : World, (binOp .eql 28 (.agg #[.int .i64 0, .int .i64 0]) (.agg #[.int .i64 0, .int .i64 0])).run Try.prog W' = .ok (.bool true) W' := fun W' => eqlI W' _ _
  have A4 : Hid (∀ W, Below w4.heap.size w4 W → After w W base p v n q) := hide (fun W hW =>
    ⟨v, n, [], (H3.out.past HR3.out b4).below hW, hr4.but (S := fun _ => False) (But.of_below hW) (fun e => e) (fun _ _ _ _ e => e), by omega, by simp at hS ⊢; omega, (B3.out.trans b4 (fun _ _ e => .inr (.inr e))).on hW, fun g hg => .inl (by exact hg)⟩)
  clear hr4 b4 RP q4 HW1 HW3
  go_wp2_with fail
  go_ret
  exact ⟨rfl, A4.out _ (below_alloc1 _ _)⟩
set_option maxRecDepth 8000 in
set_option maxHeartbeats 1600000 in
theorem plays2c (wh xk xt : Int) (w : World) (base p : Nat) (v : Value) (n : Int) (e : It × Int) (S : List (It × Int)) (q : Nat) (h : HsI w base p v n (e :: S)) (hr : Rq w q (((e :: S) : List (It × Int)).map Prod.fst)) (_hbase : base ≤ w.heap.size) (hn : n + 1 ≤ 5000000000000) (hS : (((e :: S) : List (It × Int)).length : Int) ≤ n) :
    Calls Try.prog 19 #[.agg #[.int .i64 2, .int .i64 wh, .int .i64 xk, .int .i64 xt], .pointer (some ⟨p, 0, none⟩), .pointer (some ⟨q, 0, none⟩)] w fun r w' => r = .returned (.bool true) ∧ After w w' base p v n q := by
  obtain ⟨w1, hw1⟩ : ∃ w1, w1 = w.alloc (.cells #[.int .i64 2, .int .i64 wh, .int .i64 xk, .int .i64 xt] 47) := ⟨_, rfl⟩
  have hb1 : Below w.heap.size w w1 := by rw [hw1]; exact below_alloc1 _ _
  have hs1 : w.heap.size < w1.heap.size := by rw [hw1]; simp
  have r1 : w1.heap[w.heap.size]? = some (.cells #[.int .i64 2, .int .i64 wh, .int .i64 xk, .int .i64 xt] 47 (0, 0)) := by rw [hw1]; exact heap_new _ _
  have x0 : w1.cell? ⟨w.heap.size, 0, none⟩ = some (.int .i64 2) := cell_at r1 rfl
  have x2 : w1.cell? ⟨w.heap.size, 2, none⟩ = some (.int .i64 xk) := cell_at r1 rfl
  have x3 : w1.cell? ⟨w.heap.size, 3, none⟩ = some (.int .i64 xt) := cell_at r1 rfl
  have HW1 : Hid _ := hide hw1
  have HB1 : Hid _ := hide hb1
  have R1 : Hid _ := hide r1
  clear hw1 hb1 r1
  have h1 := h.below HB1.out
  have hr1 := hr.but (S := fun _ => False) (But.of_below HB1.out) (fun e => e) (fun _ _ _ _ e => e)
  have H1 : Hid _ := hide h1
  have HR1 : Hid _ := hide hr1
  have hp := h.plt
  have hqq := hr.lt
  have hqp : p ≠ q := rq_ne hr h.blk (by decide)
  have PO := hpopI H1.out (by simp at hS; omega)
  clear h hr h1 hr1
  obtain ⟨⟨ek, et⟩, eu⟩ := e
  go_enter Try.func19, Try.ntmps19
  go_wp2_with fail
  rw [← HW1.out]
  refine PO.mono ?_
  rintro r w2 ⟨rfl, v2, h2, b2, g2⟩
  have hr2' := HR1.out.past H1.out b2
  clear PO
  obtain ⟨w3, hw3⟩ : ∃ w3, w3 = w2.alloc (.cells #[.int .i64 ek, .int .i64 et] 28) := ⟨_, rfl⟩
  have b3 : Below w2.heap.size w2 w3 := by rw [hw3]; exact below_alloc1 _ _
  have r3 : w3.heap[w2.heap.size]? = some (.cells #[.int .i64 ek, .int .i64 et] 28 (0, 0)) := by rw [hw3]; exact heap_new _ _
  have hs3 : w2.heap.size < w3.heap.size := by rw [hw3]; simp
  have hr2 := hr2'.but (S := fun _ => False) (But.of_below b3) (fun e => e) (fun _ _ _ _ e => e)
  have h3 := h2.below b3
  have hs2 := b2.size
  have RP := r9pop hr2 (by simp at hS; simp; omega)
  have HW3 : Hid _ := hide hw3
  have R3 : Hid _ := hide r3
  have H3 : Hid _ := hide h3
  have HR3 : Hid _ := hide hr2
  have B3 : Hid (But (fun k => k = p ∨ v.ownBlock = some k ∨ k = q) w w3) := hide (((But.of_below HB1.out).trans b2 (fun _ _ e => e.imp id .inl)).on b3)
  have G2 : Hid _ := hide g2
  clear hw3 r3 b3 h3 hr2 b2 hr2' h2 g2 x0 x2 x3
  go_wp2_with fail
  rw [← HW3.out]
  refine RP.mono ?_
  rintro r w4 ⟨rfl, hr4, b4⟩
  have hs4 := b4.size
  have q4 := (b4.block w2.heap.size hs3 (by intro e; have e9 : w2.heap.size = q := e; omega)).trans R3.out
  have y0 : w4.cell? ⟨w2.heap.size, 0, none⟩ = some (.int .i64 ek) := cell_at q4 rfl
  have y1 : w4.cell? ⟨w2.heap.size, 1, none⟩ = some (.int .i64 et) := cell_at q4 rfl
  have hq4 : w2.heap.size < w4.heap.size := by omega
  have hne4 : ¬ w2.heap.size = w4.heap.size := by omega
  have hql : ∀ W' : World, (binOp .eql 28 (.agg #[.int .i64 ek, .int .i64 et]) (.agg #[.int .i64 ek, .int .i64 et])).run Try.prog W' = .ok (.bool true) W' := fun W' => eqlI W' _ _
  have A4 : Hid (∀ W, Below w4.heap.size w4 W → After w W base p v n q) := hide (fun W hW =>
    ⟨v2, n, S, (H3.out.past HR3.out b4).below hW, hr4.but (S := fun _ => False) (But.of_below hW) (fun e => e) (fun _ _ _ _ e => e), by omega, by simp at hS ⊢; omega, (B3.out.trans b4 (fun _ _ e => .inr (.inr e))).on hW, fun g hg => .inl (by rw [← G2.out]; exact hg)⟩)
  clear hr4 b4 RP q4 HW1 HW3
  go_wp2_with fail
  go_ret
  exact ⟨rfl, A4.out _ (below_alloc1 _ _)⟩
set_option maxRecDepth 8000 in
set_option maxHeartbeats 1600000 in
theorem plays3e (wh xk xt : Int) (w : World) (base p : Nat) (v : Value) (n : Int) (q : Nat) (h : HsI w base p v n []) (hr : Rq w q (([] : List (It × Int)).map Prod.fst)) (_hbase : base ≤ w.heap.size) (_hn : n + 1 ≤ 5000000000000) (hS : (([] : List (It × Int)).length : Int) ≤ n) :
    Calls Try.prog 19 #[.agg #[.int .i64 3, .int .i64 wh, .int .i64 xk, .int .i64 xt], .pointer (some ⟨p, 0, none⟩), .pointer (some ⟨q, 0, none⟩)] w fun r w' => r = .returned (.bool true) ∧ After w w' base p v n q := by
  obtain ⟨w1, hw1⟩ : ∃ w1, w1 = w.alloc (.cells #[.int .i64 3, .int .i64 wh, .int .i64 xk, .int .i64 xt] 47) := ⟨_, rfl⟩
  have hb1 : Below w.heap.size w w1 := by rw [hw1]; exact below_alloc1 _ _
  have hs1 : w.heap.size < w1.heap.size := by rw [hw1]; simp
  have r1 : w1.heap[w.heap.size]? = some (.cells #[.int .i64 3, .int .i64 wh, .int .i64 xk, .int .i64 xt] 47 (0, 0)) := by rw [hw1]; exact heap_new _ _
  have x0 : w1.cell? ⟨w.heap.size, 0, none⟩ = some (.int .i64 3) := cell_at r1 rfl
  have x2 : w1.cell? ⟨w.heap.size, 2, none⟩ = some (.int .i64 xk) := cell_at r1 rfl
  have x3 : w1.cell? ⟨w.heap.size, 3, none⟩ = some (.int .i64 xt) := cell_at r1 rfl
  have HW1 : Hid _ := hide hw1
  have HB1 : Hid _ := hide hb1
  have R1 : Hid _ := hide r1
  clear hw1 hb1 r1
  have h1 := h.below HB1.out
  have hr1 := hr.but (S := fun _ => False) (But.of_below HB1.out) (fun e => e) (fun _ _ _ _ e => e)
  have H1 : Hid _ := hide h1
  have HR1 : Hid _ := hide hr1
  have hp := h.plt
  have hqq := hr.lt
  have hqp : p ≠ q := rq_ne hr h.blk (by decide)
  have PO := hpeek0I H1.out
  clear h hr h1 hr1
  go_enter Try.func19, Try.ntmps19
  go_wp2_with fail
  rw [← HW1.out]
  refine PO.mono ?_
  rintro r w2 ⟨rfl, b2'⟩
  have b2 : But (fun k => k = p ∨ v.ownBlock = some k) w1 w2 := But.of_below b2'
  have h2 := H1.out.below b2'
  have hr2' := HR1.out.past H1.out b2
  have g2 : v.ownBlock = v.ownBlock := rfl
  clear PO
  obtain ⟨w3, hw3⟩ : ∃ w3, w3 = w2.alloc (.cells #[.int .i64 0, .int .i64 0] 28) := ⟨_, rfl⟩
  have b3 : Below w2.heap.size w2 w3 := by rw [hw3]; exact below_alloc1 _ _
  have r3 : w3.heap[w2.heap.size]? = some (.cells #[.int .i64 0, .int .i64 0] 28 (0, 0)) := by rw [hw3]; exact heap_new _ _
  have hs3 : w2.heap.size < w3.heap.size := by rw [hw3]; simp
  have hr2 := hr2'.but (S := fun _ => False) (But.of_below b3) (fun e => e) (fun _ _ _ _ e => e)
  have h3 := h2.below b3
  have hs2 := b2.size
  have RP := r9peek_empty hr2
  have HW3 : Hid _ := hide hw3
  have R3 : Hid _ := hide r3
  have H3 : Hid _ := hide h3
  have HR3 : Hid _ := hide hr2
  have B3 : Hid (But (fun k => k = p ∨ v.ownBlock = some k ∨ k = q) w w3) := hide (((But.of_below HB1.out).trans b2 (fun _ _ e => e.imp id .inl)).on b3)
  have G2 : Hid _ := hide g2
  clear hw3 r3 b3 h3 hr2 b2 hr2' h2 g2 x0 x2 x3
  go_wp2_with fail
  rw [← HW3.out]
  refine RP.mono ?_
  rintro r w4 ⟨rfl, b4'⟩
  have b4 : But (fun k => k = q) w3 w4 := But.of_below b4'
  have hr4 := HR3.out.but (S := fun _ => False) (But.of_below b4') (fun e => e) (fun _ _ _ _ e => e)
  have hs4 := b4.size
  have q4 := (b4.block w2.heap.size hs3 (by intro e; have e9 : w2.heap.size = q := e; omega)).trans R3.out
  have y0 : w4.cell? ⟨w2.heap.size, 0, none⟩ = some (.int .i64 0) := cell_at q4 rfl
  have y1 : w4.cell? ⟨w2.heap.size, 1, none⟩ = some (.int .i64 0) := cell_at q4 rfl
  have hq4 : w2.heap.size < w4.heap.size := by omega
  have hne4 : ¬ w2.heap.size = w4.heap.size := by omega
  have hql : ∀ W' : World, (binOp .eql 28 (.agg #[.int .i64 0, .int .i64 0]) (.agg #[.int .i64 0, .int .i64 0])).run Try.prog W' = .ok (.bool true) W' := fun W' => eqlI W' _ _
  have A4 : Hid (∀ W, Below w4.heap.size w4 W → After w W base p v n q) := hide (fun W hW =>
    ⟨v, n, [], (H3.out.past HR3.out b4).below hW, hr4.but (S := fun _ => False) (But.of_below hW) (fun e => e) (fun _ _ _ _ e => e), by omega, by simp at hS ⊢; omega, (B3.out.trans b4 (fun _ _ e => .inr (.inr e))).on hW, fun g hg => .inl (by exact hg)⟩)
  clear hr4 b4 RP q4 HW1 HW3
  go_wp2_with fail
  go_ret
  exact ⟨rfl, A4.out _ (below_alloc1 _ _)⟩
set_option maxRecDepth 8000 in
set_option maxHeartbeats 1600000 in
theorem plays3c (wh xk xt : Int) (w : World) (base p : Nat) (v : Value) (n : Int) (e : It × Int) (S : List (It × Int)) (q : Nat) (h : HsI w base p v n (e :: S)) (hr : Rq w q (((e :: S) : List (It × Int)).map Prod.fst)) (_hbase : base ≤ w.heap.size) (_hn : n + 1 ≤ 5000000000000) (hS : (((e :: S) : List (It × Int)).length : Int) ≤ n) :
    Calls Try.prog 19 #[.agg #[.int .i64 3, .int .i64 wh, .int .i64 xk, .int .i64 xt], .pointer (some ⟨p, 0, none⟩), .pointer (some ⟨q, 0, none⟩)] w fun r w' => r = .returned (.bool true) ∧ After w w' base p v n q := by
  obtain ⟨w1, hw1⟩ : ∃ w1, w1 = w.alloc (.cells #[.int .i64 3, .int .i64 wh, .int .i64 xk, .int .i64 xt] 47) := ⟨_, rfl⟩
  have hb1 : Below w.heap.size w w1 := by rw [hw1]; exact below_alloc1 _ _
  have hs1 : w.heap.size < w1.heap.size := by rw [hw1]; simp
  have r1 : w1.heap[w.heap.size]? = some (.cells #[.int .i64 3, .int .i64 wh, .int .i64 xk, .int .i64 xt] 47 (0, 0)) := by rw [hw1]; exact heap_new _ _
  have x0 : w1.cell? ⟨w.heap.size, 0, none⟩ = some (.int .i64 3) := cell_at r1 rfl
  have x2 : w1.cell? ⟨w.heap.size, 2, none⟩ = some (.int .i64 xk) := cell_at r1 rfl
  have x3 : w1.cell? ⟨w.heap.size, 3, none⟩ = some (.int .i64 xt) := cell_at r1 rfl
  have HW1 : Hid _ := hide hw1
  have HB1 : Hid _ := hide hb1
  have R1 : Hid _ := hide r1
  clear hw1 hb1 r1
  have h1 := h.below HB1.out
  have hr1 := hr.but (S := fun _ => False) (But.of_below HB1.out) (fun e => e) (fun _ _ _ _ e => e)
  have H1 : Hid _ := hide h1
  have HR1 : Hid _ := hide hr1
  have hp := h.plt
  have hqq := hr.lt
  have hqp : p ≠ q := rq_ne hr h.blk (by decide)
  have PO := hpeekI H1.out
  clear h hr h1 hr1
  obtain ⟨⟨ek, et⟩, eu⟩ := e
  go_enter Try.func19, Try.ntmps19
  go_wp2_with fail
  rw [← HW1.out]
  refine PO.mono ?_
  rintro r w2 ⟨rfl, b2'⟩
  have b2 : But (fun k => k = p ∨ v.ownBlock = some k) w1 w2 := But.of_below b2'
  have h2 := H1.out.below b2'
  have hr2' := HR1.out.past H1.out b2
  have g2 : v.ownBlock = v.ownBlock := rfl
  clear PO
  obtain ⟨w3, hw3⟩ : ∃ w3, w3 = w2.alloc (.cells #[.int .i64 ek, .int .i64 et] 28) := ⟨_, rfl⟩
  have b3 : Below w2.heap.size w2 w3 := by rw [hw3]; exact below_alloc1 _ _
  have r3 : w3.heap[w2.heap.size]? = some (.cells #[.int .i64 ek, .int .i64 et] 28 (0, 0)) := by rw [hw3]; exact heap_new _ _
  have hs3 : w2.heap.size < w3.heap.size := by rw [hw3]; simp
  have hr2 := hr2'.but (S := fun _ => False) (But.of_below b3) (fun e => e) (fun _ _ _ _ e => e)
  have h3 := h2.below b3
  have hs2 := b2.size
  have RP := r9peek hr2
  have HW3 : Hid _ := hide hw3
  have R3 : Hid _ := hide r3
  have H3 : Hid _ := hide h3
  have HR3 : Hid _ := hide hr2
  have B3 : Hid (But (fun k => k = p ∨ v.ownBlock = some k ∨ k = q) w w3) := hide (((But.of_below HB1.out).trans b2 (fun _ _ e => e.imp id .inl)).on b3)
  have G2 : Hid _ := hide g2
  clear hw3 r3 b3 h3 hr2 b2 hr2' h2 g2 x0 x2 x3
  go_wp2_with fail
  rw [← HW3.out]
  refine RP.mono ?_
  rintro r w4 ⟨rfl, b4'⟩
  have b4 : But (fun k => k = q) w3 w4 := But.of_below b4'
  have hr4 := HR3.out.but (S := fun _ => False) (But.of_below b4') (fun e => e) (fun _ _ _ _ e => e)
  have hs4 := b4.size
  have q4 := (b4.block w2.heap.size hs3 (by intro e; have e9 : w2.heap.size = q := e; omega)).trans R3.out
  have y0 : w4.cell? ⟨w2.heap.size, 0, none⟩ = some (.int .i64 ek) := cell_at q4 rfl
  have y1 : w4.cell? ⟨w2.heap.size, 1, none⟩ = some (.int .i64 et) := cell_at q4 rfl
  have hq4 : w2.heap.size < w4.heap.size := by omega
  have hne4 : ¬ w2.heap.size = w4.heap.size := by omega
  have hql : ∀ W' : World, (binOp .eql 28 (.agg #[.int .i64 ek, .int .i64 et]) (.agg #[.int .i64 ek, .int .i64 et])).run Try.prog W' = .ok (.bool true) W' := fun W' => eqlI W' _ _
  have A4 : Hid (∀ W, Below w4.heap.size w4 W → After w W base p v n q) := hide (fun W hW =>
    ⟨v, n, ((⟨ek, et⟩, eu) :: S), (H3.out.past HR3.out b4).below hW, hr4.but (S := fun _ => False) (But.of_below hW) (fun e => e) (fun _ _ _ _ e => e), by omega, by simp at hS ⊢; omega, (B3.out.trans b4 (fun _ _ e => .inr (.inr e))).on hW, fun g hg => .inl (by exact hg)⟩)
  clear hr4 b4 RP q4 HW1 HW3
  go_wp2_with fail
  go_ret
  exact ⟨rfl, A4.out _ (below_alloc1 _ _)⟩
set_option maxRecDepth 8000 in
set_option maxHeartbeats 1600000 in
theorem plays4 (wh xk xt : Int) (w : World) (base p : Nat) (v : Value) (n : Int) (S : List (It × Int)) (q : Nat) (h : HsI w base p v n S) (hr : Rq w q (S.map Prod.fst)) (hS : (S.length : Int) ≤ n) :
    Calls Try.prog 19 #[.agg #[.int .i64 4, .int .i64 wh, .int .i64 xk, .int .i64 xt], .pointer (some ⟨p, 0, none⟩), .pointer (some ⟨q, 0, none⟩)] w fun r w' => r = .returned (.bool true) ∧ After w w' base p v n q := by
  obtain ⟨w1, hw1⟩ : ∃ w1, w1 = w.alloc (.cells #[.int .i64 4, .int .i64 wh, .int .i64 xk, .int .i64 xt] 47) := ⟨_, rfl⟩
  have hb1 : Below w.heap.size w w1 := by rw [hw1]; exact below_alloc1 _ _
  have hs1 : w.heap.size < w1.heap.size := by rw [hw1]; simp
  have r1 : w1.heap[w.heap.size]? = some (.cells #[.int .i64 4, .int .i64 wh, .int .i64 xk, .int .i64 xt] 47 (0, 0)) := by rw [hw1]; exact heap_new _ _
  have x0 : w1.cell? ⟨w.heap.size, 0, none⟩ = some (.int .i64 4) := cell_at r1 rfl
  have x2 : w1.cell? ⟨w.heap.size, 2, none⟩ = some (.int .i64 xk) := cell_at r1 rfl
  have x3 : w1.cell? ⟨w.heap.size, 3, none⟩ = some (.int .i64 xt) := cell_at r1 rfl
  have HW1 : Hid _ := hide hw1
  have HB1 : Hid _ := hide hb1
  have R1 : Hid _ := hide r1
  clear hw1 hb1 r1
  have h1 := h.below HB1.out
  have hr1 := hr.but (S := fun _ => False) (But.of_below HB1.out) (fun e => e) (fun _ _ _ _ e => e)
  have L1 := hlenI h1
  have L2 := r9len hr1
  rw [List.length_map] at L2
  have A1 : Hid (After w w1 base p v n q) := hide ⟨v, n, S, h1, hr1, by omega, hS, But.of_below HB1.out, fun g hg => .inl hg⟩
  clear h hr h1 hr1
  go_enter Try.func19, Try.ntmps19
  go_wp2_with fail
  rw [← HW1.out]
  refine L1.mono ?_
  rintro r w2 ⟨rfl, rfl⟩
  go_wp2_with fail
  refine L2.mono ?_
  rintro r w3 ⟨rfl, rfl⟩
  go_wp2
  go_ret
  exact ⟨ret_bool (by simp), A1.out⟩
set_option maxRecDepth 8000 in
set_option maxHeartbeats 1600000 in
theorem plays5 (wh xk xt : Int) (w : World) (base p : Nat) (v : Value) (n : Int) (S : List (It × Int)) (q : Nat) (h : HsI w base p v n S) (hr : Rq w q (S.map Prod.fst)) (hn : n + 1 ≤ 5000000000000) (hS : (S.length : Int) ≤ n) :
    Calls Try.prog 19 #[.agg #[.int .i64 5, .int .i64 wh, .int .i64 xk, .int .i64 xt], .pointer (some ⟨p, 0, none⟩), .pointer (some ⟨q, 0, none⟩)] w fun r w' => r = .returned (.bool true) ∧ After w w' base p v n q := by
  obtain ⟨w1, hw1⟩ : ∃ w1, w1 = w.alloc (.cells #[.int .i64 5, .int .i64 wh, .int .i64 xk, .int .i64 xt] 47) := ⟨_, rfl⟩
  have hb1 : Below w.heap.size w w1 := by rw [hw1]; exact below_alloc1 _ _
  have hs1 : w.heap.size < w1.heap.size := by rw [hw1]; simp
  have r1 : w1.heap[w.heap.size]? = some (.cells #[.int .i64 5, .int .i64 wh, .int .i64 xk, .int .i64 xt] 47 (0, 0)) := by rw [hw1]; exact heap_new _ _
  have x0 : w1.cell? ⟨w.heap.size, 0, none⟩ = some (.int .i64 5) := cell_at r1 rfl
  have x2 : w1.cell? ⟨w.heap.size, 2, none⟩ = some (.int .i64 xk) := cell_at r1 rfl
  have x3 : w1.cell? ⟨w.heap.size, 3, none⟩ = some (.int .i64 xt) := cell_at r1 rfl
  have HW1 : Hid _ := hide hw1
  have HB1 : Hid _ := hide hb1
  have R1 : Hid _ := hide r1
  clear hw1 hb1 r1
  have h1 := h.below HB1.out
  have hr1 := hr.but (S := fun _ => False) (But.of_below HB1.out) (fun e => e) (fun _ _ _ _ e => e)
  have L1 := hsortedI h1 (by omega)
  have H1 : Hid _ := hide h1
  have HR1 : Hid _ := hide hr1
  clear h hr h1 hr1
  go_enter Try.func19, Try.ntmps19
  go_wp2_with fail
  rw [← HW1.out]
  refine L1.mono ?_
  rintro r w2 ⟨g, rfl, hg, O2, b2⟩
  have hr2 := HR1.out.but (S := fun _ => False) (But.of_below b2) (fun e => e) (fun _ _ _ _ e => e)
  have L2 := r9sorted hr2 (by rw [List.length_map]; omega)
  have HO2 : Hid _ := hide O2
  have B2 : Hid _ := hide b2
  clear O2 b2 hr2 L1
  go_wp2_with fail
  refine L2.mono ?_
  rintro r w3 ⟨v3, rfl, O3, b3⟩
  obtain ⟨a3, c3, hv3, _, _⟩ := own_form O3
  subst hv3
  have SM := sameI (some ⟨g, 0, none⟩) a3 S.length S.length c3 (S.map Prod.fst) w3 ((HO2.out.below b3).row (by simp)) (by have h9 := O3.row rfl; rw [List.length_map] at h9; exact h9) (by omega)
  have B3 : Hid _ := hide (Below.on B2.out b3)
  have e9 : (S.map Prod.fst).length = S.length := List.length_map ..
  rw [e9]
  clear O3 b3 L2 e9
  go_wp2_with fail
  refine SM.mono ?_
  rintro r w4 ⟨rfl, b4⟩
  have A4 : Hid (After w w4 base p v n q) := hide (by
    have b14 := Below.on B3.out b4
    exact ⟨v, n, S, H1.out.below b14, HR1.out.but (S := fun _ => False) (But.of_below b14) (fun e => e) (fun _ _ _ _ e => e), by omega, hS, But.of_below (Below.on HB1.out b14), fun g hg => .inl hg⟩)
  clear b4 SM
  go_wp2
  go_ret
  exact ⟨rfl, A4.out⟩
set_option maxRecDepth 8000 in
theorem plays0 (kd wh xk xt : Int) (a b : Option Addr) (w : World) (h1 : kd ≠ 1) (h2 : kd ≠ 2) (h3 : kd ≠ 3) (h4 : kd ≠ 4) (h5 : kd ≠ 5) :
    Calls Try.prog 19 #[.agg #[.int .i64 kd, .int .i64 wh, .int .i64 xk, .int .i64 xt], .pointer a, .pointer b] w fun r w' => r = .returned (.bool true) ∧ Below w.heap.size w w' := by
  have e1 : (kd == 1) = false := by simp [h1]
  have e2 : (kd == 2) = false := by simp [h2]
  have e3 : (kd == 3) = false := by simp [h3]
  have e4 : (kd == 4) = false := by simp [h4]
  have e5 : (kd == 5) = false := by simp [h5]
  go_enter Try.func19, Try.ntmps19
  go_wp2
  go_ret
  exact ⟨rfl, below_alloc1 _ _⟩
end Go.Proofs.Ytdmlehbamdcjcab
