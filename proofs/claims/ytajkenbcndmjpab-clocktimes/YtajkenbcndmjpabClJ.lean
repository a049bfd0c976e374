/-
  The law's own calls on clocks as values: join, meet, leq, allGood, awake.
-/
import Derived.Test.YtajkenbcndmjpabClI
namespace Go.Proofs.Ytajkenbcndmjpab
open Go.RowKit
/-- A list that is handed in. -/
structure CL (w : World) (v : Value) (L : List Tk) : Prop where
  ex : ∃ a n c, v = .slice a n c ∧ Cl w a n c L
theorem CL.below {w w' : World} {v : Value} {L : List Tk} (h : CL w v L) (hb : Below w.heap.size w w') : CL w' v L := by
  obtain ⟨a, n, c, hv, h1⟩ := h.ex
  exact ⟨a, n, c, hv, h1.below hb⟩
/-- A clock. -/
structure CV (w : World) (v : Value) (L : List Tk) : Prop where
  cl : CL w v L
  gd : gd 0 L = true
theorem CV.below {w w' : World} {v : Value} {L : List Tk} (h : CV w v L) (hb : Below w.heap.size w w') : CV w' v L := ⟨h.cl.below hb, h.gd⟩
theorem CV.nil (w : World) : CV w (.slice none 0 0) [] := ⟨⟨none, 0, 0, rfl, ⟨TRow.nil _ _ _, Nat.le_refl _, fun _ => ⟨rfl, rfl⟩, by simp⟩⟩, rfl⟩
/-- A list of the call's own. -/
theorem cl_own {w : World} {base : Nat} {v : Value} {L : List Tk} (h : Own layT 43 w base v L) (hl : (L.length : Int) ≤ 8796093022208) : CL w v L := by
  obtain ⟨a, c, rfl, h0, hc⟩ := own_form h
  exact ⟨a, L.length, c, rfl, ⟨h.row rfl, hc, h0, hl⟩⟩
theorem cv_own {w : World} {base : Nat} {v : Value} {L : List Tk} (h : Own layT 43 w base v L) (hg : gd 0 L = true) : CV w v L := ⟨cl_own h (by have := gd_len0 hg; omega), hg⟩
theorem cgood_any {w : World} {v : Value} {L : List Tk} (h : CL w v L) : Calls Try.prog 15 #[v] w fun e w' => e = .returned (.bool (gd 0 L)) ∧ Below w.heap.size w w' := by
  obtain ⟨a, n, c, rfl, h1⟩ := h.ex
  exact good_any a n c L w h1.row h1.big
theorem csame_any {w : World} {v u : Value} {L M : List Tk} (h : CL w v L) (k : CL w u M) : Calls Try.prog 12 #[v, u] w fun e w' => e = .returned (.bool (decide (L = M))) ∧ Below w.heap.size w w' := by
  obtain ⟨a, n, c, rfl, h1⟩ := h.ex
  obtain ⟨b, m, d, rfl, k1⟩ := k.ex
  exact same_any a b n c m d L M w h1.row k1.row (by have := h1.big; omega)
/-- Of good ones. -/
theorem csameT_any {w : World} {v u : Value} {L M : List Tk} (h : CV w v L) (k : CV w u M) (ht : ∀ g, tm g L = tm g M) : Calls Try.prog 12 #[v, u] w fun e w' => e = .returned (.bool true) ∧ Below w.heap.size w w' := by
  refine (csame_any h.cl k.cl).mono ?_
  rintro e w' ⟨rfl, hb⟩
  exact ⟨by rw [decide_eq_true (tm_ext h.gd k.gd ht)], hb⟩
theorem cjoinP_any {w : World} {v u : Value} {L M : List Tk} (h : CV w v L) (k : CV w u M) : Calls Try.prog 30 #[v, u] w fun e w' => ∃ x J, e = .returned (.tuple #[x, .int .i64 0]) ∧ Own layT 43 w' w.heap.size x J ∧ CV w' x J ∧ (∀ g, tm g J = max (tm g L) (tm g M)) ∧ Below w.heap.size w w' := by
  obtain ⟨a, n, c, rfl, h1⟩ := h.cl.ex
  obtain ⟨b, m, d, rfl, k1⟩ := k.cl.ex
  refine (join_ok a b n c m d L M w h1.row k1.row h1.cap k1.cap h.gd k.gd).mono ?_
  rintro e w' ⟨x, J, he, ho, hg, ht, hb⟩
  exact ⟨x, J, he, ho, cv_own ho hg, ht, hb⟩
theorem cmeetP_any {w : World} {v u : Value} {L M : List Tk} (h : CV w v L) (k : CV w u M) : Calls Try.prog 31 #[v, u] w fun e w' => ∃ x J, e = .returned (.tuple #[x, .int .i64 0]) ∧ Own layT 43 w' w.heap.size x J ∧ CV w' x J ∧ (∀ g, tm g J = min (tm g L) (tm g M)) ∧ Below w.heap.size w w' := by
  obtain ⟨a, n, c, rfl, h1⟩ := h.cl.ex
  obtain ⟨b, m, d, rfl, k1⟩ := k.cl.ex
  refine (meet_ok a b n c m d L M w h1.row k1.row h1.cap k1.cap h.gd k.gd).mono ?_
  rintro e w' ⟨x, J, he, ho, hg, ht, hb⟩
  exact ⟨x, J, he, ho, cv_own ho hg, ht, hb⟩
theorem cleqP_any {w : World} {v u : Value} {L M : List Tk} (h : CV w v L) (k : CV w u M) : Calls Try.prog 32 #[v, u] w fun e w' => e = .returned (.tuple #[.bool (leB L M), .int .i64 0]) ∧ Below w.heap.size w w' := by
  obtain ⟨a, n, c, rfl, h1⟩ := h.cl.ex
  obtain ⟨b, m, d, rfl, k1⟩ := k.cl.ex
  exact leq_ok a b n c m d L M w h1.row k1.row h1.cap k1.cap h.gd k.gd
theorem capartP_any {w : World} {v u : Value} {L M : List Tk} (h : CV w v L) (k : CV w u M) : Calls Try.prog 33 #[v, u] w fun e w' => e = .returned (.tuple #[.bool (!leB L M && !leB M L), .int .i64 0]) ∧ Below w.heap.size w w' := by
  obtain ⟨a, n, c, rfl, h1⟩ := h.cl.ex
  obtain ⟨b, m, d, rfl, k1⟩ := k.cl.ex
  exact apart_ok a b n c m d L M w h1.row k1.row h1.cap k1.cap h.gd k.gd
theorem cjoin_any {w : World} {v u : Value} {L M : List Tk} (h : CV w v L) (k : CV w u M) : Calls Try.prog 21 #[v, u] w fun e w' => ∃ x J, e = .returned x ∧ Own layT 43 w' w.heap.size x J ∧ CV w' x J ∧ (∀ g, tm g J = max (tm g L) (tm g M)) ∧ Below w.heap.size w w' := by
  have H := hide (cjoinP_any h k)
  have HN := hide (fun W => num_any 0 W)
  clear h k
  go_enter Try.func21, Try.ntmps21
  go_wp2_with fail
  refine H.out.mono ?_
  rintro e w1 ⟨x, J, rfl, ho, hc, ht, hb⟩
  have HR := hide (And.intro ho (And.intro hc (And.intro ht hb)))
  clear ho hc ht hb H
  go_wp2_with fail
  refine (HN.out _).mono ?_
  rintro e w2 ⟨rfl, hw⟩
  rw [hw]
  clear hw w2
  go_wp2
  go_ret
  exact ⟨x, J, rfl, HR.out.1, HR.out.2.1, HR.out.2.2.1, HR.out.2.2.2⟩
theorem cmeet_any {w : World} {v u : Value} {L M : List Tk} (h : CV w v L) (k : CV w u M) : Calls Try.prog 22 #[v, u] w fun e w' => ∃ x J, e = .returned x ∧ Own layT 43 w' w.heap.size x J ∧ CV w' x J ∧ (∀ g, tm g J = min (tm g L) (tm g M)) ∧ Below w.heap.size w w' := by
  have H := hide (cmeetP_any h k)
  have HN := hide (fun W => num_any 0 W)
  clear h k
  go_enter Try.func22, Try.ntmps22
  go_wp2_with fail
  refine H.out.mono ?_
  rintro e w1 ⟨x, J, rfl, ho, hc, ht, hb⟩
  have HR := hide (And.intro ho (And.intro hc (And.intro ht hb)))
  clear ho hc ht hb H
  go_wp2_with fail
  refine (HN.out _).mono ?_
  rintro e w2 ⟨rfl, hw⟩
  rw [hw]
  clear hw w2
  go_wp2
  go_ret
  exact ⟨x, J, rfl, HR.out.1, HR.out.2.1, HR.out.2.2.1, HR.out.2.2.2⟩
theorem cleq_any {w : World} {v u : Value} {L M : List Tk} (h : CV w v L) (k : CV w u M) : Calls Try.prog 23 #[v, u] w fun e w' => e = .returned (.bool (leB L M)) ∧ Below w.heap.size w w' := by
  have H := hide (cleqP_any h k)
  have HN := hide (fun W => num_any 0 W)
  clear h k
  cases hl : leB L M with
  | true =>
    rw [hl] at H
    clear hl
    go_enter Try.func23, Try.ntmps23
    go_wp2_with fail
    refine H.out.mono ?_
    rintro e w1 ⟨rfl, hb⟩
    have HB := hide hb
    clear hb H
    go_wp2_with fail
    refine (HN.out _).mono ?_
    rintro e w2 ⟨rfl, hw⟩
    rw [hw]
    clear hw w2
    go_wp2
    go_ret
    exact ⟨rfl, HB.out⟩
  | false =>
    rw [hl] at H
    clear hl
    go_enter Try.func23, Try.ntmps23
    go_wp2_with fail
    refine H.out.mono ?_
    rintro e w1 ⟨rfl, hb⟩
    have HB := hide hb
    clear hb H
    go_wp2
    go_ret
    exact ⟨rfl, HB.out⟩
theorem allgood_any {w : World} {va vb vc : Value} {A B C : List Tk} (ha : CL w va A) (hb : CL w vb B) (hc : CL w vc C) : Calls Try.prog 17 #[va, vb, vc] w fun e w' => e = .returned (.bool (gd 0 A && (gd 0 B && gd 0 C))) ∧ Below w.heap.size w w' := by
  have H1 := hide (cgood_any ha)
  have H2 := hide (fun W (hW : Below w.heap.size w W) => cgood_any (hb.below hW))
  have H3 := hide (fun W (hW : Below w.heap.size w W) => cgood_any (hc.below hW))
  clear ha hb hc
  cases g1 : gd 0 A with
  | false =>
    rw [g1] at H1
    clear g1
    go_enter Try.func17, Try.ntmps17
    go_wp2_with fail
    refine H1.out.mono ?_
    rintro e w1 ⟨rfl, hb⟩
    have HB := hide hb
    clear hb
    go_wp2
    go_ret
    exact ⟨by simp, HB.out⟩
  | true =>
    rw [g1] at H1
    clear g1
    cases g2 : gd 0 B with
    | false =>
      rw [g2] at H2
      clear g2
      go_enter Try.func17, Try.ntmps17
      go_wp2_with fail
      refine H1.out.mono ?_
      rintro e w1 ⟨rfl, hb⟩
      have HB := hide hb
      clear hb
      go_wp2_with fail
      refine (H2.out _ HB.out).mono ?_
      rintro e w2 ⟨rfl, hb⟩
      have HB2 := hide (Below.on HB.out hb)
      clear hb
      go_wp2
      go_ret
      exact ⟨by simp, HB2.out⟩
    | true =>
      rw [g2] at H2
      clear g2
      generalize gd 0 C = gc at H3
      go_enter Try.func17, Try.ntmps17
      go_wp2_with fail
      refine H1.out.mono ?_
      rintro e w1 ⟨rfl, hb⟩
      have HB := hide hb
      clear hb
      go_wp2_with fail
      refine (H2.out _ HB.out).mono ?_
      rintro e w2 ⟨rfl, hb⟩
      have HB2 := hide (Below.on HB.out hb)
      clear hb
      go_wp2_with fail
      refine (H3.out _ HB2.out).mono ?_
      rintro e w3 ⟨rfl, hb⟩
      have HB3 := hide (Below.on HB2.out hb)
      clear hb
      go_wp2
      go_ret
      exact ⟨by simp, HB3.out⟩
theorem cv_lit {w : World} {B n : Nat} {L : List Tk} {e : TypeId} {fr : Nat × Nat} (h : w.heap[B]? = some (.cells (layT.fl L).toArray e fr)) (hn : L.length = n) (hg : gd 0 L = true) : CV w (.slice (some ⟨B, 0, none⟩) n n) L := by
  subst hn
  refine ⟨⟨_, _, _, rfl, ⟨⟨rfl, .inr ⟨B, 0, rfl, fun i x hx t u hu => ?_⟩⟩, Nat.le_refl _, fun e => (by cases e), by have := gd_len0 hg; omega⟩⟩, hg⟩
  have ht : t < layT.z := by rw [← layT.len x]; exact get_lt hu
  refine cell_at h ?_
  rw [Nat.zero_add, List.getElem?_toArray, layT.fl_get hx ht]
  exact hu
set_option maxRecDepth 100000 in
set_option maxHeartbeats 4000000 in
theorem awake_any (w : World) : Calls Try.prog 14 #[] w fun e w' => e = .returned (.bool true) ∧ Below w.heap.size w w' := by
  obtain ⟨W, hW⟩ : ∃ W, W = (w.alloc (.cells #[.int .i64 0, .int .i64 5, .int .i64 2, .int .i64 1] 43)).alloc (.cells #[.int .i64 1, .int .i64 1, .int .i64 2, .int .i64 3] 43) := ⟨_, rfl⟩
  have ca : CV W (.slice (some ⟨w.heap.size, 0, none⟩) 2 2) [⟨0, 5⟩, ⟨2, 1⟩] := cv_lit (e := 43) (fr := (0, 0)) (by rw [hW]; exact heap_old (heap_new _ _)) rfl (by decide)
  have cb : CV W (.slice (some ⟨w.heap.size + 1, 0, none⟩) 2 2) [⟨1, 1⟩, ⟨2, 3⟩] := cv_lit (e := 43) (fr := (0, 0)) (by rw [hW]; exact heap_new2 _ _ _) rfl (by decide)
  have CA := hide ca
  have CB := hide cb
  have HB : Hid (Below w.heap.size w W) := hide (by rw [hW]; exact below_alloc2 _ _ _)
  have HN := hide (fun W => num_any 0 W)
  clear ca cb
  go_enter Try.func14, Try.ntmps14
  go_wp2_with fail
  rw [← hW]
  clear hW
  refine (cjoinP_any CA.out CB.out).mono ?_
  rintro e w1 ⟨vj, J, rfl, -, cj, tj, hb⟩
  have eJ : J = [⟨0, 5⟩, ⟨1, 1⟩, ⟨2, 3⟩] := tm_ext cj.gd (k := 0) (by decide) (fun g => by rw [tj]; simp only [tm]; omega)
  subst eJ
  replace CA := hide (CA.out.below hb)
  replace CB := hide (CB.out.below hb)
  replace HB := hide (Below.on HB.out hb)
  have CJ := hide cj
  clear cj tj hb
  go_wp2_with fail
  refine (cmeetP_any CA.out CB.out).mono ?_
  rintro e w2 ⟨vm, M, rfl, -, cm, tm', hb⟩
  have eM : M = [⟨2, 1⟩] := tm_ext cm.gd (k := 0) (by decide) (fun g => by rw [tm']; simp only [tm]; omega)
  subst eM
  replace CA := hide (CA.out.below hb)
  replace CB := hide (CB.out.below hb)
  replace CJ := hide (CJ.out.below hb)
  replace HB := hide (Below.on HB.out hb)
  have CM := hide cm
  clear cm tm' hb
  go_wp2_with fail
  refine (cleqP_any CA.out CJ.out).mono ?_
  rintro e w3 ⟨rfl, hb⟩
  replace CA := hide (CA.out.below hb)
  replace CB := hide (CB.out.below hb)
  replace CJ := hide (CJ.out.below hb)
  replace CM := hide (CM.out.below hb)
  replace HB := hide (Below.on HB.out hb)
  clear hb
  have l1 : leB [⟨0, 5⟩, ⟨2, 1⟩] [⟨0, 5⟩, ⟨1, 1⟩, ⟨2, 3⟩] = true := by decide
  have l2 : leB [⟨0, 5⟩, ⟨1, 1⟩, ⟨2, 3⟩] [⟨0, 5⟩, ⟨2, 1⟩] = false := by decide
  have l3 : (!leB [⟨0, 5⟩, ⟨2, 1⟩] [⟨1, 1⟩, ⟨2, 3⟩] && !leB [⟨1, 1⟩, ⟨2, 3⟩] [⟨0, 5⟩, ⟨2, 1⟩]) = true := by decide
  rw [l1]
  go_wp2_with fail
  refine (cleqP_any CJ.out CA.out).mono ?_
  rintro e w4 ⟨rfl, hb⟩
  replace CA := hide (CA.out.below hb)
  replace CB := hide (CB.out.below hb)
  replace CJ := hide (CJ.out.below hb)
  replace CM := hide (CM.out.below hb)
  replace HB := hide (Below.on HB.out hb)
  clear hb
  rw [l2]
  go_wp2_with fail
  refine (capartP_any CA.out CB.out).mono ?_
  rintro e w5 ⟨rfl, hb⟩
  replace CJ := hide (CJ.out.below hb)
  replace CM := hide (CM.out.below hb)
  replace HB := hide (Below.on HB.out hb)
  clear hb CA CB
  rw [l3]
  clear l1 l2 l3
  iterate 5
    go_wp2_with fail
    refine (HN.out _).mono ?_
    rintro e w9 ⟨rfl, hw⟩
    rw [hw]
    clear hw w9
  obtain ⟨W6, hW6⟩ : ∃ W6, W6 = w5.alloc (.cells #[.int .i64 0, .int .i64 5, .int .i64 1, .int .i64 1, .int .i64 2, .int .i64 3] 43) := ⟨_, rfl⟩
  have b6 : Below w5.heap.size w5 W6 := by rw [hW6]; exact below_alloc1 _ _
  have cl6 : CV W6 (.slice (some ⟨w5.heap.size, 0, none⟩) 3 3) [⟨0, 5⟩, ⟨1, 1⟩, ⟨2, 3⟩] := cv_lit (e := 43) (fr := (0, 0)) (by rw [hW6]; exact heap_new _ _) rfl (by decide)
  have HS := hide (csameT_any (CJ.out.below b6) cl6 (fun _ => rfl))
  replace CM := hide (CM.out.below b6)
  replace HB := hide (Below.on HB.out b6)
  clear b6 cl6 CJ
  go_wp2_with fail
  rw [← hW6]
  clear hW6
  refine HS.out.mono ?_
  rintro e w7 ⟨rfl, hb⟩
  replace CM := hide (CM.out.below hb)
  replace HB := hide (Below.on HB.out hb)
  clear hb HS
  obtain ⟨W8, hW8⟩ : ∃ W8, W8 = w7.alloc (.cells #[.int .i64 2, .int .i64 1] 43) := ⟨_, rfl⟩
  have b8 : Below w7.heap.size w7 W8 := by rw [hW8]; exact below_alloc1 _ _
  have cl8 : CV W8 (.slice (some ⟨w7.heap.size, 0, none⟩) 1 1) [⟨2, 1⟩] := cv_lit (e := 43) (fr := (0, 0)) (by rw [hW8]; exact heap_new _ _) rfl (by decide)
  have HS2 := hide (csameT_any (CM.out.below b8) cl8 (fun _ => rfl))
  replace HB := hide (Below.on HB.out b8)
  clear b8 cl8
  go_wp2_with fail
  rw [← hW8]
  clear hW8
  refine HS2.out.mono ?_
  rintro e w9 ⟨rfl, hb⟩
  replace HB := hide (Below.on HB.out hb)
  clear hb HS2
  go_wp2
  go_ret
  exact ⟨rfl, HB.out⟩
end Go.Proofs.Ytajkenbcndmjpab
