/-
  The document's Join and Meet.
-/
import Derived.Test.YtajkenbcndmjpaaClO
namespace Go.Proofs.Ytajkenbcndmjpaa
open Go.RowKit
theorem rtwo_bad {w : World} {v u : Value} {L M : List Tk} (h : CL w v L) (k : CL w u M) (hg : gd 0 L = false ∨ gd 0 M = false) : Calls Try.prog 23 #[v, u] w (fun e w' => e = .returned (.tuple #[.slice none 0 0, .int .i64 170]) ∧ Below w.heap.size w w') ∧ Calls Try.prog 25 #[v, u] w (fun e w' => e = .returned (.tuple #[.slice none 0 0, .int .i64 170]) ∧ Below w.heap.size w w') := by
  have H1 := hide (rgoodB_any h)
  have H2 := hide (fun W (hW : Below w.heap.size w W) => rgoodB_any (k.below hW))
  clear h k
  obtain ⟨x, hx⟩ : ∃ x, gd 0 L = x := ⟨_, rfl⟩
  obtain ⟨y, hy⟩ : ∃ y, gd 0 M = y := ⟨_, rfl⟩
  rw [hx] at H1 hg
  rw [hy] at H2 hg
  clear hx hy
  constructor
  · cases x <;> cases y <;> first
      | (exfalso; rcases hg with h | h <;> exact absurd h (by decide))
      | (clear hg
         go_enter Try.func23, Try.ntmps23
         go_wp2_with fail
         refine H1.out.mono ?_
         rintro e w1 ⟨rfl, hb⟩
         have HB := hide hb
         clear hb H1
         go_wp2_with fail
         refine (H2.out _ HB.out).mono ?_
         rintro e w2 ⟨rfl, hb⟩
         replace HB := hide (Below.on HB.out hb)
         clear hb H2
         go_wp2
         go_ret2
         exact ⟨rfl, HB.out⟩)
  · cases x <;> cases y <;> first
      | (exfalso; rcases hg with h | h <;> exact absurd h (by decide))
      | (clear hg
         go_enter Try.func25, Try.ntmps25
         go_wp2_with fail
         refine H1.out.mono ?_
         rintro e w1 ⟨rfl, hb⟩
         have HB := hide hb
         clear hb H1
         go_wp2_with fail
         refine (H2.out _ HB.out).mono ?_
         rintro e w2 ⟨rfl, hb⟩
         replace HB := hide (Below.on HB.out hb)
         clear hb H2
         go_wp2
         go_ret2
         exact ⟨rfl, HB.out⟩)
/-- What the document's Meet has, k entries gone through. -/
structure RMt (A B : List Tk) (k : Nat) (M : List Tk) : Prop where
  g : gd 0 M = true
  of : ∀ y ∈ M, ∃ z ∈ A.take k, z.g = y.g
  t : ∀ g, tm g M = min (tm g (A.take k)) (tm g B)
theorem RMt.start {A B : List Tk} (hB : gd 0 B = true) : RMt A B 0 [] := ⟨rfl, fun y hy => by simp at hy, fun g => by have := tm_pos (g := g) hB; simp only [List.take_zero, tm]; omega⟩
theorem RMt.step {A B : List Tk} {k : Nat} {M : List Tk} {x : Tk} (h : RMt A B k M) (hA : gd 0 A = true) (hB : gd 0 B = true) (hx : A[k]? = some x) : RMt A B (k + 1) (if min (tm x.g B) x.t = 0 then M else M ++ [⟨x.g, min (tm x.g B) x.t⟩]) := by
  have hm := tm_mem hA (List.mem_of_getElem? hx)
  obtain ⟨hl, _⟩ := gd_at hA hx
  have hlM : blw x.g M := fun y hy => by obtain ⟨z, hz, e⟩ := h.of y hy; have := hl z hz; omega
  have hp := tm_pos (g := x.g) hB
  have hof : ∀ y ∈ M, ∃ z ∈ A.take (k + 1), z.g = y.g := fun y hy => by
    obtain ⟨z, hz, e⟩ := h.of y hy
    exact ⟨z, by rw [take_next hx]; simp [hz], e⟩
  have htt := fun g => tm_take hA hx g
  have h0 : tm x.g (A.take k) = 0 := blw_tm hl (Int.le_refl _)
  split
  · rename_i e
    refine ⟨h.g, hof, fun g => ?_⟩
    rw [h.t g, htt g]
    by_cases e2 : g = x.g
    · subst e2; rw [if_pos rfl, h0]; omega
    · rw [if_neg e2]
  · rename_i e
    have g1 : gd x.g [⟨x.g, min (tm x.g B) x.t⟩] = true := gd_one (Int.le_refl _) hm.2.2.1 (by have := hm.2.2.2; omega)
    refine ⟨gd_app h.g hlM g1 hm.2.1, fun y hy => ?_, fun g => ?_⟩
    · rcases List.mem_append.1 hy with hy | hy
      · exact hof y hy
      · simp at hy
        exact ⟨x, by rw [take_next hx]; simp, by rw [hy]⟩
    · rw [tm_app hlM g1, htt g]
      by_cases e2 : g = x.g
      · subst e2; rw [if_neg (by omega), if_pos rfl, tm, if_pos rfl]; dsimp only; omega
      · rw [if_neg e2, ← h.t g]
        by_cases e3 : g < x.g
        · rw [if_pos e3]
        · rw [if_neg e3, tm, if_neg (by show ¬ x.g = g; omega), tm, blw_tm hlM (by omega)]
theorem RMt.len {A B : List Tk} {k : Nat} {M : List Tk} (h : RMt A B k M) : (M.length : Int) ≤ 65536 := gd_len0 h.g
set_option maxRecDepth 100000 in
set_option maxHeartbeats 4000000 in
theorem rmeet_ok {w : World} {v u : Value} {A B : List Tk} (h : CV w v A) (k : CV w u B) : Calls Try.prog 25 #[v, u] w fun e w' => ∃ x M, e = .returned (.tuple #[x, .int .i64 0]) ∧ Own layT 40 w' w.heap.size x M ∧ gd 0 M = true ∧ (∀ g, tm g M = min (tm g A) (tm g B)) ∧ Below w.heap.size w w' := by
  have H1 := hide (rgoodB_any h.cl)
  have H2 := hide (fun W (hW : Below w.heap.size w W) => rgoodB_any (k.cl.below hW))
  rw [h.gd] at H1
  rw [k.gd] at H2
  obtain ⟨a, n, c, rfl, hA⟩ := h.cl.ex
  obtain ⟨b, m, d, rfl, hB⟩ := k.cl.ex
  have HGa := hide h.gd
  have HGb := hide k.gd
  have HA := hide hA.row
  have HTm := hide (fun (W : World) (hW : Below w.heap.size w W) g => rtime_any b m d B g W (hB.row.below hW) hB.big)
  obtain ⟨i0, hi, hz0, hz1, hz2⟩ := info_parts Try.infoT
  have hbig := hA.big
  clear h k hA hB
  go_enter Try.func25, Try.ntmps25
  go_wp2_with fail
  refine H1.out.mono ?_
  rintro e w1 ⟨rfl, hb⟩
  have HB := hide hb
  clear hb H1
  go_wp2_with fail
  refine (H2.out _ HB.out).mono ?_
  rintro e w2 ⟨rfl, hb⟩
  replace HB := hide (Below.on HB.out hb)
  clear hb H2
  go_wp2
  go_loopw [8, 9] (fun o i wr => ∃ (k : Nat) (M : List Tk), k ≤ n ∧ i = .int .i64 k ∧ Hid (Own layT 40 wr w.heap.size o M) ∧ Hid (RMt A B k M) ∧ Hid (Below w.heap.size w wr)) (fun _ i _ => n - (intOf i).toNat)
  case atStart => exact ⟨0, [], Nat.zero_le _, rfl, hide (Own.nil _ _ _ _), hide (RMt.start HGb.out), HB⟩
  case round =>
    obtain ⟨k, M, hk, rfl, HO, HM, HBr⟩ := hrel
    by_cases hlt : k < n
    · have hltI : (k : Int) < n := by omega
      obtain ⟨b1, off, x, rfl, hx, hb, c0, c1⟩ := (HA.out.below HBr.out).some hlt
      have HN := hide (HM.out.step HGa.out HGb.out hx)
      have hx1 := (tm_mem HGa.out (List.mem_of_getElem? hx)).2.2.2
      have hp := tm_pos (g := x.g) HGb.out
      have HTx := hide (HTm.out wr HBr.out x.g)
      obtain ⟨xg, xt⟩ := x
      dsimp only at c0 c1 HN hx1 hp HTx
      obtain ⟨T, hT⟩ : ∃ T, tm xg B = T := ⟨_, rfl⟩
      rw [hT] at HN hp HTx
      clear hx hT
      have HBd : Hid (∀ q, Below w.heap.size w (wr.drewN q)) := hide (fun q => below_drewN HBr.out q)
      have HOd : Hid (∀ q, Own layT 40 (wr.drewN q) w.heap.size _ M) := hide (fun q => HO.out.below (below_drewN (Below.refl _ _) q))
      have HMl := hide HM.out.len
      by_cases h1 : xt < T
      · have e1 : decide (xt < T) = true := decide_eq_true h1
        have e2 : decide (0 < xt) = true := decide_eq_true (by omega)
        have hmin : min T xt = xt := by omega
        rw [hmin, if_neg (by omega)] at HN
        clear hmin
        go_wp2_with fail
        refine HTx.out.mono ?_
        rintro e w3 ⟨rfl, q, hw3⟩
        have b3 : Below wr.heap.size wr w3 := by rw [hw3]; exact below_drewN (Below.refl _ _) _
        have k0 : w3.cell? ⟨b1, off + k * 2, none⟩ = some (.int .i64 xg) := (b3.cell (p := ⟨b1, off + k * 2, none⟩) hb).trans c0
        have k1 : w3.cell? ⟨b1, off + k * 2 + 1, none⟩ = some (.int .i64 xt) := (b3.cell (p := ⟨b1, off + k * 2 + 1, none⟩) hb).trans c1
        have HO3 := hide (HO.out.below b3)
        have HB3 := hide (Below.on HBr.out b3)
        clear hw3 b3 c0 c1 HTx
        go_wp2_with (at_builtin; refine append_lay layT _ 22 40 i0 _ 16 Try.underlying22 hi hz0 hz1 hz2 rfl rfl (.tmp 48) (.tmp 56) rfl w.heap.size _ M rfl (HO3.out.below (below_alloc1 _ _)) (some ⟨w3.heap.size, 0, none⟩) 1 1 [⟨xg, xt⟩] rfl (TRow.one (y := layT) (x := ⟨xg, xt⟩) (e := 40) (heap_new _ _)) (by intro e; cases e) ?b1 ?b2 ?b3 ?_)
        case b1 => unfold maxLen; have := HMl.out; omega
        case b2 => have := HMl.out; omega
        case b3 => have := HB3.out.size; simp; omega
        intro v' w' o1 g1 l1
        have HO1 := hide o1
        have HB1 := hide ((HB3.out.alloc HB3.out.size (.cells #[.int .i64 xg, .int .i64 xt] 40)).grown g1 (by have := HB3.out.size; simp; omega) (fun q hq => (HO3.out.lt q hq).1))
        clear o1 g1 l1
        go_wp2
        exact ⟨⟨k + 1, _, by omega, by go_num, HO1, HN, HB1⟩, by simp [intOf]; omega⟩
      · have e1 : decide (xt < T) = false := decide_eq_false h1
        have hmin : min T xt = T := by omega
        rw [hmin] at HN
        clear hmin
        by_cases h2 : 0 < T
        · have e2 : decide (0 < T) = true := decide_eq_true h2
          rw [if_neg (by omega)] at HN
          go_wp2_with fail
          refine HTx.out.mono ?_
          rintro e w3 ⟨rfl, q, hw3⟩
          have b3 : Below wr.heap.size wr w3 := by rw [hw3]; exact below_drewN (Below.refl _ _) _
          have k0 : w3.cell? ⟨b1, off + k * 2, none⟩ = some (.int .i64 xg) := (b3.cell (p := ⟨b1, off + k * 2, none⟩) hb).trans c0
          have k1 : w3.cell? ⟨b1, off + k * 2 + 1, none⟩ = some (.int .i64 xt) := (b3.cell (p := ⟨b1, off + k * 2 + 1, none⟩) hb).trans c1
          have HO3 := hide (HO.out.below b3)
          have HB3 := hide (Below.on HBr.out b3)
          clear hw3 b3 c0 c1 HTx
          go_wp2_with (at_builtin; refine append_lay layT _ 22 40 i0 _ 16 Try.underlying22 hi hz0 hz1 hz2 rfl rfl (.tmp 48) (.tmp 56) rfl w.heap.size _ M rfl (HO3.out.below (below_alloc1 _ _)) (some ⟨w3.heap.size, 0, none⟩) 1 1 [⟨xg, T⟩] rfl (TRow.one (y := layT) (x := ⟨xg, T⟩) (e := 40) (heap_new _ _)) (by intro e; cases e) ?b1 ?b2 ?b3 ?_)
          case b1 => unfold maxLen; have := HMl.out; omega
          case b2 => have := HMl.out; omega
          case b3 => have := HB3.out.size; simp; omega
          intro v' w' o1 g1 l1
          have HO1 := hide o1
          have HB1 := hide ((HB3.out.alloc HB3.out.size (.cells #[.int .i64 xg, .int .i64 T] 40)).grown g1 (by have := HB3.out.size; simp; omega) (fun q hq => (HO3.out.lt q hq).1))
          clear o1 g1 l1
          go_wp2
          exact ⟨⟨k + 1, _, by omega, by go_num, HO1, HN, HB1⟩, by simp [intOf]; omega⟩
        · have e2 : decide (0 < T) = false := decide_eq_false h2
          rw [if_pos (by omega)] at HN
          go_wp2_with fail
          refine HTx.out.mono ?_
          rintro e w3 ⟨rfl, q, hw3⟩
          have b3 : Below wr.heap.size wr w3 := by rw [hw3]; exact below_drewN (Below.refl _ _) _
          have k0 : w3.cell? ⟨b1, off + k * 2, none⟩ = some (.int .i64 xg) := (b3.cell (p := ⟨b1, off + k * 2, none⟩) hb).trans c0
          have k1 : w3.cell? ⟨b1, off + k * 2 + 1, none⟩ = some (.int .i64 xt) := (b3.cell (p := ⟨b1, off + k * 2 + 1, none⟩) hb).trans c1
          have HO3 := hide (HO.out.below b3)
          have HB3 := hide (Below.on HBr.out b3)
          clear hw3 b3 c0 c1 HTx
          go_wp2
          exact ⟨⟨k + 1, _, by omega, by go_num, HO3, HN, HB3⟩, by simp [intOf]; omega⟩
    · have hkn : k = n := by omega
      subst hkn
      have HE : Hid (∀ g, tm g M = min (tm g A) (tm g B)) := hide (fun g => by
        have h9 := HM.out.t g
        rw [List.take_of_length_le (by rw [HA.out.len]; exact Nat.le_refl _)] at h9
        exact h9)
      go_wp2
      go_ret2
      exact ⟨_, M, rfl, HO.out, HM.out.g, HE.out, HBr.out⟩
/-- What the document's Join has, k entries gone through. -/
structure RJn (A B : List Tk) (k : Nat) (O : List Tk) : Prop where
  g : gd 0 O = true
  t : ∀ g, tm g O = max (tm g A) (tm g (B.take k))
theorem RJn.start {A B : List Tk} (hA : gd 0 A = true) : RJn A B 0 A := ⟨hA, fun g => by have := tm_pos (g := g) hA; simp only [List.take_zero, tm]; omega⟩
theorem RJn.step {A B : List Tk} {k : Nat} {O : List Tk} {x : Tk} (h : RJn A B k O) (hA : gd 0 A = true) (hB : gd 0 B = true) (hx : B[k]? = some x) : (tm x.g A < x.t → RJn A B (k + 1) (stt O x.g x.t)) ∧ (¬ tm x.g A < x.t → RJn A B (k + 1) O) := by
  have hm := tm_mem hB (List.mem_of_getElem? hx)
  obtain ⟨hl, _⟩ := gd_at hB hx
  have hp := tm_pos (g := x.g) hA
  have htt := fun g => tm_take hB hx g
  have h0 : tm x.g (B.take k) = 0 := blw_tm hl (Int.le_refl _)
  constructor
  · intro hlt
    obtain ⟨s1, s2⟩ := stt_spec h.g hm.2.1 hm.2.2.1 (t := x.t) (by have := hm.2.2.2; omega)
    refine ⟨s1, fun g => ?_⟩
    rw [s2 g, htt g, h.t g]
    by_cases e2 : g = x.g
    · subst e2; rw [if_pos rfl, if_pos rfl]; omega
    · rw [if_neg e2, if_neg e2]
  · intro hlt
    refine ⟨h.g, fun g => ?_⟩
    rw [htt g, h.t g]
    by_cases e2 : g = x.g
    · subst e2; rw [if_pos rfl, h0]; omega
    · rw [if_neg e2]
set_option maxRecDepth 100000 in
set_option maxHeartbeats 4000000 in
theorem rjoin_ok {w : World} {v u : Value} {A B : List Tk} (h : CV w v A) (k : CV w u B) : Calls Try.prog 23 #[v, u] w fun e w' => ∃ x J, e = .returned (.tuple #[x, .int .i64 0]) ∧ Own layT 40 w' w.heap.size x J ∧ gd 0 J = true ∧ (∀ g, tm g J = max (tm g A) (tm g B)) ∧ Below w.heap.size w w' := by
  have H1 := hide (rgoodB_any h.cl)
  have H2 := hide (fun W (hW : Below w.heap.size w W) => rgoodB_any (k.cl.below hW))
  rw [h.gd] at H1
  rw [k.gd] at H2
  obtain ⟨a, n, c, rfl, hA⟩ := h.cl.ex
  obtain ⟨b, m, d, rfl, hB⟩ := k.cl.ex
  have HGa := hide h.gd
  have HGb := hide k.gd
  have HA := hide hA.row
  have HBr := hide hB.row
  have HA0 := hide hA.frm
  have HTm := hide (fun (W : World) (hW : Below w.heap.size w W) g => rtime_any a n c A g W (hA.row.below hW) hA.big)
  obtain ⟨i0, hi, hz0, hz1, hz2⟩ := info_parts Try.infoT
  have hbig := hB.big
  have HAl : Hid ((n : Int) ≤ 65536) := hide (by have := gd_len0 h.gd; rw [hA.row.len] at this; exact this)
  clear h k hA hB
  go_enter Try.func23, Try.ntmps23
  go_wp2_with fail
  refine H1.out.mono ?_
  rintro e w1 ⟨rfl, hb⟩
  have HB := hide hb
  clear hb H1
  go_wp2_with fail
  refine (H2.out _ HB.out).mono ?_
  rintro e w2 ⟨rfl, hb⟩
  replace HB := hide (Below.on HB.out hb)
  clear hb H2
  go_wp2_with (at_builtin; refine append_lay layT _ 22 40 i0 _ 16 Try.underlying22 hi hz0 hz1 hz2 rfl rfl (.tmp 22) (.tmp 23) rfl w.heap.size (.slice none 0 0) [] rfl (Own.nil _ _ _ _) a n c A rfl (HA.out.below HB.out) HA0.out ?b1 ?b2 HB.out.size ?_)
  case b1 => unfold maxLen; have := HAl.out; simp; omega
  case b2 => have := HAl.out; simp; omega
  intro v1 w3 o3 g3 l3
  have HO3 := hide o3
  have HB3 := hide (HB.out.grown g3 HB.out.size (fun q hq => by cases hq))
  clear o3 g3 l3
  go_wp2
  go_loopw [8, 9] (fun o i wr => ∃ (k : Nat) (O : List Tk), k ≤ m ∧ i = .int .i64 k ∧ Hid (Own layT 40 wr w.heap.size o O) ∧ Hid (RJn A B k O) ∧ Hid (Below w.heap.size w wr)) (fun _ i _ => m - (intOf i).toNat)
  case atStart => exact ⟨0, A, Nat.zero_le _, rfl, HO3, hide (RJn.start HGa.out), HB3⟩
  case round =>
    obtain ⟨k, O, hk, rfl, HO, HM, HBw⟩ := hrel
    by_cases hlt : k < m
    · have hltI : (k : Int) < m := by omega
      obtain ⟨b1, off, x, rfl, hx, hb, c0, c1⟩ := (HBr.out.below HBw.out).some hlt
      have HN := hide (HM.out.step HGa.out HGb.out hx)
      have HX1 := hide (tm_mem HGb.out (List.mem_of_getElem? hx)).2
      have HTx := hide (fun q => HTm.out (wr.drewN q) (below_drewN HBw.out q) x.g)
      obtain ⟨xg, xt⟩ := x
      dsimp only at c0 c1 HN HX1 HTx
      obtain ⟨T, hT⟩ : ∃ T, tm xg A = T := ⟨_, rfl⟩
      rw [hT] at HN HTx
      clear hx hT
      by_cases h1 : T < xt
      · have e1 : decide (T < xt) = true := decide_eq_true h1
        have HN1 := hide (HN.out.1 h1)
        go_wp2_with fail
        go_quiet ((go_at_call 36; exact Calls.quiet_of (HTx.out _)))
        generalize hwd : wr.drewN _ = w4
        have b4 : Below wr.heap.size wr w4 := by rw [← hwd]; exact below_drewN (Below.refl _ _) _
        have k0 : w4.cell? ⟨b1, off + k * 2, none⟩ = some (.int .i64 xg) := (b4.cell (p := ⟨b1, off + k * 2, none⟩) hb).trans c0
        have k1 : w4.cell? ⟨b1, off + k * 2 + 1, none⟩ = some (.int .i64 xt) := (b4.cell (p := ⟨b1, off + k * 2 + 1, none⟩) hb).trans c1
        have hb4 : b1 < w4.heap.size := World.block_lt_of_cell? _ _ k0
        have HO4 := hide (HO.out.below b4)
        have HB4 := hide (Below.on HBw.out b4)
        have HCo := hide (cv_own HO4.out HM.out.g)
        have HSt := hide (fun (W : World) (hW : Below w4.heap.size w4 W) => rset_ok xg xt (HCo.out.below hW).cl HM.out.g HX1.out.1 HX1.out.2.1 (by have := HX1.out.2.2; omega))
        have HK : Hid (∀ X, Below w4.heap.size w4 X → X.cell? ⟨b1, off + k * 2, none⟩ = some (.int .i64 xg) ∧ X.cell? ⟨b1, off + k * 2 + 1, none⟩ = some (.int .i64 xt)) := hide (fun X hX => ⟨(hX.cell (p := ⟨b1, off + k * 2, none⟩) hb4).trans k0, (hX.cell (p := ⟨b1, off + k * 2 + 1, none⟩) hb4).trans k1⟩)
        have K0 := HK.out w4.drew (Below.refl _ _).drew
        clear hwd b4 c0 c1 HTx
        go_wp2_with fail
        go_region_held3 (fun X => X.cell? ⟨b1, off + k * 2, none⟩ = some (.int .i64 xg) ∧ X.cell? ⟨b1, off + k * 2 + 1, none⟩ = some (.int .i64 xt)) (first | with_reducible exact K0 | with_reducible exact K1) (first
          | (go_at_call 11; go_must (
             refine (HSt.out w4.drew (Below.refl _ _).drew).mono ?_
             rintro e W5 ⟨x5, rfl, o5, b5⟩
             have b45 : Below w4.heap.size w4 W5 := (Below.refl w4.heap.size w4).drew.trans b5
             have K1 := HK.out W5 b45
             have HO5 := hide o5
             have HB5 := hide (Below.on HB4.out b45)
             clear o5 b5 b45)))
        clear K0 K1 k0 k1
        go_wp2
        exact ⟨⟨k + 1, _, by omega, by go_num, hide (HO5.out.mono HB4.out.size), HN1, HB5⟩, by simp [intOf]; omega⟩
      · have e1 : decide (T < xt) = false := decide_eq_false h1
        have HN1 := hide (HN.out.2 h1)
        go_wp2_with fail
        go_quiet ((go_at_call 36; exact Calls.quiet_of (HTx.out _)))
        generalize hwd : wr.drewN _ = w4
        have b4 : Below wr.heap.size wr w4 := by rw [← hwd]; exact below_drewN (Below.refl _ _) _
        have HO4 := hide (HO.out.below b4)
        have HB4 := hide (Below.on HBw.out b4)
        clear hwd b4 c0 c1 HTx
        go_wp2
        exact ⟨⟨k + 1, _, by omega, by go_num, HO4, HN1, HB4⟩, by simp [intOf]; omega⟩
    · have hkn : k = m := by omega
      subst hkn
      have HE : Hid (∀ g, tm g O = max (tm g A) (tm g B)) := hide (fun g => by
        have h9 := HM.out.t g
        rw [List.take_of_length_le (by rw [HBr.out.len]; exact Nat.le_refl _)] at h9
        exact h9)
      go_wp2
      go_ret2
      exact ⟨_, O, rfl, HO.out, HM.out.g, HE.out, HBw.out⟩
end Go.Proofs.Ytajkenbcndmjpaa
