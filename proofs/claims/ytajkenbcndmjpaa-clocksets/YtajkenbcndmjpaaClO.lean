/-
  The document's Leq, Apart, Set, Meet.
-/
import Derived.Test.YtajkenbcndmjpaaClN
namespace Go.Proofs.Ytajkenbcndmjpaa
open Go.RowKit
theorem rgoodB_any {w : World} {v : Value} {L : List Tk} (h : CL w v L) : Calls Try.prog 15 #[v] w fun e w' => e = .returned (.bool (gd 0 L)) ∧ Below w.heap.size w w' := by
  obtain ⟨a, n, c, rfl, h1⟩ := h.ex
  refine (rgood_any a n c L w h1.row h1.big).mono ?_
  rintro e w' ⟨he, q, rfl⟩
  exact ⟨he, below_drewN (Below.refl _ _) _⟩
theorem rbelowB_any {w : World} {v u : Value} {L M : List Tk} (h : CL w v L) (k : CL w u M) : Calls Try.prog 38 #[v, u] w fun e w' => e = .returned (.bool (leB L M)) ∧ Below w.heap.size w w' := by
  obtain ⟨a, n, c, rfl, h1⟩ := h.ex
  obtain ⟨b, m, d, rfl, k1⟩ := k.ex
  refine (rbelow_any a b n c m d L M w h1.row k1.row h1.big k1.big).mono ?_
  rintro e w' ⟨he, q, rfl⟩
  exact ⟨he, below_drewN (Below.refl _ _) _⟩
theorem rleq_any {w : World} {v u : Value} {L M : List Tk} (h : CL w v L) (k : CL w u M) : Calls Try.prog 19 #[v, u] w fun e w' => e = .returned (.tuple #[.bool (gd 0 L && (gd 0 M && leB L M)), .int .i64 (if (gd 0 L && gd 0 M) = true then 0 else 170)]) ∧ Below w.heap.size w w' := by
  have H1 := hide (rgoodB_any h)
  have H2 := hide (fun W (hW : Below w.heap.size w W) => rgoodB_any (k.below hW))
  have H3 := hide (fun W (hW : Below w.heap.size w W) => rbelowB_any (h.below hW) (k.below hW))
  clear h k
  generalize leB L M = R at *
  cases g1 : gd 0 L <;> cases g2 : gd 0 M <;> rw [g1] at H1 <;> rw [g2] at H2 <;> clear g1 g2
  all_goals
    go_enter Try.func19, Try.ntmps19
    go_wp2_with fail
    refine H1.out.mono ?_
    rintro e w1 ⟨rfl, hb⟩
    have HB := hide hb
    clear hb H1
    go_wp2_with fail
    refine (H2.out _ HB.out).mono ?_
    rintro e w2 ⟨rfl, hb⟩
    replace HB := hide (Below.on HB.out hb)
    clear hb H2
    go_wp2_with fail
    try
      refine (H3.out _ HB.out).mono ?_
      rintro e w3 ⟨rfl, hb⟩
      replace HB := hide (Below.on HB.out hb)
      clear hb H3
    go_wp2
    go_ret2
    exact ⟨by simp, HB.out⟩
theorem rapart_any {w : World} {v u : Value} {L M : List Tk} (h : CL w v L) (k : CL w u M) : Calls Try.prog 21 #[v, u] w fun e w' => e = .returned (.tuple #[.bool (gd 0 L && (gd 0 M && (!leB L M && !leB M L))), .int .i64 (if (gd 0 L && gd 0 M) = true then 0 else 170)]) ∧ Below w.heap.size w w' := by
  have H1 := hide (rgoodB_any h)
  have H2 := hide (fun W (hW : Below w.heap.size w W) => rgoodB_any (k.below hW))
  have H3 := hide (fun W (hW : Below w.heap.size w W) => rbelowB_any (h.below hW) (k.below hW))
  have H4 := hide (fun W (hW : Below w.heap.size w W) => rbelowB_any (k.below hW) (h.below hW))
  clear h k
  generalize leB M L = T at *
  cases g1 : gd 0 L <;> cases g2 : gd 0 M <;> cases g3 : leB L M <;> rw [g1] at H1 <;> rw [g2] at H2 <;> rw [g3] at H3 <;> clear g1 g2 g3
  all_goals
    go_enter Try.func21, Try.ntmps21
    go_wp2_with fail
    refine H1.out.mono ?_
    rintro e w1 ⟨rfl, hb⟩
    have HB := hide hb
    clear hb H1
    go_wp2_with fail
    refine (H2.out _ HB.out).mono ?_
    rintro e w2 ⟨rfl, hb⟩
    replace HB := hide (Below.on HB.out hb)
    clear hb H2
    go_wp2_with fail
    try
      refine (H3.out _ HB.out).mono ?_
      rintro e w3 ⟨rfl, hb⟩
      replace HB := hide (Below.on HB.out hb)
      clear hb H3
      go_wp2_with fail
      try
        refine (H4.out _ HB.out).mono ?_
        rintro e w4 ⟨rfl, hb⟩
        replace HB := hide (Below.on HB.out hb)
        clear hb H4
    go_wp2
    go_ret2
    exact ⟨by simp, HB.out⟩
theorem filter_next {p : Tk → Bool} {L : List Tk} {k : Nat} {x : Tk} (h : L[k]? = some x) : (L.take (k + 1)).filter p = (L.take k).filter p ++ (if p x = true then [x] else []) := by
  rw [take_next h, List.filter_append]
  congr 1
  by_cases hp : p x = true
  · rw [if_pos hp, List.filter_cons, if_pos hp]; rfl
  · rw [if_neg hp, List.filter_cons, if_neg hp]; rfl
theorem filter_len {p : Tk → Bool} {L : List Tk} (k : Nat) : ((L.take k).filter p).length ≤ L.length := Nat.le_trans (List.length_filter_le _ _) (by rw [List.length_take]; omega)
theorem rset_bad {w : World} {v : Value} {L : List Tk} (g t f : Int) (h : CL w v L) (hf : (if gd 0 L = true then if g < 0 ∨ 65536 ≤ g then (61 : Int) else if t < 0 then 2 else 0 else 170) = f) (hf0 : f ≠ 0) :
    Calls Try.prog 11 #[v, .int .i64 g, .int .i64 t] w fun e w' => e = .returned (.tuple #[.slice none 0 0, .int .i64 f]) ∧ Below w.heap.size w w' := by
  have H1 := hide (rgoodB_any h)
  clear h
  cases hg : gd 0 L with
  | false =>
    rw [hg] at H1 hf
    obtain rfl : f = 170 := by rw [← hf]; rfl
    clear hf hf0 hg
    go_enter Try.func11, Try.ntmps11
    go_wp2_with fail
    refine H1.out.mono ?_
    rintro e w1 ⟨rfl, hb⟩
    have HB := hide hb
    clear hb H1
    go_wp2
    go_ret2
    exact ⟨rfl, HB.out⟩
  | true =>
    rw [hg] at H1 hf
    rw [if_pos rfl] at hf
    clear hg
    by_cases h1 : g < 0
    · obtain rfl : f = 61 := by rw [← hf, if_pos (.inl h1)]
      have d1 : decide (g < 0) = true := decide_eq_true h1
      clear hf hf0
      go_enter Try.func11, Try.ntmps11
      go_wp2_with fail
      refine H1.out.mono ?_
      rintro e w1 ⟨rfl, hb⟩
      have HB := hide hb
      clear hb H1
      go_wp2
      go_ret2
      exact ⟨rfl, HB.out⟩
    · have d1 : decide (g < 0) = false := decide_eq_false h1
      by_cases h2 : 65536 ≤ g
      · obtain rfl : f = 61 := by rw [← hf, if_pos (.inr h2)]
        have d2 : decide (65536 ≤ g) = true := decide_eq_true h2
        clear hf hf0
        go_enter Try.func11, Try.ntmps11
        go_wp2_with fail
        refine H1.out.mono ?_
        rintro e w1 ⟨rfl, hb⟩
        have HB := hide hb
        clear hb H1
        go_wp2
        go_ret2
        exact ⟨rfl, HB.out⟩
      · have d2 : decide (65536 ≤ g) = false := decide_eq_false h2
        rw [if_neg (by omega)] at hf
        by_cases h3 : t < 0
        · obtain rfl : f = 2 := by rw [← hf, if_pos h3]
          have d3 : decide (t < 0) = true := decide_eq_true h3
          clear hf hf0
          go_enter Try.func11, Try.ntmps11
          go_wp2_with fail
          refine H1.out.mono ?_
          rintro e w1 ⟨rfl, hb⟩
          have HB := hide hb
          clear hb H1
          go_wp2
          go_ret2
          exact ⟨rfl, HB.out⟩
        · rw [if_neg h3] at hf
          exact absurd hf.symm hf0
set_option maxRecDepth 100000 in
set_option maxHeartbeats 4000000 in
theorem rset_ok {w : World} {v : Value} {L : List Tk} (g t : Int) (h : CL w v L) (hg : gd 0 L = true) (hg0 : 0 ≤ g) (hg1 : g < 65536) (ht : 0 ≤ t) :
    Calls Try.prog 11 #[v, .int .i64 g, .int .i64 t] w fun e w' => ∃ x, e = .returned (.tuple #[x, .int .i64 0]) ∧ Own layT 40 w' w.heap.size x (stt L g t) ∧ Below w.heap.size w w' := by
  have H1 := hide (rgoodB_any h)
  rw [hg] at H1
  obtain ⟨a, n, c, rfl, hc⟩ := h.ex
  have hln := gd_len0 hg
  rw [hc.row.len] at hln
  obtain ⟨i0, hi, hz0, hz1, hz2⟩ := info_parts Try.infoT
  have HT := hide hc.row
  have HLn := hide hln
  have d1 : decide (g < 0) = false := decide_eq_false (by omega)
  have d2 : decide (65536 ≤ g) = false := decide_eq_false (by omega)
  have d3 : decide (t < 0) = false := decide_eq_false (by omega)
  have HR := hide (And.intro hg0 (And.intro hg1 ht))
  have hbig := hc.big
  clear h hg hc hln hg0 hg1 ht
  go_enter Try.func11, Try.ntmps11
  go_wp2_with fail
  refine H1.out.mono ?_
  rintro e w1 ⟨rfl, hb⟩
  have HB := hide hb
  clear hb H1
  go_wp2
  go_loopw [9, 10] (fun o i wr => ∃ k : Nat, k ≤ n ∧ i = .int .i64 k ∧ Hid (Own layT 40 wr w.heap.size o ((L.take k).filter (fun x => decide (x.g < g)))) ∧ Hid (Below w.heap.size w wr)) (fun _ i _ => n - (intOf i).toNat)
  case atStart => exact ⟨0, Nat.zero_le _, rfl, hide (by rw [List.take_zero]; exact Own.nil _ _ _ _), HB⟩
  case round =>
    obtain ⟨k, hk, rfl, HO, HBr⟩ := hrel
    by_cases hlt : k < n
    · have hltI : (k : Int) < n := by omega
      obtain ⟨b, off, x, rfl, hx, hb, c0, c1⟩ := (HT.out.below HBr.out).some hlt
      have HN := hide (filter_next (p := fun x => decide (x.g < g)) hx)
      obtain ⟨xg, xt⟩ := x
      dsimp only at c0 c1 HN
      clear hx hb
      by_cases h1 : xg < g
      · have e1 : decide (xg < g) = true := decide_eq_true h1
        rw [e1, if_pos rfl] at HN
        have hFl := filter_len (p := fun x => decide (x.g < g)) (L := L) k
        rw [HT.out.len] at hFl
        have HFl := hide hFl
        generalize hF : (L.take k).filter (fun x => decide (x.g < g)) = F at HO HN HFl
        clear hFl hF
        go_wp2_with (at_builtin; refine append_lay layT _ 22 40 i0 _ 16 Try.underlying22 hi hz0 hz1 hz2 rfl rfl (.tmp 37) (.tmp 42) rfl w.heap.size _ F rfl (HO.out.below (below_alloc1 _ _)) (some ⟨wr.heap.size, 0, none⟩) 1 1 [⟨xg, xt⟩] rfl (TRow.one (y := layT) (x := ⟨xg, xt⟩) (e := 40) (heap_new _ _)) (by intro e; cases e) ?b1 ?b2 ?b3 ?_)
        case b1 => unfold maxLen; have := HFl.out; have := HLn.out; omega
        case b2 => have := HFl.out; have := HLn.out; omega
        case b3 => have := HBr.out.size; simp; omega
        intro v' w' o1 g1 l1
        have HO1 := hide o1
        have HB1 := hide ((HBr.out.alloc HBr.out.size (.cells #[.int .i64 xg, .int .i64 xt] 40)).grown g1 (by have := HBr.out.size; simp; omega) (fun q hq => (HO.out.lt q hq).1))
        clear o1 g1 l1
        go_wp2
        exact ⟨⟨k + 1, by omega, by go_num, hide (by rw [HN.out]; exact HO1.out), HB1⟩, by simp [intOf]; omega⟩
      · have e1 : decide (xg < g) = false := decide_eq_false h1
        rw [e1, if_neg (by simp), List.append_nil] at HN
        go_wp2
        exact ⟨⟨k + 1, by omega, by go_num, hide (by rw [HN.out]; exact HO.out), HBr⟩, by simp [intOf]; omega⟩
    · have hkn : k = n := by omega
      subst hkn
      have hF1 : (L.take k).filter (fun x => decide (x.g < g)) = L.filter (fun x => decide (x.g < g)) := by rw [List.take_of_length_le (by rw [HT.out.len]; exact Nat.le_refl _)]
      rw [hF1] at HO
      clear hF1
      by_cases ht0 : t = 0
      · subst ht0
        have HX : Hid (stt L g 0 = L.filter (fun x => decide (x.g < g)) ++ L.filter (fun x => decide (g < x.g))) := hide (by unfold stt; rw [if_pos rfl, List.nil_append])
        generalize hF : L.filter (fun x => decide (x.g < g)) = F at HO HX
        have hFl : (F.length : Int) ≤ 65536 := by rw [← hF]; have h9 := List.length_filter_le (fun x => decide (x.g < g)) L; rw [HT.out.len] at h9; have := HLn.out; omega
        have HFl := hide hFl
        clear hF hFl
        have HOb := HO
        go_wp2
        go_loopw [9, 11] (fun o i wr => ∃ k' : Nat, k' ≤ k ∧ i = .int .i64 k' ∧ Hid (Own layT 40 wr w.heap.size o (F ++ (L.take k').filter (fun x => decide (g < x.g)))) ∧ Hid (Below w.heap.size w wr)) (fun _ i _ => k - (intOf i).toNat)
        case atStart => exact ⟨0, Nat.zero_le _, rfl, hide (by rw [List.take_zero, List.filter_nil, List.append_nil]; exact HOb.out), HBr⟩
        case round =>
          obtain ⟨k', hk', rfl, HO', HBr'⟩ := hrel
          by_cases hlt' : k' < k
          · have hltI' : (k' : Int) < k := by omega
            obtain ⟨b, off, x, rfl, hx, hb, c0, c1⟩ := (HT.out.below HBr'.out).some hlt'
            have HN := hide (filter_next (p := fun x => decide (g < x.g)) hx)
            obtain ⟨xg, xt⟩ := x
            dsimp only at c0 c1 HN
            clear hx hb
            by_cases h1 : g < xg
            · have e1 : decide (g < xg) = true := decide_eq_true h1
              rw [e1, if_pos rfl] at HN
              have hFl := filter_len (p := fun x => decide (g < x.g)) (L := L) k'
              rw [HT.out.len] at hFl
              have HFl' := hide hFl
              generalize hF : (L.take k').filter (fun x => decide (g < x.g)) = F' at HO' HN HFl'
              clear hFl hF
              go_wp2_with (at_builtin; refine append_lay layT _ 22 40 i0 _ 16 Try.underlying22 hi hz0 hz1 hz2 rfl rfl (.tmp 65) (.tmp 70) rfl w.heap.size _ (F ++ F') rfl (HO'.out.below (below_alloc1 _ _)) (some ⟨wr.heap.size, 0, none⟩) 1 1 [⟨xg, xt⟩] rfl (TRow.one (y := layT) (x := ⟨xg, xt⟩) (e := 40) (heap_new _ _)) (by intro e; cases e) ?b1 ?b2 ?b3 ?_)
              case b1 => rw [List.length_append]; unfold maxLen; have := HFl.out; have := HFl'.out; have := HLn.out; omega
              case b2 => rw [List.length_append]; have := HFl.out; have := HFl'.out; have := HLn.out; omega
              case b3 => have := HBr'.out.size; simp; omega
              intro v' w' o1 g1 l1
              have HO1 := hide o1
              have HB1 := hide ((HBr'.out.alloc HBr'.out.size (.cells #[.int .i64 xg, .int .i64 xt] 40)).grown g1 (by have := HBr'.out.size; simp; omega) (fun q hq => (HO'.out.lt q hq).1))
              clear o1 g1 l1
              go_wp2
              exact ⟨⟨k' + 1, by omega, by go_num, hide (by rw [HN.out]; exact HO1.out), HB1⟩, by simp [intOf]; omega⟩
            · have e1 : decide (g < xg) = false := decide_eq_false h1
              rw [e1, if_neg (by simp), List.append_nil] at HN
              go_wp2
              exact ⟨⟨k' + 1, by omega, by go_num, hide (by rw [HN.out]; exact HO'.out), HBr'⟩, by simp [intOf]; omega⟩
          · have hkn' : k' = k := by omega
            subst hkn'
            have hF1 : (L.take k').filter (fun x => decide (g < x.g)) = L.filter (fun x => decide (g < x.g)) := by rw [List.take_of_length_le (by rw [HT.out.len]; exact Nat.le_refl _)]
            rw [hF1, ← HX.out] at HO'
            clear hF1
            go_wp2
            go_ret2
            exact ⟨_, rfl, HO'.out, HBr'.out⟩
      · have d4 : decide (0 < t) = true := decide_eq_true (by have := HR.out; omega)
        have HX : Hid (stt L g t = (L.filter (fun x => decide (x.g < g)) ++ [⟨g, t⟩]) ++ L.filter (fun x => decide (g < x.g))) := hide (by unfold stt; rw [if_neg ht0]; simp)
        generalize hF : L.filter (fun x => decide (x.g < g)) = F0 at HO HX
        have hFl : (F0.length : Int) ≤ 65536 := by rw [← hF]; have h9 := List.length_filter_le (fun x => decide (x.g < g)) L; rw [HT.out.len] at h9; have := HLn.out; omega
        have HFl := hide hFl
        clear hF hFl
        go_wp2_with (at_builtin; refine append_lay layT _ 22 40 i0 _ 16 Try.underlying22 hi hz0 hz1 hz2 rfl rfl (.tmp 46) (.tmp 50) rfl w.heap.size _ F0 rfl (HO.out.below (below_alloc1 _ _)) (some ⟨wr.heap.size, 0, none⟩) 1 1 [⟨g, t⟩] rfl (TRow.one (y := layT) (x := ⟨g, t⟩) (e := 40) (heap_new _ _)) (by intro e; cases e) ?b1 ?b2 ?b3 ?_)
        case b1 => unfold maxLen; have := HFl.out; omega
        case b2 => have := HFl.out; omega
        case b3 => have := HBr.out.size; simp; omega
        intro v' w' o1 g1 l1
        have HO1 := hide o1
        replace HBr := hide ((HBr.out.alloc HBr.out.size (.cells #[.int .i64 g, .int .i64 t] 40)).grown g1 (by have := HBr.out.size; simp; omega) (fun q hq => (HO.out.lt q hq).1))
        have hFl2 : ((F0 ++ [(⟨g, t⟩ : Tk)]).length : Int) ≤ 65537 := by rw [List.length_append]; have := HFl.out; simp; omega
        generalize hF : F0 ++ [(⟨g, t⟩ : Tk)] = F at HO1 HX hFl2
        have HOb := HO1
        replace HFl := hide hFl2
        clear o1 g1 l1 hF hFl2
        go_wp2
        go_loopw [9, 11] (fun o i wr => ∃ k' : Nat, k' ≤ k ∧ i = .int .i64 k' ∧ Hid (Own layT 40 wr w.heap.size o (F ++ (L.take k').filter (fun x => decide (g < x.g)))) ∧ Hid (Below w.heap.size w wr)) (fun _ i _ => k - (intOf i).toNat)
        case atStart => exact ⟨0, Nat.zero_le _, rfl, hide (by rw [List.take_zero, List.filter_nil, List.append_nil]; exact HOb.out), HBr⟩
        case round =>
          obtain ⟨k', hk', rfl, HO', HBr'⟩ := hrel
          by_cases hlt' : k' < k
          · have hltI' : (k' : Int) < k := by omega
            obtain ⟨b, off, x, rfl, hx, hb, c0, c1⟩ := (HT.out.below HBr'.out).some hlt'
            have HN := hide (filter_next (p := fun x => decide (g < x.g)) hx)
            obtain ⟨xg, xt⟩ := x
            dsimp only at c0 c1 HN
            clear hx hb
            by_cases h1 : g < xg
            · have e1 : decide (g < xg) = true := decide_eq_true h1
              rw [e1, if_pos rfl] at HN
              have hFl := filter_len (p := fun x => decide (g < x.g)) (L := L) k'
              rw [HT.out.len] at hFl
              have HFl' := hide hFl
              generalize hF : (L.take k').filter (fun x => decide (g < x.g)) = F' at HO' HN HFl'
              clear hFl hF
              go_wp2_with (at_builtin; refine append_lay layT _ 22 40 i0 _ 16 Try.underlying22 hi hz0 hz1 hz2 rfl rfl (.tmp 65) (.tmp 70) rfl w.heap.size _ (F ++ F') rfl (HO'.out.below (below_alloc1 _ _)) (some ⟨wr.heap.size, 0, none⟩) 1 1 [⟨xg, xt⟩] rfl (TRow.one (y := layT) (x := ⟨xg, xt⟩) (e := 40) (heap_new _ _)) (by intro e; cases e) ?b1 ?b2 ?b3 ?_)
              case b1 => rw [List.length_append]; unfold maxLen; have := HFl.out; have := HFl'.out; have := HLn.out; omega
              case b2 => rw [List.length_append]; have := HFl.out; have := HFl'.out; have := HLn.out; omega
              case b3 => have := HBr'.out.size; simp; omega
              intro v' w' o1 g1 l1
              have HO1 := hide o1
              have HB1 := hide ((HBr'.out.alloc HBr'.out.size (.cells #[.int .i64 xg, .int .i64 xt] 40)).grown g1 (by have := HBr'.out.size; simp; omega) (fun q hq => (HO'.out.lt q hq).1))
              clear o1 g1 l1
              go_wp2
              exact ⟨⟨k' + 1, by omega, by go_num, hide (by rw [HN.out]; exact HO1.out), HB1⟩, by simp [intOf]; omega⟩
            · have e1 : decide (g < xg) = false := decide_eq_false h1
              rw [e1, if_neg (by simp), List.append_nil] at HN
              go_wp2
              exact ⟨⟨k' + 1, by omega, by go_num, hide (by rw [HN.out]; exact HO'.out), HBr'⟩, by simp [intOf]; omega⟩
          · have hkn' : k' = k := by omega
            subst hkn'
            have hF1 : (L.take k').filter (fun x => decide (g < x.g)) = L.filter (fun x => decide (g < x.g)) := by rw [List.take_of_length_le (by rw [HT.out.len]; exact Nat.le_refl _)]
            rw [hF1, ← HX.out] at HO'
            clear hF1
            go_wp2
            go_ret2
            exact ⟨_, rfl, HO'.out, HBr'.out⟩
end Go.Proofs.Ytajkenbcndmjpaa
