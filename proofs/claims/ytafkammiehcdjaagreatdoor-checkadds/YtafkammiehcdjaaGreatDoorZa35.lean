import Derived.Test.YtafkammiehcdjaaGreatDoorZa26
/-
  The statement's own counts: sum, flow.
-/
namespace Go.Proofs.YtafkammiehcdjaaGreatDoor
open Go.RowKit Go.Maps
set_option linter.unusedVariables false
set_option maxRecDepth 4000 in
set_option maxHeartbeats 1000000 in
theorem lsum_any (ad : Option Addr) (n c : Nat) (es : List E6.Ev) (w : World) (hr : E6.ERow w ad n es) (hn : (n : Int) ≤ 1048576) (hg : ∀ e ∈ es, Eb e.g e.k e.o e.a) (ob : Int) :
    Calls Tryz.prog 39 #[.agg #[.slice ad n c], .int .u64 ob] w fun e w' => e = .returned (.int .i64 (cnZ (es.map me) ob)) ∧ Below w.heap.size w w' := by
  obtain ⟨W, hW⟩ : ∃ W, W = w.alloc (.cells #[.slice ad n c] 42) := ⟨_, rfl⟩
  have hb : Below w.heap.size w W := by rw [hW]; exact below_alloc1 w _
  have hE : W.heap[w.heap.size]? = some (.cells #[.slice ad n c] 42 (0, 0)) := by rw [hW]; exact heap_new _ _
  have p0 : W.cell? ⟨w.heap.size, 0, none⟩ = some (.slice ad n c) := cell_at hE rfl
  have hlt0 : w.heap.size < W.heap.size := lt_of_heap hE
  have HE := hide (hr.bel hb)
  have HG := hide hg
  have HB := hide hb
  have HW := hide hW
  have HBd : Hid (∀ j, j ≤ n → -4503599627370496 ≤ cnZ (Tj es j) ob ∧ cnZ (Tj es j) ob ≤ 4503599627370496) := hide (fun j hj => by
    have h1 := cnZ_bd (T := Tj es j) (fun e he hk => by
      unfold Tj at he
      obtain ⟨x, hx, rfl⟩ := List.mem_map.1 he
      have h2 := hg x (List.mem_of_mem_take hx)
      exact ⟨h2.ok.a0, h2.ct hk⟩) ob
    rw [Tj_len hr.len hj] at h1
    omega)
  clear hr hg hb hW hE
  go_enter Tryz.func39, Tryz.ntmps39
  go_wp2_with fail
  rw [← HW.out]
  clear HW
  go_wp2
  go_loopw [5, 6] (fun m i wr => ∃ (j : Nat), j ≤ n ∧ i = .int .i64 j ∧ m = .int .i64 (cnZ (Tj es j) ob) ∧ wr = W) (fun _ i _ => n - (intOf i).toNat)
  case atStart => exact ⟨0, Nat.zero_le _, rfl, by rw [Tj_zero]; rfl, rfl⟩
  case round =>
    obtain ⟨j, hj, rfl, rfl, hwr⟩ := hrel
    obtain rfl : W = wr := hwr.symm
    by_cases hlt : j < n
    · have hjI : (j : Int) < n := by omega
      obtain ⟨b, off, e, ha, hej, c0, c1, c2, c3, c4, hs⟩ := HE.out.at hlt
      subst ha
      have HS : Hid (cnZ (Tj es (j + 1)) ob = cnZ (Tj es j) ob + (if e.k = 14 ∧ e.o = ob then mzag e.a else 0)) := hide (by have h1 := cnZ_snoc (T := Tj es j) (e := me e) (o := ob); rw [← Tj_succ hej] at h1; exact h1)
      have hb := HG.out e (List.mem_of_getElem? hej)
      have hB2 := HBd.out (j + 1) hlt
      clear hs hej
      generalize cnZ (Tj es j) ob = Z at HS ⊢
      by_cases hk : e.k = 14
      · have hkb := beq_t hk
        by_cases ho : e.o = ob
        · have hob := beq_t ho
          have h9 : cnZ (Tj es (j + 1)) ob = Z + mzag e.a := by rw [HS.out, if_pos ⟨hk, ho⟩]
          have HZ := hide (zag_any e.a W hb.ok.a0 hb.ok.a1)
          rw [h9] at hB2
          generalize mzag e.a = zz at h9 HZ hB2
          have hw1 : IntKind.i64.wrap (Z + zz) = Z + zz := by rw [IntKind.wrap_i64]; omega
          have H9 := hide h9
          clear HS hb h9 hk ho hB2 HBd
          go_wp2_with fail
          refine HZ.out.mono ?_
          rintro r w1 ⟨rfl, hw9⟩
          obtain rfl : W = w1 := hw9.symm
          clear HZ
          go_wp2
          exact ⟨⟨j + 1, by omega, by go_num, by rw [H9.out], by first | trivial | rfl⟩, by simp [intOf]; omega⟩
        · have hob := beq_f ho
          have h9 : cnZ (Tj es (j + 1)) ob = Z := by rw [HS.out, if_neg (show ¬ (e.k = 14 ∧ e.o = ob) from fun q => ho q.2)]; omega
          clear HS hb hk ho hB2
          go_wp2
          exact ⟨⟨j + 1, by omega, by go_num, by rw [h9], by first | trivial | rfl⟩, by simp [intOf]; omega⟩
      · have hkb := beq_f hk
        have h9 : cnZ (Tj es (j + 1)) ob = Z := by rw [HS.out, if_neg (show ¬ (e.k = 14 ∧ e.o = ob) from fun q => hk q.1)]; omega
        clear HS hb hk hB2
        go_wp2
        exact ⟨⟨j + 1, by omega, by go_num, by rw [h9], by first | trivial | rfl⟩, by simp [intOf]; omega⟩
    · have h9 : j = n := by omega
      subst h9
      have h8 := Tj_all HE.out.len
      rw [h8]
      go_wp2
      go_ret
      exact ⟨rfl, HB.out⟩
theorem results_tmp4 {fn : Func} {t u v x : Tmp} (h : fn.results = #[.tmp t, .tmp u, .tmp v, .tmp x]) (tmps : Array Value) (P : Program) (w : World) :
    (results fn tmps).run P w = .ok (.tuple #[tmps.getD t undef, tmps.getD u undef, tmps.getD v undef, tmps.getD x undef]) w := by
  simp [results, h]
/-- The last Make's room; the place of the last Close. -/
def rmR : List Me → Int → Int
  | [], _ => -1
  | e :: R, o => if e.k = 9 ∧ e.o = o then e.a else rmR R o
def clR : List Me → Int → Int
  | [], _ => -1
  | e :: R, o => if e.k = 13 ∧ e.o = o then (R.length : Int) else clR R o
def rmL (T : List Me) (o : Int) : Int := rmR T.reverse o
def clL (T : List Me) (o : Int) : Int := clR T.reverse o
theorem rmL_snoc {T : List Me} {e : Me} {o : Int} : rmL (T ++ [e]) o = if e.k = 9 ∧ e.o = o then e.a else rmL T o := by
  unfold rmL; rw [List.reverse_append]; rfl
theorem clL_snoc {T : List Me} {e : Me} {o : Int} : clL (T ++ [e]) o = if e.k = 13 ∧ e.o = o then (T.length : Int) else clL T o := by
  unfold clL
  rw [List.reverse_append]
  show (if e.k = 13 ∧ e.o = o then (T.reverse.length : Int) else clR T.reverse o) = _
  rw [List.length_reverse]
/-- What flow counts. -/
structure Fl (T : List Me) (o : Int) (rm se re cl : Int) : Prop where
  rm : rm = rmL T o
  se : se = cnA T 10 o
  re : re = cnT T 12 o 1
  cl : cl = clL T o
section
variable {T : List Me} {e : Me} {o rm se re cl : Int}
theorem Fl.skip (h : Fl T o rm se re cl) (ho : ¬ e.o = o) : Fl (T ++ [e]) o rm se re cl :=
  ⟨by rw [rmL_snoc, if_neg (fun q => ho q.2)]; exact h.rm, by rw [cnA_snoc, if_neg (fun q => ho q.2)]; exact h.se, by rw [cnT_snoc, if_neg (fun q => ho q.2.1)]; exact h.re, by rw [clL_snoc, if_neg (fun q => ho q.2)]; exact h.cl⟩
theorem Fl.step (h : Fl T o rm se re cl) (ho : e.o = o) (hg : e.k = 12 → e.a = 0 ∨ e.a = 1) : Fl (T ++ [e]) o (if e.k = 9 then e.a else rm) (if e.k = 10 then se + 1 else se) (if e.k = 12 then re + e.a else re) (if e.k = 13 then (T.length : Int) else cl) := by
  refine ⟨?_, ?_, ?_, ?_⟩
  · rw [rmL_snoc]
    by_cases hk : e.k = 9
    · rw [if_pos hk, if_pos ⟨hk, ho⟩]
    · rw [if_neg hk, if_neg (fun q => hk q.1)]; exact h.rm
  · rw [cnA_snoc]
    by_cases hk : e.k = 10
    · rw [if_pos hk, if_pos ⟨hk, ho⟩, h.se]; omega
    · rw [if_neg hk, if_neg (fun q => hk q.1)]; exact h.se
  · rw [cnT_snoc]
    by_cases hk : e.k = 12
    · rw [if_pos hk]
      rcases hg hk with ha | ha
      · rw [if_neg (by omega), h.re]; omega
      · rw [if_pos ⟨hk, ho, ha⟩, h.re]; omega
    · rw [if_neg hk, if_neg (fun q => hk q.1)]; exact h.re
  · rw [clL_snoc]
    by_cases hk : e.k = 13
    · rw [if_pos hk, if_pos ⟨hk, ho⟩]
    · rw [if_neg hk, if_neg (fun q => hk q.1)]; exact h.cl
end
set_option maxRecDepth 4000 in
set_option maxHeartbeats 2000000 in
theorem lflow_any (ad : Option Addr) (n c : Nat) (es : List E6.Ev) (w : World) (hr : E6.ERow w ad n es) (hn : (n : Int) ≤ 1048576) (hg : ∀ e ∈ es, Eb e.g e.k e.o e.a) (ob : Int) :
    Calls Tryz.prog 38 #[.agg #[.slice ad n c], .int .u64 ob] w fun e w' => ∃ rm se re cl, e = .returned (.tuple #[.int .i64 rm, .int .i64 se, .int .i64 re, .int .i64 cl]) ∧ Fl (es.map me) ob rm se re cl ∧ Below w.heap.size w w' := by
  obtain ⟨W, hW⟩ : ∃ W, W = w.alloc (.cells #[.slice ad n c] 42) := ⟨_, rfl⟩
  have hb : Below w.heap.size w W := by rw [hW]; exact below_alloc1 w _
  have hE : W.heap[w.heap.size]? = some (.cells #[.slice ad n c] 42 (0, 0)) := by rw [hW]; exact heap_new _ _
  have p0 : W.cell? ⟨w.heap.size, 0, none⟩ = some (.slice ad n c) := cell_at hE rfl
  have hlt0 : w.heap.size < W.heap.size := lt_of_heap hE
  have HP0 := hide p0
  have HE := hide (hr.bel hb)
  have HG := hide hg
  have HB := hide hb
  have HW := hide hW
  clear hr hg hb hW hE
  go_enter Tryz.func38, Tryz.ntmps38
  go_wp2_with fail
  rw [← HW.out]
  generalize hbb : w.heap.size = bb at p0 hlt0 HP0 ⊢
  have HBB := hide hbb
  clear HW hbb
  go_wp2
  clear p0
  go_loopw [8, 9, 10, 11, 12] (fun v1 v2 v3 v4 i wr => ∃ (j : Nat) (rm se re cl : Int), j ≤ n ∧ i = .int .i64 j ∧ v1 = .int .i64 rm ∧ v2 = .int .i64 se ∧ v3 = .int .i64 re ∧ v4 = .int .i64 cl ∧ Hid (Fl (Tj es j) ob rm se re cl) ∧ Hid (Below W.heap.size W wr)) (fun _ _ _ _ i _ => n - (intOf i).toNat)
  case atStart => exact ⟨0, -1, 0, 0, -1, Nat.zero_le _, rfl, rfl, rfl, rfl, rfl, hide (by rw [Tj_zero]; exact ⟨rfl, rfl, rfl, rfl⟩), hide (Below.refl _ _)⟩
  case round =>
    obtain ⟨j, rm, se, re, cl, hj, rfl, rfl, rfl, rfl, rfl, HF, HBl⟩ := hrel
    have p0 := E6.cell_bel HP0.out HBl.out
    have hlt1 : bb < wr.heap.size := Nat.lt_of_lt_of_le hlt0 HBl.out.size
    by_cases hlt : j < n
    · have hjI : (j : Int) < n := by omega
      obtain ⟨b, off, e, ha, hej, c0, c1, c2, c3, c4, hs⟩ := (HE.out.bel HBl.out).at hlt
      subst ha
      have heb := HG.out e (List.mem_of_getElem? hej)
      have hse : 0 ≤ se ∧ se ≤ 1048576 := by have h1 := HF.out.se; have h2 : cnA (Tj es j) 10 ob ≤ (Tj es j).length := List.countP_le_length; rw [Tj_len HE.out.len hj] at h2; omega
      have hre : 0 ≤ re ∧ re ≤ 1048576 := by have h1 := HF.out.re; have h2 : cnT (Tj es j) 12 ob 1 ≤ (Tj es j).length := List.countP_le_length; rw [Tj_len HE.out.len hj] at h2; omega
      have HTs := hide (Tj_succ hej)
      have HTl := hide (Tj_len HE.out.len hj)
      have HB1 := hide (HBl.out.trans ((below_alloc1 wr (.cells #[.int .i64 e.g, .int .i64 e.k, .int .u64 e.o, .int .u64 e.a, .slice e.sa e.ls.length e.sc] 36)).mono HBl.out.size))
      clear hs hej
      by_cases ho : e.o = ob
      · have hob := bne_f ho
        have HF2 : Hid (Fl (Tj es (j + 1)) ob (if e.k = 9 then e.a else rm) (if e.k = 10 then se + 1 else se) (if e.k = 12 then re + e.a else re) (if e.k = 13 then (j : Int) else cl)) := hide (by
          have h1 := HF.out.step (e := me e) ho (fun hk => by have h2 := heb.rc hk; have h3 := heb.ok.a0; show e.a = 0 ∨ e.a = 1; omega)
          rw [← HTs.out, HTl.out] at h1
          exact h1)
        clear ho
        by_cases hk9 : e.k = 9
        · have b9 := beq_t hk9
          have hwa : IntKind.i64.wrap e.a = e.a := by rw [IntKind.wrap_i64]; have := heb.mc hk9; have := heb.ok.a0; omega
          have HF3 : Hid (Fl (Tj es (j + 1)) ob e.a se re cl) := hide (by have h1 := HF2.out; rw [if_pos (by omega), if_neg (by omega), if_neg (by omega), if_neg (by omega)] at h1; exact h1)
          clear HF2 heb hse hre hk9
          go_wp2
          exact ⟨⟨j + 1, _, _, _, _, by omega, by go_num, rfl, rfl, rfl, rfl, HF3, HB1⟩, by simp [intOf]; omega⟩
        · have b9 := beq_f hk9
          by_cases hk10 : e.k = 10
          · have b10 := beq_t hk10
            have hwb : IntKind.i64.wrap (se + 1) = se + 1 := by rw [IntKind.wrap_i64]; omega
            have HF3 : Hid (Fl (Tj es (j + 1)) ob rm (se + 1) re cl) := hide (by have h1 := HF2.out; rw [if_neg (by omega), if_pos (by omega), if_neg (by omega), if_neg (by omega)] at h1; exact h1)
            clear HF2 heb hse hre hk10
            go_wp2
            exact ⟨⟨j + 1, _, _, _, _, by omega, by go_num, rfl, rfl, rfl, rfl, HF3, HB1⟩, by simp [intOf]; omega⟩
          · have b10 := beq_f hk10
            by_cases hk12 : e.k = 12
            · have b12 := beq_t hk12
              have hwa : IntKind.i64.wrap e.a = e.a := by rw [IntKind.wrap_i64]; have := heb.rc hk12; have := heb.ok.a0; omega
              have hwb : IntKind.i64.wrap (re + e.a) = re + e.a := by rw [IntKind.wrap_i64]; have := heb.rc hk12; have := heb.ok.a0; omega
              have HF3 : Hid (Fl (Tj es (j + 1)) ob rm se (re + e.a) cl) := hide (by have h1 := HF2.out; rw [if_neg (by omega), if_neg (by omega), if_pos (by omega), if_neg (by omega)] at h1; exact h1)
              clear HF2 heb hse hre hk12
              go_wp2
              exact ⟨⟨j + 1, _, _, _, _, by omega, by go_num, rfl, rfl, rfl, rfl, HF3, HB1⟩, by simp [intOf]; omega⟩
            · have b12 := beq_f hk12
              by_cases hk13 : e.k = 13
              · have b13 := beq_t hk13
                have HF3 : Hid (Fl (Tj es (j + 1)) ob rm se re (j : Int)) := hide (by have h1 := HF2.out; rw [if_neg (by omega), if_neg (by omega), if_neg (by omega), if_pos (by omega)] at h1; exact h1)
                clear HF2 heb hse hre hk13
                go_wp2
                exact ⟨⟨j + 1, _, _, _, _, by omega, by go_num, rfl, rfl, rfl, rfl, HF3, HB1⟩, by simp [intOf]; omega⟩
              · have b13 := beq_f hk13
                have HF3 : Hid (Fl (Tj es (j + 1)) ob rm se re cl) := hide (by have h1 := HF2.out; rw [if_neg (by omega), if_neg (by omega), if_neg (by omega), if_neg (by omega)] at h1; exact h1)
                clear HF2 heb hse hre 
                go_wp2
                exact ⟨⟨j + 1, _, _, _, _, by omega, by go_num, rfl, rfl, rfl, rfl, HF3, HB1⟩, by simp [intOf]; omega⟩
      · have hob := bne_t ho
        have HF2 : Hid (Fl (Tj es (j + 1)) ob rm se re cl) := hide (by rw [HTs.out]; exact HF.out.skip (e := me e) ho)
        clear ho heb hse hre
        go_wp2
        exact ⟨⟨j + 1, _, _, _, _, by omega, by go_num, rfl, rfl, rfl, rfl, HF2, HB1⟩, by simp [intOf]; omega⟩
    · have h9 : j = n := by omega
      subst h9
      have HF2 : Hid (Fl (es.map me) ob rm se re cl) := hide (by rw [← Tj_all HE.out.len]; exact HF.out)
      go_wp2
      try simp only [Exit.inBlock, Exit.then]
      refine bodyPost_ret (results_tmp4 rfl _ _ _) rfl ?_
      exact ⟨_, _, _, _, rfl, HF2.out, HBB.out ▸ HB.out.trans (HBl.out.mono HB.out.size)⟩
end Go.Proofs.YtafkammiehcdjaaGreatDoor
/-
  What holds behind every event that can come: channels, counters, memory, goroutines, locks.
-/
namespace Go.Proofs.YtafkammiehcdjaaGreatDoor
set_option linter.unusedVariables false
section
variable {T : List Me} {M : CS} {e : Me} {r : Gor} {k o a x g : Int}
theorem rsn_rest (h : rsn T e = 0) : bgT T e.g = true ∧ nmd T 8 e.g = false ∧ (if 3 ≤ e.k ∧ e.k ≤ 6 then ofLk T e else if e.k = 7 ∨ e.k = 8 then ofGr T e else if 9 ≤ e.k ∧ e.k ≤ 13 then ofCh T e else ofOt T e) = 0 := by
  unfold rsn at h
  by_cases h1 : bgT T e.g = false
  · rw [if_pos h1] at h; cases h
  rw [if_neg h1] at h
  by_cases h2 : nmd T 8 e.g = true
  · rw [if_pos h2] at h; cases h
  rw [if_neg h2] at h
  refine ⟨by simpa using h1, by simpa using h2, ?_⟩
  cases hd : dueT T e.g with
  | none =>
    rw [hd] at h
    dsimp only at h
    rw [if_neg (by decide)] at h
    exact h
  | some d =>
    rw [hd] at h
    dsimp only at h
    by_cases h3 : decide (e.k ≠ 11 ∨ e.o ≠ d.1) = true
    · rw [if_pos h3] at h; cases h
    · rw [if_neg h3] at h; exact h
theorem rsn_ch (h : rsn T e = 0) (hk : 9 ≤ e.k ∧ e.k ≤ 13) : ofCh T e = 0 := by
  have h1 := (rsn_rest h).2.2
  rw [if_neg (by omega), if_neg (by omega), if_pos hk] at h1
  exact h1
theorem rsn_ot (h : rsn T e = 0) (hk : 13 < e.k) : ofOt T e = 0 := by
  have h1 := (rsn_rest h).2.2
  rw [if_neg (by omega), if_neg (by omega), if_neg (by omega)] at h1
  exact h1
theorem ofCh_zero (h : ofCh T e = 0) (hk : 9 ≤ e.k ∧ e.k ≤ 13) : (roomT T e.o = none ∧ e.k = 9) ∨ ∃ c, roomT T e.o = some c ∧ ¬ e.k = 9 ∧ (e.k = 10 → ¬ 0 < cnA T 13 e.o ∧ (1 ≤ c → (cnA T 10 e.o : Int) - cnT T 12 e.o 1 < c)) ∧ (e.k = 12 → e.a = 1 → cnT T 12 e.o 1 < cnA T 10 e.o) ∧ (e.k = 12 → e.a = 0 → 0 < cnA T 13 e.o ∧ cnA T 10 e.o ≤ cnT T 12 e.o 1) := by
  unfold ofCh at h
  cases hr : roomT T e.o with
  | none =>
    rw [hr] at h
    dsimp only at h
    by_cases h9 : e.k = 9
    · exact .inl ⟨rfl, h9⟩
    · rw [if_neg h9] at h; cases h
  | some c =>
    rw [hr] at h
    dsimp only at h
    by_cases h9 : e.k = 9
    · rw [if_pos h9] at h; cases h
    rw [if_neg h9] at h
    by_cases h15 : 0 < cnA T 13 e.o ∧ (e.k = 10 ∨ e.k = 13)
    · rw [if_pos h15] at h; cases h
    rw [if_neg h15] at h
    by_cases h16 : e.k = 10 ∧ 1 ≤ c ∧ c ≤ (cnA T 10 e.o : Int) - cnT T 12 e.o 1
    · rw [if_pos h16] at h; cases h
    rw [if_neg h16] at h
    by_cases h17 : e.k = 12 ∧ e.a = 1 ∧ cnA T 10 e.o ≤ cnT T 12 e.o 1
    · rw [if_pos h17] at h; cases h
    rw [if_neg h17] at h
    by_cases h18 : e.k = 12 ∧ e.a = 0 ∧ ¬ 0 < cnA T 13 e.o
    · rw [if_pos h18] at h; cases h
    rw [if_neg h18] at h
    by_cases h19 : e.k = 12 ∧ e.a = 0 ∧ cnT T 12 e.o 1 < cnA T 10 e.o
    · rw [if_pos h19] at h; cases h
    refine .inr ⟨c, rfl, h9, fun q => ⟨fun z => h15 ⟨z, .inl q⟩, fun z => ?_⟩, fun q1 q2 => ?_, fun q1 q2 => ⟨?_, ?_⟩⟩
    · by_cases hh : (cnA T 10 e.o : Int) - cnT T 12 e.o 1 < c
      · exact hh
      · exact absurd ⟨q, z, by omega⟩ h16
    · by_cases hh : cnT T 12 e.o 1 < cnA T 10 e.o
      · exact hh
      · exact absurd ⟨q1, q2, by omega⟩ h17
    · by_cases hh : 0 < cnA T 13 e.o
      · exact hh
      · exact absurd ⟨q1, q2, hh⟩ h18
    · by_cases hh : cnA T 10 e.o ≤ cnT T 12 e.o 1
      · exact hh
      · exact absurd ⟨q1, q2, by omega⟩ h19
structure LkF (T : List Me) : Prop where
  rm : ∀ o, rmL T o = roomI T o
  cp : ∀ o c, roomT T o = some c → 0 < c → (cnA T 10 o : Int) - cnT T 12 o 1 ≤ c
  cl : ∀ o, 0 ≤ clL T o ↔ 0 < cnA T 13 o
theorem LkF.new : LkF [] := ⟨fun _ => rfl, fun o c h => (by cases h), fun o => ⟨fun h => absurd (show (0 : Int) ≤ -1 from h) (by decide), fun h => absurd (show 0 < 0 from h) (by decide)⟩⟩
theorem LkF.step (h : LkF T) (hC : LkC T M) (hg : Gdm e) (hw : rsn T e = 0) : LkF (T ++ [e]) := by
  refine ⟨fun o => ?_, fun o c => ?_, fun o => ?_⟩
  · unfold roomI
    rw [rmL_snoc, roomT_snoc]
    have h1 := h.rm o
    unfold roomI at h1
    by_cases hk : e.k = 9 ∧ e.o = o
    · rw [if_pos hk, if_pos hk]
      have h2 := ofCh_zero (rsn_ch hw (by omega)) (by omega)
      rw [hk.2] at h2
      rcases h2 with h2 | ⟨c, _, h3, _⟩
      · rw [h2.1]; rfl
      · exact absurd hk.1 h3
    · rw [if_neg hk, if_neg hk, h1]
      cases roomT T o <;> rfl
  · rw [roomT_snoc, cnA_snoc, cnT_snoc]
    intro hc h0
    have hno := hC.no o
    cases hr : roomT T o with
    | none =>
      obtain ⟨n1, n2, _⟩ := hno hr
      rw [hr] at hc
      dsimp only at hc
      by_cases hk : e.k = 9 ∧ e.o = o
      · rw [if_neg (by omega), if_neg (by omega)]; omega
      · rw [if_neg hk] at hc; cases hc
    | some d =>
      rw [hr] at hc
      dsimp only at hc
      cases hc
      have h1 := h.cp o c hr h0
      by_cases hk : e.k = 10 ∧ e.o = o
      · have h2 := ofCh_zero (rsn_ch hw (by omega)) (by omega)
        rw [hk.2, hr] at h2
        rcases h2 with h2 | ⟨c', h3, _, h4, _⟩
        · cases h2.1
        · cases h3
          have h5 := (h4 hk.1).2 (by omega)
          rw [if_pos hk, if_neg (by omega)]
          omega
      · rw [if_neg hk]
        split <;> omega
  · rw [clL_snoc, cnA_snoc]
    by_cases hk : e.k = 13 ∧ e.o = o
    · rw [if_pos hk, if_pos hk]
      exact ⟨fun _ => by omega, fun _ => by omega⟩
    · rw [if_neg hk, if_neg hk, Nat.add_zero]
      exact h.cl o
theorem Rch.lkF (h : Rch T M) : LkF T := by
  induction h with
  | new => exact LkF.new
  | step h0 hg hw ih => exact ih.step h0.lkC hg (by rw [← h0.why hg]; exact hw)
theorem roomT_bd0 {T : List Me} (h : ∀ e ∈ T, e.k = 9 → 0 ≤ e.a ∧ e.a ≤ 65536) {o c : Int} (hc : roomT T o = some c) : 0 ≤ c := by
  induction T with
  | nil => cases hc
  | cons x T ih =>
    rw [roomT] at hc
    by_cases hk : x.k = 9 ∧ x.o = o
    · rw [if_pos hk] at hc
      cases hc
      exact (h x (List.mem_cons_self ..) hk.1).1
    · rw [if_neg hk] at hc
      exact ih (fun e he => h e (List.mem_cons_of_mem _ he)) hc
/-- Behind an event of a channel. -/
theorem snd_ch (h : Rch T M) (hg : Gdm e) (hw : M.why e = 0) (hk : 9 ≤ e.k ∧ e.k ≤ 13) (hb : ∀ x ∈ T ++ [e], x.k = 9 → 0 ≤ x.a ∧ x.a ≤ 65536) {rm se re cl : Int} (hF : Fl (T ++ [e]) e.o rm se re cl) : 0 ≤ rm ∧ re ≤ se ∧ (0 < rm → se - re ≤ rm) ∧ (e.k = 10 → ¬ 0 ≤ cl) ∧ (e.k = 12 → e.a = 0 → 0 ≤ cl ∧ re = se) := by
  have hr : rsn T e = 0 := by rw [← h.why hg]; exact hw
  have h2 : Rch (T ++ [e]) (M.next e) := .step h hg hw
  have hf := h2.lkF
  have hv := h2.lkV.le e.o
  have hz := ofCh_zero (rsn_ch hr hk) hk
  have hrm := hf.rm e.o
  rw [← hF.rm] at hrm
  have hsome : ∃ c, roomT (T ++ [e]) e.o = some c := by
    rw [roomT_snoc]
    rcases hz with hz | ⟨c, hc, _⟩
    · rw [hz.1]; exact ⟨e.a, if_pos ⟨hz.2, rfl⟩⟩
    · rw [hc]; exact ⟨c, rfl⟩
  obtain ⟨c, hc⟩ := hsome
  have hcb := roomT_bd0 hb hc
  unfold roomI at hrm
  rw [hc] at hrm
  have hrm' : rm = c := hrm
  subst hrm'
  have hcp := hf.cp e.o _ hc
  have hcl := hf.cl e.o
  rw [← hF.cl] at hcl
  have e1 := hF.se
  have e2 := hF.re
  rw [cnA_snoc] at hcl
  refine ⟨hcb, by omega, fun q => by have := hcp q; omega, fun q => ?_, fun q1 q2 => ?_⟩
  · rw [hcl, if_neg (by omega)]
    rcases hz with hz | ⟨c', _, _, h4, _⟩
    · omega
    · have := (h4 q).1; omega
  · rcases hz with hz | ⟨c', _, _, _, _, h6⟩
    · omega
    · have h7 := h6 q1 q2
      refine ⟨hcl.2 (by omega), ?_⟩
      rw [cnA_snoc, if_neg (by omega)] at e1
      rw [cnT_snoc, if_neg (by omega)] at e2
      have := h.lkV.le e.o
      omega
theorem snd_wg (h : Rch T M) (hg : Gdm e) (hw : M.why e = 0) (hk : e.k = 14 ∨ e.k = 15) : (0 ≤ cnZ (T ++ [e]) e.o ∧ cnZ (T ++ [e]) e.o ≤ 2147483647) ∧ (e.k = 15 → cnZ (T ++ [e]) e.o = 0) := by
  have hr : rsn T e = 0 := by rw [← h.why hg]; exact hw
  have h1 := rsn_ot hr (by omega)
  unfold ofOt at h1
  rw [cnZ_snoc]
  by_cases h14 : e.k = 14
  · rw [if_pos h14] at h1
    rw [if_pos ⟨h14, rfl⟩]
    split at h1
    · cases h1
    · rename_i h2
      exact ⟨by omega, fun q => by omega⟩
  · have h15 : e.k = 15 := by omega
    rw [if_neg h14, if_pos h15] at h1
    rw [if_neg (fun q => h14 q.1)]
    split at h1
    · rename_i h2; rw [h2]; exact ⟨⟨by decide, by decide⟩, fun _ => rfl⟩
    · cases h1
theorem lvAny_no {p : Int → Int → Bool} (h : lvAny p T = false) {i : Nat} {x : Me} (hx : T[i]? = some x) (hk : x.k = 20) (hp : p x.o x.a = true) : ∃ (k : Nat) (y : Me), i < k ∧ T[k]? = some y ∧ y.k = 21 ∧ y.o = x.o ∧ y.a = x.a := by
  induction T generalizing i with
  | nil => cases hx
  | cons z T ih =>
    rw [lvAny, Bool.or_eq_false_iff] at h
    cases i with
    | zero =>
      cases hx
      have h1 := h.1
      rw [hp, Bool.and_true, decide_eq_true hk, Bool.true_and] at h1
      have h2 : (T.any fun y => decide (y.k = 21 ∧ y.o = x.o ∧ y.a = x.a)) = true := by simpa using h1
      obtain ⟨y, hy, hd⟩ := List.any_eq_true.1 h2
      obtain ⟨k, hk2, hyk⟩ := List.getElem_of_mem hy
      have h3 := of_decide_eq_true hd
      exact ⟨k + 1, y, by omega, by simpa [List.getElem?_eq_getElem hk2] using hyk, h3⟩
    | succ i =>
      obtain ⟨k, y, h1, h2, h3⟩ := ih h.2 (by simpa using hx)
      exact ⟨k + 1, y, by omega, by simpa using h2, h3⟩
theorem snd_al (h : Rch T M) (hg : Gdm e) (hw : M.why e = 0) (hk : e.k = 20) {i : Nat} {x : Me} (hx : T[i]? = some x) (hxk : x.k = 20) (ho : x.o ≤ e.o + (e.a - 1)) (ho2 : e.o ≤ x.o + (x.a - 1)) : ∃ (k : Nat) (y : Me), i < k ∧ T[k]? = some y ∧ y.k = 21 ∧ y.o = x.o ∧ y.a = x.a := by
  have hr : rsn T e = 0 := by rw [← h.why hg]; exact hw
  have h1 := rsn_ot hr (by omega)
  unfold ofOt at h1
  rw [if_neg (by omega), if_neg (by omega), if_neg (by omega), if_pos hk] at h1
  have h2 : lvAny (ovl e) T = false := by
    cases hq : lvAny (ovl e) T with
    | false => rfl
    | true => rw [hq] at h1; cases h1
  exact lvAny_no h2 hx hxk (decide_eq_true ⟨ho, ho2⟩)
/-- Goroutines. -/
theorem nmd_no (h : nmd T k x = false) {y : Me} (hy : y ∈ T) : ¬ (y.k = k ∧ y.a = x) := by
  intro q
  have : nmd T k x = true := by
    unfold nmd
    rw [List.any_eq_true]
    exact ⟨y, hy, decide_eq_true q⟩
  rw [h] at this; cases this
theorem Rch.pre (h : Rch T M) : ∀ P x S, T = P ++ x :: S → ∃ M', Rch P M' ∧ Gdm x ∧ M'.why x = 0 := by
  induction h with
  | new => intro P x S h; exact absurd h (by simp)
  | @step T M e h0 hg hw ih =>
    intro P x S he
    rcases List.eq_nil_or_concat S with rfl | ⟨S', y, rfl⟩
    · have h1 := List.append_inj' he rfl
      obtain ⟨rfl, h2⟩ := h1
      cases h2
      exact ⟨M, h0, hg, hw⟩
    · have h1 : T ++ [e] = (P ++ x :: S') ++ [y] := by rw [he]; simp
      have h2 := List.append_inj' h1 rfl
      exact ih P x S' h2.1
theorem quiet_at (h : Rch T M) {P S : List Me} {x : Me} (he : T = P ++ x :: S) : (x.g = 0 ∨ ∃ y ∈ P, y.k = 7 ∧ y.a = x.g) ∧ (∀ y ∈ P, ¬ (y.k = 8 ∧ y.a = x.g)) ∧ (x.k = 7 ∨ x.k = 8 → ∀ y ∈ P, ¬ (y.k = x.k ∧ y.a = x.a)) := by
  obtain ⟨M', hP, hg, hw⟩ := h.pre P x S he
  have hr : rsn P x = 0 := by rw [← hP.why hg]; exact hw
  obtain ⟨h1, h2, h3⟩ := rsn_rest hr
  refine ⟨?_, fun y hy => nmd_no h2 hy, fun hk y hy => ?_⟩
  · unfold bgT at h1
    rw [Bool.or_eq_true] at h1
    rcases h1 with h1 | h1
    · exact .inl (of_decide_eq_true h1)
    · unfold nmd at h1
      obtain ⟨y, hy, hd⟩ := List.any_eq_true.1 h1
      exact .inr ⟨y, hy, of_decide_eq_true hd⟩
  · rw [if_neg (by omega), if_pos hk] at h3
    unfold ofGr at h3
    by_cases h7 : x.k = 7
    · rw [if_pos h7] at h3
      have h4 : bgT P x.a = false := by
        cases hq : bgT P x.a with
        | false => rfl
        | true => rw [hq] at h3; cases h3
      unfold bgT at h4
      rw [Bool.or_eq_false_iff] at h4
      rw [h7]
      exact nmd_no h4.2 hy
    · have h8 : x.k = 8 := by omega
      rw [if_neg h7] at h3
      by_cases hb : bgT P x.a = false
      · rw [if_pos hb] at h3; cases h3
      · rw [if_neg hb] at h3
        have h4 : nmd P 8 x.a = false := by
          cases hq : nmd P 8 x.a with
          | false => rfl
          | true => rw [hq] at h3; cases h3
        rw [h8]
        exact nmd_no h4 hy
end
end Go.Proofs.YtafkammiehcdjaaGreatDoor
