import Derived.Test.YtafkammiehcdjaaGreatDoorZa27
/-
  The document's questions of locks and goroutines.
-/
namespace Go.Proofs.YtafkammiehcdjaaGreatDoor
open Go.RowKit Go.Maps
set_option linter.unusedVariables false
set_option linter.unusedSimpArgs false
set_option maxRecDepth 4000 in
set_option maxHeartbeats 1000000 in
theorem rlock_3 (ad : Option Addr) (n c : Nat) (es : List E6.Ev) (w : World) (hr : E6.ERow w ad n es) (hn : (n : Int) ≤ 1048576) (hg : ∀ e ∈ es, Eb e.g e.k e.o e.a) (hcap : (n : Int) ≤ c) (hm : Mde (es.map me)) (g o a : Int) (s : Value) (he : Eb g 3 o a) :
    Calls Tryz.prog 103 #[.slice ad n c, .agg (evC g 3 o a s)] w fun e w' => e = .returned (.int .i64 (ofLk (es.map me) ⟨g, 3, o, a⟩)) ∧ Below w.heap.size w w' := by
  obtain ⟨W, hW⟩ : ∃ W, W = w.alloc (.cells (evC g 3 o a s) 36) := ⟨_, rfl⟩
  have hb : Below w.heap.size w W := by rw [hW]; exact below_alloc1 w _
  have hE : W.heap[w.heap.size]? = some (.cells (evC g 3 o a s) 36 (0, 0)) := by rw [hW]; exact heap_new _ _
  obtain ⟨p0, p1, p2, p3, p4⟩ := evc0 hE
  obtain ⟨R, hR⟩ : ∃ R : Int, R = ofLk (es.map me) ⟨g, 3, o, a⟩ := ⟨_, rfl⟩
  rw [← hR]
  have HR := hide hR
  have HB := hide hb
  have HW := hide hW
  have HE := hide (hr.bel hb)
  have HG := hide hg
  have HO := hide he
  have HM := hide hm
  have hleW : w.heap.size < W.heap.size := (Array.getElem?_eq_some_iff.1 hE).1
  clear hr hb hW hR hE hg he hm
  unfold evC
  unfold evC at HW
  have HQ1 := hide (ranyWrites_any ad n c es W HE.out hn HG.out o)
  have HQ2 := hide (ranyReads_any ad n c es W HE.out hn HG.out o)
  have HRr : Hid (R = if anyWr (es.map me) o = true ∨ anyRd (es.map me) o = true then 4 else 0) := hide (by rw [HR.out]; simp [ofLk])
  clear HR
  generalize anyWr (es.map me) o = A at HQ1 HRr
  generalize anyRd (es.map me) o = B at HQ2 HRr
  go_enter Tryz.func103, Tryz.ntmps103
  go_wp2_with fail
  rw [← HW.out]
  clear HW
  go_wp2_with fail
  refine HQ1.out.mono ?_
  rintro r w1 ⟨rfl, hw9⟩
  obtain rfl : W = w1 := hw9.symm
  clear HQ1
  cases A with
  | true =>
    have H9 : Hid (R = 4) := hide (by rw [HRr.out]; rfl)
    clear HRr
    go_wp2
    go_ret
    exact ⟨by rw [H9.out]; rfl, HB.out⟩
  | false =>
    go_wp2_with fail
    refine HQ2.out.mono ?_
    rintro r w1 ⟨rfl, hw9⟩
    obtain rfl : W = w1 := hw9.symm
    clear HQ2
    cases B with
    | true =>
      have H9 : Hid (R = 4) := hide (by rw [HRr.out]; rfl)
      clear HRr
      go_wp2
      go_ret
      exact ⟨by rw [H9.out]; rfl, HB.out⟩
    | false =>
      have H9 : Hid (R = 0) := hide (by rw [HRr.out]; rfl)
      clear HRr
      go_wp2
      go_ret
      exact ⟨by rw [H9.out]; rfl, HB.out⟩
set_option maxRecDepth 4000 in
set_option maxHeartbeats 1000000 in
theorem rlock_4 (ad : Option Addr) (n c : Nat) (es : List E6.Ev) (w : World) (hr : E6.ERow w ad n es) (hn : (n : Int) ≤ 1048576) (hg : ∀ e ∈ es, Eb e.g e.k e.o e.a) (hcap : (n : Int) ≤ c) (hm : Mde (es.map me)) (g o a : Int) (s : Value) (he : Eb g 4 o a) :
    Calls Tryz.prog 103 #[.slice ad n c, .agg (evC g 4 o a s)] w fun e w' => e = .returned (.int .i64 (ofLk (es.map me) ⟨g, 4, o, a⟩)) ∧ Below w.heap.size w w' := by
  obtain ⟨W, hW⟩ : ∃ W, W = w.alloc (.cells (evC g 4 o a s) 36) := ⟨_, rfl⟩
  have hb : Below w.heap.size w W := by rw [hW]; exact below_alloc1 w _
  have hE : W.heap[w.heap.size]? = some (.cells (evC g 4 o a s) 36 (0, 0)) := by rw [hW]; exact heap_new _ _
  obtain ⟨p0, p1, p2, p3, p4⟩ := evc0 hE
  obtain ⟨R, hR⟩ : ∃ R : Int, R = ofLk (es.map me) ⟨g, 4, o, a⟩ := ⟨_, rfl⟩
  rw [← hR]
  have HR := hide hR
  have HB := hide hb
  have HW := hide hW
  have HE := hide (hr.bel hb)
  have HG := hide hg
  have HO := hide he
  have HM := hide hm
  have hleW : w.heap.size < W.heap.size := (Array.getElem?_eq_some_iff.1 hE).1
  clear hr hb hW hR hE hg he hm
  unfold evC
  unfold evC at HW
  have HQ1 := hide (rwrites_any ad n c es W HE.out hn g o HO.out.ok.g0)
  have HRr : Hid (R = if wrs (es.map me) g o = false then 5 else 0) := hide (by rw [HR.out]; simp [ofLk])
  clear HR
  generalize wrs (es.map me) g o = A at HQ1 HRr
  go_enter Tryz.func103, Tryz.ntmps103
  go_wp2_with fail
  rw [← HW.out]
  clear HW
  go_wp2_with fail
  refine HQ1.out.mono ?_
  rintro r w1 ⟨rfl, hw9⟩
  obtain rfl : W = w1 := hw9.symm
  clear HQ1
  cases A with
  | true =>
    have H9 : Hid (R = 0) := hide (by rw [HRr.out]; rfl)
    clear HRr
    go_wp2
    go_ret
    exact ⟨by rw [H9.out]; rfl, HB.out⟩
  | false =>
    have H9 : Hid (R = 5) := hide (by rw [HRr.out]; rfl)
    clear HRr
    go_wp2
    go_ret
    exact ⟨by rw [H9.out]; rfl, HB.out⟩
set_option maxRecDepth 4000 in
set_option maxHeartbeats 1000000 in
theorem rlock_5 (ad : Option Addr) (n c : Nat) (es : List E6.Ev) (w : World) (hr : E6.ERow w ad n es) (hn : (n : Int) ≤ 1048576) (hg : ∀ e ∈ es, Eb e.g e.k e.o e.a) (hcap : (n : Int) ≤ c) (hm : Mde (es.map me)) (g o a : Int) (s : Value) (he : Eb g 5 o a) :
    Calls Tryz.prog 103 #[.slice ad n c, .agg (evC g 5 o a s)] w fun e w' => e = .returned (.int .i64 (ofLk (es.map me) ⟨g, 5, o, a⟩)) ∧ Below w.heap.size w w' := by
  obtain ⟨W, hW⟩ : ∃ W, W = w.alloc (.cells (evC g 5 o a s) 36) := ⟨_, rfl⟩
  have hb : Below w.heap.size w W := by rw [hW]; exact below_alloc1 w _
  have hE : W.heap[w.heap.size]? = some (.cells (evC g 5 o a s) 36 (0, 0)) := by rw [hW]; exact heap_new _ _
  obtain ⟨p0, p1, p2, p3, p4⟩ := evc0 hE
  obtain ⟨R, hR⟩ : ∃ R : Int, R = ofLk (es.map me) ⟨g, 5, o, a⟩ := ⟨_, rfl⟩
  rw [← hR]
  have HR := hide hR
  have HB := hide hb
  have HW := hide hW
  have HE := hide (hr.bel hb)
  have HG := hide hg
  have HO := hide he
  have HM := hide hm
  have hleW : w.heap.size < W.heap.size := (Array.getElem?_eq_some_iff.1 hE).1
  clear hr hb hW hR hE hg he hm
  unfold evC
  unfold evC at HW
  have HQ1 := hide (ranyWrites_any ad n c es W HE.out hn HG.out o)
  have HRr : Hid (R = if anyWr (es.map me) o = true then 6 else 0) := hide (by rw [HR.out]; simp [ofLk])
  clear HR
  generalize anyWr (es.map me) o = A at HQ1 HRr
  go_enter Tryz.func103, Tryz.ntmps103
  go_wp2_with fail
  rw [← HW.out]
  clear HW
  go_wp2_with fail
  refine HQ1.out.mono ?_
  rintro r w1 ⟨rfl, hw9⟩
  obtain rfl : W = w1 := hw9.symm
  clear HQ1
  cases A with
  | true =>
    have H9 : Hid (R = 6) := hide (by rw [HRr.out]; rfl)
    clear HRr
    go_wp2
    go_ret
    exact ⟨by rw [H9.out]; rfl, HB.out⟩
  | false =>
    have H9 : Hid (R = 0) := hide (by rw [HRr.out]; rfl)
    clear HRr
    go_wp2
    go_ret
    exact ⟨by rw [H9.out]; rfl, HB.out⟩
set_option maxRecDepth 4000 in
set_option maxHeartbeats 1000000 in
theorem rlock_6 (ad : Option Addr) (n c : Nat) (es : List E6.Ev) (w : World) (hr : E6.ERow w ad n es) (hn : (n : Int) ≤ 1048576) (hg : ∀ e ∈ es, Eb e.g e.k e.o e.a) (hcap : (n : Int) ≤ c) (hm : Mde (es.map me)) (g o a : Int) (s : Value) (he : Eb g 6 o a) :
    Calls Tryz.prog 103 #[.slice ad n c, .agg (evC g 6 o a s)] w fun e w' => e = .returned (.int .i64 (ofLk (es.map me) ⟨g, 6, o, a⟩)) ∧ Below w.heap.size w w' := by
  obtain ⟨W, hW⟩ : ∃ W, W = w.alloc (.cells (evC g 6 o a s) 36) := ⟨_, rfl⟩
  have hb : Below w.heap.size w W := by rw [hW]; exact below_alloc1 w _
  have hE : W.heap[w.heap.size]? = some (.cells (evC g 6 o a s) 36 (0, 0)) := by rw [hW]; exact heap_new _ _
  obtain ⟨p0, p1, p2, p3, p4⟩ := evc0 hE
  obtain ⟨R, hR⟩ : ∃ R : Int, R = ofLk (es.map me) ⟨g, 6, o, a⟩ := ⟨_, rfl⟩
  rw [← hR]
  have HR := hide hR
  have HB := hide hb
  have HW := hide hW
  have HE := hide (hr.bel hb)
  have HG := hide hg
  have HO := hide he
  have HM := hide hm
  have hleW : w.heap.size < W.heap.size := (Array.getElem?_eq_some_iff.1 hE).1
  clear hr hb hW hR hE hg he hm
  unfold evC
  unfold evC at HW
  have HQ1 := hide (rreads_any ad n c es W HE.out hn g o HO.out.ok.g0)
  have HRr : Hid (R = if rds (es.map me) g o = false then 7 else 0) := hide (by rw [HR.out]; simp [ofLk])
  clear HR
  generalize rds (es.map me) g o = A at HQ1 HRr
  go_enter Tryz.func103, Tryz.ntmps103
  go_wp2_with fail
  rw [← HW.out]
  clear HW
  go_wp2_with fail
  refine HQ1.out.mono ?_
  rintro r w1 ⟨rfl, hw9⟩
  obtain rfl : W = w1 := hw9.symm
  clear HQ1
  cases A with
  | true =>
    have H9 : Hid (R = 0) := hide (by rw [HRr.out]; rfl)
    clear HRr
    go_wp2
    go_ret
    exact ⟨by rw [H9.out]; rfl, HB.out⟩
  | false =>
    have H9 : Hid (R = 7) := hide (by rw [HRr.out]; rfl)
    clear HRr
    go_wp2
    go_ret
    exact ⟨by rw [H9.out]; rfl, HB.out⟩
set_option maxRecDepth 4000 in
set_option maxHeartbeats 1000000 in
theorem rgor_7 (ad : Option Addr) (n c : Nat) (es : List E6.Ev) (w : World) (hr : E6.ERow w ad n es) (hn : (n : Int) ≤ 1048576) (hg : ∀ e ∈ es, Eb e.g e.k e.o e.a) (hcap : (n : Int) ≤ c) (hm : Mde (es.map me)) (g o a : Int) (s : Value) (he : Eb g 7 o a) :
    Calls Tryz.prog 104 #[.slice ad n c, .agg (evC g 7 o a s)] w fun e w' => e = .returned (.int .i64 (ofGr (es.map me) ⟨g, 7, o, a⟩)) ∧ Below w.heap.size w w' := by
  obtain ⟨W, hW⟩ : ∃ W, W = w.alloc (.cells (evC g 7 o a s) 36) := ⟨_, rfl⟩
  have hb : Below w.heap.size w W := by rw [hW]; exact below_alloc1 w _
  have hE : W.heap[w.heap.size]? = some (.cells (evC g 7 o a s) 36 (0, 0)) := by rw [hW]; exact heap_new _ _
  obtain ⟨p0, p1, p2, p3, p4⟩ := evc0 hE
  obtain ⟨R, hR⟩ : ∃ R : Int, R = ofGr (es.map me) ⟨g, 7, o, a⟩ := ⟨_, rfl⟩
  rw [← hR]
  have HR := hide hR
  have HB := hide hb
  have HW := hide hW
  have HE := hide (hr.bel hb)
  have HG := hide hg
  have HO := hide he
  have HM := hide hm
  have hleW : w.heap.size < W.heap.size := (Array.getElem?_eq_some_iff.1 hE).1
  clear hr hb hW hR hE hg he hm
  unfold evC
  unfold evC at HW
  have ha0 := HO.out.ok.a0
  have ha1 := HO.out.fj (.inl rfl)
  have hwa : IntKind.i64.wrap a = a := by rw [IntKind.wrap_i64]; omega
  have HQ1 := hide (rbegun_any ad n c es W HE.out hn a ha0 ha1)
  have HRr : Hid (R = if bgT (es.map me) a = true then 8 else 0) := hide (by rw [HR.out]; simp [ofGr])
  clear HR ha0 ha1
  generalize bgT (es.map me) a = A at HQ1 HRr
  go_enter Tryz.func104, Tryz.ntmps104
  go_wp2_with fail
  rw [← HW.out]
  clear HW
  go_wp2_with fail
  refine HQ1.out.mono ?_
  rintro r w1 ⟨rfl, hw9⟩
  obtain rfl : W = w1 := hw9.symm
  clear HQ1
  cases A with
  | true =>
    have H9 : Hid (R = 8) := hide (by rw [HRr.out]; rfl)
    clear HRr
    go_wp2
    go_ret
    exact ⟨by rw [H9.out]; rfl, HB.out⟩
  | false =>
    have H9 : Hid (R = 0) := hide (by rw [HRr.out]; rfl)
    clear HRr
    go_wp2
    go_ret
    exact ⟨by rw [H9.out]; rfl, HB.out⟩
theorem due_some (T : List Me) (g : Int) : (dueV T g).2.2 = (dueT T g).isSome := by
  unfold dueV
  cases dueT T g <;> rfl
set_option maxRecDepth 4000 in
set_option maxHeartbeats 1000000 in
theorem rgor_8 (ad : Option Addr) (n c : Nat) (es : List E6.Ev) (w : World) (hr : E6.ERow w ad n es) (hn : (n : Int) ≤ 1048576) (hg : ∀ e ∈ es, Eb e.g e.k e.o e.a) (hcap : (n : Int) ≤ c) (hm : Mde (es.map me)) (g o a : Int) (s : Value) (he : Eb g 8 o a) :
    Calls Tryz.prog 104 #[.slice ad n c, .agg (evC g 8 o a s)] w fun e w' => e = .returned (.int .i64 (ofGr (es.map me) ⟨g, 8, o, a⟩)) ∧ Below w.heap.size w w' := by
  obtain ⟨W, hW⟩ : ∃ W, W = w.alloc (.cells (evC g 8 o a s) 36) := ⟨_, rfl⟩
  have hb : Below w.heap.size w W := by rw [hW]; exact below_alloc1 w _
  have hE : W.heap[w.heap.size]? = some (.cells (evC g 8 o a s) 36 (0, 0)) := by rw [hW]; exact heap_new _ _
  obtain ⟨p0, p1, p2, p3, p4⟩ := evc0 hE
  obtain ⟨R, hR⟩ : ∃ R : Int, R = ofGr (es.map me) ⟨g, 8, o, a⟩ := ⟨_, rfl⟩
  rw [← hR]
  have HR := hide hR
  have HB := hide hb
  have HW := hide hW
  have HE := hide (hr.bel hb)
  have HG := hide hg
  have HO := hide he
  have HM := hide hm
  have hleW : w.heap.size < W.heap.size := (Array.getElem?_eq_some_iff.1 hE).1
  clear hr hb hW hR hE hg he hm
  unfold evC
  unfold evC at HW
  have ha0 := HO.out.ok.a0
  have ha1 := HO.out.fj (.inr rfl)
  have hwa : IntKind.i64.wrap a = a := by rw [IntKind.wrap_i64]; omega
  have HQ1 := hide (rbegun_any ad n c es W HE.out hn a ha0 ha1)
  have HQ2 := hide (rjoined_any ad n c es W HE.out hn a ha0 ha1)
  have HQ3 := hide (rdue_any ad n c es W HE.out hn hcap HG.out HM.out a)
  have HRr : Hid (R = if bgT (es.map me) a = false then 9 else if nmd (es.map me) 8 a = true then 10 else if a = g then 11 else if (dueV (es.map me) a).2.2 = true then 12 else 0) := hide (by rw [HR.out, due_some]; simp [ofGr])
  clear HR ha0 ha1
  generalize bgT (es.map me) a = A at HQ1 HRr
  generalize nmd (es.map me) 8 a = B at HQ2 HRr
  generalize dueV (es.map me) a = D at HQ3 HRr
  obtain ⟨d1, d2, d3⟩ := D
  dsimp only at HQ3 HRr
  go_enter Tryz.func104, Tryz.ntmps104
  go_wp2_with fail
  rw [← HW.out]
  clear HW
  go_wp2_with fail
  refine HQ1.out.mono ?_
  rintro r w1 ⟨rfl, hw9⟩
  obtain rfl : W = w1 := hw9.symm
  clear HQ1
  cases A with
  | false =>
    have H9 : Hid (R = 9) := hide (by rw [HRr.out]; rfl)
    clear HRr
    go_wp2
    go_ret
    exact ⟨by rw [H9.out]; rfl, HB.out⟩
  | true =>
    go_wp2_with fail
    refine HQ2.out.mono ?_
    rintro r w1 ⟨rfl, hw9⟩
    obtain rfl : W = w1 := hw9.symm
    clear HQ2
    cases B with
    | true =>
      have H9 : Hid (R = 10) := hide (by rw [HRr.out]; rfl)
      clear HRr
      go_wp2
      go_ret
      exact ⟨by rw [H9.out]; rfl, HB.out⟩
    | false =>
      by_cases hag : a = g
      · have hab := beq_t hag
        have H9 : Hid (R = 11) := hide (by rw [HRr.out, if_neg (by decide), if_neg (by decide), if_pos hag])
        clear HRr hag
        go_wp2
        go_ret
        exact ⟨by rw [H9.out]; rfl, HB.out⟩
      · have hab := beq_f hag
        have HRs : Hid (R = if d3 = true then 12 else 0) := hide (by rw [HRr.out, if_neg (by decide), if_neg (by decide), if_neg hag])
        clear HRr hag
        go_wp2_with fail
        refine HQ3.out.mono ?_
        rintro r w2 ⟨rfl, hb2⟩
        have HB2 := hide (HB.out.trans (hb2.mono HB.out.size))
        clear HQ3 hb2
        cases d3 with
        | true =>
          have H9 : Hid (R = 12) := hide (by rw [HRs.out]; rfl)
          clear HRs
          go_wp2
          go_ret
          exact ⟨by rw [H9.out]; rfl, HB2.out⟩
        | false =>
          have H9 : Hid (R = 0) := hide (by rw [HRs.out]; rfl)
          clear HRs
          go_wp2
          go_ret
          exact ⟨by rw [H9.out]; rfl, HB2.out⟩
end Go.Proofs.YtafkammiehcdjaaGreatDoor
