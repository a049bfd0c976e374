import Derived.Test.YtafkammiehcdjaaGreatDoorZr33
import Derived.Test.YtafkammiehcdjaaGreatDoorZr37
/-
  The document's Reason and Run.
-/
namespace Go.Proofs.YtafkammiehcdjaaGreatDoor
open Go.RowKit Go.Maps
set_option linter.unusedVariables false
set_option linter.unusedSimpArgs false
theorem rlock_any (ad : Option Addr) (n c : Nat) (es : List E6.Ev) (w : World) (hr : E6.ERow w ad n es) (hn : (n : Int) ≤ 1048576) (hg : ∀ e ∈ es, Eb e.g e.k e.o e.a) (hcap : (n : Int) ≤ c) (hm : Mde (es.map me)) (g o a : Int) (s : Value) (k : Int) (he : Eb g k o a) (h1 : 3 ≤ k) (h2 : k ≤ 6) :
    Calls Tryz.prog 103 #[.slice ad n c, .agg (evC g k o a s)] w fun e w' => e = .returned (.int .i64 (ofLk (es.map me) ⟨g, k, o, a⟩)) ∧ Below w.heap.size w w' := by
  have h : k = 3 ∨ k = 4 ∨ k = 5 ∨ k = 6 := by omega
  rcases h with rfl | rfl | rfl | rfl
  · exact rlock_3 ad n c es w hr hn hg hcap hm g o a s he
  · exact rlock_4 ad n c es w hr hn hg hcap hm g o a s he
  · exact rlock_5 ad n c es w hr hn hg hcap hm g o a s he
  · exact rlock_6 ad n c es w hr hn hg hcap hm g o a s he
theorem rgor_any (ad : Option Addr) (n c : Nat) (es : List E6.Ev) (w : World) (hr : E6.ERow w ad n es) (hn : (n : Int) ≤ 1048576) (hg : ∀ e ∈ es, Eb e.g e.k e.o e.a) (hcap : (n : Int) ≤ c) (hm : Mde (es.map me)) (g o a : Int) (s : Value) (k : Int) (he : Eb g k o a) (h1 : 7 ≤ k) (h2 : k ≤ 8) :
    Calls Tryz.prog 104 #[.slice ad n c, .agg (evC g k o a s)] w fun e w' => e = .returned (.int .i64 (ofGr (es.map me) ⟨g, k, o, a⟩)) ∧ Below w.heap.size w w' := by
  have h : k = 7 ∨ k = 8 := by omega
  rcases h with rfl | rfl
  · exact rgor_7 ad n c es w hr hn hg hcap hm g o a s he
  · exact rgor_8 ad n c es w hr hn hg hcap hm g o a s he
theorem rchan_any (ad : Option Addr) (n c : Nat) (es : List E6.Ev) (w : World) (hr : E6.ERow w ad n es) (hn : (n : Int) ≤ 1048576) (hg : ∀ e ∈ es, Eb e.g e.k e.o e.a) (hcap : (n : Int) ≤ c) (hm : Mde (es.map me)) (g o a : Int) (s : Value) (k : Int) (he : Eb g k o a) (h1 : 9 ≤ k) (h2 : k ≤ 13) :
    Calls Tryz.prog 105 #[.slice ad n c, .agg (evC g k o a s)] w fun e w' => e = .returned (.int .i64 (ofCh (es.map me) ⟨g, k, o, a⟩)) ∧ Below w.heap.size w w' := by
  have h : k = 9 ∨ k = 10 ∨ k = 11 ∨ k = 12 ∨ k = 13 := by omega
  rcases h with rfl | rfl | rfl | rfl | rfl
  · exact rchan_9 ad n c es w hr hn hg hcap hm g o a s he
  · exact rchan_10 ad n c es w hr hn hg hcap hm g o a s he
  · exact rchan_11 ad n c es w hr hn hg hcap hm g o a s he
  · exact rchan_12 ad n c es w hr hn hg hcap hm g o a s he
  · exact rchan_13 ad n c es w hr hn hg hcap hm g o a s he
def rest16 (T : List Me) (e : Me) : Int := if 3 ≤ e.k ∧ e.k ≤ 6 then ofLk T e else if e.k = 7 ∨ e.k = 8 then ofGr T e else if 9 ≤ e.k ∧ e.k ≤ 13 then ofCh T e else ofOt T e
theorem rsn_v (T : List Me) (e : Me) : rsn T e = if bgT T e.g = false then 1 else if nmd T 8 e.g = true then 2 else if (dueV T e.g).2.2 = true ∧ (e.k ≠ 11 ∨ e.o ≠ (dueV T e.g).1) then 3 else rest16 T e := by
  unfold rsn dueV rest16
  cases dueT T e.g with
  | none => simp
  | some d => simp
set_option maxRecDepth 4000 in
set_option maxHeartbeats 2000000 in
theorem rreason_any (ad : Option Addr) (n c : Nat) (es : List E6.Ev) (w : World) (hr : E6.ERow w ad n es) (hn : (n : Int) ≤ 1048576) (hg : ∀ e ∈ es, Eb e.g e.k e.o e.a) (hcap : (n : Int) ≤ c) (hm : Mde (es.map me)) (g o a : Int) (s : Value) (k : Int) (he : Eb g k o a) :
    Calls Tryz.prog 42 #[.slice ad n c, .agg (evC g k o a s)] w fun e w' => e = .returned (.int .i64 (rsn (es.map me) ⟨g, k, o, a⟩)) ∧ Below w.heap.size w w' := by
  obtain ⟨W, hW⟩ : ∃ W, W = w.alloc (.cells (evC g k o a s) 36) := ⟨_, rfl⟩
  have hb : Below w.heap.size w W := by rw [hW]; exact below_alloc1 w _
  have hE : W.heap[w.heap.size]? = some (.cells (evC g k o a s) 36 (0, 0)) := by rw [hW]; exact heap_new _ _
  obtain ⟨p0, p1, p2, p3, p4⟩ := evc0 hE
  obtain ⟨R, hR⟩ : ∃ R : Int, R = rsn (es.map me) ⟨g, k, o, a⟩ := ⟨_, rfl⟩
  rw [← hR]
  have HR := hide hR
  have HB := hide hb
  have HW := hide hW
  have HE := hide (hr.bel hb)
  have HG := hide hg
  have HO := hide he
  have HM := hide hm
  have hleW : w.heap.size < W.heap.size := (Array.getElem?_eq_some_iff.1 hE).1
  clear hr hb hW hR hE hg he hm
  unfold evC
  unfold evC at HW
  have HQ1 := hide (rbegun_any ad n c es W HE.out hn g HO.out.ok.g0 HO.out.ok.g1)
  have HQ2 := hide (rjoined_any ad n c es W HE.out hn g HO.out.ok.g0 HO.out.ok.g1)
  have HQ3 := hide (rdue_any ad n c es W HE.out hn hcap HG.out HM.out g)
  have HRr := hide (HR.out.trans (rsn_v (es.map me) ⟨g, k, o, a⟩))
  clear HR
  dsimp only at HRr
  generalize bgT (es.map me) g = A at HQ1 HRr
  generalize nmd (es.map me) 8 g = B at HQ2 HRr
  generalize dueV (es.map me) g = D at HQ3 HRr
  obtain ⟨d1, d2, d3⟩ := D
  dsimp only at HQ3 HRr
  go_enter Tryz.func42, Tryz.ntmps42
  go_wp2_with fail
  rw [← HW.out]
  clear HW
  go_wp2_with fail
  refine HQ1.out.mono ?_
  rintro r w1 ⟨rfl, hw9⟩
  obtain rfl : W = w1 := hw9.symm
  clear HQ1
  cases A with
  | false =>
    have H9 : Hid (R = 1) := hide (by rw [HRr.out]; rfl)
    clear HRr
    go_wp2
    go_ret
    exact ⟨by rw [H9.out]; rfl, HB.out⟩
  | true =>
    go_wp2_with fail
    refine HQ2.out.mono ?_
    rintro r w1 ⟨rfl, hw9⟩
    obtain rfl : W = w1 := hw9.symm
    clear HQ2
    cases B with
    | true =>
      have H9 : Hid (R = 2) := hide (by rw [HRr.out]; rfl)
      clear HRr
      go_wp2
      go_ret
      exact ⟨by rw [H9.out]; rfl, HB.out⟩
    | false =>
      have HRs : Hid (R = if d3 = true ∧ (k ≠ 11 ∨ o ≠ d1) then 3 else rest16 (es.map me) ⟨g, k, o, a⟩) := hide (by rw [HRr.out, if_neg (by decide), if_neg (by decide)])
      clear HRr
      go_wp2_with fail
      refine HQ3.out.mono ?_
      rintro r w2 ⟨rfl, hb2⟩
      have HB2 := hide (HB.out.trans (hb2.mono HB.out.size))
      have HE2 := hide (HE.out.bel hb2)
      have hle2 : w.heap.size < w2.heap.size := Nat.lt_of_lt_of_le hleW hb2.size
      have q0 := E6.cell_bel p0 hb2
      have q1 := E6.cell_bel p1 hb2
      have q2 := E6.cell_bel p2 hb2
      have q3 := E6.cell_bel p3 hb2
      have q4 := E6.cell_bel p4 hb2
      clear HQ3 hb2 p0 p1 p2 p3 p4
      cases d3 with
      | true =>
        by_cases h11 : k = 11
        · have b11 := bne_f h11
          by_cases hoc : o = d1
          · have boc := bne_f hoc
            have HC := hide (rchan_any ad n c es w2 HE2.out hn HG.out hcap HM.out g o a s k HO.out (by omega) (by omega))
            unfold evC at HC
            have H9 : Hid (R = ofCh (es.map me) ⟨g, k, o, a⟩) := hide (by
              rw [HRs.out, if_neg (fun q => q.2.elim (fun z => z h11) (fun z => z hoc))]
              unfold rest16
              dsimp only
              rw [if_neg (by omega), if_neg (by omega), if_pos (by omega)])
            rw [← H9.out] at HC
            clear HRs H9 hoc
            subst h11
            go_wp2_with fail
            refine HC.out.mono ?_
            rintro r w3 ⟨rfl, hb3⟩
            have HB3 := hide (HB2.out.trans (hb3.mono HB2.out.size))
            clear HC hb3
            go_wp2
            go_ret
            exact ⟨rfl, HB3.out⟩
          · have boc := bne_t hoc
            have H9 : Hid (R = 3) := hide (by rw [HRs.out, if_pos (⟨rfl, .inr hoc⟩)])
            clear HRs
            go_wp2
            go_ret
            exact ⟨by rw [H9.out]; rfl, HB2.out⟩
        · have b11 := bne_t h11
          have H9 : Hid (R = 3) := hide (by rw [HRs.out, if_pos (⟨rfl, .inl h11⟩)])
          clear HRs
          go_wp2
          go_ret
          exact ⟨by rw [H9.out]; rfl, HB2.out⟩
      | false =>
        have HRt : Hid (R = rest16 (es.map me) ⟨g, k, o, a⟩) := hide (by rw [HRs.out, if_neg (fun q => by cases q.1)])
        clear HRs
        by_cases h3 : 3 ≤ k
        · have b3 : decide (3 ≤ k) = true := decide_eq_true h3
          by_cases h6 : k ≤ 6
          · have b6 : decide (k ≤ 6) = true := decide_eq_true h6
            have HC := hide (rlock_any ad n c es w2 HE2.out hn HG.out hcap HM.out g o a s k HO.out h3 h6)
            unfold evC at HC
            have H9 := hide (HRt.out.trans (show rest16 (es.map me) ⟨g, k, o, a⟩ = ofLk (es.map me) ⟨g, k, o, a⟩ by unfold rest16; dsimp only; rw [if_pos ⟨h3, h6⟩]))
            clear HRt
            rw [← H9.out] at HC
            go_wp2_with fail
            refine HC.out.mono ?_
            rintro r w3 ⟨rfl, hb3⟩
            have HB3 := hide (HB2.out.trans (hb3.mono HB2.out.size))
            clear HC hb3 H9
            go_wp2
            go_ret
            exact ⟨rfl, HB3.out⟩
          · have b6 : decide (k ≤ 6) = false := decide_eq_false h6
            by_cases h7 : k = 7
            · have b7 := beq_t h7
              have HC := hide (rgor_any ad n c es w2 HE2.out hn HG.out hcap HM.out g o a s k HO.out (by omega) (by omega))
              unfold evC at HC
              have H9 := hide (HRt.out.trans (show rest16 (es.map me) ⟨g, k, o, a⟩ = ofGr (es.map me) ⟨g, k, o, a⟩ by unfold rest16; dsimp only; rw [if_neg (fun q => h6 q.2), if_pos (.inl h7)]))
              clear HRt h7
              rw [← H9.out] at HC
              go_wp2_with fail
              refine HC.out.mono ?_
              rintro r w3 ⟨rfl, hb3⟩
              have HB3 := hide (HB2.out.trans (hb3.mono HB2.out.size))
              clear HC hb3 H9
              go_wp2
              go_ret
              exact ⟨rfl, HB3.out⟩
            · have b7 := beq_f h7
              by_cases h8 : k = 8
              · have b8 := beq_t h8
                have HC := hide (rgor_any ad n c es w2 HE2.out hn HG.out hcap HM.out g o a s k HO.out (by omega) (by omega))
                unfold evC at HC
                have H9 := hide (HRt.out.trans (show rest16 (es.map me) ⟨g, k, o, a⟩ = ofGr (es.map me) ⟨g, k, o, a⟩ by unfold rest16; dsimp only; rw [if_neg (fun q => h6 q.2), if_pos (.inr h8)]))
                clear HRt h8
                rw [← H9.out] at HC
                go_wp2_with fail
                refine HC.out.mono ?_
                rintro r w3 ⟨rfl, hb3⟩
                have HB3 := hide (HB2.out.trans (hb3.mono HB2.out.size))
                clear HC hb3 H9
                go_wp2
                go_ret
                exact ⟨rfl, HB3.out⟩
              · have b8 := beq_f h8
                have b9 : decide (9 ≤ k) = true := decide_eq_true (by omega)
                by_cases h13 : k ≤ 13
                · have b13 : decide (k ≤ 13) = true := decide_eq_true h13
                  have HC := hide (rchan_any ad n c es w2 HE2.out hn HG.out hcap HM.out g o a s k HO.out (by omega) h13)
                  unfold evC at HC
                  have H9 := hide (HRt.out.trans (show rest16 (es.map me) ⟨g, k, o, a⟩ = ofCh (es.map me) ⟨g, k, o, a⟩ by unfold rest16; dsimp only; rw [if_neg (fun q => h6 q.2), if_neg (fun q => q.elim h7 h8), if_pos ⟨by omega, h13⟩]))
                  clear HRt
                  rw [← H9.out] at HC
                  go_wp2_with fail
                  refine HC.out.mono ?_
                  rintro r w3 ⟨rfl, hb3⟩
                  have HB3 := hide (HB2.out.trans (hb3.mono HB2.out.size))
                  clear HC hb3 H9
                  go_wp2
                  go_ret
                  exact ⟨rfl, HB3.out⟩
                · have b13 : decide (k ≤ 13) = false := decide_eq_false h13
                  have HC := hide (rother_any ad n c es w2 HE2.out hn HG.out g o a s k HO.out)
                  unfold evC at HC
                  have H9 := hide (HRt.out.trans (show rest16 (es.map me) ⟨g, k, o, a⟩ = ofOt (es.map me) ⟨g, k, o, a⟩ by unfold rest16; dsimp only; rw [if_neg (fun q => h6 q.2), if_neg (fun q => q.elim h7 h8), if_neg (fun q => h13 q.2)]))
                  clear HRt
                  rw [← H9.out] at HC
                  go_wp2_with fail
                  refine HC.out.mono ?_
                  rintro r w3 ⟨rfl, hb3⟩
                  have HB3 := hide (HB2.out.trans (hb3.mono HB2.out.size))
                  clear HC hb3 H9
                  go_wp2
                  go_ret
                  exact ⟨rfl, HB3.out⟩
        · have b3 : decide (3 ≤ k) = false := decide_eq_false h3
          have b9 : decide (9 ≤ k) = false := decide_eq_false (by omega)
          have b7 : (k == 7) = false := beq_f (by omega)
          have b8 : (k == 8) = false := beq_f (by omega)
          have HC := hide (rother_any ad n c es w2 HE2.out hn HG.out g o a s k HO.out)
          unfold evC at HC
          have H9 := hide (HRt.out.trans (show rest16 (es.map me) ⟨g, k, o, a⟩ = ofOt (es.map me) ⟨g, k, o, a⟩ by unfold rest16; dsimp only; rw [if_neg (fun q => h3 q.1), if_neg (by omega), if_neg (by omega)]))
          clear HRt
          rw [← H9.out] at HC
          go_wp2_with fail
          refine HC.out.mono ?_
          rintro r w3 ⟨rfl, hb3⟩
          have HB3 := hide (HB2.out.trans (hb3.mono HB2.out.size))
          clear HC hb3 H9
          go_wp2
          go_ret
          exact ⟨rfl, HB3.out⟩
theorem fr_zero {T es : List Me} {i : Nat} : fr T es i = (-1, 0) ∨ (i : Int) ≤ (fr T es i).1 := by
  induction es generalizing T i with
  | nil => exact .inl rfl
  | cons e es ih =>
    rw [fr]
    split
    · exact .inr (Int.le_refl _)
    · rcases ih (T := T ++ [e]) (i := i + 1) with h | h
      · exact .inl h
      · exact .inr (by omega)
noncomputable def frV (es : List E6.Ev) : Int × Int × Int := if (E6.bounds es).2 ≠ 0 then ((E6.bounds es).1, 0, (E6.bounds es).2) else ((fr [] (es.map me) 0).1, (fr [] (es.map me) 0).2, 0)
set_option maxRecDepth 8000 in
set_option maxHeartbeats 2000000 in
theorem rrun_any (ad : Option Addr) (n c : Nat) (es : List E6.Ev) (w : World) (hr : E6.ERow w ad n es) (hok : ∀ e ∈ es, e.ok) (hn : (n : Int) ≤ 9223372036854775806) (hc : n ≤ c) :
    Calls Tryz.prog 20 #[.slice ad n c] w fun r w' => r = .returned (.tuple #[.int .i64 (frV es).1, .int .i64 (frV es).2.1, .int .i64 (frV es).2.2]) ∧ Below w.heap.size w w' := by
  obtain ⟨R, hR⟩ : ∃ R, R = frV es := ⟨_, rfl⟩
  rw [← hR]
  have HR := hide hR
  have HBo := hide (E6.rbounds_any ad n c es w hr hok hn)
  have HE := hide hr
  have HO := hide hok
  have hcI : (n : Int) ≤ c := by omega
  obtain ⟨bp, hbp⟩ : ∃ bp, bp = (E6.bounds es).1 := ⟨_, rfl⟩
  obtain ⟨be, hbe⟩ : ∃ be, be = (E6.bounds es).2 := ⟨_, rfl⟩
  rw [← hbp, ← hbe] at HBo
  have HBp := hide hbp
  have HBe := hide hbe
  clear hR hr hok hbp hbe hc
  go_enter Tryz.func20, Tryz.ntmps20
  go_wp2_with fail
  refine HBo.out.mono ?_
  rintro e w1 ⟨rfl, hb1⟩
  have HB1 := hide hb1
  clear hb1 HBo
  by_cases h0 : be = 0
  · have hne : (be != 0) = false := by simp [h0]
    have hz : (E6.bounds es).2 = 0 := by rw [← HBe.out]; exact h0
    obtain ⟨hlen, hchk⟩ := bounds_zero hz
    rw [HE.out.len] at hlen
    have HGd : Hid (∀ e ∈ es, Gdm (me e) ∧ Eb e.g e.k e.o e.a) := hide (fun e he => gdm_of (hchk e he) (HO.out e he))
    have HRn : Hid (R = ((fr [] (es.map me) 0).1, (fr [] (es.map me) 0).2, 0)) := hide (by rw [HR.out]; unfold frV; rw [if_neg (fun e => e hz)])
    have hl : (n : Int) ≤ 1048576 := by omega
    clear h0 hz hchk HR HBp HBe hlen hn
    go_wp2
    go_loopw [7] (fun i wr => ∃ (j : Nat) (M : CS), j ≤ n ∧ i = .int .i64 j ∧ Rch (Tj es j) M ∧ (R = ((fr (Tj es j) ((es.drop j).map me) j).1, (fr (Tj es j) ((es.drop j).map me) j).2, 0)) ∧ Below w.heap.size w wr) (fun i _ => n - (intOf i).toNat)
    case atStart => exact ⟨0, CS.new, Nat.zero_le _, rfl, by rw [Tj_zero]; exact .new, by rw [Tj_zero, List.drop_zero]; exact HRn.out, HB1.out⟩
    case round =>
      obtain ⟨j, M, hj, rfl, hrch, hRj, hbl⟩ := hrel
      have HBl := hide hbl
      have HRc := hide hrch
      clear hbl hrch HRn
      by_cases hlt : j < n
      · have hjI : (j : Int) < n := by omega
        have hj0 : (0 : Int) ≤ j := by omega
        have hjc : (j : Int) ≤ c := by omega
        have hrr := HE.out.bel HBl.out
        have hcut := (erow_cut hrr hj).bel (Below.refl wr.heap.size wr).drew
        obtain ⟨b, off, e, ha, hej, c0, c1, c2, c3, c4, hs⟩ := hrr.at hlt
        subst ha
        obtain ⟨hgm, heb⟩ := HGd.out e (List.mem_of_getElem? hej)
        have HRe := hide (rreason_any (some ⟨b, off, none⟩) j c (es.take j) wr.drew hcut (by omega) (fun x hx => (HGd.out x (List.mem_of_mem_take hx)).2) hjc HRc.out.mde e.g e.o e.a (.slice e.sa e.ls.length e.sc) e.k heb)
        unfold evC at HRe
        have hdrop : (es.drop j).map me = me e :: (es.drop (j + 1)).map me := by
          obtain ⟨hl', he'⟩ := List.getElem?_eq_some_iff.1 hej
          rw [List.drop_eq_getElem_cons hl', he']
          rfl
        rw [hdrop, fr] at hRj
        have HRj := hide hRj
        obtain ⟨Y, hY⟩ : ∃ Y, Y = rsn (Tj es j) (me e) := ⟨_, rfl⟩
        have HRe2 : Hid (Calls Tryz.prog 42 #[.slice (some ⟨b, off, none⟩) j c, .agg #[.int .i64 e.g, .int .i64 e.k, .int .u64 e.o, .int .u64 e.a, .slice e.sa e.ls.length e.sc]] wr.drew fun e w' => e = .returned (.int .i64 Y) ∧ Below wr.drew.heap.size wr.drew w') := hide (by rw [hY]; exact HRe.out)
        rw [← hY] at HRj
        have HY := hide hY
        have HW := hide (HRc.out.why hgm)
        have HGm := hide hgm
        have HEj := hide hej
        have HBd := hide (HBl.out.trans ((Below.refl wr.heap.size wr).drew.mono HBl.out.size))
        have HSx : Hid (∀ X, Below wr.heap.size wr X → X.cell? ⟨b, off + j * 5, none⟩ = some (.int .i64 e.g) ∧ X.cell? ⟨b, off + j * 5 + 1, none⟩ = some (.int .i64 e.k) ∧ X.cell? ⟨b, off + j * 5 + 2, none⟩ = some (.int .u64 e.o) ∧ X.cell? ⟨b, off + j * 5 + 3, none⟩ = some (.int .u64 e.a) ∧ X.cell? ⟨b, off + j * 5 + 4, none⟩ = some (.slice e.sa e.ls.length e.sc)) := hide (fun X hX => ⟨E6.cell_bel c0 hX, E6.cell_bel c1 hX, E6.cell_bel c2 hX, E6.cell_bel c3 hX, E6.cell_bel c4 hX⟩)
        have HX0 := hide (Below.refl wr.heap.size wr)
        have HX1 := hide ((Below.refl wr.heap.size wr).drew)
        clear hrr hcut hej hgm heb hdrop hRj hY HRe hs
        go_wp2_with fail
        go_region_held3 (fun X => X.cell? ⟨b, off + j * 5, none⟩ = some (.int .i64 e.g) ∧ X.cell? ⟨b, off + j * 5 + 1, none⟩ = some (.int .i64 e.k) ∧ X.cell? ⟨b, off + j * 5 + 2, none⟩ = some (.int .u64 e.o) ∧ X.cell? ⟨b, off + j * 5 + 3, none⟩ = some (.int .u64 e.a) ∧ X.cell? ⟨b, off + j * 5 + 4, none⟩ = some (.slice e.sa e.ls.length e.sc))
          (first | with_reducible exact HSx.out _ HX0.out | with_reducible exact HSx.out _ HX1.out | with_reducible exact HSx.out _ HX7.out)
          (first | (go_at_call 42; go_must (refine HRe2.out.mono ?_; rintro e9 w7 ⟨rfl, h7⟩; have HB7 : Hid (Below w.heap.size w w7) := hide (HBd.out.trans (h7.mono HBd.out.size)); have HX7 : Hid (Below wr.heap.size wr w7) := hide (HX1.out.trans (h7.mono HX1.out.size)); clear h7)))
        clear HRe2 HSx HX0 HX1 HBd c0 c1 c2 c3 c4
        by_cases hY0 : Y = 0
        · have hYb : (Y != 0) = false := by simp [hY0]
          have HRn : Hid (R = ((fr (Tj es (j + 1)) ((es.drop (j + 1)).map me) (j + 1)).1, (fr (Tj es (j + 1)) ((es.drop (j + 1)).map me) (j + 1)).2, 0)) := hide (by rw [HRj.out, if_neg (fun q => q hY0), Tj_succ HEj.out])
          have HRc2 : Hid (Rch (Tj es (j + 1)) (M.next (me e))) := hide (by rw [Tj_succ HEj.out]; exact .step HRc.out HGm.out (by rw [HW.out, ← HY.out]; exact hY0))
          clear hY0 HRj HW HY
          go_wp2
          exact ⟨⟨j + 1, _, by omega, by go_num, HRc2.out, HRn.out, HB7.out⟩, by simp [intOf]; omega⟩
        · have hYb : (Y != 0) = true := by simp [hY0]
          have HRn : Hid (R = ((j : Int), Y, 0)) := hide (by rw [HRj.out, if_pos hY0])
          clear hY0 HRj HW HY
          go_wp2
          go_ret3
          exact ⟨by rw [HRn.out]; rfl, HB7.out⟩
      · have HRn : Hid (R = (-1, 0, 0)) := hide (by rw [hRj, List.drop_eq_nil_of_le (by rw [HE.out.len]; omega)]; rfl)
        clear hRj
        go_wp2
        go_ret3
        exact ⟨by rw [HRn.out]; rfl, HBl.out⟩
  · have hne : (be != 0) = true := by simp [h0]
    have HRn : Hid (R = (bp, 0, be)) := hide (by rw [HR.out]; unfold frV; rw [if_pos (by rw [← HBe.out]; exact h0), HBp.out, HBe.out])
    clear h0
    go_wp2
    go_ret3
    exact ⟨by rw [HRn.out]; rfl, HB1.out⟩
end Go.Proofs.YtafkammiehcdjaaGreatDoor
/-
  CheckRuns.
-/
namespace Go.Proofs.YtafkammiehcdjaaGreatDoor
open Go.RowKit Go.Maps Go.Shelf
set_option linter.unusedVariables false
set_option maxRecDepth 4000 in
set_option maxHeartbeats 1000000 in
theorem sameEvent_any (e f : E6.Ev) (w : World) (ht : e.twin f) (he : E6.SRow w e.sa e.ls.length e.ls) (hf : E6.SRow w f.sa f.ls.length f.ls) (hn : (e.ls.length : Int) ≤ 9223372036854775806) :
    Calls Tryz.prog 43 #[.agg #[.int .i64 f.g, .int .i64 f.k, .int .u64 f.o, .int .u64 f.a, .slice f.sa f.ls.length f.sc], .agg #[.int .i64 e.g, .int .i64 e.k, .int .u64 e.o, .int .u64 e.a, .slice e.sa e.ls.length e.sc]] w fun r w' => r = .returned (.bool true) ∧ Below w.heap.size w w' := by
  obtain ⟨t1, t2, t3, t4, t5⟩ := ht
  rw [t1, t2, t3, t4]
  rw [t5] at hf ⊢
  obtain ⟨W0, hW0⟩ : ∃ W0, W0 = w.alloc (.cells #[.int .i64 e.g, .int .i64 e.k, .int .u64 e.o, .int .u64 e.a, .slice f.sa e.ls.length f.sc] 36) := ⟨_, rfl⟩
  obtain ⟨W, hW⟩ : ∃ W, W = W0.alloc (.cells #[.int .i64 e.g, .int .i64 e.k, .int .u64 e.o, .int .u64 e.a, .slice e.sa e.ls.length e.sc] 36) := ⟨_, rfl⟩
  have hb0 : Below w.heap.size w W0 := by rw [hW0]; exact below_alloc1 w _
  have hb1 : Below W0.heap.size W0 W := by rw [hW]; exact below_alloc1 W0 _
  have hb := hb0.trans (hb1.mono hb0.size)
  have hE0 : W0.heap[w.heap.size]? = some (.cells #[.int .i64 e.g, .int .i64 e.k, .int .u64 e.o, .int .u64 e.a, .slice f.sa e.ls.length f.sc] 36 (0, 0)) := by rw [hW0]; exact heap_new _ _
  have hE1 : W.heap[W0.heap.size]? = some (.cells #[.int .i64 e.g, .int .i64 e.k, .int .u64 e.o, .int .u64 e.a, .slice e.sa e.ls.length e.sc] 36 (0, 0)) := by rw [hW]; exact heap_new _ _
  obtain ⟨q0, q1, q2, q3, q4⟩ := evc0 (g := e.g) (k := e.k) (o := e.o) (a := e.a) hE1
  obtain ⟨z0, z1, z2, z3, z4⟩ := evc0 (g := e.g) (k := e.k) (o := e.o) (a := e.a) hE0
  have hl0 : w.heap.size < W0.heap.size := (Array.getElem?_eq_some_iff.1 hE0).1
  have hl1 : W0.heap.size < W.heap.size := (Array.getElem?_eq_some_iff.1 hE1).1
  have p0 := E6.cell_bel z0 hb1
  have p1 := E6.cell_bel z1 hb1
  have p2 := E6.cell_bel z2 hb1
  have p3 := E6.cell_bel z3 hb1
  have p4 := E6.cell_bel z4 hb1
  have hl2 : w.heap.size < W.heap.size := Nat.lt_trans hl0 hl1
  have HE := hide (E6.SRow.bel he hb)
  have HF := hide (E6.SRow.bel hf hb)
  have HB := hide hb
  have HW := hide (hW.trans (by rw [hW0]))
  have HS0 : Hid (W0.heap.size = w.heap.size + 1) := hide (by rw [hW0]; simp)
  have HC : Hid (∀ X, Below W.heap.size W X → X.cell? ⟨w.heap.size, 4, none⟩ = some (.slice f.sa e.ls.length f.sc) ∧ X.cell? ⟨W0.heap.size, 4, none⟩ = some (.slice e.sa e.ls.length e.sc) ∧ w.heap.size < X.heap.size ∧ W0.heap.size < X.heap.size) := hide (fun X hX => ⟨E6.cell_bel p4 hX, E6.cell_bel q4 hX, Nat.lt_of_lt_of_le hl2 hX.size, Nat.lt_of_lt_of_le hl1 hX.size⟩)
  rw [HS0.out] at q0 q1 q2 q3 q4 hl1 HC
  generalize e.ls.length = m at *
  generalize e.ls = L at *
  clear he hf hb hb0 hb1 hE0 hE1 hW hW0 z0 z1 z2 z3 z4 t1 t2 t3 t4 t5 HS0
  go_enter Tryz.func43, Tryz.ntmps43
  go_wp2_with fail
  rw [← HW.out]
  clear HW
  go_wp2
  clear p0 p1 p2 p3 p4 q0 q1 q2 q3 q4
  go_loopw [5] (fun i wr => ∃ (j : Nat), j ≤ m ∧ i = .int .i64 j ∧ Below W.heap.size W wr) (fun i _ => m - (intOf i).toNat)
  case atStart => exact ⟨0, Nat.zero_le _, rfl, Below.refl _ _⟩
  case round =>
    obtain ⟨j, hj, rfl, hbl⟩ := hrel
    have HBl := hide hbl
    obtain ⟨p4, q4, hx1, hx2⟩ := HC.out wr hbl
    clear hbl
    by_cases hlt : j < m
    · have hjI : (j : Int) < m := by omega
      have hj0 : (0 : Int) ≤ j := by omega
      obtain ⟨b, off, ha, hc⟩ := (E6.SRow.bel HE.out HBl.out).at hlt
      obtain ⟨b', off', ha', hc'⟩ := (E6.SRow.bel HF.out HBl.out).at hlt
      rw [ha] at q4
      rw [ha'] at p4
      generalize L.getD j ByteArray.empty = S at hc hc'
      clear ha ha'
      go_wp2_with fail
      go_quiet (fail)
      go_wp2
      exact ⟨⟨j + 1, by omega, by go_num, below_drewN HBl.out _⟩, by simp [intOf]; omega⟩
    · have h9 : j = m := by omega
      subst h9
      go_wp2
      go_ret
      exact ⟨rfl, HB.out.trans (HBl.out.mono HB.out.size)⟩
set_option maxRecDepth 4000 in
set_option maxHeartbeats 1000000 in
theorem sameTrace_any (a : Option Addr) (n c : Nat) (es : List E6.Ev) (a' : Option Addr) (c' : Nat) (fs : List E6.Ev) (w : World) (hr : E6.ERow w a n es) (hr' : E6.ERow w a' n fs) (ht : E6.Twins es fs) (hok : ∀ e ∈ es, e.ok) (hn : (n : Int) ≤ 9223372036854775806) :
    Calls Tryz.prog 21 #[.slice a' n c', .slice a n c] w fun r w' => r = .returned (.bool true) ∧ Below w.heap.size w w' := by
  have HE := hide hr
  have HF := hide hr'
  have HT := hide ht
  have HO := hide hok
  clear hr hr' ht hok
  go_enter Tryz.func21, Tryz.ntmps21
  go_wp2
  go_loopw [5] (fun i wr => ∃ (j : Nat), j ≤ n ∧ i = .int .i64 j ∧ Below w.heap.size w wr) (fun i _ => n - (intOf i).toNat)
  case atStart => exact ⟨0, Nat.zero_le _, rfl, Below.refl _ _⟩
  case round =>
    obtain ⟨j, hj, rfl, hbl⟩ := hrel
    have HBl := hide hbl
    clear hbl
    by_cases hlt : j < n
    · have hjI : (j : Int) < n := by omega
      obtain ⟨b, off, e, ha, hej, c0, c1, c2, c3, c4, hs⟩ := (HE.out.bel HBl.out).at hlt
      obtain ⟨b', off', f, ha', hfj, d0, d1, d2, d3, d4, hs'⟩ := (HF.out.bel HBl.out).at hlt
      subst ha
      subst ha'
      have HD := hide ((Below.refl wr.heap.size wr).drew)
      have HC := hide (sameEvent_any e f wr.drew (HT.out.get hej hfj) (E6.SRow.bel hs HD.out) (E6.SRow.bel hs' HD.out) (by have := (HO.out e (List.mem_of_getElem? hej)).len; omega))
      have HX0 := hide (Below.refl wr.heap.size wr)
      have HSx : Hid (∀ X, Below wr.heap.size wr X → X.cell? ⟨b, off + j * 5, none⟩ = some (.int .i64 e.g) ∧ X.cell? ⟨b, off + j * 5 + 1, none⟩ = some (.int .i64 e.k) ∧ X.cell? ⟨b, off + j * 5 + 2, none⟩ = some (.int .u64 e.o) ∧ X.cell? ⟨b, off + j * 5 + 3, none⟩ = some (.int .u64 e.a) ∧ X.cell? ⟨b, off + j * 5 + 4, none⟩ = some (.slice e.sa e.ls.length e.sc) ∧ X.cell? ⟨b', off' + j * 5, none⟩ = some (.int .i64 f.g) ∧ X.cell? ⟨b', off' + j * 5 + 1, none⟩ = some (.int .i64 f.k) ∧ X.cell? ⟨b', off' + j * 5 + 2, none⟩ = some (.int .u64 f.o) ∧ X.cell? ⟨b', off' + j * 5 + 3, none⟩ = some (.int .u64 f.a) ∧ X.cell? ⟨b', off' + j * 5 + 4, none⟩ = some (.slice f.sa f.ls.length f.sc)) := hide (fun X hX => ⟨E6.cell_bel c0 hX, E6.cell_bel c1 hX, E6.cell_bel c2 hX, E6.cell_bel c3 hX, E6.cell_bel c4 hX, E6.cell_bel d0 hX, E6.cell_bel d1 hX, E6.cell_bel d2 hX, E6.cell_bel d3 hX, E6.cell_bel d4 hX⟩)
      clear hs hs' hej hfj
      go_wp2_with fail
      go_region_held3 (fun X => X.cell? ⟨b, off + j * 5, none⟩ = some (.int .i64 e.g) ∧ X.cell? ⟨b, off + j * 5 + 1, none⟩ = some (.int .i64 e.k) ∧ X.cell? ⟨b, off + j * 5 + 2, none⟩ = some (.int .u64 e.o) ∧ X.cell? ⟨b, off + j * 5 + 3, none⟩ = some (.int .u64 e.a) ∧ X.cell? ⟨b, off + j * 5 + 4, none⟩ = some (.slice e.sa e.ls.length e.sc) ∧ X.cell? ⟨b', off' + j * 5, none⟩ = some (.int .i64 f.g) ∧ X.cell? ⟨b', off' + j * 5 + 1, none⟩ = some (.int .i64 f.k) ∧ X.cell? ⟨b', off' + j * 5 + 2, none⟩ = some (.int .u64 f.o) ∧ X.cell? ⟨b', off' + j * 5 + 3, none⟩ = some (.int .u64 f.a) ∧ X.cell? ⟨b', off' + j * 5 + 4, none⟩ = some (.slice f.sa f.ls.length f.sc))
        (first | with_reducible exact HSx.out _ HX0.out | with_reducible exact HSx.out _ HD.out | with_reducible exact HSx.out _ HX7.out)
        (first | (go_at_call 43; go_must (refine HC.out.mono ?_; rintro e9 w7 ⟨rfl, h7⟩; have HX7 : Hid (Below wr.heap.size wr w7) := hide (HD.out.trans (h7.mono HD.out.size)); clear h7)))
      have HB3 := hide (HBl.out.trans (HX7.out.mono HBl.out.size))
      clear HC HSx HX0 HD c0 c1 c2 c3 c4 d0 d1 d2 d3 d4
      go_wp2
      exact ⟨⟨j + 1, by omega, by go_num, HB3.out⟩, by simp [intOf]; omega⟩
    · have h9 : j = n := by omega
      subst h9
      go_wp2
      go_ret
      exact ⟨rfl, HBl.out⟩
theorem frV_runV {es : List E6.Ev} (hok : ∀ e ∈ es, e.ok) : frV es = runV es := by
  unfold frV runV
  by_cases h : (E6.bounds es).2 ≠ 0
  · rw [if_pos h, if_pos h]
  · rw [if_neg h, if_neg h]
    have h0 : (E6.bounds es).2 = 0 := by omega
    obtain ⟨_, hchk⟩ := bounds_zero h0
    rw [run_fr es [] CS.new 0 .new fun e he => (gdm_of (hchk e he) (hok e he)).1]
set_option maxRecDepth 4000 in
set_option maxHeartbeats 1000000 in
theorem runs_any (a : Option Addr) (n c : Nat) (es : List E6.Ev) (w : World) (hK : E6.Kr w) (hr : E6.ERow w a n es) (hok : ∀ e ∈ es, e.ok) (hn : n * 56 ≤ 140737488355328) (hc : n ≤ c) (hz : a = none → n = 0 ∧ c = 0) :
    Calls Tryz.prog 6 #[.slice a n c] w fun e w' => e = .returned (.bool true) ∧ Below w.heap.size w w' := by
  have HTw := hide (E6.twin_any a n c es w hr hok hn (fun e => (hz e).2))
  have HK := hide hK
  have HR := hide hr
  have HO := hide hok
  have hnI : (n : Int) ≤ 9223372036854775806 := by omega
  have HNc := hide hc
  have hsz := hK.size
  have HV := hide (frV_runV hok)
  clear hK hr hok hn hz hc
  go_enter Tryz.func6, Tryz.ntmps6
  go_wp2_with fail
  refine HTw.out.mono ?_
  rintro r w1 ⟨fs, v, rfl, htw⟩
  obtain ⟨a', c', rfl, hrow, _⟩ := htw.form
  have HT := hide (htw.twins HR.out.len)
  have HB1 := hide htw.bel
  have HF := hide hrow
  have HRn := hide (Run_any a' n c' fs w1 (HK.out.below HB1.out (by omega)) hrow (htw.ok HO.out) hnI)
  rw [runV_twins HT.out] at HRn
  clear HTw htw hrow
  go_wp2_with fail
  refine HRn.out.mono ?_
  rintro r w2 ⟨rfl, hb2⟩
  have HB2 := hide (Below.on HB1.out hb2)
  have HF2 := hide (HF.out.bel hb2)
  have HRr := hide (rrun_any a n c es w2 (HR.out.bel HB2.out) HO.out hnI HNc.out)
  rw [HV.out] at HRr
  generalize runV es = V at HRr ⊢
  obtain ⟨P, Y, E⟩ := V
  dsimp only at HRr ⊢
  clear HRn hb2 HF HB1 HV
  go_wp2_with fail
  refine HRr.out.mono ?_
  rintro r w3 ⟨rfl, hb3⟩
  have HB3 := hide (Below.on HB2.out hb3)
  have HS := hide (sameTrace_any a n c es a' c' fs w3 (HR.out.bel HB3.out) (HF2.out.bel hb3) HT.out HO.out hnI)
  clear HRr hb3 HB2 HF2
  go_wp2_with fail
  refine HS.out.mono ?_
  rintro r w4 ⟨rfl, hb4⟩
  have HB4 := hide (Below.on HB3.out hb4)
  clear HS hb4
  go_wp2
  go_ret
  exact ⟨rfl, HB4.out⟩
end Go.Proofs.YtafkammiehcdjaaGreatDoor
