import Derived.Test.YtafkammiehcdjaaGreatDoorZa29
import Derived.Test.YtafkammiehcdjaaGreatDoorZa33
import Derived.Test.YtafkammiehcdjaaGreatDoorZa16
import Derived.Test.YtafkammiehcdjaaGreatDoorZa25
import Derived.Laws.OwnMore
import Derived.Test.YtafkammiehcdjaaGreatDoorZa08
import Derived.OneCell
/-
  The document's Reason and Run.
-/
namespace Go.Proofs.YtafkammiehcdjaaGreatDoor
open Go.RowKit Go.Maps
set_option linter.unusedVariables false
set_option linter.unusedSimpArgs false
theorem rlock_any (ad : Option Addr) (n c : Nat) (es : List E6.Ev) (w : World) (hr : E6.ERow w ad n es) (hn : (n : Int) ≤ 1048576) (hg : ∀ e ∈ es, Eb e.g e.k e.o e.a) (hcap : (n : Int) ≤ c) (hm : Mde (es.map me)) (g o a : Int) (s : Value) (k : Int) (he : Eb g k o a) (h1 : 3 ≤ k) (h2 : k ≤ 6) :
    Calls Tryz.prog 103 #[.slice ad n c, .agg (evC g k o a s)] w fun e w' => e = .returned (.int .i64 (ofLk (es.map me) ⟨g, k, o, a⟩)) ∧ Below w.heap.size w w' := by
  have h : k = 3 ∨ k = 4 ∨ k = 5 ∨ k = 6 := by omega
  rcases h with rfl | rfl | rfl | rfl
  · exact rlock_3 ad n c es w hr hn hg hcap hm g o a s he
  · exact rlock_4 ad n c es w hr hn hg hcap hm g o a s he
  · exact rlock_5 ad n c es w hr hn hg hcap hm g o a s he
  · exact rlock_6 ad n c es w hr hn hg hcap hm g o a s he
theorem rgor_any (ad : Option Addr) (n c : Nat) (es : List E6.Ev) (w : World) (hr : E6.ERow w ad n es) (hn : (n : Int) ≤ 1048576) (hg : ∀ e ∈ es, Eb e.g e.k e.o e.a) (hcap : (n : Int) ≤ c) (hm : Mde (es.map me)) (g o a : Int) (s : Value) (k : Int) (he : Eb g k o a) (h1 : 7 ≤ k) (h2 : k ≤ 8) :
    Calls Tryz.prog 104 #[.slice ad n c, .agg (evC g k o a s)] w fun e w' => e = .returned (.int .i64 (ofGr (es.map me) ⟨g, k, o, a⟩)) ∧ Below w.heap.size w w' := by
  have h : k = 7 ∨ k = 8 := by omega
  rcases h with rfl | rfl
  · exact rgor_7 ad n c es w hr hn hg hcap hm g o a s he
  · exact rgor_8 ad n c es w hr hn hg hcap hm g o a s he
theorem rchan_any (ad : Option Addr) (n c : Nat) (es : List E6.Ev) (w : World) (hr : E6.ERow w ad n es) (hn : (n : Int) ≤ 1048576) (hg : ∀ e ∈ es, Eb e.g e.k e.o e.a) (hcap : (n : Int) ≤ c) (hm : Mde (es.map me)) (g o a : Int) (s : Value) (k : Int) (he : Eb g k o a) (h1 : 9 ≤ k) (h2 : k ≤ 13) :
    Calls Tryz.prog 105 #[.slice ad n c, .agg (evC g k o a s)] w fun e w' => e = .returned (.int .i64 (ofCh (es.map me) ⟨g, k, o, a⟩)) ∧ Below w.heap.size w w' := by
  have h : k = 9 ∨ k = 10 ∨ k = 11 ∨ k = 12 ∨ k = 13 := by omega
  rcases h with rfl | rfl | rfl | rfl | rfl
  · exact rchan_9 ad n c es w hr hn hg hcap hm g o a s he
  · exact rchan_10 ad n c es w hr hn hg hcap hm g o a s he
  · exact rchan_11 ad n c es w hr hn hg hcap hm g o a s he
  · exact rchan_12 ad n c es w hr hn hg hcap hm g o a s he
  · exact rchan_13 ad n c es w hr hn hg hcap hm g o a s he
def rest16 (T : List Me) (e : Me) : Int := if 3 ≤ e.k ∧ e.k ≤ 6 then ofLk T e else if e.k = 7 ∨ e.k = 8 then ofGr T e else if 9 ≤ e.k ∧ e.k ≤ 13 then ofCh T e else ofOt T e
theorem rsn_v (T : List Me) (e : Me) : rsn T e = if bgT T e.g = false then 1 else if nmd T 8 e.g = true then 2 else if (dueV T e.g).2.2 = true ∧ (e.k ≠ 11 ∨ e.o ≠ (dueV T e.g).1) then 3 else rest16 T e := by
  unfold rsn dueV rest16
  cases dueT T e.g with
  | none => simp
  | some d => simp
set_option maxRecDepth 4000 in
set_option maxHeartbeats 2000000 in
theorem rreason_any (ad : Option Addr) (n c : Nat) (es : List E6.Ev) (w : World) (hr : E6.ERow w ad n es) (hn : (n : Int) ≤ 1048576) (hg : ∀ e ∈ es, Eb e.g e.k e.o e.a) (hcap : (n : Int) ≤ c) (hm : Mde (es.map me)) (g o a : Int) (s : Value) (k : Int) (he : Eb g k o a) :
    Calls Tryz.prog 42 #[.slice ad n c, .agg (evC g k o a s)] w fun e w' => e = .returned (.int .i64 (rsn (es.map me) ⟨g, k, o, a⟩)) ∧ Below w.heap.size w w' := by
  obtain ⟨W, hW⟩ : ∃ W, W = w.alloc (.cells (evC g k o a s) 36) := ⟨_, rfl⟩
  have hb : Below w.heap.size w W := by rw [hW]; exact below_alloc1 w _
  have hE : W.heap[w.heap.size]? = some (.cells (evC g k o a s) 36 (0, 0)) := by rw [hW]; exact heap_new _ _
  obtain ⟨p0, p1, p2, p3, p4⟩ := evc0 hE
  obtain ⟨R, hR⟩ : ∃ R : Int, R = rsn (es.map me) ⟨g, k, o, a⟩ := ⟨_, rfl⟩
  rw [← hR]
  have HR := hide hR
  have HB := hide hb
  have HW := hide hW
  have HE := hide (hr.bel hb)
  have HG := hide hg
  have HO := hide he
  have HM := hide hm
  have hleW : w.heap.size < W.heap.size := (Array.getElem?_eq_some_iff.1 hE).1
  clear hr hb hW hR hE hg he hm
  unfold evC
  unfold evC at HW
  have HQ1 := hide (rbegun_any ad n c es W HE.out hn g HO.out.ok.g0 HO.out.ok.g1)
  have HQ2 := hide (rjoined_any ad n c es W HE.out hn g HO.out.ok.g0 HO.out.ok.g1)
  have HQ3 := hide (rdue_any ad n c es W HE.out hn hcap HG.out HM.out g)
  have HRr := hide (HR.out.trans (rsn_v (es.map me) ⟨g, k, o, a⟩))
  clear HR
  dsimp only at HRr
  generalize bgT (es.map me) g = A at HQ1 HRr
  generalize nmd (es.map me) 8 g = B at HQ2 HRr
  generalize dueV (es.map me) g = D at HQ3 HRr
  obtain ⟨d1, d2, d3⟩ := D
  dsimp only at HQ3 HRr
  go_enter Tryz.func42, Tryz.ntmps42
  go_wp2_with fail
  rw [← HW.out]
  clear HW
  go_wp2_with fail
  refine HQ1.out.mono ?_
  rintro r w1 ⟨rfl, hw9⟩
  obtain rfl : W = w1 := hw9.symm
  clear HQ1
  cases A with
  | false =>
    have H9 : Hid (R = 1) := hide (by rw [HRr.out]; rfl)
    clear HRr
    go_wp2
    go_ret
    exact ⟨by rw [H9.out]; rfl, HB.out⟩
  | true =>
    go_wp2_with fail
    refine HQ2.out.mono ?_
    rintro r w1 ⟨rfl, hw9⟩
    obtain rfl : W = w1 := hw9.symm
    clear HQ2
    cases B with
    | true =>
      have H9 : Hid (R = 2) := hide (by rw [HRr.out]; rfl)
      clear HRr
      go_wp2
      go_ret
      exact ⟨by rw [H9.out]; rfl, HB.out⟩
    | false =>
      have HRs : Hid (R = if d3 = true ∧ (k ≠ 11 ∨ o ≠ d1) then 3 else rest16 (es.map me) ⟨g, k, o, a⟩) := hide (by rw [HRr.out, if_neg (by decide), if_neg (by decide)])
      clear HRr
      go_wp2_with fail
      refine HQ3.out.mono ?_
      rintro r w2 ⟨rfl, hb2⟩
      have HB2 := hide (HB.out.trans (hb2.mono HB.out.size))
      have HE2 := hide (HE.out.bel hb2)
      have hle2 : w.heap.size < w2.heap.size := Nat.lt_of_lt_of_le hleW hb2.size
      have q0 := E6.cell_bel p0 hb2
      have q1 := E6.cell_bel p1 hb2
      have q2 := E6.cell_bel p2 hb2
      have q3 := E6.cell_bel p3 hb2
      have q4 := E6.cell_bel p4 hb2
      clear HQ3 hb2 p0 p1 p2 p3 p4
      cases d3 with
      | true =>
        by_cases h11 : k = 11
        · have b11 := bne_f h11
          by_cases hoc : o = d1
          · have boc := bne_f hoc
            have HC := hide (rchan_any ad n c es w2 HE2.out hn HG.out hcap HM.out g o a s k HO.out (by omega) (by omega))
            unfold evC at HC
            have H9 : Hid (R = ofCh (es.map me) ⟨g, k, o, a⟩) := hide (by
              rw [HRs.out, if_neg (fun q => q.2.elim (fun z => z h11) (fun z => z hoc))]
              unfold rest16
              dsimp only
              rw [if_neg (by omega), if_neg (by omega), if_pos (by omega)])
            rw [← H9.out] at HC
            clear HRs H9 hoc
            subst h11
            go_wp2_with fail
            refine HC.out.mono ?_
            rintro r w3 ⟨rfl, hb3⟩
            have HB3 := hide (HB2.out.trans (hb3.mono HB2.out.size))
            clear HC hb3
            go_wp2
            go_ret
            exact ⟨rfl, HB3.out⟩
          · have boc := bne_t hoc
            have H9 : Hid (R = 3) := hide (by rw [HRs.out, if_pos (⟨rfl, .inr hoc⟩)])
            clear HRs
            go_wp2
            go_ret
            exact ⟨by rw [H9.out]; rfl, HB2.out⟩
        · have b11 := bne_t h11
          have H9 : Hid (R = 3) := hide (by rw [HRs.out, if_pos (⟨rfl, .inl h11⟩)])
          clear HRs
          go_wp2
          go_ret
          exact ⟨by rw [H9.out]; rfl, HB2.out⟩
      | false =>
        have HRt : Hid (R = rest16 (es.map me) ⟨g, k, o, a⟩) := hide (by rw [HRs.out, if_neg (fun q => by cases q.1)])
        clear HRs
        by_cases h3 : 3 ≤ k
        · have b3 : decide (3 ≤ k) = true := decide_eq_true h3
          by_cases h6 : k ≤ 6
          · have b6 : decide (k ≤ 6) = true := decide_eq_true h6
            have HC := hide (rlock_any ad n c es w2 HE2.out hn HG.out hcap HM.out g o a s k HO.out h3 h6)
            unfold evC at HC
            have H9 := hide (HRt.out.trans (show rest16 (es.map me) ⟨g, k, o, a⟩ = ofLk (es.map me) ⟨g, k, o, a⟩ by unfold rest16; dsimp only; rw [if_pos ⟨h3, h6⟩]))
            clear HRt
            rw [← H9.out] at HC
            go_wp2_with fail
            refine HC.out.mono ?_
            rintro r w3 ⟨rfl, hb3⟩
            have HB3 := hide (HB2.out.trans (hb3.mono HB2.out.size))
            clear HC hb3 H9
            go_wp2
            go_ret
            exact ⟨rfl, HB3.out⟩
          · have b6 : decide (k ≤ 6) = false := decide_eq_false h6
            by_cases h7 : k = 7
            · have b7 := beq_t h7
              have HC := hide (rgor_any ad n c es w2 HE2.out hn HG.out hcap HM.out g o a s k HO.out (by omega) (by omega))
              unfold evC at HC
              have H9 := hide (HRt.out.trans (show rest16 (es.map me) ⟨g, k, o, a⟩ = ofGr (es.map me) ⟨g, k, o, a⟩ by unfold rest16; dsimp only; rw [if_neg (fun q => h6 q.2), if_pos (.inl h7)]))
              clear HRt h7
              rw [← H9.out] at HC
              go_wp2_with fail
              refine HC.out.mono ?_
              rintro r w3 ⟨rfl, hb3⟩
              have HB3 := hide (HB2.out.trans (hb3.mono HB2.out.size))
              clear HC hb3 H9
              go_wp2
              go_ret
              exact ⟨rfl, HB3.out⟩
            · have b7 := beq_f h7
              by_cases h8 : k = 8
              · have b8 := beq_t h8
                have HC := hide (rgor_any ad n c es w2 HE2.out hn HG.out hcap HM.out g o a s k HO.out (by omega) (by omega))
                unfold evC at HC
                have H9 := hide (HRt.out.trans (show rest16 (es.map me) ⟨g, k, o, a⟩ = ofGr (es.map me) ⟨g, k, o, a⟩ by unfold rest16; dsimp only; rw [if_neg (fun q => h6 q.2), if_pos (.inr h8)]))
                clear HRt h8
                rw [← H9.out] at HC
                go_wp2_with fail
                refine HC.out.mono ?_
                rintro r w3 ⟨rfl, hb3⟩
                have HB3 := hide (HB2.out.trans (hb3.mono HB2.out.size))
                clear HC hb3 H9
                go_wp2
                go_ret
                exact ⟨rfl, HB3.out⟩
              · have b8 := beq_f h8
                have b9 : decide (9 ≤ k) = true := decide_eq_true (by omega)
                by_cases h13 : k ≤ 13
                · have b13 : decide (k ≤ 13) = true := decide_eq_true h13
                  have HC := hide (rchan_any ad n c es w2 HE2.out hn HG.out hcap HM.out g o a s k HO.out (by omega) h13)
                  unfold evC at HC
                  have H9 := hide (HRt.out.trans (show rest16 (es.map me) ⟨g, k, o, a⟩ = ofCh (es.map me) ⟨g, k, o, a⟩ by unfold rest16; dsimp only; rw [if_neg (fun q => h6 q.2), if_neg (fun q => q.elim h7 h8), if_pos ⟨by omega, h13⟩]))
                  clear HRt
                  rw [← H9.out] at HC
                  go_wp2_with fail
                  refine HC.out.mono ?_
                  rintro r w3 ⟨rfl, hb3⟩
                  have HB3 := hide (HB2.out.trans (hb3.mono HB2.out.size))
                  clear HC hb3 H9
                  go_wp2
                  go_ret
                  exact ⟨rfl, HB3.out⟩
                · have b13 : decide (k ≤ 13) = false := decide_eq_false h13
                  have HC := hide (rother_any ad n c es w2 HE2.out hn HG.out g o a s k HO.out)
                  unfold evC at HC
                  have H9 := hide (HRt.out.trans (show rest16 (es.map me) ⟨g, k, o, a⟩ = ofOt (es.map me) ⟨g, k, o, a⟩ by unfold rest16; dsimp only; rw [if_neg (fun q => h6 q.2), if_neg (fun q => q.elim h7 h8), if_neg (fun q => h13 q.2)]))
                  clear HRt
                  rw [← H9.out] at HC
                  go_wp2_with fail
                  refine HC.out.mono ?_
                  rintro r w3 ⟨rfl, hb3⟩
                  have HB3 := hide (HB2.out.trans (hb3.mono HB2.out.size))
                  clear HC hb3 H9
                  go_wp2
                  go_ret
                  exact ⟨rfl, HB3.out⟩
        · have b3 : decide (3 ≤ k) = false := decide_eq_false h3
          have b9 : decide (9 ≤ k) = false := decide_eq_false (by omega)
          have b7 : (k == 7) = false := beq_f (by omega)
          have b8 : (k == 8) = false := beq_f (by omega)
          have HC := hide (rother_any ad n c es w2 HE2.out hn HG.out g o a s k HO.out)
          unfold evC at HC
          have H9 := hide (HRt.out.trans (show rest16 (es.map me) ⟨g, k, o, a⟩ = ofOt (es.map me) ⟨g, k, o, a⟩ by unfold rest16; dsimp only; rw [if_neg (fun q => h3 q.1), if_neg (by omega), if_neg (by omega)]))
          clear HRt
          rw [← H9.out] at HC
          go_wp2_with fail
          refine HC.out.mono ?_
          rintro r w3 ⟨rfl, hb3⟩
          have HB3 := hide (HB2.out.trans (hb3.mono HB2.out.size))
          clear HC hb3 H9
          go_wp2
          go_ret
          exact ⟨rfl, HB3.out⟩
theorem fr_zero {T es : List Me} {i : Nat} : fr T es i = (-1, 0) ∨ (i : Int) ≤ (fr T es i).1 := by
  induction es generalizing T i with
  | nil => exact .inl rfl
  | cons e es ih =>
    rw [fr]
    split
    · exact .inr (Int.le_refl _)
    · rcases ih (T := T ++ [e]) (i := i + 1) with h | h
      · exact .inl h
      · exact .inr (by omega)
noncomputable def frV (es : List E6.Ev) : Int × Int × Int := if (E6.bounds es).2 ≠ 0 then ((E6.bounds es).1, 0, (E6.bounds es).2) else ((fr [] (es.map me) 0).1, (fr [] (es.map me) 0).2, 0)
set_option maxRecDepth 8000 in
set_option maxHeartbeats 2000000 in
theorem rrun_any (ad : Option Addr) (n c : Nat) (es : List E6.Ev) (w : World) (hr : E6.ERow w ad n es) (hok : ∀ e ∈ es, e.ok) (hn : (n : Int) ≤ 9223372036854775806) (hc : n ≤ c) :
    Calls Tryz.prog 20 #[.slice ad n c] w fun r w' => r = .returned (.tuple #[.int .i64 (frV es).1, .int .i64 (frV es).2.1, .int .i64 (frV es).2.2]) ∧ Below w.heap.size w w' := by
  obtain ⟨R, hR⟩ : ∃ R, R = frV es := ⟨_, rfl⟩
  rw [← hR]
  have HR := hide hR
  have HBo := hide (E6.rbounds_any ad n c es w hr hok hn)
  have HE := hide hr
  have HO := hide hok
  have hcI : (n : Int) ≤ c := by omega
  obtain ⟨bp, hbp⟩ : ∃ bp, bp = (E6.bounds es).1 := ⟨_, rfl⟩
  obtain ⟨be, hbe⟩ : ∃ be, be = (E6.bounds es).2 := ⟨_, rfl⟩
  rw [← hbp, ← hbe] at HBo
  have HBp := hide hbp
  have HBe := hide hbe
  clear hR hr hok hbp hbe hc
  go_enter Tryz.func20, Tryz.ntmps20
  go_wp2_with fail
  refine HBo.out.mono ?_
  rintro e w1 ⟨rfl, hb1⟩
  have HB1 := hide hb1
  clear hb1 HBo
  by_cases h0 : be = 0
  · have hne : (be != 0) = false := by simp [h0]
    have hz : (E6.bounds es).2 = 0 := by rw [← HBe.out]; exact h0
    obtain ⟨hlen, hchk⟩ := bounds_zero hz
    rw [HE.out.len] at hlen
    have HGd : Hid (∀ e ∈ es, Gdm (me e) ∧ Eb e.g e.k e.o e.a) := hide (fun e he => gdm_of (hchk e he) (HO.out e he))
    have HRn : Hid (R = ((fr [] (es.map me) 0).1, (fr [] (es.map me) 0).2, 0)) := hide (by rw [HR.out]; unfold frV; rw [if_neg (fun e => e hz)])
    have hl : (n : Int) ≤ 1048576 := by omega
    clear h0 hz hchk HR HBp HBe hlen hn
    go_wp2
    go_loopw [7] (fun i wr => ∃ (j : Nat) (M : CS), j ≤ n ∧ i = .int .i64 j ∧ Rch (Tj es j) M ∧ (R = ((fr (Tj es j) ((es.drop j).map me) j).1, (fr (Tj es j) ((es.drop j).map me) j).2, 0)) ∧ Below w.heap.size w wr) (fun i _ => n - (intOf i).toNat)
    case atStart => exact ⟨0, CS.new, Nat.zero_le _, rfl, by rw [Tj_zero]; exact .new, by rw [Tj_zero, List.drop_zero]; exact HRn.out, HB1.out⟩
    case round =>
      obtain ⟨j, M, hj, rfl, hrch, hRj, hbl⟩ := hrel
      have HBl := hide hbl
      have HRc := hide hrch
      clear hbl hrch HRn
      by_cases hlt : j < n
      · have hjI : (j : Int) < n := by omega
        have hj0 : (0 : Int) ≤ j := by omega
        have hjc : (j : Int) ≤ c := by omega
        have hrr := HE.out.bel HBl.out
        have hcut := (erow_cut hrr hj).bel (Below.refl wr.heap.size wr).drew
        obtain ⟨b, off, e, ha, hej, c0, c1, c2, c3, c4, hs⟩ := hrr.at hlt
        subst ha
        obtain ⟨hgm, heb⟩ := HGd.out e (List.mem_of_getElem? hej)
        have HRe := hide (rreason_any (some ⟨b, off, none⟩) j c (es.take j) wr.drew hcut (by omega) (fun x hx => (HGd.out x (List.mem_of_mem_take hx)).2) hjc HRc.out.mde e.g e.o e.a (.slice e.sa e.ls.length e.sc) e.k heb)
        unfold evC at HRe
        have hdrop : (es.drop j).map me = me e :: (es.drop (j + 1)).map me := by
          obtain ⟨hl', he'⟩ := List.getElem?_eq_some_iff.1 hej
          rw [List.drop_eq_getElem_cons hl', he']
          rfl
        rw [hdrop, fr] at hRj
        have HRj := hide hRj
        obtain ⟨Y, hY⟩ : ∃ Y, Y = rsn (Tj es j) (me e) := ⟨_, rfl⟩
        have HRe2 : Hid (Calls Tryz.prog 42 #[.slice (some ⟨b, off, none⟩) j c, .agg #[.int .i64 e.g, .int .i64 e.k, .int .u64 e.o, .int .u64 e.a, .slice e.sa e.ls.length e.sc]] wr.drew fun e w' => e = .returned (.int .i64 Y) ∧ Below wr.drew.heap.size wr.drew w') := hide (by rw [hY]; exact HRe.out)
        rw [← hY] at HRj
        have HY := hide hY
        have HW := hide (HRc.out.why hgm)
        have HGm := hide hgm
        have HEj := hide hej
        have HBd := hide (HBl.out.trans ((Below.refl wr.heap.size wr).drew.mono HBl.out.size))
        have HSx : Hid (∀ X, Below wr.heap.size wr X → X.cell? ⟨b, off + j * 5, none⟩ = some (.int .i64 e.g) ∧ X.cell? ⟨b, off + j * 5 + 1, none⟩ = some (.int .i64 e.k) ∧ X.cell? ⟨b, off + j * 5 + 2, none⟩ = some (.int .u64 e.o) ∧ X.cell? ⟨b, off + j * 5 + 3, none⟩ = some (.int .u64 e.a) ∧ X.cell? ⟨b, off + j * 5 + 4, none⟩ = some (.slice e.sa e.ls.length e.sc)) := hide (fun X hX => ⟨E6.cell_bel c0 hX, E6.cell_bel c1 hX, E6.cell_bel c2 hX, E6.cell_bel c3 hX, E6.cell_bel c4 hX⟩)
        have HX0 := hide (Below.refl wr.heap.size wr)
        have HX1 := hide ((Below.refl wr.heap.size wr).drew)
        clear hrr hcut hej hgm heb hdrop hRj hY HRe hs
        go_wp2_with fail
        go_region_held3 (fun X => X.cell? ⟨b, off + j * 5, none⟩ = some (.int .i64 e.g) ∧ X.cell? ⟨b, off + j * 5 + 1, none⟩ = some (.int .i64 e.k) ∧ X.cell? ⟨b, off + j * 5 + 2, none⟩ = some (.int .u64 e.o) ∧ X.cell? ⟨b, off + j * 5 + 3, none⟩ = some (.int .u64 e.a) ∧ X.cell? ⟨b, off + j * 5 + 4, none⟩ = some (.slice e.sa e.ls.length e.sc))
          (first | with_reducible exact HSx.out _ HX0.out | with_reducible exact HSx.out _ HX1.out | with_reducible exact HSx.out _ HX7.out)
          (first | (go_at_call 42; go_must (refine HRe2.out.mono ?_; rintro e9 w7 ⟨rfl, h7⟩; have HB7 : Hid (Below w.heap.size w w7) := hide (HBd.out.trans (h7.mono HBd.out.size)); have HX7 : Hid (Below wr.heap.size wr w7) := hide (HX1.out.trans (h7.mono HX1.out.size)); clear h7)))
        clear HRe2 HSx HX0 HX1 HBd c0 c1 c2 c3 c4
        by_cases hY0 : Y = 0
        · have hYb : (Y != 0) = false := by simp [hY0]
          have HRn : Hid (R = ((fr (Tj es (j + 1)) ((es.drop (j + 1)).map me) (j + 1)).1, (fr (Tj es (j + 1)) ((es.drop (j + 1)).map me) (j + 1)).2, 0)) := hide (by rw [HRj.out, if_neg (fun q => q hY0), Tj_succ HEj.out])
          have HRc2 : Hid (Rch (Tj es (j + 1)) (M.next (me e))) := hide (by rw [Tj_succ HEj.out]; exact .step HRc.out HGm.out (by rw [HW.out, ← HY.out]; exact hY0))
          clear hY0 HRj HW HY
          go_wp2
          exact ⟨⟨j + 1, _, by omega, by go_num, HRc2.out, HRn.out, HB7.out⟩, by simp [intOf]; omega⟩
        · have hYb : (Y != 0) = true := by simp [hY0]
          have HRn : Hid (R = ((j : Int), Y, 0)) := hide (by rw [HRj.out, if_pos hY0])
          clear hY0 HRj HW HY
          go_wp2
          go_ret3
          exact ⟨by rw [HRn.out]; rfl, HB7.out⟩
      · have HRn : Hid (R = (-1, 0, 0)) := hide (by rw [hRj, List.drop_eq_nil_of_le (by rw [HE.out.len]; omega)]; rfl)
        clear hRj
        go_wp2
        go_ret3
        exact ⟨by rw [HRn.out]; rfl, HBl.out⟩
  · have hne : (be != 0) = true := by simp [h0]
    have HRn : Hid (R = (bp, 0, be)) := hide (by rw [HR.out]; unfold frV; rw [if_pos (by rw [← HBe.out]; exact h0), HBp.out, HBe.out])
    clear h0
    go_wp2
    go_ret3
    exact ⟨by rw [HRn.out]; rfl, HB1.out⟩
end Go.Proofs.YtafkammiehcdjaaGreatDoor
/-
  The keys of entries, as a list of their own.
-/
namespace Go.Proofs.YtafkammiehcdjaaGreatDoor
open Go.RowKit Go.Maps
set_option linter.unusedVariables false
def layU : Lay Int := ⟨fun x => [.int .u64 x], 1, by decide, fun _ => rfl, by intro a u hu; simp at hu; subst hu; rfl⟩
def layI : Lay Int := ⟨fun x => [.int .i64 x], 1, by decide, fun _ => rfl, by intro a u hu; simp at hu; subst hu; rfl⟩
def layBo : Lay Bool := ⟨fun x => [.bool x], 1, by decide, fun _ => rfl, by intro a u hu; simp at hu; subst hu; rfl⟩
theorem Tryz.infoU : (Tryz.prog.info? 33).map (fun i => (i.zero, i.size, i.bytes)) = some (some (.int .u64 0), 1, 8) := by kernel_rfl
theorem Tryz.infoI : (Tryz.prog.info? 3).map (fun i => (i.zero, i.size, i.bytes)) = some (some (.int .i64 0), 1, 8) := by kernel_rfl
theorem Tryz.infoBo : (Tryz.prog.info? 4).map (fun i => (i.zero, i.size, i.bytes)) = some (some (.bool false), 1, 1) := by kernel_rfl
/-- Keys so far. -/
structure KI (w wr : World) (v : Value) (K : List Int) : Prop where
  own : Own layU 33 wr w.heap.size v K
  bel : Below w.heap.size w wr
section
variable {w wr w' : World} {v : Value} {K : List Int}
theorem KI.on (h : KI w wr v K) (hb : Below wr.heap.size wr w') : KI w w' v K := ⟨h.own.below hb, h.bel.trans (hb.mono h.bel.size)⟩
theorem KI.push {v' : Value} {x : Int} (h : KI w wr v K) (ho : Own layU 33 w' w.heap.size v' (K ++ [x])) (hg : wr.grownBy w' v.ownBlock) : KI w w' v' (K ++ [x]) :=
  ⟨ho, h.bel.trans (((But.refl (fun k => w.heap.size ≤ k) _).grown hg (fun k _ e => (h.own.lt k e).1)).below h.bel.size (fun k e => e))⟩
theorem KI.nil (w : World) : KI w w (.slice none 0 0) [] := ⟨Own.nil _ _ _ _, Below.refl _ _⟩
end
theorem flat_take {ps : List Pc} {i : Nat} {p : Pc} (h : ps[i]? = some p) : (esOf (ps.take (i + 1))).flatten = (esOf (ps.take i)).flatten ++ p.es := by
  obtain ⟨hl, h9⟩ := List.getElem?_eq_some_iff.1 h
  unfold esOf
  rw [List.take_succ_eq_append_getElem hl, h9, List.map_append, List.flatten_append]
  simp
theorem key_take {es : List Ent} {j : Nat} {x : Ent} (h : es[j]? = some x) : (es.take (j + 1)).map (·.1) = (es.take j).map (·.1) ++ [x.1] := by
  obtain ⟨hl, h9⟩ := List.getElem?_eq_some_iff.1 h
  rw [List.take_succ_eq_append_getElem hl, h9, List.map_append]
  rfl
theorem flat_le {ps : List Pc} {i : Nat} {p : Pc} (h : ps[i]? = some p) (j : Nat) : (esOf (ps.take i)).flatten.length + (p.es.take j).length ≤ (esOf ps).flatten.length := by
  obtain ⟨hl, h9⟩ := List.getElem?_eq_some_iff.1 h
  have e : (esOf ps).flatten = (esOf (ps.take i)).flatten ++ (p.es ++ (esOf (ps.drop (i + 1))).flatten) := by
    conv => lhs; rw [← List.take_append_drop i ps]
    unfold esOf
    rw [List.map_append, List.flatten_append, List.drop_eq_getElem_cons hl, h9]
    simp
  rw [e, List.length_append, List.length_append]
  have := (List.take_sublist j p.es).length_le
  omega
set_option maxRecDepth 8000 in
set_option maxHeartbeats 4000000 in
theorem keys_any {w : World} {P : Nat → Prop} {v : Value} {L : List Ent} {b off : Nat} (hc : w.cell? ⟨b, off, none⟩ = some v) (h : Rise w P v L) :
    Calls Tryz.prog 95 #[.pointer (some ⟨b, off, none⟩)] w fun e w' => ∃ v', e = .returned v' ∧ KI w w' v' (L.map (·.1)) := by
  obtain ⟨ps, hp, hs, hfl⟩ := h.ex
  have hfew := h.few
  obtain ⟨i0, hi, hz0, hz1, hz2⟩ := info_parts Tryz.infoU
  obtain ⟨a, c, hv, ha0, hcap⟩ := own_form hp.own
  obtain ⟨n, hn⟩ : ∃ n, ps.length = n := ⟨_, rfl⟩
  rw [hn] at hv ha0 hcap
  subst hv
  have hnl : (n : Int) ≤ 2000000 := by have := pcs_len hs; rw [hfl, hn] at this; omega
  have HP := hide hp
  have HN := hide hn
  have HFl := hide hfl
  have HFw := hide hfew
  have HSm := hide hs
  have hblt := World.block_lt_of_cell? w _ hc
  clear h hp hs hfl hfew hn ha0 hcap
  go_enter Tryz.func95, Tryz.ntmps95
  go_wp2
  go_loopw [3, 13] (fun kv iv wr => ∃ (i' : Nat), i' ≤ n ∧ iv = .int .i64 i' ∧ Hid (KI w wr kv ((esOf (ps.take i')).flatten.map (·.1)))) (fun _ i _ => n - (intOf i).toNat)
  case atStart => exact ⟨0, Nat.zero_le _, rfl, hide (by simpa using KI.nil w)⟩
  case round =>
    obtain ⟨i, hin, rfl, HK⟩ := hrel
    by_cases hlt : i < n
    · have hltI : (i : Int) < n := by omega
      obtain ⟨p, hpi⟩ : ∃ p, ps[i]? = some p := ⟨_, List.getElem?_eq_getElem (by rw [HN.out]; exact hlt)⟩
      have hPr := HP.out.below HK.out.bel
      have hrow := hPr.own.row (n := n) HN.out
      obtain ⟨g0, c0, hv0, _, _, _⟩ := hPr.own.frm (by rw [HN.out]; omega)
      rw [HN.out] at hv0
      cases hv0
      have q0 := hPr.own.cell hpi 0 rfl
      have hpm := List.mem_of_getElem? hpi
      have hpe := HSm.out p hpm
      obtain ⟨m, hm⟩ : ∃ m, p.es.length = m := ⟨_, rfl⟩
      have hm5 : (m : Int) ≤ 512 := by have := hpe.2; omega
      have HPe := hide (HP.out.each p hpm)
      have HFT := hide (flat_take hpi)
      have HFL := hide (flat_le hpi)
      have HM := hide hm
      have q0' : wr.cell? ⟨g0, i, none⟩ = some (.slice p.a m p.c) := by
        have h1 : wr.cell? ⟨g0, i * 1 + 0, none⟩ = some (.slice p.a p.es.length p.c) := q0
        rw [hm, Nat.mul_one, Nat.add_zero] at h1
        exact h1
      have hm0 : 0 < m := by
        rw [← hm]
        cases he : p.es with
        | nil => exact absurd he hpe.1
        | cons _ _ => simp
      clear hPr hrow q0 hpm hpe hpi hm
      go_wp2
      go_loopw [3, 19] (fun kv2 jv wq => ∃ (j' : Nat), j' ≤ m ∧ jv = .int .i64 j' ∧ Hid (KI w wq kv2 ((esOf (ps.take i)).flatten.map (·.1) ++ (p.es.take j').map (·.1)))) (fun _ j _ => m - (intOf j).toNat)
      case atStart => exact ⟨0, Nat.zero_le _, rfl, hide (by simpa using HK.out)⟩
      case round =>
        obtain ⟨j, hjm, rfl, HK2⟩ := hrel
        by_cases hltj : j < m
        · have hltJ : (j : Int) < m := by omega
          obtain ⟨x, hx⟩ : ∃ x, p.es[j]? = some x := ⟨_, List.getElem?_eq_getElem (by rw [HM.out]; exact hltj)⟩
          have hPe := HPe.out.below HK2.out.bel
          obtain ⟨g1, c1, hv1, _, _, _⟩ := hPe.frm (by rw [HM.out]; omega)
          have hpa : p.a = some ⟨g1, 0, none⟩ := by
            have h1 : Value.slice p.a p.es.length p.c = .slice (some ⟨g1, 0, none⟩) p.es.length c1 := hv1
            cases p
            cases h1
            rfl
          have hPe2 : Own layN 148 wr 0 (.slice (some ⟨g1, 0, none⟩) p.es.length p.c) p.es := by rw [← hpa]; exact hPe
          have r0 : wr.cell? ⟨g1, j * 2, none⟩ = some (.int .u64 x.1) := hPe2.cell hx 0 rfl
          have r1 : wr.cell? ⟨g1, j * 2 + 1, none⟩ = some (.int .u64 x.2) := hPe2.cell hx 1 rfl
          have HKt := hide (key_take hx)
          have HLe := hide (HFL.out j)
          rw [hpa]
          clear hPe hPe2 hv1 hx hpa
          generalize hKK : (esOf (ps.take i)).flatten.map (·.1) ++ (p.es.take j).map (·.1) = KK at HK2
          have HKL : Hid (KK.length + 1 ≤ 2000001) := hide (by
            rw [← hKK, List.length_append, List.length_map, List.length_map]
            have h1 := HLe.out
            have h2 := HFw.out
            rw [HFl.out] at h1
            omega)
          obtain ⟨W1, hW1⟩ : ∃ W1, W1 = wr.alloc (.cells #[.int .u64 x.1, .int .u64 x.2] 148) := ⟨_, rfl⟩
          have hb1 : Below wr.heap.size wr W1 := by rw [hW1]; exact below_alloc1 _ _
          have HK3 := hide ((HK2.out.on hb1).on (below_alloc1 W1 (.cells #[.int .u64 x.1] 33)))
          have HT := hide (TRow.one (y := layU) (w := W1.alloc (.cells #[.int .u64 x.1] 33)) (B := W1.heap.size) (x := x.1) (heap_new W1 (.cells #[.int .u64 x.1] 33)))
          have HKK := hide hKK
          rw [show W1.heap.size = wr.heap.size + 1 by rw [hW1, World.size_alloc]] at HT
          rw [hW1] at HK3 HT
          clear hb1 hW1 hKK
          go_wp2_with (at_builtin; refine append_lay layU _ 85 33 i0 _ 8 Tryz.underlying85 hi hz0 hz1 hz2 rfl rfl _ _ rfl w.heap.size _ KK rfl HK3.out.own _ 1 1 [x.1] rfl HT.out (fun e => by cases e) ?b1 ?b2 HK3.out.bel.size ?_)
          case b1 => unfold maxLen; have := HKL.out; omega
          case b2 => have := HKL.out; omega
          intro v' w' o1 g1 l1
          have HK4 : Hid (KI w w' v' ((esOf (ps.take i)).flatten.map (·.1) ++ (p.es.take (j + 1)).map (·.1))) := hide (by
            rw [HKt.out, ← List.append_assoc, HKK.out]
            exact HK3.out.push o1 g1)
          clear o1 g1 l1
          go_wp2
          exact ⟨⟨j + 1, by omega, by go_num, HK4⟩, by simp [intOf]; omega⟩
        · have h9 : j = m := by omega
          subst h9
          have HK5 : Hid (KI w wr _ ((esOf (ps.take (i + 1))).flatten.map (·.1))) := hide (by
            have h1 := HK2.out
            rw [← HM.out, List.take_length, ← List.map_append, ← HFT.out] at h1
            exact h1)
          go_wp2
          exact ⟨⟨i + 1, by omega, by go_num, HK5⟩, by simp [intOf]; omega⟩
    · have h9 : i = n := by omega
      subst h9
      have HK5 : Hid (KI w wr _ (L.map (·.1))) := hide (by
        have h1 := HK.out
        rw [← HN.out, List.take_length, HFl.out] at h1
        exact h1)
      go_wp2
      go_ret
      exact ⟨_, rfl, HK5.out⟩
end Go.Proofs.YtafkammiehcdjaaGreatDoor
/-
  Held.
-/
namespace Go.Proofs.YtafkammiehcdjaaGreatDoor
open Go.RowKit Go.Maps
set_option linter.unusedVariables false
def heldK (M : CS) (x : Int) : List Int := match M.gs x with
  | none => []
  | some r => r.held.map (·.1)
/-- Lists of locks and of bools of one's own. -/
structure Hl (w wr : World) (v1 v2 : Value) (K : List Int) (D : List Bool) : Prop where
  ok : Own layU 33 wr w.heap.size v1 K
  od : Own layBo 4 wr w.heap.size v2 D
  bel : Below w.heap.size w wr
theorem made_bools (w : World) (base n : Nat) (hb : base ≤ w.heap.size) (hn : n ≤ 4000000) : ∃ w', (Instr.makeSlice 86 (.int .i64 (n : Int)) (.int .i64 (n : Int))).run Tryz.prog w = .ok (.slice (some ⟨w.heap.size, 0, none⟩) n n) w' ∧ Own layBo 4 w' base (.slice (some ⟨w.heap.size, 0, none⟩) n n) (List.replicate n false) ∧ w.grownBy w' none := by
  obtain ⟨i0, hi, hz0, hz1, hz2⟩ := info_parts Tryz.infoBo
  obtain ⟨w', h1, h2, h3⟩ := run_make_full (P := Tryz.prog) w base 86 4 i0 (.bool false) 1 Tryz.underlying86 hi hz0 hz1 .i64 .i64 n (by rw [hz2]; omega) (by unfold maxLen; omega) hb
  refine ⟨w', h1, ?_, h3⟩
  unfold Own
  have e : (madeCells (Value.bool false).cells (n * 1)).toList = layBo.fl (List.replicate n false) := by
    rw [Nat.mul_one, show (Value.bool false).cells = #[Value.bool false] from rfl, toList_madeCells_one]
    clear h1 h2 hn
    induction n with
    | zero => rfl
    | succ n ih => rw [List.replicate_succ, List.replicate_succ, layBo.fl_cons, ih]; rfl
  rw [e] at h2
  rw [List.length_replicate]
  exact h2
section
variable {w wr w' : World} {cb : Nat} {B : Bl} {F : Nat → Option Lb} {M : CS} {N : Nat}
theorem Hl.on {v1 v2 : Value} {K : List Int} {D : List Bool} (h : Hl w wr v1 v2 K D) (hb : Below wr.heap.size wr w') : Hl w w' v1 v2 K D := ⟨h.ok.below hb, h.od.below hb, h.bel.trans (hb.mono h.bel.size)⟩
theorem held_none (h : Ck w cb B F M N) (hi : M.inv) (x : Int) (h0 : -9223372036854775808 ≤ x) (h1 : x ≤ 9223372036854775807) (hg : M.gs x = none) :
    Calls Tryz.prog 40 #[gPtr cb, .int .i64 x] w fun e w' => ∃ v1 v2, e = .returned (.tuple #[v1, v2]) ∧ Hl w w' v1 v2 (heldK M x) ((heldK M x).map M.toWrite) := by
  obtain ⟨r0, hr0⟩ := hi.g0
  have HMi := hide (missing_any h hr0)
  unfold gPtr at HMi
  have hl := h.lkG h0 h1
  unfold gAd at hl
  rw [hg] at hl
  dsimp only at hl
  have t1 := h.c1
  have hlt := h.clt
  have HK : Hid (heldK M x = []) := hide (by unfold heldK; rw [hg])
  clear h hi hr0 hg
  unfold gPtr
  go_enter Tryz.func40, Tryz.ntmps40
  go_wp2_with fail
  refine HMi.out.mono ?_
  rintro r w1 ⟨rfl, hw⟩
  obtain rfl : w = w1 := hw.symm
  clear HMi
  go_wp2
  go_ret2
  exact ⟨_, _, rfl, by rw [HK.out]; exact ⟨Own.nil _ _ _ _, Own.nil _ _ _ _, Below.refl _ _⟩⟩
theorem set_next {K : List Int} {j n : Nat} {x : Int} (f : Int → Bool) (hx : K[j]? = some x) (hn : K.length = n) : ((K.take j).map f ++ List.replicate (n - j) false).set j (f x) = (K.take (j + 1)).map f ++ List.replicate (n - (j + 1)) false := by
  obtain ⟨hl, h9⟩ := List.getElem?_eq_some_iff.1 hx
  have e1 : ((K.take j).map f).length = j := by rw [List.length_map, List.length_take]; omega
  have e2 : n - j = (n - (j + 1)) + 1 := by omega
  rw [List.set_append_right _ _ (by omega), e1, Nat.sub_self, e2, List.replicate_succ, List.set_cons_zero, List.take_succ_eq_append_getElem hl, h9, List.map_append, List.append_assoc]
  rfl
set_option maxRecDepth 8000 in
set_option maxHeartbeats 4000000 in
theorem held_some (h : Ck w cb B F M N) (hi : M.inv) (x : Int) (h0 : -9223372036854775808 ≤ x) (h1 : x ≤ 9223372036854775807) {r : Gor} (hg : M.gs x = some r) (hu : ∀ p ∈ r.held, 0 ≤ p.1 ∧ p.1 ≤ 18446744073709551615) :
    Calls Tryz.prog 40 #[gPtr cb, .int .i64 x] w fun e w' => ∃ v1 v2, e = .returned (.tuple #[v1, v2]) ∧ Hl w w' v1 v2 (heldK M x) ((heldK M x).map M.toWrite) := by
  obtain ⟨r0, hr0⟩ := hi.g0
  have HMi := hide (missing_any h hr0)
  unfold gPtr at HMi
  have hl := h.lkG h0 h1
  unfold gAd at hl
  rw [hg] at hl
  dsimp only at hl
  have t1 := h.c1
  have hlt := h.clt
  obtain ⟨hgF, hgH⟩ := h.gor x r hg nf
  have hRi := h.he x r hg nf
  have q0 : w.cell? ⟨B.gb x, 0, none⟩ = some (B.gv x) := cell_at hgH rfl
  have hglt := lt_of_heap hgH
  have HKy := hide (keys_any q0 hRi)
  obtain ⟨K, hK⟩ : ∃ K, r.held.map (·.1) = K := ⟨_, rfl⟩
  have HK : Hid (heldK M x = K) := hide (by unfold heldK; rw [hg, ← hK])
  obtain ⟨n, hn⟩ : ∃ n, K.length = n := ⟨_, rfl⟩
  have hn2 : (n : Int) ≤ 2000000 := by have := hRi.few; rw [← hn, ← hK, List.length_map]; exact this
  have HU : Hid (∀ y ∈ K, 0 ≤ y ∧ y ≤ 18446744073709551615) := hide (fun y hy => by
    rw [← hK] at hy
    obtain ⟨p, hp, rfl⟩ := List.mem_map.1 hy
    exact hu p hp)
  rw [hK] at HKy
  have HN := hide hn
  have HC := hide h
  clear h hi hr0 hg hgF hgH hRi hK hn hu
  unfold gPtr
  rw [HK.out]
  go_enter Tryz.func40, Tryz.ntmps40
  go_wp2_with fail
  refine HMi.out.mono ?_
  rintro z w1 ⟨rfl, hw⟩
  obtain rfl : w = w1 := hw.symm
  clear HMi
  go_wp2_with fail
  refine HKy.out.mono ?_
  rintro z w2 ⟨v1, rfl, hk2⟩
  obtain ⟨a1, c1, hv1, hz1, hc1⟩ := own_form hk2.own
  rw [HN.out] at hv1 hz1 hc1
  subst hv1
  have HK2 := hide hk2
  obtain ⟨w3, hm1, hm2, hm3⟩ := made_bools w2 w.heap.size n hk2.bel.size (by omega)
  have hb3 : Below w2.heap.size w2 w3 := ⟨hm3.os, hm3.tape, hm3.output, hm3.size, fun k hk => hm3.block k hk (by simp)⟩
  have HH : Hid (Hl w w3 (.slice a1 n c1) (.slice (some ⟨w2.heap.size, 0, none⟩) n n) K ((K.take 0).map M.toWrite ++ List.replicate (n - 0) false)) := hide ⟨hk2.own.below hb3, by simpa using hm2, hk2.bel.trans (hb3.mono hk2.bel.size)⟩
  generalize w2.heap.size = gb at HH hm1
  clear hk2 hm2 hm3 hb3 HKy hl t1 q0 hlt hglt
  go_wp2
  go_loopw [35] (fun i wr => ∃ (j : Nat), j ≤ n ∧ i = .int .i64 j ∧ Hid (Hl w wr (.slice a1 n c1) (.slice (some ⟨gb, 0, none⟩) n n) K ((K.take j).map M.toWrite ++ List.replicate (n - j) false))) (fun i _ => n - (intOf i).toNat)
  case atStart => exact ⟨0, Nat.zero_le _, rfl, HH⟩
  case round =>
    obtain ⟨j, hj, rfl, HJ⟩ := hrel
    clear HH hm1
    by_cases hlj : j < n
    · have hjI : (j : Int) < n := by omega
      obtain ⟨y, hy⟩ : ∃ y, K[j]? = some y := ⟨_, List.getElem?_eq_getElem (by rw [HN.out]; exact hlj)⟩
      obtain ⟨g1, c1', hv1, _, _, _⟩ := HJ.out.ok.frm (by rw [HN.out]; omega)
      rw [HN.out] at hv1
      cases hv1
      have k0 : wr.cell? ⟨g1, j, none⟩ = some (.int .u64 y) := by
        have h9 := HJ.out.ok.cell hy 0 rfl
        have h8 : wr.cell? ⟨g1, j * 1 + 0, none⟩ = some (.int .u64 y) := h9
        rw [Nat.mul_one, Nat.add_zero] at h8
        exact h8
      have hCr := HC.out.below HJ.out.bel
      have hyb := HU.out y (List.mem_of_getElem? hy)
      have ll := hCr.lkL (g := 0) (o := y) (a := 0) ⟨by decide, by decide, hyb.1, hyb.2, by decide, by decide⟩
      have t3 := hCr.c3
      have hltr := hCr.clt
      have hlenD : ((K.take j).map M.toWrite ++ List.replicate (n - j) false).length = n := by
        rw [List.length_append, List.length_map, List.length_take, List.length_replicate, HN.out]; omega
      have hDj : ((K.take j).map M.toWrite ++ List.replicate (n - j) false)[j]? = some false := by
        rw [List.getElem?_append_right (by rw [List.length_map, List.length_take]; omega), List.getElem?_replicate]
        rw [List.length_map, List.length_take, HN.out, if_pos (by omega)]
      have b0 : wr.cell? ⟨gb, j, none⟩ = some (.bool false) := by
        have h8 : wr.cell? ⟨gb, j * 1 + 0, none⟩ = some (.bool false) := HJ.out.od.cell hDj 0 rfl
        rw [Nat.mul_one, Nat.add_zero] at h8
        exact h8
      have bf : wr.frozen? ⟨gb, j, none⟩ = false := HJ.out.od.frozen j
      have HJ2 : Hid (Hl w (wr.setCell ⟨gb, j, none⟩ (.bool (M.toWrite y))) (.slice (some ⟨g1, 0, none⟩) n c1) (.slice (some ⟨gb, 0, none⟩) n n) K ((K.take (j + 1)).map M.toWrite ++ List.replicate (n - (j + 1)) false)) := hide (by
        have hne : (Value.slice (some ⟨g1, 0, none⟩) n c1).ownBlock ≠ some gb := fun e => E6.own_ne HJ.out.od HJ.out.ok (by decide) gb rfl e
        have h1 := HJ.out.od.setU hlenD (t := 0) (a' := M.toWrite y) (u := .bool (M.toWrite y)) hDj (by decide) rfl
        rw [set_next M.toWrite hy HN.out] at h1
        have h2 : Own layBo 4 (wr.setCell ⟨gb, j * 1 + 0, none⟩ (.bool (M.toWrite y))) w.heap.size (.slice (some ⟨gb, 0, none⟩) n n) ((K.take (j + 1)).map M.toWrite ++ List.replicate (n - (j + 1)) false) := h1
        rw [Nat.mul_one, Nat.add_zero] at h2
        exact ⟨ownsRow_setCell_other HJ.out.ok (a := ⟨gb, j, none⟩) hne _, h2, HJ.out.bel.setCell (p := ⟨gb, j, none⟩) (HJ.out.od.lt gb rfl).1 _⟩)
      generalize M.toWrite y = bv at ll HJ2
      clear hCr hyb hlenD hDj hy
      generalize M.times y = tv at ll
      have hfd : (Instr.field 126 (.agg #[.bool bv, .int .i64 tv]) 0).run Tryz.prog wr = .ok (.bool bv) wr := by kernel_rfl
      go_wp2
      exact ⟨⟨j + 1, by omega, by go_num, HJ2⟩, by simp [intOf]; omega⟩
    · have h9 : j = n := by omega
      subst h9
      have HJ2 : Hid (Hl w wr (.slice a1 j c1) (.slice (some ⟨gb, 0, none⟩) j j) K (K.map M.toWrite)) := hide (by
        have h1 := HJ.out
        rw [Nat.sub_self, List.replicate_zero, List.append_nil, List.take_of_length_le (by rw [HN.out]; exact Nat.le_refl _)] at h1
        exact h1)
      go_wp2
      go_ret2
      exact ⟨_, _, rfl, HJ2.out⟩
theorem Held_any (h : Ck w cb B F M N) (hi : M.inv) (x : Int) (h0 : -9223372036854775808 ≤ x) (h1 : x ≤ 9223372036854775807) (hu : ∀ r, M.gs x = some r → ∀ p ∈ r.held, 0 ≤ p.1 ∧ p.1 ≤ 18446744073709551615) :
    Calls Tryz.prog 40 #[gPtr cb, .int .i64 x] w fun e w' => ∃ v1 v2, e = .returned (.tuple #[v1, v2]) ∧ Hl w w' v1 v2 (heldK M x) ((heldK M x).map M.toWrite) := by
  cases hg : M.gs x with
  | none => exact held_none h hi x h0 h1 hg
  | some r => exact held_some h hi x h0 h1 hg (hu r hg)
end
end Go.Proofs.YtafkammiehcdjaaGreatDoor
