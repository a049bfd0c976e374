/-
  The walk of StacksFirst.
-/
import Derived.Test.YtjpccaeojimlfaaFirstM
namespace Go.Proofs.Ytjpccaeojimlfaa
open Go.RowKit Go.Maps Go.Shelf
section
variable {w : World} {T S : Nat → Prop} {tb fb : Nat} {L : List ByteArray} {N : List Nd}
theorem St.len (h : St w T S tb fb L N) : Calls Try.prog 12 #[.pointer (some ⟨tb, 0, none⟩)] w fun e w' => e = .returned (.int .i64 L.length) ∧ w' = w := by
  obtain ⟨tv, tm, v, mb, hT, hF⟩ := h.both
  have t0 := hT.cell0
  obtain ⟨ta, tc, rfl⟩ := own_form hT.own
  exact len_any tb _ tc ta w t0
theorem St.bytes (h : St w T S tb fb L N) : Calls Try.prog 13 #[.pointer (some ⟨tb, 0, none⟩)] w fun e w' => e = .returned (.int .i64 (total L : Nat)) ∧ w' = w := by
  obtain ⟨tv, tm, v, mb, hT, hF⟩ := h.both
  exact bytes_any tb _ w hT.cell2
theorem St.count (h : St w T S tb fb L N) : Calls Try.prog 16 #[.pointer (some ⟨fb, 0, none⟩)] w fun e w' => e = .returned (.int .i64 N.length) ∧ w' = w := by
  obtain ⟨tv, tm, v, mb, hT, hF⟩ := h.both
  have f1 := hF.cell1
  obtain ⟨fa, fc, rfl⟩ := own_form hF.own
  exact len_f fb _ fc fa w f1
theorem St.bounds (h : St w T S tb fb L N) : L.length ≤ 65536 ∧ total L ≤ 4194304 ∧ N.length ≤ 262144 := by
  obtain ⟨tv, tm, v, mb, hT, hF⟩ := h.both
  exact ⟨hT.len, hT.sum, hF.len⟩
theorem St.out (h : St w T S tb fb L N) (id : Int) (hi : -9223372036854775808 ≤ id ∧ id ≤ 9223372036854775807) (ho : id < 0 ∨ (N.length : Int) < id) :
    Calls Try.prog 20 #[.pointer (some ⟨fb, 0, none⟩), .int .i64 id] w fun e w' => e = .returned (.tuple #[.slice none 0 0, .int .i64 50]) ∧ w' = w := by
  obtain ⟨tv, tm, v, mb, hT, hF⟩ := h.both
  exact stack_out hF id hi ho
end
/-- A row's block. -/
theorem SRow.old {w : World} {a : Option Addr} {n : Nat} {L : List ByteArray} (h : SRow w a n L) {b off : Nat} (e : a = some ⟨b, off, none⟩) (hn : n ≠ 0) : b < w.heap.size := by
  obtain ⟨b', off', e', hc⟩ := h.at (i := 0) (by omega)
  rw [e'] at e; cases e
  exact World.block_lt_of_cell? w _ hc
set_option maxHeartbeats 4000000 in
set_option maxRecDepth 8000 in
theorem first_any (a : Option Addr) (n c : Nat) (LS : List Stk) (w : World) (hLS : PRow w a n LS) (hn : (n : Int) ≤ 9223372036854775806) (hz : ∀ q ∈ LS, (q.length : Int) ≤ 9223372036854775806 ∧ ∀ s ∈ q, s.size ≤ maxLen) :
    Calls Try.prog 3 #[.slice a n c] w fun e w' => e = .returned (.bool true) ∧ Below w.heap.size w w' := by
  have HLS : Hid (PRow w a n LS) := hLS
  have HZ : Hid (∀ q ∈ LS, (q.length : Int) ≤ 9223372036854775806 ∧ ∀ s ∈ q, s.size ≤ maxLen) := hz
  have HLl : Hid (LS.length = n) := hLS.len
  have HA : Hid _ := hide (awake_any w)
  have HNn : Hid (∀ (e : Int) (w : World), Calls Try.prog 15 #[.int .i64 e] w fun x w' => x = .returned (.int .i64 e) ∧ w' = w) := hide (fun e w => num_any e w)
  clear hLS hz
  go_enter Try.func3, Try.ntmps3
  go_wp2_with fail
  refine HA.out.mono ?_
  rintro e w1 ⟨rfl, hb1⟩
  have B1 : Hid (Below w.heap.size w w1) := hb1
  have HN : Hid _ := hide (new_any w1)
  clear hb1 HA
  go_wp2_with fail
  refine HN.out.mono ?_
  rintro e w2 ⟨rfl, hw2⟩
  have HF : Hid _ := hide (new_f w1.heap.size w2)
  have HW2 : Hid _ := hide hw2
  clear hw2 HN
  go_wp2_with fail
  refine HF.out.mono ?_
  rintro e w3 ⟨rfl, ⟨v, mb, hF⟩, hb⟩
  have hst : St w3 (fun k => k = w1.heap.size) (fun k => w1.heap.size + 1 ≤ k ∧ k < w3.heap.size) w1.heap.size (w2.heap.size + 1) [] [] ∧ Below w1.heap.size w1 w3 := by
    rw [HW2.out] at hF hb ⊢; have := st_new hF hb; rw [World.size_alloc]; exact this
  have hFw : Hid (Fw w w3 w1.heap.size (w2.heap.size + 1) (fun k => k = w1.heap.size) (fun k => w1.heap.size + 1 ≤ k ∧ k < w3.heap.size) (.slice none 0 0) [] [] [] []) := by
    have := B1.out.size
    exact ⟨hst.1, Fit.nil, ⟨[], World.ownsRow_nil _ _ _ _, by simp⟩, B1.out.trans (hst.2.mono this), by intro k hk; omega, by simp [Value.ownBlock], by simp⟩
  generalize w2.heap.size + 1 = fb at hFw ⊢
  generalize w1.heap.size = tb at hFw ⊢
  clear hst hF hb HF HW2
  go_wp2
  go_loopw [6, 7] (fun o i wr => ∃ (k : Nat) (T S : Nat → Prop) (va : Option Addr) (vc : Nat) (L : List ByteArray) (N : List Nd) (P : List Stk), k ≤ n ∧ i = .int .i64 k ∧ o = .slice va P.length vc ∧ Fw w wr tb fb T S (.slice va P.length vc) L N P P) (fun _ i _ => n - (intOf i).toNat)
  case atStart => exact ⟨0, _, _, none, 0, [], [], [], Nat.zero_le _, rfl, rfl, hFw.out⟩
  case round =>
    obtain ⟨k, T, S, va, vc, L, N, P, hk, rfl, rfl, hf⟩ := hrel
    have HFw : Hid (Fw w wr tb fb T S (.slice va P.length vc) L N P P) := hf
    have hbd := hf.st.bounds
    have hPl : Hid (P.length = N.length) := hf.fit.rep.len
    have hPI : (P.length : Int) ≤ 262144 := by have := hPl.out; omega
    have HTl : Hid _ := hide hf.st.len
    have HTb : Hid _ := hide hf.st.bytes
    clear hf hFw
    by_cases hlt : k < n
    · obtain ⟨b1, o1, ai, ci, ha, hc1, hr1, hci⟩ := HLS.out.at hlt
      subst ha
      obtain ⟨x, hx⟩ : ∃ x, x = LS.getD k [] := ⟨_, rfl⟩
      have hxz := HZ.out x (by rw [hx]; exact List.mem_of_getElem? (getP_get (by have := HLl.out; omega)))
      rw [← hx] at hc1 hr1 hci
      have hcr : wr.cell? ⟨b1, o1 + k, none⟩ = some (.slice ai x.length ci) := cell_block hc1 (HFw.out.bel.block b1 (World.block_lt_of_cell? w _ hc1))
      have HR1 : Hid (SRow w ai x.length x) := hr1
      have HXZ : Hid _ := hide hxz
      have hxl := hxz.1
      have HI : Hid _ := hide (intern_u P HFw.out.st HFw.out.fit.good ai x.length ci x (hr1.below HFw.out.bel) hxz.1 hci hxz.2 (by
        intro b off e h0
        have hlt' := hr1.old e h0
        exact ⟨fun e => by have := HFw.out.new b (.inl e); omega, fun e => by have := HFw.out.new b (.inr e); omega⟩))
      clear hc1 hr1 hx hxz hbd
      go_wp2_with (first
        | (go_at_call 12; refine HTl.out.mono ?_; rintro _ _ ⟨rfl, hh⟩; rw [hh]; clear hh)
        | (go_at_call 13; refine HTb.out.mono ?_; rintro _ _ ⟨rfl, hh⟩; rw [hh]; clear hh)
        | fail)
      refine HI.out.mono ?_
      rintro e w4 ⟨id, er, L', N', P', rfl, hres, ⟨T', S', hst, h1, h2⟩, hb⟩
      have hF4 : Hid (Fw w w4 tb fb T' S' (.slice va P.length vc) L' N' P' P) := hide (HFw.out.interned hst (hres.fit HFw.out.fit).1 h1 h2 hb)
      have HTl4 : Hid _ := hide hst.len
      have HTb4 : Hid _ := hide hst.bytes
      have HFl4 : Hid _ := hide hst.count
      have hbd := hst.bounds
      have hfit := HFw.out.fit
      clear hst h1 h2 hb HI HTl HTb hcr
      cases hres with
      | deep hd =>
        have hd' : (16 : Int) < x.length := by omega
        have hnp : ((N.length : Int) != (P.length : Int)) = false := by have := hPl.out; simp; omega
        clear hbd hfit
        go_wp2_with (first
          | (go_at_call 15; refine (HNn.out _ _).mono ?_; rintro _ _ ⟨rfl, hh⟩; rw [hh]; clear hh)
          | (go_at_call 12; refine HTl4.out.mono ?_; rintro _ _ ⟨rfl, hh⟩; rw [hh]; clear hh)
          | (go_at_call 13; refine HTb4.out.mono ?_; rintro _ _ ⟨rfl, hh⟩; rw [hh]; clear hh)
          | (go_at_call 16; refine HFl4.out.mono ?_; rintro _ _ ⟨rfl, hh⟩; rw [hh]; clear hh)
          | fail)
        exact ⟨⟨k + 1, T', S', va, vc, L, N, P, by omega, by go_num, rfl, hF4.out⟩, by simp [intOf]; omega⟩
      | full hd hR =>
        have hd' : (x.length : Int) ≤ 16 := by omega
        have hnp : ((N.length : Int) != (P.length : Int)) = false := by have := hPl.out; simp; omega
        clear hbd hfit hR
        go_wp2_with (first
          | (go_at_call 15; refine (HNn.out _ _).mono ?_; rintro _ _ ⟨rfl, hh⟩; rw [hh]; clear hh)
          | (go_at_call 12; refine HTl4.out.mono ?_; rintro _ _ ⟨rfl, hh⟩; rw [hh]; clear hh)
          | (go_at_call 13; refine HTb4.out.mono ?_; rintro _ _ ⟨rfl, hh⟩; rw [hh]; clear hh)
          | (go_at_call 16; refine HFl4.out.mono ?_; rintro _ _ ⟨rfl, hh⟩; rw [hh]; clear hh)
          | fail)
        exact ⟨⟨k + 1, T', S', va, vc, L, N, P, by omega, by go_num, rfl, hF4.out⟩, by simp [intOf]; omega⟩
      | ok hd hR =>
        have hok := hfit.ok hd hR
        have hup := upto_all P x (n := x.length) rfl
        have hul := upto_len P x (n := x.length) rfl
        have hum := upto_mem P x (n := x.length) rfl
        have hus : ∀ j, j < x.length → upto P x (j + 1) = if inP (upto P x j) (x.drop (x.length - (j + 1))) then upto P x j else upto P x j ++ [x.drop (x.length - (j + 1))] := fun j hj => upto_succ P x rfl hj
        generalize after L N x = A at hF4 HTl4 HTb4 HFl4 hbd hok ⊢
        obtain ⟨L1, N1, id1⟩ := A
        dsimp only at hF4 HTl4 HTb4 HFl4 hbd hok ⊢
        generalize addP P [] x.reverse = P1 at hF4 hok hup
        have HUP : Hid _ := hide hup
        have HUL : Hid _ := hide hul
        have HUS : Hid _ := hide hus
        have HUZ : Hid (upto P x 0 = P) := upto_zero P x
        have HOK : Hid _ := hide hok
        have hP1 : Hid (P1.length = N1.length) := hok.1.rep.len
        have hid1 : Hid (id1 = num P1 x) := hok.2.1
        have hd' : (x.length : Int) ≤ 16 := by omega
        have hidb : (id1 : Int) ≤ 262144 := by have := num_le P1 x; have := hid1.out; have := hP1.out; omega
        have hN1 : (N1.length : Int) ≤ 262144 := by omega
        clear hup hul hum hus hok hbd hfit hd hR
        go_wp2_with (first
          | (go_at_call 15; refine (HNn.out _ _).mono ?_; rintro _ _ ⟨rfl, hh⟩; rw [hh]; clear hh)
          | fail)
        go_loopw [6, 13] (fun o i wr => ∃ (j : Nat) (va : Option Addr) (vc : Nat), j ≤ x.length ∧ i = .int .i64 ((j : Int) + 1) ∧ o = .slice va (upto P x j).length vc ∧ Fw w wr tb fb T' S' (.slice va (upto P x j).length vc) L1 N1 P1 (upto P x j)) (fun _ i _ => x.length + 1 - (intOf i).toNat)
        case atStart => exact ⟨0, va, vc, Nat.zero_le _, rfl, by rw [HUZ.out], by rw [HUZ.out]; exact hF4.out⟩
        case round =>
          obtain ⟨j, va2, vc2, hj, rfl, rfl, hf2⟩ := hrel
          have HF2 : Hid _ := hide hf2
          have hQl : ((upto P x j).length : Int) ≤ 262160 := by have := HUL.out j hj; omega
          clear hf2
          by_cases hjl : j < x.length
          · obtain ⟨sb, so, hai, _⟩ := HR1.out.at (i := j) hjl
            subst hai
            have hco : ci = ci := rfl
            obtain ⟨p, hp⟩ : ∃ p, p = x.drop (x.length - (j + 1)) := ⟨_, rfl⟩
            have hpl : p.length = j + 1 := by rw [hp, List.length_drop]; omega
            have hrp0 : SRow w (some ⟨sb, so + (x.length - (j + 1)), none⟩) (j + 1) p := by
              have := HR1.out.drop (j := x.length - (j + 1)) (by omega)
              rw [← hp, show x.length - (x.length - (j + 1)) = j + 1 by omega] at this
              exact this
            have HRp : Hid _ := hide hrp0
            have HOu : Hid (∀ W : World, Calls Try.prog 18 #[.slice (some ⟨sb, so, none⟩) x.length ci, .int .i64 ((j : Int) + 1)] W fun e w' => e = .returned (.slice (some ⟨sb, so + (x.length - (j + 1)), none⟩) (j + 1) (ci - (x.length - (j + 1)))) ∧ w' = W) := hide (fun W => outer_any sb so x.length ci (j + 1) W (by omega) (by omega) (by omega) hci)
            have hpr := (HF2.out.parts.prow HF2.out.bel).1
            have HSe : Hid _ := hide (seen_any va2 (some ⟨sb, so + (x.length - (j + 1)), none⟩) (upto P x j).length vc2 (j + 1) (ci - (x.length - (j + 1))) (upto P x j) p _ hpr (hrp0.below HF2.out.bel) (by omega) (fun q hq => (HF2.out.small q hq).1))
            have HUj := HUS.out j hjl
            rw [← hp] at HUj
            have HU1 : Hid _ := hide HUj
            have HPl : Hid _ := hide hpl
            have HPz : Hid ((p.length : Int) ≤ 9223372036854775806 ∧ ∀ s ∈ p, s.size ≤ maxLen) := hide ⟨by omega, fun s hs => HXZ.out.2 s (by rw [hp] at hs; exact List.mem_of_mem_drop hs)⟩
            generalize hQ : upto P x j = Q at HF2 hQl HSe HU1 ⊢
            generalize hdl : x.length - (j + 1) = dl at HRp HOu HSe
            have HCl : Hid (j + 1 ≤ ci - dl) := hide (by omega)
            generalize ci - dl = cl at HOu HSe HCl
            clear hpr hp hrp0 HUj hpl hQ hdl hco
            go_wp2_with (first
              | (go_at_call 18; refine (HOu.out _).mono ?_; rintro _ _ ⟨rfl, hh⟩; rw [hh]; clear hh)
              | fail)
            refine HSe.out.mono ?_
            rintro e w6 ⟨rfl, q6, hq6⟩
            have HF6 : Hid (Fw w w6 tb fb T' S' (.slice va2 Q.length vc2) L1 N1 P1 Q) := hide (by rw [hq6]; exact HF2.out.drewN q6)
            clear hq6
            cases hin : inP Q p
            · rw [hin] at HU1
              have hpr : (SRow w (some ⟨sb, so + dl, none⟩) p.length p) := by rw [HPl.out]; exact HRp.out
              go_wp2_with (first
                | (go_at_call 18; refine (HOu.out _).mono ?_; rintro _ _ ⟨rfl, hh⟩; rw [hh]; clear hh)
                | (at_builtin; refine append_part _ rfl _ _ rfl w (.slice va2 Q.length vc2) Q rfl (HF6.out.parts.kept (T := fun _ => False) ((But.refl _ _).alloc _) (fun _ _ e => e)) w6.heap.size (some ⟨sb, so + dl, none⟩) cl p rfl (by rw [HPl.out]; exact cell_new _ _ _) hpr (by rw [HPl.out]; exact HCl.out) (by omega) (Nat.le_trans HF6.out.bel.size (by simp)) ?_
                   intro a7 c7 w7 hp7 g7 hloc7
                   have HF7 : Hid _ := hide (HF6.out.put hp7 g7 hloc7 HPz.out)
                   clear hp7 g7 hloc7)
                | go_in)
              refine ⟨⟨j + 1, a7, c7, by omega, by go_num, ?_, ?_⟩, by simp [intOf]; omega⟩
              · rw [HU1.out]; simp
              · rw [HU1.out]; simpa using HF7.out
            · rw [hin] at HU1
              go_wp2
              refine ⟨⟨j + 1, va2, vc2, by omega, by go_num, ?_, ?_⟩, by simp [intOf]; omega⟩
              · rw [HU1.out]; rfl
              · rw [HU1.out]; exact HF6.out
          · have hjx : j = x.length := by omega
            subst hjx
            rw [HUP.out] at HF2 hQl ⊢
            have HFl2 : Hid _ := hide HF2.out.st.count
            have hnp : ((N1.length : Int) != (P1.length : Int)) = false := by have := hP1.out; simp; omega
            have hng : (id1 : Int) ≤ P1.length := by have := num_le P1 x; have := hid1.out; omega
            by_cases hx0 : x.length = 0
            · have hi0 : id1 = 0 := by
                have : x = [] := List.length_eq_zero_iff.1 hx0
                rw [hid1.out, this, num_nil]
              subst hi0
              have hxI : ((x.length : Int) == 0) = true := by rw [hx0]; rfl
              go_wp2_with (first
                | (go_at_call 16; refine HFl2.out.mono ?_; rintro _ _ ⟨rfl, hh⟩; rw [hh]; clear hh)
                | fail)
              exact ⟨⟨k + 1, T', S', va2, vc2, L1, N1, P1, by omega, by go_num, rfl, HF2.out⟩, by simp [intOf]; omega⟩
            · have hxm : x ∈ P1 := HOK.out.2.2.1.resolve_left (fun e => hx0 (by rw [e]; rfl))
              have hxn : x ≠ [] := fun e => hx0 (by rw [e]; rfl)
              obtain ⟨i1, hi1⟩ : ∃ i1, i1 = idx P1 x := ⟨_, rfl⟩
              have hi2 : id1 = i1 + 1 := by rw [hid1.out, num_mem hxn hxm, hi1]
              have hil : i1 < P1.length := by rw [hi1]; exact idx_lt hxm
              have hget : P1.getD i1 [] = x := by rw [List.getD_eq_getElem?_getD, hi1, idx_get hxm]; rfl
              obtain ⟨b8, o8, a8, c8, h8, hc8, hr8, _⟩ := (HF2.out.parts.prow HF2.out.bel).1.at hil
              rw [hget] at hc8 hr8
              subst h8
              subst hi2
              have hxI : ((x.length : Int) == 0) = false := by rw [beq_eq_false_iff_ne]; omega
              have HTx : Hid _ := hide (texts_any a8 ai x.length c8 x.length ci x x wr hr8 (HR1.out.below HF2.out.bel) (by omega))
              rw [eqB_self] at HTx
              have hi1' : (i1 : Int) < P1.length := by omega
              have dd1 : decide ((P1.length : Int) < (i1 : Int) + 1) = false := by rw [decide_eq_false_iff_not]; omega
              have dd2 : decide (P1.length < i1 + 1) = false := by rw [decide_eq_false_iff_not]; omega
              have dd4 : ((i1 : Int) + 1 == 0) = false := by rw [beq_eq_false_iff_ne]; omega
              have dd5 : decide ((i1 : Int) + 1 < 0) = false := by rw [decide_eq_false_iff_not]; omega
              have dd6 : decide (0 < (i1 : Int) + 1) = true := by rw [decide_eq_true_eq]; omega
              have dd3 : decide (P1.length ≤ i1) = false := by rw [decide_eq_false_iff_not]; omega
              clear hxm hxn hi1 hget hr8 hidb hng
              go_wp2_with (first
                | (go_at_call 16; refine HFl2.out.mono ?_; rintro _ _ ⟨rfl, hh⟩; rw [hh]; clear hh)
                | fail)
              refine HTx.out.mono ?_
              rintro e w9 ⟨rfl, q9, hq9⟩
              have HF9 : Hid _ := hide (HF2.out.drewN q9)
              rw [← hq9] at HF9
              clear hq9
              go_wp2
              exact ⟨⟨k + 1, T', S', _, vc2, L1, N1, P1, by omega, by go_num, rfl, HF9.out⟩, by simp [intOf]; omega⟩
    · clear HTl HTb hbd
      go_wp2
      go_loopw [14] (fun i wr => ∃ (j : Nat) (T S : Nat → Prop), j ≤ P.length ∧ i = .int .i64 (j : Int) ∧ Fw w wr tb fb T S (.slice va P.length vc) L N P P) (fun i _ => P.length - (intOf i).toNat)
      case atStart => exact ⟨0, T, S, Nat.zero_le _, rfl, HFw.out⟩
      case round =>
        obtain ⟨j, T2, S2, hj, rfl, hf2⟩ := hrel
        have HF2 : Hid _ := hide hf2
        have hbd2 := hf2.st.bounds
        clear hf2
        by_cases hjl : j < P.length
        · obtain ⟨b8, o8, a8, c8, h8, hc8, hr8, hl8⟩ := (HF2.out.parts.prow HF2.out.bel).1.at hjl
          subst h8
          obtain ⟨p, hp⟩ : ∃ p, p = P.getD j [] := ⟨_, rfl⟩
          rw [← hp] at hc8 hr8 hl8
          have hpg : P[j]? = some p := by rw [hp]; exact getP_get hjl
          have hpm : p ∈ P := List.mem_of_getElem? hpg
          have hpn : p ≠ [] := fun e => HF2.out.fit.rep.noNil (by rw [← e]; exact hpm)
          have hps : stkP P (j + 1) = p := by rw [stkP, if_neg (by omega), Nat.add_sub_cancel]; exact hp.symm
          have hnum : num P p = j + 1 := by rw [num_mem hpn hpm, idx_of_get HF2.out.fit.rep.nodup hpg]
          have HS : Hid (Calls Try.prog 20 #[.pointer (some ⟨fb, 0, none⟩), .int .i64 ((j : Int) + 1)] wr fun e w' => ∃ v : Value, e = .returned (.tuple #[v, .int .i64 0]) ∧ w'.ownsRow wr.heap.size 9 1 v p.length (p.map Value.string) ∧ Below wr.heap.size wr w') := hide (by
            have := stack_in HF2.out.st HF2.out.fit.rep (j + 1) (by have := HF2.out.fit.rep.len; omega)
            rw [hps] at this
            exact this)
          have hpz := HF2.out.small p hpm
          have HPz : Hid _ := hide hpz
          have HNum : Hid _ := hide hnum
          have HPm : Hid (p ∈ P) := hpm
          obtain ⟨ai, ci, hai⟩ : ∃ ai ci, PRow wr (some ⟨b8, o8, none⟩) P.length P ∧ SRow w ai p.length p ∧ p.length ≤ ci ∧ ai = a8 ∧ ci = c8 := by
            obtain ⟨vals, ho, hv⟩ := HF2.out.parts.own
            obtain ⟨ai, ci, e1, e2, e3⟩ := hv j p hpg
            refine ⟨ai, ci, (HF2.out.parts.prow HF2.out.bel).1, e2, e3, ?_⟩
            have hcc : wr.cell? ⟨b8, o8 + j, none⟩ = some (.slice ai p.length ci) := by
              rcases ho.2 with ⟨hv0, h00⟩ | ⟨g, cap, cur, hv0, _⟩
              · omega
              · cases hv0
                have := ho.cells (g := b8) rfl j _ e1
                have ha : (⟨b8, 0, none⟩ : Addr).add j = ⟨b8, 0 + j, none⟩ := by unfold Addr.add; split <;> simp_all
                rwa [ha] at this
            rw [hc8] at hcc
            simp at hcc
            exact ⟨hcc.1.symm, hcc.2.symm⟩
          obtain ⟨_, hr0, hl0, rfl, rfl⟩ := hai
          have HR0 : Hid (SRow w ai p.length p) := hr0
          have HL0 : Hid (p.length ≤ ci) := hl0
          have hp64 : (p.length : Int) ≤ 9223372036854775806 := hpz.1
          have HPW : Hid (∀ W : World, wr.heap[b8]? = W.heap[b8]? → W.cell? ⟨b8, o8 + j, none⟩ = some (.slice ai p.length ci)) := hide (fun W h => cell_block hc8 h.symm)
          have hb8 : Hid (b8 < wr.heap.size ∧ (Value.slice (some ⟨b8, o8, none⟩) P.length vc).ownBlock = some b8) := hide ⟨World.block_lt_of_cell? _ _ hc8, by
            obtain ⟨vals, ho, hv⟩ := HF2.out.parts.own
            rcases ho.2 with ⟨hv0, h00⟩ | ⟨g, cap, cur, hv0, _⟩
            · omega
            · rw [hv0]; cases hv0; rfl⟩
          have hjI : (j : Int) < P.length := by omega
          clear hpz hnum hpm hr0 hl0 hps hpn hpg hp hr8 hl8
          go_wp2_with fail
          refine HS.out.mono ?_
          rintro e w5 ⟨v5, rfl, ho5, hb5⟩
          obtain ⟨a5, c5, rfl, hr5, _⟩ := row_own ho5
          have hf5 := HF2.out.below hb5
          have HF5 : Hid _ := hide hf5
          have hc5 := HPW.out w5 (hb5.block b8 hb8.out.1).symm
          have HI : Hid _ := hide (intern_u P hf5.st hf5.fit.good ai p.length ci p (HR0.out.below hf5.bel) HPz.out.1 HL0.out HPz.out.2 (by
            intro b off e h0
            have hlt' := HR0.out.old e h0
            exact ⟨fun e => by have := HF5.out.new b (.inl e); omega, fun e => by have := HF5.out.new b (.inr e); omega⟩))
          have HR5 : Hid _ := hide hr5
          have HO5 : Hid (∀ b off, a5 = some ⟨b, off, none⟩ → p.length ≠ 0 → ¬ (T2 b ∨ S2 b)) := hide (by
            intro b off e h0
            rcases ho5.2 with ⟨hv0, h00⟩ | ⟨g, cap, cur, hv0, hg, _⟩
            · exact absurd h00 h0
            · cases hv0; cases e
              rintro (e | e)
              · have := HF2.out.st.tlt _ e; omega
              · have := HF2.out.st.slt _ e; omega)
          have HB5 : Hid (Below wr.heap.size wr w5) := hb5
          clear hf5 ho5 hb5 hr5 hc8
          go_wp2_with fail
          refine HI.out.mono ?_
          rintro e w6 ⟨id6, er6, L6, N6, P6, rfl, hres, ⟨T6, S6, hst, h1, h2⟩, hb⟩
          obtain ⟨rfl, rfl, rfl, rfl⟩ := res_old HF5.out.fit (.inr HPm.out) hres HF5.out.st.bounds.1 HF5.out.st.bounds.2.1 HF5.out.st.bounds.2.2
          have hf6 := HF5.out.interned hst HF5.out.fit h1 h2 hb
          have HF6 : Hid _ := hide hf6
          have hb86 : w6.heap[b8]? = w5.heap[b8]? := hb.block b8 (Nat.lt_of_lt_of_le hb8.out.1 HB5.out.size) (HF5.out.apart b8 hb8.out.2)
          have hc6 := cell_block hc5 hb86
          have HTx : Hid _ := hide (texts_any a5 ai p.length c5 p.length ci p p w6 (HR5.out.but hb (fun b off e h0 => HO5.out b off e h0)) (HR0.out.below hf6.bel) (by omega))
          rw [eqB_self] at HTx
          rw [HNum.out]
          clear hf6 hst h1 h2 hb hb86 hres hc5
          go_wp2_with (first
            | (go_at_call 15; refine (HNn.out _ _).mono ?_; rintro _ _ ⟨rfl, hh⟩; rw [hh]; clear hh)
            | fail)
          refine HTx.out.mono ?_
          rintro e w9 ⟨rfl, q9, hq9⟩
          have HF9 : Hid _ := hide (HF6.out.drewN q9)
          rw [← hq9] at HF9
          clear hq9 hc6
          go_wp2
          exact ⟨⟨j + 1, T6, S6, by omega, by go_num, HF9.out⟩, by simp [intOf]; omega⟩
        · have HS0 : Hid (Calls Try.prog 20 #[.pointer (some ⟨fb, 0, none⟩), .int .i64 0] wr fun e w' => ∃ v : Value, e = .returned (.tuple #[v, .int .i64 0]) ∧ w'.ownsRow wr.heap.size 9 1 v 0 [] ∧ Below wr.heap.size wr w') := hide (by
            have := stack_in HF2.out.st HF2.out.fit.rep 0 (Nat.zero_le _)
            exact this)
          have hnp : ((N.length : Int) == (P.length : Int)) = true := by have := hPl.out; simp; omega
          clear hbd2
          go_wp2_with fail
          refine HS0.out.mono ?_
          rintro e w5 ⟨v5, rfl, ho5, hb5⟩
          obtain ⟨a5, c5, rfl⟩ := own_form ho5
          have hf5 := HF2.out.below hb5
          have HF5 : Hid _ := hide hf5
          have HSo : Hid _ := hide (hf5.st.out ((P.length : Int) + 1) (by omega) (by have := hPl.out; omega))
          have HCo : Hid _ := hide hf5.st.count
          clear hf5 ho5 hb5
          go_wp2_with (first
            | (go_at_call 20; refine HSo.out.mono ?_; rintro _ _ ⟨rfl, hh⟩; rw [hh]; clear hh)
            | (go_at_call 15; refine (HNn.out _ _).mono ?_; rintro _ _ ⟨rfl, hh⟩; rw [hh]; clear hh)
            | (go_at_call 16; refine HCo.out.mono ?_; rintro _ _ ⟨rfl, hh⟩; rw [hh]; clear hh)
            | fail)
          go_ret
          exact ⟨rfl, HF5.out.bel⟩
end Go.Proofs.Ytjpccaeojimlfaa
