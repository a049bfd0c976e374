/-
  Decode of bodies.
-/
import Derived.Test.YtdppbaipmmcjbaaDoorSRd
namespace Go.Proofs.YtdppbaipmmcjbaaDoor
open Go.RowKit
theorem RRow.of_own {w : World} {base n c : Nat} {a : Option Addr} {L : List Rc} (h : w.ownsRow base 48 5 (.slice a n c) n (flat L)) : RRow w a n L := by
  have hl : L.length = n := by have := h.1; rw [flat_len] at this; omega
  refine ⟨hl, ?_⟩
  by_cases h0 : n = 0
  · exact .inl h0
  · obtain ⟨g, c', e, _, _⟩ := own_rowR h (by omega)
    cases e
    refine .inr ⟨g, 0, rfl, fun i r hr => ?_⟩
    obtain ⟨x0, x1, x2, x3, x4⟩ := own_rec h hr
    simp only [Nat.zero_add]
    exact ⟨x0, x1, x2, x3, x4⟩
theorem dec_lim (a : Option Addr) (n c : Nat) (lim : Int) (w : World) (h : ¬ (64 ≤ lim ∧ lim ≤ 1048576)) :
    Calls Tryd.prog 15 #[.slice a n c, .int .i64 lim] w fun e w' => e = .returned (.tuple #[.slice none 0 0, .int .i64 2]) ∧ w' = w := by
  have HL := lm_any lim w
  rw [decide_eq_false h] at HL
  clear h
  go_enter Tryd.func15, Tryd.ntmps15
  go_wp2_with fail
  refine HL.mono ?_
  rintro e w1 ⟨rfl, rfl⟩
  go_wp2
  go_ret2
  exact ⟨rfl, rfl⟩
theorem enc_lim (a : Option Addr) (n c : Nat) (lim : Int) (w : World) (h : ¬ (64 ≤ lim ∧ lim ≤ 1048576)) :
    Calls Tryd.prog 10 #[.slice a n c, .int .i64 lim] w fun e w' => e = .returned (.tuple #[.slice none 0 0, .int .i64 2]) ∧ w' = w := by
  have HL := new_bad lim w h
  clear h
  go_enter Tryd.func10, Tryd.ntmps10
  go_wp2_with fail
  refine HL.mono ?_
  rintro e w1 ⟨rfl, rfl⟩
  go_wp2
  go_ret2
  exact ⟨rfl, rfl⟩
theorem LRow.u8 {w : World} {a : Option Addr} {n : Nat} {bs : List (List Int)} (h : LRow w a n bs) : ∀ z ∈ bs, ∀ i : Nat, 0 ≤ z[i]?.getD 0 ∧ z[i]?.getD 0 ≤ 255 := by
  intro z hz
  obtain ⟨i, hi, rfl⟩ := List.getElem_of_mem hz
  have hl := h.len
  rcases h.cells with h0 | ⟨b, off, _, hc⟩
  · omega
  · obtain ⟨ai, ci, _, h2, _⟩ := hc i bs[i] (List.getElem?_eq_getElem hi)
    exact h2.u8
set_option maxHeartbeats 1600000 in
set_option maxRecDepth 8000 in
theorem dec_any (a : Option Addr) (n c : Nat) (bs : List (List Int)) (lim : Int) (w : World) (hK : Kn w) (hw : 0 < w.heap.size) (hr : LRow w a n bs) (hlim : 64 ≤ lim ∧ lim ≤ 1048576) (hn : (n : Int) ≤ 9223372036854775000) :
    Calls Tryd.prog 15 #[.slice a n c, .int .i64 lim] w fun e w' => Below w.heap.size w w' ∧ ((decV lim.toNat bs).2 ≠ 0 → e = .returned (.tuple #[.slice none 0 0, .int .i64 (decV lim.toNat bs).2])) ∧ ((decV lim.toNat bs).2 = 0 → ∃ v, e = .returned (.tuple #[v, .int .i64 0]) ∧ w'.ownsRow w.heap.size 48 5 v (decV lim.toNat bs).1.length (flat (decV lim.toNat bs).1)) := by
  have HL := lm_any lim w
  rw [decide_eq_true hlim] at HL
  have HRA := readall_any a n c bs w hK hw hr hn
  have HR : Hid _ := hide hr
  have HU : Hid _ := hide hr.u8
  have HLM : Hid _ := hide hlim
  by_cases he : (readV [] bs).2 = 0
  · obtain ⟨L, hL⟩ : ∃ L, readV [] bs = (L, 0) := ⟨(readV [] bs).1, Prod.ext rfl he⟩
    obtain ⟨hs, hok⟩ := readV_inv bs [] L HU.out rfl (by simp) hL
    have hlen := strE_len L 0 (by decide) (by decide) hs
    have HDV : Hid (decV lim.toNat bs = if cutS lim.toNat [] St.zero L = bs then (L, 0) else ([], 43)) := hide (by
      unfold decV; rw [hL]; rw [if_neg (by simp)])
    have HLL : Hid _ := hide hL
    have HE : Hid _ := hide he
    have HS : Hid _ := hide hs
    have HOK : Hid _ := hide hok
    have HLN : Hid _ := hide hlen
    clear hr hlim hL he hs hok hlen
    go_enter Tryd.func15, Tryd.ntmps15
    go_wp2_with fail
    refine HL.mono ?_
    rintro e w1 ⟨rfl, rfl⟩
    go_wp2_with fail
    refine HRA.mono ?_
    rintro e w2 ⟨hb2, -, hg⟩
    obtain ⟨v, rfl, hO2⟩ := hg HE.out
    rw [HLL.out] at hO2
    dsimp only at hO2
    obtain ⟨av, cv, e9⟩ := own_formR hO2
    subst e9
    have hs2 := hb2.size
    have HEN := enc_any av L.length cv L lim w2 (hK.below hb2 (by omega)) (by omega) (RRow.of_own hO2) HOK.out HLM.out (by have := HLN.out; omega)
    have HO2 : Hid _ := hide hO2
    have HB2 : Hid _ := hide hb2
    clear hg hO2 hb2 HRA HL
    go_wp2_with fail
    refine HEN.mono ?_
    rintro e w3 ⟨hb3, -, hg⟩
    obtain ⟨ao, co, vals, rfl, hBd, hsm, hfew⟩ := hg HS.out
    have HC : Hid _ := hide (HDV.out)
    generalize hcut : cutS lim.toNat [] St.zero L = cs at hBd hsm hfew HC
    have hB3 : Below w1.heap.size w1 w3 := HB2.out.trans (hb3.mono hs2)
    have HSM := same_f a ao n c cs.length co bs cs w3 (HR.out.below hB3) (hBd.lrow rfl (fun x hx => by have h1 := hsm x hx; have h2 := HLM.out.2; omega)) (by omega)
    have HB3 : Hid _ := hide hB3
    have HO3 : Hid _ := hide (own_below HO2.out hb3)
    clear hg hBd hsm hb3 HEN hcut hB3
    by_cases hq : bs = cs
    · rw [decide_eq_true hq] at HSM
      have HD : Hid (decV lim.toNat bs = (L, 0)) := hide (by rw [HC.out, if_pos hq.symm])
      clear hq
      go_wp2_with fail
      refine HSM.mono ?_
      rintro e w4 ⟨rfl, rfl⟩
      go_wp2
      go_ret2
      rw [HD.out]
      exact ⟨HB3.out, fun e => absurd rfl e, fun _ => ⟨_, rfl, HO3.out⟩⟩
    · rw [decide_eq_false hq] at HSM
      have HD : Hid (decV lim.toNat bs = ([], 43)) := hide (by rw [HC.out, if_neg (fun e => hq e.symm)])
      clear hq
      go_wp2_with fail
      refine HSM.mono ?_
      rintro e w4 ⟨rfl, rfl⟩
      go_wp2
      go_ret2
      rw [HD.out]
      exact ⟨HB3.out, fun _ => rfl, fun e => absurd e (by decide)⟩
  · have HD : Hid (decV lim.toNat bs = ([], (readV [] bs).2)) := hide (by unfold decV; rw [if_pos he])
    generalize (readV [] bs).2 = E at HRA HD he
    clear hr hlim
    go_enter Tryd.func15, Tryd.ntmps15
    go_wp2_with fail
    refine HL.mono ?_
    rintro e w1 ⟨rfl, rfl⟩
    go_wp2_with fail
    refine HRA.mono ?_
    rintro e w2 ⟨hb2, hbad, -⟩
    obtain rfl := hbad he
    have HB2 : Hid _ := hide hb2
    clear hb2 hbad HRA HL
    go_wp2
    go_ret2
    rw [HD.out]
    exact ⟨HB2.out, fun _ => rfl, fun e => absurd e he⟩
end Go.Proofs.YtdppbaipmmcjbaaDoor
