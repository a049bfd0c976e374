/-
  Items of their own; the document's Sort and Least.
-/
import Derived.Test.YtdmlehbamdcjcaaRfA
import Derived.Test.YtdmlehbamdcjcaaSIt
namespace Go.Proofs.Ytdmlehbamdcjcaa
open Go.RowKit
theorem rputS (w : World) (a : Option Addr) (n c : Nat) (L : List It) (x : It) (hr : TRow layI w a n L) (h0 : a = none → n = 0 ∧ c = 0) (ha : ∀ ad, a = some ad → ∃ b off, ad = ⟨b, off, none⟩) (hc : n ≤ c) (hs : Srt bfI L) (hl : (n : Int) + 1 ≤ 8796093022208) :
    Calls Try.prog 49 #[.slice a n c, .agg #[.int .i64 x.k, .int .i64 x.t]] w fun r w' => ∃ v, r = .returned v ∧ Own layI 27 w' w.heap.size v (ins bfI x L) ∧ Below w.heap.size w w' := by
  cases a with
  | none =>
    obtain ⟨rfl, rfl⟩ := h0 rfl
    have e := List.length_eq_zero_iff.1 hr.len
    subst e
    exact rput0 w x
  | some ad =>
    obtain ⟨b, off, rfl⟩ := ha ad rfl
    exact rput1 w b off n c L x hr hc hs hl
theorem own_addr {α : Type} {y : Lay α} {e : TypeId} {w : World} {base n c : Nat} {a : Option Addr} {L : List α} (h : Own y e w base (.slice a n c) L) : ∀ ad, a = some ad → ∃ b off, ad = ⟨b, off, none⟩ := by
  intro ad had
  rcases h.2 with ⟨e, _⟩ | ⟨g, cap, cur, e, _⟩
  · injection e with e1 _ _; rw [had] at e1; cases e1
  · injection e with e1 _ _; rw [had] at e1; injection e1 with e1; exact ⟨g, 0, e1⟩
set_option maxRecDepth 8000 in
theorem twin_any (w : World) (a : Option Addr) (N c : Nat) (L : List It) (hr : TRow layI w a N L) (h0 : a = none → N = 0 ∧ c = 0) (hN : (N : Int) ≤ 8796093022208) :
    Calls Try.prog 9 #[.slice a N c] w fun r w' => ∃ v, r = .returned v ∧ Own layI 27 w' w.heap.size v L ∧ Below w.heap.size w w' := by
  obtain ⟨i0, hi, hz0, hz1, hz2⟩ := info_parts Try.infoTI
  have HR : Hid _ := hide hr
  have H0 : Hid _ := hide h0
  clear hr h0
  go_enter Try.func9, Try.ntmps9
  go_wp2_with (at_builtin; refine append_lay layI _ 23 27 i0 _ 16 Try.underlying23 hi hz0 hz1 hz2 rfl rfl (.tmp 4) (.tmp 5) rfl w.heap.size _ [] rfl (Own.nil _ _ _ _) _ _ _ L rfl HR.out H0.out (by simp [maxLen]; omega) (by simp; omega) (Nat.le_refl _) ?_; intro v2 w2 hown2 hgr2 hl2)
  go_ret
  exact ⟨v2, rfl, hown2, (Below.refl _ _).grown hgr2 (Nat.le_refl _) (fun k hk => by cases hk)⟩
theorem sItems_snoc {L : List It} {k : Nat} {x : It} (hx : L[k]? = some x) : sItems (L.take (k + 1)) = ins bfI x (sItems (L.take k)) := by
  rw [take_snoc hx]
  exact isort_fst (fun a : It => a.k) (L.take k) x
set_option maxRecDepth 8000 in
set_option maxHeartbeats 1600000 in
theorem r9sort (w : World) (a : Option Addr) (N c : Nat) (L : List It) (hr : TRow layI w a N L) (hN : (N : Int) ≤ 8796093022208) :
    Calls Try.prog 26 #[.slice a N c] w fun r w' => ∃ v, r = .returned v ∧ Own layI 27 w' w.heap.size v (sItems L) ∧ Below w.heap.size w w' := by
  have HR : Hid _ := hide hr
  have HLN : Hid _ := hide hr.len
  clear hr
  go_enter Try.func26, Try.ntmps26
  go_wp2_with fail
  go_loopw [3, 4] (fun sl si wr => ∃ k : Nat, si = .int .i64 k ∧ k ≤ N ∧ Own layI 27 wr w.heap.size sl (sItems (L.take k)) ∧ Below w.heap.size w wr) (fun _ si _ => N - (intOf si).toNat)
  case atStart => exact ⟨0, rfl, Nat.zero_le _, Own.nil _ _ _ _, Below.refl _ _⟩
  case round =>
    obtain ⟨k, rfl, hk, ho, hb⟩ := hrel
    have HO : Hid _ := hide ho
    have HB : Hid _ := hide hb
    by_cases hlt : k < N
    · have hltI : (k : Int) < (N : Int) := by omega
      obtain ⟨x, hx⟩ : ∃ x, L[k]? = some x := ⟨_, List.getElem?_eq_getElem (by rw [HLN.out]; exact hlt)⟩
      obtain ⟨b, off, rfl, _, hc⟩ := (HR.out.below hb).at (by omega)
      have x0 := hc k x hx 0 _ rfl
      have x1 := hc k x hx 1 _ rfl
      simp only [layI, Nat.add_zero] at x0 x1
      have hlk : (sItems (L.take k)).length = k := by rw [sItems_len, List.length_take, HLN.out]; omega
      obtain ⟨av, cv, hvv, hn0, hcv⟩ := own_form ho
      rw [hlk] at hvv hn0 hcv
      subst hvv
      have PU := rputS wr av k cv (sItems (L.take k)) x (ho.row hlk) hn0 (own_addr ho) hcv (sItems_srt _) (by omega)
      rw [← sItems_snoc hx] at PU
      obtain ⟨xk, xt⟩ := x
      clear ho hb hc hx hlk hn0 hcv
      go_wp2_with fail
      refine PU.mono ?_
      rintro r w2 ⟨v2, rfl, O2, b2⟩
      have O2' := O2.mono HB.out.size
      have B2 := HB.out.trans (b2.mono HB.out.size)
      clear PU O2 b2 x0 x1
      go_wp2_with fail
      exact ⟨⟨k + 1, by go_num, by omega, O2', B2⟩, by simp [intOf]; omega⟩
    · clear ho hb
      go_wp2_with fail
      go_ret
      refine ⟨_, rfl, ?_, HB.out⟩
      have h9 := HO.out
      rw [List.take_of_length_le (by rw [HLN.out]; omega)] at h9
      exact h9
set_option maxRecDepth 8000 in
set_option maxHeartbeats 1600000 in
theorem r9least (w : World) (a : Option Addr) (N c : Nat) (L : List It) (n : Int) (hr : TRow layI w a N L) (hN : (N : Int) ≤ 8796093022208) (hn1 : n ≤ 9223372036854775807) :
    Calls Try.prog 28 #[.slice a N c, .int .i64 n] w fun r w' => ∃ a' k c', r = .returned (.slice a' k c') ∧ k = min (max n 0).toNat N ∧ TRow layI w' a' k ((sItems L).take k) ∧ Below w.heap.size w w' := by
  have SO := r9sort w a N c L hr hN
  have HLN : Hid _ := hide hr.len
  clear hr
  go_enter Try.func28, Try.ntmps28
  go_wp2_with fail
  refine SO.mono ?_
  rintro r w1 ⟨v1, rfl, O1, b1⟩
  have hML : (sItems L).length = N := by rw [sItems_len, HLN.out]
  obtain ⟨a1, c1, hv1, hn1', hc1⟩ := own_form O1
  rw [hML] at hv1 hc1 hn1'
  subst hv1
  obtain ⟨k, hk⟩ : ∃ k : Nat, k = min (max n 0).toNat N := ⟨_, rfl⟩
  have HK : Hid _ := hide hk
  have HRW : Hid _ := hide (O1.row hML)
  have HB : Hid _ := hide b1
  have HN0 : Hid _ := hide hn1'
  clear SO O1 b1 hML hk hn1'
  go_upto_if 9 with fail
  go_cut [1] (fun s1 wx => s1 = .int .i64 (max n 0) ∧ wx = w1)
  case first =>
    by_cases hneg : n < 0
    · have e1 : decide (n < 0) = true := decide_eq_true hneg
      go_wp2_with fail
      go_meet
      exact ⟨by rw [show max n 0 = 0 by omega], rfl⟩
    · have e1 : decide (n < 0) = false := decide_eq_false hneg
      go_wp2_with fail
      go_meet
      exact ⟨by rw [show max n 0 = n by omega], rfl⟩
  case rest =>
  obtain ⟨rfl, rfl⟩ := hcut
  generalize hm : max n 0 = m at *
  have hm0 : 0 ≤ m := by omega
  have hm1 : m ≤ 9223372036854775807 := by omega
  have HK2 : Hid (k = min m.toNat N) := HK
  clear HK
  go_upto_if 13 with fail
  go_cut [1] (fun s1 wx => s1 = .int .i64 k ∧ wx = wc)
  case first =>
    by_cases hgt : (N : Int) < m
    · have e1 : decide ((N : Int) < m) = true := decide_eq_true hgt
      have hkN : k = N := by have := HK2.out; omega
      go_wp2_with fail
      go_meet
      exact ⟨by rw [hkN], rfl⟩
    · have e1 : decide ((N : Int) < m) = false := decide_eq_false hgt
      have hkm : m = (k : Int) := by have := HK2.out; omega
      go_wp2_with fail
      go_meet
      exact ⟨by first | rfl | rw [hkm], rfl⟩
  case rest =>
  obtain ⟨rfl, rfl⟩ := hcut
  have hkN : k ≤ N := by have := HK2.out; omega
  have hkc : (k : Int) ≤ (c1 : Int) := by omega
  have hkI : (k : Int) ≤ (N : Int) := by omega
  have HC : Hid _ := hide (HRW.out.cut k hkN)
  have HMX : Hid _ := hide hm
  clear hm
  cases a1 with
  | none =>
    obtain ⟨h1, h2⟩ := HN0.out rfl
    have hk0 : k = 0 := by omega
    have HK3 : Hid (k = 0 ∧ c1 = 0) := hide ⟨hk0, h2⟩
    clear h1 h2 hk0
    go_wp2_with fail
    go_ret
    exact ⟨_, k, ⟨_, rfl⟩, by rw [HMX.out]; exact HK2.out, HC.out, HB.out⟩
  | some ad =>
    go_wp2_with fail
    go_ret
    exact ⟨_, k, _, rfl, by rw [HMX.out]; exact HK2.out, HC.out, HB.out⟩
end Go.Proofs.Ytdmlehbamdcjcaa
