/-
  Clocks in memory; Good, find, Get.
-/
import Derived.Test.YtajkenbcndmjpabHpW
import Derived.Test.YtajkenbcndmjpabClM
import Derived.Lib.MinMax
namespace Go.Proofs.Ytajkenbcndmjpab
open Go.RowKit
def layT : Lay Tk := ⟨fun e => [.int .i64 e.g, .int .i64 e.t], 2, by decide, fun _ => rfl, by intro a u hu; simp at hu; rcases hu with rfl | rfl <;> rfl⟩
theorem Try.infoT : (Try.prog.info? 43).map (fun i => (i.zero, i.size, i.bytes)) = some (some (.agg #[.int .i64 0, .int .i64 0]), 2, 16) := by kernel_rfl
theorem get_ex {α : Type} {L : List α} {i : Nat} (h : i < L.length) : ∃ x, L[i]? = some x := ⟨_, List.getElem?_eq_getElem h⟩
theorem drop_at {α : Type} {L : List α} {i : Nat} {x : α} (h : L[i]? = some x) : L.drop i = x :: L.drop (i + 1) := by
  have hl := get_lt h
  rw [List.drop_eq_getElem_cons hl]
  rw [List.getElem?_eq_getElem hl] at h
  cases h
  rfl
/-- The cells of an entry. -/
theorem TRow.tick {w : World} {b off n : Nat} {L : List Tk} (h : TRow layT w (some ⟨b, off, none⟩) n L) {i : Nat} {x : Tk} (hx : L[i]? = some x) :
    w.cell? ⟨b, off + i * 2, none⟩ = some (.int .i64 x.g) ∧ w.cell? ⟨b, off + i * 2 + 1, none⟩ = some (.int .i64 x.t) := by
  have hn : 0 < n := by have := get_lt hx; rw [h.len] at this; omega
  obtain ⟨b', off', e, _, hc⟩ := h.at hn
  cases e
  exact ⟨hc i x hx 0 _ rfl, hc i x hx 1 _ rfl⟩
theorem TRow.some {w : World} {a : Option Addr} {n : Nat} {L : List Tk} (h : TRow layT w a n L) {i : Nat} (hi : i < n) : ∃ b off x, a = some ⟨b, off, none⟩ ∧ L[i]? = some x ∧ b < w.heap.size ∧ w.cell? ⟨b, off + i * 2, none⟩ = some (.int .i64 x.g) ∧ w.cell? ⟨b, off + i * 2 + 1, none⟩ = some (.int .i64 x.t) := by
  obtain ⟨b, off, rfl, hb, hc⟩ := h.at (by omega)
  obtain ⟨x, hx⟩ := get_ex (L := L) (i := i) (by rw [h.len]; exact hi)
  exact ⟨b, off, x, rfl, hx, hb, hc i x hx 0 _ rfl, hc i x hx 1 _ rfl⟩
theorem below_setNew {w : World} {base : Nat} {W : World} (h : Below base w W) (p : Addr) (hp : base ≤ p.block) (u : Value) : Below base w (W.setCell p u) := h.setCell hp u
set_option maxRecDepth 4000 in
set_option maxHeartbeats 1000000 in
theorem good_any (a : Option Addr) (n c : Nat) (L : List Tk) (w : World) (h : TRow layT w a n L) (hn : (n : Int) ≤ 8796093022208) :
    Calls Try.prog 15 #[.slice a n c] w fun e w' => e = .returned (.bool (gd 0 L)) ∧ Below w.heap.size w w' := by
  have HT := hide h
  obtain ⟨G, hG⟩ : ∃ G, gd 0 L = G := ⟨_, rfl⟩
  rw [hG]
  have HG := hide hG
  clear h hG
  go_enter Try.func15, Try.ntmps15
  go_wp2
  go_loopw [3, 8] (fun l i wr => ∃ (k : Nat) (m : Int), k ≤ n ∧ i = .int .i64 k ∧ l = .int .i64 m ∧ 0 ≤ m ∧ m ≤ 65536 ∧ Hid (gd m (L.drop k) = G ∧ Below w.heap.size w wr)) (fun _ i _ => n - (intOf i).toNat)
  case atStart => exact ⟨0, 0, Nat.zero_le _, rfl, rfl, by omega, by omega, hide ⟨by rw [List.drop_zero]; exact HG.out, Below.refl _ _⟩⟩
  case round =>
    obtain ⟨k, m, hk, rfl, rfl, hm0, hm1, HR⟩ := hrel
    by_cases hlt : k < n
    · have hltI : (k : Int) < n := by omega
      obtain ⟨b, off, x, rfl, hx, hb, c0, c1⟩ := (HT.out.below HR.out.2).some hlt
      have HX := hide (drop_at hx)
      have HB := hide ((HR.out.2.alloc HR.out.2.size (.cells #[.int .i64 x.g, .int .i64 x.t] 43)))
      obtain ⟨xg, xt⟩ := x
      dsimp only at c0 c1 HB
      clear hx
      by_cases h1 : xg < m
      · have d1 : decide (xg < m) = true := decide_eq_true h1
        have HE : Hid (G = false) := hide (by rw [← HR.out.1, HX.out, gd]; dsimp only; rw [decide_eq_false (by omega : ¬ m ≤ xg)]; rfl)
        go_wp2
        go_ret
        exact ⟨by rw [HE.out]; rfl, HB.out⟩
      · have d1 : decide (xg < m) = false := decide_eq_false h1
        by_cases h2 : 65536 ≤ xg
        · have d2 : decide (65536 ≤ xg) = true := decide_eq_true h2
          have HE : Hid (G = false) := hide (by rw [← HR.out.1, HX.out, gd]; dsimp only; rw [decide_eq_false (by omega : ¬ xg < 65536)]; simp)
          go_wp2
          go_ret
          exact ⟨by rw [HE.out]; rfl, HB.out⟩
        · have d2 : decide (65536 ≤ xg) = false := decide_eq_false h2
          by_cases h3 : xt < 1
          · have d3 : decide (xt < 1) = true := decide_eq_true h3
            have HE : Hid (G = false) := hide (by rw [← HR.out.1, HX.out, gd]; dsimp only; rw [decide_eq_false (by omega : ¬ 1 ≤ xt)]; simp)
            go_wp2
            go_ret
            exact ⟨by rw [HE.out]; rfl, HB.out⟩
          · have d3 : decide (xt < 1) = false := decide_eq_false h3
            have HE : Hid (gd (xg + 1) (L.drop (k + 1)) = G) := hide (by rw [← HR.out.1, HX.out, gd]; dsimp only; rw [decide_eq_true (by omega : m ≤ xg), decide_eq_true (by omega : xg < 65536), decide_eq_true (by omega : 1 ≤ xt)]; rfl)
            have hw : wrap64 (xg + 1) = xg + 1 := by unfold wrap64; omega
            have hm2 : 0 ≤ xg + 1 := by omega
            have hm3 : xg + 1 ≤ 65536 := by omega
            go_wp2
            exact ⟨⟨k + 1, xg + 1, by omega, by go_num, rfl, hm2, hm3, hide ⟨HE.out, HB.out⟩⟩, by simp [intOf]; omega⟩
    · have hkn : k = n := by omega
      subst hkn
      have HE : Hid (G = true) := hide (by rw [← HR.out.1, List.drop_eq_nil_of_le (by rw [HT.out.len]; exact Nat.le_refl _)]; rfl)
      have hd : decide ((k : Int) < (k : Int)) = false := by simp
      go_wp2
      go_ret
      exact ⟨by rw [HE.out]; rfl, HR.out.2⟩
/-- -1, 0, 1. -/
def cmpI (a b : Int) : Int := if a < b then -1 else if b < a then 1 else 0
theorem nan_any (a : Int) (w : World) : Calls Try.prog 48 #[.int .i64 a] w fun e w' => e = .returned (.bool false) ∧ w' = w := by
  go_enter Try.func48, Try.ntmps48
  go_wp2
  go_ret
  exact ⟨by simp, rfl⟩
theorem cmp_any (a b : Int) (w : World) : Calls Try.prog 43 #[.int .i64 a, .int .i64 b] w fun e w' => e = .returned (.int .i64 (cmpI a b)) ∧ w' = w := by
  have H1 := hide (nan_any a w)
  have H2 := hide (nan_any b w)
  obtain ⟨R, hR⟩ : ∃ R, R = cmpI a b := ⟨_, rfl⟩
  rw [← hR]
  unfold cmpI at hR
  have HR := hide hR
  clear hR
  go_enter Try.func43, Try.ntmps43
  go_wp2_with fail
  refine H1.out.mono ?_
  rintro e w1 ⟨rfl, hw⟩
  rw [hw]; clear hw w1
  go_wp2_with fail
  refine H2.out.mono ?_
  rintro e w1 ⟨rfl, hw⟩
  rw [hw]; clear hw w1
  by_cases h1 : a < b
  · have hN : R = -1 := by rw [HR.out, if_pos h1]
    clear HR
    go_wp2
    go_ret
    exact ⟨by rw [hN]; rfl, rfl⟩
  · have d1 : decide (a < b) = false := decide_eq_false h1
    by_cases h2 : b < a
    · have hN : R = 1 := by rw [HR.out, if_neg h1, if_pos h2]
      clear HR
      go_wp2
      go_ret
      exact ⟨by rw [hN]; rfl, rfl⟩
    · have d2 : decide (b < a) = false := decide_eq_false h2
      have hN : R = 0 := by rw [HR.out, if_neg h1, if_neg h2]
      clear HR
      go_wp2
      go_ret
      exact ⟨by rw [hN]; rfl, rfl⟩
theorem find1_any (a v k : Int) (w : World) : Calls Try.prog 42 #[.agg #[.int .i64 a, .int .i64 v], .int .i64 k] w fun e w' => e = .returned (.int .i64 (cmpI a k)) ∧ Below w.heap.size w w' := by
  have H1 := hide (cmp_any a k (w.alloc (.cells #[.int .i64 a, .int .i64 v] 43)))
  have HB := hide (below_alloc1 w (.cells #[.int .i64 a, .int .i64 v] 43))
  go_enter Try.func42, Try.ntmps42
  go_wp2_with fail
  refine H1.out.mono ?_
  rintro e w1 ⟨rfl, hw⟩
  rw [hw]; clear hw w1
  go_wp2
  go_ret
  exact ⟨rfl, HB.out⟩
/-- Where the first one is that is no lower. -/
structure LB (L : List Tk) (k : Int) (j : Nat) (is : Bool) : Prop where
  le : j ≤ L.length
  low : ∀ e ∈ L.take j, e.g < k
  high : ∀ e ∈ L.drop j, k ≤ e.g
  is : is = true ↔ ∃ v, L[j]? = some ⟨k, v⟩
/-- The goroutines rise. -/
def Ris (L : List Tk) : Prop := L.Pairwise fun x y => x.g < y.g
theorem ris_of {m : Int} {L : List Tk} (h : gd m L = true) : Ris L := by
  induction L generalizing m with
  | nil => exact List.Pairwise.nil
  | cons x L ih =>
    obtain ⟨_, _, _, h4⟩ := gd_cons.1 h
    exact List.Pairwise.cons (fun y hy => by have := (tm_mem h4 hy).2.1; omega) (ih h4)
theorem take_low {L : List Tk} (hR : Ris L) {h : Nat} {x : Tk} (hx : L[h]? = some x) {k : Int} (hk : x.g < k) : ∀ e ∈ L.take (h + 1), e.g < k := by
  intro e he
  have hl := get_lt hx
  obtain ⟨i, hi, rfl⟩ := List.mem_iff_getElem.1 he
  rw [List.length_take] at hi
  rw [List.getElem_take]
  have hxe : L[h] = x := (List.getElem?_eq_some_iff.1 hx).2
  by_cases e1 : i = h
  · subst e1; rw [hxe]; exact hk
  · have := List.pairwise_iff_getElem.1 hR i h (by omega) hl (by omega)
    rw [hxe] at this
    omega
theorem drop_high {L : List Tk} (hR : Ris L) {h : Nat} {x : Tk} (hx : L[h]? = some x) {k : Int} (hk : k ≤ x.g) : ∀ e ∈ L.drop h, k ≤ e.g := by
  intro e he
  have hl := get_lt hx
  obtain ⟨i, hi, rfl⟩ := List.mem_iff_getElem.1 he
  rw [List.length_drop] at hi
  rw [List.getElem_drop]
  have hxe : L[h] = x := (List.getElem?_eq_some_iff.1 hx).2
  by_cases e1 : i = 0
  · subst e1
    simp only [Nat.add_zero]
    rw [hxe]; exact hk
  · have := List.pairwise_iff_getElem.1 hR h (h + i) hl (by omega) (by omega)
    rw [hxe] at this
    omega
theorem cmpI_lt {a b : Int} : decide (cmpI a b < 0) = decide (a < b) := by
  unfold cmpI
  by_cases h : a < b
  · rw [if_pos h]; simp [h]
  · rw [if_neg h]
    by_cases h2 : b < a
    · rw [if_pos h2]; simp [h]
    · rw [if_neg h2]; simp [h]
theorem cmpI_eq {a b : Int} : (cmpI a b == 0) = decide (a = b) := by
  unfold cmpI
  by_cases h : a < b
  · rw [if_pos h]; rw [decide_eq_false (by omega)]; rfl
  · rw [if_neg h]
    by_cases h2 : b < a
    · rw [if_pos h2]; rw [decide_eq_false (by omega)]; rfl
    · rw [if_neg h2]; rw [decide_eq_true (by omega)]; rfl
set_option maxRecDepth 4000 in
theorem bsT_any (a : Option Addr) (n c : Nat) (L : List Tk) (k : Int) (w : World) (h : TRow layT w a n L) (hR : Ris L) (hn : (n : Int) ≤ 4000000) :
    Calls Try.prog 41 #[.slice a n c, .int .i64 k, .func (.func 42) #[] #[]] w fun e w' => ∃ (j : Nat) (is : Bool), e = .returned (.tuple #[.int .i64 (j : Int), .bool is]) ∧ LB L k j is ∧ Below w.heap.size w w' := by
  have HT := hide h
  have HR := hide hR
  clear h hR
  go_enter Try.func41, Try.ntmps41
  go_wp2
  go_loopw [9, 10] (fun i j wr => ∃ p q : Nat, p ≤ q ∧ q ≤ n ∧ i = .int .i64 p ∧ j = .int .i64 q ∧ (∀ e ∈ L.take p, e.g < k) ∧ (∀ e ∈ L.drop q, k ≤ e.g) ∧ Below w.heap.size w wr) (fun i j _ => (intOf j).toNat - (intOf i).toNat)
  case atStart => exact ⟨0, n, Nat.zero_le _, Nat.le_refl _, rfl, rfl, by simp, by rw [← HT.out.len]; simp, Below.refl _ _⟩
  case round =>
    obtain ⟨p, q, hpq, hqn, rfl, rfl, hlow, hhigh, hb⟩ := hrel
    have HL := hide hlow
    have HH := hide hhigh
    have HB := hide hb
    clear hlow hhigh hb
    by_cases hlt : p < q
    · obtain ⟨m, hm⟩ : ∃ m, m = (p + q) / 2 := ⟨_, rfl⟩
      have e1 : ((p : Int) + (q : Int)) / 2 = (m : Int) := by omega
      have hm1 : p ≤ m := by omega
      have hm2 : m < q := by omega
      have hmn : m < n := by omega
      have hmI : (m : Int) < n := by omega
      clear hm
      obtain ⟨b, off, x, rfl, hx, _, c0, c1⟩ := (HT.out.below HB.out).some hmn
      have HX := hide hx
      have HC := hide (fun W => find1_any x.g x.t k W)
      clear hx
      go_wp2_with fail
      refine (HC.out _).mono ?_
      rintro e w2 ⟨rfl, hb2⟩
      have HB2 := hide (Below.on HB.out hb2)
      clear hb2 c0 c1
      by_cases hk : x.g < k
      · have hd : decide (cmpI x.g k < 0) = true := by rw [cmpI_lt]; exact decide_eq_true hk
        have HN := hide (take_low HR.out HX.out hk)
        generalize cmpI x.g k = z at hd ⊢
        have hz : z < 0 := of_decide_eq_true hd
        clear hk HX HC hd
        go_wp2
        exact ⟨⟨m + 1, q, by omega, by omega, by go_num, rfl, HN.out, HH.out, HB2.out⟩, by simp [intOf]; omega⟩
      · have hd : decide (cmpI x.g k < 0) = false := by rw [cmpI_lt]; exact decide_eq_false hk
        have HN := hide (drop_high HR.out HX.out (by omega : k ≤ x.g))
        generalize cmpI x.g k = z at hd ⊢
        have hz : ¬ z < 0 := of_decide_eq_false hd
        clear hk HX HC
        go_wp2
        exact ⟨⟨p, m, by omega, by omega, rfl, rfl, HL.out, HN.out, HB2.out⟩, by simp [intOf]; omega⟩
    · obtain rfl : p = q := by omega
      by_cases hpn : p < n
      · have hpI : (p : Int) < n := by omega
        obtain ⟨b, off, x, rfl, hx, _, c0, c1⟩ := (HT.out.below HB.out).some hpn
        have HX := hide hx
        have HC := hide (fun W => find1_any x.g x.t k W)
        have HE := hide (cmpI_eq (a := x.g) (b := k))
        clear hx
        go_wp2_with fail
        refine (HC.out _).mono ?_
        rintro e w2 ⟨rfl, hb2⟩
        have HB2 := hide (Below.on HB.out hb2)
        clear hb2 c0 c1
        have HN : Hid (LB L k p (cmpI x.g k == 0)) := hide ⟨by rw [HT.out.len]; omega, HL.out, HH.out, by
          rw [HE.out, HX.out]
          simp only [decide_eq_true_eq]
          constructor
          · intro e; exact ⟨x.t, by rw [← e]⟩
          · rintro ⟨v, e⟩; cases e; rfl⟩
        generalize cmpI x.g k = z at HN ⊢
        clear HX HC HE
        go_wp2
        go_ret2
        exact ⟨p, _, rfl, HN.out, HB2.out⟩
      · have hpI : decide ((p : Int) < n) = false := decide_eq_false (by omega)
        have hpN : ¬ (p < n) := hpn
        have HN : Hid (LB L k p false) := hide ⟨by rw [HT.out.len]; omega, HL.out, HH.out, by
          rw [List.getElem?_eq_none (by rw [HT.out.len]; omega)]; simp⟩
        go_wp2
        go_ret2
        exact ⟨p, _, rfl, HN.out, HB.out⟩
theorem find_any (a : Option Addr) (n c : Nat) (L : List Tk) (k : Int) (w : World) (h : TRow layT w a n L) (hR : Ris L) (hn : (n : Int) ≤ 4000000) :
    Calls Try.prog 35 #[.slice a n c, .int .i64 k] w fun e w' => ∃ (j : Nat) (is : Bool), e = .returned (.tuple #[.int .i64 (j : Int), .bool is]) ∧ LB L k j is ∧ Below w.heap.size w w' := by
  have H := hide (bsT_any a n c L k w h hR hn)
  clear h hR hn
  go_enter Try.func35, Try.ntmps35
  go_wp2_with fail
  refine H.out.mono ?_
  rintro e w1 ⟨j, is, rfl, hl, hb⟩
  have HL := hide hl
  have HB := hide hb
  clear hl hb H
  go_wp2
  go_ret2
  exact ⟨j, is, rfl, HL.out, HB.out⟩
theorem LB.tm {L : List Tk} {m k : Int} {j : Nat} {is : Bool} (h : LB L k j is) (hg : gd m L = true) : (is = true → ∃ x, L[j]? = some x ∧ x.g = k ∧ x.t = tm k L) ∧ (is = false → tm k L = 0) := by
  constructor
  · intro e
    obtain ⟨v, hv⟩ := h.is.1 e
    refine ⟨⟨k, v⟩, hv, rfl, ?_⟩
    exact (tm_mem hg (List.mem_of_getElem? hv)).1.symm
  · intro e
    by_cases h0 : Go.Proofs.Ytajkenbcndmjpab.tm k L = 0
    · exact h0
    · obtain ⟨x, hx, e1, _⟩ := tm_some hg h0
      exfalso
      have hd := List.take_append_drop j L
      rw [← hd] at hx
      rcases List.mem_append.1 hx with hx | hx
      · have := h.low x hx; omega
      · obtain ⟨i, hi⟩ := List.mem_iff_getElem?.1 hx
        rw [List.getElem?_drop] at hi
        by_cases hi0 : i = 0
        · subst hi0
          have : is = true := h.is.2 ⟨x.t, by rw [Nat.add_zero] at hi; rw [hi, ← e1]⟩
          rw [e] at this
          cases this
        · have hlt := get_lt hi
          obtain ⟨y, hy⟩ := get_ex (L := L) (i := j) (by omega)
          have h1 := h.high y (by
            rw [drop_at hy]; simp)
          have h2 := List.pairwise_iff_getElem.1 (ris_of hg) j (j + i) (by omega) hlt (by omega)
          rw [(List.getElem?_eq_some_iff.1 hy).2, (List.getElem?_eq_some_iff.1 hi).2] at h2
          omega
theorem get_any (a : Option Addr) (n c : Nat) (L : List Tk) (k : Int) (w : World) (h : TRow layT w a n L) (hn : (n : Int) ≤ 8796093022208) :
    Calls Try.prog 19 #[.slice a n c, .int .i64 k] w fun e w' => e = .returned (.int .i64 (if gd 0 L then tm k L else 0)) ∧ Below w.heap.size w w' := by
  have HG := hide (good_any a n c L w h hn)
  have HT := hide h
  clear h hn
  by_cases hg : gd 0 L = true
  · have HGd := hide hg
    rw [hg]
    rw [hg] at HG
    clear hg
    obtain ⟨R, hR⟩ : ∃ R, (if true = true then tm k L else 0) = R := ⟨_, rfl⟩
    rw [hR]
    have HR : Hid (tm k L = R) := hide (by rw [← hR, if_pos rfl])
    clear hR
    go_enter Try.func19, Try.ntmps19
    go_wp2_with fail
    refine HG.out.mono ?_
    rintro e w1 ⟨rfl, hb1⟩
    have HB1 := hide hb1
    have HF := hide (find_any a n c L k w1 (HT.out.below hb1) (ris_of HGd.out) (by have := gd_len0 HGd.out; rw [HT.out.len] at this; omega))
    clear hb1 HG
    go_wp2_with fail
    refine HF.out.mono ?_
    rintro e w2 ⟨j, is, rfl, hl, hb2⟩
    have HL := hide (hl.tm HGd.out)
    have HB2 := hide (Below.on HB1.out hb2)
    have hjl := hl.le
    clear hl hb2 HF
    cases is with
    | true =>
      obtain ⟨x, hx, e1, e2⟩ := HL.out.1 rfl
      have hjn : j < n := by have := get_lt hx; rw [HT.out.len] at this; exact this
      have hjI : (j : Int) < n := by omega
      obtain ⟨b, off, y, rfl, hy, _, c0, c1⟩ := (HT.out.below HB2.out).some hjn
      rw [hx] at hy
      cases hy
      rw [e2, HR.out] at c1
      clear hx e1 e2 HR HL c0 hjl hjn
      go_wp2
      go_ret
      exact ⟨rfl, HB2.out⟩
    | false =>
      have e0 := HL.out.2 rfl
      rw [HR.out] at e0
      subst e0
      clear HL HR hjl
      go_wp2
      go_ret
      exact ⟨rfl, HB2.out⟩
  · have hf : gd 0 L = false := by simpa using hg
    rw [hf] at HG ⊢
    clear hg
    go_enter Try.func19, Try.ntmps19
    go_wp2_with fail
    refine HG.out.mono ?_
    rintro e w1 ⟨rfl, hb1⟩
    have HB1 := hide hb1
    clear hb1 HG
    go_wp2
    go_ret
    exact ⟨rfl, HB1.out⟩
end Go.Proofs.Ytajkenbcndmjpab
