import Derived.Test.YtafkammiehcdjaaGreatDoorZs10
/-
  slices.BinarySearchFunc over entries and over pieces.
-/
namespace Go.Proofs.YtafkammiehcdjaaGreatDoor
open Go.RowKit
/-- Where the first one is that is no lower. -/
structure LB (L : List Ent) (k : Int) (j : Nat) (is : Bool) : Prop where
  le : j ≤ L.length
  low : ∀ e ∈ L.take j, e.1 < k
  high : ∀ e ∈ L.drop j, k ≤ e.1
  is : is = true ↔ ∃ v, L[j]? = some (k, v)
theorem take_low {L : List Ent} (hR : Ris L) {h : Nat} {x : Ent} (hx : L[h]? = some x) {k : Int} (hk : x.1 < k) : ∀ e ∈ L.take (h + 1), e.1 < k := by
  intro e he
  have hl := get_lt hx
  obtain ⟨i, hi, rfl⟩ := List.mem_iff_getElem.1 he
  rw [List.length_take] at hi
  rw [List.getElem_take]
  have hxe : L[h] = x := (List.getElem?_eq_some_iff.1 hx).2
  by_cases e1 : i = h
  · subst e1; rw [hxe]; exact hk
  · have := List.pairwise_iff_getElem.1 hR i h (by omega) hl (by omega)
    rw [hxe] at this
    omega
theorem drop_high {L : List Ent} (hR : Ris L) {h : Nat} {x : Ent} (hx : L[h]? = some x) {k : Int} (hk : k ≤ x.1) : ∀ e ∈ L.drop h, k ≤ e.1 := by
  intro e he
  have hl := get_lt hx
  obtain ⟨i, hi, rfl⟩ := List.mem_iff_getElem.1 he
  rw [List.length_drop] at hi
  rw [List.getElem_drop]
  have hxe : L[h] = x := (List.getElem?_eq_some_iff.1 hx).2
  by_cases e1 : i = 0
  · subst e1
    simp only [Nat.add_zero]
    rw [hxe]; exact hk
  · have := List.pairwise_iff_getElem.1 hR h (h + i) hl (by omega) (by omega)
    rw [hxe] at this
    omega
theorem get_ex {α : Type} {L : List α} {i : Nat} (h : i < L.length) : ∃ x, L[i]? = some x := ⟨_, List.getElem?_eq_getElem h⟩
theorem cmpI_lt {a b : Int} : decide (cmpI a b < 0) = decide (a < b) := by
  unfold cmpI
  by_cases h : a < b
  · rw [if_pos h]; simp [h]
  · rw [if_neg h]
    by_cases h2 : b < a
    · rw [if_pos h2]; simp [h]
    · rw [if_neg h2]; simp [h]
theorem cmpI_eq {a b : Int} : (cmpI a b == 0) = decide (a = b) := by
  unfold cmpI
  by_cases h : a < b
  · rw [if_pos h]; rw [decide_eq_false (by omega)]; rfl
  · rw [if_neg h]
    by_cases h2 : b < a
    · rw [if_pos h2]; rw [decide_eq_false (by omega)]; rfl
    · rw [if_neg h2]; rw [decide_eq_true (by omega)]; rfl
set_option maxRecDepth 4000 in
theorem bsE_any (a : Option Addr) (n c : Nat) (L : List Ent) (k : Int) (w : World) (h : TRow layN w a n L) (hR : Ris L) (hn : (n : Int) ≤ 4000000) :
    Calls Tryz.prog 151 #[.slice a n c, .int .u64 k, .func (.func 152) #[] #[]] w fun e w' => ∃ (j : Nat) (is : Bool), e = .returned (.tuple #[.int .i64 (j : Int), .bool is]) ∧ LB L k j is ∧ Below w.heap.size w w' := by
  have HT := hide h
  have HR := hide hR
  clear h hR
  go_enter Tryz.func151, Tryz.ntmps151
  go_wp2
  go_loopw [9, 10] (fun i j wr => ∃ p q : Nat, p ≤ q ∧ q ≤ n ∧ i = .int .i64 p ∧ j = .int .i64 q ∧ (∀ e ∈ L.take p, e.1 < k) ∧ (∀ e ∈ L.drop q, k ≤ e.1) ∧ Below w.heap.size w wr) (fun i j _ => (intOf j).toNat - (intOf i).toNat)
  case atStart => exact ⟨0, n, Nat.zero_le _, Nat.le_refl _, rfl, rfl, by simp, by rw [← HT.out.len]; simp, Below.refl _ _⟩
  case round =>
    obtain ⟨p, q, hpq, hqn, rfl, rfl, hlow, hhigh, hb⟩ := hrel
    have HL := hide hlow
    have HH := hide hhigh
    have HB := hide hb
    clear hlow hhigh hb
    by_cases hlt : p < q
    · obtain ⟨m, hm⟩ : ∃ m, m = (p + q) / 2 := ⟨_, rfl⟩
      have e1 : ((p : Int) + (q : Int)) / 2 = (m : Int) := by omega
      have hm1 : p ≤ m := by omega
      have hm2 : m < q := by omega
      have hmn : m < n := by omega
      have hmI : (m : Int) < n := by omega
      clear hm
      obtain ⟨b, off, rfl, _, hc⟩ := (HT.out.below HB.out).at (by omega)
      obtain ⟨x, hx⟩ := get_ex (L := L) (i := m) (by rw [HT.out.len]; exact hmn)
      have c0 : wr.cell? ⟨b, off + m * 2, none⟩ = some (.int .u64 x.1) := hc m x hx 0 _ rfl
      have c1 : wr.cell? ⟨b, off + m * 2 + 1, none⟩ = some (.int .u64 x.2) := hc m x hx 1 _ rfl
      have HX := hide hx
      have HC := hide (fun W => seek2_any x.1 x.2 k W)
      clear hc hx
      go_wp2_with fail
      refine (HC.out _).mono ?_
      rintro e w2 ⟨rfl, hb2⟩
      have HB2 := hide (Below.on HB.out hb2)
      clear hb2 c0 c1
      by_cases hk : x.1 < k
      · have hd : decide (cmpI x.1 k < 0) = true := by rw [cmpI_lt]; exact decide_eq_true hk
        have HN := hide (take_low HR.out HX.out hk)
        generalize cmpI x.1 k = z at hd ⊢
        have hz : z < 0 := of_decide_eq_true hd
        clear hk HX HC hd
        go_wp2
        exact ⟨⟨m + 1, q, by omega, by omega, by go_num, rfl, HN.out, HH.out, HB2.out⟩, by simp [intOf]; omega⟩
      · have hd : decide (cmpI x.1 k < 0) = false := by rw [cmpI_lt]; exact decide_eq_false hk
        have HN := hide (drop_high HR.out HX.out (by omega : k ≤ x.1))
        generalize cmpI x.1 k = z at hd ⊢
        have hz : ¬ z < 0 := of_decide_eq_false hd
        clear hk HX HC
        go_wp2
        exact ⟨⟨p, m, by omega, by omega, rfl, rfl, HL.out, HN.out, HB2.out⟩, by simp [intOf]; omega⟩
    · obtain rfl : p = q := by omega
      by_cases hpn : p < n
      · have hpI : (p : Int) < n := by omega
        obtain ⟨b, off, rfl, _, hc⟩ := (HT.out.below HB.out).at (by omega)
        obtain ⟨x, hx⟩ := get_ex (L := L) (i := p) (by rw [HT.out.len]; exact hpn)
        have c0 : wr.cell? ⟨b, off + p * 2, none⟩ = some (.int .u64 x.1) := hc p x hx 0 _ rfl
        have c1 : wr.cell? ⟨b, off + p * 2 + 1, none⟩ = some (.int .u64 x.2) := hc p x hx 1 _ rfl
        have HX := hide hx
        have HC := hide (fun W => seek2_any x.1 x.2 k W)
        have HE := hide (cmpI_eq (a := x.1) (b := k))
        clear hc hx
        go_wp2_with fail
        refine (HC.out _).mono ?_
        rintro e w2 ⟨rfl, hb2⟩
        have HB2 := hide (Below.on HB.out hb2)
        clear hb2 c0 c1
        have HN : Hid (LB L k p (cmpI x.1 k == 0)) := hide ⟨by rw [HT.out.len]; omega, HL.out, HH.out, by
          rw [HE.out, HX.out]
          simp only [decide_eq_true_eq]
          constructor
          · intro e; exact ⟨x.2, by rw [← e]⟩
          · rintro ⟨v, e⟩; cases e; rfl⟩
        generalize cmpI x.1 k = z at HN ⊢
        clear HX HC HE
        go_wp2
        go_ret2
        exact ⟨p, _, rfl, HN.out, HB2.out⟩
      · have hpI : decide ((p : Int) < n) = false := decide_eq_false (by omega)
        have hpN : ¬ (p < n) := hpn
        have HN : Hid (LB L k p false) := hide ⟨by rw [HT.out.len]; omega, HL.out, HH.out, by
          rw [List.getElem?_eq_none (by rw [HT.out.len]; omega)]; simp⟩
        go_wp2
        go_ret2
        exact ⟨p, _, rfl, HN.out, HB.out⟩
/-- A key ahead of a piece's last one, or not. -/
structure LP (ps : List Pc) (k : Int) (i : Nat) : Prop where
  le : i ≤ ps.length
  low : ∀ p ∈ ps.take i, ∃ x, p.es.getLast? = some x ∧ x.1 < k
  high : ∀ p ∈ ps.drop i, ∃ x, p.es.getLast? = some x ∧ k ≤ x.1
/-- The last ones rise. -/
def LRis (ps : List Pc) : Prop := ∀ (i j : Nat) (p q : Pc) (x y : Ent), i < j → ps[i]? = some p → ps[j]? = some q → p.es.getLast? = some x → q.es.getLast? = some y → x.1 < y.1
theorem lp_low {ps : List Pc} (hR : LRis ps) (hne : ∀ p ∈ ps, ∃ x, p.es.getLast? = some x) {h : Nat} {p : Pc} {x : Ent} (hp : ps[h]? = some p) (hx : p.es.getLast? = some x) {k : Int} (hk : x.1 < k) : ∀ p ∈ ps.take (h + 1), ∃ x, p.es.getLast? = some x ∧ x.1 < k := by
  intro q hq
  obtain ⟨i, hi⟩ := List.mem_iff_getElem?.1 hq
  rw [List.getElem?_take] at hi
  split at hi
  · rename_i hlt
    obtain ⟨y, hy⟩ := hne q (List.mem_of_getElem? hi)
    refine ⟨y, hy, ?_⟩
    by_cases e : i = h
    · subst e
      rw [hp] at hi
      cases hi
      rw [hx] at hy
      cases hy
      exact hk
    · have := hR i h q p y x (by omega) hi hp hy hx
      omega
  · cases hi
theorem lp_high {ps : List Pc} (hR : LRis ps) (hne : ∀ p ∈ ps, ∃ x, p.es.getLast? = some x) {h : Nat} {p : Pc} {x : Ent} (hp : ps[h]? = some p) (hx : p.es.getLast? = some x) {k : Int} (hk : k ≤ x.1) : ∀ p ∈ ps.drop h, ∃ x, p.es.getLast? = some x ∧ k ≤ x.1 := by
  intro q hq
  obtain ⟨i, hi⟩ := List.mem_iff_getElem?.1 hq
  rw [List.getElem?_drop] at hi
  obtain ⟨y, hy⟩ := hne q (List.mem_of_getElem? hi)
  refine ⟨y, hy, ?_⟩
  by_cases e : i = 0
  · subst e
    rw [Nat.add_zero, hp] at hi
    cases hi
    rw [hx] at hy
    cases hy
    exact hk
  · have := hR h (h + i) p q x y (by omega) hp hi hx hy
    omega
set_option maxRecDepth 4000 in
theorem bsP_any (a : Option Addr) (n c : Nat) (ps : List Pc) (k : Int) (w : World) (h : TRow layP w a n ps) (he : ∀ p ∈ ps, Own layN 148 w 0 p.val p.es) (hs : ∀ p ∈ ps, (p.es.length : Int) ≤ 9223372036854775806) (hR : LRis ps) (hne : ∀ p ∈ ps, ∃ x, p.es.getLast? = some x) (hn : (n : Int) ≤ 4000000) :
    Calls Tryz.prog 148 #[.slice a n c, .int .u64 k, .func (.func 149) #[] #[]] w fun e w' => ∃ (j : Nat) (is : Bool), e = .returned (.tuple #[.int .i64 (j : Int), .bool is]) ∧ LP ps k j ∧ Below w.heap.size w w' := by
  have HT := hide h
  have HR := hide hR
  have HE := hide he
  have HS := hide hs
  have HNe := hide hne
  clear h hR he hs hne
  go_enter Tryz.func148, Tryz.ntmps148
  go_wp2
  go_loopw [9, 10] (fun i j wr => ∃ p q : Nat, p ≤ q ∧ q ≤ n ∧ i = .int .i64 p ∧ j = .int .i64 q ∧ (∀ z ∈ ps.take p, ∃ x, z.es.getLast? = some x ∧ x.1 < k) ∧ (∀ z ∈ ps.drop q, ∃ x, z.es.getLast? = some x ∧ k ≤ x.1) ∧ Below w.heap.size w wr) (fun i j _ => (intOf j).toNat - (intOf i).toNat)
  case atStart => exact ⟨0, n, Nat.zero_le _, Nat.le_refl _, rfl, rfl, by simp, by rw [← HT.out.len]; simp, Below.refl _ _⟩
  case round =>
    obtain ⟨p, q, hpq, hqn, rfl, rfl, hlow, hhigh, hb⟩ := hrel
    have HL := hide hlow
    have HH := hide hhigh
    have HB := hide hb
    clear hlow hhigh hb
    by_cases hlt : p < q
    · obtain ⟨m, hm⟩ : ∃ m, m = (p + q) / 2 := ⟨_, rfl⟩
      have e1 : ((p : Int) + (q : Int)) / 2 = (m : Int) := by omega
      have hm1 : p ≤ m := by omega
      have hm2 : m < q := by omega
      have hmn : m < n := by omega
      have hmI : (m : Int) < n := by omega
      clear hm
      obtain ⟨b, off, rfl, _, hc⟩ := (HT.out.below HB.out).at (by omega)
      obtain ⟨y, hy⟩ := get_ex (L := ps) (i := m) (by rw [HT.out.len]; exact hmn)
      have hym := List.mem_of_getElem? hy
      obtain ⟨x, hx⟩ := HNe.out y hym
      have c0 : wr.cell? ⟨b, off + m * 1, none⟩ = some (.slice y.a y.es.length y.c) := hc m y hy 0 _ rfl
      rw [Nat.mul_one] at c0
      have HX := hide hx
      have HY := hide hy
      have HC := hide (seek1_any y k wr ((HE.out y hym).below HB.out) x hx (HS.out y hym))
      clear hc hx hy hym
      go_wp2_with fail
      refine HC.out.mono ?_
      rintro e w2 ⟨rfl, hw2⟩
      rw [hw2]
      clear hw2 w2 c0
      by_cases hk : x.1 < k
      · have hd : decide (cmpI x.1 k < 0) = true := by rw [cmpI_lt]; exact decide_eq_true hk
        have HN := hide (lp_low HR.out HNe.out HY.out HX.out hk)
        generalize cmpI x.1 k = z at hd ⊢
        have hz : z < 0 := of_decide_eq_true hd
        clear hk HX HY HC hd
        go_wp2
        exact ⟨⟨m + 1, q, by omega, by omega, by go_num, rfl, HN.out, HH.out, HB.out⟩, by simp [intOf]; omega⟩
      · have hd : decide (cmpI x.1 k < 0) = false := by rw [cmpI_lt]; exact decide_eq_false hk
        have HN := hide (lp_high HR.out HNe.out HY.out HX.out (by omega : k ≤ x.1))
        generalize cmpI x.1 k = z at hd ⊢
        have hz : ¬ z < 0 := of_decide_eq_false hd
        clear hk HX HY HC
        go_wp2
        exact ⟨⟨p, m, by omega, by omega, rfl, rfl, HL.out, HN.out, HB.out⟩, by simp [intOf]; omega⟩
    · obtain rfl : p = q := by omega
      have HN : Hid (LP ps k p) := hide ⟨by rw [HT.out.len]; omega, HL.out, HH.out⟩
      by_cases hpn : p < n
      · have hpI : (p : Int) < n := by omega
        obtain ⟨b, off, rfl, _, hc⟩ := (HT.out.below HB.out).at (by omega)
        obtain ⟨y, hy⟩ := get_ex (L := ps) (i := p) (by rw [HT.out.len]; exact hpn)
        have hym := List.mem_of_getElem? hy
        obtain ⟨x, hx⟩ := HNe.out y hym
        have c0 : wr.cell? ⟨b, off + p * 1, none⟩ = some (.slice y.a y.es.length y.c) := hc p y hy 0 _ rfl
        rw [Nat.mul_one] at c0
        have HC := hide (seek1_any y k wr ((HE.out y hym).below HB.out) x hx (HS.out y hym))
        clear hc hx hy hym
        go_wp2_with fail
        refine HC.out.mono ?_
        rintro e w2 ⟨rfl, hw2⟩
        rw [hw2]
        clear hw2 w2 c0
        generalize cmpI x.1 k = z at *
        clear HC
        go_wp2
        go_ret2
        exact ⟨p, _, rfl, HN.out, HB.out⟩
      · have hpI : decide ((p : Int) < n) = false := decide_eq_false (by omega)
        have hpN : ¬ (p < n) := hpn
        go_wp2
        go_ret2
        exact ⟨p, _, rfl, HN.out, HB.out⟩
end Go.Proofs.YtafkammiehcdjaaGreatDoor
/-
  Pieces in memory; seek, has, get, next.
-/
namespace Go.Proofs.YtafkammiehcdjaaGreatDoor
open Go.RowKit
/-- Pieces that lie in blocks of P. -/
structure Pcs (w : World) (P : Nat → Prop) (v : Value) (ps : List Pc) : Prop where
  own : Own layP 149 w 0 v ps
  each : ∀ p ∈ ps, Own layN 148 w 0 p.val p.es
  vin : ∀ b, v.ownBlock = some b → P b
  pin : ∀ p ∈ ps, ∀ b, p.val.ownBlock = some b → P b
  apart : ∀ (i j : Nat) (p q : Pc) (b : Nat), ps[i]? = some p → ps[j]? = some q → p.val.ownBlock = some b → q.val.ownBlock = some b → i = j
abbrev esOf (ps : List Pc) : List (List Ent) := ps.map Pc.es
theorem Pcs.below {w w' : World} {P : Nat → Prop} {v : Value} {ps : List Pc} (h : Pcs w P v ps) (hb : Below w.heap.size w w') : Pcs w' P v ps :=
  ⟨h.own.below hb, fun p hp => (h.each p hp).below hb, h.vin, h.pin, h.apart⟩
theorem Pcs.but {S : Nat → Prop} {w w' : World} {P : Nat → Prop} {v : Value} {ps : List Pc} (h : Pcs w P v ps) (hb : But S w w') (hS : ∀ b, P b → ¬ S b) : Pcs w' P v ps :=
  ⟨h.own.but hb (fun g hg => hS g (h.vin g hg)), fun p hp => (h.each p hp).but hb (fun g hg => hS g (h.pin p hp g hg)), h.vin, h.pin, h.apart⟩
theorem Pcs.mono {w : World} {P Q : Nat → Prop} {v : Value} {ps : List Pc} (h : Pcs w P v ps) (hQ : ∀ b, P b → Q b) : Pcs w Q v ps :=
  ⟨h.own, h.each, fun b hb => hQ b (h.vin b hb), fun p hp b hb => hQ b (h.pin p hp b hb), h.apart⟩
theorem esOf_getD {ps : List Pc} {i : Nat} {p : Pc} (h : ps[i]? = some p) : (esOf ps).getD i [] = p.es := by simp [List.getD, esOf, h]
theorem ris_pieces {ps : List Pc} (h : Ris (esOf ps).flatten) : (∀ p ∈ ps, Ris p.es) ∧ ∀ (i j : Nat) (p q : Pc), i < j → ps[i]? = some p → ps[j]? = some q → ∀ x ∈ p.es, ∀ y ∈ q.es, x.1 < y.1 := by
  obtain ⟨h1, h2⟩ := List.pairwise_flatten.1 h
  refine ⟨fun p hp => h1 p.es (List.mem_map.2 ⟨p, hp, rfl⟩), fun i j p q hij hp hq => ?_⟩
  have hj := get_lt hq
  have hi := get_lt hp
  have := List.pairwise_iff_getElem.1 h2 i j (by simpa using hi) (by simpa using hj) hij
  have e1 : ps[i] = p := (List.getElem?_eq_some_iff.1 hp).2
  have e2 : ps[j] = q := (List.getElem?_eq_some_iff.1 hq).2
  simp only [esOf, List.getElem_map, e1, e2] at this
  exact this
theorem last_mem {l : List Ent} {x : Ent} (h : l.getLast? = some x) : x ∈ l := List.mem_of_getLast? h
theorem ris_last {l : List Ent} (hl : Ris l) {x : Ent} (h : l.getLast? = some x) : ∀ e ∈ l, e.1 ≤ x.1 := by
  intro e he
  rw [List.getLast?_eq_getElem?] at h
  obtain ⟨i, hi⟩ := List.mem_iff_getElem?.1 he
  have h1 := get_lt h
  have h2 := get_lt hi
  by_cases e1 : i = l.length - 1
  · subst e1; rw [h] at hi; cases hi; exact Int.le_refl _
  · have := List.pairwise_iff_getElem.1 hl i (l.length - 1) h2 h1 (by omega)
    rw [(List.getElem?_eq_some_iff.1 hi).2, (List.getElem?_eq_some_iff.1 h).2] at this
    omega
theorem sk_mk {ps : List Pc} {k : Int} {m i j : Nat} {is : Bool} {p : Pc} (hm : ps.length = m + 1) (hR : Ris (esOf ps).flatten) (h1 : LP (ps.take m) k i) (hp : ps[i]? = some p) (h2 : LB p.es k j is) : Sk (esOf ps) k i j is := by
  obtain ⟨r1, r2⟩ := ris_pieces hR
  have hil := get_lt hp
  have hD : (esOf ps).getD i [] = p.es := esOf_getD hp
  have hlast : i < m → ∃ x, p.es.getLast? = some x ∧ k ≤ x.1 := fun hlt => h1.high p (by
    refine List.mem_iff_getElem?.2 ⟨0, ?_⟩
    rw [List.getElem?_drop, Nat.add_zero, List.getElem?_take, if_pos hlt]; exact hp)
  refine ⟨by simpa using hil, by rw [hD]; exact h2.le, ?_, ?_, by rw [hD]; exact h2.is, ?_⟩
  · rw [hD]
    intro e he
    rcases List.mem_append.1 he with he | he
    · obtain ⟨l, hl, hel⟩ := List.mem_flatten.1 he
      obtain ⟨a, ha⟩ := List.mem_iff_getElem?.1 hl
      rw [List.getElem?_take] at ha
      split at ha
      · rename_i hai
        rw [List.getElem?_map] at ha
        obtain ⟨q, hq, rfl⟩ : ∃ q, ps[a]? = some q ∧ q.es = l := by
          cases hq : ps[a]? with
          | none => rw [hq] at ha; cases ha
          | some q => rw [hq] at ha; cases ha; exact ⟨q, rfl, rfl⟩
        have him : i ≤ m := by have := h1.le; rw [List.length_take] at this; omega
        obtain ⟨x, hx, hxk⟩ := h1.low q (by
          refine List.mem_iff_getElem?.2 ⟨a, ?_⟩
          rw [List.getElem?_take, if_pos hai, List.getElem?_take, if_pos (by omega)]; exact hq)
        have := ris_last (r1 q (List.mem_of_getElem? hq)) hx e hel
        omega
      · cases ha
    · exact h2.low e he
  · rw [hD]
    intro e he
    rcases List.mem_append.1 he with he | he
    · exact h2.high e he
    · obtain ⟨l, hl, hel⟩ := List.mem_flatten.1 he
      obtain ⟨a, ha⟩ := List.mem_iff_getElem?.1 hl
      rw [List.getElem?_drop, List.getElem?_map] at ha
      obtain ⟨q, hq, rfl⟩ : ∃ q, ps[i + 1 + a]? = some q ∧ q.es = l := by
        cases hq : ps[i + 1 + a]? with
        | none => rw [hq] at ha; cases ha
        | some q => rw [hq] at ha; cases ha; exact ⟨q, rfl, rfl⟩
      have := get_lt hq
      obtain ⟨x, hx, hxk⟩ := hlast (by omega)
      have := r2 i (i + 1 + a) p q (by omega) hp hq x (last_mem hx) e hel
      omega
  · rw [hD]
    intro hj
    show i + 1 = (ps.map Pc.es).length
    rw [List.length_map, hm]
    by_cases hlt : i < m
    · obtain ⟨x, hx, hxk⟩ := hlast hlt
      have := h2.low x (by rw [hj, List.take_length]; exact last_mem hx)
      omega
    · omega
theorem lris_of {ps : List Pc} (hR : Ris (esOf ps).flatten) (m : Nat) : LRis (ps.take m) := by
  obtain ⟨_, r2⟩ := ris_pieces hR
  intro i j p q x y hij hp hq hx hy
  rw [List.getElem?_take] at hp hq
  split at hp
  · split at hq
    · exact r2 i j p q hij hp hq x (last_mem hx) y (last_mem hy)
    · cases hq
  · cases hp
theorem seek_nil (rb ro : Nat) (k : Int) (w : World) (a : Option Addr) (c : Nat) (hc : w.cell? ⟨rb, ro, none⟩ = some (.slice a 0 c)) :
    Calls Tryz.prog 117 #[.pointer (some ⟨rb, ro, none⟩), .int .u64 k] w fun e w' => e = .returned (.tuple #[.int .i64 0, .int .i64 0, .bool false]) ∧ w' = w := by
  go_enter Tryz.func117, Tryz.ntmps117
  go_wp2
  go_ret3
  exact ⟨rfl, rfl⟩
theorem seek_any (rb ro : Nat) (k : Int) (w : World) (v : Value) (P : Nat → Prop) (ps : List Pc) (hc : w.cell? ⟨rb, ro, none⟩ = some v) (h : Pcs w P v ps) (hR : Ris (esOf ps).flatten) (hps : ps ≠ []) (hn : (ps.length : Int) ≤ 4000000)
    (hne : ∀ p ∈ ps.dropLast, p.es ≠ []) (hl : ∀ p ∈ ps, p.es.length ≤ 513) :
    Calls Tryz.prog 117 #[.pointer (some ⟨rb, ro, none⟩), .int .u64 k] w fun e w' => ∃ (i j : Nat) (is : Bool), e = .returned (.tuple #[.int .i64 (i : Int), .int .i64 (j : Int), .bool is]) ∧ Sk (esOf ps) k i j is ∧ Below w.heap.size w w' := by
  obtain ⟨m, hm⟩ : ∃ m, ps.length = m + 1 := ⟨ps.length - 1, by have := List.length_pos_iff.2 hps; omega⟩
  obtain ⟨g, c, rfl, _, hg, hcap⟩ := h.own.frm (by omega)
  rw [hm] at hc
  have hrow : TRow layP w (some ⟨g, 0, none⟩) m (ps.take m) := (h.own.row rfl).cut m (by omega)
  have hne2 : ∀ p ∈ ps.take m, ∃ x, p.es.getLast? = some x := fun p hp => by
    have := hne p (by rw [List.dropLast_eq_take, hm]; exact hp)
    cases he : p.es.getLast? with
    | none => exact absurd (List.getLast?_eq_none_iff.1 he) this
    | some x => exact ⟨x, rfl⟩
  have hmI : (m : Int) ≤ 4000000 := by omega
  have HS1 := hide (fun q => bsP_any (some ⟨g, 0, none⟩) m c (ps.take m) k (w.drewN q) (hrow.below (below_drewN (Below.refl _ _) q)) (fun p hp => (h.each p (List.mem_of_mem_take hp)).below (below_drewN (Below.refl _ _) q)) (fun p hp => by have := hl p (List.mem_of_mem_take hp); omega) (lris_of hR m) hne2 hmI)
  have hce : (m : Int) + 1 ≤ (c : Int) := by omega
  have HP := hide h
  have HR := hide hR
  have HM := hide hm
  have HL := hide hl
  have hlt : rb < w.heap.size := World.block_lt_of_cell? w _ hc
  clear h hR hl hne hps hn hrow hne2 hg hcap hm
  go_enter Tryz.func117, Tryz.ntmps117
  go_wp2_with fail
  go_quiet (fail)
  go_wp2_with fail
  refine (HS1.out _).mono ?_
  rintro e w2 ⟨i, is1, rfl, hLP, hb2⟩
  have hb02 := Below.on (below_drewN (Below.refl w.heap.size w) nq) hb2
  obtain ⟨p, hp⟩ := get_ex (L := ps) (i := i) (by have := hLP.le; rw [List.length_take] at this; have := HM.out; omega)
  have hpm := List.mem_of_getElem? hp
  have hP2 := HP.out.below hb02
  have c0 : w2.cell? ⟨g, i * 1 + 0, none⟩ = some (.slice p.a p.es.length p.c) := hP2.own.cell hp 0 rfl
  rw [Nat.mul_one, Nat.add_zero] at c0
  have hc2 : w2.cell? ⟨rb, ro, none⟩ = some (.slice (some ⟨g, 0, none⟩) (m + 1) c) := (hb02.cell (p := ⟨rb, ro, none⟩) hlt).trans hc
  have hr2 : TRow layN w2 p.a p.es.length p.es := (hP2.each p hpm).row rfl
  have hpl : (p.es.length : Int) ≤ 513 := by have := HL.out p hpm; omega
  have HS2 := hide (bsE_any p.a p.es.length p.c p.es k w2 hr2 ((ris_pieces HR.out).1 p hpm) (by omega))
  have hiI : (i : Int) < (m : Int) + 1 := by have := get_lt hp; have := HM.out; omega
  have hiN : i < m + 1 := by omega
  have HLP := hide hLP
  have HP0 := hide hp
  have HB02 := hide hb02
  clear hLP hp hpm hP2 hr2 hpl hb02 hb2 HS1 hc
  go_wp2_with fail
  refine HS2.out.mono ?_
  rintro e w3 ⟨j, is, rfl, hLB, hb3⟩
  have HN := hide (sk_mk HM.out HR.out HLP.out HP0.out hLB)
  have HB := hide (Below.on HB02.out hb3)
  clear hLB hb3 HS2 c0 hc2
  go_wp2
  go_ret3
  exact ⟨i, j, is, rfl, HN.out, HB.out⟩
end Go.Proofs.YtafkammiehcdjaaGreatDoor
/-
  Entries by rising keys in memory; has, get, next, keys.
-/
namespace Go.Proofs.YtafkammiehcdjaaGreatDoor
open Go.RowKit
/-- Entries by rising keys; their blocks are of P. -/
structure Rise (w : World) (P : Nat → Prop) (v : Value) (L : List Ent) : Prop where
  ex : ∃ ps, Pcs w P v ps ∧ (∀ p ∈ ps, p.es ≠ [] ∧ p.es.length ≤ 512) ∧ (esOf ps).flatten = L
  ris : Ris L
  few : (L.length : Int) ≤ 2000000
theorem Rise.below {w w' : World} {P : Nat → Prop} {v : Value} {L : List Ent} (h : Rise w P v L) (hb : Below w.heap.size w w') : Rise w' P v L := by
  obtain ⟨ps, h1, h2, h3⟩ := h.ex
  exact ⟨⟨ps, h1.below hb, h2, h3⟩, h.ris, h.few⟩
theorem Rise.but {S : Nat → Prop} {w w' : World} {P : Nat → Prop} {v : Value} {L : List Ent} (h : Rise w P v L) (hb : But S w w') (hS : ∀ b, P b → ¬ S b) : Rise w' P v L := by
  obtain ⟨ps, h1, h2, h3⟩ := h.ex
  exact ⟨⟨ps, h1.but hb hS, h2, h3⟩, h.ris, h.few⟩
theorem Rise.mono {w : World} {P Q : Nat → Prop} {v : Value} {L : List Ent} (h : Rise w P v L) (hQ : ∀ b, P b → Q b) : Rise w Q v L := by
  obtain ⟨ps, h1, h2, h3⟩ := h.ex
  exact ⟨⟨ps, h1.mono hQ, h2, h3⟩, h.ris, h.few⟩
theorem Pcs.nil (w : World) (P : Nat → Prop) : Pcs w P (.slice .none 0 0) [] :=
  ⟨Own.nil _ _ _ _, fun p hp => (by cases hp), fun b hb => (by simp [Value.ownBlock] at hb), fun p hp => (by cases hp), fun i j p q b h => (by simp at h)⟩
theorem Rise.nil (w : World) (P : Nat → Prop) : Rise w P (.slice .none 0 0) [] := ⟨⟨[], Pcs.nil w P, fun p hp => (by cases hp), rfl⟩, List.Pairwise.nil, by simp⟩
theorem pcs_len {ps : List Pc} (h : ∀ p ∈ ps, p.es ≠ [] ∧ p.es.length ≤ 512) : ps.length ≤ (esOf ps).flatten.length := by
  have := flat_len_ge (ps := esOf ps) (fun l hl => by obtain ⟨p, hp, rfl⟩ := List.mem_map.1 hl; exact (h p hp).1)
  rwa [List.length_map] at this
theorem set2_heap {w : World} {g : Nat} {T : TypeId} {a b : Value} {fr : Nat × Nat} (x y : Value) (h : w.heap[g]? = some (.cells #[a, b] T fr)) : ((w.setCell ⟨g, 0, none⟩ x).setCell ⟨g, 1, none⟩ y).heap[g]? = some (.cells #[x, y] T fr) := by
  have h1 := set1_heap (i := 0) x h
  exact set1_heap (i := 1) y h1
section
variable {rb ro : Nat} {k : Int} {w : World} {v : Value} {P : Nat → Prop} {L : List Ent}
theorem rise_has (hc : w.cell? ⟨rb, ro, none⟩ = some v) (h : Rise w P v L) :
    Calls Tryz.prog 59 #[.pointer (some ⟨rb, ro, none⟩), .int .u64 k] w fun e w' => e = .returned (.bool (look k L).isSome) ∧ Below w.heap.size w w' := by
  obtain ⟨ps, h1, h2, rfl⟩ := h.ex
  by_cases hps : ps = []
  · subst hps
    obtain ⟨a, c, rfl, _, _⟩ := own_form h1.own
    have HS := hide (seek_nil rb ro k w a c hc)
    clear h h1 h2
    show Calls Tryz.prog _ _ _ fun e w' => e = .returned (.bool false) ∧ _
    go_enter Tryz.func59, Tryz.ntmps59
    go_wp2_with fail
    refine HS.out.mono ?_
    rintro e w1 ⟨rfl, hw⟩
    rw [hw]; clear hw w1
    go_wp2
    go_ret
    exact ⟨rfl, Below.refl _ _⟩
  · have hlen := pcs_len h2
    have HS := hide (seek_any rb ro k w v P ps hc h1 h.ris hps (by have := h.few; omega) (fun p hp => (h2 p (List.dropLast_subset _ hp)).1) (fun p hp => by have := (h2 p hp).2; omega))
    have HR := hide h.ris
    clear h h1 h2 hlen
    go_enter Tryz.func59, Tryz.ntmps59
    go_wp2_with fail
    refine HS.out.mono ?_
    rintro e w1 ⟨i, j, is, rfl, hk, hb⟩
    have HN := hide (hk.look HR.out)
    have HB := hide hb
    clear hk hb HS
    go_wp2
    go_ret
    exact ⟨by rw [← HN.out]; rfl, HB.out⟩
theorem rise_get (hc : w.cell? ⟨rb, ro, none⟩ = some v) (h : Rise w P v L) :
    Calls Tryz.prog 121 #[.pointer (some ⟨rb, ro, none⟩), .int .u64 k] w fun e w' => e = .returned (.int .u64 ((look k L).getD 0)) ∧ Below w.heap.size w w' := by
  obtain ⟨ps, h1, h2, rfl⟩ := h.ex
  by_cases hps : ps = []
  · subst hps
    obtain ⟨a, c, rfl, _, _⟩ := own_form h1.own
    have HS := hide (seek_nil rb ro k w a c hc)
    clear h h1 h2
    show Calls Tryz.prog _ _ _ fun e w' => e = .returned (.int .u64 0) ∧ _
    go_enter Tryz.func121, Tryz.ntmps121
    go_wp2_with fail
    refine HS.out.mono ?_
    rintro e w1 ⟨rfl, hw⟩
    rw [hw]; clear hw w1
    go_wp2
    go_ret
    exact ⟨rfl, Below.refl _ _⟩
  · have hlen := pcs_len h2
    have HS := hide (seek_any rb ro k w v P ps hc h1 h.ris hps (by have := h.few; omega) (fun p hp => (h2 p (List.dropLast_subset _ hp)).1) (fun p hp => by have := (h2 p hp).2; omega))
    have HR := hide h.ris
    have HP := hide h1
    have hlt : rb < w.heap.size := World.block_lt_of_cell? w _ hc
    obtain ⟨g, c, rfl, _, _, _⟩ := h1.own.frm (List.length_pos_iff.2 hps)
    have HF := hide h.few
    clear h h1 h2
    go_enter Tryz.func121, Tryz.ntmps121
    go_wp2_with fail
    refine HS.out.mono ?_
    rintro e w1 ⟨i, j, is, rfl, hk, hb⟩
    cases is with
    | false =>
      have HN := hide (hk.no HR.out)
      have HB := hide hb
      clear hk hb HS
      go_wp2
      go_ret
      exact ⟨by rw [HN.out]; rfl, HB.out⟩
    | true =>
      obtain ⟨x, hx⟩ := hk.is.1 rfl
      have HN := hide (hk.yes hx)
      obtain ⟨p, hp⟩ := get_ex (L := ps) (i := i) (by have := hk.lt; simpa using this)
      rw [esOf_getD hp] at hx
      have hP1 := HP.out.below hb
      have c0 : w1.cell? ⟨g, i * 1 + 0, none⟩ = some (.slice p.a p.es.length p.c) := hP1.own.cell hp 0 rfl
      rw [Nat.mul_one, Nat.add_zero] at c0
      have hc2 : w1.cell? ⟨rb, ro, none⟩ = some (.slice (some ⟨g, 0, none⟩) ps.length c) := (hb.cell (p := ⟨rb, ro, none⟩) hlt).trans hc
      have hjl := get_lt hx
      obtain ⟨pg, pc, hpv, _, _, _⟩ := (hP1.each p (List.mem_of_getElem? hp)).frm (by omega)
      have hrow := hP1.each p (List.mem_of_getElem? hp)
      obtain ⟨pa, pcc, es⟩ := p
      obtain ⟨rfl, rfl⟩ : pa = some ⟨pg, 0, none⟩ ∧ pcc = pc := by injection hpv with e1 e2 e3; exact ⟨e1, e3⟩
      have c1 : w1.cell? ⟨pg, j * 2 + 1, none⟩ = some (.int .u64 x) := hrow.cell hx 1 rfl
      have hiI : (i : Int) < (ps.length : Int) := by have := get_lt hp; omega
      have hjI : (j : Int) < (es.length : Int) := by have : j < es.length := hjl; omega
      have hiN : i < ps.length := get_lt hp
      have hjN : j < es.length := hjl
      have HB := hide hb
      have c0' : w1.cell? ⟨g, i, none⟩ = some (.slice (some ⟨pg, 0, none⟩) es.length pcc) := c0
      clear hk hb HS hx hp hP1 hjl hrow hpv c0 hc
      go_wp2
      go_ret
      exact ⟨by rw [HN.out]; rfl, HB.out⟩
/-- What next answers. -/
def nxtV (o : Option Ent) : Value := match o with
  | some x => .tuple #[.agg #[.int .u64 x.1, .int .u64 x.2], .bool true]
  | .none => .tuple #[.agg #[.int .u64 0, .int .u64 0], .bool false]
theorem rise_next (hc : w.cell? ⟨rb, ro, none⟩ = some v) (h : Rise w P v L) :
    Calls Tryz.prog 126 #[.pointer (some ⟨rb, ro, none⟩), .int .u64 k] w fun e w' => e = .returned (nxtV (nxt k L)) ∧ Below w.heap.size w w' := by
  obtain ⟨ps, h1, h2, rfl⟩ := h.ex
  have hlt : rb < w.heap.size := World.block_lt_of_cell? w _ hc
  obtain ⟨W0, hW0⟩ : ∃ W0, W0 = w.alloc (.cells #[.int .u64 0, .int .u64 0] 148) := ⟨_, rfl⟩
  have hb0 : Below w.heap.size w W0 := by rw [hW0]; exact below_alloc1 w _
  have hn0 : W0.heap[w.heap.size]? = some (.cells #[.int .u64 0, .int .u64 0] 148 (0, 0)) := by rw [hW0]; exact heap_new _ _
  have hc0 : W0.cell? ⟨rb, ro, none⟩ = some v := (hb0.cell (p := ⟨rb, ro, none⟩) hlt).trans hc
  have hs0 : w.heap.size < W0.heap.size := (Array.getElem?_eq_some_iff.1 hn0).1
  by_cases hps : ps = []
  · subst hps
    obtain ⟨a, c, rfl, _, _⟩ := own_form h1.own
    have HS := hide (seek_nil rb ro k W0 a c hc0)
    have HB0 := hide hb0
    have f0 := frz hn0 0
    have f1 := frz hn0 1
    have d0 := cell_at (i := 0) hn0 rfl
    have d1 := cell_at (i := 1) hn0 rfl
    have HN0 := hide hn0
    have hc0' : W0.cell? ⟨rb, ro, none⟩ = some (.slice a 0 c) := hc0
    clear h h1 h2 hc hn0 hb0
    show Calls Tryz.prog _ _ _ fun e w' => e = .returned (nxtV .none) ∧ _
    go_enter Tryz.func126, Tryz.ntmps126
    go_wp2_with fail
    rw [← hW0]
    clear hW0
    refine HS.out.mono ?_
    rintro e w1 ⟨rfl, hw⟩
    rw [hw]; clear hw w1
    go_wp2
    refine bodyPost_ret (results_ct rfl _ _ w.heap.size 148 #[.int .u64 0, .int .u64 0] (0, 0) _ rfl (set2_heap _ _ HN0.out) Tryz.underlying148 rfl (by kernel_rfl)) rfl ⟨rfl, (HB0.out.setCell (Nat.le_refl _) _).setCell (Nat.le_refl _) _⟩
  · have hlen := pcs_len h2
    have hP0 := h1.below hb0
    have HS := hide (seek_any rb ro k W0 v P ps hc0 hP0 h.ris hps (by have := h.few; omega) (fun p hp => (h2 p (List.dropLast_subset _ hp)).1) (fun p hp => by have := (h2 p hp).2; omega))
    have HP := hide hP0
    have HB0 := hide hb0
    have HN0 := hide hn0
    obtain ⟨g, c, rfl, _, _, _⟩ := h1.own.frm (List.length_pos_iff.2 hps)
    have hpos : 0 < ps.length := List.length_pos_iff.2 hps
    have hz : ((ps.length : Int) == 0) = false := by rw [beq_eq_false_iff_ne]; omega
    have hzn : ¬ ps.length = 0 := by omega
    have hrs : rb < W0.heap.size := by omega
    have HK := hide hs0
    clear h h1 h2 hlen hP0 hb0 hn0 hc
    go_enter Tryz.func126, Tryz.ntmps126
    go_wp2_with fail
    rw [← hW0]
    clear hW0
    refine HS.out.mono ?_
    rintro e w1 ⟨i, j, is, rfl, hk, hb⟩
    have HN := hide hk.nxt
    obtain ⟨p, hp⟩ := get_ex (L := ps) (i := i) (by have := hk.lt; simpa using this)
    have hjle := hk.le
    rw [esOf_getD hp] at HN hjle
    have hP1 := HP.out.below hb
    have c0 : w1.cell? ⟨g, i * 1 + 0, none⟩ = some (.slice p.a p.es.length p.c) := hP1.own.cell hp 0 rfl
    rw [Nat.mul_one, Nat.add_zero] at c0
    have hc2 : w1.cell? ⟨rb, ro, none⟩ = some (.slice (some ⟨g, 0, none⟩) ps.length c) := (hb.cell (p := ⟨rb, ro, none⟩) hrs).trans hc0
    have hiI : (i : Int) < (ps.length : Int) := by have := get_lt hp; omega
    have hiN : i < ps.length := get_lt hp
    have hn1 : w1.heap[w.heap.size]? = some (.cells #[.int .u64 0, .int .u64 0] 148 (0, 0)) := (hb.block _ HK.out).trans HN0.out
    have f0 := frz hn1 0
    have f1 := frz hn1 1
    have d0 : w1.cell? ⟨w.heap.size, 0, none⟩ = some (.int .u64 0) := cell_at (i := 0) hn1 rfl
    have d1 : w1.cell? ⟨w.heap.size, 1, none⟩ = some (.int .u64 0) := cell_at (i := 1) hn1 rfl
    have HN1 := hide hn1
    have HB := hide (Below.on HB0.out hb)
    have hrow := hP1.each p (List.mem_of_getElem? hp)
    obtain ⟨pa, pcc, es⟩ := p
    have hjle' : j ≤ es.length := hjle
    have HN' : Hid (nxt k (esOf ps).flatten = es[j]?) := HN
    have hrow' : Own layN 148 w1 0 (.slice pa es.length pcc) es := hrow
    have c0' : w1.cell? ⟨g, i, none⟩ = some (.slice pa es.length pcc) := c0
    clear HN hjle c0 hrow hk hb HS hp hP1 hn1 HP HB0 hc0 HN0 HK
    by_cases hj : j = es.length
    · have hN : nxt k (esOf ps).flatten = none := by rw [HN'.out, List.getElem?_eq_none (by omega)]
      have HNN := hide hN
      have hjb : ((j : Int) == (es.length : Int)) = true := by rw [beq_iff_eq]; omega
      clear hrow' hN HN' hjle'
      subst hj
      go_wp2
      refine bodyPost_ret (results_ct rfl _ _ w.heap.size 148 #[.int .u64 0, .int .u64 0] (0, 0) _ rfl (set2_heap _ _ HN1.out) Tryz.underlying148 rfl (by kernel_rfl)) rfl ⟨by rw [HNN.out]; rfl, (HB.out.setCell (Nat.le_refl _) _).setCell (Nat.le_refl _) _⟩
    · have hjN : j < es.length := by omega
      obtain ⟨x, hx⟩ := get_ex (L := es) (i := j) hjN
      have hN : nxt k (esOf ps).flatten = some x := by rw [HN'.out, hx]
      have HNN := hide hN
      obtain ⟨pg, pc, hpv, _, _, _⟩ := hrow'.frm (by omega)
      cases hpv
      have e0 : w1.cell? ⟨pg, j * 2, none⟩ = some (.int .u64 x.1) := hrow'.cell hx 0 rfl
      have e1 : w1.cell? ⟨pg, j * 2 + 1, none⟩ = some (.int .u64 x.2) := hrow'.cell hx 1 rfl
      have hjI : (j : Int) < (es.length : Int) := by omega
      have hjb : ((j : Int) == (es.length : Int)) = false := by rw [beq_eq_false_iff_ne]; omega
      have hjn : ¬ j = es.length := hj
      have hjn2 : ¬ (j : Int) = (es.length : Int) := by omega
      clear hrow' hN HN' hj hx hjle'
      go_wp2
      refine bodyPost_ret (results_ct rfl _ _ w.heap.size 148 #[.int .u64 x.1, .int .u64 x.2] (0, 0) _ rfl (set2_heap _ _ HN1.out) Tryz.underlying148 rfl (by kernel_rfl)) rfl ⟨by rw [HNN.out]; rfl, (HB.out.setCell (Nat.le_refl _) _).setCell (Nat.le_refl _) _⟩
end
end Go.Proofs.YtafkammiehcdjaaGreatDoor
