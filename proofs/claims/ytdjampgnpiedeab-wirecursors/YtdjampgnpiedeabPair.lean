/-
  The two cursors side by side: each call of the one, then the same call of the other.
-/
import Derived.Test.YtdjampgnpiedeabRefC
import Derived.Test.YtdjampgnpiedeabByte
import Derived.Test.YtdjampgnpiedeabNil
namespace Go.Proofs.Ytdjampgnpiedeab
open Go.RowKit

/-- Both nil, or both over the same bytes at the same place with the same fault; all that they own lies from 'base' on and below 'top'. -/
def Sit (w : World) (base top : Nat) (c r : Value) : Prop :=
  (c = .pointer none ∧ r = .pointer none) ∨
  ∃ (g g' : Nat) (a : Option Addr) (n k : Nat) (a' : Option Addr) (k' : Nat) (zs : List Int) (p : Nat) (f : Int), c = .pointer (some ⟨g, 0, none⟩) ∧ r = .pointer (some ⟨g', 0, none⟩) ∧ Cur 36 w base g a n k zs p f ∧ Cur 38 w base g' a' n k' zs p f ∧
    (base ≤ g ∧ base ≤ g' ∧ g < top ∧ g' < top) ∧ (∀ j, (Value.slice a n k).ownBlock = some j → j < top) ∧ (∀ j, (Value.slice a' n k').ownBlock = some j → j < top)

theorem own_of_block {w w' : World} {base : Nat} {v : Value} {n : Nat} {xs : List Value} (h : w.ownsRow base 5 1 v n xs) (hb : ∀ j, v.ownBlock = some j → w'.heap[j]? = w.heap[j]?) : w'.ownsRow base 5 1 v n xs := by
  refine ⟨h.1, ?_⟩
  rcases h.2 with hn | ⟨g, cap, cur, hv, hg, hh, r⟩
  · exact .inl hn
  · exact .inr ⟨g, cap, cur, hv, hg, by rw [hb g (by rw [hv]; rfl)]; exact hh, r⟩
theorem cur_of_block {ty : TypeId} {w w' : World} {base g : Nat} {a : Option Addr} {n c : Nat} {zs : List Int} {p : Nat} {f : Int} (h : Cur ty w base g a n c zs p f) (hg : w'.heap[g]? = w.heap[g]?) (hb : ∀ j, (Value.slice a n c).ownBlock = some j → w'.heap[j]? = w.heap[j]?) : Cur ty w' base g a n c zs p f :=
  ⟨hg.trans h.blk, own_of_block h.own hb, h.u8, h.le, h.reach, h.ne⟩
/-- A cursor of another kind is left alone. -/
theorem cur_other {ty ty' : TypeId} {w w' : World} {base g : Nat} {a : Option Addr} {n c : Nat} {zs : List Int} {p : Nat} {f : Int} {g' : Nat} {cs : Array Value} (h : Cur ty w base g a n c zs p f) (hg : w.grownBy w' (some g')) (hb : w.heap[g']? = some (.cells cs ty' (0, 0))) (h1 : ty ≠ ty') (h2 : ty' ≠ 5) : Cur ty w' base g a n c zs p f := by
  refine h.kept hg ?_ (.inr ?_)
  · intro e
    cases e
    rw [h.blk] at hb; simp at hb; exact h1 hb.2
  · intro e
    rcases h.own.2 with ⟨hv, _⟩ | ⟨k, cap, cur, hv, _, hk, _⟩
    · rw [hv] at e; simp [Value.ownBlock] at e
    · rw [hv] at e; simp [Value.ownBlock] at e; subst e
      rw [hb] at hk; simp at hk; exact h2 hk.2

theorem Sit.keep {w w' : World} {base top : Nat} {c r : Value} (h : Sit w base top c r) (hb : Below top w w') : Sit w' base top c r := by
  rcases h with h | ⟨g, g', a, n, k, a', k', zs, p, f, hc, hr, h1, h2, h3, h4, h5⟩
  · exact .inl h
  · exact .inr ⟨g, g', a, n, k, a', k', zs, p, f, hc, hr, cur_of_block h1 (hb.block g h3.2.2.1) (fun j hj => hb.block j (h4 j hj)), cur_of_block h2 (hb.block g' h3.2.2.2) (fun j hj => hb.block j (h5 j hj)), h3, h4, h5⟩

/-- What one call of each leaves: the program's answer, then the document's, the same. -/
theorem two_turn {w w1 w2 : World} {base top g g' : Nat} {a : Option Addr} {n k : Nat} {a' : Option Addr} {k' : Nat} {zs : List Int} {p2 : Nat} {f2 : Int}
    (h1 : Cur 36 w1 base g a n k zs p2 f2) (hg1 : w.grownBy w1 (some g)) (h2 : Cur 38 w2 base g' a' n k' zs p2 f2) (hg2 : w1.grownBy w2 (some g')) {cs : Array Value} (hblk : w1.heap[g']? = some (.cells cs 38 (0, 0)))
    (h3 : base ≤ g ∧ base ≤ g' ∧ g < top ∧ g' < top) (h4 : ∀ j, (Value.slice a n k).ownBlock = some j → j < top) (h5 : ∀ j, (Value.slice a' n k').ownBlock = some j → j < top) (hbase : base ≤ w.heap.size) :
    Sit w2 base top (.pointer (some ⟨g, 0, none⟩)) (.pointer (some ⟨g', 0, none⟩)) ∧ Below base w w2 := by
  refine ⟨.inr ⟨g, g', a, n, k, a', k', zs, p2, f2, rfl, rfl, cur_other h1 hg2 hblk (by decide) (by decide), h2, h3, h4, h5⟩, ?_⟩
  have b1 : Below base w w1 := (Below.refl _ _).grown hg1 hbase (fun j hj => by cases hj; exact h3.1)
  exact b1.grown hg2 (Nat.le_trans hbase hg1.size) (fun j hj => by cases hj; exact h3.2.1)

theorem two_byte {w : World} {base top : Nat} {c r : Value} (h : Sit w base top c r) (hbase : base ≤ w.heap.size) :
    Calls Try.prog 9 #[c] w fun e w1 => ∃ x, e = .returned (.int .u8 x) ∧ Calls Try.prog 10 #[r] w1 fun e' w2 => e' = .returned (.int .u8 x) ∧ Sit w2 base top c r ∧ Below base w w2 := by
  have h0 := h
  rcases h with ⟨rfl, rfl⟩ | ⟨g, g', a, n, k, a', k', zs, p, f, rfl, rfl, h1, h2, h3, h4, h5⟩
  · refine (nbyte w).mono fun e w1 ⟨he, hb⟩ => ⟨0, he, (rnbyte w1).mono fun e' w2 ⟨he', hb'⟩ => ⟨he', .inl ⟨rfl, rfl⟩, (Below.trans (hb.mono hbase) (hb'.mono (Nat.le_trans hbase hb.size)))⟩⟩
  · refine (cy_any base g a n k zs p f w h1).mono fun e w1 ⟨he, hc, hg⟩ => ⟨_, he, ?_⟩
    have h2' := cur_other h2 hg h1.blk (by decide) (by decide)
    refine (rb_any base g' a' n k' zs p f w1 h2').mono fun e' w2 ⟨he', hc', hg'⟩ => ⟨he', ?_⟩
    exact two_turn hc hg hc' hg' h2'.blk h3 h4 h5 hbase
theorem two_uvarint {w : World} {base top : Nat} {c r : Value} (h : Sit w base top c r) (hbase : base ≤ w.heap.size) :
    Calls Try.prog 11 #[c] w fun e w1 => ∃ x, e = .returned (.int .u64 x) ∧ Calls Try.prog 12 #[r] w1 fun e' w2 => e' = .returned (.int .u64 x) ∧ Sit w2 base top c r ∧ Below base w w2 := by
  rcases h with ⟨rfl, rfl⟩ | ⟨g, g', a, n, k, a', k', zs, p, f, rfl, rfl, h1, h2, h3, h4, h5⟩
  · refine (nuvarint w).mono fun e w1 ⟨he, hb⟩ => ⟨0, he, (rnuvarint w1).mono fun e' w2 ⟨he', hb'⟩ => ⟨he', .inl ⟨rfl, rfl⟩, (Below.trans (hb.mono hbase) (hb'.mono (Nat.le_trans hbase hb.size)))⟩⟩
  · refine (cu_any base g a n k zs p f w h1).mono fun e w1 ⟨he, hc, hg⟩ => ⟨_, he, ?_⟩
    have h2' := cur_other h2 hg h1.blk (by decide) (by decide)
    refine (rcu_any base g' a' n k' zs p f w1 h2').mono fun e' w2 ⟨he', hc', hg'⟩ => ⟨he', ?_⟩
    exact two_turn hc hg hc' hg' h2'.blk h3 h4 h5 hbase
theorem two_varint {w : World} {base top : Nat} {c r : Value} (h : Sit w base top c r) (hbase : base ≤ w.heap.size) :
    Calls Try.prog 13 #[c] w fun e w1 => ∃ x, e = .returned (.int .i64 x) ∧ Calls Try.prog 14 #[r] w1 fun e' w2 => e' = .returned (.int .i64 x) ∧ Sit w2 base top c r ∧ Below base w w2 := by
  rcases h with ⟨rfl, rfl⟩ | ⟨g, g', a, n, k, a', k', zs, p, f, rfl, rfl, h1, h2, h3, h4, h5⟩
  · refine (nvarint w).mono fun e w1 ⟨he, hb⟩ => ⟨0, he, (rnvarint w1).mono fun e' w2 ⟨he', hb'⟩ => ⟨he', .inl ⟨rfl, rfl⟩, (Below.trans (hb.mono hbase) (hb'.mono (Nat.le_trans hbase hb.size)))⟩⟩
  · refine (cv_any base g a n k zs p f w h1).mono fun e w1 ⟨he, hc, hg⟩ => ⟨_, he, ?_⟩
    have h2' := cur_other h2 hg h1.blk (by decide) (by decide)
    refine (rcv_any base g' a' n k' zs p f w1 h2').mono fun e' w2 ⟨he', hc', hg'⟩ => ⟨he', ?_⟩
    exact two_turn hc hg hc' hg' h2'.blk h3 h4 h5 hbase
theorem two_left {w : World} {base top : Nat} {c r : Value} (h : Sit w base top c r) (hbase : base ≤ w.heap.size) :
    Calls Try.prog 17 #[c] w fun e w1 => ∃ x, e = .returned (.int .i64 x) ∧ Calls Try.prog 18 #[r] w1 fun e' w2 => e' = .returned (.int .i64 x) ∧ Sit w2 base top c r ∧ Below base w w2 := by
  have h0 := h
  rcases h with ⟨rfl, rfl⟩ | ⟨g, g', a, n, k, a', k', zs, p, f, rfl, rfl, h1, h2, h3, h4, h5⟩
  · refine (nleft w).mono fun e w1 ⟨he, hb⟩ => ⟨0, he, (rnleft w1).mono fun e' w2 ⟨he', hb'⟩ => ⟨he', .inl ⟨rfl, rfl⟩, (Below.trans (hb.mono hbase) (hb'.mono (Nat.le_trans hbase hb.size)))⟩⟩
  · refine (left_any g n k p a w h1.cell0 h1.cell1 h1.le h1.reach).mono fun e w1 ⟨he, m, hw⟩ => ⟨_, he, ?_⟩
    subst hw
    refine (rleft_any g' n k' p a' (w.drewN m) h2.cell0 h2.cell1 h2.le h2.reach).mono fun e' w2 ⟨he', m', hw'⟩ => ⟨he', ?_⟩
    subst hw'
    have hb : ∀ B, Below B w ((w.drewN m).drewN m') := fun B => below_drewN (below_drewN (Below.refl _ _) m) m'
    exact ⟨h0.keep (hb _), hb _⟩
theorem two_at {w : World} {base top : Nat} {c r : Value} (h : Sit w base top c r) (hbase : base ≤ w.heap.size) :
    Calls Try.prog 19 #[c] w fun e w1 => ∃ x, e = .returned (.int .i64 x) ∧ Calls Try.prog 20 #[r] w1 fun e' w2 => e' = .returned (.int .i64 x) ∧ Sit w2 base top c r ∧ Below base w w2 := by
  have h0 := h
  rcases h with ⟨rfl, rfl⟩ | ⟨g, g', a, n, k, a', k', zs, p, f, rfl, rfl, h1, h2, h3, h4, h5⟩
  · refine (nat w).mono fun e w1 ⟨he, hb⟩ => ⟨0, he, (rnat w1).mono fun e' w2 ⟨he', hb'⟩ => ⟨he', .inl ⟨rfl, rfl⟩, (Below.trans (hb.mono hbase) (hb'.mono (Nat.le_trans hbase hb.size)))⟩⟩
  · refine (at_any g p w h1.cell1).mono fun e w1 ⟨he, hw⟩ => ⟨_, he, ?_⟩
    subst hw
    refine (rat_any g' p w1 h2.cell1).mono fun e' w2 ⟨he', hw'⟩ => ⟨he', ?_⟩
    subst hw'
    exact ⟨h0, Below.refl _ _⟩
theorem two_fault {w : World} {base top : Nat} {c r : Value} (h : Sit w base top c r) (hbase : base ≤ w.heap.size) :
    Calls Try.prog 21 #[c] w fun e w1 => ∃ x, e = .returned (.int .i64 x) ∧ Calls Try.prog 22 #[r] w1 fun e' w2 => e' = .returned (.int .i64 x) ∧ Sit w2 base top c r ∧ Below base w w2 := by
  have h0 := h
  rcases h with ⟨rfl, rfl⟩ | ⟨g, g', a, n, k, a', k', zs, p, f, rfl, rfl, h1, h2, h3, h4, h5⟩
  · refine (nfault w).mono fun e w1 ⟨he, hb⟩ => ⟨1, he, (rnfault w1).mono fun e' w2 ⟨he', hb'⟩ => ⟨he', .inl ⟨rfl, rfl⟩, (Below.trans (hb.mono hbase) (hb'.mono (Nat.le_trans hbase hb.size)))⟩⟩
  · refine (fault_any g f w h1.cell2).mono fun e w1 ⟨he, hw⟩ => ⟨_, he, ?_⟩
    subst hw
    refine (rfault_any g' f w1 h2.cell2).mono fun e' w2 ⟨he', hw'⟩ => ⟨he', ?_⟩
    subst hw'
    exact ⟨h0, Below.refl _ _⟩

/-! ### Bytes -/
def nextBy (zs : List Int) (p : Nat) (f k : Int) : List Int × Nat × Int :=
  if f ≠ 0 then ([], p, f) else if k < 0 ∨ (zs.length : Int) - p < k then ([], p, 13) else ((zs.drop p).take k.toNat, p + k.toNat, 0)

theorem cb_any (base g : Nat) (a : Option Addr) (n c : Nat) (zs : List Int) (p : Nat) (f k : Int) (w : World) (h : Cur 36 w base g a n c zs p f) :
    Calls Try.prog 15 #[.pointer (some ⟨g, 0, none⟩), .int .i64 k] w fun e w' => ∃ v, e = .returned v ∧ w'.ownsRow w.heap.size 5 1 v (nextBy zs p f k).1.length ((nextBy zs p f k).1.map (Value.int .u8)) ∧ Cur 36 w' base g a n c zs (nextBy zs p f k).2.1 (nextBy zs p f k).2.2 ∧ w.grownBy w' (some g) := by
  have hl := h.len
  have hle := h.le
  unfold nextBy
  by_cases hf : f = 0
  · subst hf
    rw [if_neg (by simp)]
    by_cases he : k < 0 ∨ (zs.length : Int) - p < k
    · rw [if_pos he]
      rw [hl] at he
      exact (cb_bad base g a n c zs p k w h he).mono fun e w' ⟨he, hc, hg⟩ => ⟨_, he, World.ownsRow_nil _ _ _ _, hc, hg⟩
    · rw [if_neg he]
      obtain ⟨kN, rfl⟩ := Int.eq_ofNat_of_zero_le (show 0 ≤ k by omega)
      rw [Int.toNat_natCast]
      have e1 : ((zs.drop p).take kN).length = kN := by rw [List.length_take, List.length_drop]; omega
      rw [e1]
      exact cb_good base g a n c zs p kN w h (by omega)
  · rw [if_pos hf]
    exact (cb_fault base g a n c zs p f k w h hf).mono fun e w' ⟨he, hb⟩ => ⟨_, he, World.ownsRow_nil _ _ _ _, h.below hb, grown_below hb⟩

theorem rcb_any (base g : Nat) (a : Option Addr) (n c : Nat) (zs : List Int) (p : Nat) (f k : Int) (w : World) (h : Cur 38 w base g a n c zs p f) :
    Calls Try.prog 16 #[.pointer (some ⟨g, 0, none⟩), .int .i64 k] w fun e w' => ∃ v, e = .returned v ∧ w'.ownsRow w.heap.size 5 1 v (nextBy zs p f k).1.length ((nextBy zs p f k).1.map (Value.int .u8)) ∧ Cur 38 w' base g a n c zs (nextBy zs p f k).2.1 (nextBy zs p f k).2.2 ∧ w.grownBy w' (some g) := by
  have hl := h.len
  have hle := h.le
  unfold nextBy
  by_cases hf : f = 0
  · subst hf
    rw [if_neg (by simp)]
    by_cases he : k < 0 ∨ (zs.length : Int) - p < k
    · rw [if_pos he]
      rw [hl] at he
      exact (rcb_bad g n c p a k w h.cell0 h.cell1 h.cell2 (h.free 2) h.le h.reach he).mono fun e w' ⟨he, m, hw⟩ => by
        subst hw
        exact ⟨_, he, World.ownsRow_nil _ _ _ _, (h.below (below_drewN (Below.refl _ _) m)).setFault 13, grown_end (Below.refl _ _)⟩
    · rw [if_neg he]
      obtain ⟨kN, rfl⟩ := Int.eq_ofNat_of_zero_le (show 0 ≤ k by omega)
      rw [Int.toNat_natCast]
      have e1 : ((zs.drop p).take kN).length = kN := by rw [List.length_take, List.length_drop]; omega
      rw [e1]
      by_cases hk0 : kN = 0
      · subst hk0
        have fin : ∀ (e : Ending) (w' : World), (e = .returned (.slice none 0 0) ∧ ∃ m, w' = (w.drewN m).setCell ⟨g, 1, none⟩ (.int .i64 p)) →
            ∃ v, e = .returned v ∧ w'.ownsRow w.heap.size 5 1 v 0 (((zs.drop p).take 0).map (Value.int .u8)) ∧ Cur 38 w' base g a n c zs (p + 0) 0 ∧ w.grownBy w' (some g) := by
          rintro e w' ⟨rfl, m, rfl⟩
          exact ⟨_, rfl, World.ownsRow_nil _ _ _ _, (h.below (below_drewN (Below.refl _ _) m)).setAt p hle, grown_end (Below.refl _ _)⟩
        rcases form38 h with ⟨rfl, rfl, rfl⟩ | ⟨b, rfl, hnc, hcm⟩
        · obtain rfl : p = 0 := by omega
          exact (rcb_zero_none g w h.cell0 h.cell1 h.cell2 (h.free 1)).mono fin
        · by_cases hcp : c = p
          · obtain rfl : n = p := by omega
            subst hcp
            exact (rcb_zero_end g b c w h.cell0 h.cell1 h.cell2 (h.free 1) h.reach).mono fin
          · exact (rcb_zero g b n c p w h.cell0 h.cell1 h.cell2 (h.free 1) h.le hnc hcm hcp).mono fin
      · rcases form38 h with ⟨rfl, rfl, rfl⟩ | ⟨b, rfl, hnc, hcm⟩
        · omega
        · refine (rcb_some g b n c p kN zs w h.cell0 h.cell1 h.cell2 (h.free 1) h.lt h.le h.reach hnc hcm h.row (by omega) (by omega)).mono fun e w' ⟨v, w1, he, hown, hb, hw⟩ => ?_
          subst hw
          refine ⟨v, he, ownsRow_setCell_other hown (fun e => ?_) _, (h.below hb).setAt (p + kN) (by omega), grown_end (m := 0) hb⟩
          have h1 := (hown.lt g e).1
          have h2 := h.lt
          omega
  · rw [if_pos hf]
    exact (rcb_fault g f k w h.cell2 hf).mono fun e w' ⟨he, hw⟩ => by
      subst hw
      exact ⟨_, he, World.ownsRow_nil _ _ _ _, h, World.grownBy.refl _ _⟩
where
  form38 {w : World} {base g : Nat} {a : Option Addr} {n c : Nat} {zs : List Int} {p : Nat} {f : Int} (h : Cur 38 w base g a n c zs p f) :
      (a = none ∧ n = 0 ∧ c = 0) ∨ ∃ b, a = some ⟨b, 0, none⟩ ∧ n ≤ c ∧ c ≤ 9223372036854775807 := by
    rcases h.own.2 with ⟨hv, _⟩ | ⟨g', cap, cur, hv, hb, hg, hn, hm, _⟩
    · cases hv; exact .inl ⟨rfl, rfl, rfl⟩
    · cases hv; exact .inr ⟨g', rfl, hn, by unfold maxLen at hm; omega⟩
theorem nextBy_u8 {zs : List Int} {p : Nat} {f k : Int} (h : ∀ i : Nat, 0 ≤ zs[i]?.getD 0 ∧ zs[i]?.getD 0 ≤ 255) : ∀ i : Nat, 0 ≤ (nextBy zs p f k).1[i]?.getD 0 ∧ (nextBy zs p f k).1[i]?.getD 0 ≤ 255 := by
  intro i
  unfold nextBy
  split
  · simp
  · split
    · simp
    · by_cases hi : i < k.toNat
      · rw [List.getElem?_take, if_pos hi, List.getElem?_drop]; exact h (p + i)
      · rw [List.getElem?_take, if_neg hi]; simp
theorem nextBy_len {zs : List Int} {p : Nat} {f k : Int} : (nextBy zs p f k).1.length ≤ zs.length := by
  unfold nextBy
  split
  · simp
  · split
    · simp
    · rw [List.length_take, List.length_drop]; omega

theorem two_bytes {w : World} {base top : Nat} {c r : Value} (h : Sit w base top c r) (hbase : base ≤ w.heap.size) (k : Int) :
    Calls Try.prog 15 #[c, .int .i64 k] w fun e w1 => ∃ (v : Value) (L : List Int), e = .returned v ∧ L.length ≤ 140737488355328 ∧ (∀ i : Nat, 0 ≤ L[i]?.getD 0 ∧ L[i]?.getD 0 ≤ 255) ∧ w1.ownsRow w.heap.size 5 1 v L.length (L.map (Value.int .u8)) ∧ (∀ j, top ≤ j → j < w.heap.size → w1.heap[j]? = w.heap[j]?) ∧
      Calls Try.prog 16 #[r, .int .i64 k] w1 fun e' w2 => ∃ v', e' = .returned v' ∧ w2.ownsRow w1.heap.size 5 1 v' L.length (L.map (Value.int .u8)) ∧ w2.ownsRow w.heap.size 5 1 v L.length (L.map (Value.int .u8)) ∧ Sit w2 base top c r ∧ Below base w w2 := by
  rcases h with ⟨rfl, rfl⟩ | ⟨g, g', a, n, q, a', q', zs, p, f, rfl, rfl, h1, h2, h3, h4, h5⟩
  · refine (nbytes k w).mono fun e w1 ⟨he, hb⟩ => ⟨_, [], he, by simp, fun i => by simp, World.ownsRow_nil _ _ _ _, fun j _ hj => hb.block j hj, (rnbytes k w1).mono fun e' w2 ⟨he', hb'⟩ => ⟨_, he', World.ownsRow_nil _ _ _ _, World.ownsRow_nil _ _ _ _, .inl ⟨rfl, rfl⟩, (Below.trans (hb.mono hbase) (hb'.mono (Nat.le_trans hbase hb.size)))⟩⟩
  · refine (cb_any base g a n q zs p f k w h1).mono fun e w1 ⟨v, he, hown, hc, hg⟩ => ⟨v, _, he, Nat.le_trans nextBy_len (by have := h1.len; have := h1.reach; omega), nextBy_u8 h1.u8, hown, (fun j hj hj' => hg.block j hj' (fun e => by cases e; have := h3.2.2.1; omega)), ?_⟩
    have h2' := cur_other h2 hg h1.blk (by decide) (by decide)
    refine (rcb_any base g' a' n q' zs p f k w1 h2').mono fun e' w2 ⟨v', he', hown', hc', hg'⟩ => ⟨v', he', hown', ?_, ?_⟩
    · refine hown.kept hg' (.inr (fun e => ?_))
      have := (hown.lt g' e).1
      have := h2.lt
      omega
    · exact two_turn hc hg hc' hg' h2'.blk h3 h4 h5 hbase
end Go.Proofs.Ytdjampgnpiedeab
