/-
  WireKept: how the loop over the cuts begins.
-/
import Derived.Test.YtdjampgnpiedeaaKeptB
namespace Go.Proofs.Ytdjampgnpiedeaa
open Go.RowKit

theorem KS.start {v u1 u2 : World} {base b' g d bn : Nat} {ga da : Option Addr} {gc dc : Nat} {Z : List Int} {v2 v3 : Value} {n2 n3 : Nat} {l2 l3 : List Int} {V : Nat → Value} {nn : Nat → Nat} {L : Nat → List Int} {cs : Array Value}
    (hL : Lists v base base 8 V nn L) (hcs : (List.range 6).map (fun j => V (2 + j)) = cs.toList) (hb1 : Below (v.alloc (.cells cs 28)).heap.size (v.alloc (.cells cs 28)) u1) (ho1 : u1.ownsRow (v.alloc (.cells cs 28)).heap.size 5 1 v2 n2 (l2.map (Value.int .u8)))
    (hb2 : Below u1.heap.size u1 u2) (ho2 : u2.ownsRow u1.heap.size 5 1 v3 n3 (l3.map (Value.int .u8)))
    (e0 : V 0 = .slice ga bn gc ∧ nn 0 = bn ∧ L 0 = Z) (e1 : V 1 = .slice da bn dc ∧ nn 1 = bn ∧ L 1 = Z) (hc : Cur v b' g ga bn gc Z 0 0) (hd : Cur v b' d da bn dc Z 0 0)
    (hs : ∀ i, nn i ≤ 1048576) (hs2 : n2 ≤ 1048576) (hs3 : n3 ≤ 1048576) (hbase : base ≤ v.heap.size) :
    ∃ V nn L, KS u2 base g d bn ga da gc dc Z v2 v3 n2 n3 l2 l3 11 6 v.heap.size 6 0 0 0 (.slice none 0 0) V nn L := by
  have hb0 : Below v.heap.size v (v.alloc (.cells cs 28)) := (Below.refl _ _).alloc (Nat.le_refl _) _
  have z1 := hb0.size
  have z2 := hb1.size
  have z3 := hb2.size
  have L8 := hL.below hb0
  have L9 := L8.push (grown_of' (r := none) hb1) (fun i _ => by cases Value.ownBlock _ <;> simp) ho1 (by omega) (by omega)
  have L10 := L9.push (grown_of' (r := none) hb2) (fun i _ => by cases Value.ownBlock _ <;> simp) ho2 (by omega) (by omega)
  have L11 := L10.push (w' := u2) (World.grownBy.refl u2 none) (fun i _ => by cases Value.ownBlock _ <;> simp) (v := .slice none 0 0) (k := 0) (l := []) (World.ownsRow_nil _ _ _ _) (by omega) (by omega)
  have LP := L11.perm (M' := 11) sig sig_lt sig_ne
  have hsz : cs.size = 6 := by have := congrArg List.length hcs; simpa using this.symm
  have b02 : Below (v.alloc (.cells cs 28)).heap.size (v.alloc (.cells cs 28)) u2 := Below.on hb1 hb2
  have hC := (hc.below hb0).below b02
  have hD := (hd.below hb0).below b02
  have tab := (World.ownsRow_lit (base := base) (e := 28) (size := 1) v cs 6 hbase (by unfold maxLen; omega) (by omega)).kept (grown_of' (r := none) b02) (by simp [Value.ownBlock])
  refine ⟨_, _, _, ⟨LP, by omega, ?_, ?_, ?_, ?_, ?_, hC.blk, hD.blk, ?_, ?_⟩⟩
  · exact e0
  · exact e1
  · exact ⟨rfl, rfl, rfl⟩
  · exact ⟨rfl, rfl, rfl⟩
  · exact ⟨rfl, rfl, rfl⟩
  · rw [← hcs] at tab
    exact tab
  · intro i
    repeat' split
    all_goals first | omega | exact hs _

theorem u8_sub {Z : List Int} (h : ∀ i : Nat, 0 ≤ Z[i]?.getD 0 ∧ Z[i]?.getD 0 ≤ 255) (p q : Nat) : ∀ i : Nat, 0 ≤ ((Z.drop p).take q)[i]?.getD 0 ∧ ((Z.drop p).take q)[i]?.getD 0 ≤ 255 := by
  intro i
  rw [List.getElem?_take]
  split
  · rw [List.getElem?_drop]; exact h _
  · simp
theorem u8_take {Z : List Int} (h : ∀ i : Nat, 0 ≤ Z[i]?.getD 0 ∧ Z[i]?.getD 0 ≤ 255) (q : Nat) : ∀ i : Nat, 0 ≤ (Z.take q)[i]?.getD 0 ∧ (Z.take q)[i]?.getD 0 ≤ 255 := by
  have := u8_sub h 0 q
  simpa using this
theorem own_nil {w : World} {base n c : Nat} {xs : List Value} (h : w.ownsRow base 5 1 (.slice none n c) n xs) : n = 0 ∧ c = 0 := by
  rcases h.2 with ⟨hv, _⟩ | ⟨g, cp, cur, hv, _⟩
  · cases hv; exact ⟨rfl, rfl⟩
  · cases hv
/-- A list that a call owns, as a row, and what its place is. -/
theorem own_row {w : World} {base n : Nat} {v : Value} {zs : List Int} (h : w.ownsRow base 5 1 v n (zs.map (Value.int .u8))) (hu : ∀ i : Nat, 0 ≤ zs[i]?.getD 0 ∧ zs[i]?.getD 0 ≤ 255) : ∃ a c, v = .slice a n c ∧ Row w a n zs ∧ (a = none → n = 0 ∧ c = 0) := by
  obtain ⟨a, c, rfl, _, hr⟩ := Row.of_own h hu
  exact ⟨a, c, rfl, hr, fun e => by subst e; exact own_nil h⟩
theorem Row.front {w : World} {a : Option Addr} {n k : Nat} {zs : List Int} (h : Row w a n zs) (hk : k ≤ n) : Row w a k (zs.take k) := by
  have hl := h.len
  refine ⟨by simp; omega, u8_take h.u8 k, ?_⟩
  rcases h.cells with h0 | ⟨b, off, ha, hc⟩
  · exact .inl (by omega)
  · refine .inr ⟨b, off, ha, fun i hi => ?_⟩
    rw [hc i (by omega)]
    simp [hi, show i < zs.length by omega]
theorem Row.back {w : World} {b off n t : Nat} {zs : List Int} (h : Row w (some ⟨b, off, none⟩) n zs) (ht : t ≤ n) : Row w (some ⟨b, off + t, none⟩) (n - t) (zs.drop t) := by
  have hl := h.len
  refine ⟨by simp; omega, fun i => by rw [List.getElem?_drop]; exact h.u8 (t + i), ?_⟩
  rcases h.cells with h0 | ⟨b', off', ha, hc⟩
  · exact .inl (by omega)
  · cases ha
    refine .inr ⟨b, off + t, rfl, fun i hi => ?_⟩
    rw [show off + t + i = off + (t + i) by omega, hc (t + i) (by omega)]
    simp [show t + i < zs.length by omega]

theorem Row.backA {w : World} {x : Addr} {n t : Nat} {zs : List Int} (h : Row w (some x) n zs) (ht : t ≤ n) : Row w (some (x.add t)) (n - t) (zs.drop t) := by
  rcases h.cells with h0 | ⟨b, off, ha, _⟩
  · subst h0
    have e := List.length_eq_zero_iff.1 h.len
    subst e
    simp only [List.drop_nil, Nat.zero_sub]
    exact Row.empty _ _
  · cases ha
    have e : (⟨b, off, none⟩ : Addr).add t = ⟨b, off + t, none⟩ := by unfold Addr.add; split <;> simp_all
    rw [e]; exact h.back ht

section
variable {wr w' : World} {base g d bn : Nat} {ga da : Option Addr} {gc dc : Nat} {Z : List Int} {v2 v3 : Value} {n2 n3 : Nat} {l2 l3 : List Int} {M m A cap Pc Pd Pg : Nat} {vg : Value} {V : Nat → Value} {nn : Nat → Nat} {L : Nat → List Int}
theorem KS.takeC' (h : KS wr base g d bn ga da gc dc Z v2 v3 n2 n3 l2 l3 M m A cap Pc Pd Pg vg V nn L) (hgd : g ≠ d) (hbase : base ≤ wr.heap.size) {P' k : Nat} {v : Value} {l : List Int}
    (hv : w'.ownsRow wr.heap.size 5 1 v k (l.map (Value.int .u8))) (hk : k ≤ 1048576) (hblk : w'.heap[g]? = some (.cells #[.slice ga bn gc, .int .i64 P', .int .i64 0] 58 (0, 0))) (hg : wr.grownBy w' (some g)) :
    ∃ V' nn' L', KS w' base g d bn ga da gc dc Z v2 v3 n2 n3 l2 l3 (M + 1) m A cap P' Pd Pg vg V' nn' L' ∧ V' M = v :=
  ⟨_, _, _, h.takeC hgd hbase hv hk hblk hg, by simp⟩
theorem KS.takeD' (h : KS wr base g d bn ga da gc dc Z v2 v3 n2 n3 l2 l3 M m A cap Pc Pd Pg vg V nn L) (hgd : g ≠ d) (hbase : base ≤ wr.heap.size) {P' k : Nat} {v : Value} {l : List Int}
    (hv : w'.ownsRow wr.heap.size 5 1 v k (l.map (Value.int .u8))) (hk : k ≤ 1048576) (hblk : w'.heap[d]? = some (.cells #[.slice da bn dc, .int .i64 P', .int .i64 0] 58 (0, 0))) (hg : wr.grownBy w' (some d)) :
    ∃ V' nn' L', KS w' base g d bn ga da gc dc Z v2 v3 n2 n3 l2 l3 (M + 1) m A cap Pc P' Pg vg V' nn' L' ∧ V' M = v :=
  ⟨_, _, _, h.takeD hgd hbase hv hk hblk hg, by simp⟩
theorem KS.gotOn' (h : KS wr base g d bn ga da gc dc Z v2 v3 n2 n3 l2 l3 M m A cap Pc Pd Pg vg V nn L) {k : Nat} {vg' : Value} (hP : Pg + k ≤ 1048576)
    (hv : w'.ownsRow base 5 1 vg' (Pg + k) ((Z.take Pg ++ (Z.drop Pg).take k).map (Value.int .u8))) (hg : wr.grownBy w' vg.ownBlock) (hat : vg'.ownBlock = vg.ownBlock ∨ vg'.ownBlock = some wr.heap.size) :
    ∃ V' nn' L', KS w' base g d bn ga da gc dc Z v2 v3 n2 n3 l2 l3 M m A cap Pc Pd (Pg + k) vg' V' nn' L' ∧ ∀ j, 4 < j → V' j = V j :=
  ⟨_, _, _, h.gotOn hP (by rw [List.take_add]; exact hv) hg hat, fun j hj => by simp only [if_neg (show ¬ j = 4 by omega)]⟩
theorem KS.got (h : KS wr base g d bn ga da gc dc Z v2 v3 n2 n3 l2 l3 M m A cap Pc Pd Pg vg V nn L) : wr.ownsRow base 5 1 vg Pg ((Z.take Pg).map (Value.int .u8)) := by
  have ho := h.fam.own 4 (by have := h.hM; omega)
  rw [h.e4.1, h.e4.2.1, h.e4.2.2] at ho; exact ho
/-- What apart leaves, below and of ours. -/
theorem KS.awayB {w : World} (h : KS wr w.heap.size g d bn ga da gc dc Z v2 v3 n2 n3 l2 l3 M m A cap Pc Pd Pg vg V nn L) (hb : Below w.heap.size w wr) (ha : Away (fun k => ∃ i, i < m ∧ (V (5 + i)).ownBlock = some k) wr w') (hZ : ∀ i : Nat, 0 ≤ Z[i]?.getD 0 ∧ Z[i]?.getD 0 ≤ 255) (hp : Pc ≤ bn) (hn : bn ≤ 1048576) :
    Below w.heap.size w w' ∧ Cur w' w.heap.size g ga bn gc Z Pc 0 ∧ w'.ownsRow w.heap.size 5 1 v2 n2 (l2.map (Value.int .u8)) ∧ w'.ownsRow w.heap.size 5 1 v3 n3 (l3.map (Value.int .u8)) := by
  obtain ⟨h1, h2⟩ := h.away ha
  have o0 := h1 0 (by omega)
  rw [h.e0.1, h.e0.2.1, h.e0.2.2] at o0
  have o2 := h1 2 (by omega)
  rw [h.e2.1, h.e2.2.1, h.e2.2.2] at o2
  have o3 := h1 3 (by omega)
  rw [h.e3.1, h.e3.2.1, h.e3.2.2] at o3
  refine ⟨⟨ha.os.trans hb.os, ha.tape.trans hb.tape, ha.output.trans hb.output, Nat.le_trans hb.size ha.size, fun k hk => (ha.block k (Nat.lt_of_lt_of_le hk hb.size) ?_).trans (hb.block k hk)⟩, ⟨h2, o0, hZ, hp, by omega⟩, o2, o3⟩
  rintro ⟨i, hi, hq⟩
  have := h.fam.low (5 + i) (by have := h.hM; omega) k hq
  omega
end
theorem left_nat (g n c p r : Nat) (a : Option Addr) (w : World) (h0 : w.cell? ⟨g, 0, none⟩ = some (.slice a n c)) (h1 : w.cell? ⟨g, 1, none⟩ = some (.int .i64 p)) (hr : p + r = n) (hn : n ≤ 140737488355328) :
    Calls Try.prog 30 #[.pointer (some ⟨g, 0, none⟩)] w fun e w' => e = .returned (.int .i64 (r : Int)) ∧ ∃ m, w' = w.drewN m :=
  (left_any g n c p a w h0 h1 (by omega) hn).mono fun _ _ ⟨he, hw⟩ => ⟨by rw [he, show (n : Int) - p = r by omega], hw⟩
end Go.Proofs.Ytdjampgnpiedeaa
