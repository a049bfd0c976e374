/-
  Lists of integers that the call owns; the walk of CrcFlips.
-/
import Derived.Test.YtancibbhkhjcbaaRFlip
import Derived.Laws.AppendOwn
import Derived.Laws.AppendOwnNone
import Derived.ProofKit
import Derived.OpenShut
namespace Go.Proofs.Ytancibbhkhjcbaa
open Go.RowKit
theorem Try.info3 : (Try.prog.info? 3).map (fun i => (i.zero, i.size, i.bytes)) = some (some (.int .i64 0), 1, 8) := by kernel_rfl
theorem irow_cells {w : World} {x : Addr} {n : Nat} {zs : List Int} (hr : IRow w (some x) n zs) : ∀ j u, (zs.map (Value.int .i64))[j]? = some u → w.cell? (x.add j) = some u := by
  intro j u hu
  rw [List.getElem?_map] at hu
  by_cases hj : j < n
  · rcases hr.cells with h0 | ⟨b, off, ha, hc⟩
    · omega
    · cases ha
      have hl := hr.len
      have e : zs[j]? = some (zs.getD j 0) := by simp [show j < zs.length by omega]
      rw [e] at hu
      cases hu
      have hadd : (⟨b, off, none⟩ : Addr).add j = ⟨b, off + j, none⟩ := by unfold Addr.add; split <;> simp_all
      rw [hadd]; exact hc j hj
  · have hl := hr.len
    rw [List.getElem?_eq_none (by omega)] at hu; cases hu
theorem ints_one (zs : List Int) : ∀ u ∈ zs.map (Value.int .i64), u.oneCell' = true := by
  intro u hu
  obtain ⟨z, _, rfl⟩ := List.mem_map.1 hu
  rfl
/-- 'append(v, xs...)', v the call's own, xs any list of integers. -/
theorem append_ints (w : World) {ops : Array Oper} {rest : List Oper} {o : Oper} {a : Act} {Q : Exit → Act → World → Prop} (hgd : o.guard = none) (s x : Operand)
    (ho : o.op = .call { callee := .builtin .append, args := #[s, x], argTypes := #[27, 27] }) (base : Nat)
    (v : Value) (n : Nat) (xs : List Int) (hs : a.eval s = v) (hown : w.ownsRow base 3 1 v n (xs.map (Value.int .i64)))
    (ra : Option Addr) (m c : Nat) (zs : List Int) (hx : a.eval x = .slice ra m c) (hr : IRow w ra m zs) (h0 : ra = none → m = 0 ∧ c = 0)
    (hb : (n + m) * 8 ≤ 140737488355328) (hbase : base ≤ w.heap.size)
    (h : ∀ v' w', w'.ownsRow base 3 1 v' (n + m) ((xs ++ zs).map (Value.int .i64)) → w.grownBy w' v.ownBlock → wpList Try.prog ops Q rest (a.put o.dst v') w') : wpList Try.prog ops Q (o :: rest) a w := by
  obtain ⟨i0, hi, hz0, hz1, hz2⟩ := info_parts Try.info3
  cases ra with
  | none =>
    obtain ⟨rfl, rfl⟩ := h0 rfl
    have e1 := List.length_eq_zero_iff.1 hr.len
    subst e1
    refine wpList_append_own_none hgd s x 27 ho base 3 i0 1 Try.underlying27 hi v n _ hs hown hx (h v w (by simpa using hown) (World.grownBy.refl w _))
  | some ad =>
    refine wpList_append_own w hgd s x 27 ho base 3 i0 (.int .i64 0) 1 8 Try.underlying27 hi hz0 hz1 hz2 rfl (by decide) v n _ hs hown ad m c (zs.map (Value.int .i64)) hx (by have := hr.len; simpa using this) (irow_cells hr) (ints_one _) (by unfold maxLen; omega) (by omega) hbase ?_
    intro v' w' h1 h2 _
    exact h v' w' (by rw [List.map_append]; exact h1) h2
/-- The first numbers of a list that the call owns. -/
theorem irow_own {w : World} {base g n k c : Nat} {zs : List Int} (h : w.ownsRow base 3 1 (.slice (some ⟨g, 0, none⟩) n c) n (zs.map (Value.int .i64))) (hk : k ≤ n) (hu : ∀ i : Nat, -9223372036854775808 ≤ zs.getD i 0 ∧ zs.getD i 0 ≤ 9223372036854775807) : IRow w (some ⟨g, 0, none⟩) k (zs.take k) := by
  have hl : zs.length = n := by have := h.1; simpa using this
  refine ⟨by rw [List.length_take]; omega, fun i => ?_, .inr ⟨g, 0, rfl, fun i hi => ?_⟩⟩
  · by_cases hi : i < k
    · have : (zs.take k).getD i 0 = zs.getD i 0 := by simp [List.getD, hi]
      rw [this]; exact hu i
    · have : (zs.take k).getD i 0 = 0 := by simp [List.getD, List.getElem?_eq_none (show (zs.take k).length ≤ i by rw [List.length_take]; omega)]
      rw [this]; omega
  · have := h.cells (g := g) rfl i (.int .i64 (zs.getD i 0)) (by simp [hl, show i < n by omega])
    have ha : (⟨g, 0, none⟩ : Addr).add i = ⟨g, 0 + i, none⟩ := by unfold Addr.add; split <;> simp_all
    rw [ha] at this
    rw [this]; congr 2; simp [List.getD, hi]
theorem own_some {w : World} {base n : Nat} {v : Value} {xs : List Value} (h : w.ownsRow base 3 1 v n xs) (hn : 0 < n) : ∃ g c, v = .slice (some ⟨g, 0, none⟩) n c ∧ n ≤ c ∧ c ≤ 9223372036854775807 ∧ base ≤ g ∧ g < w.heap.size := by
  rcases h.2 with ⟨_, rfl⟩ | ⟨g, cap, cur, rfl, hb, hg, hn', hm, _⟩
  · omega
  · exact ⟨g, cap, rfl, hn', by unfold maxLen at hm; omega, hb, (Array.getElem?_eq_some_iff.1 hg).1⟩
theorem xor1_i64 (z : Int) : -9223372036854775808 ≤ bits .xor .i64 z 1 ∧ bits .xor .i64 z 1 ≤ 9223372036854775807 := Go.bounds_i64 (wf_bits _ _ _ _)
theorem set0_i64 {zs : List Int} (y : Int) (hy : -9223372036854775808 ≤ y ∧ y ≤ 9223372036854775807) (hu : ∀ i : Nat, -9223372036854775808 ≤ zs.getD i 0 ∧ zs.getD i 0 ≤ 9223372036854775807) (i : Nat) : -9223372036854775808 ≤ (zs.set 0 y).getD i 0 ∧ (zs.set 0 y).getD i 0 ≤ 9223372036854775807 := by
  simp only [List.getD, List.getElem?_set]
  split
  · split
    · exact hy
    · simp
  · exact hu i
theorem built_row (w : World) : IRow (w.alloc (Obj.cells #[Value.int .i64 (-77), Value.int .i64 (-78)] 3)) (some ⟨w.heap.size, 0, none⟩) 2 [-77, -78] := by
  refine ⟨rfl, fun i => ?_, .inr ⟨_, 0, rfl, fun i hi => ?_⟩⟩
  · match i with
    | 0 => decide
    | 1 => decide
    | i + 2 => simp
  · rw [cell_of_row _ _ (0 + i) #[Value.int .i64 (-77), Value.int .i64 (-78)] 3 (0, 0) (heap_alloc_last _ _)]
    match i, hi with
    | 0, _ => rfl
    | 1, _ => rfl
/-- The two lists that the law lays, one behind the other, are the call's own. -/
theorem in_own {w w1 w2 : World} {v1 v2 : Value} {len : Nat} {zs : List Int} {o : Obj} (h1 : w1.ownsRow w.heap.size 3 1 v1 (0 + len) (([] ++ zs).map (Value.int .i64))) (g1 : w.grownBy w1 (Value.slice none 0 0).ownBlock)
    (h2 : w2.ownsRow w.heap.size 3 1 v2 (0 + len + 2) (([] ++ zs ++ [-77, -78]).map (Value.int .i64))) (g2 : (w1.alloc o).grownBy w2 v1.ownBlock) :
    ∃ g c, v2 = .slice (some ⟨g, 0, none⟩) (len + 2) c ∧ len + 2 ≤ c ∧ c ≤ 9223372036854775807 ∧ w.heap.size ≤ g ∧ g < w2.heap.size ∧ w2.ownsRow w.heap.size 3 1 (.slice (some ⟨g, 0, none⟩) (len + 2) c) (len + 2) ((zs ++ [-77, -78]).map (Value.int .i64)) ∧ Below w.heap.size w w2 := by
  rw [Nat.zero_add, List.nil_append] at h1 h2
  obtain ⟨g, c, rfl, hc, hm, hb, hl⟩ := own_some h2 (by omega)
  have b1 : Below w.heap.size w w1 := (Below.refl _ _).grown g1 (Nat.le_refl _) (fun k hk => by cases hk)
  refine ⟨g, c, rfl, hc, hm, hb, hl, h2, (b1.alloc b1.size o).grown g2 (by simp; have := b1.size; omega) (fun k hk => (h1.lt k hk).1)⟩
theorem own_below {w w' : World} {base : Nat} {v : Value} {n : Nat} {xs : List Value} (h : w.ownsRow base 3 1 v n xs) (hb : Below w.heap.size w w') : w'.ownsRow base 3 1 v n xs :=
  h.kept (row := none) ⟨hb.os, hb.tape, hb.output, hb.size, fun k hk _ => hb.block k hk⟩ (by cases v.ownBlock <;> simp)
theorem more_get {zs : List Int} {i : Nat} (h : i < zs.length) : (zs ++ [-77, -78]).getD i 0 = zs.getD i 0 := by
  rw [List.getD_eq_getElem?_getD, List.getD_eq_getElem?_getD, List.getElem?_append_left h]
theorem more_get2 {zs : List Int} {i : Nat} (h : zs.length ≤ i) : (zs ++ [-77, -78]).getD i 0 = [-77, -78].getD (i - zs.length) 0 := by
  rw [List.getD_eq_getElem?_getD, List.getD_eq_getElem?_getD, List.getElem?_append_right h]
theorem more_i64 {zs : List Int} (hu : ∀ i : Nat, -9223372036854775808 ≤ zs.getD i 0 ∧ zs.getD i 0 ≤ 9223372036854775807) (i : Nat) : -9223372036854775808 ≤ (zs ++ [-77, -78]).getD i 0 ∧ (zs ++ [-77, -78]).getD i 0 ≤ 9223372036854775807 := by
  by_cases h : i < zs.length
  · rw [more_get h]; exact hu i
  · rw [more_get2 (by omega)]
    match i - zs.length with
    | 0 => decide
    | 1 => decide
    | i + 2 => simp
theorem cell_own {w : World} {base g n c k : Nat} {zs : List Int} (h : w.ownsRow base 3 1 (.slice (some ⟨g, 0, none⟩) n c) n (zs.map (Value.int .i64))) (hk : k < n) : w.cell? ⟨g, k, none⟩ = some (.int .i64 (zs.getD k 0)) := by
  have hl : zs.length = n := by have := h.1; simpa using this
  have := h.cells (g := g) rfl k (.int .i64 (zs.getD k 0)) (by simp [hl, hk])
  have ha : (⟨g, 0, none⟩ : Addr).add k = ⟨g, k, none⟩ := by unfold Addr.add; split <;> simp_all
  rwa [ha] at this
theorem stored_drew {w : World} {base g n c : Nat} {zs : List Int} (h : w.ownsRow base 3 1 (.slice (some ⟨g, 0, none⟩) n c) n (zs.map (Value.int .i64))) (m : Nat) (z : Int) :
    ((w.drewN m).setCell ⟨g, 0, none⟩ (.int .i64 (bits .xor .i64 z 1))).ownsRow base 3 1 (.slice (some ⟨g, 0, none⟩) n c) n ((zs.set 0 (bits .xor .i64 z 1)).map (Value.int .i64)) := by
  have h2 := own_below h (below_drewN (Below.refl _ _) m)
  rw [List.map_set]
  exact (h2.stored 0 (.int .i64 (bits .xor .i64 z 1))).1
set_option maxRecDepth 100000 in
set_option maxHeartbeats 1600000 in
theorem flips_walk (n : Int) (a : Option Addr) (len cap : Nat) (zs : List Int) (w : World) (hr : IRow w a len zs) (h0 : a = none → len = 0 ∧ cap = 0) (hbig : len * 8 ≤ 140737488351232) :
    Calls Try.prog 4 #[.int .i64 n, .slice a len cap] w fun e w' => e = .returned (.bool true) ∧ Below w.heap.size w w' := by
  have HR := hide hr
  have H0 := hide h0
  have HBig := hide hbig
  have hlen : (len : Int) ≤ 17592186043904 := by omega
  clear hr h0 hbig
  have hnil : w.ownsRow w.heap.size 3 1 (.slice none 0 0) 0 (([] : List Int).map (Value.int .i64)) := World.ownsRow_nil _ _ _ _
  go_enter Try.func4, Try.ntmps4
  go_wp2_with (first
    | (at_builtin; refine append_ints _ rfl (.tmp 12) (.tmp 13) rfl w.heap.size (.slice none 0 0) 0 [] rfl hnil a len cap zs rfl HR.out H0.out (by have := HBig.out; omega) (Nat.le_refl _) ?_; intro v1 w1 hown1 hg1; have HO1 := hide hown1; have HG1 := hide hg1; have hle1 : w.heap.size ≤ w1.heap.size := hg1.size; clear hown1 hg1 hnil)
    | (at_builtin; refine append_ints _ rfl (.tmp 15) (.tmp 16) rfl w.heap.size v1 (0 + len) ([] ++ zs) rfl (HO1.out.alloc _) (some ⟨w1.heap.size, 0, none⟩) 2 2 [-77, -78] rfl (built_row _) (fun h => by cases h) (by have := HBig.out; omega) (by simp; omega) ?_; intro v2 w2 hown2 hg2; obtain ⟨g, c2, rfl, hc2, hc2m, hbg, hgl, hin, hbw⟩ := in_own HO1.out HG1.out hown2 hg2; have HIN := hide hin; have HBW := hide hbw; clear hown2 hg2 hin hbw HO1 HG1 hle1))
  have hu := hide (more_i64 HR.out.i64)
  have hzl := HR.out.len
  have r2 : IRow w2 (some ⟨g, 0, none⟩) len zs := by
    have := irow_own (k := len) HIN.out (by omega) hu.out
    rwa [List.take_append_of_le_length (by omega), List.take_of_length_le (by omega)] at this
  refine (flip_any n _ len c2 zs w2 r2 (by have := HBig.out; omega)).mono ?_
  rintro e w3 ⟨rfl, hb3⟩
  have HR3 := hide (HR.out.below (Below.on HBW.out hb3))
  have HIN3 := hide (own_below HIN.out hb3)
  have HB3 := hide (Below.on HBW.out hb3)
  clear r2 hb3 HIN HBW
  go_wp2_with fail
  refine (rflip_any n a len cap zs w3 HR3.out (by have := HBig.out; omega)).mono ?_
  rintro e w4 ⟨rfl, hb4⟩
  have HR4 := hide (HR3.out.below hb4)
  have HIN4 := hide (own_below HIN3.out hb4)
  have HB4 := hide (Below.on HB3.out hb4)
  clear hb4 HIN3 HB3 HR3
  generalize flipSum n zs = S
  generalize flipErr n zs = E
  go_wp2
  go_loopw [10] (fun si wr => ∃ i m : Nat, i ≤ len ∧ si = .int .i64 i ∧ wr = w4.drewN m) (fun i _ => len - (intOf i).toNat)
  case atStart => exact ⟨0, 0, by omega, rfl, rfl⟩
  case round =>
    obtain ⟨i, m, hile, rfl, rfl⟩ := hrel
    by_cases hlt : i < len
    · obtain ⟨b, off, rfl, hcb⟩ := HR4.out.cells.resolve_left (by omega)
      have c1 := hcb i hlt
      have c2' := cell_own HIN4.out (show i < len + 2 by omega)
      rw [more_get (by omega)] at c2'
      clear hcb
      obtain ⟨z, hz⟩ : ∃ z, zs.getD i 0 = z := ⟨_, rfl⟩
      rw [hz] at c1 c2'
      clear hz
      go_wp2_with fail
      go_quiet (fail)
      go_wp2
      exact ⟨⟨i + 1, m + nq, by omega, by go_num, rfl⟩, by simp [intOf]; omega⟩
    · have hil : i = len := by omega
      subst hil
      have cN : w4.cell? ⟨g, i, none⟩ = some (.int .i64 (-77)) := by
        have := cell_own HIN4.out (show i < i + 2 by omega)
        rw [more_get2 (by omega), show i - zs.length = 0 by omega] at this
        exact this
      have cN1 : w4.cell? ⟨g, i + 1, none⟩ = some (.int .i64 (-78)) := by
        have := cell_own HIN4.out (show i + 1 < i + 2 by omega)
        rw [more_get2 (by omega), show i + 1 - zs.length = 1 by omega] at this
        exact this
      by_cases hz : i = 0
      · subst hz
        clear hzl
        go_wp2
        go_ret
        exact ⟨rfl, below_drewN HB4.out m⟩
      · have q0 : ((i : Int) == 0) = false := by simp; omega
        have cL := cell_own HIN4.out (show i - 1 < i + 2 by omega)
        rw [more_get (by omega)] at cL
        have c0 := cell_own HIN4.out (show 0 < i + 2 by omega)
        have f0 : w4.frozen? ⟨g, 0, none⟩ = false := HIN4.out.frozenAt 0
        have hi1 : ((i : Int) - 1).toNat = i - 1 := by omega
        obtain ⟨z, hz'⟩ : ∃ z, zs.getD (i - 1) 0 = z := ⟨_, rfl⟩
        rw [hz'] at cL
        generalize (zs ++ [-77, -78]).getD 0 0 = z0 at c0
        clear hz' hzl
        have hW := hide (stored_drew HIN4.out m z)
        have hbW := hide ((below_drewN HB4.out m).setCell (p := ⟨g, 0, none⟩) hbg (.int .i64 (bits .xor .i64 z 1)))
        have hyz := hide (set0_i64 (bits .xor .i64 z 1) (xor1_i64 z) hu.out)
        go_wp2_with (at_builtin; refine append_ints _ rfl (.tmp 112) (.tmp 116) rfl w.heap.size (.slice none 0 0) 0 [] rfl (World.ownsRow_nil _ _ _ _) (some ⟨g, 0, none⟩) i c2 _ rfl (irow_own (k := i) hW.out (by omega) hyz.out) (fun h => by cases h) (by have := HBig.out; omega) hbW.out.size ?_; intro v3 w5 hown5 hg5)
        generalize hL : ((zs ++ [-77, -78]).set 0 (bits .xor .i64 z 1)).take i = L at hown5
        have hrin := irow_own (k := i) hW.out (by omega) hyz.out
        rw [hL] at hrin
        generalize (w4.drewN m).setCell ⟨g, 0, none⟩ (.int .i64 (bits .xor .i64 z 1)) = W at hg5 hrin hbW
        have b5 : Below W.heap.size W w5 := (Below.refl _ _).grown hg5 (Nat.le_refl _) (fun k hk => by cases hk)
        have HI5 := hide (hrin.below b5)
        have HB5 := hide (Below.on hbW.out b5)
        rw [Nat.zero_add, List.nil_append] at hown5
        obtain ⟨g3, c3, rfl, _⟩ := own_some hown5 (by omega)
        have HO5 := hide hown5
        clear hown5 hg5 hrin hbW b5 hW hyz hL
        refine (flip_any n _ i c2 L w5 HI5.out (by have := HBig.out; omega)).mono ?_
        rintro e w6 ⟨rfl, hb6⟩
        have hr6 : IRow w6 (some ⟨g3, 0, none⟩) i L := by
          have := irow_own (k := i) (own_below HO5.out hb6) (Nat.le_refl _) HI5.out.i64
          rwa [List.take_of_length_le (by rw [HI5.out.len]; exact Nat.le_refl _)] at this
        have HR6 := hide hr6
        have HB6 := hide (Below.on HB5.out hb6)
        clear hr6 hb6
        go_wp2_with fail
        refine (rflip_any n _ i c3 L w6 HR6.out (by have := HBig.out; omega)).mono ?_
        rintro e w7 ⟨rfl, hb7⟩
        have HB7 := hide (Below.on HB6.out hb7)
        clear hb7
        generalize flipSum n L = S2
        generalize flipErr n L = E2
        go_wp2
        go_ret
        exact ⟨rfl, HB7.out⟩
end Go.Proofs.Ytancibbhkhjcbaa
