/-
  apart: the walk.
-/
import Derived.Test.YtgecdnmgifcghaaDoorKeepA
namespace Go.Proofs.YtgecdnmgifcghaaDoor
open Go.RowKit

/-- The marks of the i-th list. -/
def mkl (i n : Nat) : List Int := (List.range n).map fun k : Nat => (7 * (i : Int) + (k : Int)) % 256
/-- The marks behind it. -/
def mrl (i : Nat) : List Int := (List.range 70).map fun k : Nat => (100 + (i : Int) + 5 * (k : Int)) % 256
theorem mk_all {i n : Nat} {l : List Int} (hl : l.length = n) (h : ∀ q, q < n → l[q]? = some ((7 * (i : Int) + (q : Int)) % 256)) : l = mkl i n := by
  apply List.ext_getElem?
  intro q
  by_cases hq : q < n
  · rw [h q hq]; simp [mkl, hq]
  · rw [List.getElem?_eq_none (by omega), List.getElem?_eq_none (by simp [mkl]; omega)]
theorem mk_get {i n q : Nat} (h : q < n) : (mkl i n)[q]? = some ((7 * (i : Int) + (q : Int)) % 256) := by simp [mkl, h]
theorem mr_get {i q : Nat} (h : q < 70) : (mrl i)[q]? = some ((100 + (i : Int) + 5 * (q : Int)) % 256) := by simp [mrl, h]
theorem set_marks {i k : Nat} {l : List Int} (hk : k < l.length) (h : ∀ q, q < k → l[q]? = some ((7 * (i : Int) + (q : Int)) % 256)) : ∀ q, q < k + 1 → (l.set k ((7 * (i : Int) + (k : Int)) % 256))[q]? = some ((7 * (i : Int) + (q : Int)) % 256) := by
  intro q hq
  rw [List.getElem?_set]
  by_cases e : k = q
  · subst e; rw [if_pos rfl, if_pos hk]
  · rw [if_neg e, h q (by omega)]

theorem grown_of' {w W : World} {r : Option Nat} (hb : Below w.heap.size w W) : w.grownBy W r := ⟨hb.os, hb.tape, hb.output, hb.size, fun k hk _ => hb.block k hk⟩
/-- Nothing old has turned but the blocks of O. -/
structure Away (O : Nat → Prop) (w wr : World) : Prop where
  os : wr.os = w.os
  tape : wr.tape = w.tape
  output : wr.output = w.output
  size : w.heap.size ≤ wr.heap.size
  block : ∀ k, k < w.heap.size → ¬ O k → wr.heap[k]? = w.heap[k]?
theorem Away.refl (O : Nat → Prop) (w : World) : Away O w w := ⟨rfl, rfl, rfl, Nat.le_refl _, fun _ _ _ => rfl⟩
theorem Away.below {O : Nat → Prop} {w a b : World} (h : Away O w a) (k : Below a.heap.size a b) : Away O w b :=
  ⟨k.os.trans h.os, k.tape.trans h.tape, k.output.trans h.output, Nat.le_trans h.size k.size, fun i hi ho => (k.block i (Nat.lt_of_lt_of_le hi h.size)).trans (h.block i hi ho)⟩
theorem Away.grown {O : Nat → Prop} {w a b : World} {r : Option Nat} (h : Away O w a) (k : a.grownBy b r) (hr : ∀ q, r = some q → O q ∨ w.heap.size ≤ q) : Away O w b :=
  ⟨k.os.trans h.os, k.tape.trans h.tape, k.output.trans h.output, Nat.le_trans h.size k.size, fun i hi ho => (k.block i (Nat.lt_of_lt_of_le hi h.size) (fun e => by
    rcases hr i e.symm with h1 | h1
    · exact ho h1
    · omega)).trans (h.block i hi ho)⟩

/-- While the lists are gone on with: the lists, the list of the longer ones, the longer ones, where these lie. -/
structure Mid (wr : World) (base A cap m : Nat) (V : Nat → Value) (n : Nat → Nat) (S0 i : Nat) (vm : Value) (M : Nat → Value) : Prop where
  many : Many wr base A cap m V n (fun j => mkl j (n j))
  more : wr.ownsRow S0 27 1 vm i ((List.range i).map M)
  rows : ∀ j, j < i → wr.ownsRow base 5 1 (M j) (n j + 70) ((mkl j (n j) ++ mrl j).map (Value.int .u8))
  lie : ∀ j, j < i → ∀ g, (M j).ownBlock = some g → (V j).ownBlock = some g ∨ S0 ≤ g

theorem types_apart {w : World} {b1 b2 k1 k2 : Nat} {v1 v2 : Value} {x1 x2 : List Value} (h1 : w.ownsRow b1 5 1 v1 k1 x1) (h2 : w.ownsRow b2 27 1 v2 k2 x2) : v1.ownBlock = none ∨ v1.ownBlock ≠ v2.ownBlock := by
  rcases h1.2 with ⟨hv, _⟩ | ⟨g, c, cur, hv, _, hg, _⟩
  · left; rw [hv]; rfl
  · right
    rw [hv]
    intro e
    rcases h2.2 with ⟨hv', _⟩ | ⟨g', c', cur', hv', _, hg', _⟩
    · rw [hv'] at e; simp [Value.ownBlock] at e
    · rw [hv'] at e; simp [Value.ownBlock] at e; subst e
      rw [hg] at hg'; simp at hg'
section
variable {wr w2 : World} {base A cap m : Nat} {V : Nat → Value} {n : Nat → Nat} {S0 i : Nat} {vm : Value} {M : Nat → Value}
theorem Mid.below (h : Mid wr base A cap m V n S0 i vm M) (hb : Below wr.heap.size wr w2) : Mid w2 base A cap m V n S0 i vm M := by
  have hg : wr.grownBy w2 none := ⟨hb.os, hb.tape, hb.output, hb.size, fun k hk _ => hb.block k hk⟩
  exact ⟨h.many.below hb, h.more.kept hg (by cases vm.ownBlock <;> simp), fun j hj => (h.rows j hj).kept hg (by cases (M j).ownBlock <;> simp), h.lie⟩
/-- Behind the append to the i-th list. -/
theorem Mid.first (h : Mid wr base A cap m V n S0 i vm M) (hi : i < m) (hold : ∀ j, j < m → ∀ g, (V j).ownBlock = some g → g < S0) (hk : w2.ownsRow base 5 1 (V i) (n i) ((mkl i (n i)).map (Value.int .u8))) (hg : wr.grownBy w2 (V i).ownBlock) : Mid w2 base A cap m V n S0 i vm M := by
  refine ⟨⟨h.many.tab.kept hg ?_, fun j hj => ?_, h.many.dis⟩, h.more.kept hg ?_, fun j hj => (h.rows j hj).kept hg ?_, h.lie⟩
  · right
    intro e
    exact h.many.tab_ne (h.many.own i hi) e.symm
  · by_cases e : j = i
    · subst e; exact hk
    · exact (h.many.own j hj).kept hg (h.many.dis j i hj hi e)
  · have := types_apart (h.many.own i hi) h.more
    rcases this with e | e
    · rw [e]; cases vm.ownBlock <;> simp
    · exact .inr (fun e' => e e'.symm)
  · cases hb : (M j).ownBlock with
    | none => exact .inl rfl
    | some g =>
      right
      intro e
      rcases h.lie j hj g hb with hv | hs
      · rcases h.many.dis j i (by omega) hi (by omega) with hd | hd
        · rw [hd] at hv; cases hv
        · exact hd (by rw [hv, e])
      · have := hold i hi g e.symm
        omega
/-- Behind the append to the list of the longer ones. -/
theorem Mid.second (h : Mid wr base A cap m V n S0 i vm M) {v' vm' : Value} (hA : A < S0)
    (hv : wr.ownsRow base 5 1 v' (n i + 70) ((mkl i (n i) ++ mrl i).map (Value.int .u8))) (hlie : ∀ g, v'.ownBlock = some g → (V i).ownBlock = some g ∨ S0 ≤ g)
    (hmore : w2.ownsRow S0 27 1 vm' (i + 1) ((List.range i).map M ++ [v'])) (hg : wr.grownBy w2 vm.ownBlock) :
    Mid w2 base A cap m V n S0 (i + 1) vm' (fun j => if j = i then v' else M j) := by
  have hne : ∀ {v : Value} {k : Nat} {xs : List Value}, wr.ownsRow base 5 1 v k xs → v.ownBlock = none ∨ v.ownBlock ≠ vm.ownBlock := fun hx => types_apart hx h.more
  refine ⟨⟨h.many.tab.kept hg ?_, fun j hj => (h.many.own j hj).kept hg (hne (h.many.own j hj)), h.many.dis⟩, ?_, fun j hj => ?_, fun j hj g hgj => ?_⟩
  · right
    intro e
    have := (h.more.lt A e.symm).1
    omega
  · have e : (List.range (i + 1)).map (fun j => if j = i then v' else M j) = (List.range i).map M ++ [v'] := by
      rw [List.range_succ, List.map_append]
      congr 1
      · apply List.map_congr_left
        intro j hj
        have := List.mem_range.1 hj
        rw [if_neg (by omega)]
      · simp
    rw [e]; exact hmore
  · by_cases e : j = i
    · subst e; simp only [if_true]; exact hv.kept hg (hne hv)
    · simp only [if_neg e]
      have := h.rows j (by omega)
      exact this.kept hg (hne this)
  · by_cases e : j = i
    · subst e; simp only [if_true] at hgj; exact hlie g hgj
    · simp only [if_neg e] at hgj; exact h.lie j (by omega) g hgj
end

set_option maxHeartbeats 3200000 in
set_option maxRecDepth 100000 in
theorem apart_walk (base A cap m : Nat) (V : Nat → Value) (n : Nat → Nat) (L : Nat → List Int) (w : World) (hM : Many w base A cap m V n L) (hm : m ≤ 4000000) (hn : ∀ i, n i ≤ 10000000) (hbase : base ≤ w.heap.size) :
    Calls Tryd.prog 16 #[.slice (some ⟨A, 0, none⟩) m cap] w fun e w' => e = .returned (.bool true) ∧ Away (fun k => ∃ i, i < m ∧ (V i).ownBlock = some k) w w' := by
  have HM := hide hM
  have HN := hide hn
  obtain ⟨O, hO⟩ : ∃ O : Nat → Prop, O = fun k => ∃ i, i < m ∧ (V i).ownBlock = some k := ⟨_, rfl⟩
  rw [← hO]
  have HOO : Hid (∀ k, O k ↔ ∃ i, i < m ∧ (V i).ownBlock = some k) := fun k => by rw [hO]
  clear hO
  obtain ⟨i0, hi5, hz0, hz1, hz2⟩ := info_parts Tryd.info5
  obtain ⟨i8, hi8, hy0, hy1, hy2⟩ := info_parts Tryd.info27
  clear hM hn
  go_enter Tryd.func16, Tryd.ntmps16
  go_wp2_with fail
  go_loopw [3, 4] (fun si _ wr => ∃ (i : Nat) (L' : Nat → List Int), i ≤ m ∧ si = .int .i64 i ∧ Many wr base A cap m V n L' ∧ (∀ j, j < i → L' j = mkl j (n j)) ∧ Away O w wr)
    (fun si _ _ => m - (intOf si).toNat)
  case atStart => exact ⟨0, L, Nat.zero_le _, rfl, HM.out, fun j hj => by omega, Away.refl _ _⟩
  case round =>
    obtain ⟨i, L1, hi, rfl, hM1, hp1, hb1⟩ := hrel
    have HM1 := hide hM1
    have HP1 := hide hp1
    have HB1 := hide hb1
    clear HM hM1 hp1 hb1
    by_cases hlt : i < m
    · obtain ⟨a, c, hv⟩ := HM1.out.form hlt
      have hni := HN.out i
      have HV := hide hv
      go_wp2_with fail
      go_loopw [4] (fun sk wr2 => ∃ (k : Nat) (L2 : Nat → List Int), k ≤ n i ∧ sk = .int .i64 k ∧ Many wr2 base A cap m V n L2 ∧ (∀ j, j < i → L2 j = mkl j (n j)) ∧ (∀ q, q < k → (L2 i)[q]? = some ((7 * (i : Int) + (q : Int)) % 256)) ∧ Away O w wr2)
        (fun sk _ => n i - (intOf sk).toNat)
      case atStart => exact ⟨0, L1, Nat.zero_le _, rfl, HM1.out, HP1.out, fun q hq => by omega, HB1.out⟩
      case round =>
        obtain ⟨k, L2, hk, rfl, hM2, hp2, hq2, hb2⟩ := hrel
        have HM2 := hide hM2
        have HP2 := hide hp2
        have HQ2 := hide hq2
        have HB2 := hide hb2
        have hcell := hM2.cell hlt
        rw [hv] at hcell
        clear hM2 hp2 hq2 hb2 hv HM1 HP1 HB1
        by_cases hkl : k < n i
        · obtain ⟨g, ha, hgb⟩ : ∃ g, a = some ⟨g, 0, none⟩ ∧ base ≤ g := by
            have ho := HM2.out.own i hlt
            rw [HV.out] at ho
            rcases ho.2 with ⟨_, h0⟩ | ⟨g, c', cur, hv', hb', _⟩
            · omega
            · cases hv'; exact ⟨g, rfl, hb'⟩
          subst ha
          have ho := HM2.out.own i hlt
          rw [HV.out] at ho
          have hfr := ho.frozenAt k
          have HGR := hide (ho.stored k (.int .u8 ((7 * (i : Int) + (k : Int)) % 256))).2
          have hll := HM2.out.len hlt
          have hck : wr.cell? ⟨g, k, none⟩ = some (.int .u8 ((L2 i).getD k 0)) := by
            rw [ho.cellAt k (by omega)]; simp [hll, hkl]
          clear ho
          go_wp2
          have hgr := HGR.out
          have hst := HM2.out.store (k := k) hlt HV.out ((7 * (i : Int) + (k : Int)) % 256)
          refine ⟨⟨k + 1, _, by omega, by go_num, hst, ?_, ?_, HB2.out.grown hgr (fun q hq => by cases hq; exact .inl ((HOO.out g).2 ⟨i, hlt, by rw [HV.out]; rfl⟩))⟩, by simp [intOf]; omega⟩
          · intro j hj
            simp only [if_neg (show ¬ j = i by omega)]
            exact HP2.out j hj
          · simp only [if_true]
            exact set_marks (by omega) HQ2.out
        · go_wp2
          refine ⟨⟨i + 1, L2, by omega, by go_num, HM2.out, ?_, HB2.out⟩, by simp [intOf]; omega⟩
          intro j hj
          by_cases e : j = i
          · subst e
            exact mk_all (HM2.out.len hlt) (fun q hq => HQ2.out q (by omega))
          · exact HP2.out j (by omega)
    · have hMm : Many wr base A cap m V n (fun j => mkl j (n j)) := ⟨HM1.out.tab, fun j hj => by rw [← HP1.out j (by omega)]; exact HM1.out.own j hj, HM1.out.dis⟩
      have HMm := hide hMm
      clear hMm HM1 HP1
      obtain ⟨S0, hS0⟩ : ∃ S0, S0 = wr.heap.size := ⟨_, rfl⟩
      have HOLD : Hid (∀ j, j < m → ∀ g, (V j).ownBlock = some g → g < S0) := fun j hj g hg => by rw [hS0]; exact ((HMm.out.own j hj).lt g hg).2
      have hA0 : A < S0 := by rw [hS0]; exact (HMm.out.tab.lt A rfl).2
      have hbS : base ≤ S0 := by rw [hS0]; exact Nat.le_trans hbase HB1.out.size
      have hwS : w.heap.size ≤ S0 := by rw [hS0]; exact HB1.out.size
      have HST : Hid (Mid wr base A cap m V n S0 0 (.slice none 0 0) V ∧ Away O w wr ∧ S0 ≤ wr.heap.size) := ⟨⟨HMm.out, World.ownsRow_nil _ _ _ _, fun j hj => by omega, fun j hj => by omega⟩, HB1.out, by omega⟩
      clear HMm HB1 hS0
      go_wp2_with fail
      go_loopw [5, 6] (fun vm si wr => ∃ (i : Nat) (M : Nat → Value), i ≤ m ∧ si = .int .i64 i ∧ Mid wr base A cap m V n S0 i vm M ∧ Away O w wr ∧ S0 ≤ wr.heap.size)
        (fun _ si _ => m - (intOf si).toNat)
      case atStart => exact ⟨0, V, Nat.zero_le _, rfl, HST.out⟩
      case round =>
        obtain ⟨i2, M, hi2, rfl, hmid, hb2, hs2⟩ := hrel
        have HMID := hide hmid
        have HB2 := hide hb2
        clear hmid hb2 HST
        by_cases hlt2 : i2 < m
        · obtain ⟨wi, hwi⟩ : ∃ wi, wi = wr := ⟨_, rfl⟩
          have HWI := hide hwi
          have HMI : Hid (Mid wi base A cap m V n S0 i2 u5 M ∧ Away O w wi ∧ S0 ≤ wi.heap.size) := by rw [hwi]; exact ⟨HMID.out, HB2.out, hs2⟩
          clear hwi HMID HB2 hs2
          go_wp2_with fail
          go_loopw [7, 8] (fun v7 sk wr2 => ∃ (k : Nat), k ≤ 70 ∧ sk = .int .i64 k ∧ wr2.ownsRow wi.heap.size 5 1 v7 k (((mrl i2).take k).map (Value.int .u8)) ∧ Below wi.heap.size wi wr2)
            (fun _ sk _ => 70 - (intOf sk).toNat)
          case atStart => exact ⟨0, by omega, rfl, World.ownsRow_nil _ _ _ _, by rw [HWI.out]; exact Below.refl _ _⟩
          case round =>
            obtain ⟨k, hk, rfl, ho7, hb7⟩ := hrel
            have HO7 := hide ho7
            have HB7 := hide hb7
            clear ho7 hb7
            by_cases hk70 : k < 70
            · have hz : Hid (((mrl i2).take k).map (Value.int .u8) ++ [Value.int .u8 ((100 + (i2 : Int) + 5 * (k : Int)) % 256)] = ((mrl i2).take (k + 1)).map (Value.int .u8)) := by
                have hl : k < (mrl i2).length := by simp [mrl, hk70]
                show _ = _
                rw [List.take_succ_eq_append_getElem hl, List.map_append]
                simp [mrl]
              go_wp2_with (at_builtin; refine wpList_append_own _ rfl (.tmp 49) (.tmp 56) 27 rfl wi.heap.size 5 i0 (.int .u8 0) 1 1 Tryd.underlying27 hi5 hz0 hz1 hz2 rfl (by decide) _ _ _ rfl (HO7.out.alloc _) ⟨wr.heap.size, 0, none⟩ 1 1 [.int .u8 ((100 + (i2 : Int) + 5 * (k : Int)) % 256)] rfl rfl (by intro t u ht; match t, ht with | 0, ht => simp at ht; subst ht; simp [Addr.add]) (by intro u hu; simp at hu; subst hu; rfl) (by unfold maxLen; omega) (by omega) (by simp; have := HB7.out.size; omega) ?_; intro v' w1 hown1 hgrow1 _)
              rw [hz.out] at hown1
              exact ⟨⟨k + 1, by omega, by go_num, hown1, (HB7.out.alloc HB7.out.size _).grown hgrow1 (by simp; have := HB7.out.size; omega) (fun q hq => (HO7.out.lt q hq).1)⟩, by simp [intOf]; omega⟩
            · have hk' : k = 70 := by omega
              subst hk'
              obtain ⟨hmi, hbi, hsi⟩ := HMI.out
              have hmr := hmi.below HB7.out
              have hcell := hmr.many.cell hlt2
              obtain ⟨a, c, hv⟩ := hmr.many.form hlt2
              rw [hv] at hcell
              have ho := hmr.many.own i2 hlt2
              rw [hv] at ho
              have hm70 : (mrl i2).take 70 = mrl i2 := List.take_of_length_le (by simp [mrl])
              have ho7 := HO7.out
              rw [hm70] at ho7
              obtain ⟨gm, cm, hv7, hgm⟩ : ∃ gm cm, u7 = .slice (some ⟨gm, 0, none⟩) 70 cm ∧ wi.heap.size ≤ gm := by
                rcases ho7.2 with ⟨_, h0⟩ | ⟨gm, cm, cur, hv', hb', _⟩
                · omega
                · exact ⟨gm, cm, hv', hb'⟩
              subst hv7
              have hni2 := HN.out i2
              have HV := hide hv
              have HO := hide ho
              have H7 := hide ho7
              have HMR := hide hmr
              have HBI := hide hbi
              clear hmi hbi hmr hv ho ho7 HO7 HMI hm70
              go_wp2_with (first
                | (at_builtin; refine append_keep _ rfl (.tmp 62) (.tmp 63) rfl base _ _ _ rfl HO.out ⟨gm, 0, none⟩ 70 cm ((mrl i2).map (Value.int .u8)) rfl (by simp [mrl]) (H7.out.cells rfl) (ints_oneCell _ _) (by omega) (by omega) (by have := HB7.out.size; omega) ?_; intro g1 cp1 w1 hn1 hk1 hg1 hl1; have HM1 := hide (HMR.out.first hlt2 HOLD.out (by rw [HV.out]; exact hk1) (by rw [HV.out]; exact hg1)); have hs1 := hg1.size)
                | (at_builtin; refine wpList_append_own _ rfl (.tmp 58) (.tmp 65) 42 rfl S0 27 i8 (.slice none 0 0) 1 24 Tryd.underlying42 hi8 hy0 hy1 hy2 rfl (by decide) _ _ _ rfl (HM1.out.more.alloc _) ⟨w1.heap.size, 0, none⟩ 1 1 [.slice (some ⟨g1, 0, none⟩) (n i2 + 70) cp1] rfl rfl (by intro t u ht; match t, ht with | 0, ht => simp at ht; subst ht; simp [Addr.add]) (by intro u hu; simp at hu; subst hu; rfl) (by unfold maxLen; omega) (by omega) (by simp; have := HB7.out.size; omega) ?_; intro vm' w2 hown2 hgrow2 _))
              have hS1 : S0 ≤ wr.heap.size := by have := HB7.out.size; omega
              have ha1 : Below w1.heap.size w1 (w1.alloc (.cells #[.slice (some ⟨g1, 0, none⟩) (n i2 + 70) cp1] 27)) := (Below.refl _ _).alloc (Nat.le_refl _) _
              have hMa := HM1.out.below ha1
              have hrow := hn1.kept (grown_of' (r := none) ha1) (by cases (Value.slice (some ⟨g1, 0, none⟩) (n i2 + 70) cp1).ownBlock <;> simp)
              rw [← List.map_append] at hrow
              have hlie : ∀ g, (Value.slice (some ⟨g1, 0, none⟩) (n i2 + 70) cp1).ownBlock = some g → (V i2).ownBlock = some g ∨ S0 ≤ g := by
                intro g hg
                simp [Value.ownBlock] at hg
                subst hg
                rcases hl1 with h | h
                · exact .inl (by rw [HV.out]; exact h)
                · exact .inr (by omega)
              have hfin := hMa.second hA0 hrow hlie hown2 hgrow2
              have bw : Away O w wr := HBI.out.below HB7.out
              have bw1 : Away O w w1 := bw.grown hg1 (fun q hq => .inl ((HOO.out q).2 ⟨i2, hlt2, by rw [HV.out]; exact hq⟩))
              have bwa := bw1.below ha1
              have bw2 := bwa.grown hgrow2 (fun q hq => .inr (Nat.le_trans hwS (HM1.out.more.lt q hq).1))
              exact ⟨⟨i2 + 1, _, by omega, by go_num, hfin, bw2, by have h1 := hgrow2.size; simp at h1; omega⟩, by simp [intOf]; omega⟩
        · have hie : i2 = m := by omega
          subst hie
          by_cases hm0 : i2 = 0
          · subst hm0
            go_wp2_with fail
            refine wp_loop_rounds 1 ?_
            rw [rounds_succ]
            go_wp2
            go_ret
            exact ⟨rfl, HB2.out⟩
          · obtain ⟨B, cB, hvB⟩ : ∃ B cB, u5 = .slice (some ⟨B, 0, none⟩) i2 cB := by
              rcases HMID.out.more.2 with ⟨_, h0⟩ | ⟨B, cB, cur, hv', _⟩
              · exact absurd h0 hm0
              · exact ⟨B, cB, hv'⟩
            subst hvB
            go_wp2_with fail
            go_loop [9] (fun si => ∃ (q : Nat), q ≤ i2 ∧ si = .int .i64 q) (fun si => i2 - (intOf si).toNat)
            case atStart => exact ⟨0, Nat.zero_le _, rfl⟩
            case round =>
              obtain ⟨q, hq, rfl⟩ := hrel
              by_cases hlt5 : q < i2
              · have hcell := HMID.out.many.cell hlt5
                obtain ⟨a, c, hv⟩ := HMID.out.many.form hlt5
                rw [hv] at hcell
                have ho := HMID.out.many.own q hlt5
                rw [hv] at ho
                have hcM : wr.cell? ⟨B, q, none⟩ = some (M q) := by
                  rw [HMID.out.more.cellAt q (by omega)]; simp [hlt5]
                have hrow := HMID.out.rows q hlt5
                obtain ⟨gM, cM, hvM⟩ : ∃ gM cM, M q = .slice (some ⟨gM, 0, none⟩) (n q + 70) cM := by
                  rcases hrow.2 with ⟨_, h0⟩ | ⟨gM, cM, cur, hv', _⟩
                  · omega
                  · exact ⟨gM, cM, hv'⟩
                rw [hvM] at hcM hrow
                have hnq := HN.out q
                have HO := hide ho
                have HRow := hide hrow
                clear hv ho hrow hvM
                go_wp2_with fail
                go_loop [11] (fun sk => ∃ (k : Nat), k ≤ n q ∧ sk = .int .i64 k) (fun sk => n q - (intOf sk).toNat)
                case atStart => exact ⟨0, Nat.zero_le _, rfl⟩
                case round =>
                  obtain ⟨k, hk, rfl⟩ := hrel
                  by_cases hkl : k < n q
                  · obtain ⟨g, ha⟩ : ∃ g, a = some ⟨g, 0, none⟩ := by
                      rcases HO.out.2 with ⟨_, h0⟩ | ⟨g, c', cur, hv', _⟩
                      · omega
                      · cases hv'; exact ⟨g, rfl⟩
                    subst ha
                    have hck : wr.cell? ⟨g, k, none⟩ = some (.int .u8 ((7 * (q : Int) + (k : Int)) % 256)) := by
                      rw [HO.out.cellAt k (by omega), List.getElem?_map, mk_get hkl]; rfl
                    go_wp2
                    exact ⟨⟨k + 1, by omega, by go_num⟩, by simp [intOf]; omega⟩
                  · go_wp2_with fail
                    go_loop [12] (fun sk => ∃ (k : Nat), k ≤ 70 ∧ sk = .int .i64 k) (fun sk => 70 - (intOf sk).toNat)
                    case atStart => exact ⟨0, by omega, rfl⟩
                    case round =>
                      obtain ⟨k7, hk7, rfl⟩ := hrel
                      by_cases hk70 : k7 < 70
                      · have hck : wr.cell? ⟨gM, n q + k7, none⟩ = some (.int .u8 ((100 + (q : Int) + 5 * (k7 : Int)) % 256)) := by
                          rw [HRow.out.cellAt (n q + k7) (by omega), List.getElem?_map, List.getElem?_append_right (by simp [mkl])]
                          rw [show n q + k7 - (mkl q (n q)).length = k7 by simp [mkl], mr_get hk70]; rfl
                        have e1 : ((n q : Int) + (k7 : Int)).toNat = n q + k7 := by omega
                        go_wp2
                        exact ⟨⟨k7 + 1, by omega, by go_num⟩, by simp [intOf]; omega⟩
                      · go_wp2
                        exact ⟨⟨q + 1, by omega, by go_num⟩, by simp [intOf]; omega⟩
              · go_wp2
                go_ret
                exact ⟨rfl, HB2.out⟩
end Go.Proofs.YtgecdnmgifcghaaDoor
