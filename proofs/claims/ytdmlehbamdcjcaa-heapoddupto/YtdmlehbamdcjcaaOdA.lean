/-
  HeapOdd: the law's own calls.
-/
import Derived.Test.YtdmlehbamdcjcaaHpJO
import Derived.Test.YtdmlehbamdcjcaaOpenG
import Derived.Test.YtdmlehbamdcjcaaMgM
namespace Go.Proofs.Ytdmlehbamdcjcaa
open Go.RowKit
def layBO : Lay Bool := ⟨fun a => [.bool a], 1, by decide, fun _ => rfl, by intro a u hu; simp at hu; subst hu; rfl⟩
theorem Try.info4O : (Try.prog.info? 4).map (fun i => (i.zero, i.size, i.bytes)) = some (some (.bool false), 1, 1) := by kernel_rfl
theorem tg_getO {α : Type} (L : List α) (s : Int) (i : Nat) : (tg L s)[i]? = (L[i]?).map fun x => (x, s + i) := by
  induction L generalizing s i with
  | nil => simp [tg]
  | cons x L ih =>
    cases i with
    | zero => simp [tg]
    | succ i =>
      rw [tg, List.getElem?_cons_succ, ih, List.getElem?_cons_succ]
      congr 1
      funext y
      congr 1
      omega
def mkO (s : Int) (e : Int × Int) : Od := ⟨e.1, s, e.2⟩
/-- Things of these keys, each with its place as its tag. -/
def odI (K : List Int) (s : Int) : List Od := (tg K 0).map (mkO s)
theorem odI_len (K : List Int) (s : Int) : (odI K s).length = K.length := by unfold odI; rw [List.length_map, tg_len]
theorem odI_get (K : List Int) (s : Int) (i : Nat) : (odI K s)[i]? = (K[i]?).map fun x => (⟨x, s, i⟩ : Od) := by
  unfold odI
  rw [List.getElem?_map, tg_getO]
  cases K[i]? with
  | none => rfl
  | some x => simp [mkO]
theorem odI_snoc (K : List Int) (s : Int) (i : Nat) (x : Int) (hx : K[i]? = some x) : odI (K.take (i + 1)) s = odI (K.take i) s ++ [⟨x, s, i⟩] := by
  have hi : i < K.length := get_lt hx
  rw [take_snoc hx]
  unfold odI
  rw [tg_snoc, List.map_append, List.length_take, Nat.min_eq_left (by omega)]
  simp [mkO]
theorem odI_tag {K : List Int} {s : Int} {i : Nat} {x : Od} (h : (odI K s)[i]? = some x) : x.t = i := by
  rw [odI_get] at h
  obtain ⟨y, _, rfl⟩ := Option.map_eq_some_iff.1 h
  rfl
theorem neqO (w : World) (a0 a1 a2 : Int) : (binOp .neq 65 (.agg #[.int .i64 a0, .int .i64 a1, .int .i64 a2]) (.agg #[.int .i64 a0, .int .i64 a1, .int .i64 a2])).run Try.prog w = .ok (.bool false) w := by
  have hu : Try.prog.underlying 65 = some (.struct (Try.prog.fieldsOf 65)) := by simp [Program.fieldsOf, Try.underlying65]
  have hp : Try.prog.stoodInHeld 65 = false := by kernel_rfl
  rw [run_neq_struct, show (10000 : Nat) = 9998 + 1 + 1 from rfl, run_equalIn_struct w _ _ _ _ hu hp]
  simp only [Program.fieldsOf, Try.underlying65]
  simp [Op.eqFields, go_sem, Try.underlying3]
set_option maxRecDepth 8000 in
set_option maxHeartbeats 1600000 in
theorem odds_any (w : World) (a : Option Addr) (N c : Nat) (K : List Int) (s : Int) (hr : TRow layN w a N K) (hN : (N : Int) ≤ 4300000000000) :
    Calls Try.prog 32 #[.slice a N c, .int .i64 s] w fun r w' => ∃ v, r = .returned v ∧ Own layO 65 w' w.heap.size v (odI K s) ∧ Below w.heap.size w w' := by
  obtain ⟨i0, hi, hz0, hz1, hz2⟩ := info_parts Try.infoTO
  have HR : Hid _ := hide hr
  have HLN : Hid _ := hide hr.len
  clear hr
  go_enter Try.func32, Try.ntmps32
  go_wp2_with fail
  go_loopw [5, 6] (fun sl si wr => ∃ k : Nat, si = .int .i64 k ∧ k ≤ N ∧ Own layO 65 wr w.heap.size sl (odI (K.take k) s) ∧ Below w.heap.size w wr) (fun _ si _ => N - (intOf si).toNat)
  case atStart => exact ⟨0, rfl, Nat.zero_le _, Own.nil _ _ _ _, Below.refl _ _⟩
  case round =>
    obtain ⟨k, rfl, hk, ho, hb⟩ := hrel
    have HO : Hid _ := hide ho
    have HB : Hid _ := hide hb
    by_cases hlt : k < N
    · have hltI : (k : Int) < (N : Int) := by omega
      obtain ⟨x, hx⟩ : ∃ x, K[k]? = some x := ⟨_, List.getElem?_eq_getElem (by rw [HLN.out]; exact hlt)⟩
      obtain ⟨b, off, rfl, _, hc⟩ := (HR.out.below hb).at (by omega)
      have x0 := hc k x hx 0 _ rfl
      simp only [layN, Nat.mul_one, Nat.add_zero] at x0
      have hlk : (odI (K.take k) s).length = k := by rw [odI_len, List.length_take, HLN.out]; omega
      obtain ⟨av, cv, hvv, _, _⟩ := own_form ho
      rw [hlk] at hvv
      subst hvv
      have HX : Hid _ := hide hx
      have HLK : Hid _ := hide hlk
      clear ho hb hc hx hlk
      go_wp2_with (at_builtin; refine append_lay layO _ 60 65 i0 _ 24 Try.underlying60 hi hz0 hz1 hz2 rfl rfl (.tmp 13) (.tmp 21) rfl w.heap.size _ _ rfl (HO.out.below (below_alloc1 _ _)) _ _ _ [(⟨x, s, k⟩ : Od)] rfl (TRow.one (heap_new _ _)) (fun e => by cases e) (by rw [HLK.out]; unfold maxLen; omega) (by rw [HLK.out]; omega) (by simp; have := HB.out.size; omega) ?_; intro v2 w2 hown2 hgr2 hl2)
      refine ⟨⟨k + 1, by go_num, by omega, ?_, (HB.out.alloc HB.out.size _).grown hgr2 (by simp; have := HB.out.size; omega) (fun q hq => (HO.out.lt q hq).1)⟩, by simp [intOf]; omega⟩
      rw [odI_snoc K s k x HX.out]
      exact hown2
    · clear ho hb
      go_wp2_with fail
      go_ret
      refine ⟨_, rfl, ?_, HB.out⟩
      have h9 := HO.out
      rw [List.take_of_length_le (by rw [HLN.out]; omega)] at h9
      exact h9
/-- Just the things of L, each once. -/
structure Thos (G L : List Od) : Prop where
  key : ∀ (i : Nat) (x : Od), G[i]? = some x → ∃ j : Nat, x.t = j ∧ L[j]? = some x
  uni : ∀ (i i' : Nat) (x x' : Od), G[i]? = some x → G[i']? = some x' → x.t = x'.t → i = i'
theorem thos_perm {G L : List Od} (h : G.Perm L) (ht : ∀ (i : Nat) (x : Od), L[i]? = some x → x.t = i) : Thos G L := by
  have hp : L.Pairwise fun x y => x.t ≠ y.t := by
    rw [List.pairwise_iff_getElem]
    intro i j hi hj hij e
    have h1 := ht i _ (List.getElem?_eq_getElem hi)
    have h2 := ht j _ (List.getElem?_eq_getElem hj)
    rw [h1, h2] at e
    omega
  have hg : G.Pairwise fun x y => x.t ≠ y.t := h.symm.pairwise hp (fun h => h.symm)
  refine ⟨fun i x hx => ?_, fun i i' x x' hx hx' he => ?_⟩
  · obtain ⟨j, hj⟩ := List.getElem?_of_mem (h.subset (List.mem_of_getElem? hx))
    exact ⟨j, ht j x hj, hj⟩
  · rw [List.pairwise_iff_getElem] at hg
    obtain ⟨h1, rfl⟩ := List.getElem?_eq_some_iff.1 hx
    obtain ⟨h2, rfl⟩ := List.getElem?_eq_some_iff.1 hx'
    rcases Nat.lt_trichotomy i i' with h3 | h3 | h3
    · exact absurd he (hg i i' h1 h2 h3)
    · exact h3
    · exact absurd he.symm (hg i' i h2 h1 h3)
set_option maxRecDepth 8000 in
set_option maxHeartbeats 6400000 in
theorem those_any (w : World) (aG aL : Option Addr) (N cG cL : Nat) (G L : List Od) (hG : TRow layO w aG N G) (hL : TRow layO w aL N L) (ho : Thos G L) (hN : (N : Int) ≤ 4300000000000) :
    Calls Try.prog 35 #[.slice aG N cG, .slice aL N cL] w fun r w' => r = .returned (.bool true) ∧ Below w.heap.size w w' := by
  obtain ⟨i0, hi, hz0, hz1, hz2⟩ := info_parts Try.info4O
  have HG : Hid _ := hide hG
  have HL : Hid _ := hide hL
  have HLG : Hid _ := hide hG.len
  have HLL : Hid _ := hide hL.len
  have HO : Hid _ := hide ho
  clear hG hL ho
  go_enter Try.func35, Try.ntmps35
  go_wp2_with (at_make; refine wpList_make_full _ rfl _ _ 32 rfl w.heap.size 4 i0 (.bool false) 1 Try.underlying32 hi hz0 hz1 _ _ _ _ N rfl rfl rfl rfl ?b2 ?b3 (Nat.le_refl _) ?_)
  case b2 => rw [hz2]; omega
  case b3 => unfold maxLen; omega
  intro w1 hown1 hgr1
  have O1 : Own layBO 4 w1 w.heap.size (.slice (some ⟨w.heap.size, 0, none⟩) N N) (List.replicate N false) := by
    have h9 := made_fl layBO false N
    rw [show N * layBO.z = N from Nat.mul_one N] at h9
    unfold Own
    rw [List.length_replicate, ← h9]
    exact hown1
  have B1 : Below w.heap.size w w1 := (Below.refl _ _).grown hgr1 (Nat.le_refl _) (fun k h => by cases h)
  have HO1 : Hid _ := hide O1
  have HB1 : Hid _ := hide B1
  clear O1 B1 hown1 hgr1
  go_wp2_with fail
  go_loopw [6] (fun si wr => ∃ (i : Nat) (SB : List Bool), si = .int .i64 i ∧ i ≤ N ∧ Hid (SB.length = N) ∧ Own layBO 4 wr w.heap.size (.slice (some ⟨w.heap.size, 0, none⟩) N N) SB ∧ (∀ j : Nat, SB[j]? = some true → ∃ (i' : Nat) (x : Od), i' < i ∧ G[i']? = some x ∧ x.t = j) ∧ Below w.heap.size w wr) (fun si _ => N - (intOf si).toNat)
  case atStart =>
    refine ⟨0, List.replicate N false, rfl, Nat.zero_le _, hide (by simp), HO1.out, fun j hj => ?_, HB1.out⟩
    rw [List.getElem?_replicate] at hj
    split at hj <;> simp at hj
  case round =>
    obtain ⟨i, SB, rfl, hiN, HSB, hso, hse, hb⟩ := hrel
    have HSO : Hid _ := hide hso
    have HSE : Hid _ := hide hse
    have HB : Hid _ := hide hb
    clear hso hse hb
    by_cases hlt : i < N
    · have hltI : (i : Int) < (N : Int) := by omega
      obtain ⟨x, hx⟩ : ∃ x, G[i]? = some x := ⟨_, List.getElem?_eq_getElem (by rw [HLG.out]; exact hlt)⟩
      obtain ⟨j, hj, hLj⟩ := HO.out.key i x hx
      have hjN : j < N := by have := get_lt hLj; rw [HLL.out] at this; exact this
      have hjI : (j : Int) < (N : Int) := by omega
      obtain ⟨bM, oM, rfl, _, hcM⟩ := (HG.out.below HB.out).at (by omega)
      obtain ⟨bK, oK, rfl, _, hcK⟩ := (HL.out.below HB.out).at (by omega)
      have x0 := hcM i x hx 0 _ rfl
      have x1 := hcM i x hx 1 _ rfl
      have x2 := hcM i x hx 2 _ rfl
      have y0 := hcK j _ hLj 0 _ rfl
      have y1 := hcK j _ hLj 1 _ rfl
      have y2 := hcK j _ hLj 2 _ rfl
      have hsf : SB[j]? = some false := by
        have hjl : j < SB.length := by rw [HSB.out]; exact hjN
        cases hq : SB[j] with
        | false => rw [List.getElem?_eq_getElem hjl, hq]
        | true =>
          obtain ⟨i', x', h1, h2, h3⟩ := HSE.out j (by rw [List.getElem?_eq_getElem hjl, hq])
          have := HO.out.uni i' i x' x h2 hx (by rw [h3, hj])
          omega
      have s0 := HSO.out.cell hsf 0 rfl
      have f0 := HSO.out.frozen j
      have HX : Hid _ := hide hx
      obtain ⟨xk, xs, xt⟩ := x
      have hj' : xt = (j : Int) := hj
      subst hj'
      simp only [layO, layBO, Nat.mul_one, Nat.add_zero] at x0 x1 x2 y0 y1 y2 s0
      have hq : ∀ W' : World, (binOp .neq 65 (.agg #[.int .i64 xk, .int .i64 xs, .int .i64 j]) (.agg #[.int .i64 xk, .int .i64 xs, .int .i64 j])).run Try.prog W' = .ok (.bool false) W' := fun W' => neqO W' _ _ _
      have d1 : decide ((j : Int) < 0) = false := decide_eq_false (by omega)
      have d2 : decide ((N : Int) ≤ (j : Int)) = false := decide_eq_false (by omega)
      have d3 : decide (N ≤ j) = false := decide_eq_false (by omega)
      clear hcM hcK hx hj hLj hsf
      go_upto_region 6 with fail
      go_quiet (fail)
      obtain ⟨w5, hw5⟩ : ∃ w5, w5 = wr.drewN nq := ⟨_, rfl⟩
      have b5 : Below wr.heap.size wr w5 := by rw [hw5]; exact below_drewN (Below.refl _ _) _
      rw [← hw5]
      clear hw5 s0 f0 x0 x1 x2 y0 y1 y2
      have O5 := HSO.out.below b5
      have hsl : j < SB.length := by rw [HSB.out]; exact hjN
      obtain ⟨bq, hbq⟩ : ∃ bq, SB[j]? = some bq := ⟨_, List.getElem?_eq_getElem hsl⟩
      have s0 := O5.cell hbq 0 rfl
      have f0 := O5.frozen j
      simp only [layBO, Nat.mul_one, Nat.add_zero] at s0
      have HO5 : Hid _ := hide O5
      have HB5 : Hid _ := hide (HB.out.trans (b5.mono HB.out.size))
      clear O5 b5 hbq hsl d1 d2 d3
      go_wp2_with fail
      obtain ⟨w6, hw6⟩ : ∃ w6, w6 = setC w5 w.heap.size j [.bool true] := ⟨_, rfl⟩
      have hw6' : w5.setCell ⟨w.heap.size, j, none⟩ (.bool true) = w6 := by rw [hw6]; rfl
      rw [hw6']
      have O6 : Own layBO 4 w6 w.heap.size (.slice (some ⟨w.heap.size, 0, none⟩) N N) (SB.set j true) := by
        have h9 := HO5.out.set HSB.out (i := j) (by rw [HSB.out]; exact hjN) true
        rw [hw6]
        simpa [layBO] using h9
      have B6 : Below w.heap.size w w6 := by
        rw [hw6]
        exact HB5.out.trans (((But.refl (fun k => k = w.heap.size) w5).setC [.bool true] (fun _ => rfl)).below HB5.out.size (fun k hk => by have e9 : k = w.heap.size := hk; omega))
      refine ⟨⟨i + 1, SB.set j true, by go_num, by omega, hide (by rw [List.length_set]; exact HSB.out), O6, fun j' h9 => ?_, B6⟩, by simp [intOf]; omega⟩
      rw [List.getElem?_set] at h9
      by_cases hjj : j = j'
      · subst hjj; exact ⟨i, _, by omega, HX.out, rfl⟩
      · rw [if_neg hjj] at h9
        obtain ⟨i', x', h1, h2, h3⟩ := HSE.out j' h9
        exact ⟨i', x', by omega, h2, h3⟩
    · have hltI : ¬ (i : Int) < (N : Int) := by omega
      go_wp2_with fail
      go_ret
      exact ⟨rfl, HB.out⟩
end Go.Proofs.Ytdmlehbamdcjcaa
