/-
  Chunk: the records of one body.
-/
import Derived.Test.YtdppbaipmmcjbaaDoorSEnc
namespace Go.Proofs.YtdppbaipmmcjbaaDoor
open Go.RowKit
theorem own_setS {w : World} {base n p : Nat} {v : Value} {xs : List Value} {a b c : Value} {e : TypeId} {z : Nat} (h : w.ownsRow base e z v n xs) (hp : w.heap[p]? = some (.cells #[a, b, c] 69 (0, 0))) (x y u : Value) (hne : e ≠ 69 := by decide) : (((w.setCell ⟨p, 0, none⟩ x).setCell ⟨p, 1, none⟩ y).setCell ⟨p, 2, none⟩ u).ownsRow base e z v n xs :=
  own_but (S := fun g => g = p) h ((((But.refl (fun g => g = p) w).setCell ⟨p, 0, none⟩ (fun _ => rfl) x).setCell ⟨p, 1, none⟩ (fun _ => rfl) y).setCell ⟨p, 2, none⟩ (fun _ => rfl) u) (fun g hg e => own_ne_cells h hp hne (by rw [← (e : g = p)]; exact hg))
/-- While a body is read. -/
structure ChkI (w wr : World) (zs : List Int) (t : Nat) (v : Value) (acc : List Rc) (s : St) (m : Nat) : Prop where
  own : wr.ownsRow w.heap.size 48 5 v acc.length (flat acc)
  st : wr.heap[w.heap.size]? = some (.cells #[.int .i64 s.stamp, .int .u64 s.obj, .int .i64 s.stack] 69 (0, 0))
  bel : Below w.heap.size w wr
  fuel : zs.length - t ≤ m
  chk : chk zs m s t acc = chk zs zs.length St.zero 0 []
  may : mayS s.stamp s.stack = true
  ok : s.ok
  le : t ≤ zs.length
  few : (acc.length : Int) ≤ s.stamp
set_option maxHeartbeats 3200000 in
set_option maxRecDepth 10000 in
theorem chunk_any (ad : Option Addr) (n c : Nat) (zs : List Int) (w : World) (hK : Kn w) (hw : 0 < w.heap.size) (hr : Row w ad n zs) (hn : (n : Int) ≤ 9223372036854700000) :
    Calls Tryd.prog 19 #[.slice ad n c] w fun e w' => Below w.heap.size w w' ∧ ((chunkV zs).2 ≠ 0 → e = .returned (.tuple #[.slice none 0 0, .int .i64 (chunkV zs).2])) ∧ ((chunkV zs).2 = 0 → ∃ v, e = .returned (.tuple #[v, .int .i64 0]) ∧ w'.ownsRow w.heap.size 48 5 v (chunkV zs).1.length (flat (chunkV zs).1)) := by
  have hl := hr.len
  by_cases h0 : n = 0
  · subst h0
    have hv : chunkV zs = ([], 42) := by unfold chunkV; rw [if_pos hl]
    rw [hv]
    clear hr hv hl
    go_enter Tryd.func19, Tryd.ntmps19
    go_wp2
    go_ret2
    exact ⟨Below.refl _ _, fun _ => rfl, fun h => absurd h (by decide)⟩
  have hv : chunkV zs = chk zs zs.length St.zero 0 [] := by unfold chunkV; rw [if_neg (by omega)]
  have HV : Hid _ := hide hv
  have HR : Hid _ := hide hr
  have HU : Hid _ := hide hr.u8
  have HL : Hid _ := hide hl
  have h0I : ¬ (n : Int) = 0 := by omega
  obtain ⟨w1, hw1⟩ : ∃ w1, w1 = w.alloc (.cells #[.int .i64 0, .int .u64 0, .int .i64 0] 69) := ⟨_, rfl⟩
  have I0 : Hid (ChkI w w1 zs 0 (.slice none 0 0) [] St.zero zs.length) := hide (by
    rw [hw1]
    exact ⟨World.ownsRow_nil _ _ _ _, heap_new _ _, below_alloc1 _ _, by omega, rfl, may_zero, ok_zero, Nat.zero_le _, by decide⟩)
  have Hw1 : Hid _ := hide hw1
  clear hr hv hl hw1
  go_enter Tryd.func19, Tryd.ntmps19
  go_wp2_with fail
  rw [← Hw1.out, show ((n : Int) == 0) = false by simp; omega]
  clear h0I h0
  go_loopw [4, 6] (fun s4 s6 wr => ∃ (t : Nat) (acc : List Rc) (s : St) (m : Nat), s6 = .int .i64 t ∧ ChkI w wr zs t s4 acc s m)
    (fun _ s6 _ => n - (intOf s6).toNat)
  case atStart => exact ⟨0, [], St.zero, zs.length, rfl, I0.out⟩
  case round =>
    obtain ⟨t, acc, ⟨S, O, K⟩, m, rfl, hI⟩ := hrel
    clear I0 Hw1
    have HI : Hid _ := hide hI
    have hsz := hI.bel.size
    have hle : t ≤ n := by have := hI.le; have := HL.out; omega
    obtain ⟨z0, z1, z2⟩ := z3_cells hI.st
    have hmay := of_decide_eq_true hI.may
    dsimp only at hmay z0 z1 z2
    obtain ⟨av, cv, e9⟩ := own_formR hI.own
    subst e9
    by_cases hlt : t < n
    · have hltI : (t : Int) < (n : Int) := by omega
      have HG := get_any S O K t ad n c zs wr (hK.below hI.bel (by omega)) (by omega) (HR.out.below hI.bel) hn hI.ok.o0 hI.ok.o1
      clear hI
      by_cases hE : (getG ⟨S, O, K⟩ zs t).2.2 = 0
      · obtain ⟨⟨rt, rk, ro, ra, rq⟩, qn, e1, hp, hro, h3, h4, h5⟩ := get_inv HI.out.may HI.out.ok HU.out HI.out.le hE
        rw [e1, gV_ok] at HG
        simp only [gOk] at HG
        have HP : Hid _ := hide hp
        have HRO : Hid _ := hide hro
        obtain ⟨m', hm', hch⟩ := chk_on (acc := acc) (by have := HL.out; omega) HI.out.fuel e1 h3
        have HM : Hid _ := hide hm'
        have HCH : Hid _ := hide hch
        have hpk := putE_ok hp
        dsimp only at hpk
        have H4 : Hid _ := hide h4
        have hfew := HI.out.few
        dsimp only at hfew
        clear hE e1 hp hro h5 hm' hch h4
        go_wp2_with fail
        refine HG.mono ?_
        rintro e w3 ⟨rfl, hb3⟩
        have hs3 := hb3.size
        have O3 : Hid _ := hide (own_below HI.out.own hb3)
        have S3 := (hb3.block _ (lt_of_heap HI.out.st)).trans HI.out.st
        have HS3 : Hid _ := hide S3
        have hlt3 := lt_of_heap S3
        obtain ⟨y0, y1, y2⟩ := z3_cells S3
        have f0 := frz S3 0
        have f1 := frz S3 1
        have f2 := frz S3 2
        dsimp only at y0 y1 y2
        clear S3 HG z0 z1 z2 y0 y1 y2 f0 f1 f2
        obtain ⟨W4, hW4⟩ : ∃ W4, W4 = ((w3.alloc (.cells #[.int .i64 rt, .int .i64 rk, .int .u64 ro, .int .u64 ra, .int .i64 rq] 48)).alloc (.cells #[.int .i64 (rt + 1), .int .u64 ro, .int .i64 rq] 69)).alloc (.cells #[.int .i64 rt, .int .i64 rk, .int .u64 ro, .int .u64 ra, .int .i64 rq] 48) := ⟨_, rfl⟩
        have hsz4 : W4.heap.size = w3.heap.size + 3 := by rw [hW4]; simp
        have hb34 : Below w3.heap.size w3 W4 := by rw [hW4]; exact (below_alloc2 _ _ _).alloc (by simp; omega) _
        have oW : Hid _ := hide (own_below O3.out hb34)
        have hX4 : Hid (W4.heap[w3.heap.size + 1 + 1]? = some (.cells #[.int .i64 rt, .int .i64 rk, .int .u64 ro, .int .u64 ra, .int .i64 rq] 48 (0, 0))) := hide (by rw [hW4]; exact heap_newS (by simp))
        have LS4 : Hid _ := hide ((hb34.block _ hlt3).trans HS3.out)
        have LN4 : Hid (W4.heap[w3.heap.size + 1]? = some (.cells #[.int .i64 (rt + 1), .int .u64 ro, .int .i64 rq] 69 (0, 0))) := hide (by rw [hW4]; exact heap_old (heap_new2 _ _ _))
        have HW4 : Hid _ := hide hW4
        have hbw4 : Below w.heap.size w W4 := HI.out.bel.trans ((hb3.trans (hb34.mono hs3)).mono hsz)
        have HBW : Hid _ := hide hbw4
        clear hW4 hb34 hb3 hbw4
        go_wp2_with (at_builtin; rw [← HW4.out]; refine rec_lies W4 rfl _ _ rfl w.heap.size (.slice av acc.length cv) acc.length acc rfl oW.out (w3.heap.size + 1 + 1) ⟨rt, rk, ro, ra, rq⟩ rfl hX4.out (by omega) (by omega) ?_; intro g4 c4 w4 o4 gr4 l4; have LS5 := (gr4.block _ (lt_of_heap LS4.out) (fun e => own_ne_cells oW.out LS4.out (by decide) e.symm)).trans LS4.out; have LN5 := (gr4.block _ (lt_of_heap LN4.out) (fun e => own_ne_cells oW.out LN4.out (by decide) e.symm)).trans LN4.out; have O4 : Hid _ := hide o4; have G4 : Hid _ := hide gr4; clear o4 gr4 l4)
        have HLS : Hid _ := hide LS5
        obtain ⟨y0, y1, y2⟩ := z3_cells LS5
        obtain ⟨n0, n1, n2⟩ := z3_cells LN5
        have f0 := frz LS5 0
        have f1 := frz LS5 1
        have f2 := frz LS5 2
        have hne : ¬ w.heap.size = w3.heap.size + 1 := by omega
        have hne2 : ¬ w3.heap.size + 1 = w.heap.size := by omega
        clear LS5 LN5
        go_region
        go_wp2
        refine ⟨⟨qn, acc ++ [⟨rt, rk, ro, ra, rq⟩], ⟨rt + 1, ro, rq⟩, m', rfl, ?_⟩, by simp [intOf]; omega⟩
        have hO5 := own_setS O4.out HLS.out (.int .i64 (rt + 1)) (.int .u64 ro) (.int .i64 rq)
        refine ⟨?_, set3_heap HLS.out, ?_, HM.out, HCH.out.symm.trans HI.out.chk, may_behind HP.out, ok_behind HRO.out, H4.out, by rw [List.length_append]; simp; omega⟩
        · rw [List.length_append]; exact own_below hO5 ((Below.refl _ _).drew)
        · have hb4 : Below w.heap.size w w4 := HBW.out.grown G4.out (by omega) (fun g e => (oW.out.lt g e).1)
          exact (((hb4.setCell (p := ⟨w.heap.size, 0, none⟩) (Nat.le_refl _) _).setCell (p := ⟨w.heap.size, 1, none⟩) (Nat.le_refl _) _).setCell (p := ⟨w.heap.size, 2, none⟩) (Nat.le_refl _) _).drew
      · have HCH : Hid (chk zs zs.length St.zero 0 [] = ([], (getG ⟨S, O, K⟩ zs t).2.2)) := hide (HI.out.chk.symm.trans (chk_bad (by have := HL.out; omega) HI.out.fuel hE))
        simp only [gV] at HG
        generalize stOf (getG ⟨S, O, K⟩ zs t) = st at HG
        generalize getG ⟨S, O, K⟩ zs t = R at HG HCH hE
        obtain ⟨⟨qt, qk, qo, qa, qq⟩, pp, ff⟩ := R
        obtain ⟨v1, v2, v3⟩ := st
        dsimp only at HG HCH hE
        go_wp2_with fail
        refine HG.mono ?_
        rintro e w3 ⟨rfl, hb3⟩
        have HB3 : Hid _ := hide (HI.out.bel.trans (hb3.mono hsz))
        clear hb3 HG
        go_wp2
        go_ret2
        rw [HV.out, HCH.out]
        refine ⟨?_, fun _ => rfl, fun e => absurd e hE⟩
        exact ((HB3.out.alloc HB3.out.size _).alloc (by have := HB3.out.size; simp; omega) _)
    · have hte : zs.length ≤ t := by have := HL.out; omega
      have HCH : Hid (chk zs zs.length St.zero 0 [] = (acc, 0)) := hide (HI.out.chk.symm.trans (chk_end hte))
      clear hI hte
      go_wp2
      go_ret2
      rw [HV.out, HCH.out]
      exact ⟨HI.out.bel, fun e => absurd rfl e, fun _ => ⟨_, rfl, HI.out.own⟩⟩
end Go.Proofs.YtdppbaipmmcjbaaDoor
