/-
  A shelf in memory; stackOf.
-/
import Derived.Test.YtnengkdddckjaaaKmM
import Derived.Test.YtnengkdddckjaaaEvtW
import Derived.Deep.RegionHeld3
namespace Go.Proofs.Ytnengkdddckjaaa
open Go.RowKit Go.Maps
set_option linter.unusedVariables false
/-- Where a shelf lies. -/
structure Sw where
  a : Option Addr
  n : Nat
  c : Nat
  m1 : Nat
  m2 : Nat
  m3 : Nat
abbrev Sw.v (v : Sw) : Value := .agg #[.slice v.a v.n v.c, .map (some v.m1), .map (some v.m2), .map (some v.m3)]
def Sw.bl (v : Sw) (q : Nat) : Prop := q = v.m1 ∨ q = v.m2 ∨ q = v.m3
def Sw.b2 (v : Sw) (q : Nat) : Prop := q = v.m1 ∨ q = v.m2
/-- A shelf, made behind the world w0. -/
structure Sh (es : List E6.Ev) (w0 : World) (v : Sw) (w : World) (F : List ByteArray) (S : List (Int × Int)) (K : Nat) : Prop where
  row : E6.ERow w0 v.a v.n es
  bel : Below w0.heap.size w0 w
  g1 : w0.heap.size ≤ v.m1
  g2 : w0.heap.size ≤ v.m2
  g3 : w0.heap.size ≤ v.m3
  d12 : v.m1 ≠ v.m2
  d13 : v.m1 ≠ v.m3
  d23 : v.m2 ≠ v.m3
  nf : NM yS w v.m1 F
  ns : NM yP w v.m2 S
  ev : ∃ k f, KM yI w v.m3 k f ∧ k ≤ K ∧ ∀ p s, f p = some s → ∃ (q : Nat) (e : E6.Ev), p = (q : Int) ∧ es[q]? = some e ∧ Nm F S e.ls s
  lf : F.length ≤ K
  ls : S.length ≤ K
section
variable {es : List E6.Ev} {w0 w w' : World} {v : Sw} {F F' : List ByteArray} {S S' : List (Int × Int)} {K K' : Nat}
theorem Sh.below (h : Sh es w0 v w F S K) (hb : Below w.heap.size w w') : Sh es w0 v w' F S K := by
  obtain ⟨k, f, h1, h2, h3⟩ := h.ev
  exact { h with bel := Below.on h.bel hb, nf := h.nf.below hb, ns := h.ns.below hb, ev := ⟨k, f, h1.below hb, h2, h3⟩ }
theorem Sh.up (h : Sh es w0 v w F S K) (hk : K ≤ K') : Sh es w0 v w F S K' := by
  obtain ⟨k, f, h1, h2, h3⟩ := h.ev
  exact { h with ev := ⟨k, f, h1, by omega, h3⟩, lf := Nat.le_trans h.lf hk, ls := Nat.le_trans h.ls hk }
theorem Sh.lt1 (h : Sh es w0 v w F S K) : v.m1 < w.heap.size := h.nf.km.lt
theorem Sh.lt2 (h : Sh es w0 v w F S K) : v.m2 < w.heap.size := h.ns.km.lt
theorem Sh.lt3 (h : Sh es w0 v w F S K) : v.m3 < w.heap.size := by obtain ⟨k, f, h1, _⟩ := h.ev; exact h1.lt
theorem Sh.bl_ge (h : Sh es w0 v w F S K) {q : Nat} (hq : v.bl q) : w0.heap.size ≤ q := by
  rcases hq with rfl | rfl | rfl
  · exact h.g1
  · exact h.g2
  · exact h.g3
theorem Sh.bl_lt (h : Sh es w0 v w F S K) {q : Nat} (hq : v.bl q) : q < w.heap.size := by
  rcases hq with rfl | rfl | rfl
  · exact h.lt1
  · exact h.lt2
  · exact h.lt3
/-- The frames' map was written. -/
theorem Sh.one (h : Sh es w0 v w F S K) (h1 : NM yS w' v.m1 F') (hp : F <+: F') (hb : But (fun q => q = v.m1) w w') (hl : F'.length ≤ K') (hK : K ≤ K') : Sh es w0 v w' F' S K' := by
  obtain ⟨k, f, k1, k2, k3⟩ := h.ev
  exact { h with
    bel := h.bel.trans (hb.below h.bel.size (fun q e => by rw [e]; exact h.g1))
    nf := h1
    ns := h.ns.but hb (fun e => h.d12 e.symm)
    ev := ⟨k, f, k1.but hb (fun e => h.d13 e.symm), by omega, fun p s hs => by obtain ⟨q, e, a, b, c⟩ := k3 p s hs; exact ⟨q, e, a, b, c.mono hp (List.prefix_refl _)⟩⟩
    lf := hl
    ls := Nat.le_trans h.ls hK }
theorem Sh.two (h : Sh es w0 v w F S K) (h1 : NM yP w' v.m2 S') (hp : S <+: S') (hb : But (fun q => q = v.m2) w w') (hl : S'.length ≤ K') (hK : K ≤ K') : Sh es w0 v w' F S' K' := by
  obtain ⟨k, f, k1, k2, k3⟩ := h.ev
  exact { h with
    bel := h.bel.trans (hb.below h.bel.size (fun q e => by rw [e]; exact h.g2))
    nf := h.nf.but hb (fun e => h.d12 e)
    ns := h1
    ev := ⟨k, f, k1.but hb (fun e => h.d23 e.symm), by omega, fun p s hs => by obtain ⟨q, e, a, b, c⟩ := k3 p s hs; exact ⟨q, e, a, b, c.mono (List.prefix_refl _) hp⟩⟩
    lf := Nat.le_trans h.lf hK
    ls := hl }
/-- What stackOf answers. -/
def SoR (es : List E6.Ev) (w0 : World) (v : Sw) (F : List ByteArray) (S : List (Int × Int)) (K : Nat) (xs : List ByteArray) (w : World) (e : Ending) (w' : World) : Prop :=
  ∃ F' S' s, e = .returned (.int .i64 s) ∧ Sh es w0 v w' F' S' K ∧ F <+: F' ∧ S <+: S' ∧ Nm F' S' xs s ∧ But v.bl w w'
end
set_option maxRecDepth 8000 in
set_option maxHeartbeats 4000000 in
theorem stackOf_any (es : List E6.Ev) (w0 : World) (v : Sw) (F : List ByteArray) (S : List (Int × Int)) (K M : Nat) (p : Nat) (e : E6.Ev) (w : World) (h : Sh es w0 v w F S K) (hn : v.n ≤ 140737488355328) (he : es[p]? = some e) (hok : e.ok) (hM : e.ls.length + 1 ≤ M) (hK : K + M ≤ 70368744177664) :
    Calls Try.prog 19 #[v.v, .int .i64 (p : Int)] w (SoR es w0 v F S (K + M) e.ls w) := by
  obtain ⟨a, n, c, m1, m2, m3⟩ := v
  have hnn : n ≤ 140737488355328 := hn
  have hesl : es.length = n := h.row.len
  obtain ⟨W, hW⟩ : ∃ W, W = w.alloc (.cells #[.slice a n c, .map (some m1), .map (some m2), .map (some m3)] 48) := ⟨_, rfl⟩
  have hbW : Below w.heap.size w W := by rw [hW]; exact below_alloc1 _ _
  have hS := h.below hbW
  have hrow : W.heap[w.heap.size]? = some (.cells #[.slice a n c, .map (some m1), .map (some m2), .map (some m3)] 48 (0, 0)) := by rw [hW]; exact heap_new _ _
  have c0 : W.cell? ⟨w.heap.size, 0, none⟩ = some (.slice a n c) := cell_at hrow rfl
  have c3 : W.cell? ⟨w.heap.size, 3, none⟩ = some (.map (some m3)) := cell_at hrow rfl
  obtain ⟨k, f, hkm, hk, hf⟩ := hS.ev
  have hpl : p < n := by have := (List.getElem?_eq_some_iff.1 he).1; omega
  have hlk := hkm.lookOk (k := (p : Int)) (m := 46) (e := 3) Try.underlying46 (zero3 W) (show _ ∧ _ from by omega)
  cases hfp : f (p : Int) with
  | some s =>
    rw [hfp] at hlk
    have hlk2 : (Instr.lookup 46 (.map (some m3)) (.int .i64 (p : Int)) true).run Try.prog W = .ok (.tuple #[.int .i64 s, .bool true]) W := hlk
    obtain ⟨q, e', hq, hqe, hNm⟩ := hf _ _ hfp
    have hqp : q = p := by omega
    subst hqp
    have hee : e' = e := Option.some.inj (hqe.symm.trans he)
    subst hee
    have HF : Hid (SoR es w0 ⟨a, n, c, m1, m2, m3⟩ F S (K + M) e'.ls w (.returned (.int .i64 s)) W) := hide ⟨F, S, s, rfl, hS.up (by omega), List.prefix_refl _, List.prefix_refl _, hNm, But.of_below hbW⟩
    have HW := hide hW
    clear h hlk hW hbW hrow hkm hk hf hNm hfp hqe hS hq he hok
    go_enter Try.func19, Try.ntmps19
    go_wp2
    rw [← HW.out, hlk2]
    go_wp2
    go_ret
    exact HF.out
  | none =>
    rw [hfp] at hlk
    have hlk2 : (Instr.lookup 46 (.map (some m3)) (.int .i64 (p : Int)) true).run Try.prog W = .ok (.tuple #[.int .i64 0, .bool false]) W := hlk
    obtain ⟨b, off, e', ha, hee, d0, d1, d2, d3, d4, hst⟩ := h.row.at hpl
    have hee : e' = e := Option.some.inj (hee.symm.trans he)
    subst hee
    have d4 := E6.cell_bel d4 hS.bel
    have ha2 : a = some ⟨b, off, none⟩ := ha
    subst ha2
    have hplI : (p : Int) < (n : Int) := by omega
    have hp0 : (0 : Int) ≤ (p : Int) := by omega
    obtain ⟨g0, k0, o0, a0, sa, sc, ls⟩ := e'
    have HW := hide hW
    have HRB : Hid (∀ X, But (Sw.b2 ⟨some ⟨b, off, none⟩, n, c, m1, m2, m3⟩) W X → X.heap[w.heap.size]? = some (.cells #[.slice (some ⟨b, off, none⟩) n c, .map (some m1), .map (some m2), .map (some m3)] 48 (0, 0))) := hide (fun X hX => by
      refine (hX.block _ (Array.getElem?_eq_some_iff.1 hrow).1 (fun hq => ?_)).trans hrow
      have h9 : w.heap.size < w.heap.size := by
        rcases hq with e | e
        · exact Nat.lt_of_le_of_lt (Nat.le_of_eq e) h.lt1
        · exact Nat.lt_of_le_of_lt (Nat.le_of_eq e) h.lt2
      omega)
    have HS0 : Hid (Sh es w0 ⟨some ⟨b, off, none⟩, n, c, m1, m2, m3⟩ W F S (K + 0)) := hide hS
    have HSR := hide hst
    have HKm : Hid (KM yI W m3 k f) := hide hkm
    have HKk := hide hk
    have HFp := hide hfp
    have HD : Hid (m1 ≠ m3 ∧ m2 ≠ m3) := hide ⟨h.d13, h.d23⟩
    have HFv := hide hf
    have HOk := hide hok
    have HM := hide hM
    have HKK := hide hK
    have HBW := hide hbW
    have HE := hide he
    clear hlk hW hbW hrow hkm hk hf hfp hS hok h hee hst d0 d1 d2 d3 hM hK he
    go_enter Try.func19, Try.ntmps19
    go_wp2
    rw [← HW.out, hlk2]
    go_wp2
    clear hlk2 c0 c3 d4
    go_loopw [5, 25] (fun sv iv wr => ∃ (i : Nat) (F' : List ByteArray) (S' : List (Int × Int)) (s : Int), i ≤ ls.length ∧ iv = .int .i64 i ∧ sv = .int .i64 s ∧ Hid (Sh es w0 ⟨some ⟨b, off, none⟩, n, c, m1, m2, m3⟩ wr F' S' (K + i)) ∧ Hid (F <+: F' ∧ S <+: S' ∧ Nm F' S' (ls.take i) s) ∧ Hid (But (Sw.b2 ⟨some ⟨b, off, none⟩, n, c, m1, m2, m3⟩) W wr)) (fun _ iv _ => ls.length - (intOf iv).toNat)
    case atStart => exact ⟨0, F, S, 0, Nat.zero_le _, rfl, rfl, HS0, hide ⟨List.prefix_refl _, List.prefix_refl _, .nil⟩, hide (But.refl _ _)⟩
    case round =>
      obtain ⟨i, F', S', s, hi, rfl, rfl, HS, HP, HBt⟩ := hrel
      clear HS0 HW
      have hlB : (ls.length : Int) ≤ 70368744177664 := by have h8 : ls.length + 1 ≤ M := HM.out; have h9 := HKK.out; omega
      by_cases hlt : i < ls.length
      · have hiI : (i : Int) < (ls.length : Int) := by omega
        have hi0 : (0 : Int) ≤ (i : Int) := by omega
        obtain ⟨b2, off2, hsa, hc2⟩ := (HSR.out.bel HS.out.bel).at hlt
        have hsa2 : sa = some ⟨b2, off2, none⟩ := hsa
        subst hsa2
        obtain ⟨x, hx⟩ : ∃ x, ls[i]? = some x := ⟨_, List.getElem?_eq_getElem hlt⟩
        have hxg : ls.getD i ByteArray.empty = x := by rw [List.getD_eq_getElem?_getD, hx]; rfl
        have hc3 : wr.cell? ⟨b2, off2 + i, none⟩ = some (.string x) := by rw [← hxg]; exact hc2
        have hxs : x.size ≤ maxLen := HOk.out.sz x (List.mem_of_getElem? hx)
        have HX : Hid (ls.take (i + 1) = ls.take i ++ [x]) := hide (by
          obtain ⟨h1, h2⟩ := List.getElem?_eq_some_iff.1 hx
          rw [← h2, List.take_append_getElem])
        have hKi : K + i + 1 ≤ 70368744177664 := by have h8 : ls.length + 1 ≤ M := HM.out; have h9 := HKK.out; omega
        have HC1 := hide (numS_any m1 F' x wr.drew (HS.out.below ((Below.refl _ _).drew)).nf hxs (by have h9 : F'.length ≤ K + i := HS.out.lf; omega))
        have HC2 : Hid (∀ X, NM yP X m2 S' → Calls Try.prog 16 #[.map (some m2), .agg #[.int .i64 s, .int .i64 (nid F' x)]] X (NoR yP m2 S' (s, nid F' x) X)) := hide (fun X hX => numP_any m2 S' (s, nid F' x) X hX (by
          have h1 := HP.out.2.2.bound
          have h2 := ixN_le (addN_mem F' x)
          have h3 := addN_len F' x
          have h4 : F'.length ≤ K + i := HS.out.lf
          have h5 : S'.length ≤ K + i := HS.out.ls
          rw [ixN_add] at h2
          exact ⟨⟨by show _ ≤ s; omega, by show s ≤ _; omega⟩, ⟨by show _ ≤ nid F' x; omega, by show nid F' x ≤ _; omega⟩⟩) (by have h9 : S'.length ≤ K + i := HS.out.ls; omega))
        have HSL : Hid (∀ X, But (Sw.b2 ⟨some ⟨b, off, none⟩, n, c, m1, m2, m3⟩) wr X → X.cell? ⟨w.heap.size, 1, none⟩ = some (.map (some m1)) ∧ X.cell? ⟨w.heap.size, 2, none⟩ = some (.map (some m2))) := hide (fun X hX => by
          have h1 := HRB.out X (HBt.out.trans hX (fun _ _ e => e))
          exact ⟨cell_at h1 rfl, cell_at h1 rfl⟩)
        clear hc2 hx hxg hxs hsa
        have HX0 := hide (But.refl (Sw.b2 ⟨some ⟨b, off, none⟩, n, c, m1, m2, m3⟩) wr)
        have HX1 := hide ((But.refl (Sw.b2 ⟨some ⟨b, off, none⟩, n, c, m1, m2, m3⟩) wr).drew)
        have HSd := hide (HS.out.below ((Below.refl _ _).drew))
        go_wp2_with fail
        go_region_held3 (fun X => X.cell? ⟨w.heap.size, 1, none⟩ = some (.map (some m1)) ∧ X.cell? ⟨w.heap.size, 2, none⟩ = some (.map (some m2)))
          (first | with_reducible exact HSL.out _ HX0.out | with_reducible exact HSL.out _ HX1.out | with_reducible exact HSL.out _ HX2.out | with_reducible exact HSL.out _ HX3.out)
          (first | (go_at_call 20; go_must (refine HC1.out.mono ?_; rintro e9 X1 ⟨rfl, hN1, hB1⟩; have HX2 : Hid (But (Sw.b2 ⟨some ⟨b, off, none⟩, n, c, m1, m2, m3⟩) wr X1) := hide (HX1.out.trans hB1 (fun _ _ e => .inl e)); have HSh1 := hide (HSd.out.one (K' := K + i + 1) hN1 (addN_pre F' x) hB1 (Nat.le_trans (addN_len F' x) (Nat.succ_le_succ HSd.out.lf)) (Nat.le_succ _)); clear hN1 hB1)) | (go_at_call 16; go_must (refine (HC2.out _ HSh1.out.ns).mono ?_; rintro e9 X2 ⟨rfl, hN2, hB2⟩; have HX3 : Hid (But (Sw.b2 ⟨some ⟨b, off, none⟩, n, c, m1, m2, m3⟩) wr X2) := hide (HX2.out.trans hB2 (fun _ _ e => .inr e)); have HSh2 := hide (HSh1.out.two (K' := K + i + 1) hN2 (addN_pre S' (s, nid F' x)) hB2 (Nat.le_trans (addN_len S' (s, nid F' x)) (Nat.succ_le_succ HSd.out.ls)) (Nat.le_refl _)); clear hN2 hB2)))
        clear HC1 HC2 HX0 HX1 HSL
        go_wp2
        exact ⟨⟨i + 1, _, _, _, by omega, by go_num, rfl, HSh2, hide ⟨HP.out.1.trans (addN_pre F' x), HP.out.2.1.trans (addN_pre S' (s, nid F' x)), by rw [HX.out]; exact HP.out.2.2.step x⟩, hide (HBt.out.trans HX3.out (fun _ _ e => e))⟩, by simp [intOf]; omega⟩
      · have hi9 : i = ls.length := by omega
        have hiI : ¬ (i : Int) < (ls.length : Int) := by omega
        have hkm9 : KM yI wr m3 k f := HKm.out.but HBt.out (fun e => by
          rcases e with e | e
          · exact HD.out.1 e.symm
          · exact HD.out.2 e.symm)
        obtain ⟨w9, hput, hk9, hb9⟩ := hkm9.put (k := (p : Int)) (m := 46) (e := 3) Try.underlying46 (show _ ∧ _ from by omega) (by have h8 : k ≤ K := HKk.out; have h9 := HKK.out; unfold maxLen; omega) HFp.out s
        have hput2 : (Instr.mapUpdate 46 (.map (some m3)) (.int .i64 (p : Int)) (.int .i64 s)).run Try.prog wr = .ok () w9 := hput
        have c3 : wr.cell? ⟨w.heap.size, 3, none⟩ = some (.map (some m3)) := cell_at (HRB.out wr HBt.out) rfl
        have HF : Hid (SoR es w0 ⟨some ⟨b, off, none⟩, n, c, m1, m2, m3⟩ F S (K + M) ls w (.returned (.int .i64 s)) w9) := hide (by
          have h1 := HP.out
          rw [hi9, List.take_length] at h1
          have h7 : ls.length + 1 ≤ M := HM.out
          have h8 : k ≤ K := HKk.out
          have hs := HS.out
          refine ⟨F', S', s, rfl, ?_, h1.1, h1.2.1, h1.2.2, ?_⟩
          · exact { hs with
              bel := hs.bel.trans (hb9.below hs.bel.size (fun q e => by rw [e]; exact hs.g3))
              nf := hs.nf.but hb9 (fun e => hs.d13 e)
              ns := hs.ns.but hb9 (fun e => hs.d23 e)
              ev := ⟨k + 1, _, hk9, by omega, fun p9 s9 h9 => by
                by_cases e9 : p9 = (p : Int)
                · rw [if_pos e9] at h9
                  cases h9
                  exact ⟨p, _, e9, HE.out, h1.2.2⟩
                · rw [if_neg e9] at h9
                  obtain ⟨q, e, x1, x2, x3⟩ := HFv.out p9 s9 h9
                  exact ⟨q, e, x1, x2, x3.mono h1.1 h1.2.1⟩⟩
              lf := Nat.le_trans hs.lf (by omega)
              ls := Nat.le_trans hs.ls (by omega) }
          · exact (But.of_below HBW.out).trans ((HBt.out.mono (fun q e => e.elim .inl (fun e => .inr (.inl e)))).trans hb9 (fun q _ e => .inr (.inr e))) (fun q _ e => e))
        clear hkm9 hput hk9 hb9
        go_wp2
        go_ret
        exact HF.out
end Go.Proofs.Ytnengkdddckjaaa
