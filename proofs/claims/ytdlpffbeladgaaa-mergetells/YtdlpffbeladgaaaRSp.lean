/-
  The document's Split.
-/
import Derived.Test.YtdlpffbeladgaaaLwC
namespace Go.Proofs.Ytdlpffbeladgaaa
open Go.RowKit
/-- A number as it is. -/
def intV : Value → Int
  | .int _ q => q
  | _ => 0
/-- The least goroutine above the last one. -/
structure BestG (last : Int) (T : List Vt) (b : Int) : Prop where
  is : b = 65536 ∨ (last < b ∧ b < 65536 ∧ ∃ e ∈ T, e.g = b)
  low : ∀ e ∈ T, last < e.g → b ≤ e.g
theorem BestG.nil (last : Int) : BestG last [] 65536 := ⟨.inl rfl, fun e he => by simp at he⟩
theorem BestG.take {last b : Int} {T : List Vt} {e : Vt} (h : BestG last T b) (h1 : last < e.g) (h2 : e.g < b) : BestG last (T ++ [e]) e.g := by
  have hb : b ≤ 65536 := by rcases h.is with h | h <;> omega
  refine ⟨.inr ⟨h1, by omega, e, by simp, rfl⟩, fun x hx hl => ?_⟩
  rcases List.mem_append.1 hx with h9 | h9
  · have := h.low x h9 hl; omega
  · simp at h9; subst h9; omega
theorem BestG.skip {last b : Int} {T : List Vt} {e : Vt} (h : BestG last T b) (h1 : ¬ (last < e.g ∧ e.g < b)) : BestG last (T ++ [e]) b := by
  refine ⟨h.is.imp id (fun ⟨q1, q2, x, hx, q3⟩ => ⟨q1, q2, x, by simp [hx], q3⟩), fun x hx hl => ?_⟩
  rcases List.mem_append.1 hx with h9 | h9
  · exact h.low x h9 hl
  · simp at h9; subst h9; omega
/-- The goroutines so far. -/
structure GorsTo (K : List Int) (L : List (Vt × Int)) (last : Int) : Prop where
  asc : K.Pairwise fun a b => a < b
  mem : ∀ g, g ∈ K ↔ (∃ e ∈ L, e.1.g = g) ∧ g ≤ last
theorem GorsTo.snoc {K : List Int} {es : List Vt} {is : List Int} {last b : Int} (h : GorsTo K (es.zip is) last) (hl : is.length = es.length) (hb : BestG last es b) (h1 : b ≠ 65536) : GorsTo (K ++ [b]) (es.zip is) b := by
  obtain ⟨q1, q2, e, he, q3⟩ := hb.is.resolve_left h1
  have hz : ∀ x ∈ es, ∃ y ∈ es.zip is, y.1 = x := by
    intro x hx
    obtain ⟨i, hi⟩ := List.getElem?_of_mem hx
    have hlt := get_lt hi
    have hlz : i < (es.zip is).length := by rw [List.length_zip]; omega
    refine ⟨(es.zip is)[i], List.getElem_mem hlz, ?_⟩
    rw [List.getElem_zip]
    rw [List.getElem?_eq_getElem hlt] at hi
    exact Option.some.inj hi
  refine ⟨?_, fun g => ?_⟩
  · rw [List.pairwise_append]
    refine ⟨h.asc, List.pairwise_singleton .., fun a ha c hc => ?_⟩
    simp at hc
    subst hc
    have := ((h.mem a).1 ha).2
    omega
  · rw [List.mem_append, List.mem_singleton, h.mem]
    constructor
    · rintro (⟨h2, h3⟩ | rfl)
      · exact ⟨h2, by omega⟩
      · obtain ⟨y, hy, rfl⟩ := hz e he
        exact ⟨⟨y, hy, q3⟩, Int.le_refl _⟩
    · rintro ⟨⟨y, hy, rfl⟩, h3⟩
      by_cases h4 : y.1.g ≤ last
      · exact .inl ⟨⟨y, hy, rfl⟩, h4⟩
      · have := hb.low y.1 (List.of_mem_zip (show (y.1, y.2) ∈ es.zip is from hy)).1 (by omega)
        exact .inr (by omega)
theorem GorsTo.all {K : List Int} {es : List Vt} {is : List Int} {last : Int} (h : GorsTo K (es.zip is) last) (hb : BestG last es 65536) (hg : ∀ e ∈ es, e.g < 65536) : Gors K (es.zip is) := by
  refine ⟨h.asc, fun g => ?_⟩
  rw [h.mem]
  constructor
  · exact fun h => h.1
  · rintro ⟨y, hy, rfl⟩
    refine ⟨⟨y, hy, rfl⟩, ?_⟩
    have hm := (List.of_mem_zip (show (y.1, y.2) ∈ es.zip is from hy)).1
    have h1 := hg y.1 hm
    by_cases h4 : y.1.g ≤ last
    · exact h4
    · have := hb.low y.1 hm (by omega); omega
set_option maxRecDepth 8000 in
set_option maxHeartbeats 12800000 in
theorem rsplit_ok (w : World) (a b : Option Addr) (n c d : Nat) (es : List Vt) (is : List Int) (hr : TRow layV w a n es) (hi : TRow layN w b n is) (hn : n ≤ 1048576) (hg : ∀ e ∈ es, 0 ≤ e.g ∧ e.g < 65536) :
    Calls Try.prog 26 #[.slice a n c, .slice b n d] w fun r w' => ∃ v rws K, r = .returned (.tuple #[v, .int .i64 0]) ∧ Gors K (es.zip is) ∧ Rowz w' w.heap.size v rws (rowsOf K (es.zip is)) ∧ Below w.heap.size w w' := by
  obtain ⟨i0, hi0, hz0, hz1, hz2⟩ := info_parts Try.infoR
  obtain ⟨i1, hi1, hy0, hy1, hy2⟩ := info_parts Try.infoW
  have hnI : (n : Int) ≤ 1048576 := by omega
  have HR : Hid _ := hide hr
  have HI : Hid _ := hide hi
  have HL : Hid _ := hide hr.len
  have HLi : Hid _ := hide hi.len
  have HG : Hid _ := hide hg
  have HX : Hid (∀ (k : Nat) (e : Vt), es[k]? = some e → ∃ lb lo, a = some ⟨lb, lo, none⟩ ∧ lb < w.heap.size ∧ ∀ X, Below w.heap.size w X → X.cell? ⟨lb, lo + k * 5, none⟩ = some (.int .i64 e.g) ∧ X.cell? ⟨lb, lo + k * 5 + 1, none⟩ = some (.int .i64 e.kind) ∧ X.cell? ⟨lb, lo + k * 5 + 2, none⟩ = some (.int .u64 e.obj) ∧ X.cell? ⟨lb, lo + k * 5 + 3, none⟩ = some (.int .u64 e.arg)) := hide (by
    intro k e he
    obtain ⟨lb, lo, rfl, hb, hc⟩ := hr.at (by rw [← hr.len]; have := get_lt he; omega)
    refine ⟨lb, lo, rfl, hb, fun X hX => ?_⟩
    have q := fun t u h9 => (hX.cell (p := ⟨lb, lo + k * layV.z + t, none⟩) hb).trans (hc k e he t u h9)
    exact ⟨q 0 _ rfl, q 1 _ rfl, q 2 _ rfl, q 3 _ rfl⟩)
  clear hr hi hg
  have h1I : ¬ (1048576 : Int) < (n : Int) := by omega
  go_enter Try.func26, Try.ntmps26
  go_wp2_with fail
  go_loopw [6] (fun i wr => ∃ k : Nat, i = .int .i64 k ∧ k ≤ n ∧ Hid (Below w.heap.size w wr)) (fun i _ => n - numV i)
  case atStart => exact ⟨0, rfl, Nat.zero_le _, hide (Below.refl _ _)⟩
  case round =>
    obtain ⟨k, rfl, hk, HB0⟩ := hrel
    rename World => wz
    by_cases hlt : k < n
    · have hltI : (k : Int) < (n : Int) := by omega
      obtain ⟨e, he⟩ : ∃ e, es[k]? = some e := ⟨_, List.getElem?_eq_getElem (by rw [HL.out]; exact hlt)⟩
      obtain ⟨lb, lo, rfl, hlb, hc⟩ := HX.out k e he
      have x0 := (hc _ HB0.out).1
      obtain ⟨hg0, hg1⟩ := HG.out e (List.mem_of_getElem? he)
      clear hc he
      have hA : ¬ e.g < 0 := by omega
      have hC : ¬ 65536 ≤ e.g := by omega
      go_wp2
      exact ⟨⟨k + 1, by go_num, by omega, HB0⟩, by simp [numV]; omega⟩
    · have hltI : ¬ (k : Int) < (n : Int) := by omega
      obtain rfl : k = n := by omega
      go_wp2_with fail
      go_loopw [7, 8] (fun v la wr => ∃ (last : Int) (K : List Int) (rws : List Rw), la = .int .i64 last ∧ -1 ≤ last ∧ last < 65536 ∧ Hid (K.length ≤ k) ∧ Hid (GorsTo K (es.zip is) last) ∧ Hid (Rowz wr w.heap.size v rws (rowsOf K (es.zip is))) ∧ Hid (Below w.heap.size w wr)) (fun _ la _ => (65536 - intV la).toNat)
      case atStart =>
        refine ⟨-1, [], [], rfl, by omega, by omega, hide (Nat.zero_le _), hide ⟨.nil, fun g => ?_⟩, hide ⟨Own.nil _ _ _ _, rfl, fun k rw G h => by simp at h, fun i j p q b h => by simp at h⟩, HB0⟩
        constructor
        · intro h; simp at h
        · rintro ⟨⟨e, he, rfl⟩, h9⟩
          have := HG.out e.1 (List.of_mem_zip (show (e.1, e.2) ∈ es.zip is from he)).1
          omega
      case round =>
        obtain ⟨last, K, rws, rfl, hl0, hl1, HKl, HKg, HZ, HB⟩ := hrel
        rename World => wy
        go_wp2_with fail
        go_loopw [9, 10] (fun bb i wi => ∃ (j : Nat) (be : Int), bb = .int .i64 be ∧ i = .int .i64 j ∧ j ≤ k ∧ Hid (BestG last (es.take j) be) ∧ Hid (Rowz wi w.heap.size u7 rws (rowsOf K (es.zip is))) ∧ Hid (Below w.heap.size w wi)) (fun _ i _ => k - numV i)
        case atStart => exact ⟨0, 65536, rfl, rfl, Nat.zero_le _, hide (BestG.nil _), HZ, HB⟩
        case round =>
          clear HZ HB
          obtain ⟨j, be, rfl, rfl, hj, HBest, HZ, HB⟩ := hrel
          rename World => wr
          by_cases hlt2 : j < k
          · have hltJ : (j : Int) < (k : Int) := by omega
            obtain ⟨e, he⟩ : ∃ e, es[j]? = some e := ⟨_, List.getElem?_eq_getElem (by rw [HL.out]; exact hlt2)⟩
            obtain ⟨lb, lo, rfl, hlb, hc⟩ := HX.out j e he
            have x0 := (hc _ HB.out).1
            have HT : Hid (es.take (j + 1) = es.take j ++ [e]) := hide (by
              have hlk := get_lt he
              rw [List.take_succ_eq_append_getElem hlk]
              rw [List.getElem?_eq_getElem hlk] at he
              rw [Option.some.inj he])
            clear hc he
            by_cases h1 : last < e.g
            · by_cases h2 : e.g < be
              · go_wp2
                exact ⟨⟨j + 1, e.g, rfl, by go_num, by omega, hide (by rw [HT.out]; exact HBest.out.take h1 h2), HZ, HB⟩, by simp [numV]; omega⟩
              · go_wp2
                exact ⟨⟨j + 1, be, rfl, by go_num, by omega, hide (by rw [HT.out]; exact HBest.out.skip (fun h => h2 h.2)), HZ, HB⟩, by simp [numV]; omega⟩
            · go_wp2
              exact ⟨⟨j + 1, be, rfl, by go_num, by omega, hide (by rw [HT.out]; exact HBest.out.skip (fun h => h1 h.1)), HZ, HB⟩, by simp [numV]; omega⟩
          · have hltJ : ¬ (j : Int) < (k : Int) := by omega
            obtain rfl : j = k := by omega
            have HBe : Hid (BestG last es be) := hide (by
              have h9 := HBest.out
              rw [List.take_of_length_le (by rw [HL.out]; exact Nat.le_refl _)] at h9
              exact h9)
            clear HBest
            obtain ⟨va, vc, hvv, -, -⟩ := own_form HZ.out.own
            have hrl : rws.length = K.length := by rw [HZ.out.len]; simp [rowsOf]
            obtain ⟨m, hm⟩ : ∃ m, m = K.length := ⟨_, rfl⟩
            rw [hrl, ← hm] at hvv
            subst hvv
            have HM : Hid _ := hide hm
            have HRL : Hid (rws.length = m) := hide (by rw [hrl, hm])
            have hmj : m ≤ j := by have := HKl.out; omega
            clear hrl hm
            by_cases hbe : be = 65536
            · subst hbe
              go_wp2
              go_ret2
              exact ⟨_, rfl, rws, K, HKg.out.all HBe.out (fun e he => (HG.out e he).2), HZ.out, HB.out⟩
            · obtain ⟨w3, hw3⟩ : ∃ w3, w3 = wr.alloc (.cells #[.int .i64 be, .slice none 0 0] 38) := ⟨_, rfl⟩
              have b3 : Below wr.heap.size wr w3 := by rw [hw3]; exact below_alloc1 _ _
              have s3 : wr.heap.size < w3.heap.size := by rw [hw3]; simp
              have r3 : w3.heap[wr.heap.size]? = some (.cells #[.int .i64 be, .slice none 0 0] 38 (0, 0)) := by rw [hw3]; exact heap_new _ _
              have HW3 : Hid _ := hide hw3
              have HR3 : Hid _ := hide r3
              have HB3 : Hid _ := hide b3
              have hbb := HBe.out.is.resolve_left hbe
              have hb0 : last < be := hbb.1
              have hb1 : be < 65536 := hbb.2.1
              have hwr : w.heap.size ≤ wr.heap.size := HB.out.size
              clear hw3 r3 b3 hbb
              go_wp2_with fail
              rw [← HW3.out]
              go_loopw [12] (fun i wi => ∃ (q : Nat) (sv : Value), i = .int .i64 q ∧ q ≤ j ∧ Hid (wi.heap[wr.heap.size]? = some (.cells #[.int .i64 be, sv] 38 (0, 0))) ∧ Hid (Own layR 41 wi (wr.heap.size + 1) sv (recG be ((es.zip is).take q))) ∧ Hid (Below wr.heap.size wr wi)) (fun i _ => j - numV i)
              case atStart => exact ⟨0, _, rfl, Nat.zero_le _, HR3, hide (Own.nil _ _ _ _), HB3⟩
              case round =>
                obtain ⟨q, sv, rfl, hq, HRi, HOi, HBi⟩ := hrel
                rename World => wi
                obtain ⟨sa, sc, hsv, -, -⟩ := own_form HOi.out
                obtain ⟨ql, hql⟩ : ∃ ql, ql = (recG be ((es.zip is).take q)).length := ⟨_, rfl⟩
                rw [← hql] at hsv
                subst hsv
                have HQL : Hid _ := hide hql
                have hqlq : ql ≤ q := by
                  have h9 := recG_len be ((es.zip is).take q)
                  rw [← hql, List.length_take] at h9
                  omega
                clear hql
                have HBw : Hid (Below w.heap.size w wi) := hide (HB.out.trans (HBi.out.mono hwr))
                by_cases hlt3 : q < j
                · have hltQ : (q : Int) < (j : Int) := by omega
                  obtain ⟨e, he⟩ : ∃ e, es[q]? = some e := ⟨_, List.getElem?_eq_getElem (by rw [HL.out]; exact hlt3)⟩
                  obtain ⟨id, hid⟩ : ∃ id, is[q]? = some id := ⟨_, List.getElem?_eq_getElem (by rw [HLi.out]; exact hlt3)⟩
                  obtain ⟨lb, lo, rfl, hlb, hc⟩ := HX.out q e he
                  obtain ⟨ib, io, rfl, hib, hci⟩ := HI.out.at (by omega)
                  have y0w := hci q id hid 0 _ rfl
                  simp only [layN, Nat.add_zero, Nat.mul_one] at y0w
                  have HT : Hid ((es.zip is).take (q + 1) = (es.zip is).take q ++ [(e, id)]) := hide (zip_take es is q he hid)
                  have HTl : Hid (((es.zip is).take q).length = q) := hide (by rw [List.length_take, List.length_zip, HL.out, HLi.out]; omega)
                  have x0 := (hc _ HBw.out).1
                  by_cases hge : e.g = be
                  · have HS : Hid (∀ X, But (fun p => wr.heap.size ≤ p) wi X → X.cell? ⟨lb, lo + q * 5 + 1, none⟩ = some (.int .i64 e.kind) ∧ X.cell? ⟨lb, lo + q * 5 + 2, none⟩ = some (.int .u64 e.obj) ∧ X.cell? ⟨lb, lo + q * 5 + 3, none⟩ = some (.int .u64 e.arg) ∧ X.cell? ⟨ib, io + q, none⟩ = some (.int .i64 id)) := hide (fun X hX => by
                      have hwX : Below w.heap.size w X := HBw.out.trans (hX.below HBw.out.size (fun p hp => Nat.le_trans hwr hp))
                      obtain ⟨-, y1, y2, y3⟩ := hc _ hwX
                      exact ⟨y1, y2, y3, (hwX.cell (p := ⟨ib, io + q, none⟩) hib).trans y0w⟩)
                    have z1 : wi.drew.cell? ⟨wr.heap.size, 1, none⟩ = some (.slice sa ql sc) := cell_at (cs := #[.int .i64 be, .slice sa ql sc]) HRi.out rfl
                    have hpi : wr.heap.size < wi.heap.size := (Array.getElem?_eq_some_iff.1 HRi.out).1
                    have z2 : ((wi.drew).alloc (.cells #[.int .i64 (q : Int), .int .i64 e.kind, .int .u64 e.obj, .int .u64 e.arg, .int .i64 id] 41)).cell? ⟨wr.heap.size, 1, none⟩ = some (.slice sa ql sc) := ((below_alloc1 wi.drew _).cell (p := ⟨wr.heap.size, 1, none⟩) hpi).trans z1
                    have z3 : ((wi.alloc (.cells #[.int .i64 (q : Int), .int .i64 e.kind, .int .u64 e.obj, .int .u64 e.arg, .int .i64 id] 41)).drew).cell? ⟨wr.heap.size, 1, none⟩ = some (.slice sa ql sc) := z2
                    clear hc hci he hid y0w
                    subst hge
                    go_wp2_with fail
                    refine wp_region_noPanic ?_
                    refine wp_region_held_drew (S := fun X => X.cell? ⟨lb, lo + q * 5 + 1, none⟩ = some (.int .i64 e.kind) ∧ X.cell? ⟨lb, lo + q * 5 + 2, none⟩ = some (.int .u64 e.obj) ∧ X.cell? ⟨lb, lo + q * 5 + 3, none⟩ = some (.int .u64 e.arg) ∧ X.cell? ⟨ib, io + q, none⟩ = some (.int .i64 id)) (by kernel_rfl) (HS.out _ (But.refl _ _).drew) (fun hHeld => ?_)
                    refine wpAnyH_take (i := 0) (oi := _) (v := ?v0) rfl (by kernel_rfl) (by kernel_rfl) (by kernel_rfl) (fun _ _ _ h => h) (Or.inl ⟨by rfl, ?y0⟩) (by assumption) ?r0
                    case y0 => (intro w' hSw; (try dsimp only at hSw); go_simp; try with_reducible rfl)
                    refine wpAnyH_take (i := 2) (oi := _) (v := ?v2) rfl (by kernel_rfl) (by kernel_rfl) (by kernel_rfl) (fun _ _ _ h => h) (Or.inl ⟨by rfl, ?y2⟩) (by assumption) ?r2
                    case y2 => (intro w' hSw; (try dsimp only at hSw); go_simp; try with_reducible rfl)
                    refine wpAnyH_take (i := 3) (oi := _) (v := ?v3) rfl (by kernel_rfl) (by kernel_rfl) (by kernel_rfl) (fun _ _ _ h => h) (Or.inl ⟨by rfl, ?y3⟩) (by assumption) ?r3
                    case y3 => (intro w' hSw; (try dsimp only at hSw); go_simp; try with_reducible rfl)
                    refine wpAnyH_take (i := 4) (oi := _) (v := ?v4) rfl (by kernel_rfl) (by kernel_rfl) (by kernel_rfl) (fun _ _ _ h => h) (Or.inl ⟨by rfl, ?y4⟩) (by assumption) ?r4
                    case y4 => (intro w' hSw; (try dsimp only at hSw); go_simp; try with_reducible rfl)
                    refine wpAnyH_take (i := 5) (oi := _) (v := ?v5) rfl (by kernel_rfl) (by kernel_rfl) (by kernel_rfl) (fun _ _ _ h => h) (Or.inl ⟨by rfl, ?y5⟩) (by assumption) ?r5
                    case y5 => (intro w' hSw; (try dsimp only at hSw); go_simp; try with_reducible rfl)
                    refine wpAnyH_take (i := 6) (oi := _) (v := ?v6) rfl (by kernel_rfl) (by kernel_rfl) (by kernel_rfl) (fun _ _ _ h => h) (Or.inl ⟨by rfl, ?y6⟩) (by assumption) ?r6
                    case y6 => (intro w' hSw; (try dsimp only at hSw); go_simp; try with_reducible rfl)
                    refine wpAnyH_take (i := 7) (oi := _) (v := ?v7) rfl (by kernel_rfl) (by kernel_rfl) (by kernel_rfl) (fun _ _ _ h => h) (Or.inl ⟨by rfl, ?y7⟩) (by assumption) ?r7
                    case y7 => (intro w' hSw; (try dsimp only at hSw); go_simp; try with_reducible rfl)
                    refine wpAnyH_take (i := 8) (oi := _) (v := ?v8) rfl (by kernel_rfl) (by kernel_rfl) (by kernel_rfl) (fun _ _ _ h => h) (Or.inl ⟨by rfl, ?y8⟩) (by assumption) ?r8
                    case y8 => (intro w' hSw; (try dsimp only at hSw); go_simp; try with_reducible rfl)
                    refine wpAnyH_take (i := 9) (oi := _) (v := ?v9) rfl (by kernel_rfl) (by kernel_rfl) (by kernel_rfl) (fun _ _ _ h => h) (Or.inl ⟨by rfl, ?y9⟩) (by assumption) ?r9
                    case y9 => (intro w' hSw; (try dsimp only at hSw); go_simp; try with_reducible rfl)
                    refine wpAnyH_take (i := 10) (oi := _) (v := ?v10) rfl (by kernel_rfl) (by kernel_rfl) (by kernel_rfl) (fun _ _ _ h => h) (Or.inl ⟨by rfl, ?y10⟩) (by assumption) ?r10
                    case y10 => (intro w' hSw; (try dsimp only at hSw); go_simp; try with_reducible rfl)
                    refine wpAnyH_take (i := 11) (oi := _) (v := ?v11) rfl (by kernel_rfl) (by kernel_rfl) (by kernel_rfl) (fun _ _ _ h => h) (Or.inl ⟨by rfl, ?y11⟩) (by assumption) ?r11
                    case y11 => (intro w' hSw; (try dsimp only at hSw); go_simp; try with_reducible rfl)
                    refine wpAnyH_take (i := 12) (oi := _) (v := ?v12) rfl (by kernel_rfl) (by kernel_rfl) (by kernel_rfl) (fun _ _ _ h => h) (Or.inl ⟨by rfl, ?y12⟩) (by assumption) ?r12
                    case y12 => (intro w' hSw; (try dsimp only at hSw); go_simp; try with_reducible rfl)
                    refine wpAnyH_take (i := 13) (oi := _) (v := ?v13) rfl (by kernel_rfl) (by kernel_rfl) (by kernel_rfl) (fun _ _ _ h => h) (Or.inl ⟨by rfl, ?y13⟩) (by assumption) ?r13
                    case y13 => (intro w' hSw; (try dsimp only at hSw); go_simp; try with_reducible rfl)
                    refine wpAnyH_take (i := 14) (oi := _) (v := ?v14) rfl (by kernel_rfl) (by kernel_rfl) (by kernel_rfl) (fun _ _ _ h => h) (Or.inl ⟨by rfl, ?y14⟩) (by assumption) ?r14
                    case y14 => (intro w' hSw; (try dsimp only at hSw); go_simp; try with_reducible rfl)
                    refine wpAnyH_take (i := 15) (oi := _) (v := ?v15) rfl (by kernel_rfl) (by kernel_rfl) (by kernel_rfl) (fun _ _ _ h => h) (Or.inl ⟨by rfl, ?y15⟩) (by assumption) ?r15
                    case y15 => (intro w' hSw; (try dsimp only at hSw); go_simp; try with_reducible rfl)
                    refine wpAnyH_take (i := 16) (oi := _) (v := ?v16) rfl (by kernel_rfl) (by kernel_rfl) (by kernel_rfl) (fun _ _ _ h => h) (Or.inl ⟨by rfl, ?y16⟩) (by assumption) ?r16
                    case y16 => (intro w' hSw; (try dsimp only at hSw); go_simp; try with_reducible rfl)
                    refine wpAnyH_take (i := 17) (oi := _) (v := ?v17) rfl (by kernel_rfl) (by kernel_rfl) (by kernel_rfl) (fun _ _ _ h => h) (Or.inl ⟨by rfl, ?y17⟩) (by assumption) ?r17
                    case y17 => (intro w' hSw; (try dsimp only at hSw); go_simp; try with_reducible rfl)
                    refine wpAnyH_take (i := 18) (oi := _) (v := ?v18) rfl (by kernel_rfl) (by kernel_rfl) (by kernel_rfl) (fun _ _ _ h => h) (Or.inl ⟨by rfl, ?y18⟩) (by assumption) ?r18
                    case y18 => (intro w' hSw; (try dsimp only at hSw); go_simp; try with_reducible rfl)
                    refine wpAnyH_take (i := 19) (oi := _) (v := ?v19) rfl (by kernel_rfl) (by kernel_rfl) (by kernel_rfl) (fun _ _ _ h => h) (Or.inl ⟨by rfl, ?y19⟩) (by assumption) ?r19
                    case y19 => (intro w' hSw; (try dsimp only at hSw); go_simp; try with_reducible rfl)
                    refine wpAnyH_take (i := 20) (oi := _) (v := ?v20) rfl (by kernel_rfl) (by kernel_rfl) (by kernel_rfl) (fun _ _ _ h => h) (Or.inl ⟨by rfl, ?y20⟩) (by assumption) ?r20
                    case y20 => (intro w' hSw; (try dsimp only at hSw); go_simp; try with_reducible rfl)
                    refine wpAnyH_take (i := 21) (oi := _) (v := ?v21) rfl (by kernel_rfl) (by kernel_rfl) (by kernel_rfl) (fun _ _ _ h => h) (Or.inl ⟨by rfl, ?y21⟩) (by assumption) ?r21
                    case y21 => (intro w' hSw; (try dsimp only at hSw); go_simp; try with_reducible rfl)
                    refine wpAnyH_take (i := 22) (oi := _) (v := ?v22) rfl (by kernel_rfl) (by kernel_rfl) (by kernel_rfl) (fun _ _ _ h => h) (Or.inl ⟨by rfl, ?y22⟩) (by assumption) ?r22
                    case y22 => (intro w' hSw; (try dsimp only at hSw); go_simp; try with_reducible rfl)
                    refine wpAnyH_ready (rs := [1, 23]) (by kernel_rfl) (by simp) ?_
                    refine AllReadyH.cons (o := _) rfl (fun KK hKK => ?_) (AllReadyH.cons (o := _) rfl (fun KK hKK => ?_) AllReadyH.nil)
                    · go_simp
                      refine hKK.out _ _ (HS.out _ (But.refl _ _).drew) (fun hHeld1 => ?_)
                      clear hKK KK
                      refine wpAnyH_ready (rs := [23]) (by kernel_rfl) (by simp) ?_
                      refine AllReadyH.cons (o := _) rfl (fun KK hKK => ?_) AllReadyH.nil
                      go_simp
                      refine hKK.out _ _ (HS.out _ ((But.refl _ _).drew.alloc _)) (fun hHeld23 => ?_)
                      clear hKK KK
                      refine wpAnyH_ready (rs := [24]) (by kernel_rfl) (by simp) ?_
                      refine AllReadyH.cons (o := _) rfl (fun KK hKK => ?_) AllReadyH.nil
                      refine step_layW2 layR _ 36 41 i0 _ 40 Try.underlying36 hi0 hz0 hz1 hz2 rfl rfl (.tmp 87) (.tmp 109) rfl (wr.heap.size + 1) (.slice sa ql sc) (recG e.g ((es.zip is).take q)) rfl (HOi.out.below ((Below.refl _ _).drew.alloc (Nat.le_refl _) _)) ⟨wi.heap.size, 0, none⟩ 1 1 [rcOf ((e, id), q)] rfl (TRow.one (heap_new _ _)) (by rw [← HQL.out]; unfold maxLen; omega) (by rw [← HQL.out]; omega) (by simp; omega) ?_
                      intro v4 w4 o4 g4 l4
                      obtain ⟨na, nc, hv4, -, -⟩ := own_form o4
                      rw [List.length_append, ← HQL.out] at hv4
                      simp only [List.length_cons, List.length_nil, Nat.zero_add] at hv4
                      subst hv4
                      have b4 : But (fun p => wr.heap.size ≤ p) wi w4 := ((But.refl _ _).drew.alloc _).grown g4 (fun p _ e9 => by have := (HOi.out.lt p e9).1; omega)
                      have r4 := ((But.of_grown (S := fun p => (Value.slice sa ql sc).ownBlock = some p) g4 (fun _ e9 => e9)).block wr.heap.size (by simp; omega) (fun e9 => by have := (HOi.out.lt _ e9).1; omega)).trans ((Below.heap_alloc _ _ _ hpi).trans HRi.out)
                      have zz : w4.cell? ⟨wr.heap.size, 1, none⟩ = some (.slice sa ql sc) := cell_at r4 rfl
                      have fz := frz r4 1
                      have HR4 : Hid _ := hide r4
                      have HO4 : Hid _ := hide o4
                      have HB4 : Hid _ := hide b4
                      clear r4 o4 l4 g4 b4
                      refine hKK.out _ _ (HS.out _ HB4.out) (fun hHeld24 => ?_)
                      clear hKK KK
                      refine wpAnyH_take (i := 25) (oi := _) (v := ?v25) rfl (by kernel_rfl) (by kernel_rfl) (by kernel_rfl) (fun _ _ _ h => h) (Or.inl ⟨by rfl, ?y25⟩) (by assumption) ?r25
                      case y25 => (intro w' hSw; (try dsimp only at hSw); go_simp; try with_reducible rfl)
                      refine wpAnyH_ready (rs := [26]) (by kernel_rfl) (by simp) ?_
                      refine AllReadyH.cons (o := _) rfl (fun KK hKK => ?_) AllReadyH.nil
                      go_simp
                      refine hKK.out _ _ (HS.out _ (HB4.out.setCell ⟨wr.heap.size, 1, none⟩ (fun _ => Nat.le_refl _) _)) (fun hHeld26 => ?_)
                      clear hKK KK
                      refine wpAnyH_done (by kernel_rfl) ?_ _
                      refine NoPanic.normal ?_
                      obtain ⟨w5, hw5⟩ : ∃ w5, w5 = w4.setCell ⟨wr.heap.size, 1, none⟩ (.slice na (ql + 1) nc) := ⟨_, rfl⟩
                      have r5 : w5.heap[wr.heap.size]? = some (.cells #[.int .i64 e.g, .slice na (ql + 1) nc] 38 (0, 0)) := by rw [hw5]; exact set1_heap _ HR4.out
                      have b45 : But (fun p => p = wr.heap.size) w4 w5 := by rw [hw5]; exact (But.refl (fun p => p = wr.heap.size) w4).setCell ⟨wr.heap.size, 1, none⟩ (fun _ => rfl) _
                      have HR5 : Hid _ := hide r5
                      have HO5 : Hid (Own layR 41 w5 (wr.heap.size + 1) (.slice na (ql + 1) nc) (recG e.g ((es.zip is).take (q + 1)))) := hide (by
                        rw [HT.out, recG_mine (g := e.g) (e := (e, id)) rfl, HTl.out]
                        exact HO4.out.but b45 (fun p hp e9 => by have h8 := (HO4.out.lt p hp).1; have e8 : p = wr.heap.size := e9; omega))
                      have HB5 : Hid (Below wr.heap.size wr w5) := hide (HBi.out.trans ((HB4.out.below (by omega) (fun _ h9 => h9)).trans (b45.below (by have := HB4.out.size; omega) (fun p hp => Nat.le_of_eq hp.symm))))
                      rw [← hw5]
                      clear hw5 r5 b45 z1 z2 z3 zz fz hHeld hHeld1 hHeld23 hHeld24 hHeld26
                      go_wp2
                      exact ⟨⟨q + 1, _, by go_num, by omega, HR5, HO5, HB5⟩, by simp [numV]; omega⟩
                    · go_simp
                      refine hKK.out _ _ (HS.out _ ((But.refl _ _).drew.alloc _)) (fun hHeld23 => ?_)
                      clear hKK KK
                      refine wpAnyH_ready (rs := [1]) (by kernel_rfl) (by simp) ?_
                      refine AllReadyH.cons (o := _) rfl (fun KK hKK => ?_) AllReadyH.nil
                      go_simp
                      refine hKK.out _ _ (HS.out _ ((But.refl _ _).drew.alloc _)) (fun hHeld1 => ?_)
                      clear hKK KK
                      refine wpAnyH_ready (rs := [24]) (by kernel_rfl) (by simp) ?_
                      refine AllReadyH.cons (o := _) rfl (fun KK hKK => ?_) AllReadyH.nil
                      refine step_layW2 layR _ 36 41 i0 _ 40 Try.underlying36 hi0 hz0 hz1 hz2 rfl rfl (.tmp 87) (.tmp 109) rfl (wr.heap.size + 1) (.slice sa ql sc) (recG e.g ((es.zip is).take q)) rfl (HOi.out.below ((Below.refl _ _).drew.alloc (Nat.le_refl _) _)) ⟨wi.heap.size, 0, none⟩ 1 1 [rcOf ((e, id), q)] rfl (TRow.one (heap_new _ _)) (by rw [← HQL.out]; unfold maxLen; omega) (by rw [← HQL.out]; omega) (by simp; omega) ?_
                      intro v4 w4 o4 g4 l4
                      obtain ⟨na, nc, hv4, -, -⟩ := own_form o4
                      rw [List.length_append, ← HQL.out] at hv4
                      simp only [List.length_cons, List.length_nil, Nat.zero_add] at hv4
                      subst hv4
                      have b4 : But (fun p => wr.heap.size ≤ p) wi w4 := ((But.refl _ _).drew.alloc _).grown g4 (fun p _ e9 => by have := (HOi.out.lt p e9).1; omega)
                      have r4 := ((But.of_grown (S := fun p => (Value.slice sa ql sc).ownBlock = some p) g4 (fun _ e9 => e9)).block wr.heap.size (by simp; omega) (fun e9 => by have := (HOi.out.lt _ e9).1; omega)).trans ((Below.heap_alloc _ _ _ hpi).trans HRi.out)
                      have zz : w4.cell? ⟨wr.heap.size, 1, none⟩ = some (.slice sa ql sc) := cell_at r4 rfl
                      have fz := frz r4 1
                      have HR4 : Hid _ := hide r4
                      have HO4 : Hid _ := hide o4
                      have HB4 : Hid _ := hide b4
                      clear r4 o4 l4 g4 b4
                      refine hKK.out _ _ (HS.out _ HB4.out) (fun hHeld24 => ?_)
                      clear hKK KK
                      refine wpAnyH_take (i := 25) (oi := _) (v := ?v25b) rfl (by kernel_rfl) (by kernel_rfl) (by kernel_rfl) (fun _ _ _ h => h) (Or.inl ⟨by rfl, ?y25b⟩) (by assumption) ?r25b
                      case y25b => (intro w' hSw; (try dsimp only at hSw); go_simp; try with_reducible rfl)
                      refine wpAnyH_ready (rs := [26]) (by kernel_rfl) (by simp) ?_
                      refine AllReadyH.cons (o := _) rfl (fun KK hKK => ?_) AllReadyH.nil
                      go_simp
                      refine hKK.out _ _ (HS.out _ (HB4.out.setCell ⟨wr.heap.size, 1, none⟩ (fun _ => Nat.le_refl _) _)) (fun hHeld26 => ?_)
                      clear hKK KK
                      refine wpAnyH_done (by kernel_rfl) ?_ _
                      refine NoPanic.normal ?_
                      obtain ⟨w5, hw5⟩ : ∃ w5, w5 = w4.setCell ⟨wr.heap.size, 1, none⟩ (.slice na (ql + 1) nc) := ⟨_, rfl⟩
                      have r5 : w5.heap[wr.heap.size]? = some (.cells #[.int .i64 e.g, .slice na (ql + 1) nc] 38 (0, 0)) := by rw [hw5]; exact set1_heap _ HR4.out
                      have b45 : But (fun p => p = wr.heap.size) w4 w5 := by rw [hw5]; exact (But.refl (fun p => p = wr.heap.size) w4).setCell ⟨wr.heap.size, 1, none⟩ (fun _ => rfl) _
                      have HR5 : Hid _ := hide r5
                      have HO5 : Hid (Own layR 41 w5 (wr.heap.size + 1) (.slice na (ql + 1) nc) (recG e.g ((es.zip is).take (q + 1)))) := hide (by
                        rw [HT.out, recG_mine (g := e.g) (e := (e, id)) rfl, HTl.out]
                        exact HO4.out.but b45 (fun p hp e9 => by have h8 := (HO4.out.lt p hp).1; have e8 : p = wr.heap.size := e9; omega))
                      have HB5 : Hid (Below wr.heap.size wr w5) := hide (HBi.out.trans ((HB4.out.below (by omega) (fun _ h9 => h9)).trans (b45.below (by have := HB4.out.size; omega) (fun p hp => Nat.le_of_eq hp.symm))))
                      rw [← hw5]
                      clear hw5 r5 b45 z1 z2 z3 zz fz hHeld hHeld1 hHeld23 hHeld24 hHeld26
                      go_wp2
                      exact ⟨⟨q + 1, _, by go_num, by omega, HR5, HO5, HB5⟩, by simp [numV]; omega⟩
                  · have HT0 : Hid (recG be ((es.zip is).take (q + 1)) = recG be ((es.zip is).take q)) := hide (by rw [HT.out, recG_other (e := (e, id)) hge])
                    have hgb : (e.g == be) = false := by simp [hge]
                    clear hc hci he hid y0w
                    go_wp2
                    exact ⟨⟨q + 1, _, by go_num, by omega, HRi, hide (by rw [HT0.out]; exact HOi.out), HBi⟩, by simp [numV]; omega⟩
                · have hltQ : ¬ (q : Int) < (j : Int) := by omega
                  obtain rfl : q = j := by omega
                  have x0 : wi.cell? ⟨wr.heap.size, 0, none⟩ = some (.int .i64 be) := cell_at HRi.out rfl
                  have x1 : wi.cell? ⟨wr.heap.size, 1, none⟩ = some (.slice sa ql sc) := cell_at HRi.out rfl
                  have HOq : Hid (Own layR 41 wi (wr.heap.size + 1) (.slice sa ql sc) (recG be (es.zip is))) := hide (by
                    have h9 := HOi.out
                    rw [List.take_of_length_le (by rw [List.length_zip, HL.out]; omega)] at h9
                    exact h9)
                  have HZi : Hid (Own layW 38 wi w.heap.size (.slice va m vc) rws) := hide (HZ.out.own.below HBi.out)
                  have hpi : wr.heap.size < wi.heap.size := (Array.getElem?_eq_some_iff.1 HRi.out).1
                  go_wp2_with (at_builtin; refine append_lay layW _ 22 38 i1 _ 32 Try.underlying22 hi1 hy0 hy1 hy2 rfl rfl (.tmp 112) (.tmp 114) rfl w.heap.size (.slice va m vc) rws rfl (HZi.out.below (below_alloc1 _ _)) _ _ _ [(⟨be, ⟨sa, ql, sc⟩⟩ : Rw)] rfl (TRow.one (heap_new _ _)) (fun e => by cases e) (by rw [HRL.out]; unfold maxLen; omega) (by rw [HRL.out]; omega) (by simp; omega) ?_; intro v9 w9 o9 g9 l9)
                  have HZ9 : Hid (Rowz w9 w.heap.size v9 (rws ++ [⟨be, ⟨sa, ql, sc⟩⟩]) (rowsOf (K ++ [be]) (es.zip is))) := hide (by
                    have h9 := HZ.out.snoc (s := ⟨sa, ql, sc⟩) (g := be) (HBi.out.alloc HBi.out.size _) ((HOq.out.below (below_alloc1 _ _)).mono (by omega)) (fun p hp => by have := (HOq.out.lt p hp).1; omega) o9 g9
                    unfold rowsOf at h9 ⊢
                    rw [List.map_append]
                    exact h9)
                  have HG9 : Hid (GorsTo (K ++ [be]) (es.zip is) be) := hide (HKg.out.snoc (by rw [HL.out, HLi.out]) HBe.out hbe)
                  have HK9 : Hid ((K ++ [be]).length ≤ q) := hide (by
                    have h8 := nd_len (M := (es.zip is).map fun e => e.1.g) (asc_nodup HG9.out.asc) (fun g hg => by obtain ⟨⟨e, he, rfl⟩, _⟩ := (HG9.out.mem g).1 hg; exact List.mem_map.2 ⟨e, he, rfl⟩)
                    rw [List.length_map, List.length_zip, HL.out] at h8
                    omega)
                  have HB9 : Hid (Below w.heap.size w w9) := hide (HBw.out.trans (((Below.refl w.heap.size wi).alloc HBw.out.size _).grown g9 (by simp; omega) (fun p hp => (HZi.out.lt p hp).1)))
                  clear o9 g9 l9 x0 x1
                  go_wp2
                  exact ⟨⟨be, K ++ [be], _, rfl, by omega, hb1, HK9, HG9, HZ9, HB9⟩, by simp [intV]; omega⟩
end Go.Proofs.Ytdlpffbeladgaaa
