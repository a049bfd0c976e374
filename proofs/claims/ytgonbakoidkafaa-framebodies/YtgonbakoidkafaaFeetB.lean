/-
  EncodeFoot, the program's and the document's.
-/
import Derived.Test.YtgonbakoidkafaaFeetA
namespace Go.Proofs.Ytgonbakoidkafaa
open Go.RowKit
/-- The body of a foot. -/
def footB (f s : Int) : List Int := if 0 ≤ f ∧ f ≤ 4294967295 then enc f.toNat ++ le s 4 else []
def footE (f : Int) : Int := if 0 ≤ f ∧ f ≤ 4294967295 then 0 else 32
theorem footB_mem (f s : Int) : ∀ z ∈ footB f s, 0 ≤ z ∧ z ≤ 255 := by
  intro z hz
  unfold footB at hz
  split at hz
  · rcases List.mem_append.1 hz with h | h
    · exact enc_mem _ z h
    · exact le_mem _ _ z h
  · cases hz
/-- What is asked of both: the bytes, the error. -/
def EfSaid (f s : Int) (w : World) (e : Ending) (w' : World) : Prop :=
  ∃ a c, e = .returned (.tuple #[.slice a (footB f s).length c, .int .i64 (footE f)]) ∧ Row w' a (footB f s).length (footB f s) ∧ Below w.heap.size w w'
theorem ef_bad (f s : Int) (w w' : World) (h : ¬ (0 ≤ f ∧ f ≤ 4294967295)) (hb : Below w.heap.size w w') : EfSaid f s w (.returned (.tuple #[.slice none 0 0, .int .i64 32])) w' := by
  have e1 : footB f s = [] := if_neg h
  have e2 : footE f = 32 := if_neg h
  exact ⟨none, 0, by rw [e1, e2]; rfl, by rw [e1]; exact Row.empty _ _, hb⟩
theorem ef_good (f s : Int) (w w' : World) (v : Value) (n base : Nat) (h : 0 ≤ f ∧ f ≤ 4294967295) (hn : (enc f.toNat).length = n) (ho : w'.ownsRow base 5 1 v (n + 4) ((enc f.toNat ++ le s 4).map (Value.int .u8))) (hb : Below w.heap.size w w') : EfSaid f s w (.returned (.tuple #[v, .int .i64 0])) w' := by
  have e1 : footB f s = enc f.toNat ++ le s 4 := if_pos h
  have e2 : footE f = 0 := if_pos h
  have hl : (footB f s).length = n + 4 := by rw [e1, List.length_append, le_len, hn]
  rw [← e1] at ho
  obtain ⟨a, c, rfl⟩ := own_form ho
  exact ⟨a, c, by rw [e2, hl], by rw [hl]; exact own_row_u8 ho (u8_of_mem (footB_mem f s)), hb⟩
/-- Uvarint, and what it leaves as it is. -/
theorem uv_kept (x : Int) (n : Nat) (w : World) (h1 : 0 ≤ x) (h2 : x ≤ 18446744073709551615) (hn : (enc x.toNat).length = n) :
    Calls Try.prog 16 #[.int .u64 x] w fun e w' => ∃ c, e = .returned (.slice (some ⟨w.heap.size, 0, none⟩) n c) ∧ w'.ownsRow w.heap.size 5 1 (.slice (some ⟨w.heap.size, 0, none⟩) n c) n ((enc x.toNat).map (Value.int .u8)) ∧ Below w.heap.size w w' := by
  subst hn; exact uv_any x w h1 h2
theorem ruv_kept (x : Int) (n : Nat) (w : World) (h1 : 0 ≤ x) (h2 : x ≤ 18446744073709551615) (hn : (enc x.toNat).length = n) :
    Calls Try.prog 19 #[.int .u64 x] w fun e w' => ∃ a c, e = .returned (.slice a n c) ∧ w'.ownsRow w.heap.size 5 1 (.slice a n c) n ((enc x.toNat).map (Value.int .u8)) ∧ Below w.heap.size w w' := by
  subst hn; exact (ruv_any x w h1 h2).mono fun e w' ⟨v, he, ho, hb⟩ => by
    obtain ⟨a, c, rfl⟩ := own_form ho
    exact ⟨a, c, he, ho, hb⟩
set_option maxHeartbeats 800000 in
theorem ef_any (f s : Int) (w : World) (hs0 : 0 ≤ s) (hs1 : s ≤ 4294967295) :
    Calls Try.prog 8 #[.agg #[.int .i64 f, .int .u32 s]] w (EfSaid f s w) := by
  have hm := fm_any f
  by_cases h : 0 ≤ f ∧ f ≤ 4294967295
  · rw [decide_eq_true h] at hm
    obtain ⟨n, hn⟩ : ∃ n, (enc f.toNat).length = n := ⟨_, rfl⟩
    have HN := hide hn
    have hn10 : n ≤ 10 := by rw [← hn]; exact enc_le _ (by omega)
    have H := hide h
    have h1 := h.1
    have h2 := h.2
    clear h hn
    go_enter Try.func8, Try.ntmps8
    go_wp2_with fail
    refine (hm _).mono ?_
    rintro e w' ⟨rfl, rfl⟩
    clear hm
    go_wp2_with fail
    have HB := hide (below_alloc1 w (.cells #[.int .i64 f, .int .u32 s] 26))
    have HC0 : (w.alloc (.cells #[.int .i64 f, .int .u32 s] 26)).cell? ⟨w.heap.size, 0, none⟩ = some (.int .i64 f) := by rw [World.cell?_alloc_at _ _ _ _ rfl]; rfl
    have HC1 : (w.alloc (.cells #[.int .i64 f, .int .u32 s] 26)).cell? ⟨w.heap.size, 1, none⟩ = some (.int .u32 s) := by rw [World.cell?_alloc_at _ _ _ _ rfl]; rfl
    have HL : w.heap.size < (w.alloc (.cells #[.int .i64 f, .int .u32 s] 26)).heap.size := by simp
    generalize w.alloc (.cells #[.int .i64 f, .int .u32 s] 26) = W0 at HB HC0 HC1 HL ⊢
    have HD := hide (HB.out.drew)
    have hd : W0.drew.heap.size = W0.heap.size := rfl
    have HWr := hide (wraps_u64 f h1 (by omega))
    have HU0 := uv_kept f n W0.drew h1 (by omega) HN.out
    rw [hd] at HU0
    have HU := hide HU0
    clear HU0
    go_region_held3 (fun W => W.cell? ⟨w.heap.size, 0, none⟩ = some (.int .i64 f) ∧ W.cell? ⟨w.heap.size, 1, none⟩ = some (.int .u32 s)) (first | exact ⟨HC0, HC1⟩ | exact ⟨K0, K1⟩ | exact ⟨K2, K3⟩) (first
      | (go_at_call 16; rw [HWr.out]; refine HU.out.mono ?_; rintro e w1 ⟨c, rfl, hown, hb⟩; have K0 := (hb.cell (p := ⟨w.heap.size, 0, none⟩) HL).trans HC0; have K1 := (hb.cell (p := ⟨w.heap.size, 1, none⟩) HL).trans HC1; have HA := hide (an_any W0.heap.size (.slice (some ⟨W0.heap.size, 0, none⟩) n c) n (enc f.toNat) s w1 hs0 hs1 (by omega) hown hb.size); have HO := hide hown; clear hown)
      | (go_at_call 21; refine HA.out.mono ?_; rintro e w2 ⟨v2, rfl, hown2, hb2⟩; have K2 := (hb2.cell (p := ⟨w.heap.size, 0, none⟩) HL).trans K0; have K3 := (hb2.cell (p := ⟨w.heap.size, 1, none⟩) HL).trans K1))
    go_wp2
    go_ret2
    exact ef_good f s w w2 v2 n _ H.out HN.out hown2 ((HD.out.trans (hb.mono (Nat.le_of_lt HL))).trans (hb2.mono (Nat.le_of_lt HL)))
  · have e0 : decide (0 ≤ f ∧ f ≤ 4294967295) = false := decide_eq_false h
    rw [e0] at hm
    have H := hide h
    clear h e0
    go_enter Try.func8, Try.ntmps8
    go_wp2_with fail
    refine (hm _).mono ?_
    rintro e w' ⟨rfl, rfl⟩
    clear hm
    go_wp2
    go_ret2
    exact ef_bad f s w _ H.out (below_alloc1 _ _)
set_option maxHeartbeats 800000 in
theorem ref_any (f s : Int) (w : World) (hs0 : 0 ≤ s) (hs1 : s ≤ 4294967295) :
    Calls Try.prog 9 #[.agg #[.int .i64 f, .int .u32 s]] w (EfSaid f s w) := by
  by_cases h : 0 ≤ f ∧ f ≤ 4294967295
  · obtain ⟨n, hn⟩ : ∃ n, (enc f.toNat).length = n := ⟨_, rfl⟩
    have HN := hide hn
    have hn10 : n ≤ 10 := by rw [← hn]; exact enc_le _ (by omega)
    have H := hide h
    have h1 := h.1
    have h2 := h.2
    clear h hn
    go_enter Try.func9, Try.ntmps9
    go_wp2_with fail
    refine (ruv_kept f n _ h1 (by omega) HN.out).mono ?_
    rintro e w1 ⟨a1, c1, rfl, hown, hb⟩
    have HB := hide (below_alloc1 w (.cells #[.int .i64 f, .int .u32 s] 26))
    have HC1 : (w.alloc (.cells #[.int .i64 f, .int .u32 s] 26)).cell? ⟨w.heap.size, 1, none⟩ = some (.int .u32 s) := by rw [World.cell?_alloc_at _ _ _ _ rfl]; rfl
    have HL : w.heap.size < (w.alloc (.cells #[.int .i64 f, .int .u32 s] 26)).heap.size := by simp
    generalize w.alloc (.cells #[.int .i64 f, .int .u32 s] 26) = W0 at HB HC1 HL hown hb
    have K1 := (hb.cell (p := ⟨w.heap.size, 1, none⟩) HL).trans HC1
    have HA := hide (lo_any W0.heap.size (.slice a1 n c1) n (enc f.toNat) s w1 hs0 hs1 (by omega) hown hb.size)
    clear hown
    go_wp2_with fail
    refine HA.out.mono ?_
    rintro e w2 ⟨v2, rfl, hown2, hb2⟩
    go_wp2
    go_ret2
    exact ef_good f s w w2 v2 n _ H.out HN.out hown2 ((HB.out.trans (hb.mono (Nat.le_of_lt HL))).trans (hb2.mono (Nat.le_of_lt HL)))
  · have H := hide h
    by_cases h0 : f < 0
    · clear h
      go_enter Try.func9, Try.ntmps9
      go_wp2
      go_ret2
      exact ef_bad f s w _ H.out (below_alloc1 _ _)
    · have h1 : 4294967295 < f := by omega
      clear h
      go_enter Try.func9, Try.ntmps9
      go_wp2
      go_ret2
      exact ef_bad f s w _ H.out (below_alloc1 _ _)
end Go.Proofs.Ytgonbakoidkafaa
