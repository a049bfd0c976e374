/-
  What two Decodes have in common.
-/
import Derived.Test.YtffakkdmojhjkaaRDB
namespace Go.Proofs.Ytffakkdmojhjkaa
open Go.RowKit Go.Maps Go.Shelf
theorem decE_form {w w' : World} {T : Nat → Prop} {tb : Nat} {L : List ByteArray} {bs : List (List Int)} {lim : Int} {e : Ending} (h : DecE w w' T tb L bs lim e) : ∃ x er, e = .returned (.tuple #[x, .int .i64 er]) := by
  rcases h with ⟨_, h⟩ | ⟨_, _, h⟩ | ⟨_, _, _, h⟩ | ⟨_, _, _, fb, S, h, _⟩ <;> exact ⟨_, _, h⟩
theorem rdecE_form {w w' : World} {T : Nat → Prop} {tb : Nat} {L : List ByteArray} {bs : List (List Int)} {lim : Int} {e : Ending} (h : RDecE w w' T tb L bs lim e) : ∃ x er, e = .returned (.tuple #[x, .int .i64 er]) := by
  rcases h with ⟨_, h⟩ | ⟨_, _, h⟩ | ⟨_, _, _, h⟩ | ⟨_, _, _, fb, S, h, _⟩ <;> exact ⟨_, _, h⟩
theorem ret_inj {x y : Value} {a b : Int} (h : Ending.returned (.tuple #[x, .int .i64 a]) = .returned (.tuple #[y, .int .i64 b])) : x = y ∧ a = b := by
  simpa using h
/-- Two forests of the same nodes, or none. -/
def Fg (W : World) (x y : Value) (L : List ByteArray) (N : List Nd) (P : List Stk) : Prop :=
  (x = .pointer none ∧ y = .pointer none ∧ N = []) ∨ ∃ tb fb ub gb T S U V, x = .pointer (some ⟨fb, 0, none⟩) ∧ y = .pointer (some ⟨gb, 0, none⟩) ∧ St W T S tb fb L N ∧ RSt W U V ub gb L N ∧ Fit L N P
theorem Fg.below {W W' : World} {x y : Value} {L : List ByteArray} {N : List Nd} {P : List Stk} (h : Fg W x y L N P) (hb : Below W.heap.size W W') : Fg W' x y L N P := by
  rcases h with h | ⟨tb, fb, ub, gb, T, S, U, V, h1, h2, h3, h4, h5⟩
  · exact .inl h
  · exact .inr ⟨tb, fb, ub, gb, T, S, U, V, h1, h2, h3.but (U := fun _ => False) (But.of_below hb) (fun _ _ e => e) (fun _ _ e => e), h4.below hb, h5⟩
theorem both_dec {w1 w2 w3 w4 : World} {T U : Nat → Prop} {tb ub : Nat} {L : List ByteArray} {bs : List (List Int)} {lim : Int} {x y : Value} {e1 e2 : Int}
    (h : DecE w1 w2 T tb L bs lim (.returned (.tuple #[x, .int .i64 e1]))) (k : RDecE w3 w4 U ub L bs lim (.returned (.tuple #[y, .int .i64 e2])))
    (h12 : Below w1.heap.size w1 w2) (hb : Below w2.heap.size w2 w3) (h34 : Below w3.heap.size w3 w4) (hT : ∀ k, T k → k < w1.heap.size) (hU : ∀ k, U k → k < w3.heap.size) :
    e1 = e2 ∧ ∃ N P, Fg w4 x y L N P := by
  rcases h with ⟨p1, h⟩ | ⟨p1, p2, h⟩ | ⟨p1, p2, p3, h⟩ | ⟨p1, p2, p3, fb, S, h, hF⟩ <;> rcases k with ⟨q1, k⟩ | ⟨q1, q2, k⟩ | ⟨q1, q2, q3, k⟩ | ⟨q1, q2, q3, gb, V, k, hG⟩
  all_goals first
    | exact absurd q1 p1
    | exact absurd p1 q1
    | exact absurd q2 p2
    | exact absurd p2 q2
    | exact absurd q3 p3
    | exact absurd p3 q3
    | skip
  · obtain ⟨rfl, rfl⟩ := ret_inj h
    obtain ⟨rfl, rfl⟩ := ret_inj k
    exact ⟨rfl, [], [], .inl ⟨rfl, rfl, rfl⟩⟩
  · obtain ⟨rfl, rfl⟩ := ret_inj h
    obtain ⟨rfl, rfl⟩ := ret_inj k
    exact ⟨rfl, [], [], .inl ⟨rfl, rfl, rfl⟩⟩
  · obtain ⟨rfl, rfl⟩ := ret_inj h
    obtain ⟨rfl, rfl⟩ := ret_inj k
    exact ⟨rfl, [], [], .inl ⟨rfl, rfl, rfl⟩⟩
  · obtain ⟨rfl, rfl⟩ := ret_inj h
    obtain ⟨rfl, rfl⟩ := ret_inj k
    obtain ⟨P, hP⟩ := hF.fit
    obtain ⟨tv, tm, ht⟩ := hF.tab
    obtain ⟨v, mb, hf⟩ := hF.frs
    obtain ⟨rv, hrt⟩ := hG.tab
    obtain ⟨gv, hg⟩ := hG.frs
    have b24 : Below w2.heap.size w2 w4 := hb.trans (h34.mono hb.size)
    have s12 := h12.size
    have s24 := b24.size
    have s34 := h34.size
    refine ⟨rfl, _, P, .inr ⟨tb, fb, ub, gb, T, S, U, V, rfl, rfl, ⟨⟨tv, tm, v, mb, ht.kept (T := fun _ => False) (But.of_below (h12.trans (b24.mono s12))) (fun _ _ e => e), hf.kept (T := fun _ => False) (But.of_below b24) (fun _ _ e => e)⟩, fun k h1 h2 => ?_, fun k h1 => ?_, fun k h1 => ?_⟩,
      ⟨⟨rv, gv, hrt.kept (T := fun _ => False) (But.of_below h34) (fun _ _ e => e), hg⟩, fun k h1 h2 => ?_, fun k h1 => ?_, fun k h1 => ?_⟩, hP⟩⟩
    · have := hT k h1; have := hF.news k h2; omega
    · have := hT k h1; omega
    · have := hF.news k h1; omega
    · have := hU k h1; have := hG.news k h2; omega
    · have := hU k h1; omega
    · have := hG.news k h1; omega
def StkP (A : List ByteArray) (er : Int) (W : World) (e : Ending) (w' : World) : Prop := ∃ a c, e = .returned (.tuple #[.slice a A.length c, .int .i64 er]) ∧ w'.ownsRow W.heap.size 9 1 (.slice a A.length c) A.length (A.map Value.string) ∧ Below W.heap.size W w'
theorem fg_stack {W : World} {x y : Value} {L : List ByteArray} {N : List Nd} {P : List Stk} (h : Fg W x y L N P) (id : Int) (hid : -9223372036854775808 ≤ id ∧ id ≤ 9223372036854775807) :
    ∃ A er, A.length ≤ 16 ∧ Calls Try.prog 18 #[x, .int .i64 id] W (StkP A er W) ∧ ∀ W', Below W.heap.size W W' → Calls Try.prog 19 #[y, .int .i64 id] W' (StkP A er W') := by
  rcases h with ⟨rfl, rfl, _⟩ | ⟨tb, fb, ub, gb, T, S, U, V, rfl, rfl, h3, h4, h5⟩
  · refine ⟨[], 1, by simp, (stack_nil id W).mono ?_, fun W' _ => (rstack_nil id W').mono ?_⟩
    · rintro e w' ⟨rfl, rfl⟩
      exact ⟨none, 0, rfl, World.ownsRow_nil _ _ _ _, Below.refl _ _⟩
    · rintro e w' ⟨rfl, rfl⟩
      exact ⟨none, 0, rfl, World.ownsRow_nil _ _ _ _, Below.refl _ _⟩
  · by_cases hr : 0 ≤ id ∧ id ≤ N.length
    · obtain ⟨k, rfl⟩ := Int.eq_ofNat_of_zero_le hr.1
      refine ⟨stkP P k, 0, stkP_len h5.rep _, (stack_in h3 h5.rep k (by omega)).mono ?_, fun W' hb => (rstack_in (h4.below hb) h5.rep k (by omega)).mono ?_⟩
      · rintro e w' ⟨v, rfl, ho, hb⟩
        obtain ⟨a, c, rfl⟩ := own_form ho
        exact ⟨a, c, rfl, ho, hb⟩
      · rintro e w' ⟨v, rfl, ho, hb⟩
        obtain ⟨a, c, rfl⟩ := own_form ho
        exact ⟨a, c, rfl, ho, hb⟩
    · obtain ⟨_, _, v, mb, _, hf⟩ := h3.both
      refine ⟨[], 50, by simp, (stack_out hf id hid (by omega)).mono ?_, fun W' hb => ?_⟩
      · rintro e w' ⟨rfl, rfl⟩
        exact ⟨none, 0, rfl, World.ownsRow_nil _ _ _ _, Below.refl _ _⟩
      · obtain ⟨_, gv, _, hg⟩ := (h4.below hb).both
        refine (rstack_out hg id (by omega)).mono ?_
        rintro e w' ⟨rfl, rfl⟩
        exact ⟨none, 0, rfl, World.ownsRow_nil _ _ _ _, Below.refl _ _⟩
def EncP (A : List (List Int)) (er : Int) (W : World) (e : Ending) (w' : World) : Prop := ∃ a c vals, e = .returned (.tuple #[.slice a A.length c, .int .i64 er]) ∧ Lists w' W.heap.size (.slice a A.length c) A vals ∧ Below W.heap.size W w'
theorem fg_encode {W : World} {x y : Value} {L : List ByteArray} {N : List Nd} {P : List Stk} (h : Fg W x y L N P) :
    ∃ A er, (A.length ≤ 262144 ∧ ∀ z ∈ A, (z.length : Int) ≤ 140737488355328) ∧ Calls Try.prog 21 #[x, .int .i64 64] W (EncP A er W) ∧ ∀ W', Below W.heap.size W W' → Calls Try.prog 22 #[y, .int .i64 64] W' (EncP A er W') := by
  rcases h with ⟨rfl, rfl, _⟩ | ⟨tb, fb, ub, gb, T, S, U, V, rfl, rfl, h3, h4, h5⟩
  · refine ⟨[], 1, by simp, (encode_nil 64 W).mono ?_, fun W' _ => (rencode_nil 64 W').mono ?_⟩
    · rintro e w' ⟨rfl, rfl⟩
      exact ⟨none, 0, [], rfl, Lists.nil _ _, Below.refl _ _⟩
    · rintro e w' ⟨rfl, rfl⟩
      exact ⟨none, 0, [], rfl, Lists.nil _ _, Below.refl _ _⟩
  · obtain ⟨_, _, v, mb, _, hf⟩ := h3.both
    refine ⟨bodiesN N 64, 0, ?_, encode_ok hf h5.rep.anc 64 (by decide) (by decide), fun W' hb => ?_⟩
    · have hw := bodiesN_ok hf 64
      exact ⟨Nat.le_trans hw.len hf.len, fun z hz => by have := hw.each z hz; omega⟩
    · obtain ⟨_, gv, _, hg⟩ := (h4.below hb).both
      exact rencode_ok hg h5.rep.anc 64 (by decide) (by decide)
theorem fg_len {W : World} {x y : Value} {L : List ByteArray} {N : List Nd} {P : List Stk} (h : Fg W x y L N P) :
    N.length ≤ 262144 ∧ Calls Try.prog 16 #[x] W (fun e w' => e = .returned (.int .i64 (N.length : Int)) ∧ w' = W) ∧ Calls Try.prog 17 #[y] W (fun e w' => e = .returned (.int .i64 (N.length : Int)) ∧ w' = W) := by
  rcases h with ⟨rfl, rfl, rfl⟩ | ⟨tb, fb, ub, gb, T, S, U, V, rfl, rfl, h3, h4, h5⟩
  · exact ⟨by simp, len_f_nil W, rlen_f_nil W⟩
  · obtain ⟨_, _, v, mb, _, hf⟩ := h3.both
    obtain ⟨_, gv, _, hg⟩ := h4.both
    obtain ⟨a, c, rfl⟩ := own_form hf.own
    obtain ⟨a2, c2, rfl⟩ := own_form hg.own
    exact ⟨hf.len, len_f _ _ c a W hf.cell1, rlen_f _ _ c2 a2 W hg.cell1⟩
end Go.Proofs.Ytffakkdmojhjkaa
