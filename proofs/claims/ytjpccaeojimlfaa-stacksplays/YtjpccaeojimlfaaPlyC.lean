/-
  What a forest, or none, answers.
-/
import Derived.Test.YtjpccaeojimlfaaPlyB
import Derived.Test.YtjpccaeojimlfaaDecM
namespace Go.Proofs.Ytjpccaeojimlfaa
open Go.RowKit Go.Maps Go.Shelf
section
variable {w0 w w' : World} {pb tb ub FB GB : Nat} {f g : Nat → Nat} {Z : Nat → Nat → Prop} {L M : List ByteArray} {N R : Nat → List Nd} {P : Nat → List Stk}
theorem fPtr_lt (f : Nat → Nat) {i : Nat} (h : i < 2) : fPtr f i = .pointer (some ⟨f i, 0, none⟩) := by rw [fPtr, if_pos h]
theorem fPtr_no (f : Nat → Nat) {i : Nat} (h : ¬ i < 2) : fPtr f i = .pointer none := by rw [fPtr, if_neg h]
/-! ### Stack -/
noncomputable def sAns (N : Nat → List Nd) (P : Nat → List Stk) (i : Nat) (id : Int) : List ByteArray × Int := if i < 2 then (if 0 ≤ id ∧ id ≤ (N i).length then (stkP (P i) id.toNat, 0) else ([], 50)) else ([], 1)
theorem stack_x (h : Ply w0 w pb tb ub FB GB f g Z L M N R P) (i : Nat) (id : Int) (hid : -9223372036854775808 ≤ id ∧ id ≤ 9223372036854775807) :
    Calls Try.prog 20 #[fPtr f i, .int .i64 id] w fun e w' => ∃ a c, e = .returned (.tuple #[.slice a (sAns N P i id).1.length c, .int .i64 (sAns N P i id).2]) ∧ w'.ownsRow w.heap.size 9 1 (.slice a (sAns N P i id).1.length c) (sAns N P i id).1.length ((sAns N P i id).1.map Value.string) ∧ Below w.heap.size w w' := by
  by_cases hi : i < 2
  · rw [fPtr_lt f hi]
    by_cases hr : 0 ≤ id ∧ id ≤ (N i).length
    · obtain ⟨k, rfl⟩ := Int.eq_ofNat_of_zero_le hr.1
      have e : sAns N P i (k : Int) = (stkP (P i) k, 0) := by rw [sAns, if_pos hi, if_pos hr, Int.toNat_natCast]
      rw [e]
      refine (stack_in (h.st i hi) (h.fit i hi).rep k (by omega)).mono ?_
      rintro e w' ⟨v, rfl, ho, hb⟩
      obtain ⟨a, c, rfl⟩ := own_form ho
      exact ⟨a, c, rfl, ho, hb⟩
    · have e : sAns N P i id = ([], 50) := by rw [sAns, if_pos hi, if_neg hr]
      rw [e]
      obtain ⟨v, mb, hf⟩ := h.frs i hi
      refine (stack_out hf id hid (by omega)).mono ?_
      rintro e w' ⟨rfl, rfl⟩
      exact ⟨none, 0, rfl, World.ownsRow_nil _ _ _ _, Below.refl _ _⟩
  · rw [fPtr_no f hi]
    have e : sAns N P i id = ([], 1) := by rw [sAns, if_neg hi]
    rw [e]
    refine (stack_nil id w).mono ?_
    rintro e w' ⟨rfl, rfl⟩
    exact ⟨none, 0, rfl, World.ownsRow_nil _ _ _ _, Below.refl _ _⟩
theorem rstack_x (h : Ply w0 w pb tb ub FB GB f g Z L L N N P) (i : Nat) (id : Int) :
    Calls Try.prog 61 #[fPtr g i, .int .i64 id] w fun e w' => ∃ a c, e = .returned (.tuple #[.slice a (sAns N P i id).1.length c, .int .i64 (sAns N P i id).2]) ∧ w'.ownsRow w.heap.size 9 1 (.slice a (sAns N P i id).1.length c) (sAns N P i id).1.length ((sAns N P i id).1.map Value.string) ∧ Below w.heap.size w w' := by
  by_cases hi : i < 2
  · rw [fPtr_lt g hi]
    by_cases hr : 0 ≤ id ∧ id ≤ (N i).length
    · obtain ⟨k, rfl⟩ := Int.eq_ofNat_of_zero_le hr.1
      have e : sAns N P i (k : Int) = (stkP (P i) k, 0) := by rw [sAns, if_pos hi, if_pos hr, Int.toNat_natCast]
      rw [e]
      refine (rstack_in (h.rst i hi) (h.fit i hi).rep k (by omega)).mono ?_
      rintro e w' ⟨v, rfl, ho, hb⟩
      obtain ⟨a, c, rfl⟩ := own_form ho
      exact ⟨a, c, rfl, ho, hb⟩
    · have e : sAns N P i id = ([], 50) := by rw [sAns, if_pos hi, if_neg hr]
      rw [e]
      obtain ⟨v, hf⟩ := h.rfr i hi
      refine (rstack_out hf id (by omega)).mono ?_
      rintro e w' ⟨rfl, rfl⟩
      exact ⟨none, 0, rfl, World.ownsRow_nil _ _ _ _, Below.refl _ _⟩
  · rw [fPtr_no g hi]
    have e : sAns N P i id = ([], 1) := by rw [sAns, if_neg hi]
    rw [e]
    refine (rstack_nil id w).mono ?_
    rintro e w' ⟨rfl, rfl⟩
    exact ⟨none, 0, rfl, World.ownsRow_nil _ _ _ _, Below.refl _ _⟩
/-! ### Len -/
def lAns (N : Nat → List Nd) (i : Nat) : Nat := if i < 2 then (N i).length else 0
theorem len_x (h : Ply w0 w pb tb ub FB GB f g Z L M N R P) (i : Nat) : Calls Try.prog 16 #[fPtr f i] w fun e w' => e = .returned (.int .i64 (lAns N i : Int)) ∧ w' = w := by
  by_cases hi : i < 2
  · rw [fPtr_lt f hi, lAns, if_pos hi]
    obtain ⟨v, mb, hf⟩ := h.frs i hi
    obtain ⟨a, c, rfl⟩ := own_form hf.own
    exact len_f _ _ c a w hf.cell1
  · rw [fPtr_no f hi, lAns, if_neg hi]
    exact len_f_nil w
theorem rlen_x (h : Ply w0 w pb tb ub FB GB f g Z L M N R P) (i : Nat) : Calls Try.prog 62 #[fPtr g i] w fun e w' => e = .returned (.int .i64 (lAns R i : Int)) ∧ w' = w := by
  by_cases hi : i < 2
  · rw [fPtr_lt g hi, lAns, if_pos hi]
    obtain ⟨v, hf⟩ := h.rfr i hi
    obtain ⟨a, c, rfl⟩ := own_form hf.own
    exact rlen_f _ _ c a w hf.cell1
  · rw [fPtr_no g hi, lAns, if_neg hi]
    exact rlen_f_nil w
/-! ### Encode -/
def eAns (N : Nat → List Nd) (i : Nat) (lim : Int) : List (List Int) × Int := if i < 2 then (if 64 ≤ lim ∧ lim ≤ 1048576 then (bodiesN (N i) lim.toNat, 0) else ([], 2)) else ([], 1)
theorem encode_x (h : Ply w0 w pb tb ub FB GB f g Z L M N R P) (i : Nat) (lim : Int) :
    Calls Try.prog 22 #[fPtr f i, .int .i64 lim] w fun e w' => ∃ a c vals, e = .returned (.tuple #[.slice a (eAns N i lim).1.length c, .int .i64 (eAns N i lim).2]) ∧ Lists w' w.heap.size (.slice a (eAns N i lim).1.length c) (eAns N i lim).1 vals ∧ Below w.heap.size w w' := by
  by_cases hi : i < 2
  · rw [fPtr_lt f hi]
    obtain ⟨v, mb, hf⟩ := h.frs i hi
    by_cases hr : 64 ≤ lim ∧ lim ≤ 1048576
    · obtain ⟨k, rfl⟩ := Int.eq_ofNat_of_zero_le (show 0 ≤ lim by omega)
      have e : eAns N i (k : Int) = (bodiesN (N i) k, 0) := by rw [eAns, if_pos hi, if_pos hr, Int.toNat_natCast]
      rw [e]
      exact encode_ok hf (h.fit i hi).rep.anc k hr.1 hr.2
    · have e : eAns N i lim = ([], 2) := by rw [eAns, if_pos hi, if_neg hr]
      rw [e]
      refine (encode_bad hf lim hr).mono ?_
      rintro e w' ⟨rfl, rfl⟩
      exact ⟨none, 0, [], rfl, Lists.nil _ _, Below.refl _ _⟩
  · rw [fPtr_no f hi]
    have e : eAns N i lim = ([], 1) := by rw [eAns, if_neg hi]
    rw [e]
    refine (encode_nil lim w).mono ?_
    rintro e w' ⟨rfl, rfl⟩
    exact ⟨none, 0, [], rfl, Lists.nil _ _, Below.refl _ _⟩
theorem rencode_x (h : Ply w0 w pb tb ub FB GB f g Z L L N N P) (i : Nat) (lim : Int) :
    Calls Try.prog 65 #[fPtr g i, .int .i64 lim] w fun e w' => ∃ a c vals, e = .returned (.tuple #[.slice a (eAns N i lim).1.length c, .int .i64 (eAns N i lim).2]) ∧ Lists w' w.heap.size (.slice a (eAns N i lim).1.length c) (eAns N i lim).1 vals ∧ Below w.heap.size w w' := by
  by_cases hi : i < 2
  · rw [fPtr_lt g hi]
    obtain ⟨v, hf⟩ := h.rfr i hi
    by_cases hr : 64 ≤ lim ∧ lim ≤ 1048576
    · obtain ⟨k, rfl⟩ := Int.eq_ofNat_of_zero_le (show 0 ≤ lim by omega)
      have e : eAns N i (k : Int) = (bodiesN (N i) k, 0) := by rw [eAns, if_pos hi, if_pos hr, Int.toNat_natCast]
      rw [e]
      exact rencode_ok hf (h.fit i hi).rep.anc k hr.1 hr.2
    · have e : eAns N i lim = ([], 2) := by rw [eAns, if_pos hi, if_neg hr]
      rw [e]
      refine (rencode_bad (g i) lim w hr).mono ?_
      rintro e w' ⟨rfl, rfl⟩
      exact ⟨none, 0, [], rfl, Lists.nil _ _, Below.refl _ _⟩
  · rw [fPtr_no g hi]
    have e : eAns N i lim = ([], 1) := by rw [eAns, if_neg hi]
    rw [e]
    refine (rencode_nil lim w).mono ?_
    rintro e w' ⟨rfl, rfl⟩
    exact ⟨none, 0, [], rfl, Lists.nil _ _, Below.refl _ _⟩
theorem eAns_ok (h : Ply w0 w pb tb ub FB GB f g Z L M N R P) (i : Nat) (lim : Int) : (eAns N i lim).1.length ≤ 262144 ∧ ∀ z ∈ (eAns N i lim).1, (z.length : Int) ≤ 140737488355328 := by
  unfold eAns
  split
  · rename_i hi
    split
    · rename_i hr
      obtain ⟨v, mb, hf⟩ := h.frs i hi
      have hw := bodiesW_ok (recN_ok hf.len hf.small) (by have := hf.len; omega) (lim := lim.toNat) (N i).length (Nat.le_refl _)
      exact ⟨Nat.le_trans hw.len hf.len, fun z hz => by have := hw.each z hz; omega⟩
    · simp
  · simp
/-! ### Intern -/
def Grew (w : World) (Z Z' : Nat → Nat → Prop) : Prop := ∀ j k, Z' j k → Z j k ∨ w.heap.size ≤ k
def Did (L : List ByteArray) (N : Nat → List Nd) (P : Nat → List Stk) (ls : List ByteArray) (i id : Nat) (er : Int) (L' : List ByteArray) (N' : Nat → List Nd) (P' : Nat → List Stk) : Prop :=
  (i < 2 ∧ Fit L (N i) (P i) ∧ ∃ n' p', Res L (N i) (P i) ls id er L' n' p' ∧ N' = upd N i n' ∧ P' = upd P i p') ∨ (¬ i < 2 ∧ id = 0 ∧ er = 1 ∧ L' = L ∧ N' = N ∧ P' = P)
theorem grew_two {a b : Nat} {T S : Nat → Prop} (m1 : More w (Z a) T) (m2 : More w (Z b) S) : Grew w Z (upd (upd Z a T) b S) := by
  intro j k hk
  by_cases hb : j = b
  · subst hb; rw [upd_same] at hk; exact m2 k hk
  · rw [upd_other _ _ hb] at hk
    by_cases ha : j = a
    · subst ha; rw [upd_same] at hk; exact m1 k hk
    · rw [upd_other _ _ ha] at hk; exact .inl hk
theorem intern_x (h : Ply w0 w pb tb ub FB GB f g Z L L N N P) (i : Nat) (a : Option Addr) (n c : Nat) (ls : List ByteArray) (hr : SRow w a n ls) (hn : (n : Int) ≤ 9223372036854775806) (hc : n ≤ c) (hz : ∀ s ∈ ls, s.size ≤ maxLen) (hrow : ∀ b off, a = some ⟨b, off, none⟩ → n ≠ 0 → ∀ j, ¬ Z j b) :
    Calls Try.prog 14 #[fPtr f i, .slice a n c] w fun e w' => ∃ id er Z' L' N' P', e = .returned (.tuple #[.int .i64 (id : Nat), .int .i64 er]) ∧ Did L N P ls i id er L' N' P' ∧ Ply w0 w' pb tb ub FB GB f g Z' L' L N' N P' ∧ Grew w Z Z' ∧ But (fun k => ∃ j, Z j k) w w' := by
  by_cases hi : i < 2
  · rw [fPtr_lt f hi]
    refine (intern_u (P i) (h.st i hi) (h.fit i hi).good a n c ls hr hn hc hz (fun b off e hne => ⟨hrow b off e hne 1, hrow b off e hne (2 + i)⟩)).mono ?_
    rintro e w' ⟨id, er, L', n', p', rfl, hres, ⟨T', S', hst, m1, m2⟩, hb⟩
    have hft := hres.fit (h.fit i hi)
    exact ⟨id, er, _, L', _, _, rfl, .inl ⟨hi, h.fit i hi, n', p', hres, rfl, rfl⟩, h.left hi hst m1 m2 hb hft.1 hft.2.2, grew_two m1 m2, hb.mono (fun k e => by rcases e with e | e; exact ⟨_, e⟩; exact ⟨_, e⟩)⟩
  · rw [fPtr_no f hi]
    refine (intern_nil a n c w).mono ?_
    rintro e w' ⟨rfl, hb⟩
    exact ⟨0, 1, Z, L, N, P, rfl, .inr ⟨hi, rfl, rfl, rfl, rfl, rfl⟩, h.below hb, fun _ _ e => .inl e, But.of_below hb⟩
theorem rintern_x {id : Nat} {er : Int} {L' : List ByteArray} {N' : Nat → List Nd} {P' : Nat → List Stk} (h : Ply w0 w pb tb ub FB GB f g Z L' L N' N P') (i : Nat) (a : Option Addr) (n c : Nat) (ls : List ByteArray) (hr : SRow w a n ls) (hn : (n : Int) ≤ 9223372036854775806) (hz : ∀ s ∈ ls, s.size ≤ maxLen) (hrow : ∀ b off, a = some ⟨b, off, none⟩ → n ≠ 0 → ∀ j, ¬ Z j b) (hd : Did L N P ls i id er L' N' P') :
    Calls Try.prog 59 #[fPtr g i, .slice a n c] w fun e w' => e = .returned (.tuple #[.int .i64 (id : Nat), .int .i64 er]) ∧ ∃ Z', Ply w0 w' pb tb ub FB GB f g Z' L' L' N' N' P' ∧ Grew w Z Z' ∧ But (fun k => ∃ j, Z j k) w w' := by
  rcases hd with ⟨hi, hf, n', p', hres, rfl, rfl⟩ | ⟨hi, rfl, rfl, rfl, rfl, rfl⟩
  · rw [fPtr_lt g hi]
    refine (rintern_u (P i) (h.rst i hi) hf.good hf.nodup a n c ls hr hn hz (fun b off e hne => ⟨hrow b off e hne 4, hrow b off e hne (5 + i)⟩)).mono ?_
    rintro e w' ⟨id2, er2, L2, n2, p2, rfl, hres2, ⟨T', S', hst, m1, m2⟩, hb⟩
    obtain ⟨rfl, rfl, rfl, rfl, rfl⟩ := hres2.det hres
    exact ⟨rfl, _, h.right hi hst m1 m2 hb, grew_two m1 m2, hb.mono (fun k e => by rcases e with e | e; exact ⟨_, e⟩; exact ⟨_, e⟩)⟩
  · rw [fPtr_no g hi]
    refine (rintern_nil a n c w).mono ?_
    rintro e w' ⟨rfl, rfl⟩
    exact ⟨rfl, Z, h, fun _ _ e => .inl e, But.refl _ _⟩
/-! ### the table -/
theorem upd_id {α : Type} (N : Nat → α) (i : Nat) : upd N i (N i) = N := by
  funext j; unfold upd; split
  · rename_i e; rw [e]
  · rfl
theorem internL_ext (L : List ByteArray) (s : ByteArray) : ∃ E, internL L s = L ++ E := by
  unfold internL; split
  · exact ⟨[], by simp⟩
  · split
    · exact ⟨_, rfl⟩
    · exact ⟨[], by simp⟩
theorem tintern_x (h : Ply w0 w pb tb ub FB GB f g Z L L N N P) (s : ByteArray) (hs : s.size ≤ maxLen) :
    Calls Try.prog 24 #[.pointer (some ⟨tb, 0, none⟩), .string s] w fun e w' => e = .returned (internV L s) ∧ ∃ Z', Ply w0 w' pb tb ub FB GB f g Z' (internL L s) L N N P ∧ Grew w Z Z' ∧ But (Z 1) w w' := by
  obtain ⟨tv, tm, ht⟩ := h.tab
  refine (intern_any ht s hs).mono ?_
  rintro e w' ⟨rfl, ⟨v', mv', ht'⟩, hb⟩
  have hsz := hb.size
  obtain ⟨v, mb, hf⟩ := h.frs 0 (by decide)
  have hst : St w' (fun k => Z 1 k ∨ (w.heap.size ≤ k ∧ k < w'.heap.size)) (Z (2 + 0)) tb (f 0) (internL L s) (N 0) := by
    refine ⟨⟨v', mv', v, mb, ht', hf.kept hb (fun k h1 h2 => by have := h.dis _ _ k h1 h2; omega)⟩, ?_, ?_, ?_⟩
    · rintro k (e | e) h2
      · have := h.dis _ _ k e h2; omega
      · have := h.rng _ k h2; omega
    · rintro k (e | e)
      · have := h.rng _ k e; omega
      · exact e.2
    · intro k e; have := h.rng _ k e; omega
  have := h.left (by decide) hst (fun k e => e.imp id (fun e => e.1)) (fun _ e => .inl e) (hb.mono (fun _ e => .inl e)) ((h.fit 0 (by decide)).mono (internL_ext L s) ht'.nodup) (internL_ext L s)
  rw [upd_id, upd_id] at this
  exact ⟨rfl, _, this, grew_two (fun k e => e.imp id (fun e => e.1)) (fun _ e => .inl e), hb⟩
theorem rtintern_x {s : ByteArray} (h : Ply w0 w pb tb ub FB GB f g Z (internL L s) L N N P) (hs : s.size ≤ maxLen) :
    Calls Try.prog 63 #[.pointer (some ⟨ub, 0, none⟩), .string s] w fun e w' => e = .returned (internV L s) ∧ ∃ Z', Ply w0 w' pb tb ub FB GB f g Z' (internL L s) (internL L s) N N P ∧ But (Z 4) w w' := by
  obtain ⟨tv, ht⟩ := h.rtab
  refine (rintern_any ht s hs).mono ?_
  rintro e w' ⟨rfl, ⟨v', ht'⟩, hb⟩
  have hsz := hb.size
  obtain ⟨v, hf⟩ := h.rfr 0 (by decide)
  have hst : RSt w' (fun k => Z 4 k ∨ (w.heap.size ≤ k ∧ k < w'.heap.size)) (Z (5 + 0)) ub (g 0) (internL L s) (N 0) := by
    refine ⟨⟨v', v, ht', hf.kept hb (fun k h1 h2 => by have := h.dis _ _ k h1 h2; omega)⟩, ?_, ?_, ?_⟩
    · rintro k (e | e) h2
      · have := h.dis _ _ k e h2; omega
      · have := h.rng _ k h2; omega
    · rintro k (e | e)
      · have := h.rng _ k e; omega
      · exact e.2
    · intro k e; have := h.rng _ k e; omega
  have := h.right (by decide) hst (fun k e => e.imp id (fun e => e.1)) (fun _ e => .inl e) (hb.mono (fun _ e => .inl e))
  rw [upd_id] at this
  exact ⟨rfl, _, this, hb⟩
end
end Go.Proofs.Ytjpccaeojimlfaa
