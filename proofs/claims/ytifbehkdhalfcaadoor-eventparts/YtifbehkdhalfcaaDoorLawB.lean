/-
  Intern whatever comes; two stacks to begin with.
-/
import Derived.Test.YtifbehkdhalfcaaDoorForP
namespace Go.Proofs.YtifbehkdhalfcaaDoor
open Go.RowKit Go.Maps Go.Shelf
/-- The stack's frames that are put in, with the number that they are put under. -/
def left (L : List ByteArray) (N : List Nd) (ls : List ByteArray) : Nat × List ByteArray := kn L N 0 ls.reverse
def after (L : List ByteArray) (N : List Nd) (ls : List ByteArray) : Stt := runs ⟨L, N, (left L N ls).1⟩ (left L N ls).2
/-- What Intern answers and leaves. -/
inductive Res (L : List ByteArray) (N : List Nd) (P : List Stk) (ls : List ByteArray) : Nat → Int → List ByteArray → List Nd → List Stk → Prop
  | deep : 16 < ls.length → Res L N P ls 0 51 L N P
  | full : ls.length ≤ 16 → ¬ Roomy L N.length (left L N ls).2.reverse → Res L N P ls 0 3 L N P
  | ok : ls.length ≤ 16 → Roomy L N.length (left L N ls).2.reverse → Res L N P ls (after L N ls).id 0 (after L N ls).L (after L N ls).N (addP P [] ls.reverse)
theorem addP_ext (P : List Stk) (u : Stk) (r : List ByteArray) : ∃ Q, addP P u r = P ++ Q := by
  induction r generalizing P u with
  | nil => exact ⟨[], by simp [addP]⟩
  | cons s r ih =>
    rw [addP]
    split
    · exact ih _ _
    · obtain ⟨Q, hQ⟩ := ih (P ++ [s :: u]) (s :: u)
      exact ⟨[s :: u] ++ Q, by rw [hQ]; simp⟩
/-- What holds of strings, nodes and stacks. -/
structure Fit (L : List ByteArray) (N : List Nd) (P : List Stk) : Prop where
  good : Good L N
  rep : Rep L N P
  nodup : L.Nodup
theorem Fit.nil : Fit [] [] [] := ⟨⟨by simp, by simp⟩, Rep.nil _, by simp⟩
theorem Fit.ok {L : List ByteArray} {N : List Nd} {P : List Stk} {ls : List ByteArray} (h : Fit L N P) (hl : ls.length ≤ 16) (hR : Roomy L N.length (left L N ls).2.reverse) :
    Fit (after L N ls).L (after L N ls).N (addP P [] ls.reverse) ∧ (after L N ls).id = num (addP P [] ls.reverse) ls ∧ Has (addP P [] ls.reverse) ls ∧ ∃ E, (after L N ls).L = L ++ E := by
  have := intern_rep h.rep h.good h.nodup hl hR
  exact ⟨⟨this.2.2.2.1, this.1, this.2.2.2.2.1⟩, this.2.1, this.2.2.1, this.2.2.2.2.2⟩
theorem Res.fit {L L' : List ByteArray} {N N' : List Nd} {P P' : List Stk} {ls : List ByteArray} {id : Nat} {er : Int} (h : Res L N P ls id er L' N' P') (hf : Fit L N P) : Fit L' N' P' ∧ (∃ Q, P' = P ++ Q) ∧ ∃ E, L' = L ++ E := by
  cases h with
  | deep _ => exact ⟨hf, ⟨[], by simp⟩, ⟨[], by simp⟩⟩
  | full _ _ => exact ⟨hf, ⟨[], by simp⟩, ⟨[], by simp⟩⟩
  | ok hl hR => exact ⟨(hf.ok hl hR).1, addP_ext _ _ _, (hf.ok hl hR).2.2.2⟩
/-- Sets that only grow by new blocks. -/
def More (w : World) (T T' : Nat → Prop) : Prop := ∀ k, T' k → T k ∨ w.heap.size ≤ k
theorem intern_u {w : World} {T S : Nat → Prop} {tb fb : Nat} {L : List ByteArray} {N : List Nd} (P : List Stk) (h : St w T S tb fb L N) (hg : Good L N) (a : Option Addr) (n c : Nat) (ls : List ByteArray) (hr : SRow w a n ls) (hn : (n : Int) ≤ 9223372036854775806) (hc : n ≤ c) (hz : ∀ s ∈ ls, s.size ≤ maxLen)
    (hrT : ∀ b off, a = some ⟨b, off, none⟩ → n ≠ 0 → ¬ T b ∧ ¬ S b) :
    Calls Tryd.prog 27 #[.pointer (some ⟨fb, 0, none⟩), .slice a n c] w fun e w' => ∃ id er L' N' P', e = .returned (.tuple #[.int .i64 (id : Nat), .int .i64 er]) ∧ Res L N P ls id er L' N' P' ∧
      (∃ T' S', St w' T' S' tb fb L' N' ∧ More w T T' ∧ More w S S') ∧ But (fun k => T k ∨ S k) w w' := by
  by_cases hd : n ≤ 16
  · by_cases hR : Roomy L N.length (kn L N 0 ls.reverse).2.reverse
    · refine (intern_f h hg a n c ls hr hd hc hz hrT hR).mono ?_
      rintro e w' ⟨rfl, hT, hb⟩
      exact ⟨_, _, _, _, _, rfl, .ok (by rw [hr.len]; exact hd) hR, hT, hb⟩
    · refine (intern_full h a n c ls hr hd hc hz hR).mono ?_
      rintro e w' ⟨rfl, hb⟩
      exact ⟨_, _, _, _, _, rfl, .full (by rw [hr.len]; exact hd) hR, ⟨T, S, h.but (U := fun _ => False) (But.of_below hb) (fun _ _ e => e) (fun _ _ e => e), fun _ e => .inl e, fun _ e => .inl e⟩, But.of_below hb⟩
  · refine (intern_deep h a n c (by omega) (by omega)).mono ?_
    rintro e w' ⟨rfl, hb⟩
    exact ⟨_, _, _, _, _, rfl, .deep (by rw [hr.len]; omega), ⟨T, S, h.but (U := fun _ => False) (But.of_below hb) (fun _ _ e => e) (fun _ _ e => e), fun _ e => .inl e, fun _ e => .inl e⟩, But.of_below hb⟩
theorem tab_new (w : World) : Tab (w.alloc (.cells #[.slice none 0 0, .map none, .int .i64 0] 66)) w.heap.size (fun k => k = w.heap.size) [] (.slice none 0 0) (.map none) :=
  ⟨heap_alloc_new w _, World.ownsRow_nil _ _ _ _, .inl ⟨rfl, rfl⟩, rfl, by simp [Value.ownBlock], by simp, by simp, by simp, by simp [total]⟩
/-- A new table and a new forest over it. -/
theorem st_new {w w' : World} {v : Value} {mb : Nat} (hF : Frs w' ((w.alloc (.cells #[.slice none 0 0, .map none, .int .i64 0] 66)).heap.size + 1) w.heap.size (fun k => (w.alloc (.cells #[.slice none 0 0, .map none, .int .i64 0] 66)).heap.size ≤ k ∧ k < w'.heap.size) [] v mb)
    (hb : Below (w.alloc (.cells #[.slice none 0 0, .map none, .int .i64 0] 66)).heap.size (w.alloc (.cells #[.slice none 0 0, .map none, .int .i64 0] 66)) w') :
    St w' (fun k => k = w.heap.size) (fun k => w.heap.size + 1 ≤ k ∧ k < w'.heap.size) w.heap.size (w.heap.size + 2) [] [] ∧ Below w.heap.size w w' := by
  have hsz := hb.size
  have ht := (tab_new w).kept (T := fun _ => False) (But.of_below hb) (fun _ _ e => e)
  rw [World.size_alloc] at hF hb hsz
  refine ⟨⟨⟨_, _, _, _, ht, hF⟩, ?_, ?_, ?_⟩, ?_⟩
  · rintro k rfl; omega
  · rintro k rfl; omega
  · intro k hk; exact hk.2
  · exact ((Below.refl _ w).alloc (Nat.le_refl _) _).trans (hb.mono (Nat.le_succ _))
theorem But.beyond {U : Nat → Prop} {w0 w w' : World} (h : But U w w') (hb : Below w0.heap.size w0 w) (hU : ∀ k, U k → w0.heap.size ≤ k) : Below w0.heap.size w0 w' := hb.trans (h.below hb.size hU)
theorem row_own {w : World} {base : Nat} {v : Value} {L : List ByteArray} (h : w.ownsRow base 9 1 v L.length (L.map Value.string)) : ∃ a c, v = .slice a L.length c ∧ SRow w a L.length L ∧ L.length ≤ c := by
  rcases h.2 with ⟨hv, h0⟩ | ⟨g, cap, cur, hv, hb, hg, hn, hm, hs, ht⟩
  · exact ⟨none, 0, by rw [hv, h0], ⟨rfl, .inl h0⟩, by omega⟩
  · subst hv; exact ⟨_, cap, rfl, SRow.of_own h, hn⟩
end Go.Proofs.YtifbehkdhalfcaaDoor
