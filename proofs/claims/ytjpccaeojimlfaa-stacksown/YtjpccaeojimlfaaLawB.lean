/-
  Intern whatever comes; two stacks to begin with.
-/
import Derived.Test.YtjpccaeojimlfaaLawA
namespace Go.Proofs.Ytjpccaeojimlfaa
open Go.RowKit Go.Maps Go.Shelf
/-- The stack's frames that are put in, with the number that they are put under. -/
def left (L : List ByteArray) (N : List Nd) (ls : List ByteArray) : Nat × List ByteArray := kn L N 0 ls.reverse
def after (L : List ByteArray) (N : List Nd) (ls : List ByteArray) : Stt := runs ⟨L, N, (left L N ls).1⟩ (left L N ls).2
/-- What Intern answers and leaves. -/
inductive Res (L : List ByteArray) (N : List Nd) (P : List Stk) (ls : List ByteArray) : Nat → Int → List ByteArray → List Nd → List Stk → Prop
  | deep : 16 < ls.length → Res L N P ls 0 51 L N P
  | full : ls.length ≤ 16 → ¬ Roomy L N.length (left L N ls).2.reverse → Res L N P ls 0 3 L N P
  | ok : ls.length ≤ 16 → Roomy L N.length (left L N ls).2.reverse → Res L N P ls (after L N ls).id 0 (after L N ls).L (after L N ls).N (addP P [] ls.reverse)
theorem addP_ext (P : List Stk) (u : Stk) (r : List ByteArray) : ∃ Q, addP P u r = P ++ Q := by
  induction r generalizing P u with
  | nil => exact ⟨[], by simp [addP]⟩
  | cons s r ih =>
    rw [addP]
    split
    · exact ih _ _
    · obtain ⟨Q, hQ⟩ := ih (P ++ [s :: u]) (s :: u)
      exact ⟨[s :: u] ++ Q, by rw [hQ]; simp⟩
/-- What holds of strings, nodes and stacks. -/
structure Fit (L : List ByteArray) (N : List Nd) (P : List Stk) : Prop where
  good : Good L N
  rep : Rep L N P
  nodup : L.Nodup
theorem Fit.nil : Fit [] [] [] := ⟨⟨by simp, by simp⟩, Rep.nil _, by simp⟩
theorem Fit.ok {L : List ByteArray} {N : List Nd} {P : List Stk} {ls : List ByteArray} (h : Fit L N P) (hl : ls.length ≤ 16) (hR : Roomy L N.length (left L N ls).2.reverse) :
    Fit (after L N ls).L (after L N ls).N (addP P [] ls.reverse) ∧ (after L N ls).id = num (addP P [] ls.reverse) ls ∧ Has (addP P [] ls.reverse) ls ∧ ∃ E, (after L N ls).L = L ++ E := by
  have := intern_rep h.rep h.good h.nodup hl hR
  exact ⟨⟨this.2.2.2.1, this.1, this.2.2.2.2.1⟩, this.2.1, this.2.2.1, this.2.2.2.2.2⟩
theorem Res.fit {L L' : List ByteArray} {N N' : List Nd} {P P' : List Stk} {ls : List ByteArray} {id : Nat} {er : Int} (h : Res L N P ls id er L' N' P') (hf : Fit L N P) : Fit L' N' P' ∧ (∃ Q, P' = P ++ Q) ∧ ∃ E, L' = L ++ E := by
  cases h with
  | deep _ => exact ⟨hf, ⟨[], by simp⟩, ⟨[], by simp⟩⟩
  | full _ _ => exact ⟨hf, ⟨[], by simp⟩, ⟨[], by simp⟩⟩
  | ok hl hR => exact ⟨(hf.ok hl hR).1, addP_ext _ _ _, (hf.ok hl hR).2.2.2⟩
/-- Sets that only grow by new blocks. -/
def More (w : World) (T T' : Nat → Prop) : Prop := ∀ k, T' k → T k ∨ w.heap.size ≤ k
theorem intern_u {w : World} {T S : Nat → Prop} {tb fb : Nat} {L : List ByteArray} {N : List Nd} (P : List Stk) (h : St w T S tb fb L N) (hg : Good L N) (a : Option Addr) (n c : Nat) (ls : List ByteArray) (hr : SRow w a n ls) (hn : (n : Int) ≤ 9223372036854775806) (hc : n ≤ c) (hz : ∀ s ∈ ls, s.size ≤ maxLen)
    (hrT : ∀ b off, a = some ⟨b, off, none⟩ → n ≠ 0 → ¬ T b ∧ ¬ S b) :
    Calls Try.prog 14 #[.pointer (some ⟨fb, 0, none⟩), .slice a n c] w fun e w' => ∃ id er L' N' P', e = .returned (.tuple #[.int .i64 (id : Nat), .int .i64 er]) ∧ Res L N P ls id er L' N' P' ∧
      (∃ T' S', St w' T' S' tb fb L' N' ∧ More w T T' ∧ More w S S') ∧ But (fun k => T k ∨ S k) w w' := by
  by_cases hd : n ≤ 16
  · by_cases hR : Roomy L N.length (kn L N 0 ls.reverse).2.reverse
    · refine (intern_f h hg a n c ls hr hd hc hz hrT hR).mono ?_
      rintro e w' ⟨rfl, hT, hb⟩
      exact ⟨_, _, _, _, _, rfl, .ok (by rw [hr.len]; exact hd) hR, hT, hb⟩
    · refine (intern_full h a n c ls hr hd hc hz hR).mono ?_
      rintro e w' ⟨rfl, hb⟩
      exact ⟨_, _, _, _, _, rfl, .full (by rw [hr.len]; exact hd) hR, ⟨T, S, h.but (U := fun _ => False) (But.of_below hb) (fun _ _ e => e) (fun _ _ e => e), fun _ e => .inl e, fun _ e => .inl e⟩, But.of_below hb⟩
  · refine (intern_deep h a n c (by omega) (by omega)).mono ?_
    rintro e w' ⟨rfl, hb⟩
    exact ⟨_, _, _, _, _, rfl, .deep (by rw [hr.len]; omega), ⟨T, S, h.but (U := fun _ => False) (But.of_below hb) (fun _ _ e => e) (fun _ _ e => e), fun _ e => .inl e, fun _ e => .inl e⟩, But.of_below hb⟩
theorem tab_new (w : World) : Tab (w.alloc (.cells #[.slice none 0 0, .map none, .int .i64 0] 60)) w.heap.size (fun k => k = w.heap.size) [] (.slice none 0 0) (.map none) :=
  ⟨heap_alloc_new w _, World.ownsRow_nil _ _ _ _, .inl ⟨rfl, rfl⟩, rfl, by simp [Value.ownBlock], by simp, by simp, by simp, by simp [total]⟩
/-- A new table and a new forest over it. -/
theorem st_new {w w' : World} {v : Value} {mb : Nat} (hF : Frs w' ((w.alloc (.cells #[.slice none 0 0, .map none, .int .i64 0] 60)).heap.size + 1) w.heap.size (fun k => (w.alloc (.cells #[.slice none 0 0, .map none, .int .i64 0] 60)).heap.size ≤ k ∧ k < w'.heap.size) [] v mb)
    (hb : Below (w.alloc (.cells #[.slice none 0 0, .map none, .int .i64 0] 60)).heap.size (w.alloc (.cells #[.slice none 0 0, .map none, .int .i64 0] 60)) w') :
    St w' (fun k => k = w.heap.size) (fun k => w.heap.size + 1 ≤ k ∧ k < w'.heap.size) w.heap.size (w.heap.size + 2) [] [] ∧ Below w.heap.size w w' := by
  have hsz := hb.size
  have ht := (tab_new w).kept (T := fun _ => False) (But.of_below hb) (fun _ _ e => e)
  rw [World.size_alloc] at hF hb hsz
  refine ⟨⟨⟨_, _, _, _, ht, hF⟩, ?_, ?_, ?_⟩, ?_⟩
  · rintro k rfl; omega
  · rintro k rfl; omega
  · intro k hk; exact hk.2
  · exact ((Below.refl _ w).alloc (Nat.le_refl _) _).trans (hb.mono (Nat.le_succ _))
def sMain : ByteArray := ⟨#[109, 97, 105, 110]⟩
def sF : ByteArray := ⟨#[102]⟩
def sG : ByteArray := ⟨#[103]⟩
theorem left1 : left [] [] [sF, sMain] = (0, [sMain, sF]) := rfl
theorem after1 : after [] [] [sF, sMain] = ⟨[sMain, sF], [(0, 0), (1, 1)], 2⟩ := by kernel_rfl
theorem left2 : left [sMain, sF] [(0, 0), (1, 1)] [sG, sMain] = (1, [sG]) := by kernel_rfl
theorem after2 : after [sMain, sF] [(0, 0), (1, 1)] [sG, sMain] = ⟨[sMain, sF, sG], [(0, 0), (1, 1), (1, 2)], 3⟩ := by kernel_rfl
theorem roomy1 : Roomy [] 0 (left [] [] [sF, sMain]).2.reverse := by
  have e : newS [] (left [] [] [sF, sMain]).2.reverse = [sF, sMain] := rfl
  refine ⟨?_, ?_, ?_, ?_⟩
  · rw [e]; intro t ht; simp at ht; rcases ht with rfl | rfl <;> decide
  · rw [e]; decide
  · rw [e]; decide
  · decide
theorem roomy2 : Roomy [sMain, sF] 2 (left [sMain, sF] [(0, 0), (1, 1)] [sG, sMain]).2.reverse := by
  have e : newS [sMain, sF] (left [sMain, sF] [(0, 0), (1, 1)] [sG, sMain]).2.reverse = [sG] := rfl
  refine ⟨?_, ?_, ?_, ?_⟩
  · rw [e]; intro t ht; simp at ht; subst ht; decide
  · rw [e]; decide
  · rw [e]; decide
  · decide
theorem row_two (w : World) (x y : ByteArray) : SRow (w.alloc (.cells #[.string x, .string y] 9)) (some ⟨w.heap.size, 0, none⟩) 2 [x, y] := by
  refine ⟨rfl, .inr ⟨_, _, rfl, fun i hi => ?_⟩⟩
  rw [cell_of_row _ _ (0 + i) _ 9 (0, 0) (heap_alloc_new w _)]
  match i, hi with
  | 0, _ => rfl
  | 1, _ => rfl
theorem res1 {id : Nat} {er : Int} {L' : List ByteArray} {N' : List Nd} {P P' : List Stk} (h : Res [] [] P [sF, sMain] id er L' N' P') : id = 2 ∧ er = 0 ∧ L' = [sMain, sF] ∧ N' = [(0, 0), (1, 1)] := by
  cases h with
  | deep h => simp at h
  | full _ h => exact absurd roomy1 h
  | ok _ _ => rw [after1]; exact ⟨rfl, rfl, rfl, rfl⟩
theorem res2 {id : Nat} {er : Int} {L' : List ByteArray} {N' : List Nd} {P P' : List Stk} (h : Res [sMain, sF] [(0, 0), (1, 1)] P [sG, sMain] id er L' N' P') : id = 3 ∧ er = 0 ∧ L' = [sMain, sF, sG] ∧ N' = [(0, 0), (1, 1), (1, 2)] := by
  cases h with
  | deep h => simp at h
  | full _ h => exact absurd roomy2 h
  | ok _ _ => rw [after2]; exact ⟨rfl, rfl, rfl, rfl⟩
theorem Res.num {L L' : List ByteArray} {N N' : List Nd} {P P' : List Stk} {ls : List ByteArray} {id : Nat} {er : Int} (h : Res L N P ls id er L' N' P') (hf : Fit L N P) (he : er = 0) : id = Ytjpccaeojimlfaa.num P' ls ∧ Has P' ls := by
  cases h with
  | deep _ => cases he
  | full _ _ => cases he
  | ok hl hR => exact ⟨(hf.ok hl hR).2.1, (hf.ok hl hR).2.2.1⟩
/-- Two frames written down. -/
theorem pair_call {w : World} {T S : Nat → Prop} {tb fb : Nat} {L : List ByteArray} {N : List Nd} (P : List Stk) (h : St w T S tb fb L N) (hg : Good L N) (x y : ByteArray) (hx : x.size ≤ maxLen) (hy : y.size ≤ maxLen) :
    Calls Try.prog 14 #[.pointer (some ⟨fb, 0, none⟩), .slice (some ⟨w.heap.size, 0, none⟩) 2 2] (w.alloc (.cells #[.string x, .string y] 9)) fun e w' => ∃ id er L' N' P', e = .returned (.tuple #[.int .i64 (id : Nat), .int .i64 er]) ∧ Res L N P [x, y] id er L' N' P' ∧
      (∃ T' S', St w' T' S' tb fb L' N' ∧ More w T T' ∧ More w S S') ∧ But (fun k => T k ∨ S k) w w' := by
  have b3 : But (fun _ => False) w (w.alloc (.cells #[.string x, .string y] 9)) := (But.refl _ _).alloc _
  refine (intern_u P (h.but b3 (fun _ _ e => e) (fun _ _ e => e)) hg (some ⟨w.heap.size, 0, none⟩) 2 2 [x, y] (row_two w x y) (by omega) (Nat.le_refl _) (by intro s hs; simp at hs; rcases hs with rfl | rfl <;> assumption) (by
    intro b off e _
    cases e
    exact ⟨fun e => by have := h.tlt _ e; omega, fun e => by have := h.slt _ e; omega⟩)).mono ?_
  rintro e w' ⟨id, er, L', N', P', he, hres, ⟨T', S', hst, h1, h2⟩, hb⟩
  refine ⟨id, er, L', N', P', he, hres, ⟨T', S', hst, fun k hk => (h1 k hk).imp (fun e => e) (fun e => ?_), fun k hk => (h2 k hk).imp (fun e => e) (fun e => ?_)⟩, (b3.mono (fun _ e => e.elim)).trans hb (fun _ _ e => e)⟩
  · rw [World.size_alloc] at e; omega
  · rw [World.size_alloc] at e; omega
theorem But.beyond {U : Nat → Prop} {w0 w w' : World} (h : But U w w') (hb : Below w0.heap.size w0 w) (hU : ∀ k, U k → w0.heap.size ≤ k) : Below w0.heap.size w0 w' := hb.trans (h.below hb.size hU)
theorem row_own {w : World} {base : Nat} {v : Value} {L : List ByteArray} (h : w.ownsRow base 9 1 v L.length (L.map Value.string)) : ∃ a c, v = .slice a L.length c ∧ SRow w a L.length L ∧ L.length ≤ c := by
  rcases h.2 with ⟨hv, h0⟩ | ⟨g, cap, cur, hv, hb, hg, hn, hm, hs, ht⟩
  · exact ⟨none, 0, by rw [hv, h0], ⟨rfl, .inl h0⟩, by omega⟩
  · subst hv; exact ⟨_, cap, rfl, SRow.of_own h, hn⟩
set_option maxRecDepth 4000 in
theorem awake_any (w : World) : Calls Try.prog 9 #[] w fun e w' => e = .returned (.bool true) ∧ Below w.heap.size w w' := by
  have HN : Hid _ := hide (new_any w)
  go_enter Try.func9, Try.ntmps9
  go_wp2_with fail
  refine HN.out.mono ?_
  rintro e w1 ⟨rfl, hw1⟩
  have HF : Hid _ := hide (new_f w.heap.size w1)
  have HW1 : Hid _ := hide hw1
  clear hw1
  go_wp2_with fail
  refine HF.out.mono ?_
  rintro e w2 ⟨rfl, ⟨v, mb, hF⟩, hb⟩
  have hst : St w2 (fun k => k = w.heap.size) (fun k => w.heap.size + 1 ≤ k ∧ k < w2.heap.size) w.heap.size (w1.heap.size + 1) [] [] ∧ Below w.heap.size w w2 := by
    rw [HW1.out] at hF hb ⊢; have := st_new hF hb; rw [World.size_alloc]; exact this
  obtain ⟨T, hT⟩ : ∃ T : Nat → Prop, T = fun k => k = w.heap.size := ⟨_, rfl⟩
  obtain ⟨S, hS⟩ : ∃ S : Nat → Prop, S = fun k => w.heap.size + 1 ≤ k ∧ k < w2.heap.size := ⟨_, rfl⟩
  have HTS : Hid (∀ k, T k ∨ S k → w.heap.size ≤ k) := hide (by intro k hk; rw [hT, hS] at hk; omega)
  rw [← hT, ← hS] at hst
  generalize w1.heap.size + 1 = fb at hst ⊢
  have H2 : Hid _ := hide hst.1
  have B2 : Hid (Below w.heap.size w w2) := hst.2
  have HI : Hid _ := hide (pair_call [] hst.1 Fit.nil.good sF sMain (by decide) (by decide))
  clear hF hb hst HF hT hS
  unfold sF sMain at HI
  go_wp2_with fail
  refine HI.out.mono ?_
  rintro e w3 ⟨id, er, L1, N1, P1, rfl, hres, ⟨T1, S1, hst, h1, h2⟩, hb⟩
  have hfit := hres.fit Fit.nil
  have hrn := hres.num Fit.nil (res1 hres).2.1
  obtain ⟨rfl, rfl, rfl, rfl⟩ := res1 hres
  have HF1 : Hid _ := hide hfit.1
  have HR1 : Hid (num P1 [sF, sMain] = 2 ∧ Has P1 [sF, sMain]) := ⟨hrn.1.symm, hrn.2⟩
  clear hrn
  have B3 : Hid (Below w.heap.size w w3) := hide (hb.beyond B2.out HTS.out)
  have HTS1 : Hid (∀ k, T1 k ∨ S1 k → w.heap.size ≤ k) := hide (by
    have := B2.out.size
    rintro k (hk | hk)
    · rcases h1 k hk with e | e
      · exact HTS.out k (.inl e)
      · omega
    · rcases h2 k hk with e | e
      · exact HTS.out k (.inr e)
      · omega)
  have H3 : Hid _ := hide hst
  have HI2 : Hid _ := hide (pair_call P1 hst hfit.1.good sG sMain (by decide) (by decide))
  clear hfit h1 h2 hb hst hres
  unfold sG sMain at HI2
  go_wp2_with fail
  refine HI2.out.mono ?_
  rintro e w4 ⟨id, er, L2, N2, P2, rfl, hres, ⟨T2, S2, hst, h1, h2⟩, hb⟩
  have hfit := hres.fit HF1.out
  obtain ⟨rfl, rfl, rfl, rfl⟩ := res2 hres
  have HF2 : Hid _ := hide hfit.1
  have HX2 : Hid (stkP P2 2 = [sF, sMain]) := hide (by
    obtain ⟨Q, hQ⟩ := hfit.2.1
    have := stkP_num (P := P2) (t := [sF, sMain]) (HR1.out.2.imp (fun e => e) (fun e => by rw [hQ]; simp [e]))
    rwa [hQ, num_append HR1.out.2, HR1.out.1, ← hQ] at this)
  have B4 : Hid (Below w.heap.size w w4) := hide (hb.beyond B3.out HTS1.out)
  have H4 : Hid _ := hide hst
  have HS : Hid _ := hide (stack_in hst hfit.1.rep 2 (by simp))
  clear hfit h1 h2 hb hst hres
  go_wp2_with fail
  refine HS.out.mono ?_
  rintro e w5 ⟨v5, rfl, ho5, hb5⟩
  rw [HX2.out] at ho5
  obtain ⟨a5, c5, rfl, hr5, _⟩ := row_own ho5
  have H5 := H4.out.but (U := fun _ => False) (But.of_below hb5) (fun _ _ e => e) (fun _ _ e => e)
  have B5 : Hid (Below w.heap.size w w5) := hide (B4.out.trans (hb5.mono B4.out.size))
  obtain ⟨tv, tm, v, mb, hT5, hF5⟩ := H5.both
  have t0 := hT5.cell0
  have f1 := hF5.cell1
  obtain ⟨ta, tc, rfl⟩ := own_form hT5.own
  obtain ⟨fa, fc, rfl⟩ := own_form hF5.own
  have HL1 : Hid _ := hide (len_f fb _ fc fa w5 f1)
  have HL2 : Hid _ := hide (len_any w.heap.size _ tc ta w5 t0)
  have HNn : Hid (∀ e, Calls Try.prog 15 #[.int .i64 e] w5 fun x w' => x = .returned (.int .i64 e) ∧ w' = w5) := hide (fun e => num_any e w5)
  have HR5 : Hid _ := hide hr5
  obtain ⟨W6, hW6⟩ : ∃ W6, W6 = w5.alloc (.cells #[.string sF, .string sMain] 9) := ⟨_, rfl⟩
  have HT6 : Hid _ := hide (texts_any a5 (some ⟨w5.heap.size, 0, none⟩) 2 c5 2 2 [sF, sMain] [sF, sMain] W6 (by rw [hW6]; exact hr5.but (T := fun _ => False) ((But.refl _ _).alloc _) (fun _ _ _ _ e => e)) (by rw [hW6]; exact row_two _ _ _) (by omega))
  have HB6 : Hid (Below w.heap.size w W6) := hide (by rw [hW6]; exact B5.out.alloc B5.out.size _)
  unfold sF sMain at hW6
  rw [eqB_self] at HT6
  clear ho5 hb5 hr5 H5 hT5 hF5 t0 f1
  simp only [List.length_cons, List.length_nil, Nat.zero_add, Nat.reduceAdd] at HL1 HL2 ⊢
  go_wp2_with (first
    | (go_at_call 15; refine (HNn.out _).mono ?_; rintro _ _ ⟨rfl, hh⟩; rw [hh]; clear hh)
    | (go_at_call 16; refine HL1.out.mono ?_; rintro _ _ ⟨rfl, hh⟩; rw [hh]; clear hh)
    | (go_at_call 12; refine HL2.out.mono ?_; rintro _ _ ⟨rfl, hh⟩; rw [hh]; clear hh)
    | (go_at_call 19; rw [← hW6]; refine HT6.out.mono ?_; rintro _ w7 ⟨rfl, j, hj⟩; have HJ : Hid _ := hide hj; clear hj hW6)
    | fail)
  go_ret
  refine ⟨rfl, ?_⟩
  rw [HJ.out]
  exact below_drewN HB6.out j
end Go.Proofs.Ytjpccaeojimlfaa
