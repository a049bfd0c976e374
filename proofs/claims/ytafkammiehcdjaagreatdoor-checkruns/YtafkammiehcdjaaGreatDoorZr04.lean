import Derived.Test.YtafkammiehcdjaaGreatDoorZr03
import Derived.Test.YtafkammiehcdjaaGreatDoorRows
import Derived.WalkKit
import Derived.WalkLawsBesides
import Derived.BigQuiet
import Derived.Deep.QuietTactic
import Derived.WalkSpells
import Derived.WalkSmall
import Derived.Maps.OwnSet
import Derived.Maps.OwnOps
import Derived.Maps.AppendAt
import Derived.Laws.AppendOwnNone
import Derived.KernelRfl
/-
  The reason, told by counts over the events that came: channels and all others; the whole.
-/
namespace Go.Proofs.YtafkammiehcdjaaGreatDoor
set_option linter.unusedSimpArgs false
def ofCh (T : List Me) (e : Me) : Int :=
  match roomT T e.o with
  | none => if e.k = 9 then 0 else 14
  | some c =>
    if e.k = 9 then 13
    else if 0 < cnA T 13 e.o ∧ (e.k = 10 ∨ e.k = 13) then 15
    else if e.k = 10 ∧ 1 ≤ c ∧ c ≤ (cnA T 10 e.o : Int) - cnT T 12 e.o 1 then 16
    else if e.k = 12 ∧ e.a = 1 ∧ cnA T 10 e.o ≤ cnT T 12 e.o 1 then 17
    else if e.k = 12 ∧ e.a = 0 ∧ ¬ 0 < cnA T 13 e.o then 18
    else if e.k = 12 ∧ e.a = 0 ∧ cnT T 12 e.o 1 < cnA T 10 e.o then 19
    else if e.k = 13 ∧ c = 0 ∧ cnT T 12 e.o 1 < cnA T 10 e.o then 20
    else if e.k = 11 then match dueT T e.g with
      | none => 21
      | some d => if (cnT T 12 e.o 1 : Int) < d.2 then 22 else 0
    else 0
def ovl (e : Me) (o a : Int) : Bool := decide (o ≤ e.o + (e.a - 1) ∧ e.o ≤ o + (a - 1))
def ofOt (T : List Me) (e : Me) : Int :=
  if e.k = 14 then if cnZ T e.o + mzag e.a < 0 ∨ 2147483647 < cnZ T e.o + mzag e.a then 23 else 0
  else if e.k = 15 then if cnZ T e.o = 0 then 0 else 24
  else if e.k = 16 then if e.a = 1 ∧ 0 < cnT T 16 e.o 1 then 25 else if e.a = 0 ∧ ¬ 0 < cnT T 16 e.o 1 then 26 else 0
  else if e.k = 20 then if lvAny (ovl e) T then 27 else 0
  else if e.k = 21 then if lvAny (fun o a => decide (o = e.o ∧ a = e.a)) T then 0 else 28
  else 0
section
variable {T : List Me} {M : CS} {e : Me} {r : Gor} {k o a x g : Int}
/-- No more is received than was sent. -/
structure LkV (T : List Me) : Prop where
  le : ∀ o, cnT T 12 o 1 ≤ cnA T 10 o
theorem ask_recv (h : M.ask e r = 0) (hk : e.k = 12) (ha : e.a = 1) {c : Chn} (hc : M.chans e.o = some c) : c.inside ≠ 0 := by
  unfold CS.ask CS.askChan at h
  simp [hk, hc, ha] at h
  exact h
theorem LkV.step (h : LkV T) (hC : LkC T M) (hc : Can M e r) : LkV (T ++ [e]) := by
  refine ⟨fun o => ?_⟩
  have h0 := h.le o
  rw [cnT_snoc, cnA_snoc]
  by_cases h1 : e.k = 12 ∧ e.o = o ∧ e.a = 1
  · obtain ⟨k1, rfl, k3⟩ := h1
    have hq := ask_chan hc.ask (by omega) (by omega)
    have hcc := hC.ch e.o
    cases hr : roomT T e.o with
    | none => rw [hr] at hcc; have := hq.2 hcc; omega
    | some c =>
      rw [hr] at hcc
      have hi := ask_recv hc.ask k1 k3 hcc
      simp only [Chn.inside] at hi
      rw [if_pos ⟨k1, rfl, k3⟩]
      split <;> omega
  · rw [if_neg h1]
    split <;> omega
theorem Rch.lkV (h : Rch T M) : LkV T := by
  induction h with
  | new => exact ⟨fun _ => Nat.le_refl _⟩
  | step h0 hg hw ih => obtain ⟨r, hc⟩ := why_can hw; exact ih.step h0.lkC hc
theorem ofCh_eq (hC : LkC T M) (hV : LkV T) (hD : LkD T M) (hg : Gdm e) (hr : M.gs e.g = some r) (hk : 9 ≤ e.k ∧ e.k ≤ 13) : M.askChan e r = ofCh T e := by
  have hcc := hC.ch e.o
  have hle := hV.le e.o
  unfold CS.askChan ofCh
  cases hq : roomT T e.o with
  | none =>
    rw [hq] at hcc
    rw [hcc]
    rfl
  | some c =>
    rw [hq] at hcc
    rw [hcc]
    have hd := hD.du _ _ hr
    simp only [Option.map_some, Chn.inside]
    generalize cnA T 10 e.o = s at *
    generalize cnT T 12 e.o 1 = v at *
    generalize cnA T 13 e.o = q at *
    have : e.k = 9 ∨ e.k = 10 ∨ e.k = 11 ∨ e.k = 12 ∨ e.k = 13 := by omega
    rcases this with h1 | h1 | h1 | h1 | h1
    · simp [h1]
    · by_cases h2 : 0 < q
      · simp [h1, h2]
      · by_cases h3 : 0 < c ∧ c ≤ (s : Int) - v
        · have h4 : 1 ≤ c ∧ c ≤ (s : Int) - v := ⟨by omega, h3.2⟩
          simp [h1, h2, h3, h4]
        · have h4 : ¬ (1 ≤ c ∧ c ≤ (s : Int) - v) := fun q => h3 ⟨by omega, q.2⟩
          simp only [h1, h2]
          simp
          split
          · rename_i h9; exact absurd h9 h4
          · exact if_neg h3
    · rw [hd]
      by_cases h2 : 0 < r.as_
      · by_cases h3 : (v : Int) < r.as_
        · simp [h1, h2, h3]
        · simp [h1, h2, h3]
      · simp [h1, h2]
    · rcases hg.rc h1 with h2 | h2
      · by_cases h3 : 0 < q
        · by_cases h4 : v < s
          · have h5 : 0 < (s : Int) - v := by omega
            simp [h1, h2, h3, h4, h5]
          · have h5 : ¬ 0 < (s : Int) - v := by omega
            simp [h1, h2, h3, h4, h5]
        · simp [h1, h2, h3]
      · by_cases h4 : s ≤ v
        · have h5 : (s : Int) - v = 0 := by omega
          simp [h1, h2, h4, h5]
        · have h5 : ¬ (s : Int) - v = 0 := by omega
          simp [h1, h2, h4, h5]
    · by_cases h2 : 0 < q
      · simp [h1, h2]
      · by_cases h3 : c = 0 ∧ 0 < (s : Int) - v
        · have h4 : c = 0 ∧ v < s := ⟨h3.1, by omega⟩
          simp only [h1, if_pos h3, if_pos h4, h2]
          simp [h4]
        · have h4 : ¬ (c = 0 ∧ v < s) := fun q => h3 ⟨q.1, by omega⟩
          simp only [h1, if_neg h3, if_neg h4, h2]
          simp
theorem lvR_snoc (R : List Me) (x : Me) (o a : Int) : lvR (R ++ [x]) o a = (lvR R o a || (decide (x.k = 20 ∧ x.o = o ∧ x.a = a) && !(R.any fun y => decide (y.k = 21 ∧ y.o = o ∧ y.a = a)))) := by
  induction R with
  | nil =>
    by_cases h : x.k = 20 ∧ x.o = o ∧ x.a = a
    · simp [lvR, h]
    · simp [lvR, h]
  | cons y R ih =>
    rw [List.cons_append, lvR, lvR, ih]
    by_cases h1 : y.k = 20 ∧ y.o = o ∧ y.a = a
    · simp [h1]
    · by_cases h2 : y.k = 21 ∧ y.o = o ∧ y.a = a
      · simp [h2]
      · rw [if_neg h1, if_neg h2, if_neg h1, if_neg h2, List.any_cons, decide_eq_false h2, Bool.false_or]
theorem lvT_cons (x : Me) (o a : Int) : lvT (x :: T) o a = (lvT T o a || (decide (x.k = 20 ∧ x.o = o ∧ x.a = a) && !(T.any fun y => decide (y.k = 21 ∧ y.o = o ∧ y.a = a)))) := by
  unfold lvT
  rw [List.reverse_cons, lvR_snoc, List.any_reverse]
theorem lvAny_iff (p : Int → Int → Bool) : lvAny p T = true ↔ ∃ o a, lvT T o a = true ∧ p o a = true := by
  induction T with
  | nil => exact ⟨fun h => (by cases h), fun ⟨_, _, h, _⟩ => (by cases h)⟩
  | cons x T ih =>
    rw [lvAny, Bool.or_eq_true, ih]
    constructor
    · rintro (h | ⟨o, a, h1, h2⟩)
      · rw [Bool.and_eq_true, Bool.and_eq_true] at h
        refine ⟨x.o, x.a, ?_, h.2⟩
        rw [lvT_cons, Bool.or_eq_true, Bool.and_eq_true]
        exact .inr ⟨decide_eq_true ⟨of_decide_eq_true h.1.1, rfl, rfl⟩, h.1.2⟩
      · exact ⟨o, a, by rw [lvT_cons, h1]; rfl, h2⟩
    · rintro ⟨o, a, h1, h2⟩
      rw [lvT_cons, Bool.or_eq_true, Bool.and_eq_true] at h1
      rcases h1 with h1 | ⟨h3, h4⟩
      · exact .inr ⟨o, a, h1, h2⟩
      · obtain ⟨k1, rfl, rfl⟩ := of_decide_eq_true h3
        refine .inl ?_
        rw [Bool.and_eq_true, Bool.and_eq_true]
        exact ⟨⟨decide_eq_true k1, h4⟩, h2⟩
theorem ofOt_eq (hO : LkO T M) (hA : LkA T M) : M.askOther e = ofOt T e := by
  unfold CS.askOther ofOt
  rw [hO.ct, hO.on]
  by_cases h14 : e.k = 14
  · simp [h14]
  by_cases h15 : e.k = 15
  · simp [h15]
  by_cases h16 : e.k = 16
  · simp [h16]
  by_cases h20 : e.k = 20
  · have ho := hA.over e.o e.a
    have hl : lvAny (ovl e) T = true ↔ ∃ p, nxt e.o M.mem = some p ∧ p.2 ≤ e.o + (e.a - 1) := by
      rw [lvAny_iff, ho]
      constructor
      · rintro ⟨o, a, h1, h2⟩; exact ⟨o, a, h1, of_decide_eq_true h2⟩
      · rintro ⟨o, a, h1, h2⟩; exact ⟨o, a, h1, decide_eq_true h2⟩
    simp only [h20]
    simp
    cases hn : nxt e.o M.mem with
    | none =>
      have : lvAny (ovl e) T = false := by
        cases h9 : lvAny (ovl e) T with
        | false => rfl
        | true => obtain ⟨p, hp, _⟩ := hl.1 h9; rw [hn] at hp; cases hp
      simp [this]
    | some p =>
      by_cases hp : p.2 ≤ e.o + (e.a - 1)
      · have := hl.2 ⟨p, hn, hp⟩
        simp [this, hp]
      · have : lvAny (ovl e) T = false := by
          cases h9 : lvAny (ovl e) T with
          | false => rfl
          | true => obtain ⟨q, hq, h8⟩ := hl.1 h9; rw [hn] at hq; cases hq; exact absurd h8 hp
        simp [this, hp]
  by_cases h21 : e.k = 21
  · have hf := hA.free e.o e.a
    have hl : lvAny (fun o a => decide (o = e.o ∧ a = e.a)) T = true ↔ nxt (e.o + (e.a - 1)) M.mem = some (e.o + (e.a - 1), e.o) := by
      rw [lvAny_iff, hf]
      constructor
      · rintro ⟨o, a, h1, h2⟩
        obtain ⟨rfl, rfl⟩ := of_decide_eq_true h2
        exact h1
      · intro h1; exact ⟨e.o, e.a, h1, decide_eq_true ⟨rfl, rfl⟩⟩
    simp only [if_neg h14, if_neg h15, if_neg h16, if_neg h20, if_pos h21]
    by_cases hn : nxt (e.o + (e.a - 1)) M.mem = some (e.o + (e.a - 1), e.o)
    · rw [if_pos hn, if_pos (hl.2 hn)]
    · rw [if_neg hn, if_neg (fun q => hn (hl.1 q))]
  simp [h14, h15, h16, h20, h21]
/-- The reason by counts. -/
def rsn (T : List Me) (e : Me) : Int :=
  if bgT T e.g = false then 1
  else if nmd T 8 e.g then 2
  else if (match dueT T e.g with
    | none => false
    | some d => decide (e.k ≠ 11 ∨ e.o ≠ d.1)) then 3
  else if 3 ≤ e.k ∧ e.k ≤ 6 then ofLk T e
  else if e.k = 7 ∨ e.k = 8 then ofGr T e
  else if 9 ≤ e.k ∧ e.k ≤ 13 then ofCh T e
  else ofOt T e
theorem ask_rsn (hL : LkL T M) (hG : LkG T M) (hD : LkD T M) (hC : LkC T M) (hV : LkV T) (hO : LkO T M) (hA : LkA T M) (hg : Gdm e) (hr : M.gs e.g = some r) : M.ask e r = if 3 ≤ e.k ∧ e.k ≤ 6 then ofLk T e else if e.k = 7 ∨ e.k = 8 then ofGr T e else if 9 ≤ e.k ∧ e.k ≤ 13 then ofCh T e else ofOt T e := by
  unfold CS.ask
  by_cases h1 : 3 ≤ e.k ∧ e.k ≤ 6
  · rw [if_pos h1, if_pos h1, ofLk_eq hL hr h1]
  · rw [if_neg h1, if_neg h1]
    by_cases h2 : e.k = 7 ∨ e.k = 8
    · rw [if_pos h2, if_pos (by omega), ofGr_eq hG hD h2]
    · rw [if_neg h2]
      have h3 : ¬ (7 ≤ e.k ∧ e.k ≤ 8) := by omega
      rw [if_neg h3]
      by_cases h4 : 9 ≤ e.k ∧ e.k ≤ 13
      · rw [if_pos h4, if_pos h4, ofCh_eq hC hV hD hg hr h4]
      · rw [if_neg h4, if_neg h4, ofOt_eq hO hA]
theorem why_rsn (hL : LkL T M) (hG : LkG T M) (hD : LkD T M) (hC : LkC T M) (hV : LkV T) (hO : LkO T M) (hA : LkA T M) (hg : Gdm e) : M.why e = rsn T e := by
  unfold CS.why rsn
  have hb := hG.bg e.g
  cases hr : M.gs e.g with
  | none =>
    rw [hr] at hb
    have hb2 : bgT T e.g = false := hb.symm
    rw [if_pos hb2]
  | some r =>
    rw [hr] at hb
    have hb2 : bgT T e.g = true := hb.symm
    rw [if_neg (by rw [hb2]; decide)]
    have ha := hG.al e.g
    rw [hb2, Bool.true_and] at ha
    have hd := hD.du _ _ hr
    have hk := ask_rsn hL hG hD hC hV hO hA hg hr
    have hact : M.act e = if has e.g M.alive then if 0 < r.as_ ∧ (e.k ≠ 11 ∨ e.o ≠ r.to) then 3 else 0 else 2 := by unfold CS.act; rw [hr]
    simp only
    cases hj : nmd T 8 e.g with
    | true =>
      rw [hj] at ha
      have ha2 : has e.g M.alive = false := ha
      rw [hact, ha2]
      simp
    | false =>
      rw [hj] at ha
      have ha2 : has e.g M.alive = true := ha
      rw [hact, ha2, hd]
      by_cases h1 : 0 < r.as_
      · by_cases h2 : e.k ≠ 11 ∨ e.o ≠ r.to
        · simp only [h1, h2]
          simp
          intro q1 q2
          rcases h2 with h2 | h2
          · exact absurd q1 h2
          · exact absurd q2 h2
        · have q1 : e.k = 11 := by omega
          have q2 : e.o = r.to := by omega
          rw [hk]
          simp [h1, q1, q2]
      · simp only [h1, hk]; simp
/-- The checker's reason is told by counts over the events that came. -/
theorem Rch.why (h : Rch T M) (hg : Gdm e) : M.why e = rsn T e := why_rsn h.lkL h.lkG h.lkD h.lkC h.lkV h.lkO h.lkA hg
end
end Go.Proofs.YtafkammiehcdjaaGreatDoor
/-
  A table of strings in memory; what a call leaves alone.
-/
namespace Go.Proofs.YtafkammiehcdjaaGreatDoor.E6
open Go.RowKit Go.Maps
theorem hide {p : Prop} (h : p) : Hid p := h

/-- What is not of S stays as it was. -/
structure But (S : Nat → Prop) (w w' : World) : Prop where
  os : w'.os = w.os
  tape : w'.tape = w.tape
  output : w'.output = w.output
  size : w.heap.size ≤ w'.heap.size
  block : ∀ k, k < w.heap.size → ¬ S k → w'.heap[k]? = w.heap[k]?
theorem But.refl (S : Nat → Prop) (w : World) : But S w w := ⟨rfl, rfl, rfl, Nat.le_refl _, fun _ _ _ => rfl⟩
theorem But.trans {S T : Nat → Prop} {a b c : World} (h : But S a b) (k : But T b c) (hT : ∀ i, i < a.heap.size → T i → S i) : But S a c :=
  ⟨k.os.trans h.os, k.tape.trans h.tape, k.output.trans h.output, Nat.le_trans h.size k.size,
    fun i hi hs => (k.block i (Nat.lt_of_lt_of_le hi h.size) (fun e => hs (hT i hi e))).trans (h.block i hi hs)⟩
theorem But.of_grown {S : Nat → Prop} {w w' : World} {row : Option Nat} (hg : w.grownBy w' row) (hS : ∀ k, row = some k → S k) : But S w w' :=
  ⟨hg.os, hg.tape, hg.output, hg.size, fun k hk hs => hg.block k hk (fun e => hs (hS k e.symm))⟩
theorem But.grown {S : Nat → Prop} {w : World} {a w' : World} {row : Option Nat} (h : But S a w) (hg : w.grownBy w' row) (hS : ∀ k, k < a.heap.size → row = some k → S k) : But S a w' :=
  h.trans (T := fun k => row = some k) (But.of_grown hg fun _ e => e) hS
theorem But.alloc {S : Nat → Prop} {a w : World} (h : But S a w) (o : Obj) : But S a (w.alloc o) :=
  h.trans (T := fun _ => False) ⟨rfl, rfl, rfl, by simp, fun k hk _ => Below.heap_alloc _ _ _ hk⟩ (fun _ _ e => e.elim)
theorem But.drew {S : Nat → Prop} {a w : World} (h : But S a w) : But S a w.drew := ⟨h.os, h.tape, h.output, h.size, h.block⟩
theorem But.setCell {S : Nat → Prop} {a w : World} (h : But S a w) (p : Addr) (hp : p.block < a.heap.size → S p.block) (u : Value) : But S a (w.setCell p u) :=
  h.trans (T := fun k => k = p.block) ⟨rfl, rfl, rfl, by simp [World.setCell], fun k _ hs => Below.heap_setCell _ _ _ _ hs⟩ (fun i hi e => by subst e; exact hp hi)
theorem But.below {S : Nat → Prop} {w w' : World} {B : Nat} (h : But S w w') (hB : B ≤ w.heap.size) (hS : ∀ k, S k → B ≤ k) : Below B w w' :=
  ⟨h.os, h.tape, h.output, h.size, fun k hk => h.block k (by omega) (fun e => by have := hS k e; omega)⟩
theorem But.of_below {S : Nat → Prop} {w w' : World} (h : Below w.heap.size w w') : But S w w' := ⟨h.os, h.tape, h.output, h.size, fun k hk _ => h.block k hk⟩
theorem But.mono {S T : Nat → Prop} {w w' : World} (h : But S w w') (hT : ∀ k, S k → T k) : But T w w' := ⟨h.os, h.tape, h.output, h.size, fun k hk hs => h.block k hk fun e => hs (hT k e)⟩
theorem own_but {S : Nat → Prop} {w w' : World} {base : Nat} {e : TypeId} {size n : Nat} {v : Value} {xs : List Value} (h : w.ownsRow base e size v n xs) (hb : But S w w') (hv : ∀ g, v.ownBlock = some g → ¬ S g) : w'.ownsRow base e size v n xs := by
  obtain ⟨h1, h2⟩ := h
  refine ⟨h1, h2.imp id ?_⟩
  rintro ⟨g, cap, cur, rfl, hg, hh, r⟩
  exact ⟨g, cap, cur, rfl, hg, (hb.block g (Array.getElem?_eq_some_iff.1 hh).1 (hv g rfl)).trans hh, r⟩
theorem map_but {S : Nat → Prop} {w w' : World} {H : Type} {P : Program} {k : TypeId} {R : Value → Option (DataW H × List MemPlace)} {b n : Nat} {D : DataW H} (h : w.ownsMap P k R b n D) (hb : But S w w') (hv : ¬ S b) : w'.ownsMap P k R b n D := by
  obtain ⟨es, cl, hh, r⟩ := h
  exact ⟨es, cl, (hb.block b (Array.getElem?_eq_some_iff.1 hh).1 hv).trans hh, r⟩

/-! ### the places of strings -/
def skey (s : ByteArray) : Lit := .string s.data.toList
theorem skey_inj {a b : ByteArray} (h : skey a = skey b) : a = b := by
  simp only [skey, Lit.string.injEq] at h
  cases a; cases b; simp only [ByteArray.mk.injEq]; exact Array.toList_inj.1 h
theorem skey_key (s : ByteArray) : WideAt.IsKeyLit (skey s) := by simp [skey, WideAt.IsKeyLit]
def isIn (L : List ByteArray) (s : ByteArray) : Bool := (L.map ByteArray.data).contains s.data
theorem isIn_iff {L : List ByteArray} {s : ByteArray} : isIn L s = true ↔ s ∈ L := by
  unfold isIn
  rw [List.contains_iff_mem, List.mem_map]
  constructor
  · rintro ⟨t, ht, e⟩
    cases t; cases s; subst e; exact ht
  · exact fun h => ⟨s, h, rfl⟩
theorem isIn_not {L : List ByteArray} {s : ByteArray} : isIn L s = false ↔ s ∉ L := by rw [← isIn_iff]; simp
theorem isIn_snoc (L : List ByteArray) (s : ByteArray) : isIn (L ++ [s]) s = true := isIn_iff.2 (by simp)
theorem isIn_snoc_ne (L : List ByteArray) {s t : ByteArray} (h : t ≠ s) : isIn (L ++ [s]) t = isIn L t := by
  rw [Bool.eq_iff_iff, isIn_iff, isIn_iff]; simp [h]
structure Ids (D : DataW Unit) (L : List ByteArray) : Prop where
  isMap : Maps.IsMap D
  has : ∀ s, Maps.has D (skey s) = isIn L s
  place : ∀ (i : Nat) s, L[i]? = some s → D.atKey (skey s) (.lit (.int .i64 0)) = .lit (.int .i64 (i : Int))
theorem Ids.nil : Ids (.map []) [] := ⟨Maps.isMap_empty, fun s => rfl, fun i s h => by simp at h⟩
theorem Ids.put {D : DataW Unit} {L : List ByteArray} (h : Ids D L) {s : ByteArray} (hs : s ∉ L) : Ids (D.put (skey s) (.lit (.int .i64 (L.length : Int)))) (L ++ [s]) := by
  refine ⟨h.isMap.put _ _, fun t => ?_, fun i t ht => ?_⟩
  · by_cases e : t = s
    · subst e; rw [Maps.has_put_same h.isMap (skey_key _), isIn_snoc]
    · rw [Maps.has_put_other (fun c => e (skey_inj c)), h.has t, isIn_snoc_ne L e]
  · by_cases e : t = s
    · subst e
      rw [Maps.atKey_put_same h.isMap (skey_key _)]
      by_cases hi : i < L.length
      · rw [List.getElem?_append_left hi] at ht
        exact absurd (List.mem_of_getElem? ht) hs
      · have : i < (L ++ [t]).length := (List.getElem?_eq_some_iff.1 ht).1
        simp at this
        have : i = L.length := by omega
        rw [this]
    · rw [Maps.atKey_put_other (fun c => e (skey_inj c))]
      refine h.place i t ?_
      by_cases hi : i < L.length
      · rwa [List.getElem?_append_left hi] at ht
      · rw [List.getElem?_append_right (by omega)] at ht
        have := List.mem_of_getElem? ht
        simp at this
        exact absurd this e

/-! ### the table -/
def total (L : List ByteArray) : Nat := (L.map ByteArray.size).sum
theorem total_snoc (L : List ByteArray) (s : ByteArray) : total (L ++ [s]) = total L + s.size := by simp [total]
theorem total_nil : total [] = 0 := rfl
structure Tab (w : World) (tb : Nat) (S : Nat → Prop) (L : List ByteArray) (v mv : Value) : Prop where
  blk : w.heap[tb]? = some (.cells #[v, mv, .int .i64 (total L : Nat)] 103 (0, 0))
  own : w.ownsRow 0 9 1 v L.length (L.map Value.string)
  ids : (mv = .map none ∧ L = []) ∨ ∃ mb D, mv = .map (some mb) ∧ S mb ∧ w.ownsMap Tryz.prog 9 (plainElem Tryz.prog 3) mb L.length D ∧ Ids D L
  inS : S tb
  rowS : ∀ g, v.ownBlock = some g → S g
  nodup : L.Nodup
  small : ∀ s ∈ L, s.size ≤ 65536
  len : L.length ≤ 65536
  sum : total L ≤ 4194304
section
variable {w : World} {tb : Nat} {S : Nat → Prop} {L : List ByteArray} {v mv : Value}
theorem Tab.kept {T : Nat → Prop} {w' : World} (h : Tab w tb S L v mv) (hb : But T w w') (hd : ∀ k, S k → ¬ T k) : Tab w' tb S L v mv :=
  ⟨(hb.block tb (Array.getElem?_eq_some_iff.1 h.blk).1 (hd _ h.inS)).trans h.blk, own_but h.own hb fun g e => hd g (h.rowS g e),
    h.ids.imp id fun ⟨mb, D, e, hs, hm, hi⟩ => ⟨mb, D, e, hs, map_but hm hb (hd _ hs), hi⟩, h.inS, h.rowS, h.nodup, h.small, h.len, h.sum⟩
theorem Tab.cell0 (h : Tab w tb S L v mv) : w.cell? ⟨tb, 0, none⟩ = some v := by rw [cell_of_row w tb 0 _ 103 (0, 0) h.blk]; rfl
theorem Tab.cell1 (h : Tab w tb S L v mv) : w.cell? ⟨tb, 1, none⟩ = some mv := by rw [cell_of_row w tb 1 _ 103 (0, 0) h.blk]; rfl
theorem Tab.cell2 (h : Tab w tb S L v mv) : w.cell? ⟨tb, 2, none⟩ = some (.int .i64 (total L : Nat)) := by rw [cell_of_row w tb 2 _ 103 (0, 0) h.blk]; rfl
theorem Tab.free (h : Tab w tb S L v mv) (j : Nat) : w.frozen? ⟨tb, j, none⟩ = false := frozen_of_row w tb j _ 103 h.blk
theorem Tab.lt (h : Tab w tb S L v mv) : tb < w.heap.size := (Array.getElem?_eq_some_iff.1 h.blk).1
end
theorem own_form {w : World} {base n : Nat} {e : TypeId} {size : Nat} {v : Value} {xs : List Value} (h : w.ownsRow base e size v n xs) : ∃ a c, v = .slice a n c := by
  rcases h.2 with ⟨rfl, rfl⟩ | ⟨g, cap, cur, rfl, _⟩
  · exact ⟨none, 0, rfl⟩
  · exact ⟨_, cap, rfl⟩
theorem law9 : Keyed Tryz.prog 9 := string_keyed Tryz.underlying9
theorem zero3 (w : World) : (zeroValue 3).run Tryz.prog w = .ok (.int .i64 0) w := by kernel_rfl
theorem key9 {s : ByteArray} (h : s.size ≤ maxLen) : keyOf Tryz.prog 9 (.string s) = some (skey s) := Go.WideMaps.keyOf_string_mk Tryz.underlying9 h
end Go.Proofs.YtafkammiehcdjaaGreatDoor.E6
