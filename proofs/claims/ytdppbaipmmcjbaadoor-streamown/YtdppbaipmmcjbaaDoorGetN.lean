/-
  What is read was written, what is written is read: plain mathematics.
-/
import Derived.Test.YtdppbaipmmcjbaaDoorGetB
namespace Go.Proofs.YtdppbaipmmcjbaaDoor
open Go.RowKit
/-- The bytes from a on, ahead of b. -/
def sl (zs : List Int) (a b : Nat) : List Int := (zs.drop a).take (b - a)
theorem sl_join (zs : List Int) {a b c : Nat} (h1 : a ≤ b) (h2 : b ≤ c) : sl zs a b ++ sl zs b c = sl zs a c := by
  unfold sl
  have e : zs.drop b = (zs.drop a).drop (b - a) := by rw [List.drop_drop]; congr 1; omega
  rw [e, show c - a = (b - a) + (c - b) by omega, List.take_add]
theorem sl_self (zs : List Int) (a : Nat) : sl zs a a = [] := by unfold sl; simp
theorem sl_one {zs : List Int} {t : Nat} (h : t < zs.length) : sl zs t (t + 1) = [zs.getD t 0] := by
  unfold sl
  rw [drop_cons h rfl, show t + 1 - t = 1 by omega]; rfl
theorem rd_place : ∀ (l : List Int) (p : Int) (k : Nat) (X : Int), (rd l p k X).2.2 = 0 → p < (rd l p k X).2.1 ∧ (rd l p k X).2.1 ≤ p + l.length
  | [], p, k, X => by simp [rd]
  | c :: r, p, k, X => by
    rw [rd]
    split
    · simp
    · split
      · intro h
        have := rd_place r (p + 1) (k + 1) _ h
        rw [List.length_cons]; omega
      · split
        · simp
        · intro _
          rw [List.length_cons]
          show p < p + 1 ∧ p + 1 ≤ _
          omega
theorem rdAt_place {zs : List Int} {t : Int} (h : (rdAt zs t).2.2 = 0) : 0 ≤ t ∧ t < (rdAt zs t).2.1 ∧ (rdAt zs t).2.1 ≤ zs.length := by
  unfold rdAt at h ⊢
  split at h
  · simp at h
  · rename_i hn
    rw [if_neg hn]
    have := rd_place _ _ _ _ h
    rw [List.length_drop] at this
    omega
theorem num_inv {zs : List Int} {p : Nat} {x q : Int} (hu : ∀ i : Nat, 0 ≤ zs[i]?.getD 0 ∧ zs[i]?.getD 0 ≤ 255) (h : rdAt zs p = (x, q, 0)) :
    ∃ qn : Nat, q = qn ∧ p < qn ∧ qn ≤ zs.length ∧ sl zs p qn = enc x.toNat ∧ 0 ≤ x ∧ x ≤ 18446744073709551615 := by
  have hb := rdAt_bd zs p hu
  have h0 : (rdAt zs p).2.2 = 0 := by rw [h]
  have hpl := rdAt_place h0
  rw [h] at hb hpl
  dsimp only at hb hpl
  obtain ⟨e, e2⟩ := rdAt_inv zs p x q hu h
  refine ⟨q.toNat, by omega, by omega, by omega, ?_, hb.1, hb.2.1⟩
  unfold sl
  rw [← e]; congr 1; omega
theorem step_zero (o : Int) (h0 : 0 ≤ o) (h1 : o ≤ 18446744073709551615) : step o 0 = o := by
  have := step_diff o o h0 h1
  rw [diff_self] at this; exact this
theorem step_ne {o d : Int} (hd0 : 0 ≤ d) (hd1 : d ≤ 18446744073709551615) (h : d ≠ 0) : step o d ≠ o := by
  intro e
  have := diff_step o d hd0 hd1
  rw [e, diff_self] at this
  exact h this.symm
theorem told_inv {b : Int} {f : Rc → Int → Ans} {x : Ans} {r : Rc} {p : Int} (h : told b f x = (r, p, 0)) : ∃ x1 p1, x = (x1, p1, 0) ∧ ((b = 0 ∧ r = x1 ∧ p = p1) ∨ (b ≠ 0 ∧ f x1 p1 = (r, p, 0) ∧ r ≠ x1)) := by
  obtain ⟨x1, p1, e⟩ := x
  unfold told at h
  split at h
  · rename_i he; exact absurd (by rw [h]) he
  · rename_i he
    have he' : e = 0 := by simpa using he
    subst he'
    refine ⟨x1, p1, rfl, ?_⟩
    split at h
    · rename_i hb; simp only [Prod.mk.injEq, and_true] at h; exact .inl ⟨hb, h.1.symm, h.2.symm⟩
    · rename_i hb
      split at h
      · rename_i hf; exact absurd (by simpa [bad] using congrArg (fun z => z.2.2) h) hf
      · split at h
        · exact absurd (congrArg (fun z => z.2.2) h) (by simp [bad])
        · rename_i hne; exact .inr ⟨hb, h, by intro e; rw [h] at hne; exact hne e⟩
theorem stack_cut {K x : Int} (hl : ¬ x < -K) (hh : ¬ 262144 - K < x) : wrap64 (K + x) = K + x ∧ 0 ≤ K + x ∧ K + x ≤ 262144 := by
  refine ⟨?_, by omega, by omega⟩
  unfold wrap64; omega
set_option maxHeartbeats 800000 in
/-- What is read was written so. -/
theorem read_inv {s : St} {zs : List Int} {t : Nat} {r : Rc} {p : Int} (hs : mayS s.stamp s.stack = true) (hso : s.ok) (hu : ∀ i : Nat, 0 ≤ zs[i]?.getD 0 ∧ zs[i]?.getD 0 ≤ 255) (ht : t ≤ zs.length) (h : readG s zs t = (r, p, 0)) :
    putE s r = 0 ∧ r.ok ∧ ∃ q : Nat, p = q ∧ t < q ∧ q ≤ zs.length ∧ sl zs t q = text s r := by
  have hm := of_decide_eq_true hs
  unfold readG at h
  split at h
  · exact absurd (congrArg (fun z => z.2.2) h) (by simp [bad])
  rename_i htl
  split at h
  · exact absurd (congrArg (fun z => z.2.2) h) (by simp [bad])
  rename_i hk0
  have hk : 1 ≤ zs.getD t 0 % 32 ∧ zs.getD t 0 % 32 ≤ 22 := by simpa using hk0
  split at h
  · rename_i hf; exact absurd (congrArg (fun z => z.2.2) h) (by simpa [bad] using hf)
  rename_i hf
  split at h
  · exact absurd (congrArg (fun z => z.2.2) h) (by simp [bad])
  rename_i hg
  have htl' : t < zs.length := by omega
  have hone := sl_one htl'
  have hz01 : 0 ≤ zs.getD t 0 ∧ zs.getD t 0 ≤ 255 := by simpa using hu t
  generalize zs.getD t 0 = z at h hk hone hz01
  generalize hrd : rdAt zs (t + 1) = rr at h hf hg
  obtain ⟨g, p0, f0⟩ := rr
  dsimp only at h hf hg
  have hf' : f0 = 0 := by simpa using hf
  subst hf'
  obtain ⟨n0, rfl, q1, q2, q3, q4, q5⟩ := num_inv (p := t + 1) hu (by exact_mod_cast hrd)
  obtain ⟨x2, p2, e2, hK⟩ := told_inv h
  obtain ⟨x1, p1, e1, hA⟩ := told_inv e2
  obtain ⟨x0, p00, e0, hO⟩ := told_inv e1
  cases e0
  -- the object
  obtain ⟨o1, n1, rfl, rfl, a1, a2, a3, a4, a5, a6⟩ : ∃ (o1 : Int) (n1 : Nat), x1 = ⟨s.stamp + g, z % 32, o1, 0, s.stack⟩ ∧ p1 = n1 ∧ n0 ≤ n1 ∧ n1 ≤ zs.length ∧ 0 ≤ o1 ∧ o1 ≤ 18446744073709551615 ∧ sl zs n0 n1 = (if o1 = s.obj then [] else enc (diff s.obj o1).toNat) ∧ (z / 32 % 2 * 32 = if o1 = s.obj then 0 else 32) := by
    rcases hO with ⟨hb, rfl, rfl⟩ | ⟨hb, hf, hne⟩
    · exact ⟨s.obj, n0, rfl, rfl, Nat.le_refl _, q2, hso.o0, hso.o1, by rw [sl_self, if_pos rfl], by rw [hb, if_pos rfl]; rfl⟩
    · generalize hd : rdAt zs n0 = dd at hf
      obtain ⟨d, pd, fd⟩ := dd
      simp only [pO, hd, Prod.mk.injEq] at hf
      obtain ⟨rfl, rfl, rfl⟩ := hf
      obtain ⟨n1, rfl, b1, b2, b3, b4, b5⟩ := num_inv hu hd
      have hd0 : d ≠ 0 := by
        intro e; subst e
        apply hne; rw [step_zero _ hso.o0 hso.o1]
      have hno := step_ne (o := s.obj) b4 b5 hd0
      exact ⟨step s.obj d, n1, rfl, rfl, by omega, b2, (step_bd _ _).1, (step_bd _ _).2, by rw [if_neg hno, diff_step _ _ b4 b5]; exact b3, by rw [if_neg hno]; omega⟩
  -- the argument
  obtain ⟨av, n2, rfl, rfl, c1, c2, c3, c4, c5, c6⟩ : ∃ (av : Int) (n2 : Nat), x2 = ⟨s.stamp + g, z % 32, o1, av, s.stack⟩ ∧ p2 = n2 ∧ n1 ≤ n2 ∧ n2 ≤ zs.length ∧ 0 ≤ av ∧ av ≤ 18446744073709551615 ∧ sl zs n1 n2 = (if av = 0 then [] else enc av.toNat) ∧ (z / 64 % 2 * 64 = if av = 0 then 0 else 64) := by
    rcases hA with ⟨hb, rfl, rfl⟩ | ⟨hb, hf, hne⟩
    · exact ⟨0, n1, rfl, rfl, Nat.le_refl _, a2, by omega, by omega, by rw [sl_self, if_pos rfl], by rw [hb, if_pos rfl]; rfl⟩
    · generalize hd : rdAt zs n1 = dd at hf
      obtain ⟨d, pd, fd⟩ := dd
      simp only [pA, hd, Prod.mk.injEq] at hf
      obtain ⟨rfl, rfl, rfl⟩ := hf
      obtain ⟨n2, rfl, b1, b2, b3, b4, b5⟩ := num_inv hu hd
      have hd0 : d ≠ 0 := by intro e; subst e; exact hne rfl
      exact ⟨d, n2, rfl, rfl, by omega, b2, b4, b5, by rw [if_neg hd0]; exact b3, by rw [if_neg hd0]; omega⟩
  -- the stack
  obtain ⟨kv, n3, rfl, rfl, d1, d2, d3, d4, d5, d6⟩ : ∃ (kv : Int) (n3 : Nat), r = ⟨s.stamp + g, z % 32, o1, av, kv⟩ ∧ p = n3 ∧ n2 ≤ n3 ∧ n3 ≤ zs.length ∧ 0 ≤ kv ∧ kv ≤ 262144 ∧ sl zs n2 n3 = (if kv = s.stack then [] else enc (zig (kv - s.stack)).toNat) ∧ (z / 128 % 2 * 128 = if kv = s.stack then 0 else 128) := by
    rcases hK with ⟨hb, rfl, rfl⟩ | ⟨hb, hf, hne⟩
    · exact ⟨s.stack, n2, rfl, rfl, Nat.le_refl _, c2, by omega, by omega, by rw [sl_self, if_pos rfl], by rw [hb, if_pos rfl]; rfl⟩
    · generalize hd : rdAt zs n2 = dd at hf
      obtain ⟨d, pd, fd⟩ := dd
      simp only [pK, farK, rvAt, hd, Prod.mk.injEq] at hf
      obtain ⟨rfl, rfl, hff⟩ := hf
      have hfd : fd = 0 ∧ ¬ (zag d < -s.stack ∨ 262144 - s.stack < zag d) := by
        by_cases hc : fd = 0 ∧ (zag d < -s.stack ∨ 262144 - s.stack < zag d)
        · rw [if_pos hc] at hff; omega
        · rw [if_neg hc] at hff; exact ⟨hff, fun e => hc ⟨hff, e⟩⟩
      obtain ⟨rfl, hfar⟩ := hfd
      obtain ⟨n3, rfl, b1, b2, b3, b4, b5⟩ := num_inv hu hd
      have hcut := stack_cut (K := s.stack) (x := zag d) (fun e => hfar (.inl e)) (fun e => hfar (.inr e))
      have hnk : s.stack + zag d ≠ s.stack := by
        intro e; apply hne; rw [hcut.1, e]
      rw [hcut.1]
      exact ⟨s.stack + zag d, n3, rfl, rfl, by omega, b2, hcut.2.1, hcut.2.2, by rw [if_neg hnk, show s.stack + zag d - s.stack = zag d by omega, zig_zag d b4]; exact b3, by rw [if_neg hnk]; omega⟩
  refine ⟨putE_of (by dsimp only; omega), ⟨a3, a4, c3, c4⟩, n3, rfl, by omega, d2, ?_⟩
  rw [← sl_join zs (a := t) (b := t + 1) (c := n3) (by omega) (by omega), ← sl_join zs (a := t + 1) (b := n0) (c := n3) (by omega) (by omega), ← sl_join zs (a := n0) (b := n1) (c := n3) (by omega) (by omega), ← sl_join zs (a := n1) (b := n2) (c := n3) (by omega) (by omega), hone, q3, a5, c5, d5]
  unfold text fO fA fK xO xA xK
  dsimp only
  have e1 : s.stamp + g - s.stamp = g := by omega
  rw [e1]
  have e2 : z = z % 32 + (if o1 = s.obj then 0 else 32) + (if av = 0 then 0 else 64) + (if kv = s.stack then 0 else 128) := by rw [← a6, ← c6, ← d6]; omega
  rw [← e2]
  simp
/-! ### and back -/
theorem num_text {zs pre rest : List Int} {x : Nat} (h : zs = pre ++ (enc x ++ rest)) (hx : x < 18446744073709551616) : rdAt zs (pre.length : Nat) = ((x : Int), (pre.length : Int) + (enc x).length, 0) := by
  rw [h]; exact rdAt_enc pre rest x hx
theorem text_O {s : St} {zs pre rest : List Int} {st k : Int} {r : Rc} (b : Int) (hr : r.ok) (h : zs = pre ++ (xO s r ++ rest)) (hb : b * 32 = fO s r) :
    told b (pO zs) ((⟨st, k, s.obj, 0, s.stack⟩ : Rc), ((pre.length : Nat) : Int), (0 : Int)) = ((⟨st, k, r.obj, 0, s.stack⟩ : Rc), (((pre ++ xO s r).length : Nat) : Int), (0 : Int)) := by
  rcases fx_O s r with ⟨e, e1, e2⟩ | ⟨e, e1, e2⟩
  · have hb0 : b = 0 := by omega
    rw [hb0, told_no, e, e2]; simp
  · have hd := diff_bd s.obj r.obj
    have hn := num_text (zs := zs) (pre := pre) (rest := rest) (x := (diff s.obj r.obj).toNat) (by rw [← e2]; exact h) (by omega)
    rw [Int.toNat_of_nonneg hd.1] at hn
    refine (told_on (by omega) ⟨st, k, r.obj, 0, s.stack⟩ ((pre.length : Int) + (enc (diff s.obj r.obj).toNat).length) ?_ ?_).trans ?_
    · simp only [pO, hn, step_diff s.obj r.obj hr.o0 hr.o1]
    · intro e'; exact e (congrArg Rc.obj e')
    · rw [e2, List.length_append]; simp
theorem text_A {s : St} {zs pre rest : List Int} {st k o : Int} {r : Rc} (b : Int) (hr : r.ok) (h : zs = pre ++ (xA r ++ rest)) (hb : b * 64 = fA r) :
    told b (pA zs) ((⟨st, k, o, 0, s.stack⟩ : Rc), ((pre.length : Nat) : Int), (0 : Int)) = ((⟨st, k, o, r.arg, s.stack⟩ : Rc), (((pre ++ xA r).length : Nat) : Int), (0 : Int)) := by
  rcases fx_A r with ⟨e, e1, e2⟩ | ⟨e, e1, e2⟩
  · have hb0 : b = 0 := by omega
    rw [hb0, told_no, e, e2]; simp
  · have h0 := hr.a0
    have h1 := hr.a1
    have hn := num_text (zs := zs) (pre := pre) (rest := rest) (x := r.arg.toNat) (by rw [← e2]; exact h) (by omega)
    rw [Int.toNat_of_nonneg h0] at hn
    refine (told_on (by omega) ⟨st, k, o, r.arg, s.stack⟩ ((pre.length : Int) + (enc r.arg.toNat).length) ?_ ?_).trans ?_
    · simp only [pA, hn]
    · intro e'; exact e (congrArg Rc.arg e')
    · rw [e2, List.length_append]; simp
theorem text_K {s : St} {zs pre rest : List Int} {st k o a : Int} {r : Rc} (b : Int) (hp : putE s r = 0) (h : zs = pre ++ (xK s r ++ rest)) (hb : b * 128 = fK s r) :
    told b (pK zs) ((⟨st, k, o, a, s.stack⟩ : Rc), ((pre.length : Nat) : Int), (0 : Int)) = ((⟨st, k, o, a, r.stack⟩ : Rc), (((pre ++ xK s r).length : Nat) : Int), (0 : Int)) := by
  have hq := putE_ok hp
  rcases fx_K s r with ⟨e, e1, e2⟩ | ⟨e, e1, e2⟩
  · have hb0 : b = 0 := by omega
    rw [hb0, told_no, e, e2]; simp
  · have hz := zig_stk (a := r.stack) (b := s.stack) (by omega) (by omega) (by omega) (by omega)
    have hn := num_text (zs := zs) (pre := pre) (rest := rest) (x := (zig (r.stack - s.stack)).toNat) (by rw [← e2]; exact h) (by omega)
    rw [Int.toNat_of_nonneg hz.1] at hn
    have hv : rvAt zs (pre.length : Nat) = (r.stack - s.stack, (pre.length : Int) + (enc (zig (r.stack - s.stack)).toNat).length, 0) := by unfold rvAt; rw [hn, zag_zig]
    refine (told_on (by omega) ⟨st, k, o, a, r.stack⟩ ((pre.length : Int) + (enc (zig (r.stack - s.stack)).toNat).length) ?_ ?_).trans ?_
    · simp only [pK, farK, hv]
      rw [if_neg (by omega), show wrap64 (s.stack + (r.stack - s.stack)) = r.stack by unfold wrap64; omega]
    · intro e'; exact e (congrArg Rc.stack e')
    · rw [e2, List.length_append]; simp
set_option maxHeartbeats 800000 in
/-- What is written is read. -/
theorem read_text {s : St} {r : Rc} {pre rest zs : List Int} (hp : putE s r = 0) (hr : r.ok) (hz : zs = pre ++ (text s r ++ rest)) : readG s zs pre.length = (r, (((pre ++ text s r).length : Nat) : Int), (0 : Int)) := by
  have hq := putE_ok hp
  have hfb := first_bd hp
  obtain ⟨F, hF⟩ : ∃ F, F = r.kind + fO s r + fA r + fK s r := ⟨_, rfl⟩
  have hO : fO s r = 0 ∨ fO s r = 32 := by unfold fO; split <;> simp
  have hA : fA r = 0 ∨ fA r = 64 := by unfold fA; split <;> simp
  have hK : fK s r = 0 ∨ fK s r = 128 := by unfold fK; split <;> simp
  have hT : text s r = F :: (enc (r.stamp - s.stamp).toNat ++ xO s r ++ xA r ++ xK s r) := by rw [hF]; rfl
  have hlen : pre.length ≠ zs.length := by rw [hz, hT]; simp
  have hget : zs.getD pre.length 0 = F := by rw [hz, hT]; simp
  have hz1 : zs = (pre ++ [F]) ++ (enc (r.stamp - s.stamp).toNat ++ (xO s r ++ (xA r ++ (xK s r ++ rest)))) := by rw [hz, hT]; simp
  have hn := num_text hz1 (by omega)
  rw [Int.toNat_of_nonneg (by omega)] at hn
  have hl1 : (((pre ++ [F]).length : Nat) : Int) = (pre.length : Int) + 1 := by simp
  rw [hl1] at hn
  have hkF : F % 32 = r.kind := by omega
  rw [readG_on (s := s) hlen (by rw [hget]; omega) (by rw [hn]) (by rw [hn]; omega), hn, hget]
  dsimp only
  rw [hkF, show s.stamp + (r.stamp - s.stamp) = r.stamp by omega]
  have e1 : (pre.length : Int) + 1 + ((enc (r.stamp - s.stamp).toNat).length : Int) = ((((pre ++ [F]) ++ enc (r.stamp - s.stamp).toNat).length : Nat) : Int) := by simp only [List.length_append, List.length_cons, List.length_nil]; omega
  rw [e1, text_O (s := s) (r := r) (pre := (pre ++ [F]) ++ enc (r.stamp - s.stamp).toNat) (rest := xA r ++ (xK s r ++ rest)) (F / 32 % 2) hr (by rw [hz1]; simp) (by omega),
    text_A (s := s) (r := r) (pre := (pre ++ [F]) ++ enc (r.stamp - s.stamp).toNat ++ xO s r) (rest := xK s r ++ rest) (F / 64 % 2) hr (by rw [hz1]; simp) (by omega),
    text_K (s := s) (r := r) (pre := (pre ++ [F]) ++ enc (r.stamp - s.stamp).toNat ++ xO s r ++ xA r) (rest := rest) (F / 128 % 2) hp (by rw [hz1]; simp) (by omega)]
  rw [hT]; simp
end Go.Proofs.YtdppbaipmmcjbaaDoor
