import Derived.Test.YtdppbaipmmcjbaaDoorSGr
import Derived.Test.YtdppbaipmmcjbaaDoorSl
import Derived.BigQuiet
import Derived.BigRegion
import Derived.Deep.QuietTactic
import Derived.Laws.AppendOwnNone
import Derived.ArgAppend
import Derived.Test.YtdppbaipmmcjbaaDoorSPd
import Derived.Test.YtdppbaipmmcjbaaDoorSLaw
import Derived.Test.YtdppbaipmmcjbaaDoorTwS
/-
  StreamOwn: what it takes of other texts of this stage.
-/
namespace Go.Proofs.YtdppbaipmmcjbaaDoor
open Go.RowKit
/-- 'append(l, b)' of a list that lies beside the others. -/
theorem Lists.snocG {w w2 : World} {base : Nat} {v : Value} {bs : List (List Int)} {vals : List Value} {b : List Int} {a1 : Option Addr} {c1 : Nat} {a2 : Option Addr} {c2 : Nat} (h : Lists w base v bs vals)
    (ho1 : w.ownsRow base 5 1 (.slice a1 b.length c1) b.length (b.map (Value.int .u8))) (hdis : ∀ x ∈ vals, ∀ g, x.ownBlock = some g → (Value.slice a1 b.length c1).ownBlock ≠ some g) (hu : ∀ z ∈ b, 0 ≤ z ∧ z ≤ 255)
    (o2 : w2.ownsRow base 35 1 (.slice a2 (bs.length + 1) c2) (bs.length + 1) (vals ++ [.slice a1 b.length c1])) (g2 : (w.alloc (.cells #[.slice a1 b.length c1] 35)).grownBy w2 v.ownBlock) :
    Lists w2 base (.slice a2 (bs.length + 1) c2) (bs ++ [b]) (vals ++ [.slice a1 b.length c1]) := by
  have hl := h.len
  have k2 : But (fun k => v.ownBlock = some k) w w2 := (But.refl _ w).alloc _ |>.grown g2 (fun k _ e => e)
  have hone : w2.ownsRow base 5 1 (.slice a1 b.length c1) b.length (b.map (Value.int .u8)) := own_but ho1 k2 (fun g hg e => own_types ho1 h.own (by decide) g hg e)
  have hold : ∀ x ∈ vals, ∀ g, x.ownBlock = some g → ¬ v.ownBlock = some g := by
    intro x hx g hg e
    obtain ⟨b', _, a', c', rfl, ho⟩ := h.row hx
    exact own_types ho h.own (by decide) g hg e
  refine ⟨by rw [List.length_append]; exact o2, fun i b' hi => ?_, ?_, ?_⟩
  · by_cases hlt : i < bs.length
    · rw [List.getElem?_append_left hlt] at hi
      obtain ⟨a', c', e1, e2⟩ := h.each i b' hi
      exact ⟨a', c', by rw [List.getElem?_append_left (by omega)]; exact e1, own_but e2 k2 (hold _ (List.mem_of_getElem? e1))⟩
    · have hi2 := (List.getElem?_eq_some_iff.1 hi).1
      simp at hi2
      have e0 : i = bs.length := by omega
      subst e0
      rw [List.getElem?_append_right (Nat.le_refl _)] at hi
      simp at hi
      subst hi
      exact ⟨a1, c1, by rw [← hl, List.getElem?_append_right (Nat.le_refl _)]; simp, hone⟩
  · rw [List.pairwise_append]
    refine ⟨h.apart, List.pairwise_singleton _ _, ?_⟩
    intro x hx y hy
    simp at hy
    subst hy
    intro g hg e
    exact hdis x hx g hg e
  · intro b' hb'
    rcases List.mem_append.1 hb' with hb' | hb'
    · exact h.u8 b' hb'
    · simp at hb'; subst hb'; exact hu
theorem add_at8 (b off i : Nat) : (⟨b, off, none⟩ : Addr).add i = ⟨b, off + i, none⟩ := by unfold Addr.add; split <;> simp_all
theorem RRow.news {w : World} {ad : Addr} {n : Nat} {L : List Rc} (h : RRow w (some ad) n L) : ∀ j u, (flat L)[j]? = some u → w.cell? (ad.add j) = some u := by
  intro j u hj
  have hlt := (List.getElem?_eq_some_iff.1 hj).1
  rw [flat_len] at hlt
  have hi : j / 5 < L.length := by omega
  have hm : j % 5 < 5 := Nat.mod_lt _ (by decide)
  have hd : j = j / 5 * 5 + j % 5 := by omega
  have hg : L[j / 5]? = some L[j / 5] := List.getElem?_eq_getElem hi
  rcases h.cells with h0 | ⟨b, off, ha, hc⟩
  · have := h.len; omega
  · cases ha
    rw [hd, flat_get hg hm] at hj
    obtain ⟨x0, x1, x2, x3, x4⟩ := hc _ _ hg
    have e : (⟨b, off, none⟩ : Addr).add j = ⟨b, off + j / 5 * 5 + j % 5, none⟩ := by
      have e2 : off + j / 5 * 5 + j % 5 = off + j := by omega
      rw [e2]
      exact add_at8 b off j
    rw [e]
    have h5 : j % 5 = 0 ∨ j % 5 = 1 ∨ j % 5 = 2 ∨ j % 5 = 3 ∨ j % 5 = 4 := by omega
    rcases h5 with e5 | e5 | e5 | e5 | e5
    all_goals (rw [e5] at hj ⊢; first | (rw [← Option.some.inj hj]; exact x0) | (rw [← Option.some.inj hj]; exact x1) | (rw [← Option.some.inj hj]; exact x2) | (rw [← Option.some.inj hj]; exact x3) | (rw [← Option.some.inj hj]; exact x4))
/-- 'append(l, m...)', m records that came in. -/
theorem recs_in (w : World) {ops : Array Oper} {rest : List Oper} {oo : Oper} {aa : Act} {Q : Exit → Act → World → Prop} (hgd : oo.guard = none) (s x : Operand)
    (ho : oo.op = .call { callee := .builtin .append, args := #[s, x], argTypes := #[22, 22] }) (base : Nat)
    (v : Value) (n : Nat) (L : List Rc) (hs : aa.eval s = v) (hown : w.ownsRow base 48 5 v n (flat L))
    (ra : Option Addr) (m c : Nat) (M : List Rc) (hx : aa.eval x = .slice ra m c) (hr : RRow w ra m M) (h0 : ra = none → m = 0 ∧ c = 0)
    (hb : (n + m) * 40 ≤ 140737488355328) (hbase : base ≤ w.heap.size)
    (h : ∀ v' w', w'.ownsRow base 48 5 v' (n + m) (flat (L ++ M)) → w.grownBy w' v.ownBlock → wpList Tryd.prog ops Q rest (aa.put oo.dst v') w') : wpList Tryd.prog ops Q (oo :: rest) aa w := by
  obtain ⟨i0, hi, hz0, hz1, hz2⟩ := info_parts Tryd.infoR
  cases ra with
  | none =>
    obtain ⟨rfl, rfl⟩ := h0 rfl
    have e1 := List.length_eq_zero_iff.1 hr.len
    subst e1
    exact wpList_append_own_none hgd s x 22 ho base 48 i0 5 Tryd.underlying22 hi v n _ hs hown hx (h v w (by simpa using hown) (World.grownBy.refl w _))
  | some ad =>
    refine wpList_append_own_at w hgd s x 22 ho base 48 i0 _ 5 40 Tryd.underlying22 hi hz0 hz1 hz2 rfl (by decide) v n _ hs hown ad m c (flat M) hx (by rw [flat_len, hr.len]) hr.news (flat_one M) (by unfold maxLen; omega) (by omega) hbase ?_
    intro v' w' h1 h2 _ _
    exact h v' w' (by rw [flat_append]; exact h1) h2
/-- 'append(l, r)', one record more. -/
theorem rec_more (w : World) {ops : Array Oper} {rest : List Oper} {oo : Oper} {aa : Act} {Q : Exit → Act → World → Prop} (hgd : oo.guard = none) (s x : Operand)
    (ho : oo.op = .call { callee := .builtin .append, args := #[s, x], argTypes := #[22, 22] }) (base : Nat)
    (v : Value) (n : Nat) (L : List Rc) (hs : aa.eval s = v) (hown : w.ownsRow base 48 5 v n (flat L))
    (X : Nat) (r : Rc) (hx : aa.eval x = .slice (some ⟨X, 0, none⟩) 1 1) (hX : w.heap[X]? = some (.cells #[.int .i64 r.stamp, .int .i64 r.kind, .int .u64 r.obj, .int .u64 r.arg, .int .i64 r.stack] 48 (0, 0)))
    (hb : (n + 1) * 40 ≤ 140737488355328) (hbase : base ≤ w.heap.size)
    (h : ∀ g cap w', w'.ownsRow base 48 5 (.slice (some ⟨g, 0, none⟩) (n + 1) cap) (n + 1) (flat (L ++ [r])) → w.grownBy w' v.ownBlock → wpList Tryd.prog ops Q rest (aa.put oo.dst (.slice (some ⟨g, 0, none⟩) (n + 1) cap)) w') : wpList Tryd.prog ops Q (oo :: rest) aa w := by
  obtain ⟨i0, hi, hz0, hz1, hz2⟩ := info_parts Tryd.infoR
  refine wpList_append_lies w hgd s x 22 ho base 48 i0 _ 5 40 Tryd.underlying22 hi hz0 hz1 hz2 rfl (by decide) v n _ hs hown ⟨X, 0, none⟩ 1 1 (rcs r) hx rfl (World.news_of_block hX) (by intro u hu; simp [rcs] at hu; rcases hu with rfl | rfl | rfl | rfl | rfl <;> rfl) (by decide) (by unfold maxLen; omega) (by omega) hbase _ rfl ?_
  intro g cap w' h1 h2 _ _
  exact h g cap w' (by rw [flat_snoc]; exact h1) h2
def wmark (i : Nat) : Rc := ⟨-9 - (i : Int), 0, 0, 0, 0⟩
def wmarks (n : Nat) : List Rc := (List.range n).map wmark
theorem wmarks_snoc (n : Nat) : wmarks (n + 1) = wmarks n ++ [wmark n] := by unfold wmarks; rw [List.range_succ, List.map_append]; rfl
theorem wmarks_len (n : Nat) : (wmarks n).length = n := by simp [wmarks]
theorem wmarks_get {n k : Nat} (hk : k < n) : (wmarks n)[k]? = some (wmark k) := by simp [wmarks, hk]
set_option maxHeartbeats 1600000 in
set_option maxRecDepth 8000 in
theorem roomy_any (a : Option Addr) (n c : Nat) (L : List Rc) (w : World) (hr : RRow w a n L) (h0 : a = none → n = 0 ∧ c = 0) (hn : n * 40 ≤ 140737488351232) :
    Calls Tryd.prog 9 #[.slice a n c] w fun e w' => ∃ g cap, e = .returned (.slice (some ⟨g, 0, none⟩) n cap) ∧ n + 70 ≤ cap ∧ w'.ownsRow w.heap.size 48 5 (.slice (some ⟨g, 0, none⟩) (n + 70) cap) (n + 70) (flat (L ++ wmarks 70)) ∧ Below w.heap.size w w' := by
  have HR : Hid _ := hide hr
  have H0 : Hid _ := hide h0
  have hnI : (n : Int) ≤ 3600000000000 := by omega
  clear hr h0
  go_enter Tryd.func9, Tryd.ntmps9
  go_upto_region 3 with (at_builtin; refine recs_in _ rfl (.tmp 5) (.tmp 6) rfl w.heap.size (.slice none 0 0) 0 [] rfl (World.ownsRow_nil _ _ _ _) _ _ _ L rfl HR.out H0.out (by omega) (Nat.le_refl _) ?_; intro v1 w1 o1 g1)
  obtain ⟨a1, c1, hv1⟩ := own_formR o1
  rw [Nat.zero_add] at hv1 o1
  subst hv1
  have HO1 : Hid (w1.ownsRow w.heap.size 48 5 (.slice a1 n c1) n (flat (L ++ wmarks 0))) := hide (by simpa [wmarks] using o1)
  have HB1 : Hid (Below w.heap.size w w1) := hide ((But.of_grown (S := fun _ => False) g1 (fun k e => by simp [Value.ownBlock] at e)).below (Nat.le_refl _) (fun k h => h.elim))
  clear o1 g1
  go_wp2_with fail
  go_loopw [3, 4] (fun tv iv wr => ∃ (k T : Nat) (ta : Option Addr) (tc : Nat), tv = .slice ta T tc ∧ iv = .int .i64 (k : Int) ∧ k ≤ 70 ∧ Hid (T = n + k) ∧ Hid (wr.ownsRow w.heap.size 48 5 (.slice ta T tc) T (flat (L ++ wmarks k))) ∧ Hid (Below w.heap.size w wr)) (fun _ iv _ => 70 - (intOf iv).toNat)
  case atStart => exact ⟨0, n, a1, c1, rfl, rfl, by omega, hide rfl, HO1, HB1⟩
  case round =>
    obtain ⟨k, T, ta, tc, rfl, rfl, hk, HT, HO, HB⟩ := hrel
    rename World => wr
    have hs := HB.out.size
    by_cases hlt : k < 70
    · have hltI : (k : Int) < 70 := by omega
      go_upto_region 5 with (at_builtin; refine rec_more _ rfl (.tmp 12) (.tmp 16) rfl w.heap.size (.slice ta T tc) T (L ++ wmarks k) rfl (HO.out.alloc _) wr.heap.size (wmark k) rfl (heap_new _ _) (by have := HT.out; omega) (by simp; omega) ?_; intro g2 c2 w2 o2 gr2)
      have HO2 : Hid (w2.ownsRow w.heap.size 48 5 (.slice (some ⟨g2, 0, none⟩) (T + 1) c2) (T + 1) (flat (L ++ wmarks (k + 1)))) := hide (by rw [wmarks_snoc, ← List.append_assoc]; exact o2)
      have HB2 : Hid (Below w.heap.size w w2) := hide ((HB.out.alloc hs _).grown gr2 (by simp; omega) (fun j e => (HO.out.lt j e).1))
      clear o2 gr2
      go_wp2
      exact ⟨⟨k + 1, T + 1, _, c2, rfl, by go_num, by omega, hide (by have := HT.out; omega), HO2, HB2⟩, by simp [intOf]; omega⟩
    · have hltI : ¬ (k : Int) < 70 := by omega
      obtain rfl : k = 70 := by omega
      obtain ⟨g, c', e, _, _⟩ := own_rowR HO.out (by have := HT.out; omega)
      have hcap := own_capL HO.out
      cases e
      have hTn := HT.out
      have hcI : (n : Int) ≤ (tc : Int) := by omega
      have HC : Hid (n + 70 ≤ tc) := hide (by omega)
      have HO9 : Hid (wr.ownsRow w.heap.size 48 5 (.slice (some ⟨g, 0, none⟩) (n + 70) tc) (n + 70) (flat (L ++ wmarks 70))) := hide (by rw [← hTn]; exact HO.out)
      clear hTn hcap hs
      go_wp2
      go_ret
      exact ⟨g, tc, rfl, HC.out, HO9.out, HB.out⟩
/-- What Decode answers, whatever the limit. -/
def Dv (lim : Int) (bs : List (List Int)) : List Rc × Int := if 64 ≤ lim ∧ lim ≤ 1048576 then decV lim.toNat bs else ([], 2)
theorem decV_nil {lim : Nat} {bs : List (List Int)} (h : (decV lim bs).2 ≠ 0) : (decV lim bs).1 = [] := by
  unfold decV at h ⊢
  split
  · rfl
  · rename_i h1
    rw [if_neg h1] at h
    split
    · rename_i h2
      rw [if_pos h2] at h
      exact absurd rfl h
    · rfl
theorem rsl_u {w : World} {base : Nat} {v : Value} {L : List Rc} (h : w.ownsRow base 48 5 v L.length (flat L)) : ∃ av cv, v = .slice av L.length cv ∧ RRow w av L.length L := by
  obtain ⟨a, c, e⟩ := own_formR h
  subst e
  exact ⟨a, c, rfl, RRow.of_own h⟩
theorem RRow.none (w : World) : RRow w none 0 [] := ⟨rfl, .inl rfl⟩
theorem Dv_len {lim : Int} {bs : List (List Int)} (hu : ∀ z ∈ bs, ∀ i : Nat, 0 ≤ z[i]?.getD 0 ∧ z[i]?.getD 0 ≤ 255) : ((Dv lim bs).1.length : Int) ≤ 1048576 := by
  unfold Dv
  split
  · by_cases h : (decV lim.toNat bs).2 = 0
    · obtain ⟨hs, _⟩ := decV_inv (L := (decV lim.toNat bs).1) hu (Prod.ext rfl h)
      have := strE_len _ 0 (by decide) (by decide) hs
      omega
    · rw [decV_nil h]; simp
  · simp
theorem dec_u (a : Option Addr) (n c : Nat) (bs : List (List Int)) (lim : Int) (w : World) (hK : Kn w) (hw : 0 < w.heap.size) (hr : LRow w a n bs) (hn : (n : Int) ≤ 9223372036854775000) :
    Calls Tryd.prog 15 #[.slice a n c, .int .i64 lim] w fun e w' => Below w.heap.size w w' ∧ ∃ av cv, e = .returned (.tuple #[.slice av (Dv lim bs).1.length cv, .int .i64 (Dv lim bs).2]) ∧ RRow w' av (Dv lim bs).1.length (Dv lim bs).1 := by
  by_cases hlim : 64 ≤ lim ∧ lim ≤ 1048576
  · have e1 : Dv lim bs = decV lim.toNat bs := by unfold Dv; rw [if_pos hlim]
    rw [e1]
    refine (dec_any a n c bs lim w hK hw hr hlim hn).mono ?_
    rintro e w' ⟨hb, h1, h2⟩
    refine ⟨hb, ?_⟩
    by_cases h : (decV lim.toNat bs).2 = 0
    · obtain ⟨v, rfl, ho⟩ := h2 h
      obtain ⟨av, cv, rfl, hrr⟩ := rsl_u ho
      exact ⟨av, cv, by rw [h], hrr⟩
    · obtain rfl := h1 h
      rw [decV_nil h]
      exact ⟨none, 0, rfl, RRow.none _⟩
  · have e1 : Dv lim bs = ([], 2) := by unfold Dv; rw [if_neg hlim]
    rw [e1]
    refine (dec_lim a n c lim w hlim).mono ?_
    rintro e w' ⟨rfl, rfl⟩
    exact ⟨Below.refl _ _, none, 0, rfl, RRow.none _⟩
theorem chunk_len {zs : List Int} (hu : ∀ i : Nat, 0 ≤ zs[i]?.getD 0 ∧ zs[i]?.getD 0 ≤ 255) : ((chunkV zs).1.length : Int) ≤ 1048576 := by
  by_cases h : (chunkV zs).2 = 0
  · obtain ⟨_, _, hs, _, _⟩ := chunk_inv (L := (chunkV zs).1) hu (Prod.ext rfl h)
    have := strE_len _ 0 (by decide) (by decide) hs
    omega
  · rw [(chunk_ne2 hu).2 h]; simp
theorem chunk_u (ad : Option Addr) (n c : Nat) (zs : List Int) (w : World) (hK : Kn w) (hw : 0 < w.heap.size) (hr : Row w ad n zs) (hn : (n : Int) ≤ 9223372036854700000) :
    Calls Tryd.prog 19 #[.slice ad n c] w fun e w' => Below w.heap.size w w' ∧ ∃ av cv, e = .returned (.tuple #[.slice av (chunkV zs).1.length cv, .int .i64 (chunkV zs).2]) ∧ RRow w' av (chunkV zs).1.length (chunkV zs).1 := by
  refine (chunk_any ad n c zs w hK hw hr hn).mono ?_
  rintro e w' ⟨hb, h1, h2⟩
  refine ⟨hb, ?_⟩
  by_cases h : (chunkV zs).2 = 0
  · obtain ⟨v, rfl, ho⟩ := h2 h
    obtain ⟨av, cv, rfl, hrr⟩ := rsl_u ho
    exact ⟨av, cv, by rw [h], hrr⟩
  · obtain rfl := h1 h
    rw [(chunk_ne2 hr.u8).2 h]
    exact ⟨none, 0, rfl, RRow.none _⟩
theorem ret_boolG {a b : Bool} (h : a = b) : Ending.returned (.bool a) = .returned (.bool b) := by rw [h]
set_option maxHeartbeats 400000 in
/-- sameBytes, both of one length, not empty. -/
theorem bsm_core (ba oa ca bb ob cb n : Nat) (A B : List Int) (w : World) (hA : A.length = n) (hB : B.length = n) (hn : n ≤ 9223372036854775807)
    (ha : ∀ i, i < n → w.cell? ⟨ba, oa + i, none⟩ = some (.int .u8 (A.getD i 0))) (hb : ∀ i, i < n → w.cell? ⟨bb, ob + i, none⟩ = some (.int .u8 (B.getD i 0))) :
    Calls Tryd.prog 34 #[.slice (some ⟨ba, oa, none⟩) n ca, .slice (some ⟨bb, ob, none⟩) n cb] w fun e w' => e = .returned (.bool (decide (A = B))) ∧ ∃ m, w' = w.drewN m := by
  go_enter Tryd.func34, Tryd.ntmps34
  go_wp2
  go_loopw [5] (fun i wr => ∃ k m : Nat, k ≤ n ∧ i = .int .i64 k ∧ wr = w.drewN m ∧ A.take k = B.take k) (fun i _ => n - (intOf i).toNat)
  case atStart => exact ⟨0, 0, Nat.zero_le _, rfl, rfl, rfl⟩
  case round =>
    obtain ⟨k, m, hk, rfl, rfl, he⟩ := hrel
    have HE : Hid (A.take k = B.take k) := he
    clear he
    by_cases hlt : k < n
    · have h1 := ha k hlt
      have h2 := hb k hlt
      clear ha hb
      go_wp2
      go_quiet (fail)
      go_wp2
      · go_ret
        exact ⟨ret_boolG (same_ne ‹_›), _, World.drewN_drewN _ _ _⟩
      · exact ⟨⟨k + 1, m + nq, by omega, by go_num, rfl, same_step ‹_› HE.out⟩, by simp [intOf]; omega⟩
    · go_wp2
      go_ret
      exact ⟨ret_boolG (same_all hA hB (by omega) HE.out), _, rfl⟩
theorem bsm_ne_len (a b : Option Addr) (la ca lb cb : Nat) (A B : List Int) (w : World) (hA : A.length = la) (hB : B.length = lb) (hne : la ≠ lb) :
    Calls Tryd.prog 34 #[.slice a la ca, .slice b lb cb] w fun e w' => e = .returned (.bool (decide (A = B))) ∧ ∃ m, w' = w.drewN m := by
  have H : Hid (decide (A = B) = false) := decide_eq_false (fun e => hne (by rw [← hA, ← hB, e]))
  have hq : ((la : Int) != (lb : Int)) = true := by simp; omega
  clear hA hB
  go_enter Tryd.func34, Tryd.ntmps34
  go_wp2
  go_ret
  exact ⟨ret_boolG H.out.symm, 0, rfl⟩
theorem bsm_zero (a b : Option Addr) (ca cb : Nat) (w : World) :
    Calls Tryd.prog 34 #[.slice a 0 ca, .slice b 0 cb] w fun e w' => e = .returned (.bool true) ∧ ∃ m, w' = w.drewN m := by
  go_enter Tryd.func34, Tryd.ntmps34
  go_wp2
  refine wp_loop_rounds 1 ?_
  rw [rounds_succ]
  go_wp2
  go_ret
  exact ⟨rfl, 0, rfl⟩
/-- sameBytes: are the two lists the same? -/
theorem bsm_any (a b : Option Addr) (la ca lb cb : Nat) (A B : List Int) (w : World) (hA : Row w a la A) (hB : Row w b lb B) (hm : la ≤ 9223372036854775807) :
    Calls Tryd.prog 34 #[.slice a la ca, .slice b lb cb] w fun e w' => e = .returned (.bool (decide (A = B))) ∧ ∃ m, w' = w.drewN m := by
  by_cases hne : la = lb
  · subst hne
    by_cases h0 : la = 0
    · subst h0
      have e1 := List.length_eq_zero_iff.1 hA.len
      have e2 := List.length_eq_zero_iff.1 hB.len
      subst e1 e2
      exact (bsm_zero a b ca cb w).mono fun e w' h => h
    · obtain ⟨ba, oa, rfl, hca⟩ := hA.cells.resolve_left h0
      obtain ⟨bb, ob, rfl, hcb⟩ := hB.cells.resolve_left h0
      exact bsm_core ba oa ca bb ob cb la A B w hA.len hB.len hm hca hcb
  · exact bsm_ne_len a b la ca lb cb A B w hA.len hB.len hne
/-- spoil of bytes that lie in a block of their own. -/
theorem spoil_any {w : World} {g n c : Nat} {cs : Array Value} (h : w.heap[g]? = some (.cells cs 5 (0, 0))) (hn : n ≤ cs.size) (hb : ∀ i, i < n → ∃ z : Int, cs[i]? = some (.int .u8 z)) (hm : (n : Int) ≤ 1048576) (hnc : n ≤ c) :
    Calls Tryd.prog 29 #[.slice (some ⟨g, 0, none⟩) n c] w fun e w' => e = .returned (.tuple #[]) ∧ But (fun k => k = g) w w' := by
  have HB : Hid _ := hide hb
  have HH : Hid _ := hide h
  have HN : Hid _ := hide hn
  have hcI : (n : Int) ≤ (c : Int) := by omega
  clear h hb hn
  go_enter Tryd.func29, Tryd.ntmps29
  go_wp2_with fail
  go_loopw [2] (fun iv wr => ∃ (k : Nat) (ds : Array Value), iv = .int .i64 (k : Int) ∧ k ≤ n ∧ Hid (wr.heap[g]? = some (.cells ds 5 (0, 0)) ∧ ds.size = cs.size ∧ ∀ i, i < n → ∃ z : Int, ds[i]? = some (.int .u8 z)) ∧ Hid (But (fun k => k = g) w wr)) (fun iv _ => n - (intOf iv).toNat)
  case atStart => exact ⟨0, cs, rfl, Nat.zero_le _, hide ⟨HH.out, rfl, HB.out⟩, hide (But.refl _ _)⟩
  case round =>
    obtain ⟨k, ds, rfl, hk, HD, HBk⟩ := hrel
    rename World => wr
    by_cases hlt : k < n
    · have hltI : (k : Int) < (n : Int) := by omega
      have hks : k < ds.size := by have := HD.out.2.1; have := HN.out; omega
      obtain ⟨z, hz⟩ := HD.out.2.2 k hlt
      have x0 : wr.cell? ⟨g, k, none⟩ = some (.int .u8 z) := by rw [cell_of_row wr _ _ _ _ (0, 0) HD.out.1]; exact hz
      have f0 := frz HD.out.1 k
      have HNX : Hid (∀ v : Int, (wr.setCell ⟨g, k, none⟩ (.int .u8 v)).heap[g]? = some (.cells (ds.setIfInBounds k (.int .u8 v)) 5 (0, 0)) ∧ (ds.setIfInBounds k (.int .u8 v)).size = cs.size ∧ ∀ i, i < n → ∃ z : Int, (ds.setIfInBounds k (.int .u8 v))[i]? = some (.int .u8 z)) := hide (fun v => by
        refine ⟨set1_heap _ HD.out.1, by simpa using HD.out.2.1, fun i hi => ?_⟩
        rw [Array.getElem?_setIfInBounds]
        by_cases hik : k = i
        · subst hik
          rw [if_pos rfl, if_pos hks]
          exact ⟨v, rfl⟩
        · rw [if_neg hik]
          exact HD.out.2.2 i hi)
      clear hz
      go_wp2_with fail
      exact ⟨⟨k + 1, _, by go_num, by omega, hide (HNX.out _), hide (HBk.out.setCell ⟨g, k, none⟩ (fun _ => rfl) _)⟩, by simp [intOf]; omega⟩
    · have hltI : ¬ (k : Int) < (n : Int) := by omega
      go_wp2
      go_end0
      exact ⟨rfl, HBk.out⟩
end Go.Proofs.YtdppbaipmmcjbaaDoor
/-
  StreamOwn: answers told as one; lists that are cut to their length; appends of great tables.
-/
namespace Go.Proofs.YtdppbaipmmcjbaaDoor
open Go.RowKit
/-! ### what Encode, Decode and Chunk answer, good or not -/
def Ev (lim : Int) (rs : List Rc) : List (List Int) × Int :=
  if 64 ≤ lim ∧ lim ≤ 1048576 then (if strE 0 rs = 0 then (cutS lim.toNat [] St.zero rs, 0) else ([], strE 0 rs)) else ([], 2)
theorem enc_u (a : Option Addr) (n c : Nat) (rs : List Rc) (lim : Int) (w : World) (hK : Kn w) (hw : 0 < w.heap.size) (hr : RRow w a n rs) (hok : ∀ r ∈ rs, r.ok) (hn : (n : Int) ≤ 9223372036854775000) :
    Calls Tryd.prog 10 #[.slice a n c, .int .i64 lim] w fun e w' => Below w.heap.size w w' ∧ ∃ ao co vals, e = .returned (.tuple #[.slice ao (Ev lim rs).1.length co, .int .i64 (Ev lim rs).2]) ∧ Bods w' w.heap.size (.slice ao (Ev lim rs).1.length co) (Ev lim rs).1 vals ∧ (∀ x ∈ (Ev lim rs).1, (x.length : Int) ≤ 1048576) ∧ (Ev lim rs).1.length ≤ 1048577 := by
  unfold Ev
  by_cases hlim : 64 ≤ lim ∧ lim ≤ 1048576
  · rw [if_pos hlim]
    by_cases hs : strE 0 rs = 0
    · rw [if_pos hs]
      refine (enc_any a n c rs lim w hK hw hr hok hlim hn).mono ?_
      rintro e w' ⟨hb, _, h2⟩
      obtain ⟨ao, co, vals, rfl, hB, hx, hl⟩ := h2 hs
      exact ⟨hb, ao, co, vals, rfl, hB, fun x hx' => by have := hx x hx'; omega, hl⟩
    · rw [if_neg hs]
      refine (enc_any a n c rs lim w hK hw hr hok hlim hn).mono ?_
      rintro e w' ⟨hb, h1, _⟩
      exact ⟨hb, none, 0, [], h1 hs, Bods.nil _ _, by simp, by simp⟩
  · rw [if_neg hlim]
    refine (enc_lim a n c lim w hlim).mono ?_
    rintro e w' ⟨rfl, rfl⟩
    exact ⟨Below.refl _ _, none, 0, [], rfl, Bods.nil _ _, by simp, by simp⟩
theorem chunk_o (ad : Option Addr) (n c : Nat) (zs : List Int) (w : World) (hK : Kn w) (hw : 0 < w.heap.size) (hr : Row w ad n zs) (hn : (n : Int) ≤ 9223372036854700000) :
    Calls Tryd.prog 19 #[.slice ad n c] w fun e w' => Below w.heap.size w w' ∧ ∃ av cv, e = .returned (.tuple #[.slice av (chunkV zs).1.length cv, .int .i64 (chunkV zs).2]) ∧ w'.ownsRow w.heap.size 48 5 (.slice av (chunkV zs).1.length cv) (chunkV zs).1.length (flat (chunkV zs).1) := by
  refine (chunk_any ad n c zs w hK hw hr hn).mono ?_
  rintro e w' ⟨hb, h1, h2⟩
  by_cases h : (chunkV zs).2 = 0
  · obtain ⟨v, rfl, ho⟩ := h2 h
    obtain ⟨av, cv, rfl⟩ := own_formL ho
    exact ⟨hb, av, cv, by rw [h], ho⟩
  · have e0 : (chunkV zs).1 = [] := (chunk_ne2 hr.u8).2 h
    rw [h1 h, e0]
    exact ⟨hb, none, 0, rfl, World.ownsRow_nil _ _ _ _⟩
theorem dec_o (a : Option Addr) (n c : Nat) (bs : List (List Int)) (lim : Int) (w : World) (hK : Kn w) (hw : 0 < w.heap.size) (hr : LRow w a n bs) (hn : (n : Int) ≤ 9223372036854775000) :
    Calls Tryd.prog 15 #[.slice a n c, .int .i64 lim] w fun e w' => Below w.heap.size w w' ∧ ∃ av cv, e = .returned (.tuple #[.slice av (Dv lim bs).1.length cv, .int .i64 (Dv lim bs).2]) ∧ w'.ownsRow w.heap.size 48 5 (.slice av (Dv lim bs).1.length cv) (Dv lim bs).1.length (flat (Dv lim bs).1) := by
  unfold Dv
  by_cases hlim : 64 ≤ lim ∧ lim ≤ 1048576
  · rw [if_pos hlim]
    refine (dec_any a n c bs lim w hK hw hr hlim hn).mono ?_
    rintro e w' ⟨hb, h1, h2⟩
    by_cases h : (decV lim.toNat bs).2 = 0
    · obtain ⟨v, rfl, ho⟩ := h2 h
      obtain ⟨av, cv, rfl⟩ := own_formL ho
      exact ⟨hb, av, cv, by rw [h], ho⟩
    · rw [h1 h, decV_nil h]
      exact ⟨hb, none, 0, rfl, World.ownsRow_nil _ _ _ _⟩
  · rw [if_neg hlim]
    refine (dec_lim a n c lim w hlim).mono ?_
    rintro e w' ⟨rfl, rfl⟩
    exact ⟨Below.refl _ _, none, 0, rfl, World.ownsRow_nil _ _ _ _⟩
/-! ### appends -/
theorem cap_quarter {need old : Nat} (h : old < need) : Builtin.nextslicecap need old ≤ need + (need + 768) / 4 + 512 := by
  unfold Builtin.nextslicecap
  split
  · omega
  · split
    · omega
    · rw [growBy_four]
      repeat' split
      all_goals omega
theorem own_laid (w : World) (base : Nat) (e : TypeId) (xs news : List Value) (z : Value) (hz : z.cells.size = 1) (N cap : Nat) (hl : (xs ++ news).length = N) (hc : N ≤ cap) (hm : cap ≤ maxLen) (hbase : base ≤ w.heap.size) (row : Option Nat) :
    (w.drew.alloc (.cells (xs.toArray ++ news.toArray ++ Builtin.zeroCells z.cells (cap - N)) e)).ownsRow base e 1 (.slice (some ⟨w.heap.size, 0, none⟩) N cap) N (xs ++ news) ∧
      w.grownBy (w.drew.alloc (.cells (xs.toArray ++ news.toArray ++ Builtin.zeroCells z.cells (cap - N)) e)) row := by
  refine ⟨⟨by rw [Nat.mul_one]; exact hl, .inr ⟨w.heap.size, cap, _, rfl, hbase, heap_alloc_new w.drew _, hc, hm, ?_, ?_⟩⟩, ⟨rfl, rfl, rfl, by simp, fun k hk _ => Below.heap_alloc w.drew _ k hk⟩⟩
  · simp only [Array.size_append, List.size_toArray, size_zeroCells, hz]
    rw [List.length_append] at hl
    omega
  · simp only [Array.toList_append, List.append_assoc]
    rw [← List.append_assoc, Nat.mul_one, ← hl]
    exact List.take_left
/-- 'append(l, ..)' of a table of lists, whatever a machine bears. -/
theorem append_lstB (w : World) {ops : Array Oper} {rest : List Oper} {o : Oper} {a : Act} {Q : Exit → Act → World → Prop} (hgd : o.guard = none) (s x : Operand)
    (ho : o.op = .call { callee := .builtin .append, args := #[s, x], argTypes := #[24, 24] }) (base : Nat)
    (v : Value) (n : Nat) (vals : List Value) (hs : a.eval s = v) (hown : w.ownsRow base 35 1 v n vals)
    (ad : Addr) (m c : Nat) (news : List Value) (hx : a.eval x = .slice (some ad) m c) (hl : news.length = m) (hnews : ∀ j u, news[j]? = some u → w.cell? (ad.add j) = some u) (h1 : ∀ u ∈ news, u.oneCell' = true) (hm0 : 0 < m)
    (hb : ((n : Int) + m) * 24 ≤ 220000000000000) (hbase : base ≤ w.heap.size)
    (h : ∀ (a' : Option Addr) (c' : Nat) w', w'.ownsRow base 35 1 (.slice a' (n + m) c') (n + m) (vals ++ news) → w.grownBy w' v.ownBlock → wpList Tryd.prog ops Q rest (a.put o.dst (.slice a' (n + m) c')) w') : wpList Tryd.prog ops Q (o :: rest) a w := by
  obtain ⟨i0, hi, hz0, hz1, hz2⟩ := info_parts Tryd.info35
  have hlx : vals.length = n := by simpa using hown.1
  have hN : (vals ++ news).length = n + m := by rw [List.length_append, hlx, hl]
  have hmax : n + m ≤ maxLen := by unfold maxLen; omega
  rcases hown.2 with ⟨hv, h0⟩ | ⟨g, cap, cur, hv, hbg, hg, hnc, hcm, hcs, htk⟩
  · subst h0
    subst hv
    have ex : vals = [] := List.length_eq_zero_iff.1 hlx
    subst ex
    have hr := run_append_nil (P := Tryd.prog) w 24 o.type 35 i0 (.slice none 0 0) Tryd.underlying24 hi hz0 ad m c news (by rw [hz1]; omega) hnews hm0 (by omega) (by rw [hz2]; omega)
    obtain ⟨q1, q2⟩ := own_laid w base 35 [] news (.slice none 0 0) rfl (0 + m) (grownCap w m 0 35) hN (by have := grownCap_ge w m 0 35; omega) (grownCap_le_maxLen w m 0 35 (by omega)) hbase (Value.ownBlock (.slice none 0 0))
    refine wpList_plain hgd fun K hK => ?_
    unfold Oper.wp execOp
    simp only [ho, resolve, invoke, builtin, Sem.run_bind, Sem.run_pure, Result.andThen_ok, List.map_toArray, List.map_cons, List.map_nil, hs, hx, hr]
    simp only [Nat.zero_add, List.nil_append, Array.empty_append] at q1 q2 h
    exact hK _ _ (h _ _ _ q1 q2)
  · by_cases hroom : n + m ≤ cap
    · subst hv
      refine wpList_append_fits w hgd s x 24 ho base 35 i0 1 Tryd.underlying24 hi hz1 g n cap vals hs hown ad m c news hx (by simpa using hl) hnews h1 hroom ?_
      intro w' q1 q2
      exact h _ _ w' q1 q2
    · subst hv
      have hq := cap_quarter (need := n + m) (old := cap) (by omega)
      have hr := run_append_grow (P := Tryd.prog) w 24 o.type 35 i0 (.slice none 0 0) Tryd.underlying24 hi hz0 ⟨g, 0, none⟩ n cap vals (by rw [hz1]; omega) (hown.cells (g := g) rfl) ad m c news (by rw [hz1]; omega) hnews (by omega) (by omega) (by rw [hz2]; omega)
      obtain ⟨q1, q2⟩ := own_laid w base 35 vals news (.slice none 0 0) rfl (n + m) (grownCap w (n + m) cap 35) hN (grownCap_ge w (n + m) cap 35) (grownCap_le_maxLen w (n + m) cap 35 hmax) hbase (Value.ownBlock (.slice (some ⟨g, 0, none⟩) n cap))
      refine wpList_plain hgd fun K hK => ?_
      unfold Oper.wp execOp
      simp only [ho, resolve, invoke, builtin, Sem.run_bind, Sem.run_pure, Result.andThen_ok, List.map_toArray, List.map_cons, List.map_nil, hs, hx, hr]
      exact hK _ _ (h _ _ _ q1 q2)
/-- 'append(l, x, y)' of a list that is cut to its length: new memory. -/
theorem append_cut2 (w : World) {ops : Array Oper} {rest : List Oper} {o : Oper} {a : Act} {Q : Exit → Act → World → Prop} (hgd : o.guard = none) (s x : Operand)
    (ho : o.op = .call { callee := .builtin .append, args := #[s, x], argTypes := #[35, 35] })
    (ad : Option Addr) (n : Nat) (zs : List Int) (hs : a.eval s = .slice ad n n) (hr : Row w ad n zs) (h0 : ad = none → n = 0)
    (X : Nat) (y0 y1 : Int) (hx : a.eval x = .slice (some ⟨X, 0, none⟩) 2 2) (hX : w.heap[X]? = some (.cells #[.int .u8 y0, .int .u8 y1] 5 (0, 0)))
    (hb : (n : Int) ≤ 100000000)
    (h : ∀ g c w', w'.ownsRow w.heap.size 5 1 (.slice (some ⟨g, 0, none⟩) (n + 2) c) (n + 2) ((zs ++ [y0, y1]).map (Value.int .u8)) → Below w.heap.size w w' → wpList Tryd.prog ops Q rest (a.put o.dst (.slice (some ⟨g, 0, none⟩) (n + 2) c)) w') : wpList Tryd.prog ops Q (o :: rest) a w := by
  obtain ⟨i0, hi, hz0, hz1, hz2⟩ := info_parts Tryd.info5
  refine wpList_append_grows w hgd s x 35 ho 5 i0 (.int .u8 0) 1 1 Tryd.underlying35 hi hz0 hz1 hz2 rfl (by decide) ad n n (zs.map (Value.int .u8)) hs (fun e => ⟨h0 e, h0 e⟩) (by simpa using hr.len) ?_ ⟨X, 0, none⟩ 2 2 [.int .u8 y0, .int .u8 y1] hx rfl ?_ (by intro u hu; simp at hu; rcases hu with rfl | rfl <;> rfl) (by omega) (by unfold maxLen; omega) (by omega) ?_
  · intro b hb2 j u hj
    have hjl : j < n := by have := (List.getElem?_eq_some_iff.1 hj).1; have := hr.len; simp at *; omega
    rcases hr.cells with e | ⟨b', off, e, hc⟩
    · omega
    · rw [hb2] at e
      cases e
      rw [add_at8, hc j hjl]
      rw [List.getElem?_map] at hj
      rw [List.getD_eq_getElem?_getD]
      cases hz : zs[j]? with
      | none => rw [hz] at hj; simp at hj
      | some z => rw [hz] at hj; simpa using hj
  · intro j u hj
    match j, hj with
    | 0, hj => simp at hj; subst hj; rw [add_at8, cell_of_row w X (0 + 0) _ 5 (0, 0) hX]; rfl
    | 1, hj => simp at hj; subst hj; rw [add_at8, cell_of_row w X (0 + 1) _ 5 (0, 0) hX]; rfl
  · intro v' w' hn hg
    rw [show zs.map (Value.int .u8) ++ [Value.int .u8 y0, .int .u8 y1] = (zs ++ [y0, y1]).map (Value.int .u8) by simp] at hn
    obtain ⟨g, c, rfl, _, _⟩ := own_some hn (by omega)
    exact h g c w' hn ⟨hg.os, hg.tape, hg.output, hg.size, fun k hk => hg.block k hk (by simp)⟩
/-! ### lists that are cut to their length -/
structure Pts (w : World) (base : Nat) (v : Value) (bs : List (List Int)) (vals : List Value) : Prop where
  own : w.ownsRow base 35 1 v bs.length vals
  each : ∀ (i : Nat) (z : List Int), bs[i]? = some z → ∃ a cap, vals[i]? = some (.slice a z.length z.length) ∧ w.ownsRow base 5 1 (.slice a z.length cap) z.length (z.map (Value.int .u8))
  apart : vals.Pairwise (fun x y => ∀ g, x.ownBlock = some g → y.ownBlock ≠ some g)
  u8 : ∀ b ∈ bs, ∀ z ∈ b, 0 ≤ z ∧ z ≤ 255
theorem Bods.pts {w : World} {base : Nat} {v : Value} {bs : List (List Int)} {vals : List Value} (h : Bods w base v bs vals) : Pts w base v bs vals :=
  ⟨h.own, fun i z hi => by obtain ⟨g, cap, h1, h2⟩ := h.each i z hi; exact ⟨some ⟨g, 0, none⟩, cap, h1, h2⟩, h.apart, h.u8⟩
section
variable {w : World} {base : Nat} {v : Value} {bs : List (List Int)} {vals : List Value}
theorem Pts.nil (w : World) (base : Nat) : Pts w base (.slice none 0 0) [] [] := ⟨World.ownsRow_nil _ _ _ _, fun i b h => by simp at h, List.Pairwise.nil, by simp⟩
theorem Pts.len (h : Pts w base v bs vals) : vals.length = bs.length := by have := h.own.1; simpa using this
theorem ownBlock_cap (a : Option Addr) (n c c' : Nat) : (Value.slice a n c).ownBlock = (Value.slice a n c').ownBlock := by cases a <;> rfl
theorem Pts.row (h : Pts w base v bs vals) {x : Value} (hx : x ∈ vals) : ∃ b ∈ bs, ∃ a cap, x = .slice a b.length b.length ∧ w.ownsRow base 5 1 (.slice a b.length cap) b.length (b.map (Value.int .u8)) := by
  obtain ⟨i, hi⟩ := List.mem_iff_getElem?.1 hx
  have hlt : i < bs.length := by have := (List.getElem?_eq_some_iff.1 hi).1; have := h.len; omega
  obtain ⟨a, cap, h1, h2⟩ := h.each i bs[i] (List.getElem?_eq_getElem hlt)
  rw [h1] at hi
  cases hi
  exact ⟨bs[i], List.getElem_mem hlt, a, cap, rfl, h2⟩
theorem Pts.but {S : Nat → Prop} {w' : World} (h : Pts w base v bs vals) (hb : But S w w') (hv : ∀ g, v.ownBlock = some g → ¬ S g) (he : ∀ x ∈ vals, ∀ g, x.ownBlock = some g → ¬ S g) : Pts w' base v bs vals :=
  ⟨own_but h.own hb hv, fun i b hi => by
    obtain ⟨a, c, h1, h2⟩ := h.each i b hi
    exact ⟨a, c, h1, own_but h2 hb (fun g hg => he _ (List.mem_of_getElem? h1) g (by rw [ownBlock_cap _ _ _ c]; exact hg))⟩, h.apart, h.u8⟩
theorem Pts.below {w' : World} (h : Pts w base v bs vals) (hb : Below w.heap.size w w') : Pts w' base v bs vals := h.but (S := fun _ => False) (But.of_below hb) (fun _ _ e => e) (fun _ _ _ _ e => e)
theorem Pts.blocks (h : Pts w base v bs vals) : ∀ x ∈ vals, ∀ g, x.ownBlock = some g → base ≤ g ∧ g < w.heap.size := by
  intro x hx g hg
  obtain ⟨b, _, a, cap, rfl, ho⟩ := h.row hx
  exact ho.lt g (by rw [ownBlock_cap _ _ _ b.length]; exact hg)
theorem Pts.mono {base' : Nat} (h : Pts w base v bs vals) (hb : base' ≤ base) : Pts w base' v bs vals :=
  ⟨own_mono h.own hb, fun i b hi => by obtain ⟨a, c, h1, h2⟩ := h.each i b hi; exact ⟨a, c, h1, own_mono h2 hb⟩, h.apart, h.u8⟩
/-- The table gains a list that lies beside the others. -/
theorem Pts.snoc {w2 : World} {b : List Int} {a1 : Option Addr} {c1 : Nat} {a2 : Option Addr} {c2 : Nat} {X : World} (h : Pts w base v bs vals)
    (ho1 : w.ownsRow base 5 1 (.slice a1 b.length c1) b.length (b.map (Value.int .u8))) (hdis : ∀ x ∈ vals, ∀ g, x.ownBlock = some g → (Value.slice a1 b.length b.length).ownBlock ≠ some g) (hu : ∀ z ∈ b, 0 ≤ z ∧ z ≤ 255) (hX : Below w.heap.size w X)
    (o2 : w2.ownsRow base 35 1 (.slice a2 (bs.length + 1) c2) (bs.length + 1) (vals ++ [.slice a1 b.length b.length])) (g2 : X.grownBy w2 v.ownBlock) :
    Pts w2 base (.slice a2 (bs.length + 1) c2) (bs ++ [b]) (vals ++ [.slice a1 b.length b.length]) := by
  have hl := h.len
  have k2 : But (fun k => v.ownBlock = some k) w w2 := (But.of_below hX).grown g2 (fun k _ e => e)
  have hone : w2.ownsRow base 5 1 (.slice a1 b.length c1) b.length (b.map (Value.int .u8)) := own_but ho1 k2 (fun g hg e => own_types ho1 h.own (by decide) g hg e)
  have h1 := h.but k2 (S := fun k => v.ownBlock = some k)
  refine ⟨by rw [List.length_append]; exact o2, fun i b' hi => ?_, ?_, ?_⟩
  · by_cases hlt : i < bs.length
    · rw [List.getElem?_append_left hlt] at hi
      obtain ⟨a', c', e1, e2⟩ := h.each i b' hi
      exact ⟨a', c', by rw [List.getElem?_append_left (by omega)]; exact e1, own_but e2 k2 (fun g hg e => own_types e2 h.own (by decide) g hg e)⟩
    · have hi2 := (List.getElem?_eq_some_iff.1 hi).1
      simp at hi2
      have e0 : i = bs.length := by omega
      subst e0
      rw [List.getElem?_append_right (Nat.le_refl _)] at hi
      simp at hi
      subst hi
      exact ⟨a1, c1, by rw [← hl, List.getElem?_append_right (Nat.le_refl _)]; simp, hone⟩
  · rw [List.pairwise_append]
    refine ⟨h.apart, List.pairwise_singleton _ _, ?_⟩
    intro x hx y hy
    simp at hy
    subst hy
    intro g hg e
    exact hdis x hx g hg e
  · intro b' hb'
    rcases List.mem_append.1 hb' with hb' | hb'
    · exact h.u8 b' hb'
    · simp at hb'; subst hb'; exact hu
/-- An entry, and where it stands. -/
theorem Pts.at {a : Option Addr} {n c : Nat} (h : Pts w base (.slice a n c) bs vals) {i : Nat} {z : List Int} (hi : bs[i]? = some z) :
    ∃ G ai cap, a = some ⟨G, 0, none⟩ ∧ vals[i]? = some (.slice ai z.length z.length) ∧ w.cell? ⟨G, i, none⟩ = some (.slice ai z.length z.length) ∧ w.ownsRow base 5 1 (.slice ai z.length cap) z.length (z.map (Value.int .u8)) ∧ Row w ai z.length z ∧ (ai = none → z.length = 0) := by
  have hlt := (List.getElem?_eq_some_iff.1 hi).1
  obtain ⟨ai, cap, h1, h2⟩ := h.each i z hi
  obtain ⟨g, rfl, rfl⟩ : ∃ g, a = some ⟨g, 0, none⟩ ∧ n = bs.length := by
    rcases h.own.2 with ⟨_, e⟩ | ⟨g, cap, cur, e, _⟩
    · omega
    · injection e with e1 e2 e3; exact ⟨g, e1, e2⟩
  refine ⟨g, ai, cap, rfl, h1, ?_, h2, own_row_u8 h2 (u8_of_mem (h.u8 z (List.mem_of_getElem? hi))), fun e => ?_⟩
  · rw [h.own.cellAt i (by omega)]
    exact h1
  · rcases h2.2 with ⟨e2, e3⟩ | ⟨g', c', cur, e2, _⟩
    · exact e3
    · subst e; cases e2
theorem Pts.lrow {a : Option Addr} {n c : Nat} (h : Pts w base (.slice a n c) bs vals) (hn : bs.length = n) (hb : ∀ b ∈ bs, (b.length : Int) ≤ 140737488355328) : LRow w a n bs := by
  refine ⟨hn, ?_⟩
  by_cases h0 : n = 0
  · exact .inl h0
  · obtain ⟨g, rfl⟩ : ∃ g, a = some ⟨g, 0, none⟩ := by
      rcases h.own.2 with ⟨_, e⟩ | ⟨g, cap, cur, e, _⟩
      · omega
      · cases e; exact ⟨g, rfl⟩
    refine .inr ⟨g, 0, rfl, fun i z hi => ?_⟩
    obtain ⟨G, ai, cap, e1, _, h2, _, h3, h4⟩ := h.at hi
    cases e1
    exact ⟨ai, z.length, by rw [Nat.zero_add]; exact h2, h3, h4, Nat.le_refl _, hb z (List.mem_of_getElem? hi)⟩
end
end Go.Proofs.YtdppbaipmmcjbaaDoor
/-
  StreamOwn: a writer alone, and all that it answers.
-/
namespace Go.Proofs.YtdppbaipmmcjbaaDoor
open Go.RowKit
/-- A table gains several lists. -/
theorem Pts.app {w w2 X : World} {base : Nat} {v : Value} {bs bs2 : List (List Int)} {vals vals2 : List Value} {a2 : Option Addr} {c2 : Nat} (h : Pts w base v bs vals) 
    (each2 : ∀ (i : Nat) (z : List Int), bs2[i]? = some z → ∃ a cap, vals2[i]? = some (.slice a z.length z.length) ∧ w.ownsRow base 5 1 (.slice a z.length cap) z.length (z.map (Value.int .u8)))
    (ap2 : vals2.Pairwise (fun x y => ∀ g, x.ownBlock = some g → y.ownBlock ≠ some g)) (hdis : ∀ x ∈ vals, ∀ y ∈ vals2, ∀ g, x.ownBlock = some g → y.ownBlock ≠ some g) (hu : ∀ b ∈ bs2, ∀ z ∈ b, 0 ≤ z ∧ z ≤ 255) (hX : Below w.heap.size w X)
    (o2 : w2.ownsRow base 35 1 (.slice a2 (bs.length + bs2.length) c2) (bs.length + bs2.length) (vals ++ vals2)) (g2 : X.grownBy w2 v.ownBlock) :
    Pts w2 base (.slice a2 (bs.length + bs2.length) c2) (bs ++ bs2) (vals ++ vals2) := by
  have hl := h.len
  have k2 : But (fun k => v.ownBlock = some k) w w2 := (But.of_below hX).grown g2 (fun k _ e => e)
  refine ⟨by rw [List.length_append]; exact o2, fun i b' hi => ?_, ?_, ?_⟩
  · by_cases hlt : i < bs.length
    · rw [List.getElem?_append_left hlt] at hi
      obtain ⟨a', c', e1, e2⟩ := h.each i b' hi
      exact ⟨a', c', by rw [List.getElem?_append_left (by omega)]; exact e1, own_but e2 k2 (fun g hg e => own_types e2 h.own (by decide) g hg e)⟩
    · rw [List.getElem?_append_right (by omega)] at hi
      obtain ⟨a', c', e1, e2⟩ := each2 _ b' hi
      exact ⟨a', c', by rw [List.getElem?_append_right (by omega), hl]; exact e1, own_but e2 k2 (fun g hg e => own_types e2 h.own (by decide) g hg e)⟩
  · rw [List.pairwise_append]
    exact ⟨h.apart, ap2, fun x hx y hy => hdis x hx y hy⟩
  · intro b' hb'
    rcases List.mem_append.1 hb' with hb' | hb'
    · exact h.u8 b' hb'
    · exact hu b' hb'
/-- A writer at p. -/
structure W1 (B : Nat) (w : World) (p : Nat) (lim : Int) (cur : List Rc) (C Bn : Nat) (av : Option Addr) (cv : Nat) (least : Int) : Prop where
  cl : cur.length = C
  bn : (encs St.zero cur).length = Bn
  wri : w.heap[p]? = some (.cells (wcs lim (.slice av Bn cv) (C : Int) (fin St.zero cur).stamp (fin St.zero cur).obj (fin St.zero cur).stack least) 75 (0, 0))
  own : w.ownsRow B 5 1 (.slice av Bn cv) Bn ((encs St.zero cur).map (Value.int .u8))
  part : Part lim cur
  lstc : lst 0 cur ≤ least
  finc : (fin St.zero cur).stamp ≤ least
  cle : (C : Int) ≤ least
  lm : least ≤ 1048576
  size : B ≤ w.heap.size
  pge : B ≤ p
def M1 (p : Nat) (av : Option Addr) (Bn cv : Nat) (z : Nat) : Prop := z = p ∨ (Value.slice av Bn cv).ownBlock = some z
section
variable {B p C Bn cv : Nat} {w : World} {lim least : Int} {cur : List Rc} {av : Option Addr}
theorem W1.but {S : Nat → Prop} {w' : World} (h : W1 B w p lim cur C Bn av cv least) (hb : But S w w') (hS : ∀ z, M1 p av Bn cv z → ¬ S z) : W1 B w' p lim cur C Bn av cv least :=
  { h with
    wri := (hb.block _ (lt_of_heap h.wri) (hS p (.inl rfl))).trans h.wri
    own := own_but h.own hb (fun g hg => hS g (.inr hg))
    size := Nat.le_trans h.size hb.size }
theorem W1.below {w' : World} (h : W1 B w p lim cur C Bn av cv least) (hb : Below w.heap.size w w') : W1 B w' p lim cur C Bn av cv least :=
  h.but (S := fun _ => False) (But.of_below hb) (fun _ _ e => e)
/-- What Put answers, and what is left. -/
structure P1 (B : Nat) (w X : World) (p : Nat) (lim : Int) (av : Option Addr) (Bn cv : Nat) (xa : Option Addr) (zs : List Int) (cx : Nat) (cur' : List Rc) (C' Bn' : Nat) (av' : Option Addr) (cv' : Nat) (least' : Int) : Prop where
  wr : W1 B X p lim cur' C' Bn' av' cv' least'
  but : But (M1 p av Bn cv) w X
  own : X.ownsRow B 5 1 (.slice xa zs.length cx) zs.length (zs.map (Value.int .u8))
  u8 : ∀ z ∈ zs, 0 ≤ z ∧ z ≤ 255
  len : (zs.length : Int) ≤ 1048576
  ans : ∀ g, (Value.slice xa zs.length zs.length).ownBlock = some g → (Value.slice av Bn cv).ownBlock = some g ∧ (Value.slice av' Bn' cv').ownBlock ≠ some g
  new : ∀ g, (Value.slice av' Bn' cv').ownBlock = some g → (Value.slice av Bn cv).ownBlock = some g ∨ w.heap.size ≤ g
theorem P1.same {w1 : World} (h : W1 B w p lim cur C Bn av cv least) (hb : Below w.heap.size w w1) : P1 B w w1 p lim av Bn cv none [] 0 cur C Bn av cv least :=
  ⟨h.below hb, But.of_below hb, World.ownsRow_nil _ _ _ _, by simp, by decide, fun g hg => (by cases hg), fun g hg => .inl hg⟩
set_option maxHeartbeats 1600000 in
theorem put_w1 (h : W1 B w p lim cur C Bn av cv least) (t k o a s : Int) (hr : (⟨t, k, o, a, s⟩ : Rc).ok) (hK : Kn w) (hlim : 64 ≤ lim ∧ lim ≤ 1048576) :
    Calls Tryd.prog 32 #[.pointer (some ⟨p, 0, none⟩), .agg #[.int .i64 t, .int .i64 k, .int .u64 o, .int .u64 a, .int .i64 s]] w fun e w1 => ∃ xa zs cx E cur' C' Bn' av' cv' least', e = .returned (.tuple #[.slice xa zs.length zs.length, .int .i64 E]) ∧ P1 B w w1 p lim av Bn cv xa zs cx cur' C' Bn' av' cv' least' := by
  by_cases hE : putE St.zero ⟨t, k, o, a, s⟩ = 0
  · by_cases hlow : t < least
    · refine (wput_low t k o a s hK h.wri hE hr hlow).mono ?_
      rintro e w1 ⟨rfl, hb1⟩
      exact ⟨none, [], 0, 80, cur, C, Bn, av, cv, least, rfl, P1.same h hb1⟩
    · have hput := putE_upon hE h.part.may (by have := h.finc; dsimp only; omega)
      have hok := putE_ok hE
      have hbl9 : ((encs St.zero cur).length : Int) ≤ 1048576 := by have := h.part.len; have := hlim.2; omega
      have hCI : (C : Int) ≤ 1048576 := by have := h.cle; have := h.lm; omega
      have hbn := h.bn
      have hne := own_ne_cells h.own h.wri (by decide)
      by_cases hroom : ((encs St.zero cur).length : Int) + ((text (fin St.zero cur) ⟨t, k, o, a, s⟩).length : Int) ≤ lim
      · have hpart : Part lim (cur ++ [⟨t, k, o, a, s⟩]) := h.part.snoc hE hr (by have := h.lstc; dsimp only; omega) (by have := h.finc; dsimp only; omega) hroom
        refine (wput_room (b := encs St.zero cur) t k o a s hK (by rw [hbn]; exact h.wri) (by rw [hbn]; exact h.own) h.size hE hr hput hlow hlim.2 hbl9 (by omega) hCI hroom).mono ?_
        rintro e w1 ⟨g, c, rfl, hW1, hO1, hb1, hl1⟩
        rw [hbn] at hb1 hl1
        refine ⟨none, [], 0, 0, cur ++ [⟨t, k, o, a, s⟩], C + 1, (encs St.zero (cur ++ [⟨t, k, o, a, s⟩])).length, some ⟨g, 0, none⟩, c, t + 1, rfl, ?_⟩
        refine ⟨⟨by rw [List.length_append, h.cl]; rfl, rfl, ?_, ?_, hpart, by rw [lst_snoc]; exact Int.le_refl _, by rw [fin_snoc]; exact Int.le_refl _, by have := h.cle; omega, by dsimp only at hok; omega, Nat.le_trans h.size hb1.size, h.pge⟩, hb1, World.ownsRow_nil _ _ _ _, by simp, by decide, fun z hz => (by cases hz), fun z hz => ?_⟩
        · rw [encs_snoc, fin_snoc]; exact hW1
        · rw [encs_snoc]; exact hO1
        · have e9 : g = z := Option.some.inj hz
          subst e9
          exact hl1
      · have hT := text_len hput hr
        have hfull : lim < ((encs St.zero cur).length : Int) + ((text (fin St.zero cur) ⟨t, k, o, a, s⟩).length : Int) := by omega
        have hpart : Part lim [⟨t, k, o, a, s⟩] := Part.one hlim.1 hE hr
        refine (wput_full (b := encs St.zero cur) t k o a s hK (by rw [hbn]; exact h.wri) (by rw [hbn]; exact h.own) h.size hE hr hput hlow hlim.2 hbl9 (by omega) hCI hfull).mono ?_
        rintro e w1 ⟨g, c, rfl, hW1, hO1, hb1⟩
        have hown1 := own_but h.own hb1 (fun z hz e => hne (by rw [← (e : z = p)]; exact hz))
        have hg1 : w.heap.size ≤ g := (hO1.lt g rfl).1
        have e1 : encs St.zero [⟨t, k, o, a, s⟩] = text St.zero ⟨t, k, o, a, s⟩ := by simp [encs]
        have e2 : fin St.zero [⟨t, k, o, a, s⟩] = ⟨t + 1, o, s⟩ := fin_snoc [] St.zero ⟨t, k, o, a, s⟩
        refine ⟨av, encs St.zero cur, cv, 0, [⟨t, k, o, a, s⟩], 1, (encs St.zero [⟨t, k, o, a, s⟩]).length, some ⟨g, 0, none⟩, c, t + 1, rfl, ?_⟩
        refine ⟨⟨rfl, rfl, ?_, ?_, hpart, by show lst 0 ([] ++ [_]) ≤ _; rw [lst_snoc]; exact Int.le_refl _, by show (fin St.zero ([] ++ [_])).stamp ≤ _; rw [fin_snoc]; exact Int.le_refl _, by have := h.cle; omega, by dsimp only at hok; omega, Nat.le_trans h.size hb1.size, h.pge⟩, hb1.mono (fun z e => .inl e), by rw [hbn]; exact hown1, h.part.u8, hbl9, fun z hz => ?_, fun z hz => ?_⟩
        · rw [e1, e2]; exact hW1
        · rw [e1]; exact own_mono hO1 h.size
        · rw [hbn, ownBlock_cap _ _ _ cv] at hz
          refine ⟨hz, fun e => ?_⟩
          have e9 : g = z := Option.some.inj e
          have := (h.own.lt z hz).2
          omega
        · have e9 : g = z := Option.some.inj hz
          subst e9
          exact .inr hg1
  · refine (wput_bad t k o a s hK h.wri hE).mono ?_
    rintro e w1 ⟨rfl, hb1⟩
    exact ⟨none, [], 0, _, cur, C, Bn, av, cv, least, rfl, P1.same h hb1⟩
end
end Go.Proofs.YtdppbaipmmcjbaaDoor
/-
  StreamOwn: written.
-/
namespace Go.Proofs.YtdppbaipmmcjbaaDoor
open Go.RowKit
/-- A writer under way, and all that it has answered. -/
structure WI (w wr : World) (lim : Int) (k : Nat) (ao : Option Addr) (co : Nat) (bs : List (List Int)) (vals : List Value) (cur : List Rc) (C Bn : Nat) (av : Option Addr) (cv : Nat) (least : Int) : Prop where
  w1 : W1 w.heap.size wr w.heap.size lim cur C Bn av cv least
  pts : Pts wr w.heap.size (.slice ao bs.length co) bs vals
  dis : ∀ x ∈ vals, ∀ g, x.ownBlock = some g → (Value.slice av Bn cv).ownBlock ≠ some g
  bel : Below w.heap.size w wr
  len : bs.length = k
  sm : ∀ b ∈ bs, (b.length : Int) ≤ 1048576
section
variable {w wr w1 w2 : World} {lim least least' : Int} {k co C Bn cv cx C' Bn' cv' c2 : Nat} {ao av xa av' a2 : Option Addr} {bs : List (List Int)} {vals : List Value} {cur cur' : List Rc} {zs : List Int}
theorem WI.below (h : WI w wr lim k ao co bs vals cur C Bn av cv least) (hb : Below wr.heap.size wr w1) : WI w w1 lim k ao co bs vals cur C Bn av cv least :=
  ⟨h.w1.below hb, h.pts.below hb, h.dis, h.bel.trans (hb.mono h.bel.size), h.len, h.sm⟩
theorem WI.mid (h : WI w wr lim k ao co bs vals cur C Bn av cv least) (hb : But (M1 w.heap.size av Bn cv) wr w1) : Pts w1 w.heap.size (.slice ao bs.length co) bs vals ∧ Below w.heap.size w w1 := by
  refine ⟨h.pts.but hb (fun g hg e => ?_) (fun x hx g hg e => ?_), h.bel.trans (hb.below h.bel.size (fun z hz => ?_))⟩
  · rcases e with e | e
    · subst e; exact own_ne_cells h.pts.own h.w1.wri (by decide) hg
    · exact own_types h.w1.own h.pts.own (by decide) g e hg
  · rcases e with e | e
    · subst e
      obtain ⟨b, _, a, c, rfl, ho⟩ := h.pts.row hx
      exact own_ne_cells ho h.w1.wri (by decide) (by rw [ownBlock_cap _ _ _ b.length]; exact hg)
    · exact h.dis x hx g hg e
  · rcases hz with e | e
    · exact Nat.le_of_eq e.symm
    · exact (h.w1.own.lt z e).1
theorem WI.next (h : WI w wr lim k ao co bs vals cur C Bn av cv least) (hp : P1 w.heap.size wr w1 w.heap.size lim av Bn cv xa zs cx cur' C' Bn' av' cv' least')
    (o2 : w2.ownsRow w.heap.size 35 1 (.slice a2 (bs.length + 1) c2) (bs.length + 1) (vals ++ [.slice xa zs.length zs.length])) (g2 : (w1.alloc (.cells #[.slice xa zs.length zs.length] 35)).grownBy w2 (Value.slice ao bs.length co).ownBlock) :
    WI w w2 lim (k + 1) a2 c2 (bs ++ [zs]) (vals ++ [.slice xa zs.length zs.length]) cur' C' Bn' av' cv' least' := by
  obtain ⟨hm, hbl⟩ := h.mid hp.but
  have k2 : But (fun g => (Value.slice ao bs.length co).ownBlock = some g) w1 w2 := ((But.refl _ w1).alloc _).grown g2 (fun k _ e => e)
  have hl : (bs ++ [zs]).length = bs.length + 1 := by simp
  refine ⟨hp.wr.but k2 (fun z hz e => ?_), ?_, fun x hx g hg e => ?_, hbl.trans (k2.below hbl.size (fun g hg => (hm.own.lt g hg).1)), by rw [hl, h.len], fun b hb => ?_⟩
  · rcases hz with e1 | e1
    · subst e1; exact own_ne_cells hm.own hp.wr.wri (by decide) e
    · exact own_types hp.wr.own hm.own (by decide) z e1 e
  · rw [hl]
    exact hm.snoc hp.own (fun x hx g hg e => h.dis x hx g hg (hp.ans g e).1) hp.u8 (below_alloc1 _ _) o2 g2
  · rcases List.mem_append.1 hx with hx | hx
    · rcases hp.new g e with e1 | e1
      · exact h.dis x hx g hg e1
      · have := (h.pts.blocks x hx g hg).2
        omega
    · simp at hx
      subst hx
      exact (hp.ans g hg).2 e
  · rcases List.mem_append.1 hb with hb | hb
    · exact h.sm b hb
    · simp at hb; subst hb; exact hp.len
end
theorem cell_news1 (w : World) (z : Value) (T : TypeId) : ∀ j u, [z][j]? = some u → (w.alloc (.cells #[z] T)).cell? ((⟨w.heap.size, 0, none⟩ : Addr).add j) = some u := by
  intro j u hj
  match j, hj with
  | 0, hj => simp at hj; subst hj; rw [add_at8]; exact cell_new1 _ _ _
theorem cell_news2 (w : World) (y z : Value) (T : TypeId) : ∀ j u, [y, z][j]? = some u → (w.alloc (.cells #[y, z] T)).cell? ((⟨w.heap.size, 0, none⟩ : Addr).add j) = some u := by
  intro j u hj
  match j, hj with
  | 0, hj => simp at hj; subst hj; rw [add_at8, cell_of_row _ w.heap.size (0 + 0) #[y, z] T (0, 0) (heap_new _ _)]; rfl
  | 1, hj => simp at hj; subst hj; rw [add_at8, cell_of_row _ w.heap.size (0 + 1) #[y, z] T (0, 0) (heap_new _ _)]; rfl
def Wrt (w : World) (n : Nat) (e : Ending) (w' : World) : Prop := Below w.heap.size w w' ∧ ∃ (ao : Option Addr) (co : Nat) (bs : List (List Int)) (vals : List Value), e = .returned (.slice ao bs.length co) ∧ Pts w' w.heap.size (.slice ao bs.length co) bs vals ∧ (∀ b ∈ bs, (b.length : Int) ≤ 1048576) ∧ bs.length ≤ n + 2
set_option maxRecDepth 20000 in
set_option maxHeartbeats 3200000 in
theorem written_any (a : Option Addr) (n c : Nat) (rs : List Rc) (lim : Int) (w : World) (hK : Kn w) (hw : 0 < w.heap.size) (hr : RRow w a n rs) (hok : ∀ r ∈ rs, r.ok) (hn : n * 40 ≤ 140737488351232) :
    Calls Tryd.prog 25 #[.slice a n c, .int .i64 lim] w fun e w' => Wrt w n e w' := by
  have hl := hr.len
  have HR : Hid _ := hide hr
  have HOK : Hid _ := hide hok
  have HN : Hid _ := hide hn
  have hnI : (n : Int) ≤ 9223372036854775000 := by omega
  clear hr hok hn
  by_cases hlim : 64 ≤ lim ∧ lim ≤ 1048576
  · have HNW := new_ok lim w hlim
    have HLM : Hid _ := hide hlim
    clear hlim
    go_enter Tryd.func25, Tryd.ntmps25
    go_wp2_with fail
    refine HNW.mono ?_
    rintro e w1 ⟨rfl, hw1⟩
    have L1 : w1.heap[w.heap.size]? = some (.cells (wcs lim (.slice none 0 0) 0 0 0 0 0) 75 (0, 0)) := by rw [hw1]; exact heap_new _ _
    have hb1 : Below w.heap.size w w1 := by rw [hw1]; exact below_alloc1 _ _
    have I0 : Hid (WI w w1 lim 0 none 0 [] [] [] 0 0 none 0 0) := hide ⟨⟨rfl, rfl, L1, World.ownsRow_nil _ _ _ _, Part.nil HLM.out.1, by decide, by decide, by decide, by decide, hb1.size, Nat.le_refl _⟩, Pts.nil _ _, by simp, hb1, rfl, by simp⟩
    clear hw1 L1 hb1 HNW
    go_wp2_with fail
    refine (num_any 0 w1).mono ?_
    rintro e w2 ⟨rfl, hw2⟩
    rw [hw2]
    clear hw2 w2
    go_wp2_with fail
    go_loopw [7, 8] (fun s7 s8 wr => ∃ (k : Nat) (ao : Option Addr) (co : Nat) (bs : List (List Int)) (vals : List Value) (cur : List Rc) (C Bn : Nat) (av : Option Addr) (cv : Nat) (least : Int), s8 = .int .i64 k ∧ k ≤ n ∧ s7 = .slice ao bs.length co ∧ WI w wr lim k ao co bs vals cur C Bn av cv least)
      (fun _ s8 _ => n - (intOf s8).toNat)
    case atStart => exact ⟨0, none, 0, [], [], [], 0, 0, none, 0, 0, rfl, Nat.zero_le _, rfl, I0.out⟩
    case round =>
      obtain ⟨k, ao, co, bs, vals, cur, C, Bn, av, cv, least, rfl, hk, rfl, hI⟩ := hrel
      have HI : Hid _ := hide hI
      clear I0
      have hsz := hI.bel.size
      by_cases hlt : k < n
      · obtain ⟨⟨t, kd, o, ar, q⟩, hrk⟩ : ∃ r, rs[k]? = some r := ⟨rs[k]'(by omega), List.getElem?_eq_getElem _⟩
        have hRr := HR.out.below hI.bel
        rcases hRr.cells with h0 | ⟨bb, off, rfl, hcs⟩
        · omega
        obtain ⟨x0, x1, x2, x3, x4⟩ := hcs k _ hrk
        have HP := put_w1 hI.w1 t kd o ar q (HOK.out _ (List.mem_of_getElem? hrk)) (hK.below hI.bel hw) HLM.out
        clear hcs hRr hI hrk
        go_wp2_with fail
        refine HP.mono ?_
        rintro e w3 ⟨xa, zs, cx, E, cur', C', Bn', av', cv', least', rfl, hp⟩
        have HPP : Hid _ := hide hp
        have HMI : Hid _ := hide (HI.out.mid hp.but)
        clear hp HP x0 x1 x2 x3 x4
        go_wp2_with (at_builtin; refine append_lstB _ rfl _ _ rfl w.heap.size (.slice ao bs.length co) bs.length vals rfl (HMI.out.1.own.alloc _) ⟨w3.heap.size, 0, none⟩ 1 1 [.slice xa zs.length zs.length] rfl rfl (cell_news1 _ _ _) (by intro u hu; simp at hu; subst hu; rfl) (by omega) (by have h1 := HI.out.len; have h2 := HN.out; omega) (by have := HMI.out.2.size; simp; omega) ?_; intro a2 c2 w4 o2 g2)
        have HX := HI.out.next HPP.out o2 g2
        exact ⟨⟨k + 1, a2, c2, bs ++ [zs], _, cur', C', Bn', av', cv', least', by go_num, by omega, by simp, HX⟩, by simp [intOf]; omega⟩
      · have hke : k = n := by omega
        subst hke
        have HF1 := flush_any hI.w1.wri (own_capL hI.w1.own)
        clear hI
        go_wp2_with fail
        refine HF1.mono ?_
        rintro e w3 ⟨rfl, hp3, hb3⟩
        have HF2 := flush_any hp3 (Nat.le_refl 0)
        have HMI := HI.out.mid (hb3.mono (fun z e => .inl e))
        have HO3 : Hid _ := hide (own_but HI.out.w1.own hb3 (fun z hz e => own_ne_cells HI.out.w1.own HI.out.w1.wri (by decide) (by rw [← (e : z = _)]; exact hz)))
        have HM3 : Hid _ := hide HMI
        have HP3 : Hid _ := hide hp3
        clear HF1 hb3 HMI hp3
        go_wp2_with fail
        refine HF2.mono ?_
        rintro e w4 ⟨rfl, hp4, hb4⟩
        have HB4 : Hid (But (fun z => z = w.heap.size) w3 w4) := hide hb4
        have HO4 : Hid _ := hide (own_but HO3.out hb4 (fun z hz e => own_ne_cells HO3.out HP3.out (by decide) (by rw [← (e : z = _)]; exact hz)))
        have HM4 : Hid (Pts w4 w.heap.size (.slice ao bs.length co) bs vals) := hide (HM3.out.1.but hb4 (fun g hg e => own_ne_cells HM3.out.1.own HP3.out (by decide) (by rw [← (e : g = _)]; exact hg)) (fun x hx g hg e => by
          obtain ⟨b, _, a9, c9, rfl, ho⟩ := HM3.out.1.row hx
          exact own_ne_cells ho HP3.out (by decide) (by rw [ownBlock_cap _ _ _ b.length, ← (e : g = _)]; exact hg)))
        have HL4 : Hid (Below w.heap.size w w4) := hide (HM3.out.2.trans (hb4.below HM3.out.2.size (fun z hz => Nat.le_of_eq (hz : z = _).symm)))
        clear hp4 hb4 HF2
        go_wp2_with (at_builtin; refine append_lstB _ rfl _ _ rfl w.heap.size (.slice ao bs.length co) bs.length vals rfl (HM4.out.own.alloc _) ⟨w4.heap.size, 0, none⟩ 2 2 [.slice av Bn Bn, .slice none 0 0] rfl rfl (cell_news2 _ _ _ _) (by intro u hu; simp at hu; rcases hu with rfl | rfl <;> rfl) (by omega) (by have h1 := HI.out.len; have h2 := HN.out; omega) (by have := HL4.out.size; simp; omega) ?_; intro a2 c2 w5 o2 g2)
        go_ret
        have hbn := HI.out.w1.bn
        have hX : Pts w5 w.heap.size (.slice a2 (bs.length + 2) c2) (bs ++ [encs St.zero cur, []]) (vals ++ [.slice av Bn Bn, .slice none 0 0]) := by
          refine Pts.app (bs2 := [encs St.zero cur, []]) HM4.out (fun i z hi => ?_) ?_ (fun x hx y hy g hg e => ?_) (fun b hb z hz => ?_) (below_alloc1 _ _) o2 g2
          · match i, hi with
            | 0, hi => simp at hi; subst hi; exact ⟨av, cv, by rw [hbn]; rfl, by rw [hbn]; exact HO4.out⟩
            | 1, hi => simp at hi; subst hi; exact ⟨none, 0, rfl, World.ownsRow_nil _ _ _ _⟩
          · simp [Value.ownBlock]
          · simp at hy
            rcases hy with rfl | rfl
            · exact HI.out.dis x hx g hg (by rw [ownBlock_cap _ _ _ Bn]; exact e)
            · cases e
          · simp at hb
            rcases hb with rfl | rfl
            · exact HI.out.w1.part.u8 z hz
            · simp at hz
        have hbl5 : Below w.heap.size w w5 := HL4.out.trans ((((But.refl (fun g => (Value.slice ao bs.length co).ownBlock = some g) w4).alloc _).grown g2 (fun k _ e => e)).below HL4.out.size (fun g hg => (HM4.out.own.lt g hg).1))
        refine ⟨hbl5, a2, c2, bs ++ [encs St.zero cur, []], _, by simp, by simpa using hX, fun b hb => ?_, by have := HI.out.len; simp; omega⟩
        rcases List.mem_append.1 hb with hb | hb
        · exact HI.out.sm b hb
        · simp at hb
          rcases hb with rfl | rfl
          · have := HI.out.w1.part.len; have := HLM.out.2; omega
          · decide
  · have HNW := new_bad lim w hlim
    go_enter Tryd.func25, Tryd.ntmps25
    go_wp2_with fail
    refine HNW.mono ?_
    rintro e w1 ⟨rfl, hw1⟩
    rw [hw1]
    clear hw1 w1 HNW
    go_wp2_with fail
    refine (num_any 2 w).mono ?_
    rintro e w2 ⟨rfl, hw2⟩
    rw [hw2]
    clear hw2 w2
    go_wp2
    go_ret
    exact ⟨Below.refl _ _, none, 0, [], [], rfl, Pts.nil _ _, by simp, by simp⟩
end Go.Proofs.YtdppbaipmmcjbaaDoor
/-
  StreamOwn: lists that are gone on with; what bytesApart writes over.
-/
namespace Go.Proofs.YtdppbaipmmcjbaaDoor
open Go.RowKit
def mB0 (i : Nat) : Int := (i : Int) % 256
def mB1 (i : Nat) : Int := (i : Int) / 256 % 256
def mkL (i q : Nat) : List Int := (List.range (2 * q)).map fun j => if j % 2 = 0 then mB0 i else mB1 i
theorem mkL_succ (i q : Nat) : mkL i (q + 1) = mkL i q ++ [mB0 i, mB1 i] := by
  unfold mkL
  rw [show 2 * (q + 1) = 2 * q + 1 + 1 by omega, List.range_succ, List.range_succ, List.map_append, List.map_append, List.append_assoc]
  congr 1
  have h0 : (2 * q) % 2 = 0 := by omega
  simp [h0]
theorem mkL_one (i : Nat) : mkL i 1 = [mB0 i, mB1 i] := rfl
theorem mkL_len (i q : Nat) : (mkL i q).length = 2 * q := by simp [mkL]
theorem mkL_u8 (i q : Nat) : ∀ z ∈ mkL i q, 0 ≤ z ∧ z ≤ 255 := by
  intro z hz
  simp only [mkL, List.mem_map] at hz
  obtain ⟨j, _, rfl⟩ := hz
  split <;> simp only [mB0, mB1] <;> omega
theorem mkL_at (i : Nat) {q k : Nat} (hk : k < q) : (mkL i q)[2 * k]? = some (mB0 i) ∧ (mkL i q)[2 * k + 1]? = some (mB1 i) := by
  have h0 : (2 * k) % 2 = 0 := by omega
  have h1 : ¬ (2 * k + 1) % 2 = 0 := by omega
  constructor
  · simp [mkL, show 2 * k < 2 * q by omega]
  · simp [mkL, show 2 * k + 1 < 2 * q by omega]
theorem sub255o {z : Int} (h0 : 0 ≤ z) (h1 : z ≤ 255) : IntKind.u8.wrap (255 - z) = 255 - z := by rw [IntKind.wrap_u8]; omega
/-- The lists gone on with. -/
def gsL (bs : List (List Int)) (k : Nat) : List (List Int) := (List.range k).map fun j => bs.getD j [] ++ mkL j 35
theorem gsL_len (bs : List (List Int)) (k : Nat) : (gsL bs k).length = k := by simp [gsL]
theorem gsL_succ (bs : List (List Int)) (k : Nat) : gsL bs (k + 1) = gsL bs k ++ [bs.getD k [] ++ mkL k 35] := by simp [gsL, List.range_succ]
theorem Lists.cellAt {w : World} {base : Nat} {a : Option Addr} {n c : Nat} {bs : List (List Int)} {vals : List Value} (h : Lists w base (.slice a n c) bs vals) {i : Nat} {b : List Int} (hi : bs[i]? = some b) : ∃ G ab cb, a = some ⟨G, 0, none⟩ ∧ vals[i]? = some (.slice ab b.length cb) ∧ w.cell? ⟨G, i, none⟩ = some (.slice ab b.length cb) ∧ w.ownsRow base 5 1 (.slice ab b.length cb) b.length (b.map (Value.int .u8)) := by
  obtain ⟨ab, cb, h1, h2⟩ := h.each i b hi
  rcases h.own.2 with ⟨_, e⟩ | ⟨G, cap, cur, e, _⟩
  · have := (List.getElem?_eq_some_iff.1 hi).1; omega
  · injection e with e1 e2 e3
    subst e1 e2 e3
    have hc := h.own.cells (g := G) rfl i _ h1
    rw [add_at8, Nat.zero_add] at hc
    exact ⟨G, ab, cb, rfl, h1, hc, h2⟩
theorem grown_at {w : World} {base : Nat} {a : Option Addr} {c N : Nat} {bs gs : List (List Int)} {gv : List Value} (h : Lists w base (.slice a gs.length c) gs gv) (hg : gs = gsL bs N) {j : Nat} (hj : j < N) :
    ∃ M g cc, a = some ⟨M, 0, none⟩ ∧ w.cell? ⟨M, j, none⟩ = some (.slice (some ⟨g, 0, none⟩) ((bs.getD j []).length + 70) cc) ∧ ∀ k, k < 35 → w.cell? ⟨g, (bs.getD j []).length + 2 * k, none⟩ = some (.int .u8 (mB0 j)) ∧ w.cell? ⟨g, (bs.getD j []).length + 2 * k + 1, none⟩ = some (.int .u8 (mB1 j)) := by
  have hgj : gs[j]? = some (bs.getD j [] ++ mkL j 35) := by rw [hg]; simp [gsL, hj]
  obtain ⟨M, ab, cb, e1, _, e2, e3⟩ := h.cellAt hgj
  have hl : (bs.getD j [] ++ mkL j 35).length = (bs.getD j []).length + 70 := by rw [List.length_append, mkL_len]
  rw [hl] at e2 e3
  obtain ⟨g, rfl⟩ := own_someL e3 (by omega)
  refine ⟨M, g, cb, e1, e2, fun k hk => ?_⟩
  have hm := mkL_at j (q := 35) hk
  rw [List.map_append] at e3
  constructor
  · rw [e3.cellAt _ (by omega), List.getElem?_append_right (by rw [List.length_map]; omega)]
    simp only [List.length_map]
    rw [show (bs.getD j []).length + 2 * k - (bs.getD j []).length = 2 * k by omega, List.getElem?_map, hm.1]; rfl
  · rw [e3.cellAt _ (by omega), List.getElem?_append_right (by rw [List.length_map]; omega)]
    simp only [List.length_map]
    rw [show (bs.getD j []).length + 2 * k + 1 - (bs.getD j []).length = 2 * k + 1 by omega, List.getElem?_map, hm.2]; rfl
/-- 'append(g, x, y)' of a call's own list. -/
theorem append_own2 (w : World) {ops : Array Oper} {rest : List Oper} {o : Oper} {a : Act} {Q : Exit → Act → World → Prop} (hgd : o.guard = none) (s x : Operand)
    (ho : o.op = .call { callee := .builtin .append, args := #[s, x], argTypes := #[35, 35] }) (base : Nat)
    (v : Value) (n : Nat) (xs : List Int) (hs : a.eval s = v) (hown : w.ownsRow base 5 1 v n (xs.map (Value.int .u8)))
    (X : Nat) (y0 y1 : Int) (hx : a.eval x = .slice (some ⟨X, 0, none⟩) 2 2) (hX : w.heap[X]? = some (.cells #[.int .u8 y0, .int .u8 y1] 5 (0, 0)))
    (hb : (n : Int) ≤ 100000000) (hbase : base ≤ w.heap.size)
    (h : ∀ g c w', w'.ownsRow base 5 1 (.slice (some ⟨g, 0, none⟩) (n + 2) c) (n + 2) ((xs ++ [y0, y1]).map (Value.int .u8)) → w.grownBy w' v.ownBlock → wpList Tryd.prog ops Q rest (a.put o.dst (.slice (some ⟨g, 0, none⟩) (n + 2) c)) w') : wpList Tryd.prog ops Q (o :: rest) a w := by
  obtain ⟨i0, hi, hz0, hz1, hz2⟩ := info_parts Tryd.info5
  refine wpList_append_own w hgd s x 35 ho base 5 i0 (.int .u8 0) 1 1 Tryd.underlying35 hi hz0 hz1 hz2 rfl (by decide) v n _ hs hown ⟨X, 0, none⟩ 2 2 [.int .u8 y0, .int .u8 y1] hx rfl ?_ (by intro u hu; simp at hu; rcases hu with rfl | rfl <;> rfl) (by unfold maxLen; omega) (by omega) hbase ?_
  · intro j u hj
    match j, hj with
    | 0, hj => simp at hj; subst hj; rw [add_at8, cell_of_row w X (0 + 0) _ 5 (0, 0) hX]; rfl
    | 1, hj => simp at hj; subst hj; rw [add_at8, cell_of_row w X (0 + 1) _ 5 (0, 0) hX]; rfl
  · intro v' w' hn hg _
    rw [show xs.map (Value.int .u8) ++ [Value.int .u8 y0, .int .u8 y1] = (xs ++ [y0, y1]).map (Value.int .u8) by simp] at hn
    obtain ⟨g, c, rfl, _, _⟩ := own_some hn (by omega)
    exact h g c w' hn hg
theorem cell_drewN {w : World} {a : Addr} {x : Value} (h : w.cell? a = some x) (j : Nat) : (w.drewN j).cell? a = some x := by
  have := (below_drewN (Below.refl (a.block + 1) w) j).cell (p := a) (by omega)
  rw [this]; exact h
/-- A byte of one of the lists is written over. -/
theorem Pts.store {w : World} {base : Nat} {v : Value} {bs : List (List Int)} {vals : List Value} (h : Pts w base v bs vals) {k i g : Nat} {z : List Int} (hk : bs[k]? = some z) (hv : vals[k]? = some (.slice (some ⟨g, 0, none⟩) z.length z.length)) {y : Int} (hy : 0 ≤ y ∧ y ≤ 255) :
    Pts (w.setCell ⟨g, i, none⟩ (.int .u8 y)) base v (bs.set k (z.set i y)) vals := by
  have hkl := (List.getElem?_eq_some_iff.1 hk).1
  have hkv := (List.getElem?_eq_some_iff.1 hv).1
  obtain ⟨a, cap, e1, e2⟩ := h.each k z hk
  rw [hv] at e1
  cases e1
  have hb : But (fun q => q = g) w (w.setCell ⟨g, i, none⟩ (.int .u8 y)) := (But.refl (fun q => q = g) w).setCell ⟨g, i, none⟩ (fun _ => rfl) _
  refine ⟨?_, fun j b hj => ?_, h.apart, fun b hb' x hx => ?_⟩
  · rw [List.length_set]
    exact own_but h.own hb (fun q hq e => by subst e; exact own_types e2 h.own (by decide) _ rfl hq)
  · by_cases e : j = k
    · subst e
      rw [List.getElem?_set_self hkl] at hj
      cases hj
      refine ⟨some ⟨g, 0, none⟩, cap, by rw [List.length_set]; exact hv, ?_⟩
      rw [List.length_set, List.map_set]
      exact (e2.stored i (.int .u8 y)).1
    · rw [List.getElem?_set_ne (Ne.symm e)] at hj
      obtain ⟨a', c', q1, q2⟩ := h.each j b hj
      refine ⟨a', c', q1, own_but q2 hb (fun q hq e9 => ?_)⟩
      subst e9
      have hq' : (Value.slice a' b.length b.length).ownBlock = some q := by rw [ownBlock_cap _ _ _ c']; exact hq
      have hjv := (List.getElem?_eq_some_iff.1 q1).1
      rcases Nat.lt_or_gt_of_ne e with hlt | hlt
      · have := List.pairwise_iff_getElem.1 h.apart j k hjv hkv hlt q (by rw [(List.getElem?_eq_some_iff.1 q1).2]; exact hq')
        exact this (by rw [(List.getElem?_eq_some_iff.1 hv).2]; rfl)
      · have := List.pairwise_iff_getElem.1 h.apart k j hkv hjv hlt q (by rw [(List.getElem?_eq_some_iff.1 hv).2]; rfl)
        exact this (by rw [(List.getElem?_eq_some_iff.1 q1).2]; exact hq')
  · rcases List.mem_or_eq_of_mem_set hb' with e | e
    · exact h.u8 b e x hx
    · subst e
      rcases List.mem_or_eq_of_mem_set hx with e | e
      · exact h.u8 z (List.mem_of_getElem? hk) x e
      · subst e; exact hy
/-- What lies in memory while the lists are written over. -/
structure Ap (w wr : World) (base : Nat) (v : Value) (cs : List (List Int)) (vals : List Value) (N : Nat) (aw : Option Addr) (cw : Nat) (ws : List (List Int)) (wv : List Value) : Prop where
  pts : Pts wr base v cs vals
  len : cs.length = N
  was : Lists wr w.heap.size (.slice aw ws.length cw) ws wv
  but : But (fun k => ∃ x ∈ vals, x.ownBlock = some k) w wr
section
variable {w wr w' : World} {base : Nat} {v : Value} {cs : List (List Int)} {vals : List Value} {N : Nat} {aw : Option Addr} {cw : Nat} {ws : List (List Int)} {wv : List Value}
theorem Ap.below (h : Ap w wr base v cs vals N aw cw ws wv) (hb : Below wr.heap.size wr w') : Ap w w' base v cs vals N aw cw ws wv :=
  ⟨h.pts.below hb, h.len, h.was.below hb, h.but.trans (But.of_below (S := fun _ => False) hb) (fun _ _ e => e.elim)⟩
theorem Ap.store (h : Ap w wr base v cs vals N aw cw ws wv) (hlt : ∀ x ∈ vals, ∀ g, x.ownBlock = some g → g < w.heap.size) {k i g : Nat} {z : List Int} (hk : cs[k]? = some z) (hv : vals[k]? = some (.slice (some ⟨g, 0, none⟩) z.length z.length)) {y : Int} (hy : 0 ≤ y ∧ y ≤ 255) :
    Ap w (wr.setCell ⟨g, i, none⟩ (.int .u8 y)) base v (cs.set k (z.set i y)) vals N aw cw ws wv := by
  have hg : g < w.heap.size := hlt _ (List.mem_of_getElem? hv) g rfl
  have hb : But (fun q => q = g) wr (wr.setCell ⟨g, i, none⟩ (.int .u8 y)) := (But.refl (fun q => q = g) wr).setCell ⟨g, i, none⟩ (fun _ => rfl) _
  refine ⟨h.pts.store hk hv hy, by rw [List.length_set]; exact h.len, h.was.but hb (fun q hq e => ?_) (fun x hx q hq e => ?_), h.but.setCell ⟨g, i, none⟩ (fun _ => ⟨_, List.mem_of_getElem? hv, rfl⟩) _⟩
  · have := (h.was.own.lt q hq).1
    have e : q = g := e
    omega
  · have := (h.was.blocks x hx q hq).1
    have e : q = g := e
    omega
/-- A list that is not yet written over is what it was. -/
theorem Ap.q {G Gw c : Nat} (h : Ap w wr base (.slice (some ⟨G, 0, none⟩) N c) cs vals N (some ⟨Gw, 0, none⟩) cw ws wv) {r : Nat} {z : List Int} (hr : cs[r]? = some z) (hw : ws[r]? = some z) (hz : (z.length : Int) ≤ 1048576) :
    ∃ ai wa wc, wr.cell? ⟨G, r, none⟩ = some (.slice ai z.length z.length) ∧ wr.cell? ⟨Gw, r, none⟩ = some (.slice wa z.length wc) ∧
      Hid (∀ X, Below wr.heap.size wr X → Calls Tryd.prog 34 #[.slice ai z.length z.length, .slice wa z.length wc] X fun e w' => e = .returned (.bool true) ∧ ∃ m, w' = X.drewN m) := by
  obtain ⟨G', ai, cap, e1, _, h1, _, h2, _⟩ := h.pts.at hr
  obtain ⟨Gw', wa, wc, e2, _, h3, h4⟩ := h.was.cellAt hw
  cases e1
  cases e2
  refine ⟨ai, wa, wc, h1, h3, hide (fun X hX => ?_)⟩
  have h9 := bsm_any ai wa z.length z.length z.length wc z z X (h2.below hX) ((own_row_u8 h4 (u8_of_mem (h.was.u8 z (List.mem_of_getElem? hw)))).below hX) (by omega)
  simpa only [decide_true] using h9
end
end Go.Proofs.YtdppbaipmmcjbaaDoor
/-
  StreamOwn: lists of records that are gone on with.
-/
namespace Go.Proofs.YtdppbaipmmcjbaaDoor
open Go.RowKit
theorem own_take5 {w : World} {base g n m c : Nat} {xs ys : List Value} {e : TypeId} (h : w.ownsRow base e 5 (.slice (some ⟨g, 0, none⟩) (n + m) c) (n + m) (xs ++ ys)) (hx : xs.length = n * 5) : w.ownsRow base e 5 (.slice (some ⟨g, 0, none⟩) n c) n xs := by
  refine ⟨hx, .inr ⟨g, c, ?_⟩⟩
  rcases h.2 with ⟨hv', _⟩ | ⟨g', cap', cur', hv', hb', hg', hnc, hcm', hcs', htk'⟩
  · cases hv'
  · cases hv'
    refine ⟨cur', rfl, hb', hg', by omega, hcm', hcs', ?_⟩
    have e : cur'.toList.take (n * 5) = (cur'.toList.take ((n + m) * 5)).take (n * 5) := by rw [List.take_take]; congr 1; omega
    rw [e, htk', List.take_append_of_le_length (by omega), List.take_of_length_le (by omega)]
theorem own_caps5 {w : World} {b b' g n m c c' : Nat} {e : TypeId} {xs ys : List Value} (h : w.ownsRow b e 5 (.slice (some ⟨g, 0, none⟩) n c) n xs) (k : w.ownsRow b' e 5 (.slice (some ⟨g, 0, none⟩) m c') m ys) : c = c' := by
  rcases h.2 with ⟨hv, _⟩ | ⟨g1, c1, cur1, hv, _, hh, _, _, hs, _⟩
  · cases hv
  · cases hv
    rcases k.2 with ⟨hv, _⟩ | ⟨g2, c2, cur2, hv, _, hh2, _, _, hs2, _⟩
    · cases hv
    · cases hv
      rw [hh] at hh2
      simp at hh2
      subst hh2
      omega
/-- 'append(v, r)': the new list owns old and new records; the old list still owns its own. -/
theorem append_keepR (w : World) {ops : Array Oper} {rest : List Oper} {oo : Oper} {aa : Act} {Q : Exit → Act → World → Prop} (hgd : oo.guard = none) (s x : Operand)
    (ho : oo.op = .call { callee := .builtin .append, args := #[s, x], argTypes := #[22, 22] }) (base : Nat)
    (v : Value) (n : Nat) (L : List Rc) (hs : aa.eval s = v) (hown : w.ownsRow base 48 5 v n (flat L))
    (X : Nat) (r : Rc) (hx : aa.eval x = .slice (some ⟨X, 0, none⟩) 1 1) (hX : w.heap[X]? = some (.cells #[.int .i64 r.stamp, .int .i64 r.kind, .int .u64 r.obj, .int .u64 r.arg, .int .i64 r.stack] 48 (0, 0)))
    (hb : (n + 1) * 40 ≤ 140737488355328) (hbase : base ≤ w.heap.size)
    (h : ∀ g cap w', w'.ownsRow base 48 5 (.slice (some ⟨g, 0, none⟩) (n + 1) cap) (n + 1) (flat (L ++ [r])) → w'.ownsRow base 48 5 v n (flat L) → w.grownBy w' v.ownBlock → (v.ownBlock = some g ∨ w.heap.size ≤ g) → wpList Tryd.prog ops Q rest (aa.put oo.dst (.slice (some ⟨g, 0, none⟩) (n + 1) cap)) w') : wpList Tryd.prog ops Q (oo :: rest) aa w := by
  obtain ⟨i0, hi, hz0, hz1, hz2⟩ := info_parts Tryd.infoR
  have h1 : ∀ u ∈ rcs r, u.oneCell' = true := by intro u hu; simp [rcs] at hu; rcases hu with rfl | rfl | rfl | rfl | rfl <;> rfl
  have hnews : ∀ j u, (rcs r)[j]? = some u → w.cell? ((⟨X, 0, none⟩ : Addr).add j) = some u := World.news_of_block hX
  have big : ∀ (ao : Option Addr) (cap : Nat), v = .slice ao n cap → (ao = none → n = 0 ∧ cap = 0) → (∀ b, ao = some b → ∀ j u, (flat L)[j]? = some u → w.cell? (b.add j) = some u) → cap < n + 1 → wpList Tryd.prog ops Q (oo :: rest) aa w := by
    intro ao cap hv h0 hcells hfull
    refine wpList_append_grows w hgd s x 22 ho 48 i0 _ 5 40 Tryd.underlying22 hi hz0 hz1 hz2 rfl (by decide) ao n cap (flat L) (hs.trans hv) h0 hown.1 hcells ⟨X, 0, none⟩ 1 1 (rcs r) hx rfl hnews h1 hfull (by unfold maxLen; omega) hb ?_
    intro v' w' hn hg
    have hf : ∃ g' cap', v' = .slice (some ⟨g', 0, none⟩) (n + 1) cap' ∧ w.heap.size ≤ g' := by
      rcases hn.2 with ⟨_, h0⟩ | ⟨g', cap', cur, hv', hb', _⟩
      · omega
      · exact ⟨g', cap', hv', hb'⟩
    obtain ⟨g', cap', rfl, hge⟩ := hf
    refine h g' cap' w' (by rw [flat_snoc]; exact own_mono hn hbase) (hown.kept hg (by cases v.ownBlock <;> simp)) ⟨hg.os, hg.tape, hg.output, hg.size, fun k hk _ => hg.block k hk (by simp)⟩ (.inr hge)
  have hown0 := hown
  rcases hown.2 with ⟨hv, h0⟩ | ⟨g, cap, cur, hv, hbg, hg, hnc, hcm, hcs, htk⟩
  · subst h0
    exact big none 0 hv (fun _ => ⟨rfl, rfl⟩) (fun b hb => by cases hb) (by omega)
  · by_cases hroom : n + 1 ≤ cap
    · rw [hv] at hs hown
      refine wpList_append_fits w hgd s x 22 ho base 48 i0 5 Tryd.underlying22 hi hz1 g n cap (flat L) hs hown ⟨X, 0, none⟩ 1 1 (rcs r) hx rfl hnews h1 hroom ?_
      intro w' hn hgr
      rw [← show v.ownBlock = some g by rw [hv]; rfl] at hgr
      refine h g cap w' (by rw [flat_snoc]; exact hn) ?_ hgr (.inl (by rw [hv]; rfl))
      rw [hv]
      exact own_take5 hn hown.1
    · exact big (some ⟨g, 0, none⟩) cap hv (fun h => by cases h) (fun b hb => by cases hb; exact hown0.cells (by rw [hv]; rfl)) (by omega)
/-- A list, and what it was gone on with by. -/
structure One (base S : Nat) (wr : World) (xv : Value) (n : Nat) (L : List Rc) (r : Rc) (gb gc q : Nat) : Prop where
  x : wr.ownsRow base 48 5 xv n (flat L)
  g : wr.ownsRow base 48 5 (.slice (some ⟨gb, 0, none⟩) (n + q) gc) (n + q) (flat (L ++ List.replicate q r))
  l : xv.ownBlock = some gb ∨ S ≤ gb
section
variable {base S : Nat} {wr w' : World} {xv : Value} {n : Nat} {L : List Rc} {r : Rc} {gb gc q : Nat}
theorem One.but {T : Nat → Prop} (h : One base S wr xv n L r gb gc q) (hb : But T wr w') (hx : ∀ k, xv.ownBlock = some k → ¬ T k) (hg : ¬ T gb) : One base S w' xv n L r gb gc q :=
  ⟨own_but h.x hb hx, own_but h.g hb (fun k hk e => hg (by have e1 : gb = k := Option.some.inj hk; rw [e1]; exact e)), h.l⟩
theorem One.below (h : One base S wr xv n L r gb gc q) (hb : Below wr.heap.size wr w') : One base S w' xv n L r gb gc q := h.but (T := fun _ => False) (But.of_below hb) (fun _ _ e => e) (fun e => e)
theorem One.start {W : World} {g' c' : Nat} (hS : S ≤ W.heap.size) (hn : w'.ownsRow base 48 5 (.slice (some ⟨g', 0, none⟩) (n + 1) c') (n + 1) (flat (L ++ [r]))) (hk : w'.ownsRow base 48 5 xv n (flat L)) (hl : xv.ownBlock = some g' ∨ W.heap.size ≤ g') : One base S w' xv n L r g' c' 1 :=
  ⟨hk, hn, hl.imp id (fun e => Nat.le_trans hS e)⟩
theorem One.step {g' c' : Nat} {o : Obj} (h : One base S wr xv n L r gb gc q) (hS : S ≤ wr.heap.size) (hn : w'.ownsRow base 48 5 (.slice (some ⟨g', 0, none⟩) (n + q + 1) c') (n + q + 1) (flat (L ++ List.replicate q r ++ [r]))) (hk : w'.ownsRow base 48 5 (.slice (some ⟨gb, 0, none⟩) (n + q) gc) (n + q) (flat (L ++ List.replicate q r)))
    (hg : (wr.alloc o).grownBy w' (Value.slice (some ⟨gb, 0, none⟩) (n + q) gc).ownBlock) (hl : (Value.slice (some ⟨gb, 0, none⟩) (n + q) gc).ownBlock = some g' ∨ (wr.alloc o).heap.size ≤ g') :
    One base S w' xv n L r g' c' (q + 1) ∧ But (fun k => k = gb) wr w' ∧ (g' = gb ∨ wr.heap.size ≤ g') := by
  have hb : But (fun k => k = gb) wr w' := ((But.refl _ wr).alloc o).grown hg (fun k _ e => by simpa [Value.ownBlock] using e.symm)
  have hl2 : g' = gb ∨ wr.heap.size ≤ g' := by
    rcases hl with e | e
    · left; have : gb = g' := by simpa [Value.ownBlock] using e
      exact this.symm
    · right; simp at e; omega
  refine ⟨⟨?_, ?_, ?_⟩, hb, hl2⟩
  · by_cases e1 : xv.ownBlock = some gb
    · have ho := h.x
      have hf : ∃ cx, xv = .slice (some ⟨gb, 0, none⟩) n cx := by
        rcases ho.2 with ⟨e2, _⟩ | ⟨g2, c2, cur, e2, _⟩
        · rw [e2] at e1; simp [Value.ownBlock] at e1
        · rw [e2] at e1; simp [Value.ownBlock] at e1; rw [e1] at e2; exact ⟨c2, e2⟩
      obtain ⟨cx, hxv⟩ := hf
      rw [hxv] at ho ⊢
      rw [own_caps5 ho h.g]
      rw [flat_append] at hk
      exact own_take5 hk ho.1
    · exact own_but h.x hb (fun k hk e2 => e1 (by rw [hk, e2]))
  · rw [List.replicate_succ', ← List.append_assoc, ← Nat.add_assoc]; exact hn
  · rcases hl2 with e | e
    · rw [e]; exact h.l
    · exact .inr (Nat.le_trans hS e)
/-- Where the marks stand. -/
theorem One.mark (h : One base S wr xv n L r gb gc 70) (hL : L.length = n) {k : Nat} (hk : k < 70) : wr.cell? ⟨gb, (n + k) * 5, none⟩ = some (.int .i64 r.stamp) := by
  have hi : (L ++ List.replicate 70 r)[n + k]? = some r := by rw [List.getElem?_append_right (by omega), hL, show n + k - n = k by omega, List.getElem?_replicate, if_pos hk]
  have h2 := flat_get hi (t := 0) (by omega)
  rw [h.g.cellAt ((n + k) * 5) (by omega)]
  simpa [rcs] using h2
end
theorem set5_cell {w : World} {g i : Nat} {b : Addr} {a0 a1 a2 a3 a4 v : Value} (h : w.cell? b = some v) (hne : ∀ t, t < 5 → (⟨g, i + t, none⟩ : Addr) ≠ b) : (((((w.setCell ⟨g, i, none⟩ a0).setCell ⟨g, i + 1, none⟩ a1).setCell ⟨g, i + 2, none⟩ a2).setCell ⟨g, i + 3, none⟩ a3).setCell ⟨g, i + 4, none⟩ a4).cell? b = some v := by
  rw [World.cell?_setCell_other _ _ _ _ (hne 4 (by omega)), World.cell?_setCell_other _ _ _ _ (hne 3 (by omega)), World.cell?_setCell_other _ _ _ _ (hne 2 (by omega)), World.cell?_setCell_other _ _ _ _ (hne 1 (by omega)), World.cell?_setCell_other _ _ _ _ (show (⟨g, i, none⟩ : Addr) ≠ b from hne 0 (by omega))]
  exact h
theorem set5_own {w : World} {base g n c i : Nat} {xs : List Value} {e : TypeId} (h : w.ownsRow base e 5 (.slice (some ⟨g, 0, none⟩) n c) n xs) (a0 a1 a2 a3 a4 : Value) : ∃ ys, (((((w.setCell ⟨g, i, none⟩ a0).setCell ⟨g, i + 1, none⟩ a1).setCell ⟨g, i + 2, none⟩ a2).setCell ⟨g, i + 3, none⟩ a3).setCell ⟨g, i + 4, none⟩ a4).ownsRow base e 5 (.slice (some ⟨g, 0, none⟩) n c) n ys :=
  ⟨_, ((((h.stored i a0).1.stored (i + 1) a1).1.stored (i + 2) a2).1.stored (i + 3) a3).1.stored (i + 4) a4 |>.1⟩
theorem set5_but (w : World) (g i : Nat) (a0 a1 a2 a3 a4 : Value) : But (fun k => k = g) w (((((w.setCell ⟨g, i, none⟩ a0).setCell ⟨g, i + 1, none⟩ a1).setCell ⟨g, i + 2, none⟩ a2).setCell ⟨g, i + 3, none⟩ a3).setCell ⟨g, i + 4, none⟩ a4) :=
  (((((But.refl (fun k => k = g) w).setCell ⟨g, i, none⟩ (fun _ => rfl) a0).setCell ⟨g, i + 1, none⟩ (fun _ => rfl) a1).setCell ⟨g, i + 2, none⟩ (fun _ => rfl) a2).setCell ⟨g, i + 3, none⟩ (fun _ => rfl) a3).setCell ⟨g, i + 4, none⟩ (fun _ => rfl) a4
theorem own_cell5 {w : World} {base g n c k t : Nat} {xs : List Value} {e : TypeId} (h : w.ownsRow base e 5 (.slice (some ⟨g, 0, none⟩) n c) n xs) (hk : k < n) (ht : t < 5) : ∃ v, w.cell? ⟨g, k * 5 + t, none⟩ = some v := by
  rw [h.cellAt (k * 5 + t) (by omega)]
  have hl := h.1
  exact ⟨_, List.getElem?_eq_getElem (by omega)⟩
end Go.Proofs.YtdppbaipmmcjbaaDoor
/-
  StreamOwn: records and bytes that are written over.
-/
namespace Go.Proofs.YtdppbaipmmcjbaaDoor
open Go.RowKit
theorem bits_u64 (x y : Int) : 0 ≤ bits .xor .u64 x y ∧ bits .xor .u64 x y ≤ 18446744073709551615 := by
  unfold bits
  rw [IntKind.wrap_u64]
  omega
theorem bits_u8 (x y : Int) : 0 ≤ bits .xor .u8 x y ∧ bits .xor .u8 x y ≤ 255 := by
  unfold bits
  rw [IntKind.wrap_u8]
  omega
theorem flat_cons (r : Rc) (L : List Rc) : flat (r :: L) = rcs r ++ flat L := by simp [flat]
theorem flat_set : ∀ {L : List Rc} {i t : Nat} {r r' : Rc} {v : Value}, L[i]? = some r → t < 5 → (rcs r).set t v = rcs r' → (flat L).set (i * 5 + t) v = flat (L.set i r')
  | [], _, _, _, _, _, h, _, _ => by simp at h
  | a :: L, 0, t, r, r', v, h, ht, he => by
    simp at h
    subst h
    rw [flat_cons, List.set_cons_zero, flat_cons, Nat.zero_mul, Nat.zero_add, List.set_append_left _ _ (by simp [rcs]; omega), he]
  | a :: L, i + 1, t, r, r', v, h, ht, he => by
    simp at h
    have ih := flat_set h ht he
    rw [flat_cons, List.set_cons_succ, flat_cons, List.set_append_right _ _ (by simp [rcs]; omega), show (i + 1) * 5 + t - (rcs a).length = i * 5 + t by simp [rcs]; omega, ih]
theorem own_obj {w : World} {base g n c i : Nat} {L : List Rc} {r : Rc} (h : w.ownsRow base 48 5 (.slice (some ⟨g, 0, none⟩) n c) n (flat L)) (hi : L[i]? = some r) (y : Int) : (w.setCell ⟨g, i * 5 + 2, none⟩ (.int .u64 y)).ownsRow base 48 5 (.slice (some ⟨g, 0, none⟩) n c) n (flat (L.set i { r with obj := y })) := by
  have h1 := (h.stored (i * 5 + 2) (.int .u64 y)).1
  rw [flat_set hi (r' := { r with obj := y }) (by omega) rfl] at h1
  exact h1
theorem own_arg {w : World} {base g n c i : Nat} {L : List Rc} {r : Rc} (h : w.ownsRow base 48 5 (.slice (some ⟨g, 0, none⟩) n c) n (flat L)) (hi : L[i]? = some r) (y : Int) : (w.setCell ⟨g, i * 5 + 3, none⟩ (.int .u64 y)).ownsRow base 48 5 (.slice (some ⟨g, 0, none⟩) n c) n (flat (L.set i { r with arg := y })) := by
  have h1 := (h.stored (i * 5 + 3) (.int .u64 y)).1
  rw [flat_set hi (r' := { r with arg := y }) (by omega) rfl] at h1
  exact h1
end Go.Proofs.YtdppbaipmmcjbaaDoor
