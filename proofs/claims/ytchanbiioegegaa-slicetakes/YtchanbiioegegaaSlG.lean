/-
  Slices: the document's Take.
-/
import Derived.Test.YtchanbiioegegaaSlF
namespace Go.Proofs.Ytchanbiioegegaa
open Go.RowKit Go.Maps
set_option linter.unusedVariables false
theorem tw_but {S : Nat → Prop} {w0 w1 w2 : World} {L fs : List E6.Ev} {n : Nat} {v : Value} (h : E6.Tw w0 w1 L n fs v) (hb : But S w1 w2) (hS : ∀ q cur t, S q → w1.heap[q]? = some (.cells cur t (0, 0)) → t ≠ 38 ∧ t ≠ 9) (hge : ∀ q, S q → w0.heap.size ≤ q) : E6.Tw w0 w2 L n fs v := by
  have hne : ∀ {e z : Nat} {x : Value} {m : Nat} {xs : List Value}, w1.ownsRow w0.heap.size e z x m xs → e = 38 ∨ e = 9 → ∀ g, x.ownBlock = some g → ¬ S g := fun {e z x m xs} ho he g hg hs => by
    rcases ho.2 with ⟨hv, _⟩ | ⟨g1, c1, cur, hv, _, hh, _⟩
    · rw [hv] at hg; simp [Value.ownBlock] at hg
    · rw [hv] at hg
      have e1 : g1 = g := by simpa [Value.ownBlock] using hg
      subst e1
      obtain ⟨q1, q2⟩ := hS g1 cur e hs hh
      rcases he with h9 | h9
      · exact q1 h9
      · exact q2 h9
  refine ⟨h.len, own_but h.own hb (hne h.own (.inl rfl)), fun i f hf => ?_, h.bel.trans (hb.below h.bel.size hge)⟩
  obtain ⟨e, h1, h2, h3, h4, h5⟩ := h.each i f hf
  exact ⟨e, h1, h2, h3, h4, own_but h5 hb (hne h5 (.inr rfl))⟩
/-- A list of numbers stays where a list of events grows. -/
theorem Li.ev {w0 w1 w2 : World} {L fs : List E6.Ev} {n : Nat} {v u : Value} {P : List Int} (h : Li w0 w1 u P) (ht : E6.Tw w0 w1 L n fs v) (hg : w1.grownBy w2 v.ownBlock) : Li w0 w2 u P := by
  refine ⟨h.own.but (S := fun q => v.ownBlock = some q) ((But.refl _ w1).grown hg (fun k _ e => e)) (fun g hg1 hg2 => ?_), h.bel.grown hg h.bel.size (fun k hk => (ht.own.lt k hk).1)⟩
  obtain ⟨cur, hc⟩ := own_ty h.own hg1
  rcases ht.own.2 with ⟨hv, _⟩ | ⟨g1, c1, cur1, hv, _, hh, _⟩
  · rw [hv] at hg2; simp [Value.ownBlock] at hg2
  · rw [hv] at hg2
    have e1 : g1 = g := by simpa [Value.ownBlock] using hg2
    subst e1
    rw [hh] at hc
    simp at hc
/-- A list of events stays where a list of numbers grows. -/
theorem tw_li {w0 w1 w2 : World} {L fs : List E6.Ev} {n : Nat} {v u : Value} {P : List Int} (ht : E6.Tw w0 w1 L n fs v) (h : Li w0 w1 u P) (hg : w1.grownBy w2 u.ownBlock) : E6.Tw w0 w2 L n fs v := by
  refine tw_but ht (S := fun q => u.ownBlock = some q) ((But.refl _ w1).grown hg (fun k _ e => e)) (fun q cur t hq hc => ?_) (fun q hq => (h.own.lt q hq).1)
  obtain ⟨cur1, hc1⟩ := own_ty h.own hq
  rw [hc1] at hc
  simp at hc
  obtain ⟨_, rfl⟩ := hc
  exact ⟨by decide, by decide⟩
set_option maxRecDepth 8000 in
set_option maxHeartbeats 4000000 in
theorem rtake_ok (a : Option Addr) (n c : Nat) (es : List E6.Ev) (a2 : Option Addr) (c2 : Nat) (ks : List Bool) (w : World) (hr : E6.ERow w a n es) (hok : ∀ e ∈ es, e.ok) (hn : n * 56 ≤ 140737488355328) (hb : TRow sB w a2 n ks) :
    Calls Try.prog 9 #[.slice a n c, .slice a2 n c2] w (TkR es (plc ks n) w) := by
  have HR := hide hr
  have HO := hide hok
  have HN := hide hn
  have HB := hide hb
  have HL := hide hb.len
  have b1 : ((n : Int) != (n : Int)) = false := by simp
  have hnM : (n : Int) ≤ 9223372036854775806 := by omega
  obtain ⟨i0, hi0, hz0, hz1, hz2⟩ := info_parts sInfoI
  clear hr hok hn hb
  go_enter Try.func9, Try.ntmps9
  go_wp2
  clear b1
  go_loopw [7, 8, 9] (fun s7 s8 s wr => ∃ (j : Nat) (fs : List E6.Ev) (k : Nat) (ua : Option Addr) (uc : Nat) (va : Option Addr) (vc : Nat), j ≤ n ∧ s = .int .i64 j ∧ s7 = .slice ua k uc ∧ s8 = .slice va k vc ∧ Hid (k = (plc ks j).length) ∧ Hid (E6.Tw w wr (pkE es (plc ks n)) k fs (.slice ua k uc) ∧ Li w wr (.slice va k vc) (intP (plc ks j)))) (fun _ _ s _ => n - (intOf s).toNat)
  case atStart => exact ⟨0, [], 0, none, 0, none, 0, Nat.zero_le _, rfl, rfl, rfl, hide rfl, hide ⟨tw_nil _ _, Li.nil w⟩⟩
  case round =>
    obtain ⟨j, fs, k, ua, uc, va, vc, hj, rfl, rfl, rfl, HK, HT⟩ := hrel
    by_cases hlt : j < n
    · have hjI : (j : Int) < n := by omega
      have hj0 : (0 : Int) ≤ j := by omega
      obtain ⟨x, hx⟩ : ∃ x, ks[j]? = some x := ⟨_, List.getElem?_eq_getElem (by rw [HL.out]; exact hlt)⟩
      obtain ⟨b1, o1, e1, d1⟩ := sB_cell (HB.out.below HT.out.1.bel) hx
      subst e1
      cases x with
      | false =>
        have HP : Hid (plc ks (j + 1) = plc ks j) := hide (plc_f hx)
        clear hx
        go_wp2
        exact ⟨⟨j + 1, fs, k, ua, uc, va, vc, by omega, by go_num, rfl, rfl, hide (by rw [HP.out]; exact HK.out), hide (by rw [HP.out]; exact HT.out)⟩, by simp [intOf]; omega⟩
      | true =>
        obtain ⟨b0, off, e, ha, hej, c0, c1, c2, c3, c4, hs⟩ := (HR.out.bel HT.out.1.bel).at (i := j) hlt
        have hme := HO.out e (List.mem_of_getElem? hej)
        have HC := hide (rown_any e wr hs (by have := hme.len; omega) hme.nil)
        have HP : Hid (plc ks (j + 1) = plc ks j ++ [j]) := hide (plc_t hx)
        have HE : Hid ((pkE es (plc ks n))[k]? = some e) := hide (pkE_at (by rw [HK.out]; exact plc_at hx hlt) hej)
        have HKn : Hid (k ≤ j) := hide (by rw [HK.out]; exact plc_le ks j)
        have HQ : Hid ((k + 1) * 56 ≤ 140737488355328) := hide (by have := HN.out; have := HKn.out; omega)
        subst ha
        clear hs hme hej hx
        go_wp2_with fail
        refine HC.out.mono ?_
        rintro r w3 ⟨sa, sc, rfl, ho, hcap, hnil, hb3⟩
        have HS := hide (And.intro ho (And.intro hcap hnil))
        have HB3 := hide hb3
        have HEv : Hid (E6.EvB (w3.alloc (.cells #[.int .i64 e.g, .int .i64 e.k, .int .u64 e.o, .int .u64 e.a, .slice sa e.ls.length sc] 38)) w3.heap.size e.g e.k e.o e.a sa e.ls.length sc) := hide E6.EvB.new
        have hb4 := Below.on hb3 (below_alloc1 w3 (.cells #[.int .i64 e.g, .int .i64 e.k, .int .u64 e.o, .int .u64 e.a, .slice sa e.ls.length sc] 38))
        have HTw4 := hide (tw_on HT.out.1 hb4)
        have HLi4 := hide (HT.out.2.on hb4)
        have HSz : Hid (w.heap.size ≤ (w3.alloc (.cells #[.int .i64 e.g, .int .i64 e.k, .int .u64 e.o, .int .u64 e.a, .slice sa e.ls.length sc] 38)).heap.size) := hide HTw4.out.bel.size
        have HPI : Hid (intP (plc ks (j + 1)) = intP (plc ks j) ++ [(j : Int)]) := hide (by rw [HP.out, intP_snoc])
        have HPl : Hid ((intP (plc ks j)).length = k) := hide (by rw [intP_len, HK.out])
        clear ho hcap hnil hb3 hb4 HC c0 c1 c2 c3 c4 d1
        generalize intP (plc ks j) = PP at HT HLi4 HPI HPl
        go_wp2_with (first
          | (at_builtin; refine E6.append_ev _ rfl _ _ rfl w.heap.size (.slice ua k uc) k fs rfl HTw4.out.own w3.heap.size ⟨e.g, e.k, e.o, e.a, sa, sc, e.ls⟩ rfl HEv.out HQ.out HSz.out ?_
             intro a2 c2 w5 o5 g5 _
             have HT5 := hide (tw_more HT.out.1 HE.out HS.out.1 HS.out.2.1 HS.out.2.2 HB3.out o5 g5)
             have HLi5 := hide (HLi4.out.ev HTw4.out g5)
             have HLi6 := hide (HLi5.out.on (below_alloc1 w5 (.cells #[.int .i64 (j : Int)] 3)))
             have HT6 := hide (tw_on HT5.out (below_alloc1 w5 (.cells #[.int .i64 (j : Int)] 3)))
             have HTr := hide (TRow.one (y := sI) (w := w5.alloc (.cells #[.int .i64 (j : Int)] 3)) (B := w5.heap.size) (x := (j : Int)) (heap_new w5 (.cells #[.int .i64 (j : Int)] 3)))
             clear o5 g5)
          | (at_builtin; refine append_lay sI _ 29 3 i0 _ 8 Try.underlying29 hi0 hz0 hz1 hz2 rfl rfl _ _ rfl w.heap.size (.slice va k vc) PP rfl HLi6.out.own _ 1 1 [(j : Int)] rfl HTr.out (fun e => by cases e) (by unfold maxLen; have := HPl.out; have := HQ.out; omega) (by have := HPl.out; have := HQ.out; omega) HLi6.out.bel.size ?_
             intro v' w7 o7 g7 l7
             have HLi7 : Hid (Li w w7 v' (intP (plc ks (j + 1)))) := hide (by rw [HPI.out]; exact HLi6.out.push o7 g7)
             have HT7 := hide (tw_li HT6.out HLi6.out g7)
             obtain ⟨a7, c7, hv7⟩ : ∃ a7 c7, v' = .slice a7 (k + 1) c7 := by
               obtain ⟨a7, c7, hv, _⟩ := HLi7.out.frm
               exact ⟨a7, c7, by rw [hv, intP_len, HP.out, List.length_append, HK.out]; rfl⟩
             subst hv7
             clear o7 g7 l7)
          | go_in)
        exact ⟨⟨j + 1, _, k + 1, a2, c2, a7, c7, by omega, by go_num, rfl, rfl, hide (by rw [HP.out, List.length_append, HK.out]; rfl), hide ⟨HT7.out, HLi7.out⟩⟩, by simp [intOf]; omega⟩
    · have h9 : j = n := by omega
      subst h9
      have hjI : ¬ (j : Int) < j := by omega
      go_wp2
      go_ret3
      exact ⟨fs, ua, uc, va, vc, by rw [← HK.out]; rfl, by rw [← HK.out]; exact HT.out.1, by rw [← HK.out]; exact HT.out.2⟩
end Go.Proofs.Ytchanbiioegegaa
