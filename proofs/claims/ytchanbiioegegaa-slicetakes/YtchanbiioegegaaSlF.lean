/-
  Slices: the document's Prefix and Take; the program's Take.
-/
import Derived.Test.YtchanbiioegegaaSlE
namespace Go.Proofs.Ytchanbiioegegaa
open Go.RowKit Go.Maps
set_option linter.unusedVariables false
set_option maxRecDepth 8000 in
theorem rprefix_bad (a : Option Addr) (n c : Nat) (k : Int) (w : World) (hk : k < 0 ∨ (n : Int) < k) :
    Calls Try.prog 6 #[.slice a n c, .int .i64 k] w fun r w' => r = .returned (.tuple #[.slice none 0 0, .int .i64 220]) ∧ w' = w := by
  by_cases h1 : k < 0
  · have d1 : decide (k < 0) = true := decide_eq_true h1
    clear hk
    go_enter Try.func6, Try.ntmps6
    go_wp2
    go_ret2
    exact ⟨rfl, rfl⟩
  · have d1 : decide (k < 0) = false := decide_eq_false h1
    have h2 : (n : Int) < k := by omega
    have d2 : decide ((n : Int) < k) = true := decide_eq_true h2
    clear hk
    go_enter Try.func6, Try.ntmps6
    go_wp2
    go_ret2
    exact ⟨rfl, rfl⟩
theorem tw_nil (w : World) (es : List E6.Ev) : E6.Tw w w es 0 [] (.slice none 0 0) := ⟨rfl, World.ownsRow_nil _ _ _ _, fun i f hf => by simp at hf, Below.refl _ _⟩
/-- One event more, made own and appended. -/
theorem tw_more {w0 wr w3 w5 : World} {es fs : List E6.Ev} {j : Nat} {v v' : Value} {e : E6.Ev} {sa : Option Addr} {sc : Nat} {o : Obj} (h : E6.Tw w0 wr es j fs v) (he : es[j]? = some e)
    (hs : w3.ownsRow wr.heap.size 9 1 (.slice sa e.ls.length sc) e.ls.length (e.ls.map Value.string)) (hcap : e.ls.length ≤ sc) (hnil : sa = none → e.ls.length = 0 ∧ sc = 0) (hb : Below wr.heap.size wr w3)
    (o5 : w5.ownsRow w0.heap.size 38 5 v' (j + 1) (E6.ecells (fs ++ [⟨e.g, e.k, e.o, e.a, sa, sc, e.ls⟩]))) (g5 : (w3.alloc o).grownBy w5 v.ownBlock) : E6.Tw w0 w5 es (j + 1) (fs ++ [⟨e.g, e.k, e.o, e.a, sa, sc, e.ls⟩]) v' :=
  h.next (f := ⟨e.g, e.k, e.o, e.a, sa, sc, e.ls⟩) he ⟨rfl, rfl, rfl, rfl, rfl⟩ hcap hnil (Below.on hb (below_alloc1 w3 o)) ((own_mono hs h.bel.size).alloc _) o5 g5
set_option maxRecDepth 8000 in
set_option maxHeartbeats 2000000 in
theorem rprefix_ok (a : Option Addr) (n c q : Nat) (es : List E6.Ev) (w : World) (hr : E6.ERow w a n es) (hok : ∀ e ∈ es, e.ok) (hn : n * 56 ≤ 140737488355328) (hq : q ≤ n) :
    Calls Try.prog 6 #[.slice a n c, .int .i64 (q : Int)] w fun r w' => ∃ fs v, r = .returned (.tuple #[v, .int .i64 0]) ∧ E6.Tw w w' es q fs v := by
  have HR := hide hr
  have HO := hide hok
  have HN := hide hn
  have h0 : (0 : Int) ≤ q := by omega
  have hqI : (q : Int) ≤ n := by omega
  have hqM : (q : Int) ≤ 9223372036854775806 := by omega
  have d1 : decide ((q : Int) < 0) = false := decide_eq_false (by omega)
  have d2 : decide ((n : Int) < q) = false := decide_eq_false (by omega)
  have d3 : decide (n < q) = false := decide_eq_false (by omega)
  clear hr hok hn
  go_enter Try.func6, Try.ntmps6
  go_wp2
  clear d1 d2 d3
  go_loopw [6, 7] (fun s6 s wr => ∃ (j : Nat) (fs : List E6.Ev) (ua : Option Addr) (uc : Nat), j ≤ q ∧ s = .int .i64 j ∧ s6 = .slice ua j uc ∧ Hid (E6.Tw w wr es j fs (.slice ua j uc))) (fun _ s _ => q - (intOf s).toNat)
  case atStart => exact ⟨0, [], none, 0, Nat.zero_le _, rfl, rfl, hide (tw_nil _ _)⟩
  case round =>
    obtain ⟨j, fs, ua, uc, hj, rfl, rfl, HT⟩ := hrel
    by_cases hlt : j < q
    · have hjI : (j : Int) < q := by omega
      have hjn : (j : Int) < n := by omega
      have hj0 : (0 : Int) ≤ j := by omega
      obtain ⟨b0, off, e, ha, hej, c0, c1, c2, c3, c4, hs⟩ := (HR.out.bel HT.out.bel).at (i := j) (by omega)
      have hme := HO.out e (List.mem_of_getElem? hej)
      have HC := hide (rown_any e wr hs (by have := hme.len; omega) hme.nil)
      have HE := hide hej
      have HQ : Hid ((j + 1) * 56 ≤ 140737488355328) := hide (by have := HN.out; omega)
      subst ha
      clear hs hme hej
      go_wp2_with fail
      refine HC.out.mono ?_
      rintro r w3 ⟨sa, sc, rfl, ho, hcap, hnil, hb3⟩
      have HS := hide (And.intro ho (And.intro hcap hnil))
      have HB3 := hide hb3
      have HEv : Hid (E6.EvB (w3.alloc (.cells #[.int .i64 e.g, .int .i64 e.k, .int .u64 e.o, .int .u64 e.a, .slice sa e.ls.length sc] 38)) w3.heap.size e.g e.k e.o e.a sa e.ls.length sc) := hide E6.EvB.new
      have HOw := hide ((own_but (S := fun _ => False) HT.out.own (But.of_below (Below.on hb3 (below_alloc1 w3 (.cells #[.int .i64 e.g, .int .i64 e.k, .int .u64 e.o, .int .u64 e.a, .slice sa e.ls.length sc] 38)))) (fun _ _ e => e)))
      have HSz : Hid (w.heap.size ≤ (w3.alloc (.cells #[.int .i64 e.g, .int .i64 e.k, .int .u64 e.o, .int .u64 e.a, .slice sa e.ls.length sc] 38)).heap.size) := hide (by rw [World.size_alloc]; have := HT.out.bel.size; have := hb3.size; omega)
      clear ho hcap hnil hb3 HC c0 c1 c2 c3 c4
      go_wp2_with (first
        | (at_builtin; refine E6.append_ev _ rfl _ _ rfl w.heap.size (.slice ua j uc) j fs rfl HOw.out w3.heap.size ⟨e.g, e.k, e.o, e.a, sa, sc, e.ls⟩ rfl HEv.out HQ.out HSz.out ?_
           intro a2 c2 w5 o5 g5 _
           have HT5 := hide (tw_more HT.out HE.out HS.out.1 HS.out.2.1 HS.out.2.2 HB3.out o5 g5)
           clear o5 g5)
        | go_in)
      exact ⟨⟨j + 1, _, a2, c2, by omega, by go_num, rfl, HT5⟩, by simp [intOf]; omega⟩
    · have h9 : j = q := by omega
      subst h9
      have hjI : ¬ (j : Int) < j := by omega
      go_wp2
      go_ret2
      exact ⟨fs, _, rfl, HT.out⟩
set_option maxRecDepth 8000 in
theorem take_bad (a : Option Addr) (n c : Nat) (a2 : Option Addr) (m c2 : Nat) (w : World) (hk : m ≠ n) :
    Calls Try.prog 8 #[.slice a n c, .slice a2 m c2] w fun r w' => r = .returned (.tuple #[.slice none 0 0, .slice none 0 0, .int .i64 220]) ∧ w' = w := by
  have b1 : ((m : Int) != (n : Int)) = true := by simp; omega
  clear hk
  go_enter Try.func8, Try.ntmps8
  go_wp2
  go_ret3
  exact ⟨rfl, rfl⟩
set_option maxRecDepth 8000 in
theorem rtake_bad (a : Option Addr) (n c : Nat) (a2 : Option Addr) (m c2 : Nat) (w : World) (hk : m ≠ n) :
    Calls Try.prog 9 #[.slice a n c, .slice a2 m c2] w fun r w' => r = .returned (.tuple #[.slice none 0 0, .slice none 0 0, .int .i64 220]) ∧ w' = w := by
  have b1 : ((m : Int) != (n : Int)) = true := by simp; omega
  clear hk
  go_enter Try.func9, Try.ntmps9
  go_wp2
  go_ret3
  exact ⟨rfl, rfl⟩
/-- What Take answers of a choice. -/
def TkR (es : List E6.Ev) (P : List Nat) (w : World) (r : Ending) (w' : World) : Prop :=
  ∃ fs a1 c1 a2 c2, r = .returned (.tuple #[.slice a1 P.length c1, .slice a2 P.length c2, .int .i64 0]) ∧ E6.Tw w w' (pkE es P) P.length fs (.slice a1 P.length c1) ∧ Li w w' (.slice a2 P.length c2) (intP P)
theorem tw_base {w0 w1 w2 : World} {L fs : List E6.Ev} {n : Nat} {v : Value} (h : E6.Tw w1 w2 L n fs v) (hb : Below w0.heap.size w0 w1) : E6.Tw w0 w2 L n fs v :=
  ⟨h.len, own_mono h.own hb.size, fun i f hf => by obtain ⟨e, h1, h2, h3, h4, h5⟩ := h.each i f hf; exact ⟨e, h1, h2, h3, h4, own_mono h5 hb.size⟩, hb.trans (h.bel.mono hb.size)⟩
theorem Li.base {w0 w1 w2 : World} {v : Value} {P : List Int} (h : Li w1 w2 v P) (hb : Below w0.heap.size w0 w1) : Li w0 w2 v P := ⟨h.own.mono hb.size, hb.trans (h.bel.mono hb.size)⟩
theorem Li.frm {w0 w1 : World} {v : Value} {P : List Int} (h : Li w0 w1 v P) : ∃ a c, v = .slice a P.length c ∧ TRow sI w1 a P.length P := by
  obtain ⟨a, c, rfl, _, _⟩ := own_form h.own
  exact ⟨a, c, rfl, h.own.row rfl⟩
theorem tw_frm {w0 w1 : World} {L fs : List E6.Ev} {n : Nat} {v : Value} (h : E6.Tw w0 w1 L n fs v) : ∃ a c, v = .slice a n c := by
  obtain ⟨a, c, rfl, _, _⟩ := own_form h.own
  exact ⟨a, c, rfl⟩
set_option maxRecDepth 8000 in
set_option maxHeartbeats 2000000 in
theorem take_ok (a : Option Addr) (n c : Nat) (es : List E6.Ev) (a2 : Option Addr) (c2 : Nat) (ks : List Bool) (w : World) (hr : E6.ERow w a n es) (hok : ∀ e ∈ es, e.ok) (hn : n * 56 ≤ 140737488355328) (hb : TRow sB w a2 n ks) :
    Calls Try.prog 8 #[.slice a n c, .slice a2 n c2] w (TkR es (plc ks n) w) := by
  have HR := hide hr
  have HO := hide hok
  have HN := hide hn
  have HP := hide (places_any a2 n c2 ks w hb hn)
  have b1 : ((n : Int) != (n : Int)) = false := by simp
  clear hr hok hn hb
  go_enter Try.func8, Try.ntmps8
  go_wp2_with fail
  refine HP.out.mono ?_
  rintro r w1 ⟨v, rfl, hL⟩
  obtain ⟨a3, c3, rfl, hrow⟩ := hL.frm
  rw [intP_len] at hrow
  have HTk := hide (taken_any a n c es a3 (plc ks n).length c3 (plc ks n) w1 (HR.out.bel hL.bel) HO.out HN.out hrow (fun p hp => plc_lt ks n p hp) (plc_le ks n))
  have HL := hide hL
  rw [intP_len] at HL ⊢
  obtain ⟨m, hm⟩ : ∃ m, m = (plc ks n).length := ⟨_, rfl⟩
  rw [← hm] at HTk HL ⊢
  have HM := hide hm
  clear hrow hL HP hm
  go_wp2_with fail
  refine HTk.out.mono ?_
  rintro r w2 ⟨fs, v, rfl, hT⟩
  obtain ⟨a4, c4, rfl⟩ := tw_frm hT
  have HT := hide hT
  clear hT HTk
  go_wp2
  go_ret3
  exact ⟨fs, a4, c4, a3, c3, by rw [← HM.out]; rfl, by rw [← HM.out]; exact tw_base HT.out HL.out.bel, by rw [← HM.out]; exact HL.out.on HT.out.bel⟩
end Go.Proofs.Ytchanbiioegegaa
