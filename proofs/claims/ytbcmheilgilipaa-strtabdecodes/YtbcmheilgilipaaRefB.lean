/-
  The document's bodies.
-/
import Derived.Test.YtbcmheilgilipaaRefA
namespace Go.Proofs.Ytbcmheilgilipaa
open Go.RowKit Go.Maps
theorem record_any (s : ByteArray) (w : World) (hs : (s.size : Int) ≤ 65536) :
    Calls Try.prog 53 #[.string s] w fun e w' => ∃ a c, e = .returned (.slice a (recd s).length c) ∧ w'.ownsRow w.heap.size 5 1 (.slice a (recd s).length c) (recd s).length ((recd s).map (Value.int .u8)) ∧ Below w.heap.size w w' := by
  obtain ⟨Z, hZ⟩ : ∃ Z : Int, Z = ((s.size : Nat) : Int) := ⟨_, rfl⟩
  have hlen : ∀ (ty : TypeId) (W : World), (Builtin.len_ #[9] ty #[.string s]).run Try.prog W = .ok (.int .i64 Z) W := fun ty W => by rw [hZ]; exact run_len_string W 9 ty s Try.underlying9
  have h10 : ((enc s.size).length : Int) ≤ 10 := by have := enc_le s.size (by omega); omega
  rw [← hZ] at hs
  have hZ0 : 0 ≤ Z := by omega
  have Q := ruv_any Z w hZ0 (by omega)
  rw [show Z.toNat = s.size by omega] at Q
  have HQ : Hid _ := hide Q
  have HZ : Hid (Z = ((s.size : Nat) : Int)) := hZ
  have HR : Hid (recd s = enc s.size ++ sbytes s) := rfl
  have HRL : Hid ((recd s).length = (enc s.size).length + s.size) := recd_len s
  clear Q hZ
  go_enter Try.func53, Try.ntmps53
  go_wp2_with fail
  refine HQ.out.mono ?_
  rintro e w1 ⟨v1, rfl, ho1, hb1⟩
  obtain ⟨a1, c1, rfl⟩ := own_formB ho1
  have HO : Hid (w1.ownsRow w.heap.size 5 1 (.slice a1 (enc s.size).length c1) (enc s.size).length ((enc s.size).map (Value.int .u8))) := ho1
  have HB : Hid (Below w.heap.size w w1) := hb1
  clear ho1 hb1
  go_wp2_with (first
    | (at_builtin; refine append_bytes _ rfl _ _ rfl w.heap.size (.slice a1 (enc s.size).length c1) (enc s.size).length (enc s.size) rfl HO.out s rfl (by have := HZ.out; omega) HB.out.size ?_
       intro a2 c2 w2 o2 g2)
    | go_in)
  go_ret
  refine ⟨a2, c2, by rw [HRL.out]; rfl, by rw [HRL.out, HR.out]; exact o2, HB.out.grown g2 HB.out.size (fun k hk => (HO.out.lt k hk).1)⟩
/-- What Bodies has at the string i: bodies that are done, the one under way. -/
def Under (L : List ByteArray) (lim i : Nat) (bs : List (List Int)) (first : Nat) (B : List Int) : Prop :=
  CutTo L lim 0 bs first ∧ ((i = 0 ∧ first = 0 ∧ B = []) ∨ (first < i ∧ B = bodyOf L first (i - first) ∧ (1 < i - first → B.length ≤ lim)))
theorem under_flush {L : List ByteArray} {lim i first : Nat} {bs : List (List Int)} {B : List Int} {s : ByteArray} (h : Under L lim i bs first B) (hs : L[i]? = some s) (hB : 0 < B.length) (hf : lim < B.length + (recd s).length) :
    Under L lim (i + 1) (bs ++ [B]) i (enc i ++ recd s) := by
  obtain ⟨hc, h | ⟨h1, h2, h3⟩⟩ := h
  · rw [h.2.2] at hB; simp at hB
  · have hi := (List.getElem?_eq_some_iff.1 hs).1
    have hcu : Cut L lim first (i - first) := ⟨by omega, by omega, fun h => by rw [← h2]; exact h3 h, fun s' hs' => by
      rw [show first + (i - first) = i by omega, hs] at hs'; cases hs'; rw [← h2]; exact hf⟩
    have hc2 := hc.snoc hcu
    rw [← h2, show first + (i - first) = i by omega] at hc2
    refine ⟨hc2, .inr ⟨by omega, ?_, fun h => by omega⟩⟩
    rw [show i + 1 - i = 0 + 1 by omega, bodyOf_succ (L := L) (first := i) (k := 0) (by simpa using hs), bodyOf_zero]
theorem under_more {L : List ByteArray} {lim i first : Nat} {bs : List (List Int)} {B : List Int} {s : ByteArray} (h : Under L lim i bs first B) (hs : L[i]? = some s) (hB : 0 < B.length) (hf : ¬ lim < B.length + (recd s).length) :
    Under L lim (i + 1) bs first (B ++ recd s) := by
  obtain ⟨hc, h | ⟨h1, h2, h3⟩⟩ := h
  · rw [h.2.2] at hB; simp at hB
  · refine ⟨hc, .inr ⟨by omega, ?_, fun _ => by rw [List.length_append]; omega⟩⟩
    rw [show i + 1 - first = (i - first) + 1 by omega, bodyOf_succ (s := s) (by rw [show first + (i - first) = i by omega]; exact hs), ← h2]
theorem under_first {L : List ByteArray} {lim i first : Nat} {bs : List (List Int)} {B : List Int} {s : ByteArray} (h : Under L lim i bs first B) (hs : L[i]? = some s) (hB : ¬ 0 < B.length) :
    i = 0 ∧ B = [] ∧ Under L lim (i + 1) bs first (enc i ++ recd s) := by
  obtain ⟨hc, h | ⟨h1, h2, h3⟩⟩ := h
  · refine ⟨h.1, h.2.2, hc, .inr ⟨by omega, ?_, fun h' => by omega⟩⟩
    obtain ⟨rfl, rfl, _⟩ := h
    rw [show 0 + 1 - 0 = 0 + 1 by omega, bodyOf_succ (L := L) (first := 0) (k := 0) (s := s) (by simpa using hs), bodyOf_zero]
  · rw [h2] at hB
    unfold bodyOf at hB
    rw [List.length_append] at hB
    have := enc_pos first
    omega
theorem under_end {L : List ByteArray} {lim first : Nat} {bs : List (List Int)} {B : List Int} (h : Under L lim L.length bs first B) (hB : 0 < B.length) : Cutting L lim 0 (bs ++ [B]) := by
  obtain ⟨hc, h | ⟨h1, h2, h3⟩⟩ := h
  · rw [h.2.2] at hB; simp at hB
  · have hcu : Cut L lim first (L.length - first) := ⟨by omega, by omega, fun h => by rw [← h2]; exact h3 h, fun s' hs' => by
      have := (List.getElem?_eq_some_iff.1 hs').1; omega⟩
    have hc2 := hc.snoc hcu
    rw [← h2, show first + (L.length - first) = L.length by omega] at hc2
    exact hc2.all
theorem under_none {L : List ByteArray} {lim first : Nat} {bs : List (List Int)} {B : List Int} (h : Under L lim L.length bs first B) (hB : ¬ 0 < B.length) : Cutting L lim 0 bs := by
  obtain ⟨hc, h | ⟨h1, h2, h3⟩⟩ := h
  · have e : first = L.length := by omega
    rw [e] at hc; exact hc.all
  · rw [h2] at hB
    unfold bodyOf at hB
    rw [List.length_append] at hB
    have := enc_pos first
    omega
theorem under_len {L : List ByteArray} {lim i first : Nat} {bs : List (List Int)} {B : List Int} (h : Under L lim i bs first B) (hi : i ≤ L.length) (hl : L.length ≤ 65536) (ht : total L ≤ 4194304) (hs : ∀ s ∈ L, s.size ≤ 65536) : B.length ≤ 10000000 ∧ ∀ z ∈ B, 0 ≤ z ∧ z ≤ 255 := by
  obtain ⟨hc, h | ⟨h1, h2, h3⟩⟩ := h
  · rw [h.2.2]; simp
  · rw [h2]; exact ⟨bodyOf_len (by omega) hl ht hs _, bodyOf_u8 _ _ _⟩
theorem CutTo.most {L : List ByteArray} {lim : Nat} {bs : List (List Int)} {first last : Nat} (h : CutTo L lim first bs last) : first + bs.length ≤ last := by
  induction bs generalizing first with
  | nil => have e : first = last := h; simp [e]
  | cons b bs ih =>
    obtain ⟨c, h1, _, h3⟩ := h
    have := ih h3; have := h1.pos
    rw [List.length_cons]; omega
theorem under_most {L : List ByteArray} {lim i first : Nat} {bs : List (List Int)} {B : List Int} (h : Under L lim i bs first B) : bs.length ≤ i := by
  have := h.1.most
  obtain ⟨hc, h | ⟨h1, h2, h3⟩⟩ := h <;> omega
/-- 'append(b, raw...)', b the call's own, and where it lies then. -/
theorem append_row_at (w : World) {ops : Array Oper} {rest : List Oper} {o : Oper} {a : Act} {Q : Exit → Act → World → Prop} (hgd : o.guard = none) (s x : Operand)
    (ho : o.op = .call { callee := .builtin .append, args := #[s, x], argTypes := #[31, 31] }) (base : Nat)
    (v : Value) (n : Nat) (xs : List Int) (hs : a.eval s = v) (hown : w.ownsRow base 5 1 v n (xs.map (Value.int .u8)))
    (ra : Option Addr) (m c : Nat) (zs : List Int) (hx : a.eval x = .slice ra m c) (hr : Row w ra m zs) (h0 : ra = none → m = 0 ∧ c = 0)
    (hb : n + m ≤ 140737488355328) (hbase : base ≤ w.heap.size)
    (h : ∀ (a' : Option Addr) (c' : Nat) w', w'.ownsRow base 5 1 (.slice a' (n + m) c') (n + m) ((xs ++ zs).map (Value.int .u8)) → w.grownBy w' v.ownBlock → ((Value.slice a' (n + m) c').ownBlock = v.ownBlock ∨ (Value.slice a' (n + m) c').ownBlock = some w.heap.size) → wpList Try.prog ops Q rest (a.put o.dst (.slice a' (n + m) c')) w') : wpList Try.prog ops Q (o :: rest) a w := by
  obtain ⟨i0, hi, hz0, hz1, hz2⟩ := info_parts Try.info5
  cases ra with
  | none =>
    obtain ⟨rfl, rfl⟩ := h0 rfl
    have e1 := List.length_eq_zero_iff.1 hr.len
    subst e1
    obtain ⟨a', c', rfl⟩ := own_form hown
    refine wpList_append_own_none hgd s x 31 ho base 5 i0 1 Try.underlying31 hi _ n _ hs hown hx (h a' c' w (by simpa using hown) (World.grownBy.refl w _) (.inl rfl))
  | some ad =>
    refine wpList_append_own_at w hgd s x 31 ho base 5 i0 (.int .u8 0) 1 1 Try.underlying31 hi hz0 hz1 hz2 rfl (by decide) v n _ hs hown ad m c (zs.map (Value.int .u8)) hx (by have := hr.len; simpa using this) (row_cells hr) (ints_oneCell _ _) (by unfold maxLen; omega) (by omega) hbase ?_
    intro v' w' h1 h2 _ h3
    obtain ⟨a', c', rfl⟩ := own_form h1
    exact h a' c' w' (by rw [List.map_append]; exact h1) h2 h3
theorem Lists.take_in {w w2 : World} {base : Nat} {v : Value} {bs : List (List Int)} {vals : List Value} {b : List Int} {a1 : Option Addr} {c1 : Nat} {a2 : Option Addr} {c2 : Nat} (h : Lists w base v bs vals)
    (ho1 : w.ownsRow base 5 1 (.slice a1 b.length c1) b.length (b.map (Value.int .u8))) (hu : ∀ z ∈ b, 0 ≤ z ∧ z ≤ 255) (hap : ∀ x ∈ vals, ∀ g, x.ownBlock = some g → (Value.slice a1 b.length c1).ownBlock ≠ some g)
    (o2 : w2.ownsRow base 31 1 (.slice a2 (bs.length + 1) c2) (bs.length + 1) (vals ++ [.slice a1 b.length c1])) (g2 : (w.alloc (.cells #[.slice a1 b.length c1] 31)).grownBy w2 v.ownBlock) :
    Lists w2 base (.slice a2 (bs.length + 1) c2) (bs ++ [b]) (vals ++ [.slice a1 b.length c1]) := by
  have hl := h.len
  have k2 : But (fun k => v.ownBlock = some k) w w2 := (But.refl _ w).alloc _ |>.grown g2 (fun k _ e => e)
  have hone : w2.ownsRow base 5 1 (.slice a1 b.length c1) b.length (b.map (Value.int .u8)) := own_but ho1 k2 (fun g hg e => own_types ho1 h.own (by decide) g hg e)
  have hold : ∀ x ∈ vals, ∀ g, x.ownBlock = some g → ¬ v.ownBlock = some g := by
    intro x hx g hg e
    obtain ⟨b', _, a', c', rfl, ho⟩ := h.row hx
    exact own_types ho h.own (by decide) g hg e
  refine ⟨by rw [List.length_append]; exact o2, fun i b' hi => ?_, ?_, ?_⟩
  · by_cases hlt : i < bs.length
    · rw [List.getElem?_append_left hlt] at hi
      obtain ⟨a', c', e1, e2⟩ := h.each i b' hi
      exact ⟨a', c', by rw [List.getElem?_append_left (by omega)]; exact e1, own_but e2 k2 (hold _ (List.mem_of_getElem? e1))⟩
    · have hi2 := (List.getElem?_eq_some_iff.1 hi).1
      simp at hi2
      have e0 : i = bs.length := by omega
      subst e0
      rw [List.getElem?_append_right (Nat.le_refl _)] at hi
      simp at hi
      subst hi
      exact ⟨a1, c1, by rw [← hl, List.getElem?_append_right (Nat.le_refl _)]; simp, hone⟩
  · rw [List.pairwise_append]
    refine ⟨h.apart, List.pairwise_singleton _ _, ?_⟩
    intro x hx y hy
    simp at hy
    subst hy
    exact hap x hx
  · intro b' hb'
    rcases List.mem_append.1 hb' with hb' | hb'
    · exact h.u8 b' hb'
    · simp at hb'; subst hb'; exact hu
theorem Lists.lt {w : World} {base : Nat} {v : Value} {bs : List (List Int)} {vals : List Value} (h : Lists w base v bs vals) {x : Value} (hx : x ∈ vals) {g : Nat} (hg : x.ownBlock = some g) : g < w.heap.size := by
  obtain ⟨b, _, a, c, rfl, ho⟩ := h.row hx
  exact (ho.lt g hg).2
theorem begun {w w2 w3 w4 : World} {out : Value} {bs : List (List Int)} {vals : List Value} {a3 a4 : Option Addr} {c3 c4 : Nat} {E R : List Int} (hls : Lists w2 w.heap.size out bs vals) (hB : Below w.heap.size w w2)
    (ho3 : w3.ownsRow w2.heap.size 5 1 (.slice a3 E.length c3) E.length (E.map (Value.int .u8))) (hb3 : Below w2.heap.size w2 w3)
    (g4 : w3.grownBy w4 (Value.slice a3 E.length c3).ownBlock) (hloc : (Value.slice a4 (E.length + R.length) c4).ownBlock = (Value.slice a3 E.length c3).ownBlock ∨ (Value.slice a4 (E.length + R.length) c4).ownBlock = some w3.heap.size) :
    Lists w4 w.heap.size out bs vals ∧ (∀ x ∈ vals, ∀ g, x.ownBlock = some g → (Value.slice a4 (E.length + R.length) c4).ownBlock ≠ some g) ∧ Below w.heap.size w w4 := by
  have hls3 := hls.below hb3
  have k4 : But (fun k => (Value.slice a3 E.length c3).ownBlock = some k) w3 w4 := But.of_grown g4 (fun k e => e)
  refine ⟨hls3.but k4 (fun g hg e => own_types hls3.own ho3 (by decide) g hg e) (fun x hx g hg e => ?_), fun x hx g hg e => ?_, (hB.trans (hb3.mono hB.size)).grown g4 (Nat.le_trans hB.size hb3.size) (fun k hk => Nat.le_trans hB.size (ho3.lt k hk).1)⟩
  · have := hls.lt hx hg; have := (ho3.lt g e).1; omega
  · have h1 := hls.lt hx hg
    have h2 := hb3.size
    rcases hloc with e1 | e1
    · have := (ho3.lt g (e1.symm.trans e)).1; omega
    · rw [e1] at e; cases e; omega
theorem longer {w w1 w4 : World} {out : Value} {bs : List (List Int)} {vals : List Value} {ab a4 : Option Addr} {cb c4 : Nat} {B R : List Int} (hls : Lists w1 w.heap.size out bs vals) (hB : Below w.heap.size w w1)
    (hob : w1.ownsRow w.heap.size 5 1 (.slice ab B.length cb) B.length (B.map (Value.int .u8))) (hap : ∀ x ∈ vals, ∀ g, x.ownBlock = some g → (Value.slice ab B.length cb).ownBlock ≠ some g)
    (g4 : w1.grownBy w4 (Value.slice ab B.length cb).ownBlock) (hloc : (Value.slice a4 (B.length + R.length) c4).ownBlock = (Value.slice ab B.length cb).ownBlock ∨ (Value.slice a4 (B.length + R.length) c4).ownBlock = some w1.heap.size) :
    Lists w4 w.heap.size out bs vals ∧ (∀ x ∈ vals, ∀ g, x.ownBlock = some g → (Value.slice a4 (B.length + R.length) c4).ownBlock ≠ some g) ∧ Below w.heap.size w w4 := by
  have k4 : But (fun k => (Value.slice ab B.length cb).ownBlock = some k) w1 w4 := But.of_grown g4 (fun k e => e)
  refine ⟨hls.but k4 (fun g hg e => own_types hls.own hob (by decide) g hg e) (fun x hx g hg e => hap x hx g hg e), fun x hx g hg e => ?_, hB.grown g4 hB.size (fun k hk => (hob.lt k hk).1)⟩
  have h1 := hls.lt hx hg
  rcases hloc with e1 | e1
  · exact hap x hx g hg (e1.symm.trans e)
  · rw [e1] at e; cases e; omega
set_option maxHeartbeats 2000000 in
set_option maxRecDepth 4000 in
theorem rbodies_any (a : Option Addr) (c lim : Nat) (L : List ByteArray) (w : World) (hr : SRow w a L.length L) (hl : L.length ≤ 65536) (ht : total L ≤ 4194304) (hs : ∀ s ∈ L, s.size ≤ 65536) (hlim : (lim : Int) ≤ 1048576) :
    Calls Try.prog 42 #[.slice a L.length c, .int .i64 (lim : Int)] w fun e w' => ∃ a' c' bs vals, e = .returned (.slice a' bs.length c') ∧ Cutting L lim 0 bs ∧ Lists w' w.heap.size (.slice a' bs.length c') bs vals ∧ Below w.heap.size w w' := by
  have HR : Hid (SRow w a L.length L) := hr
  have HL : Hid (L.length ≤ 65536 ∧ total L ≤ 4194304 ∧ (∀ s ∈ L, s.size ≤ 65536)) := ⟨hl, ht, hs⟩
  have hLi : (L.length : Int) ≤ 9223372036854775806 := by omega
  clear hr hl ht hs
  go_enter Try.func42, Try.ntmps42
  go_wp2
  go_loopw [5, 6, 7] (fun o b i wr => ∃ (k first : Nat) (ao : Option Addr) (co : Nat) (bs : List (List Int)) (vals : List Value) (ab : Option Addr) (cb : Nat) (B : List Int), k ≤ L.length ∧ i = .int .i64 k ∧ o = .slice ao bs.length co ∧ b = .slice ab B.length cb ∧ Under L lim k bs first B ∧
      Lists wr w.heap.size (.slice ao bs.length co) bs vals ∧ wr.ownsRow w.heap.size 5 1 (.slice ab B.length cb) B.length (B.map (Value.int .u8)) ∧ (∀ x ∈ vals, ∀ g, x.ownBlock = some g → (Value.slice ab B.length cb).ownBlock ≠ some g) ∧ Below w.heap.size w wr) (fun _ _ i _ => L.length - (intOf i).toNat)
  case atStart => exact ⟨0, 0, none, 0, [], [], none, 0, [], Nat.zero_le _, rfl, rfl, rfl, ⟨rfl, .inl ⟨rfl, rfl, rfl⟩⟩, Lists.nil _ _, World.ownsRow_nil _ _ _ _, by simp, Below.refl _ _⟩
  case round =>
    obtain ⟨k, first, ao, co, bs, vals, ab, cb, B, hk, rfl, rfl, rfl, hun, hls, hob, hap, hbel⟩ := hrel
    have HU : Hid (Under L lim k bs first B) := hun
    have HLs : Hid (Lists wr w.heap.size (.slice ao bs.length co) bs vals) := hls
    have HOb : Hid (wr.ownsRow w.heap.size 5 1 (.slice ab B.length cb) B.length (B.map (Value.int .u8))) := hob
    have HAp : Hid (∀ x ∈ vals, ∀ g, x.ownBlock = some g → (Value.slice ab B.length cb).ownBlock ≠ some g) := hap
    have HB : Hid (Below w.heap.size w wr) := hbel
    have HBl : Hid (B.length ≤ 10000000 ∧ ∀ z ∈ B, 0 ≤ z ∧ z ≤ 255) := under_len hun hk HL.out.1 HL.out.2.1 HL.out.2.2
    by_cases hlt : k < L.length
    · obtain ⟨bo, oo, rfl, hco⟩ := (HR.out.below hbel).at hlt
      have hsk : Hid (L[k]? = some (L.getD k ByteArray.empty)) := hide (by rw [List.getD_eq_getElem?_getD]; simp [hlt])
      have hsz : ((L.getD k ByteArray.empty).size : Int) ≤ 65536 := by have := HL.out.2.2 _ (List.mem_of_getElem? hsk.out); omega
      generalize L.getD k ByteArray.empty = s at hco hsk hsz
      have HQ : Hid _ := hide (record_any s wr hsz)
      have HRl : Hid (((recd s).length : Int) ≤ 70000) := hide (by have := enc_le s.size (by omega); rw [recd_len]; omega)
      have hBi : (B.length : Int) ≤ 10000000 := by have := HBl.out.1; omega
      have hRi : ((recd s).length : Int) ≤ 70000 := HRl.out
      clear hun hls hob hap hbel
      go_wp2_with fail
      refine HQ.out.mono ?_
      rintro e w1 ⟨a1, c1, rfl, ho1, hb1⟩
      have HO1 : Hid (w1.ownsRow wr.heap.size 5 1 (.slice a1 (recd s).length c1) (recd s).length ((recd s).map (Value.int .u8))) := ho1
      have HB1 : Hid (Below wr.heap.size wr w1) := hb1
      clear ho1 hb1 HQ
      have HLs1 : Hid (Lists w1 w.heap.size (.slice ao bs.length co) bs vals) := hide (HLs.out.below HB1.out)
      have HOb1 : Hid (w1.ownsRow w.heap.size 5 1 (.slice ab B.length cb) B.length (B.map (Value.int .u8))) := hide (own_but (S := fun _ => False) HOb.out (But.of_below HB1.out) (fun _ _ e => e))
      have hw1 : w.heap.size ≤ w1.heap.size := Nat.le_trans HB.out.size HB1.out.size
      have hbm : Hid (bs.length ≤ k ∧ k ≤ 65536) := ⟨under_most HU.out, by have := HL.out.1; omega⟩
      have HR1 : Hid (Row w1 a1 (recd s).length (recd s)) := hide (own_row_u8 HO1.out (u8_of_mem (recd_u8 s)))
      have HEk : Hid ((enc k).length ≤ 10) := hide (enc_le k (by have := HL.out.1; omega))
      have HQV : Hid (∀ W : World, Calls Try.prog 54 #[.int .u64 (k : Int)] W fun e w' => ∃ v, e = .returned v ∧ w'.ownsRow W.heap.size 5 1 v (enc k).length ((enc k).map (Value.int .u8)) ∧ Below W.heap.size W w') := hide (fun W => by have := ruv_any k W (by omega) (by omega); rwa [Int.toNat_natCast] at this)
      have HB1' : Hid (Below w.heap.size w w1) := hide (HB.out.trans (HB1.out.mono HB.out.size))
      by_cases hB0 : 0 < B.length
      · by_cases hfl : (lim : Int) < (B.length : Int) + ((recd s).length : Int)
        · have HUf : Hid (Under L lim (k + 1) (bs ++ [B]) k (enc k ++ recd s)) := under_flush HU.out hsk.out hB0 (by omega)
          go_wp2_with (first
            | (at_builtin; refine append_lst _ rfl _ _ rfl w.heap.size (.slice ao bs.length co) bs.length vals rfl (HLs1.out.own.alloc _) w1.heap.size (.slice ab B.length cb) rfl (cell_new _ _ _) rfl (by have := hbm.out; omega) (by simp; omega) ?_
               intro a2 c2 w2 o2 g2 hloc2
               have HLs2 : Hid (Lists w2 w.heap.size (.slice a2 (bs.length + 1) c2) (bs ++ [B]) (vals ++ [.slice ab B.length cb])) := hide (HLs1.out.take_in HOb1.out HBl.out.2 HAp.out o2 g2)
               have HB2 : Hid (Below w.heap.size w w2) := hide ((HB1'.out.alloc HB1'.out.size _).grown g2 (by simp; omega) (fun k hk => (HLs1.out.own.lt k hk).1))
               have HR2 : Hid (Row w2 a1 (recd s).length (recd s)) := hide (own_row_u8 (own_but (S := fun g => (Value.slice ao bs.length co).ownBlock = some g) HO1.out ((But.refl _ w1).alloc _ |>.grown g2 (fun k _ e => e)) (fun g hg e => own_types HO1.out HLs1.out.own (by decide) g hg e)) (u8_of_mem (recd_u8 s)))
               clear o2 g2 hloc2)
            | fail)
          refine (HQV.out w2).mono ?_
          rintro e w3 ⟨v3, rfl, ho3, hb3⟩
          obtain ⟨a3, c3, rfl⟩ := own_formB ho3
          have HO3 : Hid (w3.ownsRow w2.heap.size 5 1 (.slice a3 (enc k).length c3) (enc k).length ((enc k).map (Value.int .u8))) := ho3
          have HB3 : Hid (Below w2.heap.size w2 w3) := hb3
          have hw3 : w.heap.size ≤ w3.heap.size := Nat.le_trans HB2.out.size hb3.size
          clear ho3 hb3
          go_wp2_with (first
            | (at_builtin; refine append_row_at _ rfl _ _ rfl w.heap.size (.slice a3 (enc k).length c3) (enc k).length (enc k) rfl (own_mono HO3.out HB2.out.size) a1 (recd s).length c1 (recd s) rfl (HR2.out.below HB3.out) (own_nil HO1.out) (by have := HEk.out; have := HRl.out; omega) hw3 ?_
               intro a4 c4 w4 o4 g4 hloc4)
            | go_in)
          have E := begun (R := recd s) HLs2.out HB2.out HO3.out HB3.out g4 hloc4
          exact ⟨⟨k + 1, k, a2, c2, bs ++ [B], vals ++ [.slice ab B.length cb], a4, c4, enc k ++ recd s, by omega, by go_num, by simp, by rw [List.length_append], HUf.out, by have := E.1; simpa using this, by rw [List.length_append]; exact o4, by rw [List.length_append]; exact E.2.1, E.2.2⟩, by simp [intOf]; omega⟩
        · have HUm : Hid (Under L lim (k + 1) bs first (B ++ recd s)) := under_more HU.out hsk.out hB0 (by omega)
          go_wp2_with (first
            | (at_builtin; refine append_row_at _ rfl _ _ rfl w.heap.size (.slice ab B.length cb) B.length B rfl HOb1.out a1 (recd s).length c1 (recd s) rfl HR1.out (own_nil HO1.out) (by have := HRl.out; omega) hw1 ?_
               intro a4 c4 w4 o4 g4 hloc4)
            | go_in)
          have E := longer (R := recd s) HLs1.out HB1'.out HOb1.out HAp.out g4 hloc4
          exact ⟨⟨k + 1, first, ao, co, bs, vals, a4, c4, B ++ recd s, by omega, by go_num, rfl, by rw [List.length_append], HUm.out, E.1, by rw [List.length_append]; exact o4, by rw [List.length_append]; exact E.2.1, E.2.2⟩, by simp [intOf]; omega⟩
      · obtain ⟨hk0, hBn, hUf⟩ := under_first HU.out hsk.out hB0
        have HUf : Hid (Under L lim (k + 1) bs first (enc k ++ recd s)) := hUf
        subst hBn
        clear hUf hk0
        go_wp2_with fail
        refine (HQV.out w1).mono ?_
        rintro e w3 ⟨v3, rfl, ho3, hb3⟩
        obtain ⟨a3, c3, rfl⟩ := own_formB ho3
        have HO3 : Hid (w3.ownsRow w1.heap.size 5 1 (.slice a3 (enc k).length c3) (enc k).length ((enc k).map (Value.int .u8))) := ho3
        have HB3 : Hid (Below w1.heap.size w1 w3) := hb3
        have hw3 : w.heap.size ≤ w3.heap.size := Nat.le_trans HB1'.out.size hb3.size
        clear ho3 hb3
        go_wp2_with (first
          | (at_builtin; refine append_row_at _ rfl _ _ rfl w.heap.size (.slice a3 (enc k).length c3) (enc k).length (enc k) rfl (own_mono HO3.out HB1'.out.size) a1 (recd s).length c1 (recd s) rfl (HR1.out.below HB3.out) (own_nil HO1.out) (by have := HEk.out; have := HRl.out; omega) hw3 ?_
             intro a4 c4 w4 o4 g4 hloc4)
          | go_in)
        have E := begun (R := recd s) HLs1.out HB1'.out HO3.out HB3.out g4 hloc4
        exact ⟨⟨k + 1, first, ao, co, bs, vals, a4, c4, enc k ++ recd s, by omega, by go_num, rfl, by rw [List.length_append], HUf.out, E.1, by rw [List.length_append]; exact o4, by rw [List.length_append]; exact E.2.1, E.2.2⟩, by simp [intOf]; omega⟩
    · have hkl : k = L.length := by omega
      have HUe : Hid (Under L lim L.length bs first B) := hide (by rw [← hkl]; exact HU.out)
      have hbm : Hid (bs.length ≤ k ∧ k ≤ 65536) := ⟨under_most HU.out, by have := HL.out.1; omega⟩
      clear hun hls hob hap hbel hkl
      by_cases hB0 : 0 < B.length
      · have hws := HB.out.size
        go_wp2_with (first
          | (at_builtin; refine append_lst _ rfl _ _ rfl w.heap.size (.slice ao bs.length co) bs.length vals rfl (HLs.out.own.alloc _) wr.heap.size (.slice ab B.length cb) rfl (cell_new _ _ _) rfl (by have := hbm.out; omega) (by simp; omega) ?_
             intro a2 c2 w2 o2 g2 hloc2
             have HLs2 : Hid (Lists w2 w.heap.size (.slice a2 (bs.length + 1) c2) (bs ++ [B]) (vals ++ [.slice ab B.length cb])) := hide (HLs.out.take_in HOb.out HBl.out.2 HAp.out o2 g2)
             have HB2 : Hid (Below w.heap.size w w2) := hide ((HB.out.alloc HB.out.size _).grown g2 (by simp; omega) (fun k hk => (HLs.out.own.lt k hk).1))
             clear o2 g2 hloc2)
          | go_in)
        go_ret
        refine ⟨a2, c2, bs ++ [B], vals ++ [.slice ab B.length cb], by rw [List.length_append]; rfl, under_end HUe.out hB0, by have := HLs2.out; simpa using this, HB2.out⟩
      · have hB1 : B.length = 0 := by omega
        have HBn : Hid (¬ 0 < B.length) := hB0
        go_wp2
        go_ret
        exact ⟨ao, co, bs, vals, rfl, under_none HUe.out HBn.out, HLs.out, HB.out⟩
end Go.Proofs.Ytbcmheilgilipaa
