/-
  All bodies of a table; Encode.
-/
import Derived.Test.YtmedpemicgffnaaBodyA
namespace Go.Proofs.Ytmedpemicgffnaa
open Go.RowKit Go.Maps
theorem Try.info34 : (Try.prog.info? 34).map (fun i => (i.zero, i.size, i.bytes)) = some (some (.slice none 0 0), 1, 24) := by kernel_rfl
/-- 'append(l, b)' of one list in a new cell, l the call's own. -/
theorem append_lst (w : World) {ops : Array Oper} {rest : List Oper} {o : Oper} {a : Act} {Q : Exit → Act → World → Prop} (hgd : o.guard = none) (s x : Operand)
    (ho : o.op = .call { callee := .builtin .append, args := #[s, x], argTypes := #[38, 38] }) (base : Nat)
    (v : Value) (n : Nat) (vals : List Value) (hs : a.eval s = v) (hown : w.ownsRow base 34 1 v n vals)
    (X : Nat) (z : Value) (hx : a.eval x = .slice (some ⟨X, 0, none⟩) 1 1) (hc : w.cell? ⟨X, 0, none⟩ = some z) (h1 : z.oneCell' = true)
    (hb : (n : Int) ≤ 4294967296) (hbase : base ≤ w.heap.size)
    (h : ∀ (a' : Option Addr) (c' : Nat) w', w'.ownsRow base 34 1 (.slice a' (n + 1) c') (n + 1) (vals ++ [z]) → w.grownBy w' v.ownBlock → ((Value.slice a' (n + 1) c').ownBlock = v.ownBlock ∨ (Value.slice a' (n + 1) c').ownBlock = some w.heap.size) → wpList Try.prog ops Q rest (a.put o.dst (.slice a' (n + 1) c')) w') : wpList Try.prog ops Q (o :: rest) a w := by
  obtain ⟨i0, hi, hz0, hz1, hz2⟩ := info_parts Try.info34
  refine wpList_append_own_at w hgd s x 38 ho base 34 i0 (.slice none 0 0) 1 24 Try.underlying38 hi hz0 hz1 hz2 rfl (by decide) v n _ hs hown ⟨X, 0, none⟩ 1 1 [z] hx rfl (by intro t u ht; match t, ht with | 0, ht => simp at ht; subst ht; simpa [Addr.add] using hc) (by intro u hu; simp at hu; subst hu; exact h1) (by unfold maxLen; omega) (by omega) hbase ?_
  intro v' w' h1 h2 _ h3
  obtain ⟨a', c', rfl⟩ := own_form h1
  exact h a' c' w' h1 h2 h3
/-- A list of lists of bytes, all in memory from base on, no two in one row. -/
structure Lists (w : World) (base : Nat) (v : Value) (bs : List (List Int)) (vals : List Value) : Prop where
  own : w.ownsRow base 34 1 v bs.length vals
  each : ∀ (i : Nat) (b : List Int), bs[i]? = some b → ∃ (a : Option Addr) (c : Nat), vals[i]? = some (Value.slice a b.length c) ∧ w.ownsRow base 5 1 (.slice a b.length c) b.length (b.map (Value.int .u8))
  apart : vals.Pairwise (fun x y => ∀ g, x.ownBlock = some g → y.ownBlock ≠ some g)
  u8 : ∀ b ∈ bs, ∀ z ∈ b, 0 ≤ z ∧ z ≤ 255
section
variable {w : World} {base : Nat} {v : Value} {bs : List (List Int)} {vals : List Value}
theorem Lists.nil (w : World) (base : Nat) : Lists w base (.slice none 0 0) [] [] := ⟨World.ownsRow_nil _ _ _ _, fun i b h => by simp at h, List.Pairwise.nil, by simp⟩
theorem Lists.len (h : Lists w base v bs vals) : vals.length = bs.length := by have := h.own.1; simpa using this
theorem Lists.but {S : Nat → Prop} {w' : World} (h : Lists w base v bs vals) (hb : But S w w') (hv : ∀ g, v.ownBlock = some g → ¬ S g) (he : ∀ x ∈ vals, ∀ g, x.ownBlock = some g → ¬ S g) : Lists w' base v bs vals :=
  ⟨own_but h.own hb hv, fun i b hi => by
    obtain ⟨a, c, h1, h2⟩ := h.each i b hi
    exact ⟨a, c, h1, own_but h2 hb (he _ (List.mem_of_getElem? h1))⟩, h.apart, h.u8⟩
theorem Lists.below {w' : World} (h : Lists w base v bs vals) (hb : Below w.heap.size w w') : Lists w' base v bs vals := h.but (S := fun _ => False) (But.of_below hb) (fun _ _ e => e) (fun _ _ _ _ e => e)
theorem own_types {w : World} {base base' n m : Nat} {v u : Value} {xs ys : List Value} {e e' : TypeId} {z z' : Nat} (h : w.ownsRow base e z v n xs) (k : w.ownsRow base' e' z' u m ys) (hne : e ≠ e') : ∀ g, v.ownBlock = some g → u.ownBlock ≠ some g := by
  intro g hg hu
  rcases h.2 with ⟨rfl, _⟩ | ⟨g1, cap, cur, rfl, _, hh, _⟩
  · simp [Value.ownBlock] at hg
  · rcases k.2 with ⟨rfl, _⟩ | ⟨g2, cap2, cur2, rfl, _, hh2, _⟩
    · simp [Value.ownBlock] at hu
    · simp [Value.ownBlock] at hg hu
      subst hg hu
      rw [hh] at hh2; simp at hh2; exact hne hh2.2
theorem Lists.row (h : Lists w base v bs vals) {x : Value} (hx : x ∈ vals) : ∃ b, b ∈ bs ∧ ∃ a c, x = .slice a b.length c ∧ w.ownsRow base 5 1 (.slice a b.length c) b.length (b.map (Value.int .u8)) := by
  obtain ⟨i, hi, rfl⟩ := List.getElem_of_mem hx
  have hl := h.len
  obtain ⟨a, c, h1, h2⟩ := h.each i bs[i] (by simp [← hl, hi])
  refine ⟨bs[i], List.getElem_mem _, a, c, ?_, h2⟩
  rw [List.getElem?_eq_getElem hi] at h1
  exact Option.some.inj h1
theorem Lists.snoc {w1 w2 : World} {b : List Int} {a1 : Option Addr} {c1 : Nat} {a2 : Option Addr} {c2 : Nat} (h : Lists w base v bs vals) (hb1 : Below w.heap.size w w1) (hbase : base ≤ w.heap.size)
    (ho1 : w1.ownsRow w.heap.size 5 1 (.slice a1 b.length c1) b.length (b.map (Value.int .u8))) (hu : ∀ z ∈ b, 0 ≤ z ∧ z ≤ 255)
    (o2 : w2.ownsRow base 34 1 (.slice a2 (bs.length + 1) c2) (bs.length + 1) (vals ++ [.slice a1 b.length c1])) (g2 : (w1.alloc (.cells #[.slice a1 b.length c1] 34)).grownBy w2 v.ownBlock) :
    Lists w2 base (.slice a2 (bs.length + 1) c2) (bs ++ [b]) (vals ++ [.slice a1 b.length c1]) := by
  have hl := h.len
  have h1 := h.below hb1
  have k2 : But (fun k => v.ownBlock = some k) w1 w2 := (But.refl _ w1).alloc _ |>.grown g2 (fun k _ e => e)
  have hone : w2.ownsRow w.heap.size 5 1 (.slice a1 b.length c1) b.length (b.map (Value.int .u8)) := own_but ho1 k2 (fun g hg e => own_types ho1 h1.own (by decide) g hg e)
  have hold : ∀ x ∈ vals, ∀ g, x.ownBlock = some g → ¬ v.ownBlock = some g := by
    intro x hx g hg e
    obtain ⟨b', _, a', c', rfl, ho⟩ := h1.row hx
    exact own_types ho h1.own (by decide) g hg e
  refine ⟨by rw [List.length_append]; exact o2, fun i b' hi => ?_, ?_, ?_⟩
  · by_cases hlt : i < bs.length
    · rw [List.getElem?_append_left hlt] at hi
      obtain ⟨a', c', e1, e2⟩ := h1.each i b' hi
      exact ⟨a', c', by rw [List.getElem?_append_left (by omega)]; exact e1, own_but e2 k2 (hold _ (List.mem_of_getElem? e1))⟩
    · have hi2 := (List.getElem?_eq_some_iff.1 hi).1
      simp at hi2
      have e0 : i = bs.length := by omega
      subst e0
      rw [List.getElem?_append_right (Nat.le_refl _)] at hi
      simp at hi
      subst hi
      exact ⟨a1, c1, by rw [← hl, List.getElem?_append_right (Nat.le_refl _)]; simp, own_mono hone hbase⟩
  · rw [List.pairwise_append]
    refine ⟨h.apart, List.pairwise_singleton _ _, ?_⟩
    intro x hx y hy
    simp at hy
    subst hy
    intro g hg e
    obtain ⟨b', _, a', c', rfl, ho⟩ := h.row hx
    have := (ho.lt g hg).2
    have := (ho1.lt g e).1
    omega
  · intro b' hb'
    rcases List.mem_append.1 hb' with hb' | hb'
    · exact h.u8 b' hb'
    · simp at hb'; subst hb'; exact hu
end
theorem bodies_any {w : World} {tb : Nat} {S : Nat → Prop} {L : List ByteArray} {v mv : Value} (h : Tab w tb S L v mv) (lim : Nat) (hlim : (lim : Int) ≤ 1048576) :
    Calls Try.prog 34 #[.pointer (some ⟨tb, 0, none⟩), .int .i64 (lim : Int)] w fun e w' => ∃ a c bs vals, e = .returned (.slice a bs.length c) ∧ Cutting L lim 0 bs ∧ Lists w' w.heap.size (.slice a bs.length c) bs vals ∧ Below w.heap.size w w' := by
  have H : Hid (Tab w tb S L v mv) := h
  have c0 := h.cell0
  have hLi : (L.length : Int) ≤ 65536 := by have := h.len; omega
  obtain ⟨a, c, rfl⟩ := own_form h.own
  clear h
  go_enter Try.func34, Try.ntmps34
  go_wp2
  go_loopw [5, 6] (fun o i wr => ∃ (first : Nat) (a' : Option Addr) (c' : Nat) (bs : List (List Int)) (vals : List Value), first ≤ L.length ∧ bs.length ≤ first ∧ i = .int .i64 first ∧ o = .slice a' bs.length c' ∧ CutTo L lim 0 bs first ∧ Lists wr w.heap.size (.slice a' bs.length c') bs vals ∧ Below w.heap.size w wr) (fun _ i _ => L.length - (intOf i).toNat)
  case atStart => exact ⟨0, none, 0, [], [], Nat.zero_le _, Nat.le_refl _, rfl, rfl, rfl, Lists.nil _ _, Below.refl _ _⟩
  case round =>
    obtain ⟨first, a', c', bs, vals, hf, hbf, rfl, rfl, hcut, hls, hbel⟩ := hrel
    have HC : Hid (CutTo L lim 0 bs first) := hcut
    have HL : Hid (Lists wr w.heap.size (.slice a' bs.length c') bs vals) := hls
    have HB : Hid (Below w.heap.size w wr) := hbel
    have ht := H.out.kept (T := fun _ => False) (But.of_below hbel) (fun _ _ e => e)
    have d0 : wr.cell? ⟨tb, 0, none⟩ = some (.slice a L.length c) := ht.cell0
    clear c0 hcut hls
    by_cases hlt : first < L.length
    · have Q := body_any ht first lim hlt hlim
      have HQ : Hid _ := hide Q
      clear Q ht hbel
      go_wp2_with fail
      refine HQ.out.mono ?_
      rintro e w1 ⟨cnt, a1, c1, rfl, hcu, ho1, hb1⟩
      have HU : Hid (Cut L lim first cnt) := hcu
      have HO : Hid (w1.ownsRow wr.heap.size 5 1 (.slice a1 (bodyOf L first cnt).length c1) (bodyOf L first cnt).length ((bodyOf L first cnt).map (Value.int .u8))) := ho1
      have HB1 : Hid (Below wr.heap.size wr w1) := hb1
      have hfc : first + cnt ≤ L.length := hcu.le
      have hpos := hcu.pos
      clear hcu ho1 hb1
      go_wp2_with (first
        | (at_builtin; refine append_lst _ rfl _ _ rfl w.heap.size (.slice a' bs.length c') bs.length vals rfl ((HL.out.below HB1.out).own.alloc _) w1.heap.size (.slice a1 (bodyOf L first cnt).length c1) rfl (cell_new _ _ _) rfl (by omega) (by have := HB.out.size; have := HB1.out.size; simp; omega) ?_
           intro a2 c2 w2 o2 g2 hloc)
        | go_in)
      refine ⟨⟨first + cnt, a2, c2, bs ++ [bodyOf L first cnt], vals ++ [.slice a1 (bodyOf L first cnt).length c1], hfc, by simp; omega, by go_num, by simp, HC.out.snoc HU.out, ?_, ?_⟩, by simp [intOf]; omega⟩
      · have := HL.out.snoc HB1.out HB.out.size HO.out (bodyOf_u8 _ _ _) o2 g2
        simpa using this
      · exact ((HB.out.trans (HB1.out.mono HB.out.size)).alloc (Nat.le_trans HB.out.size HB1.out.size) _).grown g2 (by have := HB.out.size; have := HB1.out.size; simp; omega) (fun k hk => ((HL.out.below HB1.out).own.lt k hk).1)
    · clear ht hbel
      have e0 : first = L.length := by omega
      have HE : Hid (first = L.length) := e0
      clear e0
      go_wp2
      go_ret
      have hc := HC.out
      rw [HE.out] at hc
      exact ⟨a', c', bs, vals, rfl, hc.all, HL.out, HB.out⟩
def encV (a : Option Addr) (n c : Nat) : Value := .tuple #[.slice a n c, .int .i64 0]
theorem encode_any {w : World} {tb : Nat} {S : Nat → Prop} {L : List ByteArray} {v mv : Value} (h : Tab w tb S L v mv) (lim : Nat) (hlo : 64 ≤ (lim : Int)) (hlim : (lim : Int) ≤ 1048576) :
    Calls Try.prog 15 #[.pointer (some ⟨tb, 0, none⟩), .int .i64 (lim : Int)] w fun e w' => ∃ a c bs vals, e = .returned (.tuple #[.slice a bs.length c, .int .i64 0]) ∧ Cutting L lim 0 bs ∧ Lists w' w.heap.size (.slice a bs.length c) bs vals ∧ Below w.heap.size w w' := by
  have HQ : Hid _ := hide (bodies_any h lim hlim)
  clear h
  have Q1 : Calls Try.prog 33 #[.int .i64 (lim : Int)] w fun e w' => e = .returned (.bool true) ∧ w' = w := by
    clear HQ
    go_enter Try.func33, Try.ntmps33
    go_wp2
    go_ret
    exact ⟨rfl, rfl⟩
  have HQ1 : Hid _ := hide Q1
  clear Q1
  go_enter Try.func15, Try.ntmps15
  go_wp2_with fail
  refine HQ1.out.mono ?_
  rintro e w1 ⟨rfl, rfl⟩
  go_wp2_with fail
  refine HQ.out.mono ?_
  rintro e w2 ⟨a, c, bs, vals, rfl, hcu, hls, hb⟩
  have H1 : Hid (Cutting L lim 0 bs) := hcu
  have H2 : Hid (Lists w2 w1.heap.size (.slice a bs.length c) bs vals) := hls
  have H3 : Hid (Below w1.heap.size w1 w2) := hb
  clear hcu hls hb
  go_wp2
  go_ret2
  exact ⟨a, c, bs, vals, rfl, H1.out, H2.out, H3.out⟩
end Go.Proofs.Ytmedpemicgffnaa
