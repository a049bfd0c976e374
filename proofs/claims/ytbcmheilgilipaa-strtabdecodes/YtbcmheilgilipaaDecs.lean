/-
  The walk of StrtabDecodes.
-/
import Derived.Test.YtbcmheilgilipaaRefD
import Derived.Test.YtbcmheilgilipaaTwo
namespace Go.Proofs.Ytbcmheilgilipaa
open Go.RowKit Go.Maps
def WhyNil (bs : List (List Int)) (limit f : Int) : Prop :=
  (¬ (64 ≤ limit ∧ limit ≤ 1048576) ∧ f = 2) ∨ ((64 ≤ limit ∧ limit ≤ 1048576) ∧ (rdAll bs []).1 ≠ 0 ∧ f = (rdAll bs []).1) ∨
    ((64 ≤ limit ∧ limit ≤ 1048576) ∧ (rdAll bs []).1 = 0 ∧ ¬ Cutting (rdAll bs []).2 limit.toNat 0 bs ∧ f = 43)
def WhyOk (bs : List (List Int)) (limit : Int) : Prop :=
  (64 ≤ limit ∧ limit ≤ 1048576) ∧ (rdAll bs []).1 = 0 ∧ Cutting (rdAll bs []).2 limit.toNat 0 bs
theorem WhyNil.ne {bs : List (List Int)} {limit f : Int} (h : WhyNil bs limit f) : f ≠ 0 := by
  rcases h with h | h | h
  · omega
  · rw [h.2.2]; exact h.2.1
  · omega
theorem WhyNil.same {bs : List (List Int)} {limit f g : Int} (h : WhyNil bs limit f) (k : WhyNil bs limit g) : f = g := by
  rcases h with h | h | h <;> rcases k with k | k | k <;> first | omega | (exact absurd k.1 h.1) | (exact absurd h.1 k.1) | (rw [h.2.2, k.2.2]) | (exact absurd k.2.1 h.2.1) | (exact absurd h.2.1 k.2.1)
theorem WhyNil.not {bs : List (List Int)} {limit f : Int} (h : WhyNil bs limit f) (k : WhyOk bs limit) : False := by
  rcases h with h | h | h
  · exact h.1 k.1
  · exact h.2.1 k.2.1
  · exact h.2.2.1 k.2.2
theorem dec_why {w w' : World} {bs : List (List Int)} {limit : Int} {e : Ending} (h : DecPost w bs limit e w') :
    Below w.heap.size w w' ∧ ((∃ f, e = .returned (nilV f) ∧ WhyNil bs limit f) ∨ (WhyOk bs limit ∧ ∃ tb, e = .returned (.tuple #[.pointer (some ⟨tb, 0, none⟩), .int .i64 0]) ∧ TabN w w' tb (rdAll bs []).2)) := by
  obtain ⟨hb, h | h | ⟨hl, h0, bs', hc, h⟩⟩ := h
  · exact ⟨hb, .inl ⟨2, h.2, .inl ⟨h.1, rfl⟩⟩⟩
  · exact ⟨hb, .inl ⟨_, h.2.2, .inr (.inl ⟨h.1, h.2.1, rfl⟩)⟩⟩
  · rcases h with ⟨e1, tb, he, ht⟩ | ⟨hn, he⟩
    · exact ⟨hb, .inr ⟨⟨hl, h0, by rw [← e1] at hc; exact hc⟩, tb, he, ht⟩⟩
    · exact ⟨hb, .inl ⟨43, he, .inr (.inr ⟨hl, h0, fun hcc => hn (hcc.uniq hc), rfl⟩)⟩⟩
theorem rdec_why {w w' : World} {bs : List (List Int)} {limit : Int} {e : Ending} (h : RDecPost w bs limit e w') :
    Below w.heap.size w w' ∧ ((∃ f, e = .returned (nilV f) ∧ WhyNil bs limit f) ∨ (WhyOk bs limit ∧ ∃ tb, e = .returned (.tuple #[.pointer (some ⟨tb, 0, none⟩), .int .i64 0]) ∧ RTabN w w' tb (rdAll bs []).2)) := by
  obtain ⟨hb, h | h | ⟨hl, h0, bs', hc, h⟩⟩ := h
  · exact ⟨hb, .inl ⟨2, h.2, .inl ⟨h.1, rfl⟩⟩⟩
  · exact ⟨hb, .inl ⟨_, h.2.2, .inr (.inl ⟨h.1, h.2.1, rfl⟩)⟩⟩
  · rcases h with ⟨e1, tb, he, ht⟩ | ⟨hn, he⟩
    · exact ⟨hb, .inr ⟨⟨hl, h0, by rw [← e1] at hc; exact hc⟩, tb, he, ht⟩⟩
    · exact ⟨hb, .inl ⟨43, he, .inr (.inr ⟨hl, h0, fun hcc => hn (hcc.uniq hc), rfl⟩)⟩⟩
/-- Lists whose bytes are written over. -/
structure Over (w3 wr : World) (base : Nat) (v : Value) (bs : List (List Int)) (vals : List Value) : Prop where
  own : wr.ownsRow base 31 1 v bs.length vals
  each : ∀ (i : Nat) (b : List Int), bs[i]? = some b → ∃ (a : Option Addr) (c : Nat) (xs : List Value), vals[i]? = some (Value.slice a b.length c) ∧ wr.ownsRow base 5 1 (.slice a b.length c) b.length xs
  but : But (fun g => ∃ x ∈ vals, x.ownBlock = some g) w3 wr
theorem Lists.over {w w3 : World} {base : Nat} {v : Value} {bs : List (List Int)} {vals : List Value} (h : Lists w base v bs vals) (hb : Below w.heap.size w w3) : Over w3 w3 base v bs vals := by
  have h3 := h.below hb
  exact ⟨h3.own, fun i b hi => by obtain ⟨a, c, h1, h2⟩ := h3.each i b hi; exact ⟨a, c, _, h1, h2⟩, But.refl _ _⟩
theorem Over.store {w3 wr : World} {base : Nat} {v : Value} {bs : List (List Int)} {vals : List Value} (h : Over w3 wr base v bs vals) {i : Nat} {b : List Int} {g c : Nat} (hi : bs[i]? = some b) (hv : vals[i]? = some (.slice (some ⟨g, 0, none⟩) b.length c)) (k : Nat) (u : Value) :
    Over w3 (wr.setCell ⟨g, k, none⟩ u) base v bs vals := by
  have hrow : ∃ xs, wr.ownsRow base 5 1 (.slice (some ⟨g, 0, none⟩) b.length c) b.length xs := by
    obtain ⟨a, c', xs, h1, h2⟩ := h.each i b hi
    rw [hv] at h1; cases h1; exact ⟨xs, h2⟩
  obtain ⟨xs0, hrow⟩ := hrow
  refine ⟨ownsRow_setCell_other h.own (fun e => own_types h.own hrow (by decide) g e rfl) u, fun j b' hj => ?_, ?_⟩
  · obtain ⟨a, c', xs, h1, h2⟩ := h.each j b' hj
    by_cases e : (Value.slice a b'.length c').ownBlock = some g
    · have hform : a = some ⟨g, 0, none⟩ := by
        rcases h2.2 with ⟨e1, _⟩ | ⟨g', cap, cur, e1, _⟩
        · rw [e1] at e; simp [Value.ownBlock] at e
        · cases e1; simp [Value.ownBlock] at e; rw [e]
      subst hform
      exact ⟨_, c', _, h1, (h2.stored k u).1⟩
    · exact ⟨a, c', xs, h1, ownsRow_setCell_other h2 e u⟩
  · exact h.but.setCell ⟨g, k, none⟩ (fun _ => ⟨_, List.mem_of_getElem? hv, rfl⟩) u
theorem Over.at {w3 wr : World} {base : Nat} {a : Option Addr} {n c : Nat} {bs : List (List Int)} {vals : List Value} (h : Over w3 wr base (.slice a n c) bs vals) {i : Nat} {b : List Int} (hi : bs[i]? = some b) :
    ∃ g ab cb, a = some ⟨g, 0, none⟩ ∧ vals[i]? = some (.slice ab b.length cb) ∧ wr.cell? ⟨g, i, none⟩ = some (.slice ab b.length cb) ∧ (∃ xs, wr.ownsRow base 5 1 (.slice ab b.length cb) b.length xs) := by
  obtain ⟨ab, cb, xs, h1, h2⟩ := h.each i b hi
  rcases h.own.2 with ⟨_, e⟩ | ⟨g, cap, cur, e, _⟩
  · have := (List.getElem?_eq_some_iff.1 hi).1; omega
  · cases e
    have := h.own.cells (g := g) rfl i _ h1
    have ha : (⟨g, 0, none⟩ : Addr).add i = ⟨g, i, none⟩ := by unfold Addr.add; split <;> simp_all
    rw [ha] at this
    exact ⟨g, ab, cb, rfl, h1, this, xs, h2⟩
/-- What a nil table answers. -/
theorem len_nil (w : World) : Calls Try.prog 16 #[.pointer none] w fun e w' => e = .returned (.int .i64 0) ∧ w' = w := by
  go_enter Try.func16, Try.ntmps16
  go_wp2
  go_ret
  exact ⟨rfl, rfl⟩
theorem bytes_nil (w : World) : Calls Try.prog 23 #[.pointer none] w fun e w' => e = .returned (.int .i64 0) ∧ w' = w := by
  go_enter Try.func23, Try.ntmps23
  go_wp2
  go_ret
  exact ⟨rfl, rfl⟩
theorem rlen_nil (w : World) : Calls Try.prog 25 #[.pointer none] w fun e w' => e = .returned (.int .i64 0) ∧ w' = w := by
  go_enter Try.func25, Try.ntmps25
  go_wp2
  go_ret
  exact ⟨rfl, rfl⟩
theorem rbytes_nil (w : World) : Calls Try.prog 26 #[.pointer none] w fun e w' => e = .returned (.int .i64 0) ∧ w' = w := by
  go_enter Try.func26, Try.ntmps26
  go_wp2
  go_ret
  exact ⟨rfl, rfl⟩
theorem TabN.but {w0 w w' : World} {tb : Nat} {L : List ByteArray} {T : Nat → Prop} (h : TabN w0 w tb L) (hb : But T w w') (hT : ∀ k, T k → k < w0.heap.size) : ∃ S v mv, Tab w' tb S L v mv := by
  obtain ⟨S, v, mv, ht, hS, _⟩ := h
  exact ⟨S, v, mv, ht.kept hb (fun k hk e => by have := hS k hk; have := hT k e; omega)⟩
theorem RTabN.but {w0 w w' : World} {tb : Nat} {L : List ByteArray} {T : Nat → Prop} (h : RTabN w0 w tb L) (hb : But T w w') (hT : ∀ k, T k → k < w0.heap.size) : ∃ S v, RTab w' tb S L v := by
  obtain ⟨S, v, ht, hS, _⟩ := h
  exact ⟨S, v, ht.kept hb (fun k hk e => by have := hS k hk; have := hT k e; omega)⟩
set_option maxHeartbeats 4000000 in
set_option maxRecDepth 4000 in
theorem decs_any (a2 : Option Addr) (n2 c2 : Nat) (raw : List (List Int)) (limit : Int) (w : World)
    (hr2 : LRow w a2 n2 raw) (hn2 : (n2 : Int) * 24 ≤ 140737488351232) (hs2 : ∀ z ∈ raw, z.length ≤ 140737488351232) (hu2 : ∀ z ∈ raw, ∀ y ∈ z, 0 ≤ y ∧ y ≤ 255)
    (hc2 : ∀ i, i < n2 → ∀ b off ai li ci, a2 = some ⟨b, off, none⟩ → w.cell? ⟨b, off + i, none⟩ = some (.slice ai li ci) → ai = none → ci = 0) :
    Calls Try.prog 7 #[.slice a2 n2 c2, .int .i64 limit] w fun e w' => e = .returned (.bool true) ∧ Below w.heap.size w w' := by
  have HR2 : Hid (LRow w a2 n2 raw) := hr2
  have HN2 : Hid ((n2 : Int) * 24 ≤ 140737488351232) := hn2
  have HS2 : Hid (∀ z ∈ raw, z.length ≤ 140737488351232) := hs2
  have HLn : Hid (raw.length = n2) := hr2.len
  have HQ1 : Hid _ := hide (twins_any a2 n2 c2 raw w hr2 hn2 hs2 hu2 hc2)
  have hni : (n2 : Int) ≤ 9223372036854775806 := by omega
  clear hr2 hn2 hs2 hu2 hc2
  go_enter Try.func7, Try.ntmps7
  go_wp2_with fail
  refine HQ1.out.mono ?_
  rintro e w1 ⟨a1, c1, vals, rfl, hls, hb1⟩
  have hln := HLn.out
  rw [hln] at hls ⊢
  have HLs : Hid (Lists w1 w.heap.size (.slice a1 n2 c1) raw vals) := hls
  have HB1 : Hid (Below w.heap.size w w1) := hb1
  have HQ2 : Hid _ := hide (dec_any a1 n2 c1 raw limit w1 (by have := hls; rw [← hln] at this ⊢; exact this.lrow (fun z hz => by have := HS2.out z hz; omega)) hni)
  clear hls hb1 HQ1 hln
  go_wp2_with fail
  refine HQ2.out.mono ?_
  intro e w2 h2
  obtain ⟨hb2, h2'⟩ := dec_why h2
  clear h2
  have HB2 : Hid (Below w.heap.size w w2) := hide (HB1.out.trans (hb2.mono HB1.out.size))
  have HB2' : Hid (Below w1.heap.size w1 w2) := hb2
  have HQ3 : Hid _ := hide (rdec_any a2 n2 c2 raw limit w2 (HR2.out.below HB2.out) hni)
  have HLT : Hid (∀ g, (∃ x ∈ vals, x.ownBlock = some g) → w.heap.size ≤ g ∧ g < w1.heap.size) := hide (fun g ⟨x, hx, hg⟩ => by
    obtain ⟨b, _, a, c, rfl, ho⟩ := HLs.out.row hx
    exact ho.lt g hg)
  clear hb2 HQ2
  rcases h2' with ⟨f, he, hwhy⟩ | ⟨hok, tb, he, htb⟩
  · subst he
    unfold nilV
    have HW : Hid (WhyNil raw limit f) := hwhy
    have hf0 := hwhy.ne
    clear hwhy
    go_wp2_with fail
    refine HQ3.out.mono ?_
    intro e w3 h3
    obtain ⟨hb3, h3'⟩ := rdec_why h3
    clear h3
    have HB3 : Hid (Below w.heap.size w w3) := hide (HB2.out.trans (hb3.mono HB2.out.size))
    have HB3' : Hid (Below w1.heap.size w1 w3) := hide (HB2'.out.trans (hb3.mono HB2'.out.size))
    clear hb3 HQ3
    rcases h3' with ⟨f', he, hwhy'⟩ | ⟨hok, _⟩
    · have ef : f' = f := hwhy'.same HW.out
      subst ef
      subst he
      unfold nilV
      clear hwhy'
      have HQ4 := sl_any a1 a2 n2 c1 n2 c2 raw raw w3 (by have := HLs.out.below HB3'.out; have hl := HLn.out; rw [← hl] at this ⊢; exact this.lrow (fun z hz => by have := HS2.out z hz; omega)) (HR2.out.below HB3.out) hni
      rw [decide_eq_true (show raw = raw from rfl)] at HQ4
      have HQ5 : Hid _ := hide HQ4
      clear HQ4
      go_wp2_with fail
      refine HQ5.out.mono ?_
      rintro e w4 ⟨rfl, m4, rfl⟩
      have HB4 : Hid (Below w.heap.size w (w3.drewN m4)) := hide (below_drewN HB3.out m4)
      have HO4 : Hid (Over (w3.drewN m4) (w3.drewN m4) w.heap.size (.slice a1 n2 c1) raw vals) := hide (HLs.out.over (below_drewN HB3'.out m4))
      generalize w3.drewN m4 = w4 at HB4 HO4 ⊢
      clear HQ5
      go_wp2
      go_loopw [10] (fun i wr => ∃ k : Nat, k ≤ n2 ∧ i = .int .i64 k ∧ Over w4 wr w.heap.size (.slice a1 n2 c1) raw vals) (fun i _ => n2 - (intOf i).toNat)
      case atStart => exact ⟨0, Nat.zero_le _, rfl, HO4.out⟩
      case round =>
        obtain ⟨k, hk, rfl, hO⟩ := hrel
        have HO : Hid (Over w4 wr w.heap.size (.slice a1 n2 c1) raw vals) := hO
        clear hO
        by_cases hlt : k < n2
        · have hzk : Hid (raw[k]? = some (raw.getD k [])) := hide (by have := HLn.out; rw [List.getD_eq_getElem?_getD]; simp [show k < raw.length by omega])
          have hzl : ((raw.getD k []).length : Int) ≤ 140737488351232 := by have := HS2.out _ (List.mem_of_getElem? hzk.out); omega
          generalize raw.getD k [] = z at hzk hzl
          go_wp2
          go_loopw [11] (fun i wr' => ∃ j : Nat, j ≤ z.length ∧ i = .int .i64 j ∧ Over w4 wr' w.heap.size (.slice a1 n2 c1) raw vals) (fun i _ => z.length - (intOf i).toNat)
          case atStart => exact ⟨0, Nat.zero_le _, rfl, HO.out⟩
          case round =>
            clear HO
            obtain ⟨j, hj, rfl, hO⟩ := hrel
            have HO : Hid (Over w4 wr w.heap.size (.slice a1 n2 c1) raw vals) := hO
            obtain ⟨g, ab, cb, rfl, hvz, hcz, xs, hoz⟩ := hO.at hzk.out
            clear hO
            by_cases hlj : j < z.length
            · obtain ⟨g2, rfl⟩ : ∃ g2, ab = some ⟨g2, 0, none⟩ := by
                rcases hoz.2 with ⟨_, e⟩ | ⟨g2, cap, cur, e, _⟩
                · omega
                · cases e; exact ⟨g2, rfl⟩
              have hcj : wr.cell? ⟨g2, j, none⟩ = some (xs.getD j undef) := by
                have hxl : xs.length = z.length := by have := hoz.1; simpa using this
                rw [hoz.cellAt j (by omega), List.getD_eq_getElem?_getD]; simp [hxl, hlj]
              have hfj := hoz.frozenAt j
              have HV : Hid (vals[k]? = some (.slice (some ⟨g2, 0, none⟩) z.length cb)) := hvz
              generalize xs.getD j undef = y at hcj
              clear hoz hvz
              go_wp2
              exact ⟨⟨j + 1, by omega, by go_num, HO.out.store hzk.out HV.out _ _⟩, by simp [intOf]; omega⟩
            · clear hvz hoz
              go_wp2
              exact ⟨⟨k + 1, by omega, by go_num, HO.out⟩, by simp [intOf]; omega⟩
        · have hBr := HO.out.but
          have HBr : Hid (But (fun g => ∃ x ∈ vals, x.ownBlock = some g) w4 wr) := hBr
          have HBel : Hid (Below w.heap.size w wr) := hide (HB4.out.trans (hBr.below HB4.out.size (fun g hg => (HLT.out g hg).1)))
          clear hBr HO
          go_wp2_with fail
          refine (len_nil wr).mono ?_
          rintro e w5 ⟨rfl, h5⟩
          rw [h5]
          clear h5 w5
          go_wp2_with fail
          refine (rlen_nil wr).mono ?_
          rintro e w5 ⟨rfl, h5⟩
          rw [h5]
          clear h5 w5
          go_wp2_with fail
          refine (bytes_nil wr).mono ?_
          rintro e w5 ⟨rfl, h5⟩
          rw [h5]
          clear h5 w5
          go_wp2_with fail
          refine (rbytes_nil wr).mono ?_
          rintro e w5 ⟨rfl, h5⟩
          rw [h5]
          clear h5 w5
          go_wp2
          refine wp_loop_rounds 1 ?_
          rw [rounds_succ]
          go_wp2_with fail
          refine (rlen_nil wr).mono ?_
          rintro e w5 ⟨rfl, h5⟩
          rw [h5]
          clear h5 w5
          go_wp2
          go_ret
          exact ⟨rfl, HBel.out⟩
    · exact (HW.out.not hok).elim
  · subst he
    have HOk : Hid (WhyOk raw limit) := hok
    obtain ⟨L, hL⟩ : ∃ L, L = (rdAll raw []).2 := ⟨_, rfl⟩
    rw [← hL] at htb
    have HL : Hid (L = (rdAll raw []).2) := hL
    have HTb : Hid (TabN w1 w2 tb L) := htb
    clear hok htb hL
    go_wp2_with fail
    refine HQ3.out.mono ?_
    intro e w3 h3
    obtain ⟨hb3, h3'⟩ := rdec_why h3
    clear h3
    have HB3 : Hid (Below w.heap.size w w3) := hide (HB2.out.trans (hb3.mono HB2.out.size))
    have HB3' : Hid (Below w1.heap.size w1 w3) := hide (HB2'.out.trans (hb3.mono HB2'.out.size))
    have HT3 : Hid (TabN w1 w3 tb L) := hide (HTb.out.below hb3)
    clear hb3 HQ3
    rcases h3' with ⟨f', he, hwhy'⟩ | ⟨_, rb, he, hrb⟩
    · exact (hwhy'.not HOk.out).elim
    · subst he
      rw [← HL.out] at hrb
      have HRb : Hid (RTabN w2 w3 rb L) := hrb
      clear hrb
      have HQ4 := sl_any a1 a2 n2 c1 n2 c2 raw raw w3 (by have := HLs.out.below HB3'.out; have hl := HLn.out; rw [← hl] at this ⊢; exact this.lrow (fun z hz => by have := HS2.out z hz; omega)) (HR2.out.below HB3.out) hni
      rw [decide_eq_true (show raw = raw from rfl)] at HQ4
      have HQ5 : Hid _ := hide HQ4
      clear HQ4
      go_wp2_with fail
      refine HQ5.out.mono ?_
      rintro e w4 ⟨rfl, m4, rfl⟩
      have HB4 : Hid (Below w.heap.size w (w3.drewN m4)) := hide (below_drewN HB3.out m4)
      have HO4 : Hid (Over (w3.drewN m4) (w3.drewN m4) w.heap.size (.slice a1 n2 c1) raw vals) := hide (HLs.out.over (below_drewN HB3'.out m4))
      have HT4 : Hid (TabN w1 (w3.drewN m4) tb L) := hide (HT3.out.below (below_drewN (Below.refl _ _) m4))
      have HR4 : Hid (RTabN w2 (w3.drewN m4) rb L) := hide (HRb.out.below (below_drewN (Below.refl _ _) m4))
      generalize w3.drewN m4 = w4 at HB4 HO4 HT4 HR4 ⊢
      clear HQ5
      go_wp2
      go_loopw [10] (fun i wr => ∃ k : Nat, k ≤ n2 ∧ i = .int .i64 k ∧ Over w4 wr w.heap.size (.slice a1 n2 c1) raw vals) (fun i _ => n2 - (intOf i).toNat)
      case atStart => exact ⟨0, Nat.zero_le _, rfl, HO4.out⟩
      case round =>
        obtain ⟨k, hk, rfl, hO⟩ := hrel
        have HO : Hid (Over w4 wr w.heap.size (.slice a1 n2 c1) raw vals) := hO
        clear hO
        by_cases hlt : k < n2
        · have hzk : Hid (raw[k]? = some (raw.getD k [])) := hide (by have := HLn.out; rw [List.getD_eq_getElem?_getD]; simp [show k < raw.length by omega])
          have hzl : ((raw.getD k []).length : Int) ≤ 140737488351232 := by have := HS2.out _ (List.mem_of_getElem? hzk.out); omega
          generalize raw.getD k [] = z at hzk hzl
          go_wp2
          go_loopw [11] (fun i wr' => ∃ j : Nat, j ≤ z.length ∧ i = .int .i64 j ∧ Over w4 wr' w.heap.size (.slice a1 n2 c1) raw vals) (fun i _ => z.length - (intOf i).toNat)
          case atStart => exact ⟨0, Nat.zero_le _, rfl, HO.out⟩
          case round =>
            clear HO
            obtain ⟨j, hj, rfl, hO⟩ := hrel
            have HO : Hid (Over w4 wr w.heap.size (.slice a1 n2 c1) raw vals) := hO
            obtain ⟨g, ab, cb, rfl, hvz, hcz, xs, hoz⟩ := hO.at hzk.out
            clear hO
            by_cases hlj : j < z.length
            · obtain ⟨g2, rfl⟩ : ∃ g2, ab = some ⟨g2, 0, none⟩ := by
                rcases hoz.2 with ⟨_, e⟩ | ⟨g2, cap, cur, e, _⟩
                · omega
                · cases e; exact ⟨g2, rfl⟩
              have hcj : wr.cell? ⟨g2, j, none⟩ = some (xs.getD j undef) := by
                have hxl : xs.length = z.length := by have := hoz.1; simpa using this
                rw [hoz.cellAt j (by omega), List.getD_eq_getElem?_getD]; simp [hxl, hlj]
              have hfj := hoz.frozenAt j
              have HV : Hid (vals[k]? = some (.slice (some ⟨g2, 0, none⟩) z.length cb)) := hvz
              generalize xs.getD j undef = y at hcj
              clear hoz hvz
              go_wp2
              exact ⟨⟨j + 1, by omega, by go_num, HO.out.store hzk.out HV.out _ _⟩, by simp [intOf]; omega⟩
            · clear hvz hoz
              go_wp2
              exact ⟨⟨k + 1, by omega, by go_num, HO.out⟩, by simp [intOf]; omega⟩
        · have hBr := HO.out.but
          have HBr : Hid (But (fun g => ∃ x ∈ vals, x.ownBlock = some g) w4 wr) := hBr
          have HBel : Hid (Below w.heap.size w wr) := hide (HB4.out.trans (hBr.below HB4.out.size (fun g hg => (HLT.out g hg).1)))
          clear hBr HO
          obtain ⟨S1, v1, mv1, ht1⟩ := HT4.out.but HBr.out (fun g hg => (HLT.out g hg).2)
          obtain ⟨S2, v2, ht2⟩ := HR4.out.but HBr.out (fun g hg => Nat.lt_of_lt_of_le (HLT.out g hg).2 HB2'.out.size)
          obtain ⟨x1, y1, rfl⟩ := own_form ht1.own
          obtain ⟨x2, y2, rfl⟩ := own_form ht2.own
          have HT : Hid (Tab wr tb S1 L (.slice x1 L.length y1) mv1) := ht1
          have HRT : Hid (RTab wr rb S2 L (.slice x2 L.length y2)) := ht2
          have Q1 : Hid _ := hide (len_any tb L.length y1 x1 wr ht1.cell0)
          have Q2 : Hid _ := hide (rlen_any rb L.length y2 x2 wr ht2.cell0)
          have Q3 : Hid _ := hide (bytes_any tb _ wr ht1.cell2)
          have Q4 : Hid _ := hide (rbytes_any rb _ wr ht2.cell1)
          have hLi : (L.length : Int) ≤ 9223372036854775806 := by have := ht1.len; omega
          clear ht1 ht2
          go_wp2_with fail
          refine Q1.out.mono ?_
          rintro e w5 ⟨rfl, h5⟩
          rw [h5]
          clear h5 w5
          go_wp2_with fail
          refine Q2.out.mono ?_
          rintro e w5 ⟨rfl, h5⟩
          rw [h5]
          clear h5 w5
          go_wp2_with fail
          refine Q3.out.mono ?_
          rintro e w5 ⟨rfl, h5⟩
          rw [h5]
          clear h5 w5
          go_wp2_with fail
          refine Q4.out.mono ?_
          rintro e w5 ⟨rfl, h5⟩
          rw [h5]
          clear h5 w5
          go_wp2
          go_loopw [12] (fun i wr' => ∃ j : Nat, j ≤ L.length ∧ i = .int .i64 j ∧ wr' = wr) (fun i _ => L.length - (intOf i).toNat)
          case atStart => exact ⟨0, Nat.zero_le _, rfl, rfl⟩
          case round =>
            obtain ⟨j, hj, rfl, hw⟩ := hrel
            rw [hw]
            clear hw
            rename_i wrx _
            go_wp2_with fail
            refine Q2.out.mono ?_
            rintro e w5 ⟨rfl, h5⟩
            rw [h5]
            clear h5 w5
            by_cases hlj : j < L.length
            · have T1 := rtext_any rb L.length y2 x2 L j _ HRT.out.cell0 (SRow.of_own HRT.out.own) (by omega) (by omega)
              have T2 := text_any tb L.length y1 x1 L j _ HT.out.cell0 (SRow.of_own HT.out.own) (by omega) (by omega)
              have et : textV L j = .tuple #[.string (L.getD j ByteArray.empty), .int .i64 0] := by unfold textV; rw [if_pos (by omega)]; simp
              have hg : L[j]? = some (L.getD j ByteArray.empty) := by rw [List.getD_eq_getElem?_getD]; simp [hlj]
              have T3 := find_any HT.out (L.getD j ByteArray.empty) (by have := HT.out.small _ (List.mem_of_getElem? hg); unfold maxLen; omega)
              have e3 : lookV L (L.getD j ByteArray.empty) = .tuple #[.int .i64 (j : Int), .bool true] := by unfold lookV; rw [isIn_iff.2 (List.mem_of_getElem? hg), place_of_get HT.out.nodup hg]; rfl
              rw [et] at T1 T2
              rw [e3] at T3
              generalize L.getD j ByteArray.empty = s at T1 T2 T3
              have H1 : Hid _ := hide T1
              have H2 : Hid _ := hide T2
              have H3 : Hid _ := hide T3
              clear T1 T2 T3 et hg e3
              go_wp2_with fail
              refine H1.out.mono ?_
              rintro e w5 ⟨rfl, h5⟩
              rw [h5]
              clear h5 w5
              go_wp2_with fail
              refine H2.out.mono ?_
              rintro e w5 ⟨rfl, h5⟩
              rw [h5]
              clear h5 w5
              go_wp2_with fail
              refine H3.out.mono ?_
              rintro e w5 ⟨rfl, h5⟩
              rw [h5]
              clear h5 w5
              go_wp2
              exact ⟨⟨j + 1, by omega, by go_num, trivial⟩, by simp [intOf]; omega⟩
            · go_wp2
              go_ret
              exact ⟨rfl, HBel.out⟩
end Go.Proofs.Ytbcmheilgilipaa
