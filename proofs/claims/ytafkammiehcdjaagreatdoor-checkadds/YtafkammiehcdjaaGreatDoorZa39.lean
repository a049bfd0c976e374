import Derived.Test.YtafkammiehcdjaaGreatDoorZa37
/-
  The document's Alive (the walk).
-/
namespace Go.Proofs.YtafkammiehcdjaaGreatDoor
open Go.RowKit Go.Maps
set_option linter.unusedVariables false
def swp (x : E6.Ev) : E6.Ev := { x with o := x.a }
def Ga (T : List Me) (y : E6.Ev) : Prop := y.k = 7 ∧ nmd T 8 y.o = false
def lenA : Value → Nat
  | .slice _ n _ => n
  | _ => 0
theorem Bst.done2 {es : List E6.Ev} {K : List Int} {p : Nat} {G : E6.Ev → Prop} {best : Int} {n : Nat} (h : Bst es K p G n best) (hl : es.length = n) (hK : K.Pairwise (· < ·)) (hp : p ≤ K.length) (hG : ∀ x ∈ es, G x → x.o ∈ K) (hE : ∀ o, K[p]? = some o → ∃ x ∈ es, G x ∧ x.o = o) : (best < 0 → p = K.length) ∧ (¬ best < 0 → ∃ (i : Nat) (x : E6.Ev), best = (i : Int) ∧ i < n ∧ es[i]? = some x ∧ K[p]? = some x.o) := by
  have hcan : ∀ o, K[p]? = some o → ∃ (i : Nat) (x : E6.Ev), i < n ∧ es[i]? = some x ∧ Cnd K p G x ∧ x.o = o := fun o ho => by
    obtain ⟨x, hx, hgx, hxo⟩ := hE o ho
    obtain ⟨i, hi, he⟩ := List.getElem_of_mem hx
    refine ⟨i, x, by omega, by rw [List.getElem?_eq_getElem hi, he], ⟨hgx, ?_⟩, hxo⟩
    by_cases h0 : p = 0
    · exact .inl h0
    · have hlt := (List.getElem?_eq_some_iff.1 ho).1
      have hy : K[p - 1]? = some K[p - 1] := List.getElem?_eq_getElem (by omega)
      exact .inr ⟨_, hy, by rw [hxo]; exact ris_lt hK ho hy (by omega)⟩
  refine ⟨fun hb => ?_, fun hb => ?_⟩
  · by_cases he : p = K.length
    · exact he
    · obtain ⟨i, x, h1, h2, h3, _⟩ := hcan K[p] (List.getElem?_eq_getElem (by omega))
      exact absurd h3 ((h.no hb).2 i x h1 h2)
  · obtain ⟨i, x, h1, h2, h3, h4, h5⟩ := h.yes hb
    obtain ⟨q, hq, hqo⟩ := ris_at hK (hG x (List.mem_of_getElem? h3) h4.1) (p := p) h4.2
    have hql := (List.getElem?_eq_some_iff.1 hqo).1
    have hpo : K[p]? = some K[p] := List.getElem?_eq_getElem (by omega)
    obtain ⟨i2, x2, g1, g2, g3, g4⟩ := hcan _ hpo
    have l1 := h5 i2 x2 g1 g2 g3
    have l2 := ris_le hK hpo hqo hq
    refine ⟨i, x, h1, h2, h3, ?_⟩
    rw [hpo]
    congr 1
    omega
section
variable {T : List Me} {M : CS} {x g o : Int}
theorem alive_iff (hG : LkG T M) : o ∈ aliveK M ↔ (bgT T o = true ∧ nmd T 8 o = false) := by
  have h := hG.al o
  unfold aliveK
  constructor
  · intro hm
    have h1 := look_key hm
    rw [h1] at h
    have h2 := h.symm
    rw [Bool.and_eq_true] at h2
    exact ⟨h2.1, by simpa using h2.2⟩
  · rintro ⟨h1, h2⟩
    rw [h1, h2] at h
    have h3 : has o M.alive = true := h
    unfold has at h3
    obtain ⟨v, hv⟩ := Option.isSome_iff_exists.1 h3
    exact key_look hv
end
set_option maxRecDepth 8000 in
set_option maxHeartbeats 16000000 in
theorem rAlive_any (rb : Nat) (ta : Option Addr) (n tc : Nat) (es : List E6.Ev) (w : World) (hcell : w.cell? ⟨rb, 0, none⟩ = some (.slice ta n tc)) (hr : E6.ERow w ta n es) (hn : (n : Int) ≤ 1048576) (hg : ∀ e ∈ es, Eb e.g e.k e.o e.a) {M : CS} (hR : Rch (es.map me) M) (hfew : ((aliveK M).length : Int) ≤ 2000000) :
    Calls Tryz.prog 51 #[.pointer (some ⟨rb, 0, none⟩)] w fun e w' => ∃ v, e = .returned v ∧ II w w' v (aliveK M) := by
  have hL := hR.lkG
  obtain ⟨K, hK⟩ : ∃ K, aliveK M = K := ⟨_, rfl⟩
  have hKr : K.Pairwise (· < ·) := by rw [← hK]; exact List.pairwise_map.2 hL.ris
  have hfk : ∀ o, nmd (es.map me) 7 o = true → ∃ x ∈ es, x.k = 7 ∧ x.a = o := fun o h => by
    unfold nmd at h
    obtain ⟨y, hy, hd⟩ := List.any_eq_true.1 h
    obtain ⟨x, hx, rfl⟩ := List.mem_map.1 hy
    exact ⟨x, hx, of_decide_eq_true hd⟩
  have hiff : ∀ o, o ∈ K ↔ (bgT (es.map me) o = true ∧ nmd (es.map me) 8 o = false) := fun o => by rw [← hK]; exact alive_iff hL
  have hK0 : ∀ o ∈ K, 0 ≤ o := fun o ho => by
    have h1 := ((hiff o).1 ho).1
    unfold bgT at h1
    rw [Bool.or_eq_true] at h1
    rcases h1 with h1 | h1
    · have := of_decide_eq_true h1; omega
    · obtain ⟨x, hx, _, rfl⟩ := hfk o h1
      exact (hg x hx).ok.a0
  obtain ⟨J, hJ⟩ : ∃ J, nmd (es.map me) 8 0 = J := ⟨_, rfl⟩
  have hz : 0 ∈ K ↔ J = false := by rw [hiff, hJ]; exact ⟨fun h => h.2, fun h => ⟨rfl, h⟩⟩
  have HK1 : Hid (J = false → K.take 1 = [0] ∧ 1 ≤ K.length) := hide (fun h => by
    obtain ⟨q, hq, he⟩ := List.getElem_of_mem (hz.2 h)
    have h0 : K[0]? = some K[0] := List.getElem?_eq_getElem (by omega)
    have h1 := ris_le hKr h0 (show K[q]? = some 0 by rw [List.getElem?_eq_getElem hq, he]) (Nat.zero_le _)
    have h2 := hK0 _ (List.mem_of_getElem? h0)
    have h3 : K[0] = 0 := by omega
    rw [take_next h0, h3]
    exact ⟨by simp, by omega⟩)
  have HKG : Hid (∀ x ∈ es.map swp, Ga (es.map me) x → x.o ∈ K) := hide (fun x hx hG => by
    obtain ⟨y, hy, rfl⟩ := List.mem_map.1 hx
    rw [hiff]
    refine ⟨?_, hG.2⟩
    unfold bgT
    have : nmd (es.map me) 7 (swp y).o = true := by
      unfold nmd
      rw [List.any_eq_true]
      exact ⟨me y, List.mem_map.2 ⟨y, hy, rfl⟩, decide_eq_true ⟨hG.1, rfl⟩⟩
    rw [this, Bool.or_true])
  have HKE : Hid (∀ p, (J = false → 1 ≤ p) → ∀ o, K[p]? = some o → ∃ x ∈ es.map swp, Ga (es.map me) x ∧ x.o = o) := hide (fun p hp o ho => by
    have hm := List.mem_of_getElem? ho
    obtain ⟨h1, h2⟩ := (hiff o).1 hm
    have hne : ¬ o = 0 := fun h0 => by
      subst h0
      have h3 := hz.1 hm
      have h4 := hp h3
      have hlt := (List.getElem?_eq_some_iff.1 ho).1
      have hy : K[p - 1]? = some K[p - 1] := List.getElem?_eq_getElem (by omega)
      have h5 := ris_lt hKr ho hy (by omega)
      have h6 := hK0 _ (List.mem_of_getElem? hy)
      omega
    unfold bgT at h1
    rw [decide_eq_false hne, Bool.false_or] at h1
    obtain ⟨x, hx, h7, h8⟩ := hfk o h1
    exact ⟨swp x, List.mem_map.2 ⟨x, hx, rfl⟩, ⟨h7, by show nmd (es.map me) 8 x.a = false; rw [h8]; exact h2⟩, h8⟩)
  rw [hK] at hfew ⊢
  obtain ⟨kn, hkn⟩ : ∃ kn, K.length = kn := ⟨_, rfl⟩
  have hknI : (kn : Int) ≤ 2000000 := by rw [← hkn]; exact hfew
  have HKn := hide hkn
  have HKr := hide hKr
  have HG := hide hg
  have HE := hide hr
  have hblt := World.block_lt_of_cell? w _ hcell
  have HCr : Hid (∀ X, Below w.heap.size w X → X.cell? ⟨rb, 0, none⟩ = some (.slice ta n tc) ∧ rb < X.heap.size) := hide (fun X hX => ⟨E6.cell_bel hcell hX, Nat.lt_of_lt_of_le hblt hX.size⟩)
  have HJn := hide (rjoined_any ta n tc es w hr hn 0 (by decide) (by decide))
  rw [hJ] at HJn
  obtain ⟨i0, hi0, hz0, hz1, hz2⟩ := info_parts Tryz.infoI
  have HI1 := hide ((II.nil w).on (below_alloc1 w (.cells #[.int .i64 0] 3)))
  have HT1 := hide (TRow.one (y := layI) (w := w.alloc (.cells #[.int .i64 0] 3)) (B := w.heap.size) (x := 0) (heap_new w (.cells #[.int .i64 0] 3)))
  have HSwl : Hid ((es.map swp).length = n) := hide (by rw [List.length_map, hr.len])
  clear hL hK hfew hkn hg hr hJ hR hblt hKr hfk hiff hK0 hz
  go_enter Tryz.func51, Tryz.ntmps51
  go_wp2_with fail
  refine HJn.out.mono ?_
  rintro z w1 ⟨rfl, hw⟩
  obtain rfl : w = w1 := hw.symm
  clear HJn
  have main : ∀ (v3 : Value) (X : World) (p0 : Nat), (J = false → 1 ≤ p0) → p0 ≤ kn → II w X v3 (K.take p0) → True := fun _ _ _ _ _ _ => trivial
  clear main
  cases J with
  | false =>
    go_wp2_with (at_builtin; refine append_lay layI _ 43 3 i0 _ 8 Tryz.underlying43 hi0 hz0 hz1 hz2 rfl rfl _ _ rfl w.heap.size _ [] rfl HI1.out.own _ 1 1 [0] rfl HT1.out (fun e => by cases e) ?b1 ?b2 HI1.out.bel.size ?_)
    case b1 => unfold maxLen; simp
    case b2 => simp
    intro v' w2 o1 g1 l1
    have hI := HI1.out.push o1 g1
    have HI2 : Hid (II w w2 v' (K.take 1)) := hide (by rw [(HK1.out (by first | rfl | trivial)).1]; exact hI)
    have HP0 : Hid ((1 : Nat) ≤ kn) := hide (by rw [← HKn.out]; exact (HK1.out (by first | rfl | trivial)).2)
    have HE1 := hide (HKE.out)
    clear o1 g1 l1 hI HI1 HT1
    go_wp2
    go_loopw [3] (fun v3 wr => ∃ (p c3 : Nat) (a3 : Option Addr), 1 ≤ p ∧ p ≤ kn ∧ v3 = .slice a3 p c3 ∧ Hid (II w wr (.slice a3 p c3) (K.take p))) (fun v3 _ => kn - lenA v3)
    case atStart =>
      obtain ⟨a9, c9, hv9, _, _⟩ := own_form HI2.out.own
      rw [show (K.take 1).length = 1 by rw [List.length_take, HKn.out]; have := HP0.out; omega] at hv9
      subst hv9
      exact ⟨1, c9, a9, Nat.le_refl _, HP0.out, rfl, HI2⟩
    case round =>
      obtain ⟨p, d3, a3, hp1, hp, rfl, HH⟩ := hrel
      obtain ⟨r0, rl0⟩ := HCr.out wr HH.out.bel
      go_wp2
      go_loopw [4, 5] (fun b4 i wq => ∃ (j : Nat) (best : Int), j ≤ n ∧ i = .int .i64 j ∧ Hid (Bst (es.map swp) K p (Ga (es.map me)) j best) ∧ Hid ((best < 0 ∧ b4 = .int .i64 (-1)) ∨ ∃ (i : Nat) (x : E6.Ev), best = (i : Int) ∧ es[i]? = some x ∧ b4 = .int .i64 x.a) ∧ wq = wr) (fun _ i _ => n - (intOf i).toNat)
      case atStart => exact ⟨0, -1, Nat.zero_le _, rfl, hide Bst.zero, hide (.inl ⟨by decide, rfl⟩), rfl⟩
      case round =>
        obtain ⟨j, best, hj, rfl, HBst, HB4, hwq⟩ := hrel
        subst hwq
        by_cases hlt : j < n
        · have hjI : (j : Int) < n := by omega
          obtain ⟨b, off, x, ha, hxj, c0, c1, c2, c3, c4, hs⟩ := (HE.out.bel HH.out.bel).at hlt
          subst ha
          have hxb := HG.out x (List.mem_of_getElem? hxj)
          have HXJ := hide hxj
          have HSx : Hid ((es.map swp)[j]? = some (swp x)) := hide (by rw [List.getElem?_map, hxj]; rfl)
          by_cases hk7 : x.k = 7
          · have bk := bne_f hk7
            have hf := hxb.fj (.inl hk7)
            have hf0 := hxb.ok.a0
            have hwa : IntKind.i64.wrap x.a = x.a := by rw [IntKind.wrap_i64]; omega
            have HJo := hide (rjoined_any (some ⟨b, off, none⟩) n tc es wr (HE.out.bel HH.out.bel) hn x.a hf0 hf)
            obtain ⟨JV, hJV⟩ : ∃ JV, nmd (es.map me) 8 x.a = JV := ⟨_, rfl⟩
            rw [hJV] at HJo
            have HK7 := hide hk7
            clear hs hxj hxb hk7 hf
            go_wp2_with fail
            refine HJo.out.mono ?_
            rintro z9 w9 ⟨rfl, hw9⟩
            obtain rfl : wr = w9 := hw9.symm
            clear HJo
            cases JV with
            | true =>
              have HB2 := hide (HBst.out.skip HSx.out (fun q => by have h1 : nmd (es.map me) 8 x.a = false := q.1.2; rw [hJV] at h1; cases h1))
              clear hJV
              go_wp2
              exact ⟨⟨j + 1, best, by omega, by go_num, HB2, HB4, by first | trivial | rfl⟩, by simp [intOf]; omega⟩
            | false =>
              have HGa : Hid (Ga (es.map me) (swp x)) := hide ⟨HK7.out, hJV⟩
              clear hJV
              have hpI : ((p : Int) == 0) = false := beq_f (by omega)
              have hpI2 : (p == 0) = false := by simp; omega
              have hpw : IntKind.i64.wrap ((p : Int) - 1) = (p : Int) - 1 := by rw [IntKind.wrap_i64]; omega
              have hpn : (p : Int) - 1 < p := by omega
              have hpz : (0 : Int) ≤ (p : Int) - 1 := by omega
              obtain ⟨y, hy⟩ : ∃ y, K[p - 1]? = some y := ⟨_, List.getElem?_eq_getElem (by have := HKn.out; omega)⟩
              have hyt : (K.take p)[p - 1]? = some y := by rw [List.getElem?_take, if_pos (by omega)]; exact hy
              obtain ⟨lb, lo, hla, lc⟩ := icell (HH.out.own.row (by rw [List.length_take, HKn.out]; omega)) hyt
              subst hla
              have hpt : ((p : Int) - 1).toNat = p - 1 := by omega
              by_cases hyx : y < x.a
              · have byx : decide (y < x.a) = true := decide_eq_true hyx
                have HCn : Hid (Cnd K p (Ga (es.map me)) (swp x)) := hide ⟨HGa.out, .inr ⟨y, hy, hyx⟩⟩
                clear hy hyt hyx
                rcases HB4.out with ⟨hb0, hb4⟩ | ⟨bi, z, hbi, hbz, hb4⟩
                · subst hb4
                  have HB2 := hide (HBst.out.take HSx.out HCn.out (fun q => absurd hb0 q))
                  clear hb0
                  go_wp2
                  exact ⟨⟨j + 1, (j : Int), by omega, by go_num, HB2, hide (.inr ⟨j, x, rfl, HXJ.out, rfl⟩), by first | trivial | rfl⟩, by simp [intOf]; omega⟩
                · subst hb4
                  subst hbi
                  have hza := (HG.out z (List.mem_of_getElem? hbz)).ok.a0
                  have bz : decide (z.a < 0) = false := decide_eq_false (by omega)
                  have hsz : (es.map swp)[bi]? = some (swp z) := by rw [List.getElem?_map, hbz]; rfl
                  by_cases hxz : x.a < z.a
                  · have bxz : decide (x.a < z.a) = true := decide_eq_true hxz
                    have HB2 := hide (HBst.out.take HSx.out HCn.out (fun _ i y hi hy => by obtain rfl : i = bi := (by omega); rw [hsz] at hy; cases hy; show x.a ≤ z.a; omega))
                    clear hxz hza hsz hbz
                    go_wp2
                    exact ⟨⟨j + 1, (j : Int), by omega, by go_num, HB2, hide (.inr ⟨j, x, rfl, HXJ.out, rfl⟩), by first | trivial | rfl⟩, by simp [intOf]; omega⟩
                  · have bxz : decide (x.a < z.a) = false := decide_eq_false hxz
                    have HB2 := hide (HBst.out.keep HSx.out (by omega) (fun i y hi hy => by obtain rfl : i = bi := (by omega); rw [hsz] at hy; cases hy; show z.a ≤ x.a; omega))
                    have HB5 : Hid ((((bi : Int) < 0) ∧ (.int .i64 z.a : Value) = .int .i64 (-1)) ∨ ∃ (i : Nat) (x : E6.Ev), (bi : Int) = (i : Int) ∧ es[i]? = some x ∧ (.int .i64 z.a : Value) = .int .i64 x.a) := hide (.inr ⟨bi, z, rfl, hbz, rfl⟩)
                    clear hxz hza hsz hbz
                    go_wp2
                    exact ⟨⟨j + 1, (bi : Int), by omega, by go_num, HB2, HB5, by first | trivial | rfl⟩, by simp [intOf]; omega⟩
              · have byx : decide (y < x.a) = false := decide_eq_false hyx
                have HB2 := hide (HBst.out.skip HSx.out (fun q => by
                  rcases q.2 with h | ⟨z, hz, hzx⟩
                  · omega
                  · rw [hy] at hz; cases hz; exact hyx hzx))
                clear hy hyt hyx
                go_wp2
                exact ⟨⟨j + 1, best, by omega, by go_num, HB2, HB4, by first | trivial | rfl⟩, by simp [intOf]; omega⟩
          · have bk := bne_t hk7
            have HB2 := hide (HBst.out.skip HSx.out (fun q => hk7 q.1.1))
            clear hk7 hs hxj hxb
            go_wp2
            exact ⟨⟨j + 1, best, by omega, by go_num, HB2, HB4, by first | trivial | rfl⟩, by simp [intOf]; omega⟩
        · have h9 : j = n := by omega
          subst h9
          have hD := HBst.out.done2 HSwl.out HKr.out (by rw [HKn.out]; exact hp) HKG.out (HKE.out p (by first | (intro h; cases h; done) | (intro h; omega) | omega))
          rcases HB4.out with ⟨hb0, hb4⟩ | ⟨bi, z, hbi, hbz, hb4⟩
          · subst hb4
            have hpk := hD.1 hb0
            have HQ5 : Hid (II w wr (.slice a3 p d3) K) := hide (by
              have h1 := HH.out
              rw [List.take_of_length_le (by omega)] at h1
              exact h1)
            clear hD hb0 hpk
            go_wp2
            go_ret
            exact ⟨_, rfl, HQ5.out⟩
          · subst hb4
            subst hbi
            have hza := (HG.out z (List.mem_of_getElem? hbz)).ok.a0
            have bz : decide (z.a < 0) = false := decide_eq_false (by omega)
            have hKp : K[p]? = some z.a := by
              obtain ⟨i, y, h1, h2, h3, h4⟩ := hD.2 (by omega)
              obtain rfl : i = bi := by omega
              rw [List.getElem?_map, hbz] at h3
              cases h3
              exact h4
            have hpl : p < kn := by rw [← HKn.out]; exact (List.getElem?_eq_some_iff.1 hKp).1
            have HTk1 := hide (take_next hKp)
            have HLk : Hid ((K.take p).length = p) := hide (by rw [List.length_take, HKn.out]; omega)
            have HQ2 := hide (HH.out.on (below_alloc1 wr (.cells #[.int .i64 z.a] 3)))
            have HT := hide (TRow.one (y := layI) (w := wr.alloc (.cells #[.int .i64 z.a] 3)) (B := wr.heap.size) (x := z.a) (heap_new wr (.cells #[.int .i64 z.a] 3)))
            clear hD hbz hKp hza
            go_wp2_with (at_builtin; refine append_lay layI _ 43 3 i0 _ 8 Tryz.underlying43 hi0 hz0 hz1 hz2 rfl rfl _ _ rfl w.heap.size _ (K.take p) rfl HQ2.out.own _ 1 1 [z.a] rfl HT.out (fun e => by cases e) ?b3 ?b4 HQ2.out.bel.size ?_)
            case b3 => unfold maxLen; have := HLk.out; omega
            case b4 => have := HLk.out; omega
            intro v6 w6 o2 g2 l2
            have hQ6 := HQ2.out.push o2 g2
            rw [← HTk1.out] at hQ6
            obtain ⟨a7, c7, hv7, _, _⟩ := own_form hQ6.own
            rw [show (K.take (p + 1)).length = p + 1 by rw [List.length_take, HKn.out]; omega] at hv7
            subst hv7
            have HQ6 := hide hQ6
            clear o2 g2 l2 hQ6
            go_wp2
            exact ⟨⟨p + 1, c7, a7, by omega, by omega, rfl, HQ6⟩, by simp [lenA]; omega⟩
  | true =>
    have HI2 : Hid (II w w (.slice none 0 0) (K.take 0)) := hide (by simpa using II.nil w)
    have HP0 : Hid ((0 : Nat) ≤ kn) := hide (Nat.zero_le _)
    clear HI1 HT1
    go_wp2
    go_loopw [3] (fun v3 wr => ∃ (p c3 : Nat) (a3 : Option Addr), 0 ≤ p ∧ p ≤ kn ∧ v3 = .slice a3 p c3 ∧ Hid (II w wr (.slice a3 p c3) (K.take p))) (fun v3 _ => kn - lenA v3)
    case atStart =>
      obtain ⟨a9, c9, hv9, _, _⟩ := own_form HI2.out.own
      rw [show (K.take 0).length = 0 by rw [List.length_take, HKn.out]; have := HP0.out; omega] at hv9
      exact ⟨0, 0, none, Nat.le_refl _, HP0.out, rfl, HI2⟩
    case round =>
      obtain ⟨p, d3, a3, hp1, hp, rfl, HH⟩ := hrel
      obtain ⟨r0, rl0⟩ := HCr.out wr HH.out.bel
      go_wp2
      go_loopw [4, 5] (fun b4 i wq => ∃ (j : Nat) (best : Int), j ≤ n ∧ i = .int .i64 j ∧ Hid (Bst (es.map swp) K p (Ga (es.map me)) j best) ∧ Hid ((best < 0 ∧ b4 = .int .i64 (-1)) ∨ ∃ (i : Nat) (x : E6.Ev), best = (i : Int) ∧ es[i]? = some x ∧ b4 = .int .i64 x.a) ∧ wq = wr) (fun _ i _ => n - (intOf i).toNat)
      case atStart => exact ⟨0, -1, Nat.zero_le _, rfl, hide Bst.zero, hide (.inl ⟨by decide, rfl⟩), rfl⟩
      case round =>
        obtain ⟨j, best, hj, rfl, HBst, HB4, hwq⟩ := hrel
        subst hwq
        by_cases hlt : j < n
        · have hjI : (j : Int) < n := by omega
          obtain ⟨b, off, x, ha, hxj, c0, c1, c2, c3, c4, hs⟩ := (HE.out.bel HH.out.bel).at hlt
          subst ha
          have hxb := HG.out x (List.mem_of_getElem? hxj)
          have HXJ := hide hxj
          have HSx : Hid ((es.map swp)[j]? = some (swp x)) := hide (by rw [List.getElem?_map, hxj]; rfl)
          by_cases hk7 : x.k = 7
          · have bk := bne_f hk7
            have hf := hxb.fj (.inl hk7)
            have hf0 := hxb.ok.a0
            have hwa : IntKind.i64.wrap x.a = x.a := by rw [IntKind.wrap_i64]; omega
            have HJo := hide (rjoined_any (some ⟨b, off, none⟩) n tc es wr (HE.out.bel HH.out.bel) hn x.a hf0 hf)
            obtain ⟨JV, hJV⟩ : ∃ JV, nmd (es.map me) 8 x.a = JV := ⟨_, rfl⟩
            rw [hJV] at HJo
            have HK7 := hide hk7
            clear hs hxj hxb hk7 hf
            go_wp2_with fail
            refine HJo.out.mono ?_
            rintro z9 w9 ⟨rfl, hw9⟩
            obtain rfl : wr = w9 := hw9.symm
            clear HJo
            cases JV with
            | true =>
              have HB2 := hide (HBst.out.skip HSx.out (fun q => by have h1 : nmd (es.map me) 8 x.a = false := q.1.2; rw [hJV] at h1; cases h1))
              clear hJV
              go_wp2
              exact ⟨⟨j + 1, best, by omega, by go_num, HB2, HB4, by first | trivial | rfl⟩, by simp [intOf]; omega⟩
            | false =>
              have HGa : Hid (Ga (es.map me) (swp x)) := hide ⟨HK7.out, hJV⟩
              clear hJV
              by_cases hp0 : p = 0
              · subst hp0
                have HCn : Hid (Cnd K 0 (Ga (es.map me)) (swp x)) := hide ⟨HGa.out, .inl rfl⟩
                rcases HB4.out with ⟨hb0, hb4⟩ | ⟨bi, z, hbi, hbz, hb4⟩
                · subst hb4
                  have HB2 := hide (HBst.out.take HSx.out HCn.out (fun q => absurd hb0 q))
                  clear hb0
                  go_wp2
                  exact ⟨⟨j + 1, (j : Int), by omega, by go_num, HB2, hide (.inr ⟨j, x, rfl, HXJ.out, rfl⟩), by first | trivial | rfl⟩, by simp [intOf]; omega⟩
                · subst hb4
                  subst hbi
                  have hza := (HG.out z (List.mem_of_getElem? hbz)).ok.a0
                  have bz : decide (z.a < 0) = false := decide_eq_false (by omega)
                  have hsz : (es.map swp)[bi]? = some (swp z) := by rw [List.getElem?_map, hbz]; rfl
                  by_cases hxz : x.a < z.a
                  · have bxz : decide (x.a < z.a) = true := decide_eq_true hxz
                    have HB2 := hide (HBst.out.take HSx.out HCn.out (fun _ i y hi hy => by obtain rfl : i = bi := (by omega); rw [hsz] at hy; cases hy; show x.a ≤ z.a; omega))
                    clear hxz hza hsz hbz
                    go_wp2
                    exact ⟨⟨j + 1, (j : Int), by omega, by go_num, HB2, hide (.inr ⟨j, x, rfl, HXJ.out, rfl⟩), by first | trivial | rfl⟩, by simp [intOf]; omega⟩
                  · have bxz : decide (x.a < z.a) = false := decide_eq_false hxz
                    have HB2 := hide (HBst.out.keep HSx.out (by omega) (fun i y hi hy => by obtain rfl : i = bi := (by omega); rw [hsz] at hy; cases hy; show z.a ≤ x.a; omega))
                    have HB5 : Hid ((((bi : Int) < 0) ∧ (.int .i64 z.a : Value) = .int .i64 (-1)) ∨ ∃ (i : Nat) (x : E6.Ev), (bi : Int) = (i : Int) ∧ es[i]? = some x ∧ (.int .i64 z.a : Value) = .int .i64 x.a) := hide (.inr ⟨bi, z, rfl, hbz, rfl⟩)
                    clear hxz hza hsz hbz
                    go_wp2
                    exact ⟨⟨j + 1, (bi : Int), by omega, by go_num, HB2, HB5, by first | trivial | rfl⟩, by simp [intOf]; omega⟩
              · have hp1 : 1 ≤ p := by omega
                clear hp0
                have hpI : ((p : Int) == 0) = false := beq_f (by omega)
                have hpI2 : (p == 0) = false := by simp; omega
                have hpw : IntKind.i64.wrap ((p : Int) - 1) = (p : Int) - 1 := by rw [IntKind.wrap_i64]; omega
                have hpn : (p : Int) - 1 < p := by omega
                have hpz : (0 : Int) ≤ (p : Int) - 1 := by omega
                obtain ⟨y, hy⟩ : ∃ y, K[p - 1]? = some y := ⟨_, List.getElem?_eq_getElem (by have := HKn.out; omega)⟩
                have hyt : (K.take p)[p - 1]? = some y := by rw [List.getElem?_take, if_pos (by omega)]; exact hy
                obtain ⟨lb, lo, hla, lc⟩ := icell (HH.out.own.row (by rw [List.length_take, HKn.out]; omega)) hyt
                subst hla
                have hpt : ((p : Int) - 1).toNat = p - 1 := by omega
                by_cases hyx : y < x.a
                · have byx : decide (y < x.a) = true := decide_eq_true hyx
                  have HCn : Hid (Cnd K p (Ga (es.map me)) (swp x)) := hide ⟨HGa.out, .inr ⟨y, hy, hyx⟩⟩
                  clear hy hyt hyx
                  rcases HB4.out with ⟨hb0, hb4⟩ | ⟨bi, z, hbi, hbz, hb4⟩
                  · subst hb4
                    have HB2 := hide (HBst.out.take HSx.out HCn.out (fun q => absurd hb0 q))
                    clear hb0
                    go_wp2
                    exact ⟨⟨j + 1, (j : Int), by omega, by go_num, HB2, hide (.inr ⟨j, x, rfl, HXJ.out, rfl⟩), by first | trivial | rfl⟩, by simp [intOf]; omega⟩
                  · subst hb4
                    subst hbi
                    have hza := (HG.out z (List.mem_of_getElem? hbz)).ok.a0
                    have bz : decide (z.a < 0) = false := decide_eq_false (by omega)
                    have hsz : (es.map swp)[bi]? = some (swp z) := by rw [List.getElem?_map, hbz]; rfl
                    by_cases hxz : x.a < z.a
                    · have bxz : decide (x.a < z.a) = true := decide_eq_true hxz
                      have HB2 := hide (HBst.out.take HSx.out HCn.out (fun _ i y hi hy => by obtain rfl : i = bi := (by omega); rw [hsz] at hy; cases hy; show x.a ≤ z.a; omega))
                      clear hxz hza hsz hbz
                      go_wp2
                      exact ⟨⟨j + 1, (j : Int), by omega, by go_num, HB2, hide (.inr ⟨j, x, rfl, HXJ.out, rfl⟩), by first | trivial | rfl⟩, by simp [intOf]; omega⟩
                    · have bxz : decide (x.a < z.a) = false := decide_eq_false hxz
                      have HB2 := hide (HBst.out.keep HSx.out (by omega) (fun i y hi hy => by obtain rfl : i = bi := (by omega); rw [hsz] at hy; cases hy; show z.a ≤ x.a; omega))
                      have HB5 : Hid ((((bi : Int) < 0) ∧ (.int .i64 z.a : Value) = .int .i64 (-1)) ∨ ∃ (i : Nat) (x : E6.Ev), (bi : Int) = (i : Int) ∧ es[i]? = some x ∧ (.int .i64 z.a : Value) = .int .i64 x.a) := hide (.inr ⟨bi, z, rfl, hbz, rfl⟩)
                      clear hxz hza hsz hbz
                      go_wp2
                      exact ⟨⟨j + 1, (bi : Int), by omega, by go_num, HB2, HB5, by first | trivial | rfl⟩, by simp [intOf]; omega⟩
                · have byx : decide (y < x.a) = false := decide_eq_false hyx
                  have HB2 := hide (HBst.out.skip HSx.out (fun q => by
                    rcases q.2 with h | ⟨z, hz, hzx⟩
                    · omega
                    · rw [hy] at hz; cases hz; exact hyx hzx))
                  clear hy hyt hyx
                  go_wp2
                  exact ⟨⟨j + 1, best, by omega, by go_num, HB2, HB4, by first | trivial | rfl⟩, by simp [intOf]; omega⟩
          · have bk := bne_t hk7
            have HB2 := hide (HBst.out.skip HSx.out (fun q => hk7 q.1.1))
            clear hk7 hs hxj hxb
            go_wp2
            exact ⟨⟨j + 1, best, by omega, by go_num, HB2, HB4, by first | trivial | rfl⟩, by simp [intOf]; omega⟩
        · have h9 : j = n := by omega
          subst h9
          have hD := HBst.out.done2 HSwl.out HKr.out (by rw [HKn.out]; exact hp) HKG.out (HKE.out p (by first | (intro h; cases h; done) | (intro h; omega) | omega))
          rcases HB4.out with ⟨hb0, hb4⟩ | ⟨bi, z, hbi, hbz, hb4⟩
          · subst hb4
            have hpk := hD.1 hb0
            have HQ5 : Hid (II w wr (.slice a3 p d3) K) := hide (by
              have h1 := HH.out
              rw [List.take_of_length_le (by omega)] at h1
              exact h1)
            clear hD hb0 hpk
            go_wp2
            go_ret
            exact ⟨_, rfl, HQ5.out⟩
          · subst hb4
            subst hbi
            have hza := (HG.out z (List.mem_of_getElem? hbz)).ok.a0
            have bz : decide (z.a < 0) = false := decide_eq_false (by omega)
            have hKp : K[p]? = some z.a := by
              obtain ⟨i, y, h1, h2, h3, h4⟩ := hD.2 (by omega)
              obtain rfl : i = bi := by omega
              rw [List.getElem?_map, hbz] at h3
              cases h3
              exact h4
            have hpl : p < kn := by rw [← HKn.out]; exact (List.getElem?_eq_some_iff.1 hKp).1
            have HTk1 := hide (take_next hKp)
            have HLk : Hid ((K.take p).length = p) := hide (by rw [List.length_take, HKn.out]; omega)
            have HQ2 := hide (HH.out.on (below_alloc1 wr (.cells #[.int .i64 z.a] 3)))
            have HT := hide (TRow.one (y := layI) (w := wr.alloc (.cells #[.int .i64 z.a] 3)) (B := wr.heap.size) (x := z.a) (heap_new wr (.cells #[.int .i64 z.a] 3)))
            clear hD hbz hKp hza
            go_wp2_with (at_builtin; refine append_lay layI _ 43 3 i0 _ 8 Tryz.underlying43 hi0 hz0 hz1 hz2 rfl rfl _ _ rfl w.heap.size _ (K.take p) rfl HQ2.out.own _ 1 1 [z.a] rfl HT.out (fun e => by cases e) ?b3 ?b4 HQ2.out.bel.size ?_)
            case b3 => unfold maxLen; have := HLk.out; omega
            case b4 => have := HLk.out; omega
            intro v6 w6 o2 g2 l2
            have hQ6 := HQ2.out.push o2 g2
            rw [← HTk1.out] at hQ6
            obtain ⟨a7, c7, hv7, _, _⟩ := own_form hQ6.own
            rw [show (K.take (p + 1)).length = p + 1 by rw [List.length_take, HKn.out]; omega] at hv7
            subst hv7
            have HQ6 := hide hQ6
            clear o2 g2 l2 hQ6
            go_wp2
            exact ⟨⟨p + 1, c7, a7, by omega, by omega, rfl, HQ6⟩, by simp [lenA]; omega⟩
end Go.Proofs.YtafkammiehcdjaaGreatDoor
/-
  Lists that are the same.
-/
namespace Go.Proofs.YtafkammiehcdjaaGreatDoor
open Go.RowKit Go.Maps
set_option linter.unusedVariables false
theorem drew_on16 {w wr : World} (h : ∃ m, wr = w.drewN m) (r : Nat) : ∃ m, wr.drewN r = w.drewN m := by
  obtain ⟨m, rfl⟩ := h
  refine ⟨m + r, ?_⟩
  induction r with
  | zero => rfl
  | succ r ih => rw [← World.drew_drewN, ih, World.drew_drewN]; rfl
set_option maxRecDepth 4000 in
theorem sameLocks_any (a1 a2 : Option Addr) (n c1 c2 : Nat) (K : List Int) (w : World) (h1 : TRow layU w a1 n K) (h2 : TRow layU w a2 n K) (hn : (n : Int) ≤ 4000000) :
    Calls Tryz.prog 48 #[.slice a1 n c1, .slice a2 n c2] w fun e w' => e = .returned (.bool true) ∧ ∃ m, w' = w.drewN m := by
  have H1 := hide h1
  have H2 := hide h2
  have HL := hide h1.len
  clear h1 h2
  go_enter Tryz.func48, Tryz.ntmps48
  go_wp2
  go_loopw [5] (fun i wr => ∃ j : Nat, j ≤ n ∧ i = .int .i64 j ∧ Hid (∃ m, wr = w.drewN m)) (fun i _ => n - (intOf i).toNat)
  case atStart => exact ⟨0, Nat.zero_le _, rfl, hide ⟨0, rfl⟩⟩
  case round =>
    obtain ⟨j, hj, rfl, HD⟩ := hrel
    have HB : Hid (Below w.heap.size w wr) := hide (by obtain ⟨m, hm⟩ := HD.out; rw [hm]; exact below_drewN (Below.refl _ _) m)
    by_cases hlt : j < n
    · have hjI : (j : Int) < n := by omega
      have hj0 : (0 : Int) ≤ j := by omega
      obtain ⟨x, hx⟩ : ∃ x, K[j]? = some x := ⟨_, List.getElem?_eq_getElem (by rw [HL.out]; exact hlt)⟩
      obtain ⟨b1, o1, e1, d1⟩ := ucell (H1.out.below HB.out) hx
      obtain ⟨b2, o2, e2, d2⟩ := ucell (H2.out.below HB.out) hx
      subst e1
      subst e2
      clear hx
      go_wp2_with fail
      go_quiet (fail)
      go_wp2
      exact ⟨⟨j + 1, by omega, by go_num, hide (drew_on16 HD.out _)⟩, by simp [intOf]; omega⟩
    · have hjI : ¬ (j : Int) < n := by omega
      go_wp2
      go_ret
      exact ⟨rfl, HD.out⟩
set_option maxRecDepth 4000 in
theorem sameBools_any (a1 a2 : Option Addr) (n c1 c2 : Nat) (K : List Bool) (w : World) (h1 : TRow layBo w a1 n K) (h2 : TRow layBo w a2 n K) (hn : (n : Int) ≤ 4000000) :
    Calls Tryz.prog 49 #[.slice a1 n c1, .slice a2 n c2] w fun e w' => e = .returned (.bool true) ∧ ∃ m, w' = w.drewN m := by
  have H1 := hide h1
  have H2 := hide h2
  have HL := hide h1.len
  clear h1 h2
  go_enter Tryz.func49, Tryz.ntmps49
  go_wp2
  go_loopw [5] (fun i wr => ∃ j : Nat, j ≤ n ∧ i = .int .i64 j ∧ Hid (∃ m, wr = w.drewN m)) (fun i _ => n - (intOf i).toNat)
  case atStart => exact ⟨0, Nat.zero_le _, rfl, hide ⟨0, rfl⟩⟩
  case round =>
    obtain ⟨j, hj, rfl, HD⟩ := hrel
    have HB : Hid (Below w.heap.size w wr) := hide (by obtain ⟨m, hm⟩ := HD.out; rw [hm]; exact below_drewN (Below.refl _ _) m)
    by_cases hlt : j < n
    · have hjI : (j : Int) < n := by omega
      have hj0 : (0 : Int) ≤ j := by omega
      obtain ⟨x, hx⟩ : ∃ x, K[j]? = some x := ⟨_, List.getElem?_eq_getElem (by rw [HL.out]; exact hlt)⟩
      obtain ⟨b1, o1, e1, d1⟩ := bcell (H1.out.below HB.out) hx
      obtain ⟨b2, o2, e2, d2⟩ := bcell (H2.out.below HB.out) hx
      subst e1
      subst e2
      clear hx
      go_wp2_with fail
      go_quiet (fail)
      go_wp2
      exact ⟨⟨j + 1, by omega, by go_num, hide (drew_on16 HD.out _)⟩, by simp [intOf]; omega⟩
    · have hjI : ¬ (j : Int) < n := by omega
      go_wp2
      go_ret
      exact ⟨rfl, HD.out⟩
set_option maxRecDepth 4000 in
theorem sameInts_any (a1 a2 : Option Addr) (n c1 c2 : Nat) (K : List Int) (w : World) (h1 : TRow layI w a1 n K) (h2 : TRow layI w a2 n K) (hn : (n : Int) ≤ 4000000) :
    Calls Tryz.prog 50 #[.slice a1 n c1, .slice a2 n c2] w fun e w' => e = .returned (.bool true) ∧ ∃ m, w' = w.drewN m := by
  have H1 := hide h1
  have H2 := hide h2
  have HL := hide h1.len
  clear h1 h2
  go_enter Tryz.func50, Tryz.ntmps50
  go_wp2
  go_loopw [5] (fun i wr => ∃ j : Nat, j ≤ n ∧ i = .int .i64 j ∧ Hid (∃ m, wr = w.drewN m)) (fun i _ => n - (intOf i).toNat)
  case atStart => exact ⟨0, Nat.zero_le _, rfl, hide ⟨0, rfl⟩⟩
  case round =>
    obtain ⟨j, hj, rfl, HD⟩ := hrel
    have HB : Hid (Below w.heap.size w wr) := hide (by obtain ⟨m, hm⟩ := HD.out; rw [hm]; exact below_drewN (Below.refl _ _) m)
    by_cases hlt : j < n
    · have hjI : (j : Int) < n := by omega
      have hj0 : (0 : Int) ≤ j := by omega
      obtain ⟨x, hx⟩ : ∃ x, K[j]? = some x := ⟨_, List.getElem?_eq_getElem (by rw [HL.out]; exact hlt)⟩
      obtain ⟨b1, o1, e1, d1⟩ := icell (H1.out.below HB.out) hx
      obtain ⟨b2, o2, e2, d2⟩ := icell (H2.out.below HB.out) hx
      subst e1
      subst e2
      clear hx
      go_wp2_with fail
      go_quiet (fail)
      go_wp2
      exact ⟨⟨j + 1, by omega, by go_num, hide (drew_on16 HD.out _)⟩, by simp [intOf]; omega⟩
    · have hjI : ¬ (j : Int) < n := by omega
      go_wp2
      go_ret
      exact ⟨rfl, HD.out⟩
end Go.Proofs.YtafkammiehcdjaaGreatDoor
