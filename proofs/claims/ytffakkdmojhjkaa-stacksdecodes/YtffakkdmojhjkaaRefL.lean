/-
  The document's forest: bodies, Encode.
-/
import Derived.Test.YtffakkdmojhjkaaRefK
namespace Go.Proofs.Ytffakkdmojhjkaa
open Go.RowKit Go.Maps Go.Shelf
attribute [local go_sem] Oper.semAt_some
/-- The next record begins a body. -/
def Cuts5 (N : List Nd) (lim k : Nat) : Prop := k < N.length → bodiesW lim (recN N) 1 (k + 1) = bodiesW lim (recN N) 1 k ++ [enc (k + 1) ++ recN N (k + 1)]
theorem cuts5_zero (N : List Nd) (lim : Nat) : Cuts5 N lim 0 := fun _ => by rw [bodiesW_succ]; rfl
theorem bodies5_first {N : List Nd} {lim k : Nat} (h : Cuts5 N lim k) (hk : k < N.length) : bodiesW lim (recN N) 1 (k + 1) = bodiesW lim (recN N) 1 k ++ [enc (k + 1) ++ recN N (k + 1)] := h hk
theorem bodies5_more {N : List Nd} {lim k : Nat} {bs : List (List Int)} {B : List Int} (h : bodiesW lim (recN N) 1 k = bs ++ [B]) (hf : B.length + (recN N (k + 1)).length ≤ lim) : bodiesW lim (recN N) 1 (k + 1) = bs ++ [B ++ recN N (k + 1)] := by
  rw [bodiesW_succ, h, stepW_snoc, Nat.add_comm 1 k, if_pos hf]
theorem cuts5_full {N : List Nd} {lim k : Nat} {bs : List (List Int)} {B : List Int} (h : bodiesW lim (recN N) 1 k = bs ++ [B]) (hf : ¬ B.length + (recN N (k + 1)).length ≤ lim) : Cuts5 N lim k := fun _ => by
  rw [bodiesW_succ, h, stepW_snoc, Nat.add_comm 1 k, if_neg hf]
/-- Bodies done, and one under way. -/
structure Und (w0 w : World) (ao : Option Addr) (co : Nat) (bs : List (List Int)) (vals : List Value) (ab : Option Addr) (cb : Nat) (B : List Int) : Prop where
  ls : Lists w w0.heap.size (.slice ao bs.length co) bs vals
  own : w.ownsRow w0.heap.size 5 1 (.slice ab B.length cb) B.length (B.map (Value.int .u8))
  apart : ∀ x ∈ vals, ∀ g, x.ownBlock = some g → (Value.slice ab B.length cb).ownBlock ≠ some g
  bel : Below w0.heap.size w0 w
theorem Und.below {w0 w w' : World} {ao ab : Option Addr} {co cb : Nat} {bs : List (List Int)} {vals : List Value} {B : List Int} (h : Und w0 w ao co bs vals ab cb B) (hb : Below w.heap.size w w') : Und w0 w' ao co bs vals ab cb B :=
  ⟨h.ls.below hb, own_but (S := fun _ => False) h.own (But.of_below hb) (fun _ _ e => e), h.apart, h.bel.trans (hb.mono h.bel.size)⟩
set_option maxHeartbeats 2000000 in
set_option maxRecDepth 4000 in
theorem rbodies_f {w : World} {fb tb : Nat} {S : Nat → Prop} {N : List Nd} {v : Value} (hF : RFr w fb tb S N v) (hA : Anc N) (lim : Nat) (hlim : (lim : Int) ≤ 1048576) :
    Calls Try.prog 45 #[.pointer (some ⟨fb, 0, none⟩), .int .i64 (lim : Int)] w fun e w' => ∃ a c vals, e = .returned (.slice a (bodiesN N lim).length c) ∧ Lists w' w.heap.size (.slice a (bodiesN N lim).length c) (bodiesN N lim) vals ∧ Below w.heap.size w w' := by
  have HOK : Hid (∀ k, k ≤ N.length → Wok lim (bodiesW lim (recN N) 1 k) k) := hide (bodiesW_ok (recN_ok hF.len hF.small) (by have := hF.len; omega))
  have HRO : Hid (∀ id, 1 ≤ id → id < 1 + N.length → (recN N id).length ≤ 70000 ∧ ∀ z ∈ recN N id, 0 ≤ z ∧ z ≤ 255) := hide (recN_ok hF.len hF.small)
  have HF : Hid (RFr w fb tb S N v) := hF
  have HQ : Hid (∀ (id : Nat) (W : World), 1 ≤ id → id < 1 + N.length → Below w.heap.size w W → Calls Try.prog 71 #[.pointer (some ⟨fb, 0, none⟩), .int .i64 (id : Int)] W fun e w' => ∃ a c, e = .returned (.slice a (recN N id).length c) ∧ w'.ownsRow W.heap.size 5 1 (.slice a (recN N id).length c) (recN N id).length ((recN N id).map (Value.int .u8)) ∧ Below W.heap.size W w') := hide (fun id W h1 h2 hb => rrecd_any (hF.below hb) hA id h1 h2)
  have HQV : Hid (∀ (k : Nat) (W : World), k ≤ 300000 → Calls Try.prog 70 #[.int .u64 (k : Int)] W fun e w' => ∃ v, e = .returned v ∧ w'.ownsRow W.heap.size 5 1 v (enc k).length ((enc k).map (Value.int .u8)) ∧ Below W.heap.size W w') := hide (fun k W hk => by have := ruv_any k W (by omega) (by omega); rwa [Int.toNat_natCast] at this)
  obtain ⟨va, vc, rfl⟩ := own_form hF.own
  have hNl : (N.length : Int) ≤ 262144 := by have := hF.len; omega
  have HBN : Hid (bodiesN N lim = bodiesW lim (recN N) 1 N.length) := rfl
  clear hF hA
  go_enter Try.func45, Try.ntmps45
  go_wp2
  go_loopw [5, 6] (fun o i wr => ∃ (k : Nat) (a : Option Addr) (c : Nat) (vals : List Value), k ≤ N.length ∧ i = .int .i64 ((k : Int) + 1) ∧ o = .slice a (bodiesW lim (recN N) 1 k).length c ∧ Lists wr w.heap.size (.slice a (bodiesW lim (recN N) 1 k).length c) (bodiesW lim (recN N) 1 k) vals ∧ Below w.heap.size w wr ∧ Cuts5 N lim k) (fun _ i _ => N.length + 1 - (intOf i).toNat)
  case atStart => exact ⟨0, none, 0, [], Nat.zero_le _, rfl, rfl, Lists.nil _ _, Below.refl _ _, cuts5_zero _ _⟩
  case round =>
    obtain ⟨k, ao, co, vals, hk, rfl, rfl, hls, hbel, hcut⟩ := hrel
    have HLs : Hid _ := hide hls
    have HB : Hid (Below w.heap.size w wr) := hbel
    have HC : Hid (Cuts5 N lim k) := hcut
    have c1 := (HF.out.below hbel).cell1
    have hok := HOK.out k hk
    clear hls hbel hcut
    by_cases hlt : k < N.length
    · have hltI : (k : Int) + 1 ≤ N.length := by omega
      have hkI : (k : Int) ≤ 262144 := by omega
      have HNx : Hid _ := hide (HC.out hlt)
      have HBl : Hid (((bodiesW lim (recN N) 1 k).length : Int) ≤ 262144) := hide (by have := hok.len; omega)
      generalize bodiesW lim (recN N) 1 k = bs at HLs HNx HBl ⊢
      have HQ0 : Hid _ := hide (HQV.out (k + 1) wr (by omega))
      have HRk : Hid _ := hide (HRO.out (k + 1) (by omega) (by omega))
      rw [show ((k + 1 : Nat) : Int) = (k : Int) + 1 from rfl] at HQ0
      clear hok HC
      go_wp2_with fail
      refine HQ0.out.mono ?_
      rintro e w1 ⟨v1, rfl, ho1, hb1⟩
      obtain ⟨a1, c1', rfl⟩ := own_formB ho1
      have HO1 : Hid _ := hide ho1
      have HB1 : Hid (Below wr.heap.size wr w1) := hb1
      have HB1' : Hid (Below w.heap.size w w1) := hide (HB.out.trans (hb1.mono HB.out.size))
      have HQ1 : Hid _ := hide (HQ.out (k + 1) w1 (by omega) (by omega) HB1'.out)
      rw [show ((k + 1 : Nat) : Int) = (k : Int) + 1 from rfl] at HQ1
      clear ho1 hb1 HQ0
      go_wp2_with fail
      refine HQ1.out.mono ?_
      rintro e w2 ⟨a2, c2, rfl, ho2, hb2⟩
      have HB2 : Hid (Below w.heap.size w w2) := hide (HB1'.out.trans (hb2.mono HB1'.out.size))
      have HR2 : Hid (Row w2 a2 (recN N (k + 1)).length (recN N (k + 1))) := hide (own_row_u8 ho2 (u8_of_mem HRk.out.2))
      have HN2 : Hid _ := hide (own_nil ho2)
      have HO2 : Hid (w2.ownsRow wr.heap.size 5 1 (.slice a1 (enc (k + 1)).length c1') (enc (k + 1)).length ((enc (k + 1)).map (Value.int .u8))) := hide (own_but (S := fun _ => False) HO1.out (But.of_below hb2) (fun _ _ e => e))
      have HB2w : Hid (Below wr.heap.size wr w2) := hide (HB1.out.trans (hb2.mono HB1.out.size))
      have HEk : Hid ((enc (k + 1)).length ≤ 10) := hide (enc_le _ (by omega))
      clear ho2 hb2 HQ1
      go_wp2_with (first
        | (at_builtin; refine append_rowB _ rfl _ _ rfl w.heap.size (.slice a1 (enc (k + 1)).length c1') (enc (k + 1)).length (enc (k + 1)) rfl (own_mono HO2.out HB.out.size) a2 (recN N (k + 1)).length c2 (recN N (k + 1)) rfl HR2.out HN2.out (by have := HEk.out; have := HRk.out.1; omega) HB2.out.size ?_
           intro a4 c4 w4 o4 g4 hloc4
           have HU4 : Hid (Und w w4 ao co bs vals a4 c4 (enc (k + 1) ++ recN N (k + 1))) := hide (by
             have E := begun (R := recN N (k + 1)) HLs.out HB.out HO2.out HB2w.out g4 hloc4
             exact ⟨E.1, by rw [List.length_append]; exact o4, by rw [List.length_append]; exact E.2.1, E.2.2⟩)
           clear o4 g4 hloc4)
        | go_in)
      have hk2 : Hid (k < N.length) := hlt
      clear c1 HR2 HN2 HO2 HO1 HB1 HB2w hlt hltI HLs hkI
      go_loopw [6, 7] (fun i b wr5 => ∃ (k2 : Nat) (ab : Option Addr) (cb : Nat) (B : List Int), k < k2 ∧ k2 ≤ N.length ∧ i = .int .i64 ((k2 : Int) + 1) ∧ b = .slice ab B.length cb ∧ Und w wr5 ao co bs vals ab cb B ∧ bodiesW lim (recN N) 1 k2 = bs ++ [B]) (fun i _ _ => N.length + 1 - (intOf i).toNat)
      case atStart => exact ⟨k + 1, a4, c4, _, by omega, by have := hk2.out; omega, rfl, by rw [List.length_append], HU4.out, HNx.out⟩
      case round =>
        obtain ⟨k2, ab, cb, B, hkk, hk2l, rfl, rfl, hu5, hb5⟩ := hrel
        have HU5 : Hid (Und w wr ao co bs vals ab cb B) := hu5
        have HB5 : Hid (bodiesW lim (recN N) 1 k2 = bs ++ [B]) := hb5
        have HBu : Hid (B.length ≤ lim + 80000 ∧ ∀ z ∈ B, 0 ≤ z ∧ z ≤ 255) := hide (by
          have h1 := HOK.out k2 hk2l
          rw [hb5] at h1
          exact ⟨h1.each B (by simp), h1.u8 B (by simp)⟩)
        have c5 := (HF.out.below hu5.bel).cell1
        clear hu5 hb5
        by_cases hl2 : k2 < N.length
        · have hl2I : (k2 : Int) + 1 ≤ N.length := by omega
          have HQ5 : Hid _ := hide (HQ.out (k2 + 1) wr (by omega) (by omega) HU5.out.bel)
          have HR5 : Hid _ := hide (HRO.out (k2 + 1) (by omega) (by omega))
          rw [show ((k2 + 1 : Nat) : Int) = (k2 : Int) + 1 from rfl] at HQ5
          have hBi : (B.length : Int) ≤ 1200000 := by have := HBu.out.1; omega
          have hRi : ((recN N (k2 + 1)).length : Int) ≤ 70000 := by have := HR5.out.1; omega
          go_wp2_with fail
          refine HQ5.out.mono ?_
          rintro e w7 ⟨a7, c7, rfl, ho7, hb7⟩
          have HR7 : Hid (Row w7 a7 (recN N (k2 + 1)).length (recN N (k2 + 1))) := hide (own_row_u8 ho7 (u8_of_mem HR5.out.2))
          have HN7 : Hid _ := hide (own_nil ho7)
          have HU7 : Hid _ := hide (HU5.out.below hb7)
          clear ho7 hb7 HQ5
          by_cases hfu : (lim : Int) < (B.length : Int) + ((recN N (k2 + 1)).length : Int)
          · have HCu : Hid (Cuts5 N lim k2) := hide (cuts5_full HB5.out (by omega))
            clear c5 HU5
            have HU5 : Hid _ := HU7
            clear HU7 HR7 HN7
            go_wp2_with (first
              | (at_builtin; refine append_lst _ rfl _ _ rfl w.heap.size (.slice ao bs.length co) bs.length vals rfl (HU5.out.ls.own.alloc _) w7.heap.size (.slice ab B.length cb) rfl (cell_new _ _ _) rfl (by have := HBl.out; omega) (by have := HU5.out.bel.size; simp; omega) ?_
                 intro a6 c6 w6 o6 g6 hloc6
                 have HL6 : Hid (Lists w6 w.heap.size (.slice a6 (bs.length + 1) c6) (bs ++ [B]) (vals ++ [.slice ab B.length cb])) := hide (HU5.out.ls.take_in HU5.out.own HBu.out.2 HU5.out.apart o6 g6)
                 have HB6 : Hid (Below w.heap.size w w6) := hide ((HU5.out.bel.alloc HU5.out.bel.size _).grown g6 (by have := HU5.out.bel.size; simp; omega) (fun k hk => (HU5.out.ls.own.lt k hk).1))
                 clear o6 g6 hloc6)
              | go_in)
            refine ⟨⟨k2, a6, c6, vals ++ [.slice ab B.length cb], by omega, rfl, by rw [HB5.out, List.length_append]; rfl, by rw [HB5.out, List.length_append]; exact HL6.out, HB6.out, HCu.out⟩, by simp [intOf]; omega⟩
          · have HCm : Hid _ := hide (bodies5_more HB5.out (by omega))
            clear c5
            go_wp2_with (first
              | (at_builtin; refine append_rowB _ rfl _ _ rfl w.heap.size (.slice ab B.length cb) B.length B rfl HU7.out.own a7 (recN N (k2 + 1)).length c7 (recN N (k2 + 1)) rfl HR7.out HN7.out (by omega) HU7.out.bel.size ?_
                 intro a8 c8 w8 o8 g8 hloc8
                 have HU8 : Hid (Und w w8 ao co bs vals a8 c8 (B ++ recN N (k2 + 1))) := hide (by
                   have E := longer (R := recN N (k2 + 1)) HU7.out.ls HU7.out.bel HU7.out.own HU7.out.apart g8 hloc8
                   exact ⟨E.1, by rw [List.length_append]; exact o8, by rw [List.length_append]; exact E.2.1, E.2.2⟩)
                 clear o8 g8 hloc8)
              | go_in)
            exact ⟨⟨k2 + 1, a8, c8, _, by omega, by omega, by go_num, by rw [List.length_append], HU8.out, HCm.out⟩, by simp [intOf]; omega⟩
        · have hl2I : ¬ ((k2 : Int) + 1 ≤ N.length) := by omega
          have HCu : Hid (Cuts5 N lim k2) := hide (fun h => absurd h hl2)
          go_wp2_with (first
            | (at_builtin; refine append_lst _ rfl _ _ rfl w.heap.size (.slice ao bs.length co) bs.length vals rfl (HU5.out.ls.own.alloc _) wr.heap.size (.slice ab B.length cb) rfl (cell_new _ _ _) rfl (by have := HBl.out; omega) (by have := HU5.out.bel.size; simp; omega) ?_
               intro a6 c6 w6 o6 g6 hloc6
               have HL6 : Hid (Lists w6 w.heap.size (.slice a6 (bs.length + 1) c6) (bs ++ [B]) (vals ++ [.slice ab B.length cb])) := hide (HU5.out.ls.take_in HU5.out.own HBu.out.2 HU5.out.apart o6 g6)
               have HB6 : Hid (Below w.heap.size w w6) := hide ((HU5.out.bel.alloc HU5.out.bel.size _).grown g6 (by have := HU5.out.bel.size; simp; omega) (fun k hk => (HU5.out.ls.own.lt k hk).1))
               clear o6 g6 hloc6)
            | go_in)
          refine ⟨⟨k2, a6, c6, vals ++ [.slice ab B.length cb], by omega, rfl, by rw [HB5.out, List.length_append]; rfl, by rw [HB5.out, List.length_append]; exact HL6.out, HB6.out, HCu.out⟩, by simp [intOf]; omega⟩
    · have hkl : k = N.length := by omega
      subst hkl
      go_wp2
      go_ret
      exact ⟨ao, co, vals, by rw [HBN.out]; rfl, by rw [HBN.out]; exact HLs.out, HB.out⟩
theorem rencode_nil (lim : Int) (w : World) : Calls Try.prog 22 #[.pointer none, .int .i64 lim] w fun e w' => e = .returned (.tuple #[.slice none 0 0, .int .i64 1]) ∧ w' = w := by
  go_enter Try.func22, Try.ntmps22
  go_wp2
  go_ret2
  exact ⟨rfl, rfl⟩
theorem rencode_bad (fb : Nat) (lim : Int) (w : World) (hb : ¬ (64 ≤ lim ∧ lim ≤ 1048576)) :
    Calls Try.prog 22 #[.pointer (some ⟨fb, 0, none⟩), .int .i64 lim] w fun e w' => e = .returned (.tuple #[.slice none 0 0, .int .i64 2]) ∧ w' = w := by
  by_cases h1 : lim < 64
  · clear hb
    go_enter Try.func22, Try.ntmps22
    go_wp2
    go_ret2
    exact ⟨rfl, rfl⟩
  · have h2 : 1048576 < lim := by omega
    clear hb
    go_enter Try.func22, Try.ntmps22
    go_wp2
    go_ret2
    exact ⟨rfl, rfl⟩
theorem rencode_ok {w : World} {fb tb : Nat} {S : Nat → Prop} {N : List Nd} {v : Value} (hF : RFr w fb tb S N v) (hA : Anc N) (lim : Nat) (h1 : 64 ≤ (lim : Int)) (h2 : (lim : Int) ≤ 1048576) :
    Calls Try.prog 22 #[.pointer (some ⟨fb, 0, none⟩), .int .i64 (lim : Int)] w fun e w' => ∃ a c vals, e = .returned (.tuple #[.slice a (bodiesN N lim).length c, .int .i64 0]) ∧ Lists w' w.heap.size (.slice a (bodiesN N lim).length c) (bodiesN N lim) vals ∧ Below w.heap.size w w' := by
  have HQ : Hid _ := hide (rbodies_f hF hA lim h2)
  have d1 : decide ((lim : Int) < 64) = false := decide_eq_false (by omega)
  have d2 : decide ((1048576 : Int) < (lim : Int)) = false := decide_eq_false (by omega)
  clear hF hA h1 h2
  go_enter Try.func22, Try.ntmps22
  go_wp2_with fail
  refine HQ.out.mono ?_
  rintro e w2 ⟨a2, c2, vals, rfl, hl, hb⟩
  have HL2 : Hid _ := hide hl
  have HB2 : Hid _ := hide hb
  clear hl hb
  go_wp2
  go_ret2
  exact ⟨a2, c2, vals, rfl, HL2.out, HB2.out⟩
end Go.Proofs.Ytffakkdmojhjkaa
