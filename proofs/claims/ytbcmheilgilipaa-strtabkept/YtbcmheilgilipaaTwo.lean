/-
  The walk of StrtabTwoWay.
-/
import Derived.Test.YtbcmheilgilipaaCopy
import Derived.Test.YtbcmheilgilipaaTwoM
namespace Go.Proofs.Ytbcmheilgilipaa
open Go.RowKit Go.Maps
theorem TabN.good {w0 w : World} {tb : Nat} {L : List ByteArray} (h : TabN w0 w tb L) : GoodL L := by obtain ⟨_, _, _, ht, _⟩ := h; exact ht.good
theorem Cutting.most {L : List ByteArray} {lim : Nat} {bs : List (List Int)} {first : Nat} (h : Cutting L lim first bs) : first + bs.length ≤ L.length := by
  induction bs generalizing first with
  | nil => have e : first = L.length := h; simp [e]
  | cons b bs ih =>
    obtain ⟨cnt, hc, _, h3⟩ := h
    have h1 := ih h3
    have h2 := hc.pos
    rw [List.length_cons]; omega
/-- Decode of what Encode answers. -/
theorem dec_back {L : List ByteArray} (hg : GoodL L) (a : Option Addr) (c lim : Nat) (bs : List (List Int)) (w : World) (hc : Cutting L lim 0 bs) (hlo : 64 ≤ (lim : Int)) (hhi : (lim : Int) ≤ 1048576) (hr : LRow w a bs.length bs) :
    Calls Try.prog 15 #[.slice a bs.length c, .int .i64 (lim : Int)] w fun e w' => ∃ tb, e = .returned (.tuple #[.pointer (some ⟨tb, 0, none⟩), .int .i64 0]) ∧ TabN w w' tb L := by
  have hra := rdAll_cut hg hc
  rw [List.take_zero] at hra
  refine (dec_any a bs.length c bs lim w hr (by have := hc.most; have := hg.len; omega)).mono ?_
  rintro e w' ⟨_, h | h | h⟩
  · exact absurd ⟨hlo, hhi⟩ h.1
  · rw [hra] at h; exact absurd rfl h.2.1
  · obtain ⟨_, _, bs', hc', h⟩ := h
    rw [hra, Int.toNat_natCast] at hc'
    have e0 := hc.uniq hc'
    rcases h with ⟨_, tb, he, ht⟩ | ⟨hn, _⟩
    · rw [hra] at ht
      exact ⟨tb, he, ht⟩
    · exact absurd e0 hn
theorem encN_any {w0 w : World} {tb : Nat} {L : List ByteArray} (h : TabN w0 w tb L) (lim : Nat) (hlo : 64 ≤ (lim : Int)) (hhi : (lim : Int) ≤ 1048576) :
    Calls Try.prog 11 #[.pointer (some ⟨tb, 0, none⟩), .int .i64 (lim : Int)] w fun e w' => ∃ a c bs vals, e = .returned (.tuple #[.slice a bs.length c, .int .i64 0]) ∧ Cutting L lim 0 bs ∧ Lists w' w.heap.size (.slice a bs.length c) bs vals ∧ Below w.heap.size w w' := by
  obtain ⟨S, v, mv, ht, _, _⟩ := h
  exact encode_any ht lim hlo hhi
theorem lenN_any {w0 w : World} {tb : Nat} {L : List ByteArray} (h : TabN w0 w tb L) :
    Calls Try.prog 16 #[.pointer (some ⟨tb, 0, none⟩)] w fun e w' => e = .returned (.int .i64 (L.length : Nat)) ∧ w' = w := by
  obtain ⟨S, v, mv, ht, _, _⟩ := h
  obtain ⟨a, c, rfl⟩ := own_form ht.own
  exact len_any tb L.length c a w ht.cell0
theorem textN_any {w0 w : World} {tb : Nat} {L : List ByteArray} (h : TabN w0 w tb L) {k : Nat} (hk : k < L.length) :
    Calls Try.prog 17 #[.pointer (some ⟨tb, 0, none⟩), .int .i64 (k : Int)] w fun e w' => e = .returned (.tuple #[.string (L.getD k ByteArray.empty), .int .i64 0]) ∧ w' = w := by
  obtain ⟨S, v, mv, ht, _, _⟩ := h
  obtain ⟨a, c, rfl⟩ := own_form ht.own
  have := text_any tb L.length c a L k w ht.cell0 (SRow.of_own ht.own) (by omega) (by have := ht.len; omega)
  have e : textV L k = .tuple #[.string (L.getD k ByteArray.empty), .int .i64 0] := by unfold textV; rw [if_pos (by omega)]; simp
  rw [e] at this
  exact this
set_option maxHeartbeats 2000000 in
set_option maxRecDepth 4000 in
theorem two_any (a : Option Addr) (n c : Nat) (l : List ByteArray) (limit : Int) (a2 : Option Addr) (n2 c2 : Nat) (raw : List (List Int)) (other : Int) (w : World) (hr : SRow w a n l) (hn : (n : Int) ≤ 9223372036854775807) (hz : ∀ s ∈ l, s.size ≤ maxLen)
    (hr2 : LRow w a2 n2 raw) (hn2 : (n2 : Int) * 24 ≤ 140737488351232) (hs2 : ∀ z ∈ raw, z.length ≤ 140737488351232) (hu2 : ∀ z ∈ raw, ∀ y ∈ z, 0 ≤ y ∧ y ≤ 255)
    (hc2 : ∀ i, i < n2 → ∀ b off ai li ci, a2 = some ⟨b, off, none⟩ → w.cell? ⟨b, off + i, none⟩ = some (.slice ai li ci) → ai = none → ci = 0) :
    Calls Try.prog 5 #[.slice a n c, .int .i64 limit, .slice a2 n2 c2, .int .i64 other] w fun e w' => e = .returned (.bool true) ∧ Below w.heap.size w w' := by
  have HT : Hid _ := hide (table_any a n c l w hr hn hz)
  have HW : Hid _ := hide (within_any limit 1048513 w (by decide) (by decide))
  have HR2 : Hid (LRow w a2 n2 raw) := hr2
  have HN2 : Hid ((n2 : Int) * 24 ≤ 140737488351232) := hn2
  have HS2 : Hid (∀ z ∈ raw, z.length ≤ 140737488351232) := hs2
  have HU2 : Hid (∀ z ∈ raw, ∀ y ∈ z, 0 ≤ y ∧ y ≤ 255) := hu2
  have HC2 : Hid (∀ i, i < n2 → ∀ b off ai li ci, a2 = some ⟨b, off, none⟩ → w.cell? ⟨b, off + i, none⟩ = some (.slice ai li ci) → ai = none → ci = 0) := hc2
  clear hr hz hr2 hn2 hs2 hu2 hc2
  go_enter Try.func5, Try.ntmps5
  go_wp2_with fail
  refine HW.out.mono ?_
  rintro e w0 ⟨⟨r, rfl, hr0, hr1⟩, rfl⟩
  obtain ⟨lim, hlim⟩ : ∃ lim : Nat, r = (lim : Int) - 64 := ⟨(r + 64).toNat, by omega⟩
  subst hlim
  have hlo : 64 ≤ (lim : Int) := by omega
  have hhi : (lim : Int) ≤ 1048576 := by omega
  have elim : (64 : Int) + ((lim : Int) - 64) = lim := by omega
  clear hr0 hr1 HW
  go_wp2_with fail
  refine HT.out.mono ?_
  rintro e w1 ⟨tb, S, L, v, mv, aO, cO, rfl, hB⟩
  have HB : Hid (Both w0 w1 tb S L v mv aO cO) := hB
  have HG : Hid (GoodL L) := hB.tab.good
  have HE : Hid _ := hide (encode_any hB.tab lim hlo hhi)
  have hLi : (L.length : Int) ≤ 9223372036854775806 := by have := hB.tab.len; omega
  clear hB HT
  go_wp2_with fail
  refine HE.out.mono ?_
  rintro e w2 ⟨a3, c3, bs, vals, rfl, hcut, hls, hb2⟩
  have HC : Hid (Cutting L lim 0 bs) := hcut
  have HB2 : Hid (Below w0.heap.size w0 w2) := hide (HB.out.below.trans (hb2.mono HB.out.below.size))
  have HS : Hid (SRow w2 aO L.length L) := hide (HB.out.row.below hb2)
  have HL : Hid (LRow w2 a3 bs.length bs) := hide (hls.lrow (hcut.small HG.out.len HG.out.sum HG.out.small))
  have HD : Hid _ := hide (dec_back HG.out a3 c3 lim bs w2 hcut hlo hhi HL.out)
  have hbsi : (bs.length : Int) ≤ 9223372036854775806 := by have := hcut.most; omega
  clear hcut hls hb2 HE
  go_wp2_with fail
  refine HD.out.mono ?_
  rintro e w3 ⟨tb2, rfl, ht3⟩
  have HT3 : Hid (TabN w2 w3 tb2 L) := ht3
  have HQ1 : Hid _ := hide (lenN_any ht3)
  have HL3 : Hid (LRow w3 a3 bs.length bs) := hide (HL.out.below ht3.bel)
  have HS3 : Hid (SRow w3 aO L.length L) := hide (HS.out.below ht3.bel)
  clear ht3 HD
  go_wp2_with fail
  refine HQ1.out.mono ?_
  rintro e w4 ⟨rfl, rfl⟩
  go_wp2
  go_loopw [15] (fun i wr => ∃ k : Nat, k ≤ L.length ∧ i = .int .i64 k ∧ wr = w4) (fun i _ => L.length - (intOf i).toNat)
  case atStart => exact ⟨0, Nat.zero_le _, rfl, rfl⟩
  case round =>
    obtain ⟨k, hk, rfl, rfl⟩ := hrel
    by_cases hlt : k < L.length
    · obtain ⟨bo, oo, rfl, hco⟩ := HS3.out.at hlt
      have HQ2 : Hid _ := hide (textN_any HT3.out hlt)
      generalize L.getD k ByteArray.empty = s at hco HQ2
      go_wp2_with fail
      refine HQ2.out.mono ?_
      rintro e w5 ⟨rfl, rfl⟩
      go_wp2
      exact ⟨⟨k + 1, by omega, by go_num, trivial⟩, by simp [intOf]; omega⟩
    · have HQ3 : Hid _ := hide (encN_any HT3.out lim hlo hhi)
      go_wp2_with fail
      refine HQ3.out.mono ?_
      rintro e w5 ⟨a5, c5, bs5, vals5, rfl, hcut5, hls5, hb5⟩
      have e5 : bs5 = bs := hcut5.uniq HC.out
      subst e5
      have HB5 : Hid (Below wr.heap.size wr w5) := hb5
      have HQ4 := sl_any a5 a3 bs5.length c5 bs5.length c3 bs5 bs5 w5 (hls5.lrow (hcut5.small HG.out.len HG.out.sum HG.out.small)) (HL3.out.below hb5) hbsi
      rw [decide_eq_true (show bs5 = bs5 from rfl)] at HQ4
      have HQ5 : Hid _ := hide HQ4
      clear HQ4 hls5 hcut5 hb5
      go_wp2_with fail
      refine HQ5.out.mono ?_
      rintro e w6 ⟨rfl, m6, rfl⟩
      have HB6 : Hid (Below w0.heap.size w0 (w5.drewN m6)) := hide (below_drewN ((HB2.out.trans (HT3.out.bel.mono HB2.out.size)).trans (HB5.out.mono (Nat.le_trans HB2.out.size HT3.out.bel.size))) m6)
      generalize w5.drewN m6 = w6 at HB6 ⊢
      have HQ6 : Hid _ := hide (twins_any a2 n2 c2 raw w6 (HR2.out.below HB6.out) HN2.out HS2.out HU2.out (fun i hi b off ai li ci ea hc hn => by
        refine HC2.out i hi b off ai li ci ea ?_ hn
        obtain ⟨b9, o9, z9, a9, c9, e9, _, h9, _⟩ := HR2.out.at hi
        rw [ea] at e9; cases e9
        rw [← HB6.out.cell (p := ⟨b, off + i, none⟩) (World.block_lt_of_cell? w0 _ h9)]; exact hc))
      go_wp2_with fail
      refine HQ6.out.mono ?_
      rintro e w7 ⟨a7, c7, vals7, rfl, hls7, hb7⟩
      have HB7 : Hid (Below w0.heap.size w0 w7) := hide (HB6.out.trans (hb7.mono HB6.out.size))
      have HLn : Hid (raw.length = n2) := HR2.out.len
      have HQ7 : Hid _ := hide (dec_any a7 raw.length c7 raw other w7 (hls7.lrow (fun z hz => by have := HS2.out z hz; omega)) (by have := HLn.out; have := HN2.out; omega))
      clear hls7 hb7 HQ6 HQ5 HQ3
      go_wp2_with fail
      refine HQ7.out.mono ?_
      rintro e w8 ⟨hb8, h8⟩
      have HB8 : Hid (Below w0.heap.size w0 w8) := hide (HB7.out.trans (hb8.mono HB7.out.size))
      have H8 : Hid _ := hide h8
      clear hb8 h8 HQ7
      rcases H8.out with h | h | h
      · rw [h.2]
        unfold nilV
        clear h H8
        go_wp2
        go_ret
        exact ⟨rfl, HB8.out⟩
      · have hf := h.2.1
        rw [h.2.2]
        unfold nilV
        clear h H8
        generalize (rdAll raw []).1 = f at hf ⊢
        go_wp2
        go_ret
        exact ⟨rfl, HB8.out⟩
      · obtain ⟨hlm, _, bs', hcut8, h⟩ := h
        rcases h with ⟨hbs, tb8, he, ht8⟩ | ⟨_, he⟩
        · subst he
          subst hbs
          obtain ⟨ol, hol⟩ := Int.eq_ofNat_of_zero_le (show 0 ≤ other by omega)
          subst hol
          rw [Int.toNat_natCast] at hcut8
          generalize (rdAll raw []).2 = L8 at hcut8 ht8
          have HC8 : Hid (Cutting L8 ol 0 raw) := hcut8
          have HG8 : Hid (GoodL L8) := ht8.good
          have HQ8 : Hid _ := hide (encN_any ht8 ol hlm.1 hlm.2)
          clear hcut8 ht8 H8 hlm
          go_wp2_with fail
          refine HQ8.out.mono ?_
          rintro e w9 ⟨a9, c9, bs9, vals9, rfl, hcut9, hls9, hb9⟩
          have e9 : bs9 = raw := hcut9.uniq HC8.out
          subst e9
          have HB9 : Hid (Below w0.heap.size w0 w9) := hide (HB8.out.trans (hb9.mono HB8.out.size))
          have HQ9 := sl_any a9 a2 bs9.length c9 n2 c2 bs9 bs9 w9 (hls9.lrow (hcut9.small HG8.out.len HG8.out.sum HG8.out.small)) (HR2.out.below HB9.out) (by have := HLn.out; have := HN2.out; omega)
          rw [decide_eq_true (show bs9 = bs9 from rfl)] at HQ9
          have HQ10 : Hid _ := hide HQ9
          clear HQ9 hls9 hcut9 hb9 HQ8
          go_wp2_with fail
          refine HQ10.out.mono ?_
          rintro e w10 ⟨rfl, m10, rfl⟩
          go_wp2
          go_ret
          exact ⟨rfl, below_drewN HB9.out m10⟩
        · rw [he]
          unfold nilV
          clear he hlm hcut8 H8
          go_wp2
          go_ret
          exact ⟨rfl, HB8.out⟩
end Go.Proofs.Ytbcmheilgilipaa
