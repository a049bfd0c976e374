/-
  The document's Decode.
-/
import Derived.Test.YtbcmheilgilipaaRefC
import Derived.Test.YtbcmheilgilipaaDecD
namespace Go.Proofs.Ytbcmheilgilipaa
open Go.RowKit Go.Maps
theorem RTabN.below {w0 w w' : World} {tb : Nat} {L : List ByteArray} (h : RTabN w0 w tb L) (hb : Below w.heap.size w w') : RTabN w0 w' tb L := by
  obtain ⟨S, v, ht, hS, hB⟩ := h
  have := hb.size
  exact ⟨S, v, ht.kept (T := fun _ => False) (But.of_below hb) (fun _ _ e => e), fun k hk => by have := hS k hk; omega, hB.trans (hb.mono hB.size)⟩
theorem RTabN.bel {w0 w : World} {tb : Nat} {L : List ByteArray} (h : RTabN w0 w tb L) : Below w0.heap.size w0 w := by obtain ⟨_, _, _, _, hB⟩ := h; exact hB
/-- What the document's Decode answers. -/
def RDecPost (w : World) (bs : List (List Int)) (limit : Int) (e : Ending) (w' : World) : Prop :=
  Below w.heap.size w w' ∧
  ((¬ (64 ≤ limit ∧ limit ≤ 1048576) ∧ e = .returned (nilV 2)) ∨
   ((64 ≤ limit ∧ limit ≤ 1048576) ∧ (rdAll bs []).1 ≠ 0 ∧ e = .returned (nilV (rdAll bs []).1)) ∨
   ((64 ≤ limit ∧ limit ≤ 1048576) ∧ (rdAll bs []).1 = 0 ∧ ∃ bs', Cutting (rdAll bs []).2 limit.toNat 0 bs' ∧
     ((bs = bs' ∧ ∃ tb, e = .returned (.tuple #[.pointer (some ⟨tb, 0, none⟩), .int .i64 0]) ∧ RTabN w w' tb (rdAll bs []).2) ∨ (bs ≠ bs' ∧ e = .returned (nilV 43)))))
set_option maxHeartbeats 2000000 in
set_option maxRecDepth 4000 in
theorem rdec_any (a : Option Addr) (n c : Nat) (bs : List (List Int)) (limit : Int) (w : World) (hr : LRow w a n bs) (hn : (n : Int) ≤ 9223372036854775806) :
    Calls Try.prog 24 #[.slice a n c, .int .i64 limit] w (RDecPost w bs limit) := by
  have HL : Hid (LRow w a n bs) := hr
  have hl := hr.len
  clear hr
  by_cases hlim : 64 ≤ limit ∧ limit ≤ 1048576
  · have HLm : Hid (64 ≤ limit ∧ limit ≤ 1048576) := hlim
    obtain ⟨R, hR⟩ : ∃ R, R = rdAll bs [] := ⟨_, rfl⟩
    have HR : Hid (rdAll bs [] = R) := hR.symm
    have HLen : Hid (bs.length = n) := hl
    obtain ⟨lim, rfl⟩ := Int.eq_ofNat_of_zero_le (show 0 ≤ limit by omega)
    have q1 : decide ((lim : Int) < 64) = false := decide_eq_false (by omega)
    have q2 : decide ((1048576 : Int) < (lim : Int)) = false := decide_eq_false (by omega)
    clear hlim hR hl
    go_enter Try.func24, Try.ntmps24
    go_wp2_with fail
    refine (rnew_any w).mono ?_
    rintro e w2 ⟨rfl, rfl⟩
    have B0 : Hid (RTabN w (w.alloc (.cells #[.slice none 0 0, .int .i64 0] 76)) w.heap.size []) := hide
      ⟨fun k => k = w.heap.size, .slice none 0 0, ⟨heap_alloc_new w _, World.ownsRow_nil _ _ _ _, rfl, fun g e => by simp [Value.ownBlock] at e, List.nodup_nil, by simp, by simp, by simp [total]⟩, fun k e => by subst e; simp, (Below.refl _ w).alloc (Nat.le_refl _) _⟩
    obtain ⟨tb, hA⟩ : ∃ tb, tb = w.heap.size := ⟨_, rfl⟩
    rw [← hA] at B0 ⊢
    generalize hw2 : w.alloc (.cells #[.slice none 0 0, .int .i64 0] 76) = w2 at B0 ⊢
    clear hA hw2 q1 q2
    go_wp2
    go_loopw [7] (fun i wr => ∃ (k : Nat) (L' : List ByteArray), k ≤ n ∧ i = .int .i64 k ∧ RTabN w wr tb L' ∧ rdAll (bs.drop k) L' = R) (fun i _ => n - (intOf i).toNat)
    case atStart => exact ⟨0, [], Nat.zero_le _, rfl, B0.out, HR.out⟩
    case round =>
      obtain ⟨k, L', hk, rfl, hN, hRR⟩ := hrel
      have HN : Hid (RTabN w wr tb L') := hN
      by_cases hlt : k < n
      · obtain ⟨b, off, z, ai, ci, rfl, hz, hcz, hrz, hnz, hzc, hzl⟩ := (HL.out).at hlt
        have hcz2 : wr.cell? ⟨b, off + k, none⟩ = some (.slice ai z.length ci) := by
          rw [hN.bel.cell (p := ⟨b, off + k, none⟩) (World.block_lt_of_cell? w _ hcz)]; exact hcz
        have HQ2 : Hid _ := hide (rrd_any hN ai z.length ci z hrz hzl hzc)
        have hd : bs.drop k = z :: bs.drop (k + 1) := by
          have := List.getElem?_eq_some_iff.1 hz
          rw [List.drop_eq_getElem_cons this.1, this.2]
        rw [hd, rdAll] at hRR
        generalize rdBody L' z = r at HQ2 hRR
        obtain ⟨f, L2⟩ := r
        dsimp only at hRR
        clear hN hz hcz hrz hnz hzc hd
        by_cases hf : f = 0
        · subst hf
          rw [if_neg (by simp)] at hRR
          have HRR : Hid (rdAll (bs.drop (k + 1)) L2 = R) := hRR
          clear hRR
          go_wp2_with fail
          refine HQ2.out.mono ?_
          rintro e w3 ⟨rfl, hT3⟩
          have HT3 : Hid (RTabN w w3 tb L2) := hT3
          clear hT3
          go_wp2
          exact ⟨⟨k + 1, L2, by omega, by go_num, HT3.out, HRR.out⟩, by simp [intOf]; omega⟩
        · rw [if_pos hf] at hRR
          have HRR : Hid ((f, L2) = R) := hRR
          clear hRR
          go_wp2_with fail
          refine HQ2.out.mono ?_
          rintro e w3 ⟨rfl, hT3⟩
          have HT3 : Hid (RTabN w w3 tb L2) := hT3
          have HF : Hid (f ≠ 0) := hf
          clear hT3
          go_wp2
          go_ret2
          refine ⟨HT3.out.bel, .inr (.inl ⟨HLm.out, ?_, ?_⟩)⟩
          · rw [HR.out, ← HRR.out]; exact HF.out
          · rw [HR.out, ← HRR.out]; rfl
      · have hd : bs.drop k = [] := List.drop_eq_nil_of_le (by have := HLen.out; omega)
        rw [hd, rdAll] at hRR
        have HRR : Hid ((0, L') = R) := hRR
        obtain ⟨S, v, ht, hS, hB⟩ := hN
        have c0 := ht.cell0
        obtain ⟨a0, k0, rfl⟩ := own_form ht.own
        have HTb : Hid (RTab wr tb S L' (.slice a0 L'.length k0)) := ht
        have HQ3 : Hid _ := hide (rbodies_any a0 k0 lim L' wr (SRow.of_own ht.own) ht.len ht.sum ht.small (by have := HLm.out; omega))
        have HL2 : Hid (LRow wr a n bs) := hide (HL.out.below hB)
        clear ht hS hB hRR hd
        go_wp2_with fail
        refine HQ3.out.mono ?_
        rintro e w3 ⟨a2, c2, bs', vals, rfl, hcut, hls, hb3⟩
        have HC : Hid (Cutting L' lim 0 bs') := hcut
        have HN3 : Hid (RTabN w w3 tb L') := hide (HN.out.below hb3)
        have HLa : Hid (LRow w3 a n bs) := hide (HL2.out.below hb3)
        have HLb : Hid (LRow w3 a2 bs'.length bs') := hide (hls.lrow (hcut.small HTb.out.len HTb.out.sum HTb.out.small))
        clear hcut hls hb3 c0 HQ3
        by_cases hnm : bs'.length = n
        · have hq : ((bs'.length : Int) != (n : Int)) = false := by simp; omega
          go_wp2
          clear hq
          go_loopw [10] (fun i wr' => ∃ k q : Nat, k ≤ n ∧ i = .int .i64 k ∧ wr' = w3.drewN q ∧ bs'.take k = bs.take k) (fun i _ => n - (intOf i).toNat)
          case atStart => exact ⟨0, 0, Nat.zero_le _, rfl, rfl, rfl⟩
          case round =>
            obtain ⟨j, q, hj, rfl, hw, he⟩ := hrel
            have HW : Hid (wr = w3.drewN q) := hw
            have H1r : Hid (LRow wr a2 bs'.length bs') := hide (by rw [hw]; exact HLb.out.below (below_drewN (Below.refl _ _) q))
            have H2r : Hid (LRow wr a n bs) := hide (by rw [hw]; exact HLa.out.below (below_drewN (Below.refl _ _) q))
            have HE : Hid (bs'.take j = bs.take j) := he
            have HN4 : Hid (RTabN w wr tb L') := hide (by rw [hw]; exact HN3.out.below (below_drewN (Below.refl _ _) q))
            clear hw he
            by_cases hlt2 : j < n
            · obtain ⟨b1, o1, x, ax, cx, rfl, hx, hcx, hrx, hnx, _, _⟩ := H1r.out.at (show j < bs'.length by omega)
              obtain ⟨b2, o2, y, ay, cy, rfl, hy, hcy, hry, hny, _, _⟩ := H2r.out.at hlt2
              have h1 : ∀ m, (convert 31 9 (.slice ax x.length cx)).run Try.prog (wr.drewN m) = .ok (.string (strOfNums x)) (wr.drewN m) := fun m => conv_any cx (hrx.drewN m) hnx
              have h2 : ∀ m, (convert 31 9 (.slice ay y.length cy)).run Try.prog (wr.drewN m) = .ok (.string (strOfNums y)) (wr.drewN m) := fun m => conv_any cy (hry.drewN m) hny
              have HS : Hid ((bs'.take (j + 1) = bs.take (j + 1)) ↔ x = y) := take_eq_step hx hy HE.out
              have hne := strs_eq (mem_of_u8 hrx.u8) (mem_of_u8 hry.u8)
              generalize strOfNums x = sx at h1 hne
              generalize strOfNums y = sy at h2 hne
              clear hx hy hrx hry hnx hny
              by_cases hxy : x = y
              · rw [decide_eq_true hxy] at hne
                have HN2 : Hid (bs'.take (j + 1) = bs.take (j + 1)) := HS.out.2 hxy
                clear hxy
                go_wp2
                go_quiet (fail)
                go_wp2
                exact ⟨⟨j + 1, q + nq, by omega, by go_num, by rw [HW.out]; exact World.drewN_drewN _ _ _, HN2.out⟩, by simp [intOf]; omega⟩
              · rw [decide_eq_false hxy] at hne
                have HNE : Hid (bs ≠ bs') := hide (fun e => hxy (HS.out.1 (by rw [e])))
                clear hxy
                go_wp2
                go_quiet (fail)
                go_wp2
                go_ret2
                refine ⟨(HN4.out.below (below_drewN (Below.refl _ _) nq)).bel, .inr (.inr ⟨HLm.out, by rw [HR.out, ← HRR.out], bs', ?_, .inr ⟨HNE.out, rfl⟩⟩)⟩
                rw [HR.out, ← HRR.out, Int.toNat_natCast]; exact HC.out
            · have HEQ : Hid (bs = bs') := hide (by
                have e := HE.out
                rw [List.take_of_length_le (by omega), List.take_of_length_le (by have := HLen.out; omega)] at e
                exact e.symm)
              go_wp2
              go_ret2
              refine ⟨HN4.out.bel, .inr (.inr ⟨HLm.out, by rw [HR.out, ← HRR.out], bs', ?_, .inl ⟨HEQ.out, tb, rfl, ?_⟩⟩)⟩
              · rw [HR.out, ← HRR.out, Int.toNat_natCast]; exact HC.out
              · rw [HR.out, ← HRR.out]; exact HN4.out
        · have hq : ((bs'.length : Int) != (n : Int)) = true := by simp; omega
          have HNE : Hid (bs ≠ bs') := hide (fun e => hnm (by rw [← e]; exact HLen.out))
          go_wp2
          go_ret2
          refine ⟨HN3.out.bel, .inr (.inr ⟨HLm.out, by rw [HR.out, ← HRR.out], bs', ?_, .inr ⟨HNE.out, rfl⟩⟩)⟩
          rw [HR.out, ← HRR.out, Int.toNat_natCast]; exact HC.out
  · have HLm : Hid (¬ (64 ≤ limit ∧ limit ≤ 1048576)) := hlim
    by_cases h1 : limit < 64
    · have q1 : decide (limit < 64) = true := decide_eq_true h1
      clear hlim hl
      go_enter Try.func24, Try.ntmps24
      go_wp2
      go_ret2
      exact ⟨Below.refl _ _, .inl ⟨HLm.out, rfl⟩⟩
    · have q1 : decide (limit < 64) = false := decide_eq_false h1
      have q2 : decide ((1048576 : Int) < limit) = true := decide_eq_true (by omega)
      clear hlim hl
      go_enter Try.func24, Try.ntmps24
      go_wp2
      go_ret2
      exact ⟨Below.refl _ _, .inl ⟨HLm.out, rfl⟩⟩
end Go.Proofs.Ytbcmheilgilipaa
