/-
  Decode.
-/
import Derived.Test.YtbcmheilgilipaaDecC
namespace Go.Proofs.Ytbcmheilgilipaa
open Go.RowKit Go.Maps
theorem same_f (a b : Option Addr) (n ca m cb : Nat) (A B : List (List Int)) (w : World) (hA : LRow w a n A) (hB : LRow w b m B) (hn : (n : Int) ≤ 9223372036854775806) :
    Calls Try.prog 37 #[.slice a n ca, .slice b m cb] w fun e w' => e = .returned (.bool (decide (A = B))) ∧ w' = w := by
  have HQ : Hid _ := hide (eqf_any a b n ca m cb A B w hA hB hn)
  clear hA hB
  go_enter Try.func37, Try.ntmps37
  go_wp2_with fail
  refine HQ.out.mono ?_
  rintro e w1 ⟨rfl, rfl⟩
  go_wp2
  go_ret
  exact ⟨rfl, rfl⟩
theorem lm_any (l : Int) (w : World) : Calls Try.prog 30 #[.int .i64 l] w fun e w' => e = .returned (.bool (decide (64 ≤ l ∧ l ≤ 1048576))) ∧ w' = w := by
  by_cases h1 : 64 ≤ l
  · by_cases h2 : l ≤ 1048576
    · rw [decide_eq_true ⟨h1, h2⟩]
      go_enter Try.func30, Try.ntmps30
      go_wp2
      go_ret
      exact ⟨rfl, rfl⟩
    · rw [decide_eq_false (fun h => h2 h.2)]
      go_enter Try.func30, Try.ntmps30
      go_wp2
      go_ret
      exact ⟨rfl, rfl⟩
  · rw [decide_eq_false (fun h => h1 h.1)]
    go_enter Try.func30, Try.ntmps30
    go_wp2
    go_ret
    exact ⟨rfl, rfl⟩
theorem Cutting.small {L : List ByteArray} {lim : Nat} (hl : L.length ≤ 65536) (ht : total L ≤ 4194304) (hs : ∀ s ∈ L, s.size ≤ 65536) {bs : List (List Int)} {first : Nat} (h : Cutting L lim first bs) : ∀ z ∈ bs, (z.length : Int) ≤ 140737488355328 := by
  induction bs generalizing first with
  | nil => simp
  | cons b bs ih =>
    obtain ⟨cnt, hc, hb, h3⟩ := h
    intro z hz
    rcases List.mem_cons.1 hz with e | e
    · subst e
      rw [hb]
      have := bodyOf_len (L := L) (first := first) (by have := hc.le; omega) hl ht hs cnt
      omega
    · exact ih h3 z e
def nilV (f : Int) : Value := .tuple #[.pointer none, .int .i64 f]
/-- What Decode answers. -/
def DecPost (w : World) (bs : List (List Int)) (limit : Int) (e : Ending) (w' : World) : Prop :=
  Below w.heap.size w w' ∧
  ((¬ (64 ≤ limit ∧ limit ≤ 1048576) ∧ e = .returned (nilV 2)) ∨
   ((64 ≤ limit ∧ limit ≤ 1048576) ∧ (rdAll bs []).1 ≠ 0 ∧ e = .returned (nilV (rdAll bs []).1)) ∨
   ((64 ≤ limit ∧ limit ≤ 1048576) ∧ (rdAll bs []).1 = 0 ∧ ∃ bs', Cutting (rdAll bs []).2 limit.toNat 0 bs' ∧
     ((bs = bs' ∧ ∃ tb, e = .returned (.tuple #[.pointer (some ⟨tb, 0, none⟩), .int .i64 0]) ∧ TabN w w' tb (rdAll bs []).2) ∨ (bs ≠ bs' ∧ e = .returned (nilV 43)))))
theorem TabN.below {w0 w w' : World} {tb : Nat} {L : List ByteArray} (h : TabN w0 w tb L) (hb : Below w.heap.size w w') : TabN w0 w' tb L := by
  obtain ⟨S, v, mv, ht, hS, hB⟩ := h
  have := hb.size
  exact ⟨S, v, mv, ht.kept (T := fun _ => False) (But.of_below hb) (fun _ _ e => e), fun k hk => by have := hS k hk; omega, hB.trans (hb.mono hB.size)⟩
theorem TabN.bel {w0 w : World} {tb : Nat} {L : List ByteArray} (h : TabN w0 w tb L) : Below w0.heap.size w0 w := by obtain ⟨_, _, _, _, _, hB⟩ := h; exact hB
theorem dec_any (a : Option Addr) (n c : Nat) (bs : List (List Int)) (limit : Int) (w : World) (hr : LRow w a n bs) (hn : (n : Int) ≤ 9223372036854775806) :
    Calls Try.prog 15 #[.slice a n c, .int .i64 limit] w (DecPost w bs limit) := by
  have HL : Hid (LRow w a n bs) := hr
  have hl := hr.len
  have HQ := lm_any limit w
  clear hr
  by_cases hlim : 64 ≤ limit ∧ limit ≤ 1048576
  · rw [decide_eq_true hlim] at HQ
    have HQ1 : Hid _ := hide HQ
    have HLm : Hid (64 ≤ limit ∧ limit ≤ 1048576) := hlim
    obtain ⟨R, hR⟩ : ∃ R, R = rdAll bs [] := ⟨_, rfl⟩
    have HR : Hid (rdAll bs [] = R) := hR.symm
    have HLen : Hid (bs.length = n) := hl
    obtain ⟨lim, rfl⟩ := Int.eq_ofNat_of_zero_le (show 0 ≤ limit by omega)
    clear HQ hlim hR hl
    go_enter Try.func15, Try.ntmps15
    go_wp2_with fail
    refine HQ1.out.mono ?_
    rintro e w1 ⟨rfl, rfl⟩
    go_wp2_with fail
    refine (new_any w1).mono ?_
    rintro e w2 ⟨rfl, rfl⟩
    have B0 : Hid (TabN w1 (w1.alloc (.cells #[.slice none 0 0, .map none, .int .i64 0] 71)) w1.heap.size []) := hide
      ⟨fun k => k = w1.heap.size, .slice none 0 0, .map none, ⟨heap_alloc_new w1 _, World.ownsRow_nil _ _ _ _, .inl ⟨rfl, rfl⟩, rfl, fun g e => by simp [Value.ownBlock] at e, List.nodup_nil, by simp, by simp, by simp [total]⟩, fun k e => by subst e; simp, (Below.refl _ w1).alloc (Nat.le_refl _) _⟩
    obtain ⟨tb, hA⟩ : ∃ tb, tb = w1.heap.size := ⟨_, rfl⟩
    rw [← hA] at B0 ⊢
    generalize hw2 : w1.alloc (.cells #[.slice none 0 0, .map none, .int .i64 0] 71) = w2 at B0 ⊢
    clear hA hw2
    go_wp2
    go_loopw [16] (fun i wr => ∃ (k : Nat) (L' : List ByteArray), k ≤ n ∧ i = .int .i64 k ∧ TabN w1 wr tb L' ∧ rdAll (bs.drop k) L' = R) (fun i _ => n - (intOf i).toNat)
    case atStart => exact ⟨0, [], Nat.zero_le _, rfl, B0.out, HR.out⟩
    case round =>
      obtain ⟨k, L', hk, rfl, hN, hRR⟩ := hrel
      have HN : Hid (TabN w1 wr tb L') := hN
      by_cases hlt : k < n
      · obtain ⟨b, off, z, ai, ci, rfl, hz, hcz, hrz, hnz, hzc, hzl⟩ := (HL.out).at hlt
        have hcz2 : wr.cell? ⟨b, off + k, none⟩ = some (.slice ai z.length ci) := by
          obtain ⟨_, _, _, _, _, hB⟩ := hN
          rw [hB.cell (p := ⟨b, off + k, none⟩) (World.block_lt_of_cell? w1 _ hcz)]; exact hcz
        have HQ2 : Hid _ := hide (rd_any hN ai z.length ci z hrz hzl hzc)
        have hd : bs.drop k = z :: bs.drop (k + 1) := by
          have := List.getElem?_eq_some_iff.1 hz
          rw [List.drop_eq_getElem_cons this.1, this.2]
        rw [hd, rdAll] at hRR
        generalize rdBody L' z = r at HQ2 hRR
        obtain ⟨f, L2⟩ := r
        dsimp only at hRR
        clear hN hz hcz hrz hnz hzc hd
        by_cases hf : f = 0
        · subst hf
          rw [if_neg (by simp)] at hRR
          have HRR : Hid (rdAll (bs.drop (k + 1)) L2 = R) := hRR
          clear hRR
          go_wp2_with fail
          refine HQ2.out.mono ?_
          rintro e w3 ⟨rfl, hT3⟩
          have HT3 : Hid (TabN w1 w3 tb L2) := hT3
          clear hT3
          go_wp2
          exact ⟨⟨k + 1, L2, by omega, by go_num, HT3.out, HRR.out⟩, by simp [intOf]; omega⟩
        · rw [if_pos hf] at hRR
          have HRR : Hid ((f, L2) = R) := hRR
          clear hRR
          go_wp2_with fail
          refine HQ2.out.mono ?_
          rintro e w3 ⟨rfl, hT3⟩
          have HT3 : Hid (TabN w1 w3 tb L2) := hT3
          have HF : Hid (f ≠ 0) := hf
          clear hT3
          go_wp2
          go_ret2
          refine ⟨HT3.out.bel, .inr (.inl ⟨HLm.out, ?_, ?_⟩)⟩
          · rw [HR.out, ← HRR.out]; exact HF.out
          · rw [HR.out, ← HRR.out]; rfl
      · have hd : bs.drop k = [] := List.drop_eq_nil_of_le (by have := HLen.out; omega)
        rw [hd, rdAll] at hRR
        have HRR : Hid ((0, L') = R) := hRR
        obtain ⟨S, v, mv, ht, hS, hB⟩ := hN
        have HTb : Hid (Tab wr tb S L' v mv) := ht
        have HQ3 : Hid _ := hide (bodies_any ht lim (by have := HLm.out; omega))
        have HL2 : Hid (LRow wr a n bs) := hide (HL.out.below hB)
        clear ht hS hB hRR hd
        go_wp2_with fail
        refine HQ3.out.mono ?_
        rintro e w3 ⟨a2, c2, bs', vals, rfl, hcut, hls, hb3⟩
        have HC : Hid (Cutting L' lim 0 bs') := hcut
        have HN3 : Hid (TabN w1 w3 tb L') := hide (HN.out.below hb3)
        have HQ4 : Hid _ := hide (same_f a a2 n c bs'.length c2 bs bs' w3 (HL2.out.below hb3) (hls.lrow (hcut.small HTb.out.len HTb.out.sum HTb.out.small)) hn)
        clear hcut hls hb3
        go_wp2_with fail
        refine HQ4.out.mono ?_
        rintro e w4 ⟨rfl, rfl⟩
        by_cases hbb : bs = bs'
        · rw [decide_eq_true hbb]
          have HBB : Hid (bs = bs') := hbb
          clear hbb
          go_wp2
          go_ret2
          refine ⟨HN3.out.bel, .inr (.inr ⟨HLm.out, by rw [HR.out, ← HRR.out], bs', ?_, .inl ⟨HBB.out, tb, rfl, ?_⟩⟩)⟩
          · rw [HR.out, ← HRR.out, Int.toNat_natCast]; exact HC.out
          · rw [HR.out, ← HRR.out]; exact HN3.out
        · rw [decide_eq_false hbb]
          have HBB : Hid (bs ≠ bs') := hbb
          clear hbb
          go_wp2
          go_ret2
          refine ⟨HN3.out.bel, .inr (.inr ⟨HLm.out, by rw [HR.out, ← HRR.out], bs', ?_, .inr ⟨HBB.out, rfl⟩⟩)⟩
          rw [HR.out, ← HRR.out, Int.toNat_natCast]; exact HC.out
  · rw [decide_eq_false hlim] at HQ
    have HQ1 : Hid _ := hide HQ
    have HLm : Hid (¬ (64 ≤ limit ∧ limit ≤ 1048576)) := hlim
    clear HQ hlim hl
    go_enter Try.func15, Try.ntmps15
    go_wp2_with fail
    refine HQ1.out.mono ?_
    rintro e w1 ⟨rfl, rfl⟩
    go_wp2
    go_ret2
    exact ⟨Below.refl _ _, .inl ⟨HLm.out, rfl⟩⟩
end Go.Proofs.Ytbcmheilgilipaa
