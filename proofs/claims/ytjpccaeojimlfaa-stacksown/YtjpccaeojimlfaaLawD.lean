/-
  grown; cut.
-/
import Derived.Test.YtjpccaeojimlfaaBackM
namespace Go.Proofs.Ytjpccaeojimlfaa
open Go.RowKit Go.Maps Go.Shelf
/-- A forest that was grown. -/
def Grown5 (w w' : World) (tb fb : Nat) : Prop := ∃ T S L N P, Fx w w' T S tb fb L N ∧ Fit L N P
set_option maxRecDepth 4000 in
theorem grown_any (a : Option Addr) (n c : Nat) (LS : List Stk) (w : World) (hLS : PRow w a n LS) (hn : (n : Int) ≤ 9223372036854775806) (hz : ∀ q ∈ LS, (q.length : Int) ≤ 9223372036854775806 ∧ ∀ s ∈ q, s.size ≤ maxLen) :
    Calls Try.prog 21 #[.slice a n c] w fun e w' => ∃ tb fb, e = .returned (.tuple #[.pointer (some ⟨tb, 0, none⟩), .pointer (some ⟨fb, 0, none⟩)]) ∧ Grown5 w w' tb fb := by
  have HLS : Hid (PRow w a n LS) := hLS
  have HZ : Hid (∀ q ∈ LS, (q.length : Int) ≤ 9223372036854775806 ∧ ∀ s ∈ q, s.size ≤ maxLen) := hz
  have HLl : Hid (LS.length = n) := hLS.len
  have HN : Hid _ := hide (new_any w)
  clear hLS hz
  go_enter Try.func21, Try.ntmps21
  go_wp2_with fail
  refine HN.out.mono ?_
  rintro e w2 ⟨rfl, hw2⟩
  have HF : Hid _ := hide (new_f w.heap.size w2)
  have HW2 : Hid _ := hide hw2
  clear hw2 HN
  go_wp2_with fail
  refine HF.out.mono ?_
  rintro e w3 ⟨rfl, ⟨v, mb, hF⟩, hb⟩
  have hst : St w3 (fun k => k = w.heap.size) (fun k => w.heap.size + 1 ≤ k ∧ k < w3.heap.size) w.heap.size (w2.heap.size + 1) [] [] ∧ Below w.heap.size w w3 := by
    rw [HW2.out] at hF hb ⊢; have := st_new hF hb; rw [World.size_alloc]; exact this
  have HFx : Hid (Fx w w3 (fun k => k = w.heap.size) (fun k => w.heap.size + 1 ≤ k ∧ k < w3.heap.size) w.heap.size (w2.heap.size + 1) [] []) := ⟨hst.1, hst.2, by intro k hk; omega⟩
  generalize w2.heap.size + 1 = fb at HFx ⊢
  generalize htb : w.heap.size = tb at HFx ⊢
  clear hst hF hb HF HW2 htb
  go_wp2
  go_loopw [6] (fun i wr => ∃ (k : Nat) (T S : Nat → Prop) (L : List ByteArray) (N : List Nd) (P : List Stk), k ≤ n ∧ i = .int .i64 k ∧ Fx w wr T S tb fb L N ∧ Fit L N P) (fun i _ => n - (intOf i).toNat)
  case atStart => exact ⟨0, _, _, [], [], [], Nat.zero_le _, rfl, HFx.out, Fit.nil⟩
  case round =>
    obtain ⟨k, T, S, L, N, P, hk, rfl, hf, hfit⟩ := hrel
    have HF : Hid _ := hide hf
    have HFit : Hid (Fit L N P) := hfit
    clear hf hfit HFx
    by_cases hlt : k < n
    · obtain ⟨b1, o1, ai, ci, ha, hc1, hr1, hci⟩ := HLS.out.at hlt
      subst ha
      obtain ⟨x, hx⟩ : ∃ x, x = LS.getD k [] := ⟨_, rfl⟩
      have hxz := HZ.out x (by rw [hx]; exact List.mem_of_getElem? (getP_get (by have := HLl.out; omega)))
      rw [← hx] at hc1 hr1 hci
      have hcr : wr.cell? ⟨b1, o1 + k, none⟩ = some (.slice ai x.length ci) := cell_block hc1 (HF.out.bel.block b1 (World.block_lt_of_cell? w _ hc1))
      have HI : Hid _ := hide (intern_u P HF.out.st HFit.out.good ai x.length ci x (hr1.below HF.out.bel) hxz.1 hci hxz.2 (by
        intro b off e h0
        have hlt' := hr1.old e h0
        exact ⟨fun e => by have := HF.out.new b (.inl e); omega, fun e => by have := HF.out.new b (.inr e); omega⟩))
      clear hc1 hr1 hx hxz
      go_wp2_with fail
      refine HI.out.mono ?_
      rintro e w4 ⟨id, er, L', N', P', rfl, hres, ⟨T', S', hst, h1, h2⟩, hb⟩
      have HF4 : Hid _ := hide (HF.out.put hst h1 h2 hb)
      have HFit4 : Hid _ := hide (hres.fit HFit.out).1
      clear hres hst h1 h2 hb hcr
      go_wp2
      exact ⟨⟨k + 1, T', S', L', N', P', by omega, by go_num, HF4.out, HFit4.out⟩, by simp [intOf]; omega⟩
    · go_wp2
      go_ret2
      exact ⟨tb, fb, rfl, T, S, L, N, P, HF.out, HFit.out⟩
theorem cut_any (a : Option Addr) (n c : Nat) (bs : List (List Int)) (lim : Nat) (w : World) (hr : LRow w a n bs) (hn : (n : Int) ≤ 9223372036854775806) (hb : ∀ b ∈ bs, b.length ≤ lim) :
    Calls Try.prog 26 #[.slice a n c, .int .i64 (lim : Int)] w fun e w' => e = .returned (.bool true) ∧ w' = w := by
  have HR : Hid (LRow w a n bs) := hr
  have HB : Hid (∀ b ∈ bs, b.length ≤ lim) := hb
  clear hr hb
  go_enter Try.func26, Try.ntmps26
  go_wp2
  go_loopw [5] (fun i wr => ∃ k : Nat, k ≤ n ∧ i = .int .i64 k ∧ wr = w) (fun i _ => n - (intOf i).toNat)
  case atStart => exact ⟨0, Nat.zero_le _, rfl, rfl⟩
  case round =>
    obtain ⟨k, hk, rfl, rfl⟩ := hrel
    by_cases hlt : k < n
    · obtain ⟨b, off, z, ai, ci, ha, hz, hc, _⟩ := HR.out.at hlt
      subst ha
      have hzl : (z.length : Int) ≤ lim := by have := HB.out z (List.mem_of_getElem? hz); omega
      clear hz
      go_wp2
      exact ⟨⟨k + 1, by omega, by go_num, trivial⟩, by simp [intOf]; omega⟩
    · go_wp2
      go_ret
      exact ⟨rfl, rfl⟩
end Go.Proofs.Ytjpccaeojimlfaa
