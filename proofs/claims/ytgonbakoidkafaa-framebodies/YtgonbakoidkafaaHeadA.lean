/-
  EncodeHead, the program's.
-/
import Derived.Test.YtgonbakoidkafaaFeetB
import Derived.Laws.OwnMore
namespace Go.Proofs.Ytgonbakoidkafaa
open Go.RowKit
/-- The fields of a head, by their numbers. -/
def fld (l e s t n : Int) : Nat → Int
  | 0 => l | 1 => e | 2 => s | 3 => t | _ => n
/-- The body of a head up to its k-th number. -/
def hbK (F : Nat → Int) : Nat → List Int
  | 0 => [1]
  | k + 1 => hbK F k ++ enc (F k).toNat
theorem hbK_succ (F : Nat → Int) (k : Nat) : hbK F (k + 1) = hbK F k ++ enc (F k).toNat := rfl
theorem hbK_len (F : Nat → Int) (k : Nat) (h : ∀ i, i < k → 0 ≤ F i ∧ F i ≤ 1048576) : (hbK F k).length ≤ 1 + 10 * k := by
  induction k with
  | zero => simp [hbK]
  | succ k ih =>
    have := ih (fun i hi => h i (by omega))
    have h1 := h k (by omega)
    have h2 := enc_le (F k).toNat (by omega)
    rw [hbK_succ, List.length_append]; omega
theorem hbK_mem (F : Nat → Int) (k : Nat) : ∀ z ∈ hbK F k, 0 ≤ z ∧ z ≤ 255 := by
  induction k with
  | zero => intro z hz; simp [hbK] at hz; omega
  | succ k ih =>
    intro z hz
    rw [hbK_succ] at hz
    rcases List.mem_append.1 hz with h | h
    · exact ih z h
    · exact enc_mem _ z h
def headB (l e s t n : Int) : List Int := if okH l e s t n = true then hbK (fld l e s t n) 5 else []
def headE (l e s t n : Int) : Int := if okH l e s t n = true then 0 else 32
theorem headB_mem (l e s t n : Int) : ∀ z ∈ headB l e s t n, 0 ≤ z ∧ z ≤ 255 := by
  intro z hz
  unfold headB at hz
  split at hz
  · exact hbK_mem _ _ z hz
  · cases hz
theorem okH_fld {l e s t n : Int} (h : okH l e s t n = true) : ∀ i, i < 5 → 0 ≤ fld l e s t n i ∧ fld l e s t n i ≤ 1048576 := by
  unfold okH at h
  rw [decide_eq_true_eq] at h
  intro i hi
  match i, hi with
  | 0, _ => simp only [fld]; omega
  | 1, _ => simp only [fld]; omega
  | 2, _ => simp only [fld]; omega
  | 3, _ => simp only [fld]; omega
  | 4, _ => simp only [fld]; omega
/-- What is asked of both: the bytes, the error. -/
def EhSaid (l e s t n : Int) (w : World) (r : Ending) (w' : World) : Prop :=
  ∃ a c, r = .returned (.tuple #[.slice a (headB l e s t n).length c, .int .i64 (headE l e s t n)]) ∧ Row w' a (headB l e s t n).length (headB l e s t n) ∧ Below w.heap.size w w'
theorem eh_bad (l e s t n : Int) (w w' : World) (h : okH l e s t n = false) (hb : Below w.heap.size w w') : EhSaid l e s t n w (.returned (.tuple #[.slice none 0 0, .int .i64 32])) w' := by
  have h' : ¬ okH l e s t n = true := by rw [h]; decide
  have e1 : headB l e s t n = [] := if_neg h'
  have e2 : headE l e s t n = 32 := if_neg h'
  exact ⟨none, 0, by rw [e1, e2]; rfl, by rw [e1]; exact Row.empty _ _, hb⟩
theorem eh_good (l e s t n : Int) (w w' : World) (v : Value) (m base : Nat) (h : okH l e s t n = true) (hm : (hbK (fld l e s t n) 5).length = m) (ho : w'.ownsRow base 5 1 v m ((hbK (fld l e s t n) 5).map (Value.int .u8))) (hb : Below w.heap.size w w') : EhSaid l e s t n w (.returned (.tuple #[v, .int .i64 0])) w' := by
  have e1 : headB l e s t n = hbK (fld l e s t n) 5 := if_pos h
  have e2 : headE l e s t n = 0 := if_pos h
  have hl : (headB l e s t n).length = m := by rw [e1, hm]
  rw [← e1] at ho
  obtain ⟨a, c, rfl⟩ := own_form ho
  exact ⟨a, c, by rw [e2, hl], by rw [hl]; exact own_row_u8 ho (u8_of_mem (headB_mem l e s t n)), hb⟩
theorem Try.info40 : (Try.prog.info? 40).map (fun i => (i.zero, i.size, i.bytes)) = some (some (.pointer none), 1, 8) := by kernel_rfl
theorem Try.under41 : Try.prog.underlying 41 = some (.array 5 40) := by kernel_rfl
theorem ptr_index (b k : Nat) (hk : k < 5) (w : World) : (Instr.index 41 (.agg #[.pointer (some ⟨b, 0, none⟩), .pointer (some ⟨b, 1, none⟩), .pointer (some ⟨b, 2, none⟩), .pointer (some ⟨b, 3, none⟩), .pointer (some ⟨b, 4, none⟩)]) (.int .i64 (k : Int))).run Try.prog w = .ok (.pointer (some ⟨b, k, none⟩)) w := by
  obtain ⟨i0, hi, hz0, hz1, hz2⟩ := info_parts Try.info40
  match k, hk with
  | 0, _ => simp [Instr.index, run_underlying Try.under41, asIntOf, part, isAgg, sizeOf, typeInfo, hi, hz1, go_sem]
  | 1, _ => simp [Instr.index, run_underlying Try.under41, asIntOf, part, isAgg, sizeOf, typeInfo, hi, hz1, go_sem]
  | 2, _ => simp [Instr.index, run_underlying Try.under41, asIntOf, part, isAgg, sizeOf, typeInfo, hi, hz1, go_sem]
  | 3, _ => simp [Instr.index, run_underlying Try.under41, asIntOf, part, isAgg, sizeOf, typeInfo, hi, hz1, go_sem]
  | 4, _ => simp [Instr.index, run_underlying Try.under41, asIntOf, part, isAgg, sizeOf, typeInfo, hi, hz1, go_sem]

theorem ob (v : Value) : v.ownBlock = none ∨ v.ownBlock ≠ none := by cases v.ownBlock <;> simp
theorem grown_of {w W : World} {r : Option Nat} (hb : Below w.heap.size w W) : w.grownBy W r := ⟨hb.os, hb.tape, hb.output, hb.size, fun k hk _ => hb.block k hk⟩
def HC (l e s t n : Int) : Obj := .cells #[.int .i64 l, .int .i64 e, .int .i64 s, .int .i64 t, .int .i64 n] 23
theorem hc_cell (l e s t n : Int) (w : World) (k : Nat) (hk : k < 5) : (w.alloc (HC l e s t n)).cell? ⟨w.heap.size, k, none⟩ = some (.int .i64 (fld l e s t n k)) := by
  unfold HC
  match k, hk with
  | 0, _ => rw [World.cell?_alloc_at _ _ _ _ rfl]; rfl
  | 1, _ => rw [World.cell?_alloc_at _ _ _ _ rfl]; rfl
  | 2, _ => rw [World.cell?_alloc_at _ _ _ _ rfl]; rfl
  | 3, _ => rw [World.cell?_alloc_at _ _ _ _ rfl]; rfl
  | 4, _ => rw [World.cell?_alloc_at _ _ _ _ rfl]; rfl
set_option maxHeartbeats 1600000 in
theorem eh_any (l e s t n : Int) (w : World) :
    Calls Try.prog 5 #[.agg #[.int .i64 l, .int .i64 e, .int .i64 s, .int .i64 t, .int .i64 n]] w (EhSaid l e s t n w) := by
  have hm := hm_any l e s t n (w.alloc (HC l e s t n))
  have HB0 := hide (below_alloc1 w (HC l e s t n))
  have HC0 := hide (hc_cell l e s t n w)
  have HL : w.heap.size < (w.alloc (HC l e s t n)).heap.size := by simp
  by_cases h : okH l e s t n = true
  · rw [h] at hm
    have H := hide h
    have HF := hide (okH_fld h)
    clear h
    obtain ⟨F, hF⟩ : ∃ F, F = fld l e s t n := ⟨_, rfl⟩
    have HFE := hide hF
    rw [← hF] at HF HC0
    clear hF
    go_enter Try.func5, Try.ntmps5
    go_wp2_with fail
    change Calls _ _ _ (w.alloc (HC l e s t n)) _
    refine hm.mono ?_
    rintro r w1 ⟨rfl, hb1⟩
    clear hm
    generalize w.alloc (HC l e s t n) = W0 at HB0 HC0 HL hb1
    go_wp2_with fail
    refine (fo_any w.heap.size _).mono ?_
    rintro r w3 ⟨rfl, hb3⟩
    have own2 : (w1.alloc (.cells #[.int .u8 1] 5)).ownsRow W0.heap.size 5 1 (.slice (some ⟨w1.heap.size, 0, none⟩) 1 1) 1 ((hbK F 0).map (Value.int .u8)) := World.ownsRow_lit w1 #[.int .u8 1] 1 hb1.size (by decide) rfl
    have hb2 : Below W0.heap.size W0 (w1.alloc (.cells #[.int .u8 1] 5)) := hb1.alloc hb1.size _
    have own3 := own2.kept (grown_of hb3 (r := none)) (ob _)
    have hb4 : Below W0.heap.size W0 w3 := hb2.trans (hb3.mono hb2.size)
    generalize w1.alloc (.cells #[.int .u8 1] 5) = W2 at own2 hb2 hb3
    have O3 := hide own3
    have B4 := hide hb4
    clear own2 own3 hb2 hb3 hb4 hb1
    go_wp2
    go_loopw [4, 12] (fun v si wr => ∃ (k m : Nat), k ≤ 5 ∧ si = .int .i64 k ∧ (hbK F k).length = m ∧ wr.ownsRow W0.heap.size 5 1 v m ((hbK F k).map (Value.int .u8)) ∧ Below W0.heap.size W0 wr)
      (fun _ si _ => 5 - (intOf si).toNat)
    case atStart => exact ⟨0, 1, by omega, rfl, rfl, O3.out, B4.out⟩
    case round =>
      obtain ⟨k, m, hk, rfl, hm, ho, hb⟩ := hrel
      have hml := hbK_len F k (fun i hi => HF.out i (by omega))
      rw [hm] at hml
      by_cases hlt : k < 5
      · have hck := (hb.cell (p := ⟨w.heap.size, k, none⟩) HL).trans (HC0.out k hlt)
        have hx := HF.out k hlt
        have hidx := ptr_index w.heap.size k hlt
        have HS := hide (hbK_succ F k)
        obtain ⟨x, hxx⟩ : ∃ x, F k = x := ⟨_, rfl⟩
        rw [hxx] at hck hx HS
        have hx0 := hx.1
        have hx1 := hx.2
        obtain ⟨q, hq⟩ : ∃ q, (enc x.toNat).length = q := ⟨_, rfl⟩
        have hq10 : q ≤ 10 := by rw [← hq]; exact enc_le _ (by omega)
        have HQ := hide hq
        have HM := hide hm
        have HU := hide (uv_kept x q wr hx0 (by omega) hq)
        have hbs := hb.size
        clear hx hxx hq hm
        go_wp2_with fail
        refine HU.out.mono ?_
        rintro e w5 ⟨c5, rfl, ho5, hb5⟩
        have hr5 := own_row_u8 ho5 (u8_of_mem (enc_mem x.toNat))
        have ho' := ho.kept (grown_of hb5 (r := none)) (ob _)
        have hbs5 := hb5.size
        clear hck HU ho5
        go_wp2_with (at_builtin; refine append_row _ rfl (.tmp 15) (.tmp 20) rfl W0.heap.size _ m (hbK F k) rfl ho' _ q c5 (enc x.toNat) rfl hr5 (fun h => by cases h) (by omega) (by omega) ?_; intro v' w6 hown6 hgrow6)
        rw [← HS.out] at hown6
        have hb6 : Below W0.heap.size W0 w6 := (hb.trans (hb5.mono hbs)).grown hgrow6 (by omega) (fun k hk => (ho'.lt k hk).1)
        exact ⟨⟨k + 1, m + q, by omega, by go_num, by rw [HS.out, List.length_append, HM.out, HQ.out], hown6, hb6⟩, by simp [intOf]; omega⟩
      · have hk5 : k = 5 := by omega
        subst hk5
        go_wp2
        go_ret2
        rw [HFE.out] at hm ho
        exact eh_good l e s t n w _ _ m _ H.out hm ho (HB0.out.trans (hb.mono (Nat.le_of_lt HL)))
  · have hf : okH l e s t n = false := by simpa using h
    rw [hf] at hm
    have H := hide hf
    clear h hf
    go_enter Try.func5, Try.ntmps5
    go_wp2_with fail
    change Calls _ _ _ (w.alloc (HC l e s t n)) _
    refine hm.mono ?_
    rintro r w1 ⟨rfl, hb1⟩
    clear hm
    generalize w.alloc (HC l e s t n) = W0 at HB0 HC0 HL hb1
    go_wp2
    go_ret2
    exact eh_bad l e s t n w _ H.out (HB0.out.trans (hb1.mono (Nat.le_of_lt HL)))
end Go.Proofs.Ytgonbakoidkafaa
