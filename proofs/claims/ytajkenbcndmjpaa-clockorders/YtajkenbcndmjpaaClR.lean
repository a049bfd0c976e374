/-
  ClockGoods, ClockSets, ClockOrders, ClockJoins: the walks.
-/
import Derived.Test.YtajkenbcndmjpaaClP
import Derived.Test.YtajkenbcndmjpaaClQ
namespace Go.Proofs.Ytajkenbcndmjpaa
open Go.RowKit
theorem cget_any {w : World} {v : Value} {L : List Tk} (g : Int) (h : CL w v L) : Calls Try.prog 16 #[v, .int .i64 g] w fun e w' => e = .returned (.int .i64 (if gd 0 L then tm g L else 0)) ∧ Below w.heap.size w w' := by
  obtain ⟨a, n, c, rfl, h1⟩ := h.ex
  exact get_any a n c L g w h1.row h1.big
theorem crget_any {w : World} {v : Value} {L : List Tk} (g : Int) (h : CL w v L) : Calls Try.prog 17 #[v, .int .i64 g] w fun e w' => e = .returned (.int .i64 (if gd 0 L then tm g L else 0)) ∧ Below w.heap.size w w' := by
  obtain ⟨a, n, c, rfl, h1⟩ := h.ex
  exact rget_any a n c L g w h1.row h1.big
theorem csetB_any {w : World} {v : Value} {L : List Tk} (g t f : Int) (h : CL w v L) (hf : (if gd 0 L = true then if g < 0 ∨ 65536 ≤ g then (61 : Int) else if t < 0 then 2 else 0 else 170) = f) (hf0 : f ≠ 0) :
    Calls Try.prog 10 #[v, .int .i64 g, .int .i64 t] w fun e w' => e = .returned (.tuple #[.slice none 0 0, .int .i64 f]) ∧ Below w.heap.size w w' := by
  obtain ⟨a, n, c, rfl, h1⟩ := h.ex
  exact set_bad a n c L g t f w h1 hf hf0
theorem csetO_any {w : World} {v : Value} {L : List Tk} (g t : Int) (h : CL w v L) (hg : gd 0 L = true) (hg0 : 0 ≤ g) (hg1 : g < 65536) (ht : 0 ≤ t) :
    Calls Try.prog 10 #[v, .int .i64 g, .int .i64 t] w fun e w' => ∃ x, e = .returned (.tuple #[x, .int .i64 0]) ∧ Own layT 40 w' w.heap.size x (stt L g t) ∧ Below w.heap.size w w' := by
  obtain ⟨a, n, c, rfl, h1⟩ := h.ex
  exact set_ok a n c L g t w h1 hg hg0 hg1 ht
theorem ctwoB_any {w : World} {v u : Value} {L M : List Tk} (h : CL w v L) (k : CL w u M) (hg : gd 0 L = false ∨ gd 0 M = false) :
    Calls Try.prog 22 #[v, u] w (fun e w' => e = .returned (.tuple #[.slice none 0 0, .int .i64 170]) ∧ Below w.heap.size w w') ∧ Calls Try.prog 24 #[v, u] w (fun e w' => e = .returned (.tuple #[.slice none 0 0, .int .i64 170]) ∧ Below w.heap.size w w') ∧
    Calls Try.prog 18 #[v, u] w (fun e w' => e = .returned (.tuple #[.bool false, .int .i64 170]) ∧ Below w.heap.size w w') ∧ Calls Try.prog 20 #[v, u] w (fun e w' => e = .returned (.tuple #[.bool false, .int .i64 170]) ∧ Below w.heap.size w w') := by
  obtain ⟨a, n, c, rfl, h1⟩ := h.ex
  obtain ⟨b, m, d, rfl, k1⟩ := k.ex
  exact ⟨join_bad a b n c m d L M w h1.row k1.row h1.big k1.big hg, meet_bad a b n c m d L M w h1.row k1.row h1.big k1.big hg, leq_bad a b n c m d L M w h1.row k1.row h1.big k1.big hg, apart_bad a b n c m d L M w h1.row k1.row h1.big k1.big hg⟩
theorem croomy_any {w : World} {v : Value} {L : List Tk} (h : CL w v L) (hb : L.length * 16 ≤ 140737488351232) : Calls Try.prog 9 #[v] w fun e w' => ∃ x, e = .returned x ∧ RM w' w.heap.size x L ∧ Below w.heap.size w w' := by
  obtain ⟨a, n, c, rfl, h1⟩ := h.ex
  exact roomy_any a n c L w h1.row h1.frm (by rw [← h1.row.len]; exact hb)
set_option maxRecDepth 100000 in
set_option maxHeartbeats 4000000 in
theorem clockGoods {w : World} {v : Value} {L : List Tk} (g : Int) (h : CL w v L) (hl : L.length * 16 ≤ 140737488351232) : Calls Try.prog 4 #[v, .int .i64 g] w fun e w' => e = .returned (.bool true) ∧ Below w.heap.size w w' := by
  have HC := hide h
  have HL := hide hl
  have HB := hide (Below.refl w.heap.size w)
  clear h hl
  obtain ⟨R, hR⟩ : ∃ R, (if gd 0 L then tm g L else 0) = R := ⟨_, rfl⟩
  obtain ⟨B, hB⟩ : ∃ B, gd 0 L = B := ⟨_, rfl⟩
  have HR := hide hR
  have HBo := hide hB
  clear hR hB
  go_enter Try.func4, Try.ntmps4
  go_wp2_with fail
  refine (croomy_any HC.out HL.out).mono ?_
  rintro e w9 ⟨x1, rfl, hr, hb⟩
  replace HC := hide (HC.out.below hb)
  replace HB := hide (Below.on HB.out hb)
  clear hb
  have HRm := hide hr
  clear hr
  go_wp2_with fail
  refine (cgood_any HRm.out.cl).mono ?_
  rintro e w9 ⟨rfl, hb⟩
  replace HC := hide (HC.out.below hb)
  replace HRm := hide (HRm.out.below hb)
  replace HB := hide (Below.on HB.out hb)
  clear hb
  rw [HBo.out]
  go_wp2_with fail
  refine (rgoodB_any HC.out).mono ?_
  rintro e w9 ⟨rfl, hb⟩
  replace HC := hide (HC.out.below hb)
  replace HRm := hide (HRm.out.below hb)
  replace HB := hide (Below.on HB.out hb)
  clear hb
  rw [HBo.out]
  go_wp2_with fail
  refine (cget_any g HRm.out.cl).mono ?_
  rintro e w9 ⟨rfl, hb⟩
  replace HC := hide (HC.out.below hb)
  replace HRm := hide (HRm.out.below hb)
  replace HB := hide (Below.on HB.out hb)
  clear hb
  rw [HR.out]
  go_wp2_with fail
  refine (crget_any g HC.out).mono ?_
  rintro e w9 ⟨rfl, hb⟩
  replace HC := hide (HC.out.below hb)
  replace HRm := hide (HRm.out.below hb)
  replace HB := hide (Below.on HB.out hb)
  clear hb
  rw [HR.out]
  go_wp2_with fail
  refine (kept_any HRm.out HC.out).mono ?_
  rintro e w9 ⟨rfl, hb⟩
  replace HC := hide (HC.out.below hb)
  replace HRm := hide (HRm.out.below hb)
  replace HB := hide (Below.on HB.out hb)
  clear hb
  go_wp2
  go_ret
  exact ⟨rfl, HB.out⟩
set_option maxRecDepth 100000 in
set_option maxHeartbeats 4000000 in
theorem clockSets {w : World} {v : Value} {L : List Tk} (g n : Int) (h : CL w v L) (hl : L.length * 16 ≤ 140737488351232) : Calls Try.prog 3 #[v, .int .i64 g, .int .i64 n] w fun e w' => e = .returned (.bool true) ∧ Below w.heap.size w w' := by
  have HC := hide h
  have HL := hide hl
  have HB := hide (Below.refl w.heap.size w)
  clear h hl
  obtain ⟨f, hf⟩ : ∃ f, (if gd 0 L = true then if g < 0 ∨ 65536 ≤ g then (61 : Int) else if n < 0 then 2 else 0 else 170) = f := ⟨_, rfl⟩
  by_cases hf0 : f = 0
  · have hg : gd 0 L = true := by
      cases e : gd 0 L with
      | true => rfl
      | false => rw [e] at hf; simp at hf; omega
    rw [if_pos hg] at hf
    have hr : ¬ (g < 0 ∨ 65536 ≤ g) := fun e => by rw [if_pos e] at hf; omega
    rw [if_neg hr] at hf
    have hn : ¬ n < 0 := fun e => by rw [if_pos e] at hf; omega
    have HG := hide hg
    have HR : Hid (0 ≤ g ∧ g < 65536 ∧ 0 ≤ n) := hide (by omega)
    clear hf hf0 hg hr hn f
    go_enter Try.func3, Try.ntmps3
    go_wp2_with fail
    refine (croomy_any HC.out HL.out).mono ?_
    rintro e w9 ⟨x1, rfl, hr, hb⟩
    replace HC := hide (HC.out.below hb)
    replace HB := hide (Below.on HB.out hb)
    clear hb
    have HRm := hide hr
    clear hr
    go_wp2_with fail
    refine (csetO_any g n HRm.out.cl HG.out HR.out.1 HR.out.2.1 HR.out.2.2).mono ?_
    rintro e w9 ⟨x2, rfl, o2, hb⟩
    replace HC := hide (HC.out.below hb)
    replace HRm := hide (HRm.out.below hb)
    replace HB := hide (Below.on HB.out hb)
    clear hb
    have HS2 := hide (cv_own o2 (stt_spec HG.out HR.out.1 HR.out.2.1 HR.out.2.2).1)
    clear o2
    go_wp2_with fail
    refine (rset_ok g n HC.out HG.out HR.out.1 HR.out.2.1 HR.out.2.2).mono ?_
    rintro e w9 ⟨x3, rfl, o3, hb⟩
    replace HC := hide (HC.out.below hb)
    replace HRm := hide (HRm.out.below hb)
    replace HS2 := hide (HS2.out.below hb)
    replace HB := hide (Below.on HB.out hb)
    clear hb
    have HS3 := hide (cv_own o3 (stt_spec HG.out HR.out.1 HR.out.2.1 HR.out.2.2).1)
    clear o3
    go_wp2_with fail
    refine (csameT_any HS2.out HS3.out (fun _ => rfl)).mono ?_
    rintro e w9 ⟨rfl, hb⟩
    replace HC := hide (HC.out.below hb)
    replace HRm := hide (HRm.out.below hb)
    replace HS2 := hide (HS2.out.below hb)
    replace HS3 := hide (HS3.out.below hb)
    replace HB := hide (Below.on HB.out hb)
    clear hb
    go_wp2_with fail
    refine (kept_any HRm.out HC.out).mono ?_
    rintro e w9 ⟨rfl, hb⟩
    replace HC := hide (HC.out.below hb)
    replace HRm := hide (HRm.out.below hb)
    replace HS2 := hide (HS2.out.below hb)
    replace HS3 := hide (HS3.out.below hb)
    replace HB := hide (Below.on HB.out hb)
    clear hb
    go_wp2
    go_ret
    exact ⟨rfl, HB.out⟩
  · have HF := hide hf
    have HF0 := hide hf0
    clear hf hf0
    go_enter Try.func3, Try.ntmps3
    go_wp2_with fail
    refine (croomy_any HC.out HL.out).mono ?_
    rintro e w9 ⟨x1, rfl, hr, hb⟩
    replace HC := hide (HC.out.below hb)
    replace HB := hide (Below.on HB.out hb)
    clear hb
    have HRm := hide hr
    clear hr
    go_wp2_with fail
    refine (csetB_any g n f HRm.out.cl HF.out HF0.out).mono ?_
    rintro e w9 ⟨rfl, hb⟩
    replace HC := hide (HC.out.below hb)
    replace HRm := hide (HRm.out.below hb)
    replace HB := hide (Below.on HB.out hb)
    clear hb
    go_wp2_with fail
    refine (rset_bad g n f HC.out HF.out HF0.out).mono ?_
    rintro e w9 ⟨rfl, hb⟩
    replace HC := hide (HC.out.below hb)
    replace HRm := hide (HRm.out.below hb)
    replace HB := hide (Below.on HB.out hb)
    clear hb
    go_wp2_with fail
    refine (csameT_any (CV.nil _) (CV.nil _) (fun _ => rfl)).mono ?_
    rintro e w9 ⟨rfl, hb⟩
    replace HC := hide (HC.out.below hb)
    replace HRm := hide (HRm.out.below hb)
    replace HB := hide (Below.on HB.out hb)
    clear hb
    go_wp2_with fail
    refine (kept_any HRm.out HC.out).mono ?_
    rintro e w9 ⟨rfl, hb⟩
    replace HC := hide (HC.out.below hb)
    replace HRm := hide (HRm.out.below hb)
    replace HB := hide (Below.on HB.out hb)
    clear hb
    go_wp2
    go_ret
    exact ⟨rfl, HB.out⟩
set_option maxRecDepth 100000 in
set_option maxHeartbeats 4000000 in
theorem clockOrders {w : World} {va vb : Value} {A B : List Tk} (h : CL w va A) (hl : A.length * 16 ≤ 140737488351232) (k : CL w vb B) (kl : B.length * 16 ≤ 140737488351232) : Calls Try.prog 5 #[va, vb] w fun e w' => e = .returned (.bool true) ∧ Below w.heap.size w w' := by
  have HA := hide h
  have HLa := hide hl
  have HBb := hide k
  have HLb := hide kl
  have HB := hide (Below.refl w.heap.size w)
  clear h hl k kl
  by_cases hg : gd 0 A = true ∧ gd 0 B = true
  · have HG := hide hg
    have HX := hide hg.1
    have HY := hide hg.2
    clear hg
    go_enter Try.func5, Try.ntmps5
    go_wp2_with fail
    refine (croomy_any HA.out HLa.out).mono ?_
    rintro e w9 ⟨x1, rfl, hr, hb⟩
    replace HA := hide (HA.out.below hb)
    replace HBb := hide (HBb.out.below hb)
    replace HB := hide (Below.on HB.out hb)
    clear hb
    have HRa := hide hr
    clear hr
    go_wp2_with fail
    refine (croomy_any HBb.out HLb.out).mono ?_
    rintro e w9 ⟨x2, rfl, hr, hb⟩
    replace HA := hide (HA.out.below hb)
    replace HBb := hide (HBb.out.below hb)
    replace HRa := hide (HRa.out.below hb)
    replace HB := hide (Below.on HB.out hb)
    clear hb
    have HRb := hide hr
    clear hr
    go_wp2_with fail
    refine (cleqP_any ⟨HRa.out.cl, HX.out⟩ ⟨HRb.out.cl, HY.out⟩).mono ?_
    rintro e w9 ⟨rfl, hb⟩
    replace HA := hide (HA.out.below hb)
    replace HBb := hide (HBb.out.below hb)
    replace HRa := hide (HRa.out.below hb)
    replace HRb := hide (HRb.out.below hb)
    replace HB := hide (Below.on HB.out hb)
    clear hb
    go_wp2_with fail
    refine (rleq_any HA.out HBb.out).mono ?_
    rintro e w9 ⟨rfl, hb⟩
    replace HA := hide (HA.out.below hb)
    replace HBb := hide (HBb.out.below hb)
    replace HRa := hide (HRa.out.below hb)
    replace HRb := hide (HRb.out.below hb)
    replace HB := hide (Below.on HB.out hb)
    clear hb
    rw [HX.out, HY.out, if_pos (show (true && true) = true from rfl), Bool.true_and, Bool.true_and]
    generalize leB A B = lab
    go_wp2_with fail
    refine (capartP_any ⟨HRa.out.cl, HX.out⟩ ⟨HRb.out.cl, HY.out⟩).mono ?_
    rintro e w9 ⟨rfl, hb⟩
    replace HA := hide (HA.out.below hb)
    replace HBb := hide (HBb.out.below hb)
    replace HRa := hide (HRa.out.below hb)
    replace HRb := hide (HRb.out.below hb)
    replace HB := hide (Below.on HB.out hb)
    clear hb
    go_wp2_with fail
    refine (rapart_any HA.out HBb.out).mono ?_
    rintro e w9 ⟨rfl, hb⟩
    replace HA := hide (HA.out.below hb)
    replace HBb := hide (HBb.out.below hb)
    replace HRa := hide (HRa.out.below hb)
    replace HRb := hide (HRb.out.below hb)
    replace HB := hide (Below.on HB.out hb)
    clear hb
    rw [HX.out, HY.out, if_pos (show (true && true) = true from rfl), Bool.true_and, Bool.true_and]
    generalize (!leB A B && !leB B A) = apt
    go_wp2_with fail
    refine (kept_any HRa.out HA.out).mono ?_
    rintro e w9 ⟨rfl, hb⟩
    replace HA := hide (HA.out.below hb)
    replace HBb := hide (HBb.out.below hb)
    replace HRa := hide (HRa.out.below hb)
    replace HRb := hide (HRb.out.below hb)
    replace HB := hide (Below.on HB.out hb)
    clear hb
    go_wp2_with fail
    refine (kept_any HRb.out HBb.out).mono ?_
    rintro e w9 ⟨rfl, hb⟩
    replace HA := hide (HA.out.below hb)
    replace HBb := hide (HBb.out.below hb)
    replace HRa := hide (HRa.out.below hb)
    replace HRb := hide (HRb.out.below hb)
    replace HB := hide (Below.on HB.out hb)
    clear hb
    go_wp2
    go_ret
    exact ⟨rfl, HB.out⟩
  · have hg' : gd 0 A = false ∨ gd 0 B = false := by
      cases e1 : gd 0 A with
      | false => exact .inl rfl
      | true =>
        cases e2 : gd 0 B with
        | false => exact .inr rfl
        | true => exact absurd ⟨e1, e2⟩ hg
    have HE1 : Hid ((gd 0 A && (gd 0 B && leB A B)) = false) := hide (by rcases hg' with e | e <;> rw [e] <;> simp)
    have HE2 : Hid ((gd 0 A && gd 0 B) = false) := hide (by rcases hg' with e | e <;> rw [e] <;> simp)
    have HE3 : Hid ((gd 0 A && (gd 0 B && (!leB A B && !leB B A))) = false) := hide (by rcases hg' with e | e <;> rw [e] <;> simp)
    have HG := hide hg'
    clear hg hg'
    go_enter Try.func5, Try.ntmps5
    go_wp2_with fail
    refine (croomy_any HA.out HLa.out).mono ?_
    rintro e w9 ⟨x1, rfl, hr, hb⟩
    replace HA := hide (HA.out.below hb)
    replace HBb := hide (HBb.out.below hb)
    replace HB := hide (Below.on HB.out hb)
    clear hb
    have HRa := hide hr
    clear hr
    go_wp2_with fail
    refine (croomy_any HBb.out HLb.out).mono ?_
    rintro e w9 ⟨x2, rfl, hr, hb⟩
    replace HA := hide (HA.out.below hb)
    replace HBb := hide (HBb.out.below hb)
    replace HRa := hide (HRa.out.below hb)
    replace HB := hide (Below.on HB.out hb)
    clear hb
    have HRb := hide hr
    clear hr
    go_wp2_with fail
    refine ((ctwoB_any HRa.out.cl HRb.out.cl HG.out).2.2.1).mono ?_
    rintro e w9 ⟨rfl, hb⟩
    replace HA := hide (HA.out.below hb)
    replace HBb := hide (HBb.out.below hb)
    replace HRa := hide (HRa.out.below hb)
    replace HRb := hide (HRb.out.below hb)
    replace HB := hide (Below.on HB.out hb)
    clear hb
    go_wp2_with fail
    refine (rleq_any HA.out HBb.out).mono ?_
    rintro e w9 ⟨rfl, hb⟩
    replace HA := hide (HA.out.below hb)
    replace HBb := hide (HBb.out.below hb)
    replace HRa := hide (HRa.out.below hb)
    replace HRb := hide (HRb.out.below hb)
    replace HB := hide (Below.on HB.out hb)
    clear hb
    rw [HE1.out, HE2.out, if_neg (by simp)]
    go_wp2_with fail
    refine ((ctwoB_any HRa.out.cl HRb.out.cl HG.out).2.2.2).mono ?_
    rintro e w9 ⟨rfl, hb⟩
    replace HA := hide (HA.out.below hb)
    replace HBb := hide (HBb.out.below hb)
    replace HRa := hide (HRa.out.below hb)
    replace HRb := hide (HRb.out.below hb)
    replace HB := hide (Below.on HB.out hb)
    clear hb
    go_wp2_with fail
    refine (rapart_any HA.out HBb.out).mono ?_
    rintro e w9 ⟨rfl, hb⟩
    replace HA := hide (HA.out.below hb)
    replace HBb := hide (HBb.out.below hb)
    replace HRa := hide (HRa.out.below hb)
    replace HRb := hide (HRb.out.below hb)
    replace HB := hide (Below.on HB.out hb)
    clear hb
    rw [HE3.out, HE2.out, if_neg (by simp)]
    go_wp2_with fail
    refine (kept_any HRa.out HA.out).mono ?_
    rintro e w9 ⟨rfl, hb⟩
    replace HA := hide (HA.out.below hb)
    replace HBb := hide (HBb.out.below hb)
    replace HRa := hide (HRa.out.below hb)
    replace HRb := hide (HRb.out.below hb)
    replace HB := hide (Below.on HB.out hb)
    clear hb
    go_wp2_with fail
    refine (kept_any HRb.out HBb.out).mono ?_
    rintro e w9 ⟨rfl, hb⟩
    replace HA := hide (HA.out.below hb)
    replace HBb := hide (HBb.out.below hb)
    replace HRa := hide (HRa.out.below hb)
    replace HRb := hide (HRb.out.below hb)
    replace HB := hide (Below.on HB.out hb)
    clear hb
    go_wp2
    go_ret
    exact ⟨rfl, HB.out⟩
set_option maxRecDepth 100000 in
set_option maxHeartbeats 4000000 in
theorem clockJoins {w : World} {va vb : Value} {A B : List Tk} (h : CL w va A) (hl : A.length * 16 ≤ 140737488351232) (k : CL w vb B) (kl : B.length * 16 ≤ 140737488351232) : Calls Try.prog 6 #[va, vb] w fun e w' => e = .returned (.bool true) ∧ Below w.heap.size w w' := by
  have HA := hide h
  have HLa := hide hl
  have HBb := hide k
  have HLb := hide kl
  have HB := hide (Below.refl w.heap.size w)
  clear h hl k kl
  by_cases hg : gd 0 A = true ∧ gd 0 B = true
  · have HG := hide hg
    have HX := hide hg.1
    have HY := hide hg.2
    clear hg
    go_enter Try.func6, Try.ntmps6
    go_wp2_with fail
    refine (croomy_any HA.out HLa.out).mono ?_
    rintro e w9 ⟨x1, rfl, hr, hb⟩
    replace HA := hide (HA.out.below hb)
    replace HBb := hide (HBb.out.below hb)
    replace HB := hide (Below.on HB.out hb)
    clear hb
    have HRa := hide hr
    clear hr
    go_wp2_with fail
    refine (croomy_any HBb.out HLb.out).mono ?_
    rintro e w9 ⟨x2, rfl, hr, hb⟩
    replace HA := hide (HA.out.below hb)
    replace HBb := hide (HBb.out.below hb)
    replace HRa := hide (HRa.out.below hb)
    replace HB := hide (Below.on HB.out hb)
    clear hb
    have HRb := hide hr
    clear hr
    go_wp2_with fail
    refine (cjoinP_any ⟨HRa.out.cl, HX.out⟩ ⟨HRb.out.cl, HY.out⟩).mono ?_
    rintro e w9 ⟨x3, J, rfl, -, cj, tj, hb⟩
    replace HA := hide (HA.out.below hb)
    replace HBb := hide (HBb.out.below hb)
    replace HRa := hide (HRa.out.below hb)
    replace HRb := hide (HRb.out.below hb)
    replace HB := hide (Below.on HB.out hb)
    clear hb
    have HJ := hide cj
    have TJ := hide tj
    clear cj tj
    go_wp2_with fail
    refine (rjoin_ok ⟨HA.out, HX.out⟩ ⟨HBb.out, HY.out⟩).mono ?_
    rintro e w9 ⟨x4, J2, rfl, oj, gj, tj, hb⟩
    replace HA := hide (HA.out.below hb)
    replace HBb := hide (HBb.out.below hb)
    replace HRa := hide (HRa.out.below hb)
    replace HRb := hide (HRb.out.below hb)
    replace HJ := hide (HJ.out.below hb)
    replace HB := hide (Below.on HB.out hb)
    clear hb
    have HJ2 := hide (cv_own oj gj)
    have TJ2 := hide tj
    clear oj gj tj
    go_wp2_with fail
    refine (cmeetP_any ⟨HRa.out.cl, HX.out⟩ ⟨HRb.out.cl, HY.out⟩).mono ?_
    rintro e w9 ⟨x5, M, rfl, -, cj, tj, hb⟩
    replace HA := hide (HA.out.below hb)
    replace HBb := hide (HBb.out.below hb)
    replace HRa := hide (HRa.out.below hb)
    replace HRb := hide (HRb.out.below hb)
    replace HJ := hide (HJ.out.below hb)
    replace HJ2 := hide (HJ2.out.below hb)
    replace HB := hide (Below.on HB.out hb)
    clear hb
    have HM := hide cj
    have TM := hide tj
    clear cj tj
    go_wp2_with fail
    refine (rmeet_ok ⟨HA.out, HX.out⟩ ⟨HBb.out, HY.out⟩).mono ?_
    rintro e w9 ⟨x6, M2, rfl, oj, gj, tj, hb⟩
    replace HA := hide (HA.out.below hb)
    replace HBb := hide (HBb.out.below hb)
    replace HRa := hide (HRa.out.below hb)
    replace HRb := hide (HRb.out.below hb)
    replace HJ := hide (HJ.out.below hb)
    replace HJ2 := hide (HJ2.out.below hb)
    replace HM := hide (HM.out.below hb)
    replace HB := hide (Below.on HB.out hb)
    clear hb
    have HM2 := hide (cv_own oj gj)
    have TM2 := hide tj
    clear oj gj tj
    go_wp2_with fail
    refine (csameT_any HJ.out HJ2.out (fun g => by rw [TJ.out, TJ2.out])).mono ?_
    rintro e w9 ⟨rfl, hb⟩
    replace HA := hide (HA.out.below hb)
    replace HBb := hide (HBb.out.below hb)
    replace HRa := hide (HRa.out.below hb)
    replace HRb := hide (HRb.out.below hb)
    replace HJ := hide (HJ.out.below hb)
    replace HJ2 := hide (HJ2.out.below hb)
    replace HM := hide (HM.out.below hb)
    replace HM2 := hide (HM2.out.below hb)
    replace HB := hide (Below.on HB.out hb)
    clear hb
    go_wp2_with fail
    refine (csameT_any HM.out HM2.out (fun g => by rw [TM.out, TM2.out])).mono ?_
    rintro e w9 ⟨rfl, hb⟩
    replace HA := hide (HA.out.below hb)
    replace HBb := hide (HBb.out.below hb)
    replace HRa := hide (HRa.out.below hb)
    replace HRb := hide (HRb.out.below hb)
    replace HJ := hide (HJ.out.below hb)
    replace HJ2 := hide (HJ2.out.below hb)
    replace HM := hide (HM.out.below hb)
    replace HM2 := hide (HM2.out.below hb)
    replace HB := hide (Below.on HB.out hb)
    clear hb
    go_wp2_with fail
    refine (kept_any HRa.out HA.out).mono ?_
    rintro e w9 ⟨rfl, hb⟩
    replace HA := hide (HA.out.below hb)
    replace HBb := hide (HBb.out.below hb)
    replace HRa := hide (HRa.out.below hb)
    replace HRb := hide (HRb.out.below hb)
    replace HJ := hide (HJ.out.below hb)
    replace HJ2 := hide (HJ2.out.below hb)
    replace HM := hide (HM.out.below hb)
    replace HM2 := hide (HM2.out.below hb)
    replace HB := hide (Below.on HB.out hb)
    clear hb
    go_wp2_with fail
    refine (kept_any HRb.out HBb.out).mono ?_
    rintro e w9 ⟨rfl, hb⟩
    replace HA := hide (HA.out.below hb)
    replace HBb := hide (HBb.out.below hb)
    replace HRa := hide (HRa.out.below hb)
    replace HRb := hide (HRb.out.below hb)
    replace HJ := hide (HJ.out.below hb)
    replace HJ2 := hide (HJ2.out.below hb)
    replace HM := hide (HM.out.below hb)
    replace HM2 := hide (HM2.out.below hb)
    replace HB := hide (Below.on HB.out hb)
    clear hb
    go_wp2
    go_ret
    exact ⟨rfl, HB.out⟩
  · have hg' : gd 0 A = false ∨ gd 0 B = false := by
      cases e1 : gd 0 A with
      | false => exact .inl rfl
      | true =>
        cases e2 : gd 0 B with
        | false => exact .inr rfl
        | true => exact absurd ⟨e1, e2⟩ hg
    have HG := hide hg'
    clear hg hg'
    go_enter Try.func6, Try.ntmps6
    go_wp2_with fail
    refine (croomy_any HA.out HLa.out).mono ?_
    rintro e w9 ⟨x1, rfl, hr, hb⟩
    replace HA := hide (HA.out.below hb)
    replace HBb := hide (HBb.out.below hb)
    replace HB := hide (Below.on HB.out hb)
    clear hb
    have HRa := hide hr
    clear hr
    go_wp2_with fail
    refine (croomy_any HBb.out HLb.out).mono ?_
    rintro e w9 ⟨x2, rfl, hr, hb⟩
    replace HA := hide (HA.out.below hb)
    replace HBb := hide (HBb.out.below hb)
    replace HRa := hide (HRa.out.below hb)
    replace HB := hide (Below.on HB.out hb)
    clear hb
    have HRb := hide hr
    clear hr
    go_wp2_with fail
    refine ((ctwoB_any HRa.out.cl HRb.out.cl HG.out).1).mono ?_
    rintro e w9 ⟨rfl, hb⟩
    replace HA := hide (HA.out.below hb)
    replace HBb := hide (HBb.out.below hb)
    replace HRa := hide (HRa.out.below hb)
    replace HRb := hide (HRb.out.below hb)
    replace HB := hide (Below.on HB.out hb)
    clear hb
    go_wp2_with fail
    refine ((rtwo_bad HA.out HBb.out HG.out).1).mono ?_
    rintro e w9 ⟨rfl, hb⟩
    replace HA := hide (HA.out.below hb)
    replace HBb := hide (HBb.out.below hb)
    replace HRa := hide (HRa.out.below hb)
    replace HRb := hide (HRb.out.below hb)
    replace HB := hide (Below.on HB.out hb)
    clear hb
    go_wp2_with fail
    refine ((ctwoB_any HRa.out.cl HRb.out.cl HG.out).2.1).mono ?_
    rintro e w9 ⟨rfl, hb⟩
    replace HA := hide (HA.out.below hb)
    replace HBb := hide (HBb.out.below hb)
    replace HRa := hide (HRa.out.below hb)
    replace HRb := hide (HRb.out.below hb)
    replace HB := hide (Below.on HB.out hb)
    clear hb
    go_wp2_with fail
    refine ((rtwo_bad HA.out HBb.out HG.out).2).mono ?_
    rintro e w9 ⟨rfl, hb⟩
    replace HA := hide (HA.out.below hb)
    replace HBb := hide (HBb.out.below hb)
    replace HRa := hide (HRa.out.below hb)
    replace HRb := hide (HRb.out.below hb)
    replace HB := hide (Below.on HB.out hb)
    clear hb
    go_wp2_with fail
    refine (csameT_any (CV.nil _) (CV.nil _) (fun _ => rfl)).mono ?_
    rintro e w9 ⟨rfl, hb⟩
    replace HA := hide (HA.out.below hb)
    replace HBb := hide (HBb.out.below hb)
    replace HRa := hide (HRa.out.below hb)
    replace HRb := hide (HRb.out.below hb)
    replace HB := hide (Below.on HB.out hb)
    clear hb
    go_wp2_with fail
    refine (csameT_any (CV.nil _) (CV.nil _) (fun _ => rfl)).mono ?_
    rintro e w9 ⟨rfl, hb⟩
    replace HA := hide (HA.out.below hb)
    replace HBb := hide (HBb.out.below hb)
    replace HRa := hide (HRa.out.below hb)
    replace HRb := hide (HRb.out.below hb)
    replace HB := hide (Below.on HB.out hb)
    clear hb
    go_wp2_with fail
    refine (kept_any HRa.out HA.out).mono ?_
    rintro e w9 ⟨rfl, hb⟩
    replace HA := hide (HA.out.below hb)
    replace HBb := hide (HBb.out.below hb)
    replace HRa := hide (HRa.out.below hb)
    replace HRb := hide (HRb.out.below hb)
    replace HB := hide (Below.on HB.out hb)
    clear hb
    go_wp2_with fail
    refine (kept_any HRb.out HBb.out).mono ?_
    rintro e w9 ⟨rfl, hb⟩
    replace HA := hide (HA.out.below hb)
    replace HBb := hide (HBb.out.below hb)
    replace HRa := hide (HRa.out.below hb)
    replace HRb := hide (HRb.out.below hb)
    replace HB := hide (Below.on HB.out hb)
    clear hb
    go_wp2
    go_ret
    exact ⟨rfl, HB.out⟩
end Go.Proofs.Ytajkenbcndmjpaa
