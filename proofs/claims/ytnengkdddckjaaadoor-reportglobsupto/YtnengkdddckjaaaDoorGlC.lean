/-
  The document's Match.
-/
import Derived.Test.YtnengkdddckjaaaDoorGlA
import Derived.Test.YtnengkdddckjaaaDoorReB
import Derived.BigRegion
namespace Go.Proofs.YtnengkdddckjaaaDoor
open Go.RowKit Go.Maps
set_option linter.unusedVariables false
/-- The row of a pattern's beginning: which beginnings of the text it matches. -/
noncomputable def rw25 (t q : List UInt8) : List Bool := (List.range (t.length + 1)).map fun k => glB q (t.take k)
theorem rw25_len (t q : List UInt8) : (rw25 t q).length = t.length + 1 := by unfold rw25; simp
theorem rw25_at (t q : List UInt8) (k : Nat) (hk : k ≤ t.length) : (rw25 t q)[k]? = some (glB q (t.take k)) := by
  unfold rw25
  rw [List.getElem?_map, List.getElem?_range (by omega)]
  rfl
theorem rw25_nil (t : List UInt8) : rw25 t [] = true :: List.replicate t.length false := by
  refine List.ext_getElem? fun k => ?_
  by_cases hk : k ≤ t.length
  · rw [rw25_at t [] k hk, glB_nil]
    cases k with
    | zero => simp
    | succ k =>
      rw [List.getElem?_cons_succ, List.getElem?_replicate, if_pos (by omega)]
      have : t.take (k + 1) ≠ [] := fun h => by
        have := congrArg List.length h
        rw [List.length_take, Nat.min_eq_left hk] at this
        simp at this
      simp [this]
  · rw [List.getElem?_eq_none (by rw [rw25_len]; omega), List.getElem?_eq_none (by simp; omega)]
/-- A byte of a text, as a number. -/
def nB (s : ByteArray) (i : Nat) : Nat := (s.data.toList.getD i 0).toNat
theorem nB_int {s : ByteArray} {i : Nat} (h : i < s.size) : ((s[i].toNat : Nat) : Int) = (nB s i : Int) := by
  have h2 : i < s.data.toList.length := by rw [← Lib.size_eq]; exact h
  unfold nB
  rw [List.getD_eq_getElem?_getD, List.getElem?_eq_getElem h2]
  rfl
theorem Bk.prev {w0 wr : World} {ks : List Bool} {n j b k : Nat} {x : Bool} (h : Bk w0 wr ks n j b) (hk : k < j) (hj : j ≤ n) (hx : ks[k]? = some x) : wr.cell? ⟨b, k, none⟩ = some (.bool x) := by
  have h0 : (ks.take j ++ List.replicate (n - j) false)[k]? = some x := by
    rw [List.getElem?_append_left (by rw [List.length_take, h.len]; omega), List.getElem?_take_of_lt hk]
    exact hx
  have h1 := h.own.cell h0 0 rfl
  rw [Nat.add_zero, show k * sB.z = k from Nat.mul_one k] at h1
  exact h1
theorem rw_cell {w : World} {b n : Nat} {t q : List UInt8} (h : TRow sB w (some ⟨b, 0, none⟩) (n + 1) (rw25 t q)) (hn : t.length = n) (k : Nat) (hk : k ≤ n) : w.cell? ⟨b, k, none⟩ = some (.bool (glB q (t.take k))) := by
  obtain ⟨b9, off, e9, h9⟩ := sB_cell h (rw25_at t q k (by omega))
  simp only [Option.some.injEq, Addr.mk.injEq] at e9
  obtain ⟨e1, e2, _⟩ := e9
  rw [← e1, ← e2, Nat.zero_add] at h9
  exact h9
theorem made_bs0 (w : World) (n : Nat) (hn : n * 1 ≤ 140737488355328) : ∃ w', (Instr.makeSlice 31 (.int .i64 (n : Int)) (.int .i64 (n : Int))).run Tryd.prog w = .ok (.slice (some ⟨w.heap.size, 0, none⟩) n n) w' ∧ ∀ ks : List Bool, ks.length = n → Bk w w' ks n 0 w.heap.size := by
  obtain ⟨w', h1, h2, h3⟩ := made_bs w w.heap.size n (Nat.le_refl _) hn
  exact ⟨w', h1, fun ks hk => ⟨by simpa using h2, hk, ⟨h3.os, h3.tape, h3.output, h3.size, fun q hq => h3.block q hq (by simp)⟩⟩⟩
set_option maxRecDepth 8000 in
set_option maxHeartbeats 4000000 in
theorem rmatch_any (P T : ByteArray) (w : World) (hp : P.size ≤ 1073741824) (ht : T.size ≤ 1073741824) :
    Calls Tryd.prog 6 #[.string P, .string T] w fun e w' => e = .returned (.bool (glB P.data.toList T.data.toList)) ∧ Below w.heap.size w w' := by
  obtain ⟨t, htt⟩ : ∃ t, T.data.toList = t := ⟨_, rfl⟩
  obtain ⟨p, hpp⟩ : ∃ p, P.data.toList = p := ⟨_, rfl⟩
  have hts : T.size = t.length := by rw [Lib.size_eq, htt]
  have hps : P.size = p.length := by rw [Lib.size_eq, hpp]
  obtain ⟨n, hn⟩ : ∃ n, t.length = n := ⟨_, rfl⟩
  have HTt := hide htt
  have HPp := hide hpp
  have HTs := hide hts
  have HPs := hide hps
  have HN := hide hn
  have HTB : Hid (t.length ≤ 1073741824) := hide (by omega)
  rw [htt, hpp]
  have hsz1 : (((T.size : Nat) : Int)) = (n : Int) := by omega
  have HPB : Hid ((p.length : Int) ≤ 1073741824) := hide (by omega)
  obtain ⟨R, hR⟩ : ∃ R, glB p t = R := ⟨_, rfl⟩
  have HRr := hide hR
  rw [hR]
  clear hR
  have HMk := hide (fun X => made_bs0 X (n + 1) (by omega))
  clear hp ht htt hpp hts hps
  go_enter Tryd.func6, Tryd.ntmps6
  obtain ⟨w1, hmk, hB⟩ := HMk.out w
  have hmk2 : (Instr.makeSlice 31 (.int .i64 ((n : Int) + 1)) (.int .i64 ((n : Int) + 1))).run Tryd.prog w = .ok (.slice (some ⟨w.heap.size, 0, none⟩) (n + 1) (n + 1)) w1 := by
    have e : ((n : Int) + 1) = ((n + 1 : Nat) : Int) := by omega
    rw [e]; exact hmk
  have HB := hide (hB (rw25 t []) (by rw [rw25_len]; omega))
  clear hB hmk
  have hn2 : (n : Int) + 1 ≤ 1073741825 := by have := HTB.out; have := HN.out; omega
  have hn0 : (0 : Int) ≤ (n : Int) := by omega
  obtain ⟨⟨u, c0⟩, c1⟩ := HB.out.cell (Nat.succ_pos n)
  have hk0 : (0 : Int) < (n : Int) + 1 := by omega
  have HB1 : Hid (Bk w (w1.setCell ⟨w.heap.size, 0, none⟩ (.bool true)) (rw25 t []) (n + 1) 1 w.heap.size) := hide (HB.out.set (by rw [rw25_nil]; rfl))
  have HR0 : Hid (TRow sB (w1.setCell ⟨w.heap.size, 0, none⟩ (.bool true)) (some ⟨w.heap.size, 0, none⟩) (n + 1) (rw25 t [])) := hide (by
    have h1 := HB1.out.own
    have e : (rw25 t []).take 1 ++ List.replicate (n + 1 - 1) false = rw25 t [] := by
      rw [rw25_nil, ← HN.out]; rfl
    rw [e] at h1
    exact h1.row (by rw [rw25_len, HN.out]))
  have HBl : Hid (Below w.heap.size w (w1.setCell ⟨w.heap.size, 0, none⟩ (.bool true))) := hide HB1.out.bel
  clear HB HB1
  go_wp2
  obtain ⟨W1, hW1⟩ : ∃ W1, W1 = w1.setCell ⟨w.heap.size, 0, none⟩ (.bool true) := ⟨_, rfl⟩
  rw [← hW1] at HR0 HBl ⊢
  clear hW1 hmk2 c0 c1
  have hpI : (((P.size : Nat) : Int)) = (p.length : Int) := by have := HPs.out; omega
  go_loopw [5, 6] (fun sl iv wr => ∃ (i b : Nat), i ≤ p.length ∧ iv = .int .i64 i ∧ sl = .slice (some ⟨b, 0, none⟩) (n + 1) (n + 1) ∧ Hid (TRow sB wr (some ⟨b, 0, none⟩) (n + 1) (rw25 t (p.take i))) ∧ Hid (Below w.heap.size w wr)) (fun _ iv _ => p.length - (intOf iv).toNat)
  case atStart => exact ⟨0, w.heap.size, Nat.zero_le _, rfl, rfl, HR0, HBl⟩
  case round =>
    clear HR0 HBl
    obtain ⟨i, b, hi, rfl, rfl, HR, HBl⟩ := hrel
    have hpB := HPB.out
    by_cases hlt : i < p.length
    · have hiI : (i : Int) < (p.length : Int) := by omega
      have hi0 : (0 : Int) ≤ (i : Int) := by omega
      obtain ⟨w2, hmk, hB⟩ := HMk.out wr
      have hmk2 : (Instr.makeSlice 31 (.int .i64 ((n : Int) + 1)) (.int .i64 ((n : Int) + 1))).run Tryd.prog wr = .ok (.slice (some ⟨wr.heap.size, 0, none⟩) (n + 1) (n + 1)) w2 := by
        have e : ((n : Int) + 1) = ((n + 1 : Nat) : Int) := by omega
        rw [e]; exact hmk
      have HB0 := hide (hB (rw25 t (p.take (i + 1))) (by rw [rw25_len, HN.out]))
      clear hB hmk
      obtain ⟨wO, rfl⟩ : ∃ x, x = wr := ⟨wr, rfl⟩
      have hiP : i < P.size := by have := HPs.out; omega
      have hil : i < p.length := hlt
      obtain ⟨x, hx⟩ : ∃ x, x = p[i] := ⟨_, rfl⟩
      have HX : Hid (p.take (i + 1) = p.take i ++ [x]) := hide (by rw [hx, List.take_append_getElem])
      have hxP : ((P[i].toNat : Nat) : Int) = (x.toNat : Int) := by
        have h2 : P[i] = p[i] := by
          have := HPp.out
          subst this
          rfl
        rw [h2, ← hx]
      obtain ⟨q, hq⟩ : ∃ q, p.take i = q := ⟨_, rfl⟩
      rw [HX.out, hq] at HB0
      rw [hq] at HR
      have HQ := hide hq
      clear hx hq hlt
      go_wp2
      go_loopw [8] (fun kv wq => ∃ j : Nat, j ≤ n + 1 ∧ kv = .int .i64 j ∧ Hid (Bk wO wq (rw25 t (q ++ [x])) (n + 1) j wO.heap.size)) (fun kv _ => n + 1 - (intOf kv).toNat)
      case atStart => exact ⟨0, Nat.zero_le _, rfl, HB0⟩
      case round =>
        obtain ⟨j, hj, rfl, HJ⟩ := hrel
        clear HB0
        by_cases hjn : j ≤ n
        · have hjI : (j : Int) ≤ (n : Int) := by omega
          have hjI1 : (j : Int) < (n : Int) + 1 := by omega
          have hj0 : (0 : Int) ≤ (j : Int) := by omega
          obtain ⟨⟨y, y0⟩, y1⟩ := HJ.out.cell (by omega)
          have HRj := hide (HR.out.below HJ.out.bel)
          by_cases hx42 : x = 42
          · have hxe : ((x.toNat : Int) == 42) = true := by rw [hx42]; rfl
            rcases Nat.eq_zero_or_pos j with h0 | h0
            · subst h0
              have cA := rw_cell HRj.out HN.out 0 (Nat.zero_le _)
              have HV : Hid ((rw25 t (q ++ [x]))[0]? = some (glB q (t.take 0))) := hide (by rw [rw25_at _ _ 0 (Nat.zero_le _), hx42, row_star0])
              generalize glB q (t.take 0) = A at cA HV
              have HJ2 := hide (HJ.out.set HV.out)
              cases A
              all_goals
                go_wp2
                exact ⟨⟨1, by omega, rfl, HJ2⟩, by simp [intOf]⟩
            · obtain ⟨k, hjk⟩ : ∃ k, j = k + 1 := ⟨j - 1, by omega⟩
              have cA := rw_cell HRj.out HN.out j hjn
              have cB := HJ.out.prev (k := k) (by omega) (by omega) (rw25_at t (q ++ [x]) k (by have := HN.out; omega))
              have HV : Hid ((rw25 t (q ++ [x]))[j]? = some (glB q (t.take j) || glB (q ++ [x]) (t.take k))) := hide (by rw [rw25_at _ _ j (by have := HN.out; omega), hx42, hjk, row_star q t k (by have := HN.out; omega)])
              generalize glB q (t.take j) = A at cA HV
              generalize glB (q ++ [x]) (t.take k) = B at cB HV
              have HJ2 := hide (HJ.out.set HV.out)
              have hk1 : (0 : Int) < (j : Int) := by omega
              have hk2 : (0 : Int) ≤ (k : Int) := by omega
              have hk3 : (k : Int) < (n : Int) + 1 := by omega
              have hks : (j : Int) - 1 = (k : Int) := by omega
              have HJn := hide hjn
              have hd0 : decide (0 < j) = true := decide_eq_true h0
              clear hj hjn hjk
              cases A <;> cases B
              all_goals
                go_wp2
                have hjn := HJn.out
                exact ⟨⟨j + 1, by omega, by go_num, HJ2⟩, by simp [intOf]; omega⟩
          · have hxe : ((x.toNat : Int) == 42) = false := by
              rw [beq_eq_false_iff_ne]
              intro h
              exact hx42 (UInt8.toNat_inj.1 (by show x.toNat = 42; omega))
            rcases Nat.eq_zero_or_pos j with h0 | h0
            · subst h0
              have HV : Hid ((rw25 t (q ++ [x]))[0]? = some false) := hide (by rw [rw25_at _ _ 0 (Nat.zero_le _), row_byte0 q t x hx42])
              have HJ2 := hide (HJ.out.set HV.out)
              go_wp2
              go_region
              have HJ3 := hide (HJ2.out.on (w' := (wr.setCell ⟨wO.heap.size, 0, none⟩ (.bool false)).drew) (below_drewN (Below.refl _ _) 1))
              generalize (wr.setCell ⟨wO.heap.size, 0, none⟩ (.bool false)).drew = W3 at HJ3 ⊢
              go_wp2
              exact ⟨⟨1, by omega, rfl, HJ3⟩, by simp [intOf]⟩
            · obtain ⟨k, hjk⟩ : ∃ k, j = k + 1 := ⟨j - 1, by omega⟩
              have cA := rw_cell HRj.out HN.out k (by omega)
              have hkt : k < t.length := by have := HN.out; omega
              have HV : Hid ((rw25 t (q ++ [x]))[j]? = some (glB q (t.take k) && decide (t[k] = x))) := hide (by rw [rw25_at _ _ j (by have := HN.out; omega), hjk, row_byte q t x hx42 k hkt])
              have hkT : k < T.size := by have := HTs.out; omega
              obtain ⟨z, hz⟩ : ∃ z, z = t[k] := ⟨_, rfl⟩
              have hzT : ((T[k].toNat : Nat) : Int) = (z.toNat : Int) := by
                have h2 : T[k] = t[k] := by
                  have := HTt.out
                  subst this
                  rfl
                rw [h2, ← hz]
              rw [← hz] at HV
              clear hz
              generalize glB q (t.take k) = A at cA HV
              have hk1 : (0 : Int) < (j : Int) := by omega
              have hk2 : (0 : Int) ≤ (k : Int) := by omega
              have hk3 : (k : Int) < (n : Int) + 1 := by omega
              have hk5 : (k : Int) < (n : Int) := by omega
              have hks : (j : Int) - 1 = (k : Int) := by omega
              obtain ⟨E, hE⟩ : ∃ E, ((z.toNat : Int) == (x.toNat : Int)) = E := ⟨_, rfl⟩
              have hE2 : decide (z = x) = E := by
                rw [← hE, Bool.eq_iff_iff, decide_eq_true_iff, beq_iff_eq]
                constructor
                · rintro rfl; rfl
                · intro h; exact UInt8.toNat_inj.1 (by omega)
              rw [hE2] at HV
              have HJ2 := hide (HJ.out.set HV.out)
              have HJn := hide hjn
              have hd0 : decide (0 < j) = true := decide_eq_true h0
              clear hE2 hj hjn hjk hkt
              cases A <;> cases E
              · go_wp2
                go_region
                have HJ3 := hide (HJ2.out.on (w' := (wr.setCell ⟨wO.heap.size, j, none⟩ (.bool false)).drew) (below_drewN (Below.refl _ _) 1))
                generalize (wr.setCell ⟨wO.heap.size, j, none⟩ (.bool false)).drew = W3 at HJ3 ⊢
                go_wp2
                have hjn := HJn.out
                exact ⟨⟨j + 1, by omega, by go_num, HJ3⟩, by simp [intOf]; omega⟩
              · go_wp2
                go_region
                have HJ3 := hide (HJ2.out.on (w' := (wr.setCell ⟨wO.heap.size, j, none⟩ (.bool false)).drew) (below_drewN (Below.refl _ _) 1))
                generalize (wr.setCell ⟨wO.heap.size, j, none⟩ (.bool false)).drew = W3 at HJ3 ⊢
                go_wp2
                have hjn := HJn.out
                exact ⟨⟨j + 1, by omega, by go_num, HJ3⟩, by simp [intOf]; omega⟩
              · go_wp2
                go_region
                have HJ3 := hide (HJ2.out.on (w' := (wr.setCell ⟨wO.heap.size, j, none⟩ (.bool false)).drew) (below_drewN (Below.refl _ _) 1))
                generalize (wr.setCell ⟨wO.heap.size, j, none⟩ (.bool false)).drew = W3 at HJ3 ⊢
                go_wp2
                have hjn := HJn.out
                exact ⟨⟨j + 1, by omega, by go_num, HJ3⟩, by simp [intOf]; omega⟩
              · go_wp2
                go_region
                have HJ3 := hide (HJ2.out.on (w' := (wr.setCell ⟨wO.heap.size, j, none⟩ (.bool true)).drew) (below_drewN (Below.refl _ _) 1))
                generalize (wr.setCell ⟨wO.heap.size, j, none⟩ (.bool true)).drew = W3 at HJ3 ⊢
                go_wp2
                have hjn := HJn.out
                exact ⟨⟨j + 1, by omega, by go_num, HJ3⟩, by simp [intOf]; omega⟩
        · have hj9 : j = n + 1 := by omega
          have hjI : ¬ (j : Int) ≤ (n : Int) := by omega
          rw [hj9] at HJ
          have HF := hide HJ.out.fin
          clear hj9 hj
          have HBl2 := hide (HBl.out.trans (HJ.out.bel.mono HBl.out.size))
          go_wp2
          have hil2 := hil
          exact ⟨⟨i + 1, wO.heap.size, by omega, by go_num, rfl, by rw [HX.out, HQ.out]; exact HF, HBl2⟩, by simp [intOf]; omega⟩
    · have hi9 : i = p.length := by omega
      subst hi9
      have hiI : ¬ (p.length : Int) < (p.length : Int) := by omega
      have hnI : (n : Int) < (n : Int) + 1 := by omega
      have cA := rw_cell HR.out HN.out n (Nat.le_refl _)
      rw [← HN.out, List.take_length, List.take_length, HN.out] at cA
      clear hlt
      rw [HRr.out] at cA
      go_wp2
      go_ret
      exact ⟨rfl, HBl.out⟩
end Go.Proofs.YtnengkdddckjaaaDoor
