/-
  copy of events.
-/
import Derived.Test.YtkjmmcpjdjjmlaaDoorRgE
import Derived.Laws.CopyOwn
namespace Go.Proofs.YtkjmmcpjdjjmlaaDoor
open Go.RowKit Go.Maps Go.Shelf
theorem Lay.fl_drop {α : Type} (y : Lay α) (L : List α) (k : Nat) (hk : k ≤ L.length) : (y.fl L).drop (k * y.z) = y.fl (L.drop k) := by
  have h1 : y.fl L = y.fl (L.take k) ++ y.fl (L.drop k) := by rw [← y.fl_app, List.take_append_drop]
  have h2 : (y.fl (L.take k)).length = k * y.z := by rw [y.fl_len, List.length_take, Nat.min_eq_left hk]
  rw [h1, ← h2, List.drop_left]
theorem run_copy_lay {P : Program} {w : World} (dT sT ty elem : TypeId) (g o dLen dCap : Nat) (a : Addr) (sLen sCap z : Nat) (cur : Array Value) (t : TypeId) (cs : List Value) (n : Nat)
    (hu : P.underlying dT = some (.slice elem)) (hs : (P.info? elem).map (·.size) = some z)
    (hg : w.heap[g]? = some (.cells cur t (0, 0))) (hn : Nat.min sLen dLen = n) (hcs : cs.length = n * z)
    (hsrc : ∀ j v, cs[j]? = some v → w.cell? (a.add j) = some v) (hfit : o + cs.length ≤ cur.size) (h1 : ∀ v ∈ cs, v.oneCell' = true) :
    (Builtin.copy_ #[dT, sT] ty #[.slice (some ⟨g, o, none⟩) dLen dCap, .slice (some a) sLen sCap]).run P w =
      .ok (goInt n) (w.setRow g (cur.toList.take o ++ cs ++ cur.toList.drop (o + cs.length)).toArray) := by
  have hl := run_loadCells_list (P := P) w a cs hsrc
  have hst := run_storeCells_at P g o t cs 0 cur w hg (by simpa using hfit) h1
  rw [hcs] at hl
  cases hq : P.info? elem with
  | none => simp [hq] at hs
  | some i =>
    have hi : i.size = z := by simpa [hq] using hs
    simp [Builtin.copy_, run_underlying hu, Builtin.lenOf, Builtin.firstCells, sizeOf, typeInfo, hq, hi, hn, hl, hst]
theorem run_copy_zero {P : Program} {w : World} (dT sT ty elem : TypeId) (dp sp : Option Addr) (dLen dCap sLen sCap z : Nat) (hu : P.underlying dT = some (.slice elem)) (hs : (P.info? elem).map (·.size) = some z) (hn : Nat.min sLen dLen = 0) :
    (Builtin.copy_ #[dT, sT] ty #[.slice dp dLen dCap, .slice sp sLen sCap]).run P w = .ok (goInt 0) w := by
  cases hq : P.info? elem with
  | none => simp [hq] at hs
  | some i =>
    have hl : ∀ (x : Addr), (loadCells x 0).run P w = .ok #[] w := fun x => by simpa using run_loadCells_list (P := P) w x [] (by simp)
    cases dp <;> cases sp <;> simp [Builtin.copy_, run_underlying hu, Builtin.lenOf, Builtin.firstCells, sizeOf, typeInfo, hq, hn, storeCells, hl]
theorem infoE_size : (Tryd.prog.info? 32).map (·.size) = some 5 := by kernel_rfl
/-- What lies in a row behind a copy of events. -/
theorem wp_copyE {w : World} {oo : Oper} {aa : Act} {Kc : Act → World → Prop} {Q : Exit → Act → World → Prop} (d s : Operand)
    (ho : oo.op = .call { callee := .builtin .copy, args := #[d, s], argTypes := #[22, 22] }) (dp sp : Option Addr) (dLen dCap sLen sCap : Nat) (hd : aa.eval d = .slice dp dLen dCap) (hs : aa.eval s = .slice sp sLen sCap)
    (base g k : Nat) (D M : List Ev) (hown : Own layE 32 w base (.slice (some ⟨g, 0, .none⟩) k k) D) (hDk : D.length = k) (hM : TRow layE w sp sLen M) (p n : Nat) (hn : Nat.min sLen dLen = n) (hpos : 0 < n → dp = some ⟨g, p * 5, .none⟩) (hfit : p + n ≤ k)
    (h : ∀ w', Own layE 32 w' base (.slice (some ⟨g, 0, .none⟩) k k) (D.take p ++ (M.take n ++ D.drop (p + n))) → But (fun q => q = g) w w' → Kc (aa.put oo.dst (goInt n)) w') : oo.wp Tryd.prog aa w Kc Q := by
  rcases Nat.eq_zero_or_pos n with h0 | h0
  · subst h0
    have hrun := run_copy_zero (P := Tryd.prog) (w := w) 22 22 oo.type 32 dp sp dLen dCap sLen sCap 5 Tryd.underlying22 infoE_size hn
    unfold Oper.wp execOp
    simp only [ho, resolve, invoke, builtin, Sem.run_bind, Sem.run_pure, Result.andThen_ok, List.map_toArray, List.map_cons, List.map_nil, hd, hs, hrun]
    refine h w ?_ (But.refl _ _)
    rw [List.take_zero, List.nil_append, Nat.add_zero, List.take_append_drop]
    exact hown
  · obtain rfl := hpos h0
    have hn1 : n ≤ sLen := by rw [← hn]; exact Nat.min_le_left _ _
    obtain ⟨sb, so, rfl, _, _⟩ := hM.at (by omega)
    have hMn := hM.cut n hn1
    obtain ⟨cur, hcur, hsz, hfl⟩ : ∃ cur, w.heap[g]? = some (.cells cur 32 (0, 0)) ∧ cur.size = k * 5 ∧ cur.toList = layE.fl D := by
      obtain ⟨h1, h2⟩ := hown
      rcases h2 with ⟨h2, _⟩ | ⟨g', cap, cur, h2, _, hh, _, _, hs', ht⟩
      · cases h2
      · cases h2
        refine ⟨cur, hh, hs', ?_⟩
        rw [← ht, hDk, List.take_of_length_le]
        rw [Array.length_toList, hs']; exact Nat.le_refl _
    have hlen : (layE.fl (M.take n)).length = n * 5 := by rw [layE.fl_len, hMn.len]; rfl
    have hrun := run_copy_lay (P := Tryd.prog) (w := w) 22 22 oo.type 32 g (p * 5) dLen dCap ⟨sb, so, .none⟩ sLen sCap 5 cur 32 (layE.fl (M.take n)) n Tryd.underlying22 infoE_size hcur hn hlen hMn.news (by rw [hlen, hsz]; omega) (layE.fl_cell _)
    unfold Oper.wp execOp
    simp only [ho, resolve, invoke, builtin, Sem.run_bind, Sem.run_pure, Result.andThen_ok, List.map_toArray, List.map_cons, List.map_nil, hd, hs, hrun]
    refine h _ ?_ ⟨rfl, rfl, rfl, by simp [World.setRow], fun q _ hq => setRow_other w g q _ hq⟩
    have e1 : cur.toList.take (p * 5) = layE.fl (D.take p) := by rw [hfl]; exact layE.fl_take D p
    have e2 : cur.toList.drop (p * 5 + (layE.fl (M.take n)).length) = layE.fl (D.drop (p + n)) := by
      rw [hfl, hlen, show p * 5 + n * 5 = (p + n) * layE.z by show _ = (p + n) * 5; omega]
      exact layE.fl_drop D _ (by omega)
    rw [e1, e2]
    have hll : (D.take p ++ (M.take n ++ D.drop (p + n))).length = k := by
      rw [List.length_append, List.length_append, hMn.len, List.length_take, List.length_drop]; omega
    have ef : layE.fl (D.take p) ++ layE.fl (M.take n) ++ layE.fl (D.drop (p + n)) = layE.fl (D.take p ++ (M.take n ++ D.drop (p + n))) := by rw [layE.fl_app, layE.fl_app, List.append_assoc]
    rw [ef]
    unfold Own
    obtain ⟨h1, h2⟩ := hown
    refine ⟨by rw [layE.fl_len], .inr ?_⟩
    rcases h2 with ⟨h2, _⟩ | ⟨g', cap, cur', h2, hb', hh', hc', hm', _, _⟩
    · cases h2
    · cases h2
      refine ⟨g, _, _, by rw [hll], hb', setRow_heap w g _ _ 32 _ hcur, by rw [hll]; exact Nat.le_refl _, hm', ?_, ?_⟩
      · rw [List.size_toArray, layE.fl_len, hll]
      · rw [List.take_of_length_le]
        rw [layE.fl_len]; exact Nat.le_refl _
/-- So in a region that draws. -/
theorem step_copyE {w : World} {ops : Array Oper} {oo : Oper} {aa : Act} {Kc : Act → World → Prop} {Q : Exit → Act → World → Prop} {E0 : Prop} (hgd : oo.guard = none) (d s : Operand)
    (ho : oo.op = .call { callee := .builtin .copy, args := #[d, s], argTypes := #[22, 22] }) (dp sp : Option Addr) (dLen dCap sLen sCap : Nat) (hd : aa.eval d = .slice dp dLen dCap) (hs : aa.eval s = .slice sp sLen sCap)
    (base g k : Nat) (D M : List Ev) (hown : Own layE 32 w base (.slice (some ⟨g, 0, .none⟩) k k) D) (hDk : D.length = k) (hM : TRow layE w sp sLen M) (p n : Nat) (hn : Nat.min sLen dLen = n) (hpos : 0 < n → dp = some ⟨g, p * 5, .none⟩) (hfit : p + n ≤ k)
    (h : ∀ w', Own layE 32 w' base (.slice (some ⟨g, 0, .none⟩) k k) (D.take p ++ (M.take n ++ D.drop (p + n))) → But (fun q => q = g) w w' → Kc (aa.put oo.dst (goInt n)) w') :
    if Region.wanted oo (yielded ops aa.tmps) = true then Oper.wp Tryd.prog oo aa w Kc Q else E0 := by
  have hw : Region.wanted oo (yielded ops aa.tmps) = true := by simp [Region.wanted, hgd]
  rw [if_pos hw]
  exact wp_copyE d s ho dp sp dLen dCap sLen sCap hd hs base g k D M hown hDk hM p n hn hpos hfit h
end Go.Proofs.YtkjmmcpjdjjmlaaDoor
