import Derived.Test.YtafkammiehcdjaaGreatDoorZs10
import Derived.Laws.CopyOwn
import Derived.Laws.Append
import Derived.Laws.NewBlocks
import Derived.Lib.AppendZerosOnto
import Derived.Lib.Overlaps
import Derived.Laws.Externs
import Derived.Test.YtafkammiehcdjaaGreatDoorZs11
/-
  copy of things of several cells into a row whose cells are known; append of zeros.
-/
namespace Go.Proofs.YtafkammiehcdjaaGreatDoor
open Go.RowKit
theorem Lay.fl_drop {α : Type} (y : Lay α) (L : List α) (k : Nat) (hk : k ≤ L.length) : (y.fl L).drop (k * y.z) = y.fl (L.drop k) := by
  have h1 : y.fl L = y.fl (L.take k) ++ y.fl (L.drop k) := by rw [← y.fl_app, List.take_append_drop]
  have h2 : (y.fl (L.take k)).length = k * y.z := by rw [y.fl_len, List.length_take, Nat.min_eq_left hk]
  rw [h1, ← h2, List.drop_left]
theorem run_copy_lay {P : Program} {w : World} (dT sT ty elem : TypeId) (g o dLen dCap : Nat) (a : Addr) (sLen sCap z : Nat) (cur : Array Value) (t : TypeId) (cs : List Value) (n : Nat)
    (hu : P.underlying dT = some (.slice elem)) (hs : (P.info? elem).map (·.size) = some z)
    (hg : w.heap[g]? = some (.cells cur t (0, 0))) (hn : Nat.min sLen dLen = n) (hcs : cs.length = n * z)
    (hsrc : ∀ j v, cs[j]? = some v → w.cell? (a.add j) = some v) (hfit : o + cs.length ≤ cur.size) (h1 : ∀ v ∈ cs, v.oneCell' = true) :
    (Builtin.copy_ #[dT, sT] ty #[.slice (some ⟨g, o, none⟩) dLen dCap, .slice (some a) sLen sCap]).run P w =
      .ok (goInt n) (w.setRow g (cur.toList.take o ++ cs ++ cur.toList.drop (o + cs.length)).toArray) := by
  have hl := run_loadCells_list (P := P) w a cs hsrc
  have hst := run_storeCells_at P g o t cs 0 cur w hg (by simpa using hfit) h1
  rw [hcs] at hl
  cases hq : P.info? elem with
  | none => simp [hq] at hs
  | some i =>
    have hi : i.size = z := by simpa [hq] using hs
    simp [Builtin.copy_, run_underlying hu, Builtin.lenOf, Builtin.firstCells, sizeOf, typeInfo, hq, hi, hn, hl, hst]
theorem take_app {α : Type} (a b : List α) (n : Nat) (h : a.length = n) : (a ++ b).take n = a := by rw [← h, List.take_left]
/-- The row's cells behind a copy of M's first n to the place p. -/
def spl (z : Nat) (cur : Array Value) (p : Nat) (cs : List Value) : Array Value := (cur.toList.take (p * z) ++ cs ++ cur.toList.drop (p * z + cs.length)).toArray
theorem spl_size {z : Nat} {cur : Array Value} {p : Nat} {cs : List Value} (h : p * z + cs.length ≤ cur.size) : (spl z cur p cs).size = cur.size := by
  unfold spl
  simp
  omega
theorem spl_list {z : Nat} {cur : Array Value} {p : Nat} {cs : List Value} : (spl z cur p cs).toList = cur.toList.take (p * z) ++ cs ++ cur.toList.drop (p * z + cs.length) := by unfold spl; simp
section
variable {α : Type} (y : Lay α) (t e : TypeId)
theorem run_copyR {w : World} (hu : Tryz.prog.underlying t = some (.slice e)) (hs : (Tryz.prog.info? e).map (·.size) = some y.z) (ty : TypeId) (g : Nat) (cur : Array Value) (T : TypeId) (hg : w.heap[g]? = some (.cells cur T (0, 0))) (p dLen dCap : Nat) (sp : Option Addr) (sLen sCap : Nat) (M : List α) (n : Nat) (hM : TRow y w sp n M) (hn : Nat.min sLen dLen = n) (h0 : 0 < n) (hfit : p * y.z + n * y.z ≤ cur.size) :
    (Builtin.copy_ #[t, t] ty #[.slice (some ⟨g, p * y.z, none⟩) dLen dCap, .slice sp sLen sCap]).run Tryz.prog w = .ok (goInt n) (w.setRow g (spl y.z cur p (y.fl M))) := by
  obtain ⟨sb, so, rfl, _, _⟩ := hM.at (by omega)
  have hlen : (y.fl M).length = n * y.z := by rw [y.fl_len, hM.len]
  exact run_copy_lay (P := Tryz.prog) (w := w) t t ty e g (p * y.z) dLen dCap ⟨sb, so, .none⟩ sLen sCap y.z cur T (y.fl M) n hu hs hg hn hlen hM.news (by rw [hlen]; exact hfit) (y.fl_cell _)
end
theorem wp_copy_run {w : World} {o : Oper} {a : Act} {K : Act → World → Prop} {Q : Exit → Act → World → Prop} (d s : Operand) (t t' : TypeId)
    (ho : o.op = .call { callee := .builtin .copy, args := #[d, s], argTypes := #[t, t'] }) (v u : Value) (hd : a.eval d = v) (hs : a.eval s = u) {v' : Value} {w' : World}
    (hr : (Builtin.copy_ #[t, t'] o.type #[v, u]).run Tryz.prog w = .ok v' w') (h : K (a.put o.dst v') w') : o.wp Tryz.prog a w K Q := by
  unfold Oper.wp execOp
  simp only [ho, resolve, invoke, builtin, Sem.run_bind, Sem.run_pure, Result.andThen_ok, List.map_toArray, List.map_cons, List.map_nil, hd, hs, hr]
  exact h
theorem wpList_copy_run {w : World} {ops : Array Oper} {rest : List Oper} {o : Oper} {a : Act} {Q : Exit → Act → World → Prop} (hgd : o.guard = none) (d s : Operand) (t t' : TypeId)
    (ho : o.op = .call { callee := .builtin .copy, args := #[d, s], argTypes := #[t, t'] }) (v u : Value) (hd : a.eval d = v) (hs : a.eval s = u) {v' : Value} {w' : World}
    (hr : (Builtin.copy_ #[t, t'] o.type #[v, u]).run Tryz.prog w = .ok v' w') (h : wpList Tryz.prog ops Q rest (a.put o.dst v') w') : wpList Tryz.prog ops Q (o :: rest) a w :=
  wpList_plain hgd fun _ hK => wp_copy_run d s t t' ho v u hd hs hr (hK _ _ h)
theorem step_copy_run {ops : Array Oper} {o : Oper} {a : Act} {w : World} {K : Act → World → Prop} {Q : Exit → Act → World → Prop} {E : Prop}
    (hg : o.guard = none) (d x : Operand) (dT sT : TypeId) (hop : o.op = Op.call { callee := Callee.builtin Builtin.copy, args := #[d, x], argTypes := #[dT, sT] })
    (v u : Value) (hd : a.eval d = v) (hx : a.eval x = u) {v' : Value} {w' : World} (hr : (Builtin.copy_ #[dT, sT] o.type #[v, u]).run Tryz.prog w = .ok v' w') (hK : K (a.put o.dst v') w') :
    if Region.wanted o (yielded ops a.tmps) = true then Oper.wp Tryz.prog o a w K Q else E := by
  have hw : Region.wanted o (yielded ops a.tmps) = true := by simp [Region.wanted, hg]
  rw [if_pos hw]
  exact wp_copy_run d x dT sT hop v u hd hx hr hK
theorem step_append_run {ops : Array Oper} {o : Oper} {a : Act} {w : World} {K : Act → World → Prop} {Q : Exit → Act → World → Prop} {E : Prop}
    (hg : o.guard = none) (d x : Operand) (dT sT : TypeId) (hop : o.op = Op.call { callee := Callee.builtin Builtin.append, args := #[d, x], argTypes := #[dT, sT] })
    (v u : Value) (hd : a.eval d = v) (hx : a.eval x = u) {v' : Value} {w' : World} (hr : (Builtin.append_ #[dT, sT] o.type #[v, u]).run Tryz.prog w = .ok v' w') (hK : K (a.put o.dst v') w') :
    if Region.wanted o (yielded ops a.tmps) = true then Oper.wp Tryz.prog o a w K Q else E := by
  have hw : Region.wanted o (yielded ops a.tmps) = true := by simp [Region.wanted, hg]
  rw [if_pos hw]
  unfold Oper.wp execOp
  simp only [hop, resolve, invoke, builtin, Sem.run_bind, Sem.run_pure, Result.andThen_ok, List.map_toArray, List.map_cons, List.map_nil, hd, hx, hr]
  exact hK
theorem wpList_clear_run {w : World} {ops : Array Oper} {rest : List Oper} {o : Oper} {a : Act} {Q : Exit → Act → World → Prop} (hgd : o.guard = none) (d : Operand) (t : TypeId)
    (ho : o.op = .call { callee := .builtin .clear, args := #[d], argTypes := #[t] }) (v : Value) (hd : a.eval d = v) {v' : Value} {w' : World}
    (hr : (Builtin.clear_ #[t] o.type #[v]).run Tryz.prog w = .ok v' w') (h : wpList Tryz.prog ops Q rest (a.put o.dst v') w') : wpList Tryz.prog ops Q (o :: rest) a w :=
  wpList_plain hgd fun _ hK => by
    unfold Oper.wp execOp
    simp only [ho, resolve, invoke, builtin, Sem.run_bind, Sem.run_pure, Result.andThen_ok, List.map_toArray, List.map_cons, List.map_nil, hd, hr]
    exact hK _ _ h
theorem run_clearR {α : Type} (y : Lay α) (t e : TypeId) {w : World} (hu : Tryz.prog.underlying t = some (.slice e)) (z : Value) (hv : ∀ w, (zeroValue e).run Tryz.prog w = .ok z w) (zr : α) (hz : (Builtin.zeroCells z.cells 1).toList = y.cs zr) (ty : TypeId) (g : Nat) (cur : Array Value) (T : TypeId) (hg : w.heap[g]? = some (.cells cur T (0, 0))) (p cc : Nat) (hfit : p * y.z + y.z ≤ cur.size) :
    (Builtin.clear_ #[t] ty #[.slice (some ⟨g, p * y.z, none⟩) 1 cc]).run Tryz.prog w = .ok (.tuple #[]) (w.setRow g (spl y.z cur p (y.cs zr))) := by
  have hst := run_storeCells_at Tryz.prog g (p * y.z) T (y.cs zr) 0 cur w hg (by rw [y.len]; simpa using hfit) (y.one zr)
  simp only [Nat.add_zero] at hst
  simp [Builtin.clear_, run_underlying hu, hv, hz, hst, spl]
theorem spl_take {z : Nat} {cur : Array Value} {p : Nat} {cs : List Value} (h : p * z ≤ cur.size) : (spl z cur p cs).toList.take (p * z) = cur.toList.take (p * z) := by
  rw [spl_list, List.append_assoc]
  exact take_app _ _ _ (by rw [List.length_take, Array.length_toList]; omega)
/-- The cells of an owned row. -/
theorem Own.raw {α : Type} {y : Lay α} {e : TypeId} {w : World} {base g n c : Nat} {L : List α} (h : Own y e w base (.slice (some ⟨g, 0, none⟩) n c) L) : ∃ cur, w.heap[g]? = some (.cells cur e (0, 0)) ∧ cur.size = c * y.z ∧ cur.toList.take (L.length * y.z) = y.fl L ∧ L.length ≤ c ∧ base ≤ g ∧ c ≤ maxLen := by
  obtain ⟨h1, h2⟩ := h
  rcases h2 with ⟨h2, _⟩ | ⟨g', cap, cur, h2, hb, hh, hc, hm, hs', ht⟩
  · cases h2
  · cases h2
    exact ⟨cur, hh, hs', ht, hc, hb, hm⟩
theorem Own.of_raw {α : Type} {y : Lay α} {e : TypeId} {w : World} {base g c : Nat} {L : List α} {cur : Array Value} (hh : w.heap[g]? = some (.cells cur e (0, 0))) (hs : cur.size = c * y.z) (ht : cur.toList.take (L.length * y.z) = y.fl L) (hc : L.length ≤ c) (hb : base ≤ g) (hm : c ≤ maxLen) : Own y e w base (.slice (some ⟨g, 0, none⟩) L.length c) L :=
  ⟨by rw [y.fl_len], .inr ⟨g, c, cur, rfl, hb, hh, hc, hm, hs, ht⟩⟩
theorem drop_app {α : Type} (a b : List α) (n : Nat) (h : a.length = n) : (a ++ b).drop n = b := by rw [← h, List.drop_left]
/-- A row whose cells were shifted up by one place, and one thing put in. -/
theorem spl_shift {α : Type} (y : Lay α) {cur : Array Value} {L : List α} {i c : Nat} (x : α) (hs : cur.size = c * y.z) (ht : cur.toList.take (L.length * y.z) = y.fl L) (hi : i < L.length) (hc : L.length + 1 ≤ c) :
    (spl y.z (spl y.z cur (i + 1) (y.fl (L.drop i))) i (y.cs x)).size = c * y.z ∧ (spl y.z (spl y.z cur (i + 1) (y.fl (L.drop i))) i (y.cs x)).toList.take ((L.take i ++ x :: L.drop i).length * y.z) = y.fl (L.take i ++ x :: L.drop i) := by
  have hdl : (y.fl (L.drop i)).length = (L.length - i) * y.z := by rw [y.fl_len, List.length_drop]
  have e1 : (i + 1) * y.z + (L.length - i) * y.z = (L.length + 1) * y.z := by rw [← Nat.add_mul]; congr 1; omega
  have hle : (L.length + 1) * y.z ≤ c * y.z := Nat.mul_le_mul_right _ hc
  have h1 : (spl y.z cur (i + 1) (y.fl (L.drop i))).size = cur.size := spl_size (by rw [hdl, e1, hs]; exact hle)
  have hi1 : (i + 1) * y.z ≤ c * y.z := Nat.mul_le_mul_right _ (by omega)
  have hcs := y.len x
  have e2 : i * y.z + y.z = (i + 1) * y.z := by rw [Nat.succ_mul]
  refine ⟨by rw [spl_size (by rw [hcs, h1, hs, e2]; exact hi1), h1, hs], ?_⟩
  have hti : cur.toList.take (i * y.z) = y.fl (L.take i) := by
    rw [← y.fl_take, ← ht, List.take_take]
    congr 1
    have : i * y.z ≤ L.length * y.z := Nat.mul_le_mul_right _ (by omega)
    omega
  have hl1 : (cur.toList.take ((i + 1) * y.z)).length = (i + 1) * y.z := by rw [List.length_take, Array.length_toList, hs]; omega
  have t1 : (spl y.z cur (i + 1) (y.fl (L.drop i))).toList.take (i * y.z) = y.fl (L.take i) := by
    rw [spl_list, List.append_assoc, List.take_append_of_le_length (by rw [hl1, ← e2]; omega), List.take_take, ← hti]
    congr 1
    rw [← e2]; omega
  have t2 : (spl y.z cur (i + 1) (y.fl (L.drop i))).toList.drop (i * y.z + (y.cs x).length) = y.fl (L.drop i) ++ cur.toList.drop ((i + 1) * y.z + (y.fl (L.drop i)).length) := by
    rw [spl_list, hcs, e2, List.append_assoc, drop_app _ _ _ hl1]
  rw [spl_list (cs := y.cs x), t1, t2]
  have e3 : y.fl (L.take i) ++ y.cs x ++ (y.fl (L.drop i) ++ cur.toList.drop ((i + 1) * y.z + (y.fl (L.drop i)).length)) = y.fl (L.take i ++ x :: L.drop i) ++ cur.toList.drop ((i + 1) * y.z + (y.fl (L.drop i)).length) := by
    rw [y.fl_app, y.fl_cons]
    simp only [List.append_assoc]
  rw [e3]
  exact take_app _ _ _ (by rw [y.fl_len])
/-- A new row: what stood ahead of i, one thing, what stood from i on. -/
theorem spl_new {α : Type} (y : Lay α) {cur : Array Value} {L : List α} {i c : Nat} (x : α) (hs : cur.size = c * y.z) (ht : cur.toList.take (i * y.z) = y.fl (L.take i)) (hi : i < L.length) (hc : L.length + 1 ≤ c) :
    (spl y.z (spl y.z cur i (y.cs x)) (i + 1) (y.fl (L.drop i))).size = c * y.z ∧ (spl y.z (spl y.z cur i (y.cs x)) (i + 1) (y.fl (L.drop i))).toList.take ((L.take i ++ x :: L.drop i).length * y.z) = y.fl (L.take i ++ x :: L.drop i) := by
  have hdl : (y.fl (L.drop i)).length = (L.length - i) * y.z := by rw [y.fl_len, List.length_drop]
  have e1 : (i + 1) * y.z + (L.length - i) * y.z = (L.length + 1) * y.z := by rw [← Nat.add_mul]; congr 1; omega
  have hle : (L.length + 1) * y.z ≤ c * y.z := Nat.mul_le_mul_right _ hc
  have hi1 : (i + 1) * y.z ≤ c * y.z := Nat.mul_le_mul_right _ (by omega)
  have hcs := y.len x
  have e2 : i * y.z + y.z = (i + 1) * y.z := by rw [Nat.succ_mul]
  have h1 : (spl y.z cur i (y.cs x)).size = cur.size := spl_size (by rw [hcs, hs, e2]; exact hi1)
  refine ⟨by rw [spl_size (by rw [hdl, h1, hs, e1]; exact hle), h1, hs], ?_⟩
  have hl0 : (cur.toList.take (i * y.z)).length = i * y.z := by rw [List.length_take, Array.length_toList, hs]; omega
  have hl1 : (cur.toList.take (i * y.z) ++ y.cs x).length = (i + 1) * y.z := by rw [List.length_append, hl0, hcs, e2]
  have t1 : (spl y.z cur i (y.cs x)).toList.take ((i + 1) * y.z) = y.fl (L.take i) ++ y.cs x := by
    rw [spl_list, take_app _ _ _ hl1, ht]
  rw [spl_list (cur := spl y.z cur i (y.cs x)), t1]
  have e3 : y.fl (L.take i) ++ y.cs x ++ y.fl (L.drop i) = y.fl (L.take i ++ x :: L.drop i) := by
    rw [y.fl_app, y.fl_cons]
    simp only [List.append_assoc]
  rw [e3]
  exact take_app _ _ _ (by rw [y.fl_len])
end Go.Proofs.YtafkammiehcdjaaGreatDoor
/-
  slices.Insert of one thing: Ent.
-/
namespace Go.Proofs.YtafkammiehcdjaaGreatDoor
open Go.RowKit Go.Lib
theorem sizeE : (Tryz.prog.info? 148).map (·.size) = some layN.z := by kernel_rfl
set_option maxRecDepth 8000 in
theorem insE_end (v : Value) (L : List Ent) (x : Ent) (vb : Nat) (w : World) (h : Own layN 148 w 0 v L) (hv : w.heap[vb]? = some (.cells (layN.cs x).toArray 148 (0, 0))) (hn : (L.length : Int) ≤ 4000000) :
    Calls Tryz.prog 118 #[v, .int .i64 (L.length : Int), .slice (some ⟨vb, 0, none⟩) 1 1] w fun r w' => ∃ v', r = .returned v' ∧ Own layN 148 w' 0 v' (L ++ [x]) ∧ But (fun b => v.ownBlock = some b) w w' ∧ (v'.ownBlock = v.ownBlock ∨ ∃ b, v'.ownBlock = some b ∧ w.heap.size ≤ b) := by
  obtain ⟨i0, hi, hz0, hz1, hz2⟩ := info_parts Tryz.infoN
  obtain ⟨a, c, rfl, h0, hcn⟩ := own_form h
  have HR := hide (TRow.one hv)
  have HO := hide h
  have HH0 := hide h0
  have HN := hide hn
  have hcI : (L.length : Int) ≤ (c : Int) := by omega
  clear h hv h0
  generalize hnl : L.length = n at *
  have HL := hide hnl
  clear hnl
  cases a with
  | none =>
    obtain ⟨rfl, rfl⟩ := HH0.out rfl
    go_enter Tryz.func118, Tryz.ntmps118
    go_wp2_with (at_builtin; refine append_lay layN _ 149 148 i0 _ 16 Tryz.underlying149 hi hz0 hz1 hz2 rfl rfl _ _ rfl 0 _ L rfl HO.out _ 1 1 [x] rfl HR.out (fun e => by cases e) ?b1 ?b2 (Nat.zero_le _) ?_)
    case b1 => unfold maxLen; have := HL.out; omega
    case b2 => have := HL.out; omega
    intro v' w' o1 g1 l1
    go_wp2
    go_ret
    exact ⟨v', rfl, o1, But.of_grown g1 (fun _ e => e), l1.imp id fun e => ⟨_, e, Nat.le_refl _⟩⟩
  | some ad =>
    by_cases hcc : c = n
    · subst hcc
      go_enter Tryz.func118, Tryz.ntmps118
      go_wp2_with (at_builtin; refine append_lay layN _ 149 148 i0 _ 16 Tryz.underlying149 hi hz0 hz1 hz2 rfl rfl _ _ rfl 0 _ L rfl HO.out _ 1 1 [x] rfl HR.out (fun e => by cases e) ?b1 ?b2 (Nat.zero_le _) ?_)
      case b1 => unfold maxLen; have := HL.out; have := HN.out; omega
      case b2 => have := HL.out; have := HN.out; omega
      intro v' w' o1 g1 l1
      go_wp2
      go_ret
      exact ⟨v', rfl, o1, But.of_grown g1 (fun _ e => e), l1.imp id fun e => ⟨_, e, Nat.le_refl _⟩⟩
    · go_enter Tryz.func118, Tryz.ntmps118
      go_wp2_with (at_builtin; refine append_lay layN _ 149 148 i0 _ 16 Tryz.underlying149 hi hz0 hz1 hz2 rfl rfl _ _ rfl 0 _ L rfl HO.out _ 1 1 [x] rfl HR.out (fun e => by cases e) ?b1 ?b2 (Nat.zero_le _) ?_)
      case b1 => unfold maxLen; have := HL.out; have := HN.out; omega
      case b2 => have := HL.out; have := HN.out; omega
      intro v' w' o1 g1 l1
      go_wp2
      go_ret
      exact ⟨v', rfl, o1, But.of_grown g1 (fun _ e => e), l1.imp id fun e => ⟨_, e, Nat.le_refl _⟩⟩
set_option maxRecDepth 8000 in
set_option maxHeartbeats 1000000 in
theorem insE_room (g n c i : Nat) (L : List Ent) (x : Ent) (vb : Nat) (w : World) (h : Own layN 148 w 0 (.slice (some ⟨g, 0, none⟩) n c) L) (hnl : L.length = n) (hi : i < n) (hroom : n + 1 ≤ c) (hv : w.heap[vb]? = some (.cells (layN.cs x).toArray 148 (0, 0))) (hne : vb ≠ g) (hn : (n : Int) ≤ 4000000) :
    Calls Tryz.prog 118 #[.slice (some ⟨g, 0, none⟩) n c, .int .i64 (i : Int), .slice (some ⟨vb, 0, none⟩) 1 1] w fun r w' => r = .returned (.slice (some ⟨g, 0, none⟩) (n + 1) c) ∧ Own layN 148 w' 0 (.slice (some ⟨g, 0, none⟩) (n + 1) c) (L.take i ++ x :: L.drop i) ∧ But (fun b => b = g) w w' := by
  obtain ⟨cur, hg, hsz, hfl, _, _, hmx⟩ := h.raw
  have hov : ∀ lb cb, (callFunc 153 #[.slice (some ⟨vb, 0, none⟩) 1 1, .slice (some ⟨g, (i + 1) * 2, none⟩) lb cb]).run Tryz.prog w = .ok (.value (.bool false)) w := fun lb cb => by
    rw [run_callFunc_extern Tryz.func153 (by kernel_rfl) (by kernel_rfl) (by kernel_rfl) (e := Extern.SlicesOverlaps.overlaps #[149, 149] #[4]) (by kernel_rfl),
      Lib.run_overlaps_apart w 149 4 148 Tryz.underlying149 2 (fun w => by kernel_rfl) ⟨vb, 0, none⟩ ⟨g, (i + 1) * 2, none⟩ 1 1 lb cb hne 148 148 (layN.cs x).toArray.size cur.size (by simp [World.shape?, hv]) (by simp [World.shape?, hg]) (by rw [hsz]; show c * 2 ≠ 0; omega) (frz hv 0) (frz hv _)]
    rfl
  have hrow := h.row hnl
  have hdn : TRow layN w (some ⟨g, i * 2, none⟩) (n - i) (L.drop i) := by have := hrow.drop i (by omega); rw [Nat.zero_add] at this; exact this
  have hdl : (L.drop i).length = n - i := by rw [List.length_drop, hnl]
  have hcp1 : ∀ ty dc sc, (Builtin.copy_ #[149, 149] ty #[.slice (some ⟨g, (i + 1) * 2, none⟩) (n - i) dc, .slice (some ⟨g, i * 2, none⟩) (n + 1 - i) sc]).run Tryz.prog w.drew =   .ok (goInt ((n - i : Nat) : Int)) (w.drew.setRow g (spl layN.z cur (i + 1) (layN.fl (L.drop i)))) := fun ty dc sc =>
    run_copyR (w := w.drew) layN 149 148 Tryz.underlying149 sizeE ty g cur 148 hg (i + 1) _ dc _ _ sc (L.drop i) (n - i) (hdn.below ((Below.refl _ _).drew)) (by simp only [Nat.min_def]; split <;> omega) (by omega) (by rw [hsz]; show (i + 1) * 2 + (n - i) * 2 ≤ c * 2; omega)
  obtain ⟨cur1, hcur1⟩ : ∃ cur1, cur1 = spl layN.z cur (i + 1) (layN.fl (L.drop i)) := ⟨_, rfl⟩
  have hs1 : cur1.size = c * layN.z := by rw [hcur1, spl_size (by rw [layN.fl_len, hdl, hsz]; show (i + 1) * 2 + (n - i) * 2 ≤ c * 2; omega), hsz]
  obtain ⟨W1, hW1⟩ : ∃ W1, W1 = w.drew.setRow g cur1 := ⟨_, rfl⟩
  have hg1 : W1.heap[g]? = some (.cells cur1 148 (0, 0)) := by rw [hW1]; exact setRow_heap w.drew g cur cur1 148 (0, 0) hg
  have hb1 : But (fun b => b = g) w W1 := by
    rw [hW1]
    exact (But.refl (fun b => b = g) w).drew.trans (T := fun b => b = g) ⟨rfl, rfl, rfl, by simp [World.setRow], fun q _ hq => setRow_other w.drew g q _ hq⟩ (fun _ _ e => e)
  have hv1 : W1.heap[vb]? = some (.cells (layN.cs x).toArray 148 (0, 0)) := (hb1.block vb (Array.getElem?_eq_some_iff.1 hv).1 hne).trans hv
  have hcp2 : ∀ ty dc, (Builtin.copy_ #[149, 149] ty #[.slice (some ⟨g, i * 2, none⟩) (n + 1 - i) dc, .slice (some ⟨vb, 0, none⟩) 1 1]).run Tryz.prog W1 = .ok (goInt ((1 : Nat) : Int)) (W1.setRow g (spl layN.z cur1 i (layN.fl [x]))) := fun ty dc =>
    run_copyR layN 149 148 Tryz.underlying149 sizeE ty g cur1 148 hg1 i _ dc _ _ 1 [x] 1 (TRow.one hv1) (by simp only [Nat.min_def]; split <;> omega) (by omega) (by rw [hs1]; show i * 2 + 1 * 2 ≤ c * 2; omega)
  have hN := spl_shift layN x hsz hfl (by omega : i < L.length) (by omega : L.length + 1 ≤ c)
  rw [← hcur1] at hN hcp1
  rw [← hW1] at hcp1
  have hLl : (L.take i ++ x :: L.drop i).length = n + 1 := by rw [List.length_append, List.length_take, List.length_cons, hdl]; omega
  rw [layN.fl_one] at hcp2
  have hOwn : Own layN 148 (W1.setRow g (spl layN.z cur1 i (layN.cs x))) 0 (.slice (some ⟨g, 0, none⟩) (n + 1) c) (L.take i ++ x :: L.drop i) := by
    have := Own.of_raw (base := 0) (setRow_heap W1 g cur1 _ 148 (0, 0) hg1) hN.1 hN.2 (by rw [hLl]; exact hroom) (Nat.zero_le _) hmx
    rwa [hLl] at this
  have HOwn := hide hOwn
  have HBut : Hid (But (fun b => b = g) w (W1.setRow g (spl layN.z cur1 i (layN.cs x)))) := hide (hb1.trans (T := fun b => b = g) ⟨rfl, rfl, rfl, by simp [World.setRow], fun q _ hq => setRow_other W1 g q _ hq⟩ (fun _ _ e => e))
  have hiI : (i : Int) < n := by omega
  have hcI : (n : Int) + 1 ≤ (c : Int) := by omega
  have hi63 : (c : Int) ≤ 9223372036854775807 := by unfold maxLen at hmx; omega
  have n1 : ¬ (c = i) := by omega
  have n2 : ¬ (c = i + 1) := by omega
  have n3 : ¬ ((i : Int) = (n : Int)) := by omega
  have HCP1 := hide hcp1
  have HCP2 := hide hcp2
  clear hOwn hb1 hv1 hs1 hg1 hcur1 hN hcp1 hcp2 hrow hdn hdl hfl hsz hLl hmx h hv hg hnl hne hroom hW1
  have hw1 : IntKind.i64.wrap ((i : Int) + 1) = (i : Int) + 1 := by rw [IntKind.wrap_i64]; omega
  have hb1' : (0 : Int) ≤ (i : Int) + 1 := by omega
  have htn : ((i : Int) + 1).toNat = i + 1 := by omega
  have hb3 : (i : Int) ≤ (n : Int) := by omega
  have hb4 : (i : Int) ≤ (n : Int) + 1 := by omega
  have hb5 : (i : Int) + 1 ≤ (n : Int) + 1 := by omega
  go_enter Tryz.func118, Tryz.ntmps118
  go_wp2_with (simp only [hov])
  go_region_law (refine step_copy_run rfl (.tmp 73) (.tmp 76) 149 149 rfl (.slice (some ⟨g, (i + 1) * 2, none⟩) (n - i) (c - (i + 1))) (.slice (some ⟨g, i * 2, none⟩) (n + 1 - i) (c - i)) (by simp [Act.eval, Act.put]) (by simp [Act.eval, Act.put]) (HCP1.out _ _ _) ?_)
  go_wp2_with (refine wpList_copy_run rfl _ _ 149 149 rfl _ _ rfl rfl (HCP2.out _ _) ?_)
  go_ret
  exact ⟨rfl, HOwn.out, HBut.out⟩
set_option maxRecDepth 8000 in
set_option maxHeartbeats 1000000 in
theorem insE_grow (g n i : Nat) (L : List Ent) (x : Ent) (vb : Nat) (w : World) (h : Own layN 148 w 0 (.slice (some ⟨g, 0, none⟩) n n) L) (hnl : L.length = n) (hi : i < n) (hv : w.heap[vb]? = some (.cells (layN.cs x).toArray 148 (0, 0))) (hn : (n : Int) ≤ 4000000) :
    Calls Tryz.prog 118 #[.slice (some ⟨g, 0, none⟩) n n, .int .i64 (i : Int), .slice (some ⟨vb, 0, none⟩) 1 1] w fun r w' => ∃ G, r = .returned (.slice (some ⟨w.heap.size, 0, none⟩) (n + 1) G) ∧ Own layN 148 w' 0 (.slice (some ⟨w.heap.size, 0, none⟩) (n + 1) G) (L.take i ++ x :: L.drop i) ∧ Below w.heap.size w w' := by
  obtain ⟨i0, hi0, hz0, hz1, hz2⟩ := info_parts Tryz.infoN
  have hrow := h.row hnl
  have hgl : g < w.heap.size := (h.lt g rfl).2
  have hvl : vb < w.heap.size := (Array.getElem?_eq_some_iff.1 hv).1
  have hdn : TRow layN w (some ⟨g, i * 2, none⟩) (n - i) (L.drop i) := by have := hrow.drop i (by omega); rw [Nat.zero_add] at this; exact this
  have hdl : (L.drop i).length = n - i := by rw [List.length_drop, hnl]
  have htk : (L.take i).length = i := by rw [List.length_take]; omega
  have hold : (Builtin.firstCells i0.size i (.slice (some ⟨g, 0, none⟩) i n)).run Tryz.prog w.drew = .ok (layN.fl (L.take i)).toArray w.drew := by
    rw [hz1]
    exact run_firstCells_some w.drew 2 i ⟨g, 0, none⟩ i n (layN.fl (L.take i)) (by rw [layN.fl_len, htk]; rfl) ((hrow.cut i (by omega)).below ((Below.refl _ w).drew)).news
  have hik : i + (n + 1 - i) = n + 1 := by omega
  have hrz : ∀ ty, (Builtin.append_ #[149, 3] ty #[.slice (some ⟨g, 0, none⟩) i n, .int .i64 ((n : Int) + 1 - (i : Int))]).run Tryz.prog w =
      .ok (.slice (some ⟨w.heap.size, 0, none⟩) (n + 1) (grownCap w (n + 1) n 148)) (w.drew.alloc (.cells ((layN.fl (L.take i)).toArray ++ Builtin.zeroCells (.agg #[.int .u64 0, .int .u64 0] : Value).cells (n + 1 - i) ++ Builtin.zeroCells (.agg #[.int .u64 0, .int .u64 0] : Value).cells (grownCap w (n + 1) n 148 - (n + 1))) 148)) := fun ty => by
    have h9 := Lib.run_append_grow_zeros w 149 3 ty 148 i0 _ .i64 .i64 Tryz.underlying149 Tryz.underlying3 hi0 hz0 (some ⟨g, 0, none⟩) i n (layN.fl (L.take i)) hold (n + 1 - i) (by omega) (by omega) (by omega) (by omega) (by rw [hz2]; omega) (by rw [hz2, hik]; exact growslice_fits (by omega) (by omega))
    rw [hik] at h9
    rw [show (n : Int) + 1 - (i : Int) = ((n + 1 - i : Nat) : Int) by omega]
    exact h9
  obtain ⟨G, hG⟩ : ∃ G, G = grownCap w (n + 1) n 148 := ⟨_, rfl⟩
  have hGn : n + 1 ≤ G := by rw [hG]; exact grownCap_ge w _ _ _
  have hGm : G ≤ maxLen := by rw [hG]; exact grownCap_le_maxLen w (n + 1) n 148 (by unfold maxLen; omega)
  rw [← hG] at hrz
  obtain ⟨ROW, hROW⟩ : ∃ ROW : Array Value, ROW = (layN.fl (L.take i)).toArray ++ Builtin.zeroCells (.agg #[.int .u64 0, .int .u64 0] : Value).cells (n + 1 - i) ++ Builtin.zeroCells (.agg #[.int .u64 0, .int .u64 0] : Value).cells (G - (n + 1)) := ⟨_, rfl⟩
  rw [← hROW] at hrz
  have hRs : ROW.size = G * layN.z := by
    rw [hROW]
    simp only [Array.size_append, List.size_toArray, layN.fl_len, htk]
    show i * 2 + _ + _ = G * 2
    simp [Builtin.zeroCells, Value.cells]
    omega
  have hRt : ROW.toList.take (i * layN.z) = layN.fl (L.take i) := by
    rw [hROW, Array.toList_append, Array.toList_append, List.append_assoc]
    exact take_app _ _ _ (by show (layN.fl (L.take i)).length = _; rw [layN.fl_len, htk])
  obtain ⟨W1, hW1⟩ : ∃ W1, W1 = w.drew.alloc (.cells ROW 148) := ⟨_, rfl⟩
  rw [← hW1] at hrz
  have hb1 : Below w.heap.size w W1 := by rw [hW1]; exact ((Below.refl w.heap.size w).drew).alloc (Nat.le_refl _) _
  have hg1 : W1.heap[w.heap.size]? = some (.cells ROW 148 (0, 0)) := by rw [hW1]; exact heap_new w.drew _
  have hv1 : W1.heap[vb]? = some (.cells (layN.cs x).toArray 148 (0, 0)) := (hb1.block vb hvl).trans hv
  have hcp1 : ∀ ty dc, (Builtin.copy_ #[149, 149] ty #[.slice (some ⟨w.heap.size, i * 2, none⟩) (n + 1 - i) dc, .slice (some ⟨vb, 0, none⟩) 1 1]).run Tryz.prog W1 = .ok (goInt ((1 : Nat) : Int)) (W1.setRow w.heap.size (spl layN.z ROW i (layN.fl [x]))) := fun ty dc =>
    run_copyR (w := W1) layN 149 148 Tryz.underlying149 sizeE ty w.heap.size ROW 148 hg1 i _ dc _ _ 1 [x] 1 (TRow.one hv1) (by simp only [Nat.min_def]; split <;> omega) (by omega) (by rw [hRs]; show i * 2 + 1 * 2 ≤ G * 2; omega)
  rw [layN.fl_one] at hcp1
  obtain ⟨cur1, hcur1⟩ : ∃ cur1, cur1 = spl layN.z ROW i (layN.cs x) := ⟨_, rfl⟩
  have hs1 : cur1.size = G * layN.z := by rw [hcur1, spl_size (by rw [layN.len, hRs]; show i * 2 + 2 ≤ G * 2; omega), hRs]
  rw [← hcur1] at hcp1
  obtain ⟨W2, hW2⟩ : ∃ W2, W2 = W1.setRow w.heap.size cur1 := ⟨_, rfl⟩
  rw [← hW2] at hcp1
  have hg2 : W2.heap[w.heap.size]? = some (.cells cur1 148 (0, 0)) := by rw [hW2]; exact setRow_heap W1 w.heap.size ROW cur1 148 (0, 0) hg1
  have hb2 : Below w.heap.size w W2 := by rw [hW2]; exact hb1.trans ⟨rfl, rfl, rfl, by simp [World.setRow], fun q hq => setRow_other W1 w.heap.size q _ (by omega)⟩
  have hcp2 : ∀ ty dc sc, (Builtin.copy_ #[149, 149] ty #[.slice (some ⟨w.heap.size, (i + 1) * 2, none⟩) (n - i) dc, .slice (some ⟨g, i * 2, none⟩) (n - i) sc]).run Tryz.prog W2.drew = .ok (goInt ((n - i : Nat) : Int)) (W2.drew.setRow w.heap.size (spl layN.z cur1 (i + 1) (layN.fl (L.drop i)))) := fun ty dc sc =>
    run_copyR (w := W2.drew) layN 149 148 Tryz.underlying149 sizeE ty w.heap.size cur1 148 hg2 (i + 1) _ dc _ _ sc (L.drop i) (n - i) (hdn.below hb2.drew) (by simp only [Nat.min_def]; split <;> omega) (by omega) (by rw [hs1]; show (i + 1) * 2 + (n - i) * 2 ≤ G * 2; omega)
  have hN := spl_new layN (L := L) x hRs hRt (by omega : i < L.length) (by omega : L.length + 1 ≤ G)
  rw [← hcur1] at hN
  have hLl : (L.take i ++ x :: L.drop i).length = n + 1 := by rw [List.length_append, htk, List.length_cons, hdl]; omega
  have hOwn : Own layN 148 (W2.drew.setRow w.heap.size (spl layN.z cur1 (i + 1) (layN.fl (L.drop i)))) 0 (.slice (some ⟨w.heap.size, 0, none⟩) (n + 1) G) (L.take i ++ x :: L.drop i) := by
    have := Own.of_raw (base := 0) (setRow_heap W2.drew w.heap.size cur1 _ 148 (0, 0) hg2) hN.1 hN.2 (by rw [hLl]; exact hGn) (Nat.zero_le _) hGm
    rwa [hLl] at this
  have HOwn := hide hOwn
  have HBel : Hid (Below w.heap.size w (W2.drew.setRow w.heap.size (spl layN.z cur1 (i + 1) (layN.fl (L.drop i))))) := hide (hb2.drew.trans ⟨rfl, rfl, rfl, by simp [World.setRow], fun q hq => setRow_other W2.drew w.heap.size q _ (by omega)⟩)
  have hiI : (i : Int) < n := by omega
  have hcI : (n : Int) + 1 ≤ (G : Int) := by omega
  have hi63 : (G : Int) ≤ 9223372036854775807 := by unfold maxLen at hGm; omega
  have n1 : ¬ (G = i) := by omega
  have n2 : ¬ (G = i + 1) := by omega
  have n3 : ¬ ((i : Int) = (n : Int)) := by omega
  have n4 : ¬ (n = i) := by omega
  have HCP1 := hide hcp1
  have HCP2 := hide hcp2
  have HRZ := hide hrz
  clear hOwn hb1 hv1 hs1 hg1 hcur1 hN hcp1 hcp2 hrow hdn hdl hLl hGm h hv hnl hW1 hW2 hb2 hg2 hRs hRt hROW hG hrz hold hik htk hGn hvl hgl
  have hw1 : IntKind.i64.wrap ((i : Int) + 1) = (i : Int) + 1 := by rw [IntKind.wrap_i64]; omega
  have hb1' : (0 : Int) ≤ (i : Int) + 1 := by omega
  have htn : ((i : Int) + 1).toNat = i + 1 := by omega
  have hb3 : (i : Int) ≤ (n : Int) := by omega
  have hb4 : (i : Int) ≤ (n : Int) + 1 := by omega
  have hb5 : (i : Int) + 1 ≤ (n : Int) + 1 := by omega
  go_enter Tryz.func118, Tryz.ntmps118
  go_wp2_with (first
    | (at_builtin; refine Lib.wpList_append_run _ rfl _ _ _ _ rfl _ _ rfl rfl _ _ (HRZ.out _) ?_)
    | (refine wpList_copy_run rfl _ _ 149 149 rfl _ _ rfl rfl (HCP1.out _ _) ?_))
  go_region_law (refine step_copy_run rfl (.tmp 50) (.tmp 53) 149 149 rfl (.slice (some ⟨w.heap.size, (i + 1) * 2, none⟩) (n - i) (G - (i + 1))) (.slice (some ⟨g, i * 2, none⟩) (n - i) (n - i)) (by simp [Act.eval, Act.put]) (by simp [Act.eval, Act.put]) (HCP2.out _ _ _) ?_)
  go_wp2
  go_ret
  exact ⟨_, rfl, HOwn.out, HBel.out⟩
/-- One thing put in at a place. -/
theorem insE_any (v : Value) (L : List Ent) (i : Nat) (x : Ent) (vb : Nat) (w : World) (h : Own layN 148 w 0 v L) (hi : i ≤ L.length) (hv : w.heap[vb]? = some (.cells (layN.cs x).toArray 148 (0, 0))) (hne : v.ownBlock ≠ some vb) (hn : (L.length : Int) ≤ 4000000) :
    Calls Tryz.prog 118 #[v, .int .i64 (i : Int), .slice (some ⟨vb, 0, none⟩) 1 1] w fun r w' => ∃ v', r = .returned v' ∧ Own layN 148 w' 0 v' (L.take i ++ x :: L.drop i) ∧ But (fun b => v.ownBlock = some b) w w' ∧ (v'.ownBlock = v.ownBlock ∨ ∃ b, v'.ownBlock = some b ∧ w.heap.size ≤ b) := by
  by_cases he : i = L.length
  · subst he
    rw [List.take_length, List.drop_length]
    exact insE_end v L x vb w h hv hn
  · obtain ⟨g, c, rfl, _, hg, hc⟩ := h.frm (by omega)
    by_cases hroom : L.length + 1 ≤ c
    · refine (insE_room g L.length c i L x vb w h rfl (by omega) hroom hv (fun e => hne (by rw [e]; rfl)) hn).mono ?_
      rintro r w' ⟨rfl, o, b⟩
      exact ⟨_, rfl, o, b.mono (fun k e => by rw [e]; rfl), .inl rfl⟩
    · obtain rfl : c = L.length := by omega
      refine (insE_grow g L.length i L x vb w h rfl (by omega) hv hn).mono ?_
      rintro r w' ⟨G, rfl, o, b⟩
      exact ⟨_, rfl, o, But.of_below b, .inr ⟨_, rfl, Nat.le_refl _⟩⟩
end Go.Proofs.YtafkammiehcdjaaGreatDoor
