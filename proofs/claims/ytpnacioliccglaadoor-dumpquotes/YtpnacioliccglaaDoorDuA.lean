/-
  Rows of bytes that a call owns; appends.
-/
import Derived.Test.YtpnacioliccglaaDoorDuN
import Derived.Test.YtpnacioliccglaaDoorHpW
import Derived.Lib.AppendStr
import Derived.Lib.OthersKept
namespace Go.Proofs.YtpnacioliccglaaDoor
open Go.RowKit Go.Maps Go.Shelf
set_option linter.unusedVariables false
def layU : Lay UInt8 := ⟨fun b => [.int .u8 (b.toNat : Int)], 1, by decide, fun _ => rfl, by intro a u hu; simp at hu; subst hu; rfl⟩
theorem flU (L : List UInt8) : layU.fl L = Lib.byteCells L := by
  induction L with
  | nil => rfl
  | cons b L ih => rw [layU.fl_cons, ih]; rfl
theorem flS (s : ByteArray) : Lib.strCells s = layU.fl s.data.toList := by rw [flU]; rfl
theorem u8Info : (Tryd.prog.info? 5).map (fun i => (i.zero, i.size, i.bytes)) = some (some (.int .u8 0), 1, 1) := by kernel_rfl
abbrev Ou (w : World) (B : Nat) (v : Value) (L : List UInt8) : Prop := Own layU 5 w B v L
theorem ou_row {w : World} {B : Nat} {v : Value} {L : List UInt8} (h : Ou w B v L) : w.ownsRow B 5 1 v L.length (Lib.byteCells L) := by
  have h1 : w.ownsRow B 5 1 v L.length (layU.fl L) := h
  rw [flU] at h1
  exact h1
theorem ou_of {w : World} {B n : Nat} {v : Value} {L : List UInt8} {xs : List Value} (h : w.ownsRow B 5 1 v n xs) (hn : n = L.length) (hx : xs = Lib.byteCells L) : Ou w B v L := by
  subst hn
  subst hx
  show w.ownsRow B 5 1 v L.length (layU.fl L)
  rw [flU]
  exact h
theorem bc_app (L M : List UInt8) : Lib.byteCells L ++ Lib.byteCells M = Lib.byteCells (L ++ M) := by unfold Lib.byteCells; rw [List.map_append]
/-- What a call that appends bytes may change: what lies below, and all that is no row of bytes, stays. -/
structure Fr (B : Nat) (w w' : World) : Prop where
  bel : Below B w w'
  oth : Lib.OthersKept 5 none w w'
theorem Fr.refl (B : Nat) (w : World) : Fr B w w := ⟨Below.refl _ _, Lib.OthersKept.refl _ _ _⟩
theorem Fr.trans {B : Nat} {a b c : World} (h : Fr B a b) (k : Fr B b c) : Fr B a c := ⟨h.bel.trans k.bel, h.oth.trans k.oth⟩
theorem Fr.alloc {B : Nat} {a b : World} (h : Fr B a b) (hB : B ≤ a.heap.size) (o : Obj) : Fr B a (b.alloc o) := ⟨h.bel.alloc (Nat.le_trans hB h.bel.size) o, h.oth.alloc o⟩
theorem Fr.drew {B : Nat} {a b : World} (h : Fr B a b) : Fr B a b.drew := ⟨h.bel.drew, h.oth.drew⟩
theorem Fr.size {B : Nat} {a b : World} (h : Fr B a b) : a.heap.size ≤ b.heap.size := h.bel.size
theorem Fr.of_bel {B : Nat} {a b : World} (hB : B ≤ a.heap.size) (h : Below a.heap.size a b) : Fr B a b := ⟨h.mono hB, fun k o hk _ _ => (h.block k (Array.getElem?_eq_some_iff.1 hk).1).trans hk⟩
theorem Fr.of_big {B B' : Nat} {a b : World} (hB : B' ≤ B) (h : Fr B a b) : Fr B' a b := ⟨h.bel.mono hB, h.oth⟩
theorem Fr.grown {B : Nat} {w w' : World} {v : Value} {L : List UInt8} (ho : Ou w B v L) (hB : B ≤ w.heap.size) (hg : w.grownBy w' v.ownBlock) : Fr B w w' :=
  ⟨(Below.refl B w).grown hg hB (fun k hk => (ho.lt k hk).1), fun k o hk _ hne => (hg.block k (Array.getElem?_eq_some_iff.1 hk).1 (fun e => by
    obtain ⟨cur, hc⟩ := own_ty ho e.symm
    rw [hk] at hc
    injection hc with hc
    exact hne _ _ hc)).trans hk⟩
/-- What is no row of bytes stays. -/
theorem Fr.obj {B k : Nat} {w w' : World} {o : Obj} (h : Fr B w w') (hk : w.heap[k]? = some o) (ho : ∀ c fz, o ≠ .cells c 5 fz) : w'.heap[k]? = some o := h.oth k o hk (by simp) ho
theorem Fr.own {B : Nat} {α : Type} {y : Lay α} {e : TypeId} {w w' : World} {base : Nat} {v : Value} {L : List α} (h : Fr B w w') (ho : Own y e w base v L) (he : e ≠ 5) : Own y e w' base v L := by
  refine ⟨ho.1, ?_⟩
  rcases ho.2 with h1 | ⟨g, cap, cur, hv, h0, hh, h1⟩
  · exact .inl h1
  · exact .inr ⟨g, cap, cur, hv, h0, h.obj hh (fun c fz e1 => by injection e1 with _ e2 _; exact he e2), h1⟩
theorem append_u (w : World) {ops : Array Oper} {rest : List Oper} {o : Oper} {a : Act} {Q : Exit → Act → World → Prop} (hgd : o.guard = none) (s x : Operand)
    (ho : o.op = .call { callee := .builtin .append, args := #[s, x], argTypes := #[41, 41] }) (B : Nat) (v : Value) (L : List UInt8) (hs : a.eval s = v) (hown : Ou w B v L)
    (k m c : Nat) (cs : Array Value) (M : List UInt8) (hx : a.eval x = .slice (some ⟨k, 0, none⟩) m c) (hk : w.heap[k]? = some (.cells cs 5 (0, 0))) (hM : cs.toList = layU.fl M) (hm : M.length = m)
    (hb : L.length + m ≤ 140737488355328) (hB : B ≤ w.heap.size)
    (h : ∀ v' w', Ou w' B v' (L ++ M) → Fr B w w' → wpList Tryd.prog ops Q rest (a.put o.dst v') w') : wpList Tryd.prog ops Q (o :: rest) a w := by
  obtain ⟨i0, hi0, hz0, hz1, hz2⟩ := info_parts u8Info
  have hr : TRow layU w (some ⟨k, 0, none⟩) m M := by
    refine ⟨hm, .inr ⟨k, 0, rfl, fun i y hy t u hu => ?_⟩⟩
    have ht : t < 1 := by have := (List.getElem?_eq_some_iff.1 hu).1; simpa [layU] using this
    rw [Nat.zero_add]
    refine cell_at hk ?_
    rw [← Array.getElem?_toList, hM, layU.fl_get hy ht]
    exact hu
  refine append_lay layU w 41 5 i0 _ 1 Tryd.underlying41 hi0 hz0 hz1 hz2 rfl hgd s x ho B v L hs hown (some ⟨k, 0, none⟩) m c M hx hr (fun e => by cases e) (by unfold maxLen; omega) (by omega) hB ?_
  intro v' w' o2 g2 _
  exact h v' w' o2 (Fr.grown hown hB g2)
theorem append_s (w : World) {ops : Array Oper} {rest : List Oper} {o : Oper} {a : Act} {Q : Exit → Act → World → Prop} (hgd : o.guard = none) (s x : Operand)
    (ho : o.op = .call { callee := .builtin .append, args := #[s, x], argTypes := #[41, 9] }) (B : Nat) (v : Value) (L : List UInt8) (hs : a.eval s = v) (hown : Ou w B v L)
    (z : ByteArray) (hx : a.eval x = .string z) (hb : L.length + z.size ≤ 140737488355328) (hB : B ≤ w.heap.size)
    (h : ∀ v' w', Ou w' B v' (L ++ z.data.toList) → Fr B w w' → wpList Tryd.prog ops Q rest (a.put o.dst v') w') : wpList Tryd.prog ops Q (o :: rest) a w := by
  obtain ⟨i0, hi0, hz0, hz1, hz2⟩ := info_parts u8Info
  refine Lib.wpList_append_own_string w hgd s x 41 9 ho B 5 i0 Tryd.underlying41 Tryd.underlying9 hi0 hz0 hz1 hz2 v L.length _ hs (ou_row hown) z hx (by unfold maxLen; omega) hb hB ?_
  intro v' w' o2 g2 _
  refine h v' w' (ou_of o2 (by rw [List.length_append]; congr 1) ?_) (Fr.grown hown hB g2)
  rw [flS, flU, bc_app]
theorem ou_fr {B : Nat} {w : World} {o : Obj} {v : Value} {L : List UInt8} (h : Ou w B v L) : Ou (w.alloc o) B v L := h.below (below_alloc1 _ _)
theorem rc_enc (r : Int) : Lib.runeCells r = Lib.byteCells (Lib.encodeRune r) := (Lib.byteCells_encodeRune r).symm
theorem ar_any (B : Nat) (v : Value) (L : List UInt8) (r : Int) (w : World) (h0 : -2147483648 ≤ r) (h1 : r ≤ 2147483647) (hown : Ou w B v L) (hb : L.length + 4 ≤ 140737488355328) (hB : B ≤ w.heap.size) :
    Calls Tryd.prog 48 #[v, .int .i32 r] w fun e w' => ∃ v', e = .returned v' ∧ Ou w' B v' (L ++ Lib.encodeRune r) ∧ Fr B w w' := by
  refine (Tryd.utf8_AppendRune_plain B v L.length _ r h0 h1 w (ou_row hown) hb hB).mono ?_
  rintro e w' ⟨v', rfl, ho, o, hg⟩
  refine ⟨v', rfl, ou_of ho ?_ ?_, ((Fr.refl B w).alloc hB o).trans (Fr.grown (ou_fr hown) (by rw [World.size_alloc]; omega) hg)⟩
  · rw [List.length_append, Lib.runeCells_length]
  · rw [rc_enc, bc_app]
set_option maxRecDepth 8000 in
theorem btw_any (s : ByteArray) (i lo hi : Nat) (w : World) (hi1 : (i : Int) ≤ 9223372036854775806) (hs : (s.size : Int) ≤ 9223372036854775806) (hlo : lo < 256) (hhi : hi < 256) :
    Calls Tryd.prog 49 #[.string s, .int .i64 (i : Int), .int .u8 (lo : Int), .int .u8 (hi : Int)] w fun e w' => e = .returned (.bool (btw s i lo hi)) ∧ w' = w := by
  unfold btw
  by_cases h : i < s.size
  · have hI : (i : Int) < s.size := by omega
    have hi0 : (0 : Int) ≤ i := by omega
    go_enter Tryd.func49, Tryd.ntmps49
    go_wp2
    all_goals
      rename_i hl
      go_ret
      exact ⟨by rw [bA_get h]; simp [h, hl], rfl⟩
  · have hI : ¬ (i : Int) < s.size := by omega
    go_enter Tryd.func49, Tryd.ntmps49
    go_wp2
    go_ret
    exact ⟨by simp, rfl⟩
/-- 'append(l, m...)' of bytes in a region that draws. -/
theorem step_u {ops : Array Oper} {o : Oper} {a : Act} {w : World} {K : Act → World → Prop} {Q : Exit → Act → World → Prop} {E : Prop}
    (hg : o.guard = none) (s x : Operand) (hop : o.op = Op.call { callee := Callee.builtin Builtin.append, args := #[s, x], argTypes := #[41, 41] })
    (B : Nat) (v : Value) (L : List UInt8) (hs : a.eval s = v) (hown : Ou w B v L)
    (k m c : Nat) (cs : Array Value) (M : List UInt8) (hx : a.eval x = .slice (some ⟨k, 0, none⟩) m c) (hk : w.heap[k]? = some (.cells cs 5 (0, 0))) (hM : cs.toList = layU.fl M) (hm : M.length = m)
    (hb : L.length + m ≤ 140737488355328) (hB : B ≤ w.heap.size)
    (h : ∀ v' w', Ou w' B v' (L ++ M) → Fr B w w' → K (a.put o.dst v') w') :
    if Region.wanted o (yielded ops a.tmps) = true then Oper.wp Tryd.prog o a w K Q else E := by
  have hw : Region.wanted o (yielded ops a.tmps) = true := by simp [Region.wanted, hg]
  rw [if_pos hw]
  obtain ⟨i0, hi, hz0, hz1, hz2⟩ := info_parts u8Info
  have hr : TRow layU w (some ⟨k, 0, none⟩) m M := by
    refine ⟨hm, .inr ⟨k, 0, rfl, fun i y hy t u hu => ?_⟩⟩
    have ht : t < 1 := by have := (List.getElem?_eq_some_iff.1 hu).1; simpa [layU] using this
    rw [Nat.zero_add]
    refine cell_at hk ?_
    rw [← Array.getElem?_toList, hM, layU.fl_get hy ht]
    exact hu
  obtain ⟨v', w', hrun, h2, h3, _, h5⟩ := run_append_own_at (P := Tryd.prog) w B 41 o.type 5 i0 _ 1 1 Tryd.underlying41 hi hz0 hz1 hz2 rfl (by decide) v L.length _ hown ⟨k, 0, none⟩ m c (layU.fl M) (by rw [layU.fl_len, hr.len]; rfl) hr.news (layU.fl_cell M) (by unfold maxLen; omega) (by omega) hB
  have h2' : Ou w' B v' (L ++ M) := by
    show w'.ownsRow B 5 layU.z v' (L ++ M).length (layU.fl (L ++ M))
    rw [List.length_append, hr.len, layU.fl_app]
    exact h2
  unfold Oper.wp execOp
  simp only [hop, resolve, invoke, builtin, Sem.run_bind, Sem.run_pure, Result.andThen_ok, List.map_toArray, List.map_cons, List.map_nil, hs, hx, hrun]
  exact h v' w' h2' (Fr.grown hown hB h3)
theorem dgt_at : ∀ n : Fin 16, (⟨#[48, 49, 50, 51, 52, 53, 54, 55, 56, 57, 97, 98, 99, 100, 101, 102]⟩ : ByteArray)[n.val]'(n.isLt) = dgt n.val := by decide
theorem dgt_get {n : Nat} (h : n < 16) : (⟨#[48, 49, 50, 51, 52, 53, 54, 55, 56, 57, 97, 98, 99, 100, 101, 102]⟩ : ByteArray)[n]'h = dgt n := dgt_at ⟨n, h⟩
set_option maxRecDepth 8000 in
theorem hex_any (B : Nat) (v : Value) (L : List UInt8) (c : Nat) (w : World) (hc : c < 256) (hown : Ou w B v L) (hb : L.length + 4 ≤ 140737488355328) (hB : B ≤ w.heap.size) :
    Calls Tryd.prog 50 #[v, .int .u8 (c : Int)] w fun e w' => ∃ v', e = .returned v' ∧ Ou w' B v' (L ++ hxB c) ∧ Fr B w w' := by
  have HO := hide hown
  have HB := hide hb
  have HBd := hide hB
  obtain ⟨q, hq⟩ : ∃ q, q = c / 16 := ⟨_, rfl⟩
  obtain ⟨r, hr⟩ : ∃ r, r = c % 16 := ⟨_, rfl⟩
  have HX : Hid (hxB c = [92, 120, dgt q, dgt r]) := hide (by rw [hq, hr]; rfl)
  have hw1 : IntKind.u8.wrap ((c : Int) / 16) = (q : Int) := by rw [IntKind.wrap_u8]; omega
  have hw2 : ((c : Int).tmod 16) = (r : Int) := by rw [Int.tmod_eq_emod_of_nonneg (by omega)]; omega
  have hq1 : (q : Int) < 16 := by omega
  have hr1 : (r : Int) < 16 := by omega
  have hqN : q < 16 := by omega
  have hrN : r < 16 := by omega
  have HQ := hide (dgt_get hqN)
  have HR := hide (dgt_get hrN)
  clear hown hb hB hq hr hc
  go_enter Tryd.func50, Tryd.ntmps50
  go_wp2_with fail
  go_region_law (refine step_u rfl (.tmp 5) (.tmp 12) rfl B v L (by first | (simp [Act.eval]; done) | (simp [Act.eval, Act.put]; done) | rfl) ((ou_fr HO.out).below (Below.refl _ _).drew) w.heap.size 4 4 _ [92, 120, dgt q, dgt r] (by first | (simp [Act.eval]; done) | (simp [Act.eval, Act.put]; done) | rfl) (heap_new _ _) (by rw [HQ.out, HR.out]; rfl) rfl HB.out (by show B ≤ (World.alloc _ _).heap.size; rw [World.size_alloc]; exact Nat.le_succ_of_le HBd.out) ?_; intro v' w' o2 f2)
  all_goals
    go_wp2
    go_ret
    exact ⟨_, rfl, by rw [HX.out]; exact o2, (((Fr.refl B w).alloc HBd.out _).drew).trans f2⟩
end Go.Proofs.YtpnacioliccglaaDoor
