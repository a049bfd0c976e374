import Derived.Test.YtpnacioliccglaaDoorZt01
import Derived.Test.YtpnacioliccglaaDoorZt02
import Derived.Lib.AppendStr
import Derived.Lib.OthersKept
set_option maxRecDepth 8000
set_option maxHeartbeats 8000000
set_option linter.unusedVariables false
/-
  Rows of bytes that a call owns; appends.
-/
namespace Go.Proofs.YtpnacioliccglaaDoor
open Go.RowKit Go.Maps Go.Shelf
set_option linter.unusedVariables false
def layU : Lay UInt8 := ⟨fun b => [.int .u8 (b.toNat : Int)], 1, by decide, fun _ => rfl, by intro a u hu; simp at hu; subst hu; rfl⟩
theorem flU (L : List UInt8) : layU.fl L = Lib.byteCells L := by
  induction L with
  | nil => rfl
  | cons b L ih => rw [layU.fl_cons, ih]; rfl
theorem flS (s : ByteArray) : Lib.strCells s = layU.fl s.data.toList := by rw [flU]; rfl
theorem u8Info : (Tryd.prog.info? 5).map (fun i => (i.zero, i.size, i.bytes)) = some (some (.int .u8 0), 1, 1) := by kernel_rfl
abbrev Ou (w : World) (B : Nat) (v : Value) (L : List UInt8) : Prop := Own layU 5 w B v L
theorem ou_row {w : World} {B : Nat} {v : Value} {L : List UInt8} (h : Ou w B v L) : w.ownsRow B 5 1 v L.length (Lib.byteCells L) := by
  have h1 : w.ownsRow B 5 1 v L.length (layU.fl L) := h
  rw [flU] at h1
  exact h1
theorem ou_of {w : World} {B n : Nat} {v : Value} {L : List UInt8} {xs : List Value} (h : w.ownsRow B 5 1 v n xs) (hn : n = L.length) (hx : xs = Lib.byteCells L) : Ou w B v L := by
  subst hn
  subst hx
  show w.ownsRow B 5 1 v L.length (layU.fl L)
  rw [flU]
  exact h
theorem bc_app (L M : List UInt8) : Lib.byteCells L ++ Lib.byteCells M = Lib.byteCells (L ++ M) := by unfold Lib.byteCells; rw [List.map_append]
/-- What a call that appends bytes may change: what lies below, and all that is no row of bytes, stays. -/
structure Fr (B : Nat) (w w' : World) : Prop where
  bel : Below B w w'
  oth : Lib.OthersKept 5 none w w'
theorem Fr.refl (B : Nat) (w : World) : Fr B w w := ⟨Below.refl _ _, Lib.OthersKept.refl _ _ _⟩
theorem Fr.trans {B : Nat} {a b c : World} (h : Fr B a b) (k : Fr B b c) : Fr B a c := ⟨h.bel.trans k.bel, h.oth.trans k.oth⟩
theorem Fr.alloc {B : Nat} {a b : World} (h : Fr B a b) (hB : B ≤ a.heap.size) (o : Obj) : Fr B a (b.alloc o) := ⟨h.bel.alloc (Nat.le_trans hB h.bel.size) o, h.oth.alloc o⟩
theorem Fr.drew {B : Nat} {a b : World} (h : Fr B a b) : Fr B a b.drew := ⟨h.bel.drew, h.oth.drew⟩
theorem Fr.size {B : Nat} {a b : World} (h : Fr B a b) : a.heap.size ≤ b.heap.size := h.bel.size
theorem Fr.of_bel {B : Nat} {a b : World} (hB : B ≤ a.heap.size) (h : Below a.heap.size a b) : Fr B a b := ⟨h.mono hB, fun k o hk _ _ => (h.block k (Array.getElem?_eq_some_iff.1 hk).1).trans hk⟩
theorem Fr.of_big {B B' : Nat} {a b : World} (hB : B' ≤ B) (h : Fr B a b) : Fr B' a b := ⟨h.bel.mono hB, h.oth⟩
theorem Fr.grown {B : Nat} {w w' : World} {v : Value} {L : List UInt8} (ho : Ou w B v L) (hB : B ≤ w.heap.size) (hg : w.grownBy w' v.ownBlock) : Fr B w w' :=
  ⟨(Below.refl B w).grown hg hB (fun k hk => (ho.lt k hk).1), fun k o hk _ hne => (hg.block k (Array.getElem?_eq_some_iff.1 hk).1 (fun e => by
    obtain ⟨cur, hc⟩ := own_ty ho e.symm
    rw [hk] at hc
    injection hc with hc
    exact hne _ _ hc)).trans hk⟩
/-- What is no row of bytes stays. -/
theorem Fr.obj {B k : Nat} {w w' : World} {o : Obj} (h : Fr B w w') (hk : w.heap[k]? = some o) (ho : ∀ c fz, o ≠ .cells c 5 fz) : w'.heap[k]? = some o := h.oth k o hk (by simp) ho
theorem Fr.own {B : Nat} {α : Type} {y : Lay α} {e : TypeId} {w w' : World} {base : Nat} {v : Value} {L : List α} (h : Fr B w w') (ho : Own y e w base v L) (he : e ≠ 5) : Own y e w' base v L := by
  refine ⟨ho.1, ?_⟩
  rcases ho.2 with h1 | ⟨g, cap, cur, hv, h0, hh, h1⟩
  · exact .inl h1
  · exact .inr ⟨g, cap, cur, hv, h0, h.obj hh (fun c fz e1 => by injection e1 with _ e2 _; exact he e2), h1⟩
theorem append_u (w : World) {ops : Array Oper} {rest : List Oper} {o : Oper} {a : Act} {Q : Exit → Act → World → Prop} (hgd : o.guard = none) (s x : Operand)
    (ho : o.op = .call { callee := .builtin .append, args := #[s, x], argTypes := #[41, 41] }) (B : Nat) (v : Value) (L : List UInt8) (hs : a.eval s = v) (hown : Ou w B v L)
    (k m c : Nat) (cs : Array Value) (M : List UInt8) (hx : a.eval x = .slice (some ⟨k, 0, none⟩) m c) (hk : w.heap[k]? = some (.cells cs 5 (0, 0))) (hM : cs.toList = layU.fl M) (hm : M.length = m)
    (hb : L.length + m ≤ 140737488355328) (hB : B ≤ w.heap.size)
    (h : ∀ v' w', Ou w' B v' (L ++ M) → Fr B w w' → wpList Tryd.prog ops Q rest (a.put o.dst v') w') : wpList Tryd.prog ops Q (o :: rest) a w := by
  obtain ⟨i0, hi0, hz0, hz1, hz2⟩ := info_parts u8Info
  have hr : TRow layU w (some ⟨k, 0, none⟩) m M := by
    refine ⟨hm, .inr ⟨k, 0, rfl, fun i y hy t u hu => ?_⟩⟩
    have ht : t < 1 := by have := (List.getElem?_eq_some_iff.1 hu).1; simpa [layU] using this
    rw [Nat.zero_add]
    refine cell_at hk ?_
    rw [← Array.getElem?_toList, hM, layU.fl_get hy ht]
    exact hu
  refine append_lay layU w 41 5 i0 _ 1 Tryd.underlying41 hi0 hz0 hz1 hz2 rfl hgd s x ho B v L hs hown (some ⟨k, 0, none⟩) m c M hx hr (fun e => by cases e) (by unfold maxLen; omega) (by omega) hB ?_
  intro v' w' o2 g2 _
  exact h v' w' o2 (Fr.grown hown hB g2)
theorem append_s (w : World) {ops : Array Oper} {rest : List Oper} {o : Oper} {a : Act} {Q : Exit → Act → World → Prop} (hgd : o.guard = none) (s x : Operand)
    (ho : o.op = .call { callee := .builtin .append, args := #[s, x], argTypes := #[41, 9] }) (B : Nat) (v : Value) (L : List UInt8) (hs : a.eval s = v) (hown : Ou w B v L)
    (z : ByteArray) (hx : a.eval x = .string z) (hb : L.length + z.size ≤ 140737488355328) (hB : B ≤ w.heap.size)
    (h : ∀ v' w', Ou w' B v' (L ++ z.data.toList) → Fr B w w' → wpList Tryd.prog ops Q rest (a.put o.dst v') w') : wpList Tryd.prog ops Q (o :: rest) a w := by
  obtain ⟨i0, hi0, hz0, hz1, hz2⟩ := info_parts u8Info
  refine Lib.wpList_append_own_string w hgd s x 41 9 ho B 5 i0 Tryd.underlying41 Tryd.underlying9 hi0 hz0 hz1 hz2 v L.length _ hs (ou_row hown) z hx (by unfold maxLen; omega) hb hB ?_
  intro v' w' o2 g2 _
  refine h v' w' (ou_of o2 (by rw [List.length_append]; congr 1) ?_) (Fr.grown hown hB g2)
  rw [flS, flU, bc_app]
theorem ou_fr {B : Nat} {w : World} {o : Obj} {v : Value} {L : List UInt8} (h : Ou w B v L) : Ou (w.alloc o) B v L := h.below (below_alloc1 _ _)
theorem rc_enc (r : Int) : Lib.runeCells r = Lib.byteCells (Lib.encodeRune r) := (Lib.byteCells_encodeRune r).symm
theorem ar_any (B : Nat) (v : Value) (L : List UInt8) (r : Int) (w : World) (h0 : -2147483648 ≤ r) (h1 : r ≤ 2147483647) (hown : Ou w B v L) (hb : L.length + 4 ≤ 140737488355328) (hB : B ≤ w.heap.size) :
    Calls Tryd.prog 48 #[v, .int .i32 r] w fun e w' => ∃ v', e = .returned v' ∧ Ou w' B v' (L ++ Lib.encodeRune r) ∧ Fr B w w' := by
  refine (Tryd.utf8_AppendRune_plain B v L.length _ r h0 h1 w (ou_row hown) hb hB).mono ?_
  rintro e w' ⟨v', rfl, ho, o, hg⟩
  refine ⟨v', rfl, ou_of ho ?_ ?_, ((Fr.refl B w).alloc hB o).trans (Fr.grown (ou_fr hown) (by rw [World.size_alloc]; omega) hg)⟩
  · rw [List.length_append, Lib.runeCells_length]
  · rw [rc_enc, bc_app]
set_option maxRecDepth 8000 in
theorem btw_any (s : ByteArray) (i lo hi : Nat) (w : World) (hi1 : (i : Int) ≤ 9223372036854775806) (hs : (s.size : Int) ≤ 9223372036854775806) (hlo : lo < 256) (hhi : hi < 256) :
    Calls Tryd.prog 49 #[.string s, .int .i64 (i : Int), .int .u8 (lo : Int), .int .u8 (hi : Int)] w fun e w' => e = .returned (.bool (btw s i lo hi)) ∧ w' = w := by
  unfold btw
  by_cases h : i < s.size
  · have hI : (i : Int) < s.size := by omega
    have hi0 : (0 : Int) ≤ i := by omega
    go_enter Tryd.func49, Tryd.ntmps49
    go_wp2
    all_goals
      rename_i hl
      go_ret
      exact ⟨by rw [bA_get h]; simp [h, hl], rfl⟩
  · have hI : ¬ (i : Int) < s.size := by omega
    go_enter Tryd.func49, Tryd.ntmps49
    go_wp2
    go_ret
    exact ⟨by simp, rfl⟩
/-- 'append(l, m...)' of bytes in a region that draws. -/
theorem step_u {ops : Array Oper} {o : Oper} {a : Act} {w : World} {K : Act → World → Prop} {Q : Exit → Act → World → Prop} {E : Prop}
    (hg : o.guard = none) (s x : Operand) (hop : o.op = Op.call { callee := Callee.builtin Builtin.append, args := #[s, x], argTypes := #[41, 41] })
    (B : Nat) (v : Value) (L : List UInt8) (hs : a.eval s = v) (hown : Ou w B v L)
    (k m c : Nat) (cs : Array Value) (M : List UInt8) (hx : a.eval x = .slice (some ⟨k, 0, none⟩) m c) (hk : w.heap[k]? = some (.cells cs 5 (0, 0))) (hM : cs.toList = layU.fl M) (hm : M.length = m)
    (hb : L.length + m ≤ 140737488355328) (hB : B ≤ w.heap.size)
    (h : ∀ v' w', Ou w' B v' (L ++ M) → Fr B w w' → K (a.put o.dst v') w') :
    if Region.wanted o (yielded ops a.tmps) = true then Oper.wp Tryd.prog o a w K Q else E := by
  have hw : Region.wanted o (yielded ops a.tmps) = true := by simp [Region.wanted, hg]
  rw [if_pos hw]
  obtain ⟨i0, hi, hz0, hz1, hz2⟩ := info_parts u8Info
  have hr : TRow layU w (some ⟨k, 0, none⟩) m M := by
    refine ⟨hm, .inr ⟨k, 0, rfl, fun i y hy t u hu => ?_⟩⟩
    have ht : t < 1 := by have := (List.getElem?_eq_some_iff.1 hu).1; simpa [layU] using this
    rw [Nat.zero_add]
    refine cell_at hk ?_
    rw [← Array.getElem?_toList, hM, layU.fl_get hy ht]
    exact hu
  obtain ⟨v', w', hrun, h2, h3, _, h5⟩ := run_append_own_at (P := Tryd.prog) w B 41 o.type 5 i0 _ 1 1 Tryd.underlying41 hi hz0 hz1 hz2 rfl (by decide) v L.length _ hown ⟨k, 0, none⟩ m c (layU.fl M) (by rw [layU.fl_len, hr.len]; rfl) hr.news (layU.fl_cell M) (by unfold maxLen; omega) (by omega) hB
  have h2' : Ou w' B v' (L ++ M) := by
    show w'.ownsRow B 5 layU.z v' (L ++ M).length (layU.fl (L ++ M))
    rw [List.length_append, hr.len, layU.fl_app]
    exact h2
  unfold Oper.wp execOp
  simp only [hop, resolve, invoke, builtin, Sem.run_bind, Sem.run_pure, Result.andThen_ok, List.map_toArray, List.map_cons, List.map_nil, hs, hx, hrun]
  exact h v' w' h2' (Fr.grown hown hB h3)
theorem dgt_at : ∀ n : Fin 16, (⟨#[48, 49, 50, 51, 52, 53, 54, 55, 56, 57, 97, 98, 99, 100, 101, 102]⟩ : ByteArray)[n.val]'(n.isLt) = dgt n.val := by decide
theorem dgt_get {n : Nat} (h : n < 16) : (⟨#[48, 49, 50, 51, 52, 53, 54, 55, 56, 57, 97, 98, 99, 100, 101, 102]⟩ : ByteArray)[n]'h = dgt n := dgt_at ⟨n, h⟩
set_option maxRecDepth 8000 in
theorem hex_any (B : Nat) (v : Value) (L : List UInt8) (c : Nat) (w : World) (hc : c < 256) (hown : Ou w B v L) (hb : L.length + 4 ≤ 140737488355328) (hB : B ≤ w.heap.size) :
    Calls Tryd.prog 50 #[v, .int .u8 (c : Int)] w fun e w' => ∃ v', e = .returned v' ∧ Ou w' B v' (L ++ hxB c) ∧ Fr B w w' := by
  have HO := hide hown
  have HB := hide hb
  have HBd := hide hB
  obtain ⟨q, hq⟩ : ∃ q, q = c / 16 := ⟨_, rfl⟩
  obtain ⟨r, hr⟩ : ∃ r, r = c % 16 := ⟨_, rfl⟩
  have HX : Hid (hxB c = [92, 120, dgt q, dgt r]) := hide (by rw [hq, hr]; rfl)
  have hw1 : IntKind.u8.wrap ((c : Int) / 16) = (q : Int) := by rw [IntKind.wrap_u8]; omega
  have hw2 : ((c : Int).tmod 16) = (r : Int) := by rw [Int.tmod_eq_emod_of_nonneg (by omega)]; omega
  have hq1 : (q : Int) < 16 := by omega
  have hr1 : (r : Int) < 16 := by omega
  have hqN : q < 16 := by omega
  have hrN : r < 16 := by omega
  have HQ := hide (dgt_get hqN)
  have HR := hide (dgt_get hrN)
  clear hown hb hB hq hr hc
  go_enter Tryd.func50, Tryd.ntmps50
  go_wp2_with fail
  go_region_law (refine step_u rfl (.tmp 5) (.tmp 12) rfl B v L (by first | (simp [Act.eval]; done) | (simp [Act.eval, Act.put]; done) | rfl) ((ou_fr HO.out).below (Below.refl _ _).drew) w.heap.size 4 4 _ [92, 120, dgt q, dgt r] (by first | (simp [Act.eval]; done) | (simp [Act.eval, Act.put]; done) | rfl) (heap_new _ _) (by rw [HQ.out, HR.out]; rfl) rfl HB.out (by show B ≤ (World.alloc _ _).heap.size; rw [World.size_alloc]; exact Nat.le_succ_of_le HBd.out) ?_; intro v' w' o2 f2)
  all_goals
    go_wp2
    go_ret
    exact ⟨_, rfl, by rw [HX.out]; exact o2, (((Fr.refl B w).alloc HBd.out _).drew).trans f2⟩
end Go.Proofs.YtpnacioliccglaaDoor
/-
  Digits of a string's bytes; what is shown.
-/
namespace Go.Proofs.YtpnacioliccglaaDoor
open Go.RowKit Go.Maps Go.Shelf
set_option linter.unusedVariables false
/-- The bytes of a string as digits, the first j of them. -/
def dgF (s : ByteArray) : Nat → List UInt8
  | 0 => []
  | j + 1 => dgF s j ++ hxB (bA s j)
theorem dgF_len (s : ByteArray) : ∀ j, (dgF s j).length = 4 * j
  | 0 => rfl
  | j + 1 => by rw [dgF, List.length_append, dgF_len s j, hxB_len]; omega
theorem and15 : ∀ n : Fin 256, bits BinOp.and .u8 (n.val : Int) 15 = ((n.val % 16 : Nat) : Int) := by decide +kernel
set_option maxRecDepth 8000 in
theorem dig_any (B : Nat) (v : Value) (L : List UInt8) (s : ByteArray) (w : World) (hown : Ou w B v L) (hb : L.length + 4 * s.size ≤ 140737488355328) (hB : B ≤ w.heap.size) :
    Calls Tryd.prog 46 #[v, .string s] w fun e w' => ∃ v', e = .returned v' ∧ Ou w' B v' (L ++ dgF s s.size) ∧ Fr B w w' := by
  have HO := hide hown
  have HB := hide hb
  have HBd := hide hB
  obtain ⟨n, hn⟩ : ∃ n, s.size = n := ⟨_, rfl⟩
  have hnI : (n : Int) ≤ 9223372036854775806 := by omega
  rw [hn] at HB ⊢
  have HN := hide hn
  have hnI2 : (s.size : Int) = n := by omega
  clear hown hb hB
  go_enter Tryd.func46, Tryd.ntmps46
  go_wp2
  go_loopw [0, 8] (fun s0 s8 wr => ∃ j : Nat, j ≤ n ∧ s8 = .int .i64 j ∧ Hid (Ou wr B s0 (L ++ dgF s j) ∧ Fr B w wr)) (fun _ s _ => n - (intOf s).toNat)
  case atStart => exact ⟨0, Nat.zero_le _, rfl, hide ⟨by rw [dgF, List.append_nil]; exact HO.out, Fr.refl _ _⟩⟩
  case round =>
    obtain ⟨j, hj, rfl, HJ⟩ := hrel
    by_cases hlt : j < n
    · have hjI : (j : Int) < n := by omega
      have hj0 : (0 : Int) ≤ j := by omega
      have hjs : j < s.size := by omega
      have hlt8 := (s[j]).toNat_lt
      obtain ⟨q, hq⟩ : ∃ q, q = s[j].toNat / 16 := ⟨_, rfl⟩
      obtain ⟨r, hr⟩ : ∃ r, r = s[j].toNat % 16 := ⟨_, rfl⟩
      have hw1 : (s[j].toNat : Int) / 16 = (q : Int) := by omega
      have hw2 : bits BinOp.and .u8 (s[j].toNat : Int) 15 = (r : Int) := by rw [hr]; exact and15 ⟨s[j].toNat, hlt8⟩
      have hq0 : (0 : Int) ≤ q := by omega
      have hq1 : (q : Int) < 16 := by omega
      have hr0 : (0 : Int) ≤ r := by omega
      have hr1 : (r : Int) < 16 := by omega
      have hqN : q < 16 := by omega
      have hrN : r < 16 := by omega
      have HX : Hid (dgF s (j + 1) = dgF s j ++ [92, 120, dgt q, dgt r]) := hide (by rw [dgF, bA_get hjs, hq, hr]; rfl)
      have HQ := hide (dgt_get hqN)
      have HR := hide (dgt_get hrN)
      clear hq hr hlt8 hn
      go_wp2_with fail
      go_region_law (refine step_u rfl (.tmp 11) (.tmp 22) rfl B u0 (L ++ dgF s j) (by first | (simp [Act.eval]; done) | (simp [Act.eval, Act.put]; done) | rfl) ((ou_fr HJ.out.1).below (Below.refl _ _).drew) wr.heap.size 4 4 _ [92, 120, dgt q, dgt r] (by first | (simp [Act.eval]; done) | (simp [Act.eval, Act.put]; done) | rfl) (heap_new _ _) (by rw [HQ.out, HR.out]; rfl) rfl (by rw [List.length_append, dgF_len]; have := HB.out; omega) (by show B ≤ (World.alloc _ _).heap.size; rw [World.size_alloc]; exact Nat.le_succ_of_le (Nat.le_trans HBd.out HJ.out.2.size)) ?_; intro v' w' o2 f2)
      all_goals
        have HJ2 : Hid (Ou w' B v' (L ++ dgF s (j + 1)) ∧ Fr B w w') := hide ⟨by rw [HX.out, ← List.append_assoc]; exact o2, HJ.out.2.trans ((((Fr.refl B wr).alloc (Nat.le_trans HBd.out HJ.out.2.size) _).drew).trans f2)⟩
        clear o2 f2
        go_wp2
        exact ⟨⟨j + 1, by omega, by go_num, HJ2⟩, by simp [intOf]; omega⟩
    · have h9 : j = n := by omega
      subst h9
      have hjI : ¬ (j : Int) < j := by omega
      clear hn
      go_wp2
      go_ret
      exact ⟨_, rfl, HJ.out.1, HJ.out.2⟩
set_option maxRecDepth 8000 in
theorem shown_any (r : Nat) (w : World) (hr : r ≤ 1114111) : Calls Tryd.prog 47 #[.int .i32 (r : Int)] w fun e w' => e = .returned (.bool (decide ((32 ≤ r ∧ r ≤ 126) ∨ 160 ≤ r))) ∧ w' = w := by
  obtain ⟨D, hD⟩ : ∃ D, decide ((32 ≤ r ∧ r ≤ 126) ∨ 160 ≤ r) = D := ⟨_, rfl⟩
  rw [hD]
  have hk : (D = true ∧ ((32 ≤ r ∧ r ≤ 126) ∨ 160 ≤ r)) ∨ (D = false ∧ ¬ ((32 ≤ r ∧ r ≤ 126) ∨ 160 ≤ r)) := by
    rw [← hD]
    by_cases h : (32 ≤ r ∧ r ≤ 126) ∨ 160 ≤ r
    · exact .inl ⟨decide_eq_true h, h⟩
    · exact .inr ⟨decide_eq_false h, h⟩
  clear hD
  rcases hk with ⟨rfl, hk⟩ | ⟨rfl, hk⟩ <;> by_cases h1 : (32 : Int) ≤ r <;> by_cases h2 : (r : Int) ≤ 126 <;> by_cases h4 : (160 : Int) ≤ r
  all_goals
    first
      | (exfalso; omega)
      | (clear hk
         go_enter Tryd.func47, Tryd.ntmps47
         go_wp2
         go_ret
         exact ⟨rfl, rfl⟩)
/-- The bytes of FFFD stand there. -/
def badB (s : ByteArray) (i : Nat) : Bool := decide (i + 2 < s.size) && (decide (bA s i = 239) && (decide (bA s (i + 1) = 191) && decide (bA s (i + 2) = 189)))
theorem badB_iff {s : ByteArray} {i : Nat} : badB s i = true ↔ i + 2 < s.size ∧ bA s i = 239 ∧ bA s (i + 1) = 191 ∧ bA s (i + 2) = 189 := by simp [badB]
/-- From a place on. -/
def frm (s : ByteArray) (i : Nat) : ByteArray := s.extract i s.size
theorem frm_list (s : ByteArray) (i : Nat) : (frm s i).data.toList = s.data.toList.drop i := by
  unfold frm
  have h : (s.extract i s.size).data = s.data.extract i s.size := by simp
  rw [h, Array.toList_extract]
  have e : s.size = s.data.toList.length := (Array.length_toList).symm
  rw [List.extract_eq_take_drop, e]
  apply List.take_of_length_le
  rw [List.length_drop]
  exact Nat.le_refl _
theorem lst_at {s : ByteArray} {i : Nat} (h : i < s.size) : s.data.toList[i]? = some (s.get! i) := by
  rw [gB_get h]
  cases s with
  | mk d =>
    show d.toList[i]? = some d[i]
    rw [Array.getElem?_toList]
    exact Array.getElem?_eq_getElem h
theorem pre3 {s : ByteArray} {i : Nat} (h : i < s.size) : Lib.hasPrefix (frm s i).data.toList [239, 191, 189] = badB s i := by
  rw [frm_list]
  have u : ∀ (k : Nat) (b : UInt8), s.get! k = b ↔ bA s k = b.toNat := fun k b => by unfold bA; exact UInt8.toNat_inj.symm
  unfold Lib.hasPrefix
  rw [Bool.eq_iff_iff, badB_iff, List.isPrefixOf_iff_prefix]
  constructor
  · rintro ⟨t, ht⟩
    have hl : (s.data.toList.drop i).length = 3 + t.length := by rw [← ht]; simp; omega
    rw [List.length_drop] at hl
    have e : s.data.toList.length = s.size := Array.length_toList
    have g : ∀ k b, ([239, 191, 189] ++ t : List UInt8)[k]? = some b → k < 3 → s.get! (i + k) = b := fun k b hb hk => by
      rw [ht, List.getElem?_drop, lst_at (by omega)] at hb
      exact Option.some.inj hb
    exact ⟨by omega, (u i 239).1 (g 0 239 rfl (by omega)), (u (i + 1) 191).1 (g 1 191 rfl (by omega)), (u (i + 2) 189).1 (g 2 189 rfl (by omega))⟩
  · rintro ⟨h1, h2, h3, h4⟩
    have g0 := (u i 239).2 h2
    have g1 := (u (i + 1) 191).2 h3
    have g2 := (u (i + 2) 189).2 h4
    refine ⟨s.data.toList.drop (i + 3), ?_⟩
    have d : ∀ k, k < s.size → s.data.toList.drop k = s.get! k :: s.data.toList.drop (k + 1) := fun k hk => by
      have hl : k < s.data.toList.length := by rw [Array.length_toList]; exact hk
      have h5 := lst_at hk
      rw [List.getElem?_eq_getElem hl] at h5
      rw [List.drop_eq_getElem_cons hl, Option.some.inj h5]
    rw [d i (by omega), d (i + 1) (by omega), d (i + 2) (by omega), g0, g1, g2]
    rfl
theorem stray_any (r : Nat) (s : ByteArray) (i : Nat) (w : World) (hr : r ≤ 1114111) (hi : i < s.size) : Calls Tryd.prog 45 #[.int .i32 (r : Int), .string (frm s i)] w fun e w' => e = .returned (.bool (decide (r = 65533) && !badB s i)) ∧ w' = w := by
  have HP := hide (Tryd.strings_HasPrefix (frm s i) ⟨#[239, 191, 189]⟩ w)
  have e : Lib.hasPrefix (frm s i).data.toList (⟨#[239, 191, 189]⟩ : ByteArray).data.toList = badB s i := pre3 hi
  rw [e] at HP
  generalize badB s i = D at HP ⊢
  generalize frm s i = S at HP ⊢
  by_cases h : r = 65533
  · subst h
    clear e
    go_enter Tryd.func45, Tryd.ntmps45
    go_wp2_with fail
    refine HP.out.mono ?_
    rintro x w1 ⟨rfl, rfl⟩
    clear HP
    cases D
    all_goals
      go_wp2
      go_ret
      exact ⟨rfl, rfl⟩
  · have hI : ((r : Int) == 65533) = false := by rw [beq_eq_false_iff_ne]; omega
    have hb : decide (r = 65533) = false := decide_eq_false h
    rw [hb]
    clear e hb h
    go_enter Tryd.func45, Tryd.ntmps45
    go_wp2
    go_ret
    exact ⟨rfl, rfl⟩
end Go.Proofs.YtpnacioliccglaaDoor
