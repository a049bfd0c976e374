/-
  HeapOwn: lists of items and of numbers, and a heap beside them.
-/
import Derived.Test.YtdmlehbamdcjcabOwB
namespace Go.Proofs.Ytdmlehbamdcjcab
open Go.RowKit
structure Two (w : World) (base : Nat) (F : List (Value × List It)) (G : List (Value × List Int)) : Prop where
  fi : Fam layI 28 w base F
  fn : Fam layN 3 w base G
theorem Two.below {w w' : World} {base : Nat} {F : List (Value × List It)} {G : List (Value × List Int)} (h : Two w base F G) (hb : Below w.heap.size w w') : Two w' base F G := ⟨h.fi.below hb, h.fn.below hb⟩
theorem Two.consI {w w' : World} {base : Nat} {F : List (Value × List It)} {G : List (Value × List Int)} {v : Value} {C : List It} (h : Two w base F G) (hb : Below w.heap.size w w') (ho : Own layI 28 w' w.heap.size v C) (hB : base ≤ w.heap.size) : Two w' base ((v, C) :: F) G := ⟨h.fi.cons hb ho hB, h.fn.below hb⟩
theorem Two.consN {w w' : World} {base : Nat} {F : List (Value × List It)} {G : List (Value × List Int)} {v : Value} {C : List Int} (h : Two w base F G) (hb : Below w.heap.size w w') (ho : Own layN 3 w' w.heap.size v C) (hB : base ≤ w.heap.size) : Two w' base F ((v, C) :: G) := ⟨h.fi.below hb, h.fn.cons hb ho hB⟩
theorem Two.pushI {w w' : World} {base : Nat} {F : List (Value × List It)} {G : List (Value × List Int)} {v v' : Value} {C C' : List It} (k : Nat) (h : Two w base F G) (hk : F[k]? = some (v, C)) (ho : Own layI 28 w' base v' C') (hg : w.grownBy w' v.ownBlock) (hv : v'.ownBlock = v.ownBlock ∨ v'.ownBlock = some w.heap.size) : Two w' base (F.set k (v', C')) G :=
  ⟨h.fi.push k hk ho hg hv, h.fn.past (h.fi.own k _ hk) (But.of_grown hg (fun _ e => e)) (by decide)⟩
theorem Two.pushN {w w' : World} {base : Nat} {F : List (Value × List It)} {G : List (Value × List Int)} {v v' : Value} {C C' : List Int} (k : Nat) (h : Two w base F G) (hk : G[k]? = some (v, C)) (ho : Own layN 3 w' base v' C') (hg : w.grownBy w' v.ownBlock) (hv : v'.ownBlock = v.ownBlock ∨ v'.ownBlock = some w.heap.size) : Two w' base F (G.set k (v', C')) :=
  ⟨h.fi.past (h.fn.own k _ hk) (But.of_grown hg (fun _ e => e)) (by decide), h.fn.push k hk ho hg hv⟩
theorem Two.putI {w : World} {base g m c j : Nat} {F : List (Value × List It)} {G : List (Value × List Int)} {C : List It} (k : Nat) (h : Two w base F G) (hk : F[k]? = some (.slice (some ⟨g, 0, none⟩) m c, C)) (hn : C.length = m) (hj : j < m) (a : It) : Two (setC w g (j * 2) [.int .i64 a.k, .int .i64 a.t]) base (F.set k (.slice (some ⟨g, 0, none⟩) m c, C.set j a)) G :=
  ⟨h.fi.put k hk hn hj a, h.fn.past (h.fi.own k _ hk) ((But.refl _ w).setC _ (fun _ => rfl)) (by decide)⟩
theorem Two.putN {w : World} {base g m c j : Nat} {F : List (Value × List It)} {G : List (Value × List Int)} {C : List Int} (k : Nat) (h : Two w base F G) (hk : G[k]? = some (.slice (some ⟨g, 0, none⟩) m c, C)) (hn : C.length = m) (hj : j < m) (a : Int) : Two (setC w g j [.int .i64 a]) base F (G.set k (.slice (some ⟨g, 0, none⟩) m c, C.set j a)) := by
  have h1 := h.fn.put k hk hn hj a
  simp only [layN, Nat.mul_one] at h1
  exact ⟨h.fi.past (h.fn.own k _ hk) ((But.refl _ w).setC _ (fun _ => rfl)) (by decide), h1⟩
theorem Two.heap {w w' : World} {base bh p : Nat} {v : Value} {m : Int} {S : List (It × Int)} {F : List (Value × List It)} {G : List (Value × List Int)} (h : Two w base F G) (hs : HsI w bh p v m S) (hb : But (fun k => k = p ∨ v.ownBlock = some k) w w') : Two w' base F G := by
  refine ⟨h.fi.but hb (fun i q hq g hg e => ?_), h.fn.but hb (fun i q hq g hg e => ?_)⟩
  · obtain ⟨cc, hcc⟩ := own_at (h.fi.own i q hq) _ hg
    rcases e with e | e
    · subst e; exact ty_neN hcc hs.blk (by decide) rfl
    · obtain ⟨_, _, cur, hc⟩ := hs.own g e; exact ty_neN hcc hc (by decide) rfl
  · obtain ⟨cc, hcc⟩ := own_at (h.fn.own i q hq) _ hg
    rcases e with e | e
    · subst e; exact ty_neN hcc hs.blk (by decide) rfl
    · obtain ⟨_, _, cur, hc⟩ := hs.own g e; exact ty_neN hcc hc (by decide) rfl
theorem HsI.atI {w w' : World} {base bh p : Nat} {v u : Value} {m : Int} {S : List (It × Int)} {C : List It} (h : HsI w bh p v m S) (ho : Own layI 28 w base u C) (hb : But (fun k => u.ownBlock = some k) w w') : HsI w' bh p v m S := by
  refine h.but hb (fun e => ?_) (fun g hg e => ?_)
  · obtain ⟨cc, hcc⟩ := own_at ho _ e; exact ty_neN hcc h.blk (by decide) rfl
  · obtain ⟨cc, hcc⟩ := own_at ho _ e; obtain ⟨_, _, cur, hc⟩ := h.own g hg; exact ty_neN hcc hc (by decide) rfl
theorem HsI.atN {w w' : World} {base bh p : Nat} {v u : Value} {m : Int} {S : List (It × Int)} {C : List Int} (h : HsI w bh p v m S) (ho : Own layN 3 w base u C) (hb : But (fun k => u.ownBlock = some k) w w') : HsI w' bh p v m S := by
  refine h.but hb (fun e => ?_) (fun g hg e => ?_)
  · obtain ⟨cc, hcc⟩ := own_at ho _ e; exact ty_neN hcc h.blk (by decide) rfl
  · obtain ⟨cc, hcc⟩ := own_at ho _ e; obtain ⟨_, _, cur, hc⟩ := h.own g hg; exact ty_neN hcc hc (by decide) rfl
theorem Two.ownI {w : World} {base : Nat} {v : Value} {F : List (Value × List It)} {G : List (Value × List Int)} {C : List It} (k : Nat) (h : Two w base F G) (hk : F[k]? = some (v, C)) : Own layI 28 w base v C := h.fi.own k _ hk
theorem Two.ownN {w : World} {base : Nat} {v : Value} {F : List (Value × List It)} {G : List (Value × List Int)} {C : List Int} (k : Nat) (h : Two w base F G) (hk : G[k]? = some (v, C)) : Own layN 3 w base v C := h.fn.own k _ hk
theorem Two.rowI {w : World} {base m c : Nat} {a : Option Addr} {F : List (Value × List It)} {G : List (Value × List Int)} {C : List It} (k : Nat) (h : Two w base F G) (hk : F[k]? = some (.slice a m c, C)) (hn : C.length = m) : TRow layI w a m C := by
  have h1 : Own layI 28 w base (.slice a m c) C := h.fi.own k _ hk
  exact h1.row hn
theorem Two.rowN {w : World} {base m c : Nat} {a : Option Addr} {F : List (Value × List It)} {G : List (Value × List Int)} {C : List Int} (k : Nat) (h : Two w base F G) (hk : G[k]? = some (.slice a m c, C)) (hn : C.length = m) : TRow layN w a m C := by
  have h1 : Own layN 3 w base (.slice a m c) C := h.fn.own k _ hk
  exact h1.row hn
theorem get_app {α : Type} {F : List α} {x : α} {k : Nat} (h : F.length = k) : (F ++ [x])[k]? = some x := by
  subst h
  simp
theorem set_app {α : Type} {F : List α} {x y : α} {k : Nat} (h : F.length = k) : (F ++ [x]).set k y = F ++ [y] := by
  subst h
  rw [List.set_append_right _ _ (Nat.le_refl _), Nat.sub_self]
  rfl
theorem all_alike {α : Type} {L : List α} {x : α} {m : Nat} (hl : L.length = m) (h : ∀ j, j < m → L[j]? = some x) : L = List.replicate m x := by
  apply List.ext_getElem?
  intro j
  rw [List.getElem?_replicate]
  by_cases hj : j < m
  · rw [if_pos hj, h j hj]
  · rw [if_neg hj, List.getElem?_eq_none (by omega)]
theorem srt_alike (m : Nat) (x : It) : sItems (List.replicate m x) = List.replicate m x := by
  have hs : Srt bfI (List.replicate m x) := by
    refine List.pairwise_replicate.2 (.inr ?_)
    simp [bfI]
  have h := isort_eq (fun a : It => a.k) (L := List.replicate m x) (s := 0) (.refl _) (tg_srt hs 0)
  have h2 : isort (fst bfI) (tg (List.replicate m x) 0) = tg (List.replicate m x) 0 := h.symm
  show (isort (fst bfI) (tg (List.replicate m x) 0)).map Prod.fst = List.replicate m x
  rw [h2, tg_fst]
theorem inOrder_alike (m : Nat) (x : Int) : inOrder (List.replicate m x) = List.replicate m x := by
  have h : (inOrder (List.replicate m x)).Perm (List.replicate m x) := List.mergeSort_perm _ _
  exact List.perm_replicate.1 h
/-- 'append(l, m...)' in a region that draws. -/
theorem step_layW {α : Type} (y : Lay α) (w : World) {oo : Oper} {aa : Act} {Kc : Act → World → Prop} {Q : Exit → Act → World → Prop} (t e : TypeId) (i0 : TypeInfo) (z : Value) (bytes : Nat)
    (hu : Try.prog.underlying t = some (.slice e)) (hi : Try.prog.info? e = some i0) (hz0 : i0.zero = some z) (hz1 : i0.size = y.z) (hz2 : i0.bytes = bytes) (hzs : z.cells.size = y.z)
    (s x : Operand) (ho : oo.op = .call { callee := .builtin .append, args := #[s, x], argTypes := #[t, t] }) (base : Nat)
    (v : Value) (L : List α) (hs : aa.eval s = v) (hown : Own y e w base v L)
    (ad : Addr) (m c : Nat) (M : List α) (hx : aa.eval x = .slice (some ad) m c) (hr : TRow y w (some ad) m M)
    (hm : L.length + m ≤ maxLen) (hb : (L.length + m) * bytes ≤ 140737488355328) (hbase : base ≤ w.heap.size)
    (h : ∀ v' w', Own y e w' base v' (L ++ M) → w.grownBy w' v.ownBlock → (v'.ownBlock = v.ownBlock ∨ v'.ownBlock = some w.heap.size) → Kc (aa.put oo.dst v') w') : oo.wp Try.prog aa w Kc Q := by
  obtain ⟨v', w', hr', h2, h3, _, h5⟩ := run_append_own_at (P := Try.prog) w base t oo.type e i0 z y.z bytes hu hi hz0 hz1 hz2 hzs y.pos v L.length (y.fl L) hown ad m c (y.fl M) (by rw [y.fl_len, hr.len]) hr.news (y.fl_cell M) hm hb hbase
  unfold Oper.wp execOp
  simp only [ho, resolve, invoke, builtin, Sem.run_bind, Sem.run_pure, Result.andThen_ok, List.map_toArray, List.map_cons, List.map_nil, hs, hx, hr']
  refine h v' w' ?_ h3 h5
  unfold Own
  rw [List.length_append, hr.len, y.fl_app]
  exact h2
theorem step_layW2 {α : Type} (y : Lay α) (w : World) {ops : Array Oper} {oo : Oper} {aa : Act} {Kc : Act → World → Prop} {Q : Exit → Act → World → Prop} {E0 : Prop} (t e : TypeId) (i0 : TypeInfo) (z : Value) (bytes : Nat)
    (hu : Try.prog.underlying t = some (.slice e)) (hi : Try.prog.info? e = some i0) (hz0 : i0.zero = some z) (hz1 : i0.size = y.z) (hz2 : i0.bytes = bytes) (hzs : z.cells.size = y.z)
    (hw : Region.wanted oo (yielded ops aa.tmps) = true)
    (s x : Operand) (ho : oo.op = .call { callee := .builtin .append, args := #[s, x], argTypes := #[t, t] }) (base : Nat)
    (v : Value) (L : List α) (hs : aa.eval s = v) (hown : Own y e w base v L)
    (ad : Addr) (m c : Nat) (M : List α) (hx : aa.eval x = .slice (some ad) m c) (hr : TRow y w (some ad) m M)
    (hm : L.length + m ≤ maxLen) (hb : (L.length + m) * bytes ≤ 140737488355328) (hbase : base ≤ w.heap.size)
    (h : ∀ v' w', Own y e w' base v' (L ++ M) → w.grownBy w' v.ownBlock → (v'.ownBlock = v.ownBlock ∨ v'.ownBlock = some w.heap.size) → Kc (aa.put oo.dst v') w') :
    if Region.wanted oo (yielded ops aa.tmps) = true then Oper.wp Try.prog oo aa w Kc Q else E0 := by
  rw [if_pos hw]
  exact step_layW y w t e i0 z bytes hu hi hz0 hz1 hz2 hzs s x ho base v L hs hown ad m c M hx hr hm hb hbase h
/-- Items that are put behind, each told from the others. -/
def xI (m : Nat) (a b : Int) : List It := (List.range m).map fun q : Nat => (⟨a * (q : Int), b * (q : Int)⟩ : It)
def xN (m : Nat) (a : Int) : List Int := (List.range m).map fun q : Nat => a * (q : Int)
theorem xI_len (m : Nat) (a b : Int) : (xI m a b).length = m := by simp [xI]
theorem xN_len (m : Nat) (a : Int) : (xN m a).length = m := by simp [xN]
theorem xI_snoc (m : Nat) (a b : Int) : xI (m + 1) a b = xI m a b ++ [⟨a * m, b * m⟩] := by simp [xI, List.range_succ]
theorem xN_snoc (m : Nat) (a : Int) : xN (m + 1) a = xN m a ++ [a * m] := by simp [xN, List.range_succ]
theorem xI_get {m q : Nat} (a b : Int) (C : List It) (n : Nat) (hC : C.length = n) (h : q < m) : (C ++ xI m a b)[n + q]? = some ⟨a * q, b * q⟩ := by
  rw [List.getElem?_append_right (by omega), hC, Nat.add_sub_cancel_left]
  simp [xI, h]
theorem xN_get {m q : Nat} (a : Int) (C : List Int) (n : Nat) (hC : C.length = n) (h : q < m) : (C ++ xN m a)[n + q]? = some (a * q) := by
  rw [List.getElem?_append_right (by omega), hC, Nat.add_sub_cancel_left]
  simp [xN, h]
theorem Fam.swap {α : Type} {y : Lay α} {e : TypeId} {w : World} {base : Nat} {p q : Value × List α} {F : List (Value × List α)} (h : Fam y e w base (p :: q :: F)) : Fam y e w base (q :: p :: F) := by
  have hget : ∀ (i : Nat) (x : Value × List α), (q :: p :: F)[i]? = some x → (p :: q :: F)[if i = 0 then 1 else if i = 1 then 0 else i]? = some x := by
    intro i x hx
    rcases i with _ | _ | i
    · simpa using hx
    · simpa using hx
    · simpa using hx
  refine ⟨fun i x hx => h.own _ x (hget i x hx), fun i j x z hx hz hij => h.ap _ _ x z (hget i x hx) (hget j z hz) ?_⟩
  by_cases h1 : i = 0 <;> by_cases h2 : j = 0 <;> by_cases h3 : i = 1 <;> by_cases h4 : j = 1 <;> simp [h1, h2, h3, h4] <;> omega
theorem row_threeI {w : World} {B : Nat} {e : TypeId} {fr : Nat × Nat} {a b c : It} (h : w.heap[B]? = some (.cells #[.int .i64 a.k, .int .i64 a.t, .int .i64 b.k, .int .i64 b.t, .int .i64 c.k, .int .i64 c.t] e fr)) : TRow layI w (some ⟨B, 0, none⟩) 3 [a, b, c] := by
  refine ⟨rfl, .inr ⟨B, 0, rfl, fun i u hi t v hv => ?_⟩⟩
  have ht : t < 2 := by simpa [layI] using get_lt hv
  rcases i with _ | _ | _ | i
  · simp at hi; subst hi
    rcases t with _ | _ | t
    · simp [layI] at hv; subst hv; exact cell_at h rfl
    · simp [layI] at hv; subst hv; exact cell_at h rfl
    · omega
  · simp at hi; subst hi
    rcases t with _ | _ | t
    · simp [layI] at hv; subst hv; exact cell_at h rfl
    · simp [layI] at hv; subst hv; exact cell_at h rfl
    · omega
  · simp at hi; subst hi
    rcases t with _ | _ | t
    · simp [layI] at hv; subst hv; exact cell_at h rfl
    · simp [layI] at hv; subst hv; exact cell_at h rfl
    · omega
  · simp at hi
theorem row_threeN {w : World} {B : Nat} {e : TypeId} {fr : Nat × Nat} {a b c : Int} (h : w.heap[B]? = some (.cells #[.int .i64 a, .int .i64 b, .int .i64 c] e fr)) : TRow layN w (some ⟨B, 0, none⟩) 3 [a, b, c] := by
  refine ⟨rfl, .inr ⟨B, 0, rfl, fun i u hi t v hv => ?_⟩⟩
  have ht : t < 1 := by simpa [layN] using get_lt hv
  have ht0 : t = 0 := by omega
  subst ht0
  rcases i with _ | _ | _ | i
  · simp at hi; subst hi; simp [layN] at hv; subst hv; exact cell_at h rfl
  · simp at hi; subst hi; simp [layN] at hv; subst hv; exact cell_at h rfl
  · simp at hi; subst hi; simp [layN] at hv; subst hv; exact cell_at h rfl
  · simp at hi
end Go.Proofs.Ytdmlehbamdcjcab
