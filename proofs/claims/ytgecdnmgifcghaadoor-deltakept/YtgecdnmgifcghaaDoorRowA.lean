/-
  A row of records that may stand one behind the other, made of any.
-/
import Derived.Test.YtgecdnmgifcghaaDoorIdx
namespace Go.Proofs.YtgecdnmgifcghaaDoor
open Go.RowKit
theorem wi_any (v n : Int) (w : World) (hn : 0 < n) (hn' : n ≤ 1000000000) :
    Calls Tryd.prog 10 #[.int .i64 v, .int .i64 n] w fun e w' => (∃ r : Int, e = .returned (.int .i64 r) ∧ 0 ≤ r ∧ r < n) ∧ w' = w := by
  have hn0 : ¬ n = 0 := by omega
  have ht1 : v.tmod n < n := Int.tmod_lt_of_pos v hn
  have ht2 : -n < v.tmod n := Int.lt_tmod_of_pos v hn
  go_enter Tryd.func10, Tryd.ntmps10
  go_wp2
  · go_ret
    exact ⟨⟨_, rfl, by omega, by omega⟩, rfl⟩
  · go_ret
    exact ⟨⟨_, rfl, ‹_›, ht1⟩, rfl⟩
def rcs (r : Rc) : List Value := [.int .i64 r.stamp, .int .i64 r.kind, .int .u64 r.obj, .int .u64 r.arg, .int .i64 r.stack]
def flat (L : List Rc) : List Value := L.flatMap rcs
theorem flat_len (L : List Rc) : (flat L).length = L.length * 5 := by
  induction L with
  | nil => rfl
  | cons r l ih => unfold flat at *; rw [List.flatMap_cons, List.length_append, ih]; simp [rcs]; omega
theorem flat_snoc (L : List Rc) (r : Rc) : flat (L ++ [r]) = flat L ++ rcs r := by unfold flat; simp
theorem flat_get {L : List Rc} {i t : Nat} {r : Rc} (h : L[i]? = some r) (ht : t < 5) : (flat L)[i * 5 + t]? = (rcs r)[t]? := by
  induction L generalizing i with
  | nil => simp at h
  | cons x l ih =>
    unfold flat at *
    rw [List.flatMap_cons]
    cases i with
    | zero => simp at h; subst h; rw [List.getElem?_append_left (by simp [rcs]; omega)]; simp
    | succ i =>
      simp at h
      rw [List.getElem?_append_right (by simp [rcs]; omega)]
      have := ih h
      rw [← this]; congr 1; simp [rcs]; omega
/-- A list of records that came in. -/
structure RRow (w : World) (a : Option Addr) (n : Nat) (rs : List Rc) : Prop where
  len : rs.length = n
  cells : n = 0 ∨ ∃ b off, a = some ⟨b, off, none⟩ ∧ ∀ i r, rs[i]? = some r → w.cell? ⟨b, off + i * 5, none⟩ = some (.int .i64 r.stamp) ∧ w.cell? ⟨b, off + i * 5 + 1, none⟩ = some (.int .i64 r.kind) ∧ w.cell? ⟨b, off + i * 5 + 2, none⟩ = some (.int .u64 r.obj) ∧ w.cell? ⟨b, off + i * 5 + 3, none⟩ = some (.int .u64 r.arg) ∧ w.cell? ⟨b, off + i * 5 + 4, none⟩ = some (.int .i64 r.stack)
theorem RRow.below {w w' : World} {a : Option Addr} {n : Nat} {rs : List Rc} (h : RRow w a n rs) (hb : Below w.heap.size w w') : RRow w' a n rs := by
  refine ⟨h.len, h.cells.imp id ?_⟩
  rintro ⟨b, off, ha, hc⟩
  refine ⟨b, off, ha, fun i r hr => ?_⟩
  obtain ⟨c0, c1, c2, c3, c4⟩ := hc i r hr
  have hlt : b < w.heap.size := World.block_lt_of_cell? w _ c0
  exact ⟨(hb.cell (p := ⟨b, off + i * 5, none⟩) hlt).trans c0, (hb.cell (p := ⟨b, off + i * 5 + 1, none⟩) hlt).trans c1, (hb.cell (p := ⟨b, off + i * 5 + 2, none⟩) hlt).trans c2, (hb.cell (p := ⟨b, off + i * 5 + 3, none⟩) hlt).trans c3, (hb.cell (p := ⟨b, off + i * 5 + 4, none⟩) hlt).trans c4⟩
/-- Records that may stand one behind the other, from the stamp a on; b: the next one's least stamp. -/
def Ups : Int → List Rc → Int → Prop
  | a, [], b => a = b
  | a, r :: l, b => a ≤ r.stamp ∧ r.stamp < 1048576 ∧ 1 ≤ r.kind ∧ r.kind ≤ 22 ∧ 0 ≤ r.stack ∧ r.stack ≤ 262144 ∧ r.ok ∧ Ups (r.stamp + 1) l b
theorem Ups.snoc : ∀ {l : List Rc} {a b : Int} {r : Rc}, Ups a l b → b ≤ r.stamp → r.stamp < 1048576 → 1 ≤ r.kind → r.kind ≤ 22 → 0 ≤ r.stack → r.stack ≤ 262144 → r.ok → Ups a (l ++ [r]) (r.stamp + 1)
  | [], a, b, r, h, h1, h2, h3, h4, h5, h6, h7 => by
    have e : a = b := h
    subst e
    exact ⟨h1, h2, h3, h4, h5, h6, h7, rfl⟩
  | x :: l, a, b, r, h, h1, h2, h3, h4, h5, h6, h7 => by
    obtain ⟨g1, g2, g3, g4, g5, g6, g7, g8⟩ := h
    exact ⟨g1, g2, g3, g4, g5, g6, g7, Ups.snoc g8 h1 h2 h3 h4 h5 h6 h7⟩
theorem Ups.len : ∀ {l : List Rc} {a b : Int}, Ups a l b → a + (l.length : Int) ≤ b
  | [], a, b, h => by have e : a = b := h; simp [e]
  | r :: l, a, b, h => by
    obtain ⟨h1, _, _, _, _, _, _, h3⟩ := h
    have := Ups.len h3
    rw [List.length_cons]; omega
theorem Ups.top : ∀ {l : List Rc} {a b : Int}, Ups a l b → a ≤ 1048576 → b ≤ 1048576
  | [], a, b, h, h0 => by have e : a = b := h; omega
  | r :: l, a, b, h, h0 => by
    obtain ⟨_, h2, _, _, _, _, _, h3⟩ := h
    exact Ups.top h3 (by omega)
theorem Tryd.infoR : (Tryd.prog.info? 32).map (fun i => (i.zero, i.size, i.bytes)) = some (some (.agg #[.int .i64 0, .int .i64 0, .int .u64 0, .int .u64 0, .int .i64 0]), 5, 40) := by kernel_rfl
/-- 'append(l, r)' of one record in a new block, l the call's own; where it lies then. -/
theorem rec_lies (w : World) {ops : Array Oper} {rest : List Oper} {oo : Oper} {aa : Act} {Q : Exit → Act → World → Prop} (hgd : oo.guard = none) (s x : Operand)
    (ho : oo.op = .call { callee := .builtin .append, args := #[s, x], argTypes := #[22, 22] }) (base : Nat)
    (v : Value) (n : Nat) (L : List Rc) (hs : aa.eval s = v) (hown : w.ownsRow base 32 5 v n (flat L))
    (X : Nat) (r : Rc) (hx : aa.eval x = .slice (some ⟨X, 0, none⟩) 1 1) (hX : w.heap[X]? = some (.cells #[.int .i64 r.stamp, .int .i64 r.kind, .int .u64 r.obj, .int .u64 r.arg, .int .i64 r.stack] 32 (0, 0)))
    (hb : n ≤ 1048576) (hbase : base ≤ w.heap.size)
    (h : ∀ g cap w', w'.ownsRow base 32 5 (.slice (some ⟨g, 0, none⟩) (n + 1) cap) (n + 1) (flat (L ++ [r])) → w.grownBy w' v.ownBlock → (v.ownBlock = some g ∨ g = w.heap.size) → wpList Tryd.prog ops Q rest (aa.put oo.dst (.slice (some ⟨g, 0, none⟩) (n + 1) cap)) w') : wpList Tryd.prog ops Q (oo :: rest) aa w := by
  obtain ⟨i0, hi, hz0, hz1, hz2⟩ := info_parts Tryd.infoR
  refine wpList_append_lies w hgd s x 22 ho base 32 i0 _ 5 40 Tryd.underlying22 hi hz0 hz1 hz2 rfl (by decide) v n _ hs hown ⟨X, 0, none⟩ 1 1 (rcs r) hx rfl (World.news_of_block hX) (by intro u hu; simp [rcs] at hu; rcases hu with rfl | rfl | rfl | rfl | rfl <;> rfl) (by decide) (by unfold maxLen; omega) (by omega) hbase _ rfl ?_
  intro g cap w' h1 h2 h3 _
  exact h g cap w' (by rw [flat_snoc]; exact h1) h2 h3
theorem own_formR {w : World} {base n : Nat} {v : Value} {xs : List Value} {e : TypeId} {z : Nat} (h : w.ownsRow base e z v n xs) : ∃ a c, v = .slice a n c := by
  rcases h.2 with ⟨rfl, rfl⟩ | ⟨g, cap, cur, rfl, _⟩
  · exact ⟨none, 0, rfl⟩
  · exact ⟨_, _, rfl⟩
set_option maxHeartbeats 1600000 in
set_option maxRecDepth 8000 in
/-- row: some records that may stand one behind the other. -/
theorem row_any (a : Option Addr) (n c : Nat) (rs : List Rc) (w : World) (hr : RRow w a n rs) (hok : ∀ r ∈ rs, r.ok) (hn : n ≤ 9223372036854775000) :
    Calls Tryd.prog 8 #[.slice a n c] w fun e w' => ∃ v L B, e = .returned v ∧ Ups 0 L B ∧ w'.ownsRow w.heap.size 32 5 v L.length (flat L) ∧ Below w.heap.size w w' := by
  go_enter Tryd.func8, Tryd.ntmps8
  go_wp2_with fail
  go_loopw [3, 4, 5] (fun sl sx si wr => ∃ (k : Nat) (L : List Rc) (nx : Int), k ≤ n ∧ si = .int .i64 k ∧ sx = .int .i64 nx ∧ Ups 0 L nx ∧ wr.ownsRow w.heap.size 32 5 sl L.length (flat L) ∧ Below w.heap.size w wr)
    (fun _ _ si _ => n - (intOf si).toNat)
  case atStart => exact ⟨0, [], 0, Nat.zero_le _, rfl, rfl, rfl, World.ownsRow_nil _ _ _ _, Below.refl _ _⟩
  case round =>
    obtain ⟨k, L, nx, hk, rfl, rfl, hU, hown, hB⟩ := hrel
    obtain ⟨al, cl, rfl⟩ := own_formR hown
    have hlen := hU.len
    have htop := hU.top (by omega)
    have HU : Hid _ := hide hU
    by_cases hlt : k < n
    · have hltI : (k : Int) < (n : Int) := by omega
      have hrl := hr.len
      obtain ⟨b, off, rfl, hc⟩ := hr.cells.resolve_left (by omega)
      have hrk : rs[k]? = some rs[k] := by simp [hrl, hlt]
      have hrok := hok rs[k] (List.getElem_mem _)
      obtain ⟨⟨rt, rk, ro, ra, rq⟩, hrr⟩ : ∃ r, r = rs[k] := ⟨_, rfl⟩
      rw [← hrr] at hrk hrok
      obtain ⟨c0, c1, c2, c3, c4⟩ := hc k _ hrk
      have hbl : b < w.heap.size := World.block_lt_of_cell? w _ c0
      dsimp only at c0 c1 c2 c3 c4
      have d0 := (hB.cell (p := ⟨b, off + k * 5, none⟩) hbl).trans c0
      have d1 := (hB.cell (p := ⟨b, off + k * 5 + 1, none⟩) hbl).trans c1
      have d2 := (hB.cell (p := ⟨b, off + k * 5 + 2, none⟩) hbl).trans c2
      have d3 := (hB.cell (p := ⟨b, off + k * 5 + 3, none⟩) hbl).trans c3
      have d4 := (hB.cell (p := ⟨b, off + k * 5 + 4, none⟩) hbl).trans c4
      have HOK : Hid _ := hide hrok
      have HOW : Hid _ := hide hown
      clear hc hrk hrr c0 c1 c2 c3 c4 hU hrok hown hr hok
      go_wp2_with fail
      refine (wi_any _ _ _ (by omega) (by omega)).mono ?_
      rintro e w1 ⟨⟨x1, rfl, hx10, hx11⟩, rfl⟩
      go_wp2_with fail
      refine (wi_any _ _ _ (by omega) (by omega)).mono ?_
      rintro e w1 ⟨⟨x2, rfl, hx20, hx21⟩, rfl⟩
      go_wp2_with fail
      refine (wi_any _ _ _ (by omega) (by omega)).mono ?_
      rintro e w1 ⟨⟨x3, rfl, hx30, hx31⟩, rfl⟩
      by_cases hst : 1048576 ≤ nx + x3
      · go_wp2_with fail
        go_ret
        exact ⟨_, L, nx, rfl, HU.out, own_below HOW.out (below_alloc1 _ _), hB.alloc hB.size _⟩
      · obtain ⟨w7, hw7⟩ : ∃ w7, w7 = (wr.alloc (.cells #[.int .i64 (nx + x3), .int .i64 (1 + x1), .int .u64 ro, .int .u64 ra, .int .i64 x2] 32)).alloc (.cells #[.int .i64 (nx + x3), .int .i64 (1 + x1), .int .u64 ro, .int .u64 ra, .int .i64 x2] 32) := ⟨_, rfl⟩
        have hb7 : Below wr.heap.size wr w7 := by rw [hw7]; exact below_alloc2 _ _ _
        have hX : w7.heap[wr.heap.size + 1]? = some (.cells #[.int .i64 (nx + x3), .int .i64 (1 + x1), .int .u64 ro, .int .u64 ra, .int .i64 x2] 32 (0, 0)) := by
          rw [hw7, show wr.heap.size + 1 = (wr.alloc (.cells #[.int .i64 (nx + x3), .int .i64 (1 + x1), .int .u64 ro, .int .u64 ra, .int .i64 x2] 32)).heap.size from by simp]
          exact heap_new _ _
        have O7 := own_below HOW.out hb7
        have B7 : Below w.heap.size w w7 := hB.trans (hb7.mono hB.size)
        have Hw7 : Hid _ := hide hw7
        clear hw7
        go_wp2_with (at_builtin; rw [← Hw7.out]; refine rec_lies w7 rfl (.tmp 39) (.tmp 41) rfl w.heap.size _ L.length L rfl O7 (wr.heap.size + 1) ⟨nx + x3, 1 + x1, ro, ra, x2⟩ rfl hX (by omega) B7.size ?_; intro g8 cap8 w8 hown8 hg8 hl8)
        refine ⟨⟨k + 1, L ++ [⟨nx + x3, 1 + x1, ro, ra, x2⟩], nx + x3 + 1, by omega, by go_num, rfl, Ups.snoc (r := ⟨nx + x3, 1 + x1, ro, ra, x2⟩) HU.out (by dsimp only; omega) (by dsimp only; omega) (by dsimp only; omega) (by dsimp only; omega) (by dsimp only; omega) (by dsimp only; omega) ⟨HOK.out.o0, HOK.out.o1, HOK.out.a0, HOK.out.a1⟩, by rw [List.length_append]; exact hown8, ?_⟩, by simp [intOf]; omega⟩
        exact B7.grown hg8 B7.size (fun j hj => (O7.lt j hj).1)
    · go_wp2_with fail
      go_ret
      exact ⟨_, L, nx, rfl, HU.out, hown, hB⟩
end Go.Proofs.YtgecdnmgifcghaaDoor
