/-
  Rows of strings.
-/
import Derived.Test.YtkjmmcpjdjjmlaaDoorHpW
import Derived.Shelf.Strconv.Clone
namespace Go.Proofs.YtkjmmcpjdjjmlaaDoor
open Go.RowKit Go.Maps Go.Shelf
def cloneLays_ren : Go.Shelf.Ren := ⟨fun | 316 => 28 | n => n, fun | 37 => 58 | 127 => 59 | n => n, fun | n => n⟩
theorem cloneLays : Go.Proofs.LaysM.n316 Tryd.prog cloneLays_ren := {
  mixed := by kernel_rfl
  f316 := Tryd.func28.trans (congrArg some (by kernel_rfl))
  t5 := Tryd.underlying5
  a5 := Tryd.isAgg5
  z5 := Tryd.sizeOf5
  v5 := Tryd.zeroValue5
  t9 := Tryd.underlying9
  a9 := Tryd.isAgg9
  z9 := Tryd.sizeOf9
  v9 := Tryd.zeroValue9
  t3 := Tryd.underlying3
  a3 := Tryd.isAgg3
  z3 := Tryd.sizeOf3
  v3 := Tryd.zeroValue3
  t4 := Tryd.underlying4
  a4 := Tryd.isAgg4
  z4 := Tryd.sizeOf4
  v4 := Tryd.zeroValue4
  t37 := Tryd.underlying58
  a37 := Tryd.isAgg58
  z37 := Tryd.sizeOf58
  v37 := Tryd.zeroValue58
  t0 := Tryd.underlying0
  a0 := Tryd.isAgg0
  z0 := Tryd.sizeOf0
  v0 := Tryd.zeroValue0
  t127 := Tryd.underlying59
  a127 := Tryd.isAgg59
  z127 := Tryd.sizeOf59
  v127 := Tryd.zeroValue59
  i0 := by kernel_rfl
  i3 := by kernel_rfl
  i4 := by kernel_rfl
  i5 := by kernel_rfl
  i9 := by kernel_rfl
  i37 := by kernel_rfl
  i127 := by kernel_rfl }
theorem clone_any (s : ByteArray) (w : World) (hs : s.size ≤ 65536) :
    Calls Tryd.prog 25 #[.string s] w fun e w' => e = .returned (.string s) ∧ Below w.heap.size w w' := by
  go_enter Tryd.func25, Tryd.ntmps25
  go_wp2_with fail
  refine (Any.stringslite_Clone cloneLays s w (by omega)).mono ?_
  rintro e w' ⟨rfl, hb⟩
  go_wp2
  go_ret
  exact ⟨rfl, hb⟩
/-- The list at 'a' of 'n' strings holds L. -/
structure SRow (w : World) (a : Option Addr) (n : Nat) (L : List ByteArray) : Prop where
  len : L.length = n
  cells : n = 0 ∨ ∃ b off, a = some ⟨b, off, none⟩ ∧ ∀ i, i < n → w.cell? ⟨b, off + i, none⟩ = some (.string (L.getD i ByteArray.empty))
theorem SRow.of_own {w : World} {base n c : Nat} {a : Option Addr} {L : List ByteArray} (h : w.ownsRow base 9 1 (.slice a n c) n (L.map Value.string)) : SRow w a n L := by
  have hl : L.length = n := by have := h.1; simpa using this
  rcases h.2 with ⟨hv, h0⟩ | ⟨g, cap, cur, hv, hb, hg, hn, hm, hs, ht⟩
  · exact ⟨hl, .inl h0⟩
  · cases hv
    refine ⟨hl, .inr ⟨g, 0, rfl, fun i hi => ?_⟩⟩
    have := h.cells (g := g) rfl i (.string (L.getD i ByteArray.empty)) (by simp [hl, hi])
    have ha : (⟨g, 0, none⟩ : Addr).add i = ⟨g, 0 + i, none⟩ := by unfold Addr.add; split <;> simp_all
    rwa [ha] at this
theorem SRow.at {w : World} {a : Option Addr} {n : Nat} {L : List ByteArray} (h : SRow w a n L) {i : Nat} (hi : i < n) : ∃ b off, a = some ⟨b, off, none⟩ ∧ w.cell? ⟨b, off + i, none⟩ = some (.string (L.getD i ByteArray.empty)) := by
  rcases h.cells with h0 | ⟨b, off, ha, hc⟩
  · omega
  · exact ⟨b, off, ha, hc i hi⟩
theorem str_eq {a b : ByteArray} (h : (a.toList == b.toList) = true) : a = b := by
  have e := eq_of_beq h
  rw [ByteArray.toList_eq, ByteArray.toList_eq] at e
  cases a; cases b; simp only [ByteArray.mk.injEq]; exact Array.toList_inj.1 e
theorem str_ne {a b : ByteArray} (h : (a.toList == b.toList) = false) : a ≠ b := by
  intro e; subst e; simp at h
theorem getD_get {L : List ByteArray} {k : Nat} (h : k < L.length) : L[k]? = some (L.getD k ByteArray.empty) := by
  rw [List.getD_eq_getElem?_getD]; simp [h]
theorem SRow.but {T : Nat → Prop} {w w' : World} {a : Option Addr} {n : Nat} {L : List ByteArray} (h : SRow w a n L) (hb : But T w w') (hT : ∀ b off, a = some ⟨b, off, none⟩ → n ≠ 0 → ¬ T b) : SRow w' a n L := by
  refine ⟨h.len, ?_⟩
  by_cases hn : n = 0
  · exact .inl hn
  · rcases h.cells with h0 | ⟨b, off, ha, hc⟩
    · exact absurd h0 hn
    · refine .inr ⟨b, off, ha, fun i hi => ?_⟩
      rw [← hc i hi]
      have hlt : b < w.heap.size := by
        have := hc i hi
        unfold World.cell? at this
        cases hh : w.heap[b]? with
        | none => simp [hh] at this
        | some o => exact (Array.getElem?_eq_some_iff.1 hh).1
      have := hb.block b hlt (hT b off ha hn)
      unfold World.cell?
      rw [this]
theorem SRow.drewN {w : World} {a : Option Addr} {n : Nat} {L : List ByteArray} (h : SRow w a n L) (j : Nat) : SRow (w.drewN j) a n L :=
  h.but (T := fun _ => False) (But.of_below (below_drewN (Below.refl _ _) j)) (fun _ _ _ _ e => e)
theorem cell_drewN {w : World} {a : Addr} {x : Value} (h : w.cell? a = some x) (j : Nat) : (w.drewN j).cell? a = some x := by
  have := (below_drewN (Below.refl (a.block + 1) w) j).cell (p := a) (by omega)
  rw [this]; exact h
theorem SRow.bel {w w' : World} {a : Option Addr} {n : Nat} {L : List ByteArray} (h : SRow w a n L) (hb : Below w.heap.size w w') : SRow w' a n L := h.but (T := fun _ => False) (But.of_below hb) (fun _ _ _ _ e => e)
theorem below_new (w : World) (ob : Obj) : Below w.heap.size w (w.alloc ob) := (Below.refl _ w).alloc (Nat.le_refl _) _
theorem cell_bel {w w' : World} {p : Addr} {v : Value} (hc : w.cell? p = some v) (hb : Below w.heap.size w w') : w'.cell? p = some v :=
  (hb.cell (World.block_lt_of_cell? w _ hc)).trans hc
def layB : Lay ByteArray := ⟨fun s => [.string s], 1, by decide, fun _ => rfl, by intro a u hu; simp at hu; rcases hu with rfl; rfl⟩
theorem layB_fl (L : List ByteArray) : layB.fl L = L.map Value.string := by
  induction L with
  | nil => rfl
  | cons x l ih => rw [layB.fl_cons, ih]; rfl
theorem Tryd.infoB : (Tryd.prog.info? 9).map (fun i => (i.zero, i.size, i.bytes)) = some (some (.string ⟨#[]⟩), 1, 16) := by kernel_rfl
theorem SRow.tr {w : World} {a : Option Addr} {n : Nat} {L : List ByteArray} (h : SRow w a n L) : TRow layB w a n L := by
  refine ⟨h.len, h.cells.imp id ?_⟩
  rintro ⟨b, off, ha, hc⟩
  refine ⟨b, off, ha, fun i x hx t u hu => ?_⟩
  have hi := get_lt hx
  have ht := get_lt hu
  have e0 : t = 0 := by have : t < 1 := ht; omega
  subst e0
  have := hc i (by rw [← h.len]; exact hi)
  rw [getD_get hi] at hx
  cases hx
  have e1 : u = .string (L.getD i ByteArray.empty) := by simpa [layB] using hu.symm
  rw [e1]
  have e2 : off + i * layB.z + 0 = off + i := by show off + i * 1 + 0 = _; omega
  rw [e2]; exact this
theorem SRow.own {w : World} {base n c : Nat} {a : Option Addr} {L : List ByteArray} (h : Own layB 9 w base (.slice a n c) L) (hn : L.length = n) : SRow w a n L := by
  refine SRow.of_own (base := base) (c := c) ?_
  unfold Own at h
  rw [layB_fl, hn] at h
  exact h
set_option maxRecDepth 8000 in
theorem cloneS (w : World) (a : Option Addr) (n c : Nat) (L : List ByteArray) (hr : TRow layB w a n L) (h0 : a = none → n = 0 ∧ c = 0) (hl : (n : Int) ≤ 65536) :
    Calls Tryd.prog 26 #[.slice a n c] w fun r w' => ∃ v', r = .returned v' ∧ Own layB 9 w' w.heap.size v' L ∧ Below w.heap.size w w' := by
  obtain ⟨i0, hi, hz0, hz1, hz2⟩ := info_parts Tryd.infoB
  have qT : ∀ (w : World) (a : Option Addr) (n c n' c' : Nat), (binOp .eql 30 (.slice a n c) (.slice none n' c')).run Tryd.prog w = .ok (.bool a.isNone) w := fun w a n c n' c' => by
    simp only [binOp]
    simp [Op.equal, Op.maxDepth, Lib.run_equalIn_slice_nil w 9999 30 _ a n c n' c' Tryd.underlying30]
  cases a with
  | none =>
    have hE : L = [] := List.eq_nil_of_length_eq_zero (by rw [hr.len]; exact (h0 rfl).1)
    clear hr h0
    subst hE
    go_enter Tryd.func26, Tryd.ntmps26
    go_wp2
    go_ret
    exact ⟨_, rfl, Own.nil _ _ _ _, Below.refl _ _⟩
  | some ad =>
    have HR : Hid _ := hide hr
    clear hr h0
    go_enter Tryd.func26, Tryd.ntmps26
    go_wp2_with (at_builtin; refine append_lay layB _ 30 9 i0 _ 16 Tryd.underlying30 hi hz0 hz1 hz2 rfl rfl (.tmp 5) (.tmp 6) rfl w.heap.size (.slice (some ⟨w.heap.size, 0, none⟩) 0 0) [] rfl (Own.lit0 layB 9 w (Nat.le_refl _)) _ _ _ L rfl (HR.out.below (below_alloc1 _ _)) (fun e => by cases e) ?m1 ?m2 (by simp) ?_)
    case m1 => unfold maxLen; simp; omega
    case m2 => simp; omega
    intro v' w2 hown2 hgr2 _
    go_wp2
    go_ret
    refine ⟨v', rfl, hown2, (below_alloc1 w _).grown hgr2 (by simp) (fun k hk => ?_)⟩
    have hk9 : (Value.slice (some ⟨w.heap.size, 0, none⟩) 0 0).ownBlock = some k := hk
    cases hk9
    exact Nat.le_refl _
end Go.Proofs.YtkjmmcpjdjjmlaaDoor
