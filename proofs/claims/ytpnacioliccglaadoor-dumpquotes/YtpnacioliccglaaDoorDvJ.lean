/-
  strconv.unquote: texts in quotes.
-/
import Derived.Test.YtpnacioliccglaaDoorDvI
import Derived.Test.YtpnacioliccglaaDoorDvH
import Derived.Deep.DeepCutAuto
namespace Go.Proofs.YtpnacioliccglaaDoor
open Go.RowKit Go.Maps Go.Shelf
set_option linter.unusedVariables false
/-- What unquote answers. -/
structure UqP (z : ByteArray) (E : Value) (e : Ending) : Prop where
  gen : uqE E e ∨ uqO z e
  can : ∀ t : ByteArray, z.data.toList = wrd t → e = .returned (.tuple #[.string t, .string ⟨#[]⟩, .nilIface])
theorem ba_ext {a b : ByteArray} (h : a.data.toList = b.data.toList) : a = b := by
  cases a with | mk a => cases b with | mk b => simp at h; rw [h]
theorem run_neq_iface_nil {P : Program} {ti : TypeId} {ms : Array (String × TypeId)} (tp : TypeId) (v : Value) (hi : P.underlying ti = some (.interface ms)) (w : World) : (binOp .neq ti (.iface tp v) .nilIface).run P w = .ok (.bool true) w := by
  have h : ∀ d : Nat, (Op.equalIn (d + 1) ti (.iface tp v) .nilIface).run P w = .ok false w := fun d => by simp [Op.equalIn, run_underlying hi]
  simp only [binOp]
  simp [Op.equal, Op.maxDepth, h 9999]
theorem ext_app {z : ByteArray} {W : List UInt8} (h : z.data.toList = 34 :: W) : (z.extract 1 z.size).data.toList = W := by
  rw [ext_list, h]
  have e : z.size = (34 :: W).length := by rw [← h, Array.length_toList]; rfl
  rw [e, List.take_length]
  rfl
/-- Without a backslash a word is what it says. -/
theorem fast_can {z t : ByteArray} {o n n1 : Nat} (hn : n = o + 2) (hn1 : n1 + 1 = n) (hz : z.data.toList = wrd t) (h : (z.extract 1 z.size).data.toList[o]? = some 34 ∧ ∀ k, k < o → (z.extract 1 z.size).data.toList[k]? ≠ some 34) (h3 : Lib.indexByte (z.extract 0 n).data.toList 92 = -1) : (z.extract 0 n).extract 1 n1 = t ∧ z.extract n z.size = ⟨#[]⟩ := by
  obtain ⟨W, hW, hq⟩ := wq_wrd t
  rw [hW] at hz
  rw [ext_app hz] at h
  have hzs : z.size = W.length + 2 := by
    have e : z.size = z.data.toList.length := (Array.length_toList).symm
    rw [e, hz]; simp
  have h4 : ∀ k, k ≤ o → (W ++ [34])[k]? ≠ some 92 := fun k hk => by
    have h5 := Lib.indexByte_none h3 (k + 1)
    rw [ext_list, List.drop_zero, List.getElem?_take, if_pos (by omega), hz] at h5
    simpa using h5
  obtain ⟨e1, e2⟩ := noback hq o h.1 h.2 h4
  refine ⟨ba_ext ?_, ba_ext ?_⟩
  · have e4 : n = W.length + 2 := by omega
    rw [ext_list, ext_list, hz, e1, e4]
    have e3 : n1 = W.length + 1 := by omega
    rw [e3, List.drop_zero]
    have e5 : (34 :: (W ++ [34])).take (W.length + 2) = 34 :: (W ++ [34]) := List.take_of_length_le (by simp)
    rw [e5]
    simp
  · rw [ext_list, hz, List.drop_of_length_le]
    rw [List.length_take]; simp; omega
theorem wrd_q {z t : ByteArray} (hz : z.data.toList = wrd t) : bA z 0 = 34 := by
  obtain ⟨W, hW, _⟩ := wq_wrd t
  exact (list_at (z := z) (i := 0) (b := 34) (by rw [hz, hW]; rfl)).2
theorem lft_start {z t : ByteArray} (hz : z.data.toList = wrd t) : Lft t.data.toList (z.extract 1 z.size) := by
  obtain ⟨W, hW, hq⟩ := wq_wrd t
  exact ⟨W, hq, ext_app (by rw [hz, hW])⟩
theorem lft_end {t : List UInt8} {y : ByteArray} (h : Lft t y) (h0 : bA y 0 = 34) : t = [] ∧ y.data.toList = [34] := by
  obtain ⟨W, hW, hy⟩ := h
  cases hW with
  | nil => exact ⟨rfl, hy⟩
  | one b t w h1 h2 h3 h4 hw =>
    have e0 := (list_at (z := y) (i := 0) (b := b) (by rw [hy]; rfl)).2
    omega
  | esc b t w h1 hw =>
    have e0 : bA y 0 = 92 := (list_at (z := y) (i := 0) (b := 92) (by rw [hy]; rfl)).2
    omega
  | ltr b c t w h1 hw =>
    have e0 : bA y 0 = 92 := (list_at (z := y) (i := 0) (b := 92) (by rw [hy]; rfl)).2
    omega
  | hex b t w hw =>
    have e0 : bA y 0 = 92 := (list_at (z := y) (i := 0) (b := 92) (by rw [hy]; rfl)).2
    omega
  | seq s i t w h2 hin hn hw =>
    have hl := bsA_len s i (wl s i)
    have e0 := (list_at (z := y) (i := 0) (b := s.get! (i + 0)) (by rw [hy, List.append_assoc, List.getElem?_append_left (by rw [hl]; omega), bsA_get (by omega)])).2
    have := seq_hi h2 (k := 0) (by omega)
    have e1 : bA s (i + 0) = (s.get! (i + 0)).toNat := rfl
    omega
theorem lft_pos {t : List UInt8} {y : ByteArray} (h : Lft t y) : 0 < y.size := by
  obtain ⟨W, _, hy⟩ := h
  have e : y.size = y.data.toList.length := (Array.length_toList).symm
  rw [e, hy]; simp
theorem ucE_ne {E : Value} {r : Int} {mb : Bool} {tl : ByteArray} {T : TypeId} {v : Value} (hE : E = .iface T v) (h : Ending.returned (ucE E) = .returned (.tuple #[.int .i32 r, .bool mb, .string tl, .nilIface])) : False := by
  rw [hE] at h
  unfold ucE at h
  simp at h
theorem apd_len (r : Int) (mb : Bool) : (apd r mb).length ≤ 4 := by
  unfold apd
  split
  · simp
  · have h1 := Lib.runeCells_le r
    rw [Lib.runeCells_length] at h1
    exact h1.2
/-- How long the string is. -/
def sizeV : Value → Nat
  | .string y => y.size
  | _ => 0
/-- The loop's state. -/
structure Lq (z : ByteArray) (W0 wr : World) (B : Nat) (bv : Value) (y : ByteArray) (xs : List UInt8) : Prop where
  own : Ou wr B bv xs
  bel : Below W0.heap.size W0 wr
  siz : W0.heap.size ≤ B ∧ B ≤ wr.heap.size
  len : xs.length + 4 * y.size ≤ 4 * z.size
  ys : y.size ≤ z.size
  can : ∀ t : ByteArray, z.data.toList = wrd t → ∃ t', xs ++ t' = t.data.toList ∧ Lft t' y
section
variable {z y tl : ByteArray} {W0 wr w5 w6 : World} {B : Nat} {bv bv' : Value} {xs : List UInt8} {E : Value} {r : Int} {mb : Bool} {e : Ending}
theorem Lq.on (h : Lq z W0 wr B bv y xs) (hb : Below wr.heap.size wr w5) : Lq z W0 w5 B bv y xs :=
  ⟨h.own.below hb, Below.on h.bel hb, ⟨h.siz.1, Nat.le_trans h.siz.2 hb.size⟩, h.len, h.ys, h.can⟩
theorem Lq.step (h : Lq z W0 wr B bv y xs) (h34 : ∀ t : ByteArray, z.data.toList = wrd t → bA y 0 ≠ 34) (hu : (∀ t : ByteArray, z.data.toList = wrd t → UcP y 34 E (.returned (.tuple #[.int .i32 r, .bool mb, .string tl, .nilIface])))) (htl : tl.size < y.size) (ho : Ou w6 B bv' (xs ++ apd r mb)) (hf : Fr B wr w6) : Lq z W0 w6 B bv' tl (xs ++ apd r mb) := by
  have ha := apd_len r mb
  refine ⟨ho, h.bel.trans (hf.bel.mono h.siz.1), ⟨h.siz.1, Nat.le_trans h.siz.2 hf.size⟩, by have := h.len; rw [List.length_append]; omega, by have := h.ys; omega, fun t ht => ?_⟩
  obtain ⟨t', h1, h2⟩ := h.can t ht
  rcases lft_step h2 (hu t ht) with ⟨e1, e2⟩ | ⟨r', mb', tl', t2, e1, e2, e3, e4, e5⟩
  · have h3 : bA y 0 = 34 := (list_at (z := y) (i := 0) (b := 34) (by rw [e2]; rfl)).2
    exact absurd h3 (h34 t ht)
  · simp at e1
    obtain ⟨rfl, rfl, rfl⟩ := e1
    exact ⟨t2, by rw [List.append_assoc, ← e4]; exact h1, e5⟩
theorem Lq.errc (h : Lq z W0 wr B bv y xs) {T : TypeId} {v : Value} (h34 : ∀ t : ByteArray, z.data.toList = wrd t → bA y 0 ≠ 34) (hu : ∀ t : ByteArray, z.data.toList = wrd t → UcP y 34 (.iface T v) e) (hn : e = .returned (ucE (.iface T v)) ∨ bA y 0 = 10) : ∀ t : ByteArray, z.data.toList ≠ wrd t := fun t ht => by
  obtain ⟨t', h1, h2⟩ := h.can t ht
  rcases lft_step h2 (hu t ht) with ⟨e1, e2⟩ | ⟨r', mb', tl', t2, e1, e2, e3, e4, e5⟩
  · have h3 : bA y 0 = 34 := (list_at (z := y) (i := 0) (b := 34) (by rw [e2]; rfl)).2
    exact h34 t ht h3
  · rcases hn with hn | hn
    · exact ucE_ne rfl (hn.symm.trans e1)
    · exact e3 hn
theorem Lq.fin (h : Lq z W0 wr B bv y xs) (h0 : bA y 0 = 34) : ∀ t : ByteArray, z.data.toList = wrd t → (⟨xs.toArray⟩ : ByteArray) = t ∧ y.extract 1 y.size = ⟨#[]⟩ := fun t ht => by
  obtain ⟨t', h1, h2⟩ := h.can t ht
  obtain ⟨e1, e2⟩ := lft_end h2 h0
  refine ⟨ba_ext ?_, ba_ext ?_⟩
  · rw [← h1, e1, List.append_nil]
  · rw [ext_list, e2]
    have : y.size = 1 := by have e : y.size = y.data.toList.length := (Array.length_toList).symm; rw [e, e2]; rfl
    rw [this]; rfl
theorem Lq.size (h : Lq z W0 wr B bv y xs) : (⟨xs.toArray⟩ : ByteArray).size ≤ 4 * z.size := by
  show xs.toArray.size ≤ _
  rw [List.size_toArray]; have := h.len; omega
end
theorem u8V (r : Int) : (#[Value.int .u8 (r % 256)] : Array Value).toList = layU.fl [UInt8.ofNat (r % 256).toNat] := by
  show [Value.int .u8 (r % 256)] = [Value.int .u8 ((UInt8.ofNat (r % 256).toNat).toNat : Int)]
  rw [nat_u8 (by omega)]
  congr 2
  omega
theorem u8W (r : Int) : (#[Value.int .u8 (IntKind.u8.wrap r)] : Array Value).toList = layU.fl [UInt8.ofNat (r % 256).toNat] := by
  show [Value.int .u8 (IntKind.u8.wrap r)] = [Value.int .u8 ((UInt8.ofNat (r % 256).toNat).toNat : Int)]
  rw [nat_u8 (by omega), IntKind.wrap_u8]
  congr 2
  omega
end Go.Proofs.YtpnacioliccglaaDoor
