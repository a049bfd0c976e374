/-
  strconv.unquote: what is none, and raw texts.
-/
import Derived.Test.YtpnacioliccglaaDoorDvD
import Derived.Test.YtpnacioliccglaaDoorDuF
namespace Go.Proofs.YtpnacioliccglaaDoor
open Go.RowKit Go.Maps Go.Shelf
set_option linter.unusedVariables false
theorem u8M {b : Nat} (h : b < 256) : (#[Value.int .u8 (b : Int)] : Array Value).toList = layU.fl [UInt8.ofNat b] := by
  show [Value.int .u8 (b : Int)] = [Value.int .u8 ((UInt8.ofNat b).toNat : Int)]
  rw [nat_u8 h]
theorem idx_at {L : List UInt8} {c : UInt8} {o : Nat} (h : Lib.indexByte L c = (o : Int)) : o < L.length ∧ L[o]? = some c ∧ ∀ k, k < o → L[k]? ≠ some c := by
  have h1 := Lib.indexByte_some h
  exact ⟨(List.getElem?_eq_some_iff.1 h1.1).1, h1⟩
theorem idx_cases (L : List UInt8) (c : UInt8) : Lib.indexByte L c = -1 ∨ ∃ o : Nat, Lib.indexByte L c = (o : Int) := by
  have h := Lib.indexByte_ge L c
  by_cases e : Lib.indexByte L c = -1
  · exact .inl e
  · exact .inr ⟨(Lib.indexByte L c).toNat, by omega⟩
theorem ext_list (z : ByteArray) (a b : Nat) : (z.extract a b).data.toList = (z.data.toList.take b).drop a := by
  have h : (z.extract a b).data = z.data.extract a b := by simp
  rw [h, Array.toList_extract]
  simp [List.drop_take]
theorem ext_len (z : ByteArray) (a b : Nat) (h : b ≤ z.size) : (z.extract a b).data.toList.length = b - a := by
  rw [ext_list, List.length_drop, List.length_take, Array.length_toList]
  have e : z.data.size = z.size := rfl
  omega
theorem list_at {z : ByteArray} {i : Nat} {b : UInt8} (h : z.data.toList[i]? = some b) : i < z.size ∧ bA z i = b.toNat := by
  have hl := (List.getElem?_eq_some_iff.1 h).1
  have hz : i < z.size := by rw [Array.length_toList] at hl; exact hl
  refine ⟨hz, ?_⟩
  rw [bA_get hz]
  have := Lib.data_getElem? z i hz
  rw [h] at this
  injection this with this
  rw [this]
theorem at_list {z : ByteArray} {i : Nat} (h : i < z.size) : z.data.toList[i]? = some (z.get! i) := by
  rw [Lib.data_getElem? z i h, gB_get h]
theorem results3 {fn : Func} {t u v : Tmp} (h : fn.results = #[.tmp t, .tmp u, .tmp v]) (tmps : Array Value) (P : Program) (w : World) :
    (results fn tmps).run P w = .ok (.tuple #[tmps.getD t undef, tmps.getD u undef, tmps.getD v undef]) w := by
  simp [results, h]
/-- What unquote answers: a fault. -/
def uqE (E : Value) (e : Ending) : Prop := ∃ rm, e = .returned (.tuple #[.string ⟨#[]⟩, .string rm, E])
/-- A text that is no longer than four times what came in. -/
def uqO (z : ByteArray) (e : Ending) : Prop := ∃ out rm, e = .returned (.tuple #[.string out, .string rm, .nilIface]) ∧ out.size ≤ 4 * z.size
set_option maxRecDepth 8000 in
theorem uq_short (z : ByteArray) (E : Value) (w : World) (hE : w.cell? ⟨3, 0, none⟩ = some E) (h1 : z.size < 2) :
    Calls Tryd.prog 69 #[.string z, .bool true] w fun e w' => uqE E e ∧ Below w.heap.size w w' := by
  have hI : ((z.size : Nat) : Int) < 2 := by omega
  go_enter Tryd.func69, Tryd.ntmps69
  go_wp2
  first
    | (refine bodyPost_ret (results3 rfl _ _ _) rfl ?_; exact ⟨⟨_, rfl⟩, Below.refl _ _⟩)
    | (go_quiet (fail); go_wp2; refine bodyPost_ret (results3 rfl _ _ _) rfl ?_; exact ⟨⟨_, rfl⟩, below_drewN (Below.refl _ _) _⟩)
set_option maxRecDepth 8000 in
set_option maxHeartbeats 4000000 in
theorem uq_noend (z : ByteArray) (E : Value) (w : World) (hE : w.cell? ⟨3, 0, none⟩ = some E) (h1 : 1 < z.size) (hs : z.size ≤ 1073741824) (ho : Lib.indexByte (z.extract 1 z.size).data.toList (z.get! 0) = -1) :
    Calls Tryd.prog 69 #[.string z, .bool true] w fun e w' => uqE E e ∧ Below w.heap.size w w' := by
  have h00 : 1 < z.size := h1
  have hI : ¬ ((z.size : Nat) : Int) < 2 := by omega
  have h01 : 0 < z.size := by omega
  have hI1 : (1 : Int) ≤ ((z.size : Nat) : Int) := by omega
  obtain ⟨b, hb⟩ : ∃ b, bA z 0 = b := ⟨_, rfl⟩
  have hb0 : ((z[0].toNat : Nat) : Int) = (b : Int) := (bA_int h01).trans (by rw [hb])
  have HI := hide (scIndex_any (z.extract 1 z.size) (b : Int) w)
  rw [show (b : Int).toNat.toUInt8 = z.get! 0 by rw [Int.toNat_natCast, ← hb]; unfold bA; simp, ho] at HI
  clear hb ho
  go_enter Tryd.func69, Tryd.ntmps69
  go_wp2_with fail
  refine HI.out.mono ?_
  rintro e w2 ⟨rfl, rfl⟩
  go_wp2
  first
    | (refine bodyPost_ret (results3 rfl _ _ _) rfl ?_; exact ⟨⟨_, rfl⟩, Below.refl _ _⟩)
    | (go_quiet (fail); go_wp2; refine bodyPost_ret (results3 rfl _ _ _) rfl ?_; exact ⟨⟨_, rfl⟩, below_drewN (Below.refl _ _) _⟩)
set_option maxRecDepth 100000 in
set_option maxHeartbeats 4000000 in
theorem uq_other (z : ByteArray) (E : Value) (w : World) (hE : w.cell? ⟨3, 0, none⟩ = some E) (h1 : 1 < z.size) (hs : z.size ≤ 1073741824) (o : Nat) (ho : Lib.indexByte (z.extract 1 z.size).data.toList (z.get! 0) = (o : Int)) (m1 : bA z 0 ≠ 96) (m2 : bA z 0 ≠ 34) (m3 : bA z 0 ≠ 39) :
    Calls Tryd.prog 69 #[.string z, .bool true] w fun e w' => uqE E e ∧ Below w.heap.size w w' := by
  have h00 : 1 < z.size := h1
  have hI : ¬ ((z.size : Nat) : Int) < 2 := by omega
  have h01 : 0 < z.size := by omega
  have hI1 : (1 : Int) ≤ ((z.size : Nat) : Int) := by omega
  obtain ⟨b, hb⟩ : ∃ b, bA z 0 = b := ⟨_, rfl⟩
  have hb0 : ((z[0].toNat : Nat) : Int) = (b : Int) := (bA_int h01).trans (by rw [hb])
  have HI := hide (scIndex_any (z.extract 1 z.size) (b : Int) w)
  rw [show (b : Int).toNat.toUInt8 = z.get! 0 by rw [Int.toNat_natCast, ← hb]; unfold bA; simp, ho] at HI
  rw [hb] at m1 m2 m3
  have n1 : ((b : Int) == 96) = false := by rw [beq_eq_false_iff_ne]; omega
  have n2 : ((b : Int) == 34) = false := by rw [beq_eq_false_iff_ne]; omega
  have n3 : ((b : Int) == 39) = false := by rw [beq_eq_false_iff_ne]; omega
  have hol := (idx_at ho).1
  rw [ext_len _ _ _ (Nat.le_refl _)] at hol
  have ho0 : ¬ (o : Int) < 0 := by omega
  obtain ⟨n, hn⟩ : ∃ n, n = o + 2 := ⟨_, rfl⟩
  have hnI : (o : Int) + 2 = (n : Int) := by omega
  have hnz : (n : Int) ≤ ((z.size : Nat) : Int) := by omega
  clear hb ho m1 m2 m3 hn hol
  go_enter Tryd.func69, Tryd.ntmps69
  go_wp2_with fail
  refine HI.out.mono ?_
  rintro e w2 ⟨rfl, rfl⟩
  go_wp2
  first
    | (refine bodyPost_ret (results3 rfl _ _ _) rfl ?_; exact ⟨⟨_, rfl⟩, Below.refl _ _⟩)
    | (go_quiet (fail); go_wp2; refine bodyPost_ret (results3 rfl _ _ _) rfl ?_; exact ⟨⟨_, rfl⟩, below_drewN (Below.refl _ _) _⟩)
end Go.Proofs.YtpnacioliccglaaDoor
