/-
  Plain mathematics: a record's text, and how it is read. No walk here.
-/
import Derived.Test.YtdppbaipmmcjbaaDoorReadsB
import Derived.Test.YtdppbaipmmcjbaaDoorBack
import Derived.Test.YtdppbaipmmcjbaaDoorRowz
namespace Go.Proofs.YtdppbaipmmcjbaaDoor
open Go.RowKit
/-- A record. -/
structure Rc where
  stamp : Int
  kind : Int
  obj : Int
  arg : Int
  stack : Int
  deriving DecidableEq
def Rc.zero : Rc := ⟨0, 0, 0, 0, 0⟩
def Rc.val (r : Rc) : Value := .agg #[.int .i64 r.stamp, .int .i64 r.kind, .int .u64 r.obj, .int .u64 r.arg, .int .i64 r.stack]
/-- A state. -/
structure St where
  stamp : Int
  obj : Int
  stack : Int
  deriving DecidableEq
def St.zero : St := ⟨0, 0, 0⟩
def St.val (s : St) : Value := .agg #[.int .i64 s.stamp, .int .u64 s.obj, .int .i64 s.stack]
def behindS (r : Rc) : St := ⟨r.stamp + 1, r.obj, r.stack⟩
def stkB (K : Int) : Bool := decide (0 ≤ K ∧ K ≤ 262144)
def mayS (S K : Int) : Bool := decide (0 ≤ S ∧ S ≤ 1048576 ∧ 0 ≤ K ∧ K ≤ 262144)
/-- The error of Put. -/
def putE (s : St) (r : Rc) : Int :=
  if mayS s.stamp s.stack = false then 71 else if ¬ (1 ≤ r.kind ∧ r.kind ≤ 22) then 60
  else if r.stamp < s.stamp ∨ 1048576 ≤ r.stamp then 70 else if stkB r.stack = false then 71 else 0
theorem putE_ok {s : St} {r : Rc} (h : putE s r = 0) : 0 ≤ s.stamp ∧ s.stamp ≤ r.stamp ∧ r.stamp < 1048576 ∧ 0 ≤ s.stack ∧ s.stack ≤ 262144 ∧ 1 ≤ r.kind ∧ r.kind ≤ 22 ∧ 0 ≤ r.stack ∧ r.stack ≤ 262144 := by
  unfold putE at h
  split at h
  · omega
  · rename_i h1
    split at h
    · omega
    · split at h
      · omega
      · split at h
        · omega
        · rename_i h2
          have e1 : mayS s.stamp s.stack = true := by simpa using h1
          have e2 : stkB r.stack = true := by simpa using h2
          have := of_decide_eq_true e1
          have := of_decide_eq_true e2
          omega
theorem putE_of {s : St} {r : Rc} (h : 0 ≤ s.stamp ∧ s.stamp ≤ r.stamp ∧ r.stamp < 1048576 ∧ 0 ≤ s.stack ∧ s.stack ≤ 262144 ∧ 1 ≤ r.kind ∧ r.kind ≤ 22 ∧ 0 ≤ r.stack ∧ r.stack ≤ 262144) : putE s r = 0 := by
  have e1 : mayS s.stamp s.stack = true := decide_eq_true (by omega)
  have e2 : stkB r.stack = true := decide_eq_true (by omega)
  unfold putE
  rw [e1, e2, if_neg (by simp), if_neg (by omega), if_neg (by omega), if_neg (by simp)]
/-! ### the text -/
def fO (s : St) (r : Rc) : Int := if r.obj = s.obj then 0 else 32
def fA (r : Rc) : Int := if r.arg = 0 then 0 else 64
def fK (s : St) (r : Rc) : Int := if r.stack = s.stack then 0 else 128
def xO (s : St) (r : Rc) : List Int := if r.obj = s.obj then [] else enc (diff s.obj r.obj).toNat
def xA (r : Rc) : List Int := if r.arg = 0 then [] else enc r.arg.toNat
def xK (s : St) (r : Rc) : List Int := if r.stack = s.stack then [] else enc (zig (r.stack - s.stack)).toNat
def text (s : St) (r : Rc) : List Int := (r.kind + fO s r + fA r + fK s r) :: (enc (r.stamp - s.stamp).toNat ++ xO s r ++ xA r ++ xK s r)
structure Rc.ok (r : Rc) : Prop where
  o0 : 0 ≤ r.obj
  o1 : r.obj ≤ 18446744073709551615
  a0 : 0 ≤ r.arg
  a1 : r.arg ≤ 18446744073709551615
structure St.ok (s : St) : Prop where
  o0 : 0 ≤ s.obj
  o1 : s.obj ≤ 18446744073709551615
theorem xO_len (s : St) (r : Rc) : (xO s r).length ≤ 10 := by
  unfold xO; split
  · simp
  · have := diff_bd s.obj r.obj; exact enc_le _ (by omega)
theorem xA_len {r : Rc} (h : r.ok) : (xA r).length ≤ 10 := by
  unfold xA; split
  · simp
  · have := h.a0; have := h.a1; exact enc_le _ (by omega)
theorem xO_mem (s : St) (r : Rc) : ∀ z ∈ xO s r, 0 ≤ z ∧ z ≤ 255 := by
  unfold xO; split
  · simp
  · exact enc_mem _
theorem xA_mem (r : Rc) : ∀ z ∈ xA r, 0 ≤ z ∧ z ≤ 255 := by
  unfold xA; split
  · simp
  · exact enc_mem _
theorem xK_mem (s : St) (r : Rc) : ∀ z ∈ xK s r, 0 ≤ z ∧ z ≤ 255 := by
  unfold xK; split
  · simp
  · exact enc_mem _
theorem enc_three (x : Nat) (h : x < 2097152) : (enc x).length ≤ 3 := by
  obtain ⟨_, h2⟩ := enc_len_inv x
  rcases h2 with h2 | h2
  · omega
  · by_cases hc : (enc x).length ≤ 3
    · exact hc
    · have : 2 ^ 21 ≤ 2 ^ (7 * ((enc x).length - 1)) := Nat.pow_le_pow_right (by decide) (by omega)
      omega
theorem zig_stk {a b : Int} (ha0 : 0 ≤ a) (ha : a ≤ 262144) (hb0 : 0 ≤ b) (hb : b ≤ 262144) : 0 ≤ zig (a - b) ∧ zig (a - b) ≤ 524288 := by
  unfold zig; split <;> omega
theorem xK_len {s : St} {r : Rc} (h : putE s r = 0) : (xK s r).length ≤ 3 := by
  have := putE_ok h
  unfold xK; split
  · simp
  · have := zig_stk (a := r.stack) (b := s.stack) (by omega) (by omega) (by omega) (by omega)
    exact enc_three _ (by omega)
theorem xS_len {s : St} {r : Rc} (h : putE s r = 0) : (enc (r.stamp - s.stamp).toNat).length ≤ 3 := by
  have := putE_ok h
  exact enc_three _ (by omega)
theorem first_bd {s : St} {r : Rc} (h : putE s r = 0) : 1 ≤ r.kind + fO s r + fA r + fK s r ∧ r.kind + fO s r + fA r + fK s r ≤ 255 := by
  have := putE_ok h
  unfold fO fA fK
  split <;> split <;> split <;> omega
theorem text_mem {s : St} {r : Rc} (h : putE s r = 0) : ∀ z ∈ text s r, 0 ≤ z ∧ z ≤ 255 := by
  have hf := first_bd h
  intro z hz
  unfold text at hz
  simp only [List.mem_cons, List.mem_append] at hz
  rcases hz with rfl | ((hz | hz) | hz) | hz
  · omega
  · exact enc_mem _ z hz
  · exact xO_mem _ _ z hz
  · exact xA_mem _ z hz
  · exact xK_mem _ _ z hz
theorem text_len {s : St} {r : Rc} (h : putE s r = 0) (hr : r.ok) : 2 ≤ (text s r).length ∧ (text s r).length ≤ 27 := by
  have h1 := xS_len h
  have h2 := xO_len s r
  have h3 := xA_len hr
  have h4 := xK_len h
  have h5 := enc_pos (r.stamp - s.stamp).toNat
  unfold text
  simp only [List.length_cons, List.length_append]
  omega
/-! ### the bits of the first byte -/
set_option maxRecDepth 100000 in
theorem or_bits_nat : ∀ d : Nat, d < 128 → (d < 32 → d ||| 32 = d + 32) ∧ (d < 64 → d ||| 64 = d + 64) ∧ d ||| 128 = d + 128 := by decide
theorem or_u8 (d m : Nat) (hd : d < 256) (hm : m < 256) : bits .or .u8 (d : Int) (m : Int) = ((d ||| m : Nat) : Int) :=
  (bits_nat .u8 8 (by decide) wraps_u8 d m (by omega) (by omega)).2
theorem or_32 (d : Int) (h0 : 0 ≤ d) (h1 : d < 32) : bits .or .u8 d 32 = d + 32 := by
  obtain ⟨n, rfl⟩ := Int.eq_ofNat_of_zero_le h0
  have := or_u8 n 32 (by omega) (by omega)
  rw [(or_bits_nat n (by omega)).1 (by omega)] at this
  exact this
theorem or_64 (d : Int) (h0 : 0 ≤ d) (h1 : d < 64) : bits .or .u8 d 64 = d + 64 := by
  obtain ⟨n, rfl⟩ := Int.eq_ofNat_of_zero_le h0
  have := or_u8 n 64 (by omega) (by omega)
  rw [(or_bits_nat n (by omega)).2.1 (by omega)] at this
  exact this
theorem or_top (d : Int) (h0 : 0 ≤ d) (h1 : d < 128) : bits .or .u8 d 128 = d + 128 := by
  obtain ⟨n, rfl⟩ := Int.eq_ofNat_of_zero_le h0
  have := or_u8 n 128 (by omega) (by omega)
  rw [(or_bits_nat n (by omega)).2.2] at this
  exact this
end Go.Proofs.YtdppbaipmmcjbaaDoor
