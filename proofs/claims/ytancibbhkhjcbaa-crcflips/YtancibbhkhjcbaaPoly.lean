/-
  Plain mathematics: numbers of 32 bits as polynomials over the field of two; a step of the sum is a multiplication by x. No walk here.
-/
import Derived.WalkKit
namespace Go.Proofs.Ytancibbhkhjcbaa

abbrev B := BitVec 32
/-- The polynomial of the sum, without its highest power. -/
def gen : B := 3988292384#32
/-- The number 1 as a polynomial. -/
def one : B := 2147483648#32
/-- A step. -/
def stp (r : B) : B := (r >>> 1) ^^^ (if r.getLsbD 0 then gen else 0#32)
/-- Several steps. -/
def stps : Nat → B → B
  | 0, r => r
  | n + 1, r => stp (stps n r)

theorem xorz (a : B) : a ^^^ 0#32 = a := BitVec.xor_zero
theorem zxor (a : B) : 0#32 ^^^ a = a := BitVec.zero_xor
theorem xor4 (a b c d : B) : (a ^^^ b) ^^^ (c ^^^ d) = (a ^^^ c) ^^^ (b ^^^ d) := by
  rw [BitVec.xor_assoc, BitVec.xor_assoc, ← BitVec.xor_assoc b, BitVec.xor_comm b c, BitVec.xor_assoc c]
theorem xor3 (a b c : B) : (a ^^^ b) ^^^ c = (a ^^^ c) ^^^ b := by
  rw [BitVec.xor_assoc, BitVec.xor_comm b c, ← BitVec.xor_assoc]
theorem xorself (a : B) : a ^^^ a = 0#32 := BitVec.xor_self
theorem xor_cancel (a b : B) : (a ^^^ b) ^^^ b = a := by rw [BitVec.xor_assoc, xorself, xorz]
theorem xor_eq_zero {a b : B} (h : a ^^^ b = 0#32) : a = b := by
  have := congrArg (· ^^^ b) h; simp only [xor_cancel, zxor] at this; exact this

theorem stp_zero : stp 0#32 = 0#32 := by decide
theorem stp_xor (a b : B) : stp (a ^^^ b) = stp a ^^^ stp b := by
  unfold stp
  rw [BitVec.ushiftRight_xor_distrib, BitVec.getLsbD_xor, xor4]
  congr 1
  cases a.getLsbD 0 <;> cases b.getLsbD 0 <;> simp
theorem stps_zero (n : Nat) : stps n 0#32 = 0#32 := by
  induction n with
  | zero => rfl
  | succ n ih => rw [stps, ih, stp_zero]
theorem stps_xor (n : Nat) (a b : B) : stps n (a ^^^ b) = stps n a ^^^ stps n b := by
  induction n with
  | zero => rfl
  | succ n ih => rw [stps, ih, stp_xor]; rfl
theorem stps_add (m n : Nat) (a : B) : stps (m + n) a = stps m (stps n a) := by
  induction m with
  | zero => rw [Nat.zero_add]; rfl
  | succ m ih => rw [Nat.add_right_comm, stps, ih]; rfl
theorem stps_comm (m n : Nat) (a : B) : stps m (stps n a) = stps n (stps m a) := by
  rw [← stps_add, Nat.add_comm, stps_add]
theorem stps_one (a : B) : stps 1 a = stp a := rfl

/-! ### a step loses nothing -/
theorem stp_top (r : B) : (stp r).getLsbD 31 = r.getLsbD 0 := by
  unfold stp
  rw [BitVec.getLsbD_xor, BitVec.getLsbD_ushiftRight, BitVec.getLsbD_of_ge r 32 (by omega)]
  cases r.getLsbD 0 <;> decide
theorem stp_eq_zero {r : B} (h : stp r = 0#32) : r = 0#32 := by
  have h0 : r.getLsbD 0 = false := by rw [← stp_top, h]; decide
  have h1 : r >>> 1 = 0#32 := by rw [stp, h0] at h; simpa using h
  ext i hi
  rcases i with _ | i
  · simpa [BitVec.getLsbD_eq_getElem] using h0
  · have := congrArg (fun v => BitVec.getLsbD v i) h1
    simp only [BitVec.getLsbD_ushiftRight, BitVec.getLsbD_zero] at this
    rw [← BitVec.getLsbD_eq_getElem, ← BitVec.getLsbD_eq_getElem, Nat.add_comm, this]; simp
theorem stps_eq_zero {n : Nat} {r : B} (h : stps n r = 0#32) : r = 0#32 := by
  induction n with
  | zero => exact h
  | succ n ih => exact ih (stp_eq_zero h)
theorem stps_inj {n : Nat} {a b : B} (h : stps n a = stps n b) : a = b := by
  apply xor_eq_zero; apply stps_eq_zero (n := n); rw [stps_xor, h, xorself]

/-! ### linear maps are told by the single bits -/
def bit (k : Nat) : B := 1#32 <<< k
/-- The bits of a below n. -/
def low : Nat → B → B
  | 0, _ => 0#32
  | n + 1, a => low n a ^^^ (if a.getLsbD n then bit n else 0#32)
theorem bit_get (k i : Nat) (hk : k < 32) : (bit k).getLsbD i = decide (i = k) := by
  unfold bit
  rw [BitVec.getLsbD_shiftLeft]
  by_cases h : i = k
  · subst h; simp [hk]
  · by_cases h' : i < k
    · simp [h', h]
    · have : (1#32).getLsbD (i - k) = false := by
        rw [BitVec.getLsbD_one]; simp; omega
      simp [this, h]
theorem low_get (n : Nat) (a : B) (hn : n ≤ 32) (i : Nat) : (low n a).getLsbD i = (decide (i < n) && a.getLsbD i) := by
  induction n with
  | zero => simp [low]
  | succ n ih =>
    rw [low, BitVec.getLsbD_xor, ih (by omega)]
    by_cases h : i = n
    · subst h
      cases e : a.getLsbD i <;> simp [bit_get _ _ (show i < 32 by omega)]
    · have hb : (if a.getLsbD n = true then bit n else 0#32).getLsbD i = false := by
        split
        · rw [bit_get _ _ (by omega)]; simp [h]
        · simp
      rw [hb]
      by_cases h1 : i < n
      · have : i < n + 1 := by omega
        simp [h1, this]
      · have : ¬ i < n + 1 := by omega
        simp [h1, this]
theorem low_all (a : B) : low 32 a = a := by
  ext i hi
  rw [← BitVec.getLsbD_eq_getElem, ← BitVec.getLsbD_eq_getElem, low_get 32 a (by omega)]
  simp [hi]
structure Lin (f : B → B) : Prop where
  zero : f 0#32 = 0#32
  add : ∀ a b, f (a ^^^ b) = f a ^^^ f b
theorem lin_ext {f g : B → B} (hf : Lin f) (hg : Lin g) (h : ∀ k, k < 32 → f (bit k) = g (bit k)) (a : B) : f a = g a := by
  have key : ∀ n, n ≤ 32 → f (low n a) = g (low n a) := by
    intro n
    induction n with
    | zero => intro _; rw [low, hf.zero, hg.zero]
    | succ n ih =>
      intro hn
      rw [low, hf.add, hg.add, ih (by omega)]
      split
      · rw [h n (by omega)]
      · rw [hf.zero, hg.zero]
  have := key 32 (by omega)
  rwa [low_all] at this
theorem Lin.id : Lin fun a => a := ⟨rfl, fun _ _ => rfl⟩
theorem Lin.stps (n : Nat) : Lin (stps n) := ⟨stps_zero n, stps_xor n⟩
theorem Lin.comp {f g : B → B} (hf : Lin f) (hg : Lin g) : Lin fun a => f (g a) :=
  ⟨by rw [hg.zero, hf.zero], fun a b => by rw [hg.add, hf.add]⟩
theorem Lin.xor {f g : B → B} (hf : Lin f) (hg : Lin g) : Lin fun a => f a ^^^ g a :=
  ⟨by rw [hf.zero, hg.zero]; decide, fun a b => by rw [hf.add, hg.add, xor4]⟩
/-- The single bits are the first powers of x. -/
theorem bit_pow (k : Nat) (hk : k < 32) : bit k = stps (31 - k) one := by
  have : ∀ k : Fin 32, bit k.val = stps (31 - k.val) one := by decide
  exact this ⟨k, hk⟩

/-! ### the product -/
/-- The first p terms of the product. -/
def prod : Nat → B → B → B
  | 0, _, _ => 0#32
  | p + 1, a, b => prod p a b ^^^ (if a.getLsbD (31 - p) then stps p b else 0#32)
theorem ite_xor (c d : Bool) (x : B) : (if (c ^^ d) = true then x else 0#32) = (if c = true then x else 0#32) ^^^ (if d = true then x else 0#32) := by
  cases c <;> cases d <;> simp
theorem prod_linA (p : Nat) (b : B) : Lin fun a => prod p a b := by
  constructor
  · induction p with
    | zero => rfl
    | succ p ih => show prod p 0#32 b ^^^ _ = _; rw [ih]; simp
  · intro a a'
    induction p with
    | zero => simp [prod]
    | succ p ih =>
      show prod p (a ^^^ a') b ^^^ _ = (prod p a b ^^^ _) ^^^ (prod p a' b ^^^ _)
      rw [ih, xor4, BitVec.getLsbD_xor, ite_xor]
theorem prod_stps (p n : Nat) (a b : B) : prod p a (stps n b) = stps n (prod p a b) := by
  induction p with
  | zero => rw [prod, prod, stps_zero]
  | succ p ih =>
    rw [prod, prod, ih, stps_xor]
    split
    · rw [stps_comm]
    · rw [stps_zero]
theorem prod_one (a : B) : prod 32 a one = a := by
  refine lin_ext (prod_linA 32 one) Lin.id ?_ a
  intro k hk
  have : ∀ k : Fin 32, prod 32 (bit k.val) one = bit k.val := by decide
  exact this ⟨k, hk⟩
/-- A factor that is a power of x is as many steps. -/
theorem prod_pow (a : B) (n : Nat) : prod 32 a (stps n one) = stps n a := by rw [prod_stps, prod_one]

/-! ### a table of what becomes of each bit -/
/-- What the table 'row' makes of the bits of r below n. -/
def thru (row : Nat → B) : Nat → B → B
  | 0, _ => 0#32
  | n + 1, r => thru row n r ^^^ (if r.getLsbD n then row n else 0#32)
theorem thru_lin (row : Nat → B) (n : Nat) : Lin (thru row n) := by
  constructor
  · induction n with
    | zero => rfl
    | succ n ih => rw [thru, ih]; simp
  · intro a a'
    induction n with
    | zero => simp [thru]
    | succ n ih => rw [thru, thru, thru, ih, xor4, BitVec.getLsbD_xor, ite_xor]
theorem thru_bit (row : Nat → B) (n k : Nat) (hk : k < 32) (hn : n ≤ 32) : thru row n (bit k) = if k < n then row k else 0#32 := by
  induction n with
  | zero => simp [thru]
  | succ n ih =>
    rw [thru, ih (by omega), bit_get k n hk]
    by_cases h : n = k
    · subst h; simp
    · have : (k < n + 1) ↔ (k < n) := by omega
      simp [h, this]
theorem thru_map (row : Nat → B) (e : Nat) (h : ∀ k, k < 32 → row k = stps e (bit k)) (r : B) : thru row 32 r = stps e r := by
  refine lin_ext (thru_lin row 32) (Lin.stps e) ?_ r
  intro k hk
  rw [thru_bit row 32 k hk (by omega), if_pos hk, h k hk]

/-! ### eight steps by the table of 256 -/
theorem and_lin (m : B) : Lin fun a => a &&& m := ⟨by simp, fun a b => by ext i hi; simp [Bool.and_xor_distrib_right]⟩
theorem shr_lin (n : Nat) : Lin fun a => a >>> n := ⟨by simp, fun a b => BitVec.ushiftRight_xor_distrib a b n⟩
theorem eight (r : B) : stps 8 r = (r >>> 8) ^^^ stps 8 (r &&& 255#32) := by
  refine lin_ext (Lin.stps 8) ((shr_lin 8).xor ((Lin.stps 8).comp (and_lin 255#32))) ?_ r
  intro k hk
  have : ∀ k : Fin 32, stps 8 (bit k.val) = (bit k.val >>> 8) ^^^ stps 8 (bit k.val &&& 255#32) := by decide
  exact this ⟨k, hk⟩
end Go.Proofs.Ytancibbhkhjcbaa
