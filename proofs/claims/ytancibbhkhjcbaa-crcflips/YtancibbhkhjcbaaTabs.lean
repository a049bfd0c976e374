/-
  Arrays of 32 numbers in memory, and the document's 'through' and 'zeros'.
-/
import Derived.Test.YtancibbhkhjcbaaNums
import Derived.Deep.OwnRows
import Derived.Deep.WholeRow
import Derived.Laws.Rows
import Derived.Laws.Tables
import Derived.Laws.CopyOwn
import Derived.Deep.RegionHeld3
import Derived.BigQuiet
import Derived.Deep.QuietTactic
import Derived.WalkSpells
import Derived.WalkSmall
namespace Go.Proofs.Ytancibbhkhjcbaa
open Go.RowKit
theorem Try.info36 : (Try.prog.info? 36).map (·.size) = some 32 := by kernel_rfl
/-- Below, one behind the other. -/
theorem Below.on {w a b : World} (h : Below w.heap.size w a) (k : Below a.heap.size a b) : Below w.heap.size w b := h.trans (k.mono h.size)

theorem shr_odd (r : B) (k : Nat) : (num r / 2 ^ k).tmod 2 = if r.getLsbD k then 1 else 0 := by
  rw [Int.tmod_eq_emod_of_nonneg (Int.ediv_nonneg (num_lo r) (Int.le_of_lt (Int.pow_pos (by decide))))]
  have e : num r / 2 ^ k = num (r >>> k) := by
    unfold num; rw [BitVec.toNat_ushiftRight, Nat.shiftRight_eq_div_pow]; simp
  rw [e, low_num, BitVec.getLsbD_ushiftRight, Nat.add_zero]
set_option maxHeartbeats 400000 in
/-- through: what the table makes of r. -/
theorem thru_any (cs : Array Value) (row : Nat → B) (r : B) (w : World) (hc : ∀ i, i < 32 → cs[i]? = some (.int .u32 (num (row i)))) :
    Calls Try.prog 16 #[.agg cs, .int .u32 (num r)] w fun e w' => e = .returned (.int .u32 (num (thru row 32 r))) ∧ Below w.heap.size w w' := by
  have h0 := num_lo r
  have h1 := num_hi r
  have hbel : Below w.heap.size w (w.alloc (Obj.cells cs 36)) := (Below.refl _ _).alloc (Nat.le_refl _) _
  have hcell : ∀ i, i < 32 → (w.alloc (Obj.cells cs 36)).cell? ⟨w.heap.size, i, none⟩ = some (.int .u32 (num (row i))) := fun i hi => by
    rw [cell_of_row _ _ i cs 36 (0, 0) (heap_alloc_last _ _)]; exact hc i hi
  clear hc
  go_enter Try.func16, Try.ntmps16
  go_wp2
  generalize w.alloc (Obj.cells cs 36) = W at hbel hcell ⊢
  go_loopw [5, 6] (fun so si wr => ∃ k : Nat, k ≤ 32 ∧ so = .int .u32 (num (thru row k r)) ∧ si = .int .i64 k ∧ wr = W) (fun _ i _ => 32 - (intOf i).toNat)
  case atStart => exact ⟨0, by omega, rfl, rfl, rfl⟩
  case round =>
    obtain ⟨k, hk, rfl, rfl, rfl⟩ := hrel
    by_cases hlt : k < 32
    · have hck := hcell k hlt
      have ho := shr_odd r k
      cases hb : r.getLsbD k
      · rw [hb] at ho
        have q : ((num r / 2 ^ k).tmod 2 == 1) = false := by rw [ho]; rfl
        have H := hide (show num (thru row k r) = num (thru row (k + 1) r) by rw [thru, hb]; simp)
        clear ho hcell hb
        go_wp2
        exact ⟨⟨k + 1, by omega, val_int H.out, by go_num, trivial⟩, by simp [intOf]; omega⟩
      · rw [hb] at ho
        have q : ((num r / 2 ^ k).tmod 2 == 1) = true := by rw [ho]; rfl
        have H := hide (show bits .xor .u32 (num (thru row k r)) (num (row k)) = num (thru row (k + 1) r) by rw [xor_num, thru, hb]; simp)
        clear ho hcell hb
        go_wp2
        exact ⟨⟨k + 1, by omega, val_int H.out, by go_num, trivial⟩, by simp [intOf]; omega⟩
    · have : k = 32 := by omega
      subst this
      go_wp2
      go_ret
      exact ⟨rfl, hbel⟩
theorem take_zero (r : B) (w : World) :
    Calls Try.prog 14 #[.int .u32 (num r), .int .u8 0] w fun e w' => e = .returned (.int .u32 (num (stps 8 r))) ∧ w' = w := by
  have h := take_any r 0#32 w (by decide)
  rw [xorz] at h; exact h
theorem bit_num (k : Nat) (hk : k < 32) : (2 : Int) ^ k % 4294967296 = num (bit k) := by
  have : ∀ k : Fin 32, (2 : Int) ^ k.val % 4294967296 = num (bit k.val) := by decide
  exact this ⟨k, hk⟩
def zeros32 : Array Value := Array.replicate 32 (.int .u32 0)
theorem zeros32_get (i : Nat) (hi : i < 32) : zeros32[i]? = some (.int .u32 (num 0#32)) := by simp [zeros32, hi, num_zero]
/-- A new array of zeros. -/
theorem row_zero (w : World) : (w.alloc (Obj.cells zeros32 36)).rowIs w.heap.size 36 32 (fun _ => .int .u32 (num 0#32)) :=
  World.rowIs_alloc w zeros32 36 _ (fun i hi => zeros32_get i (by simpa [zeros32] using hi))
/-- The first k numbers of an array are those of the table, the others 0. -/
def fill (k : Nat) (row : Nat → B) (j : Nat) : Value := .int .u32 (num (if j < k then row j else 0#32))
theorem fill_zero (row : Nat → B) (i : Nat) : Value.int .u32 (num 0#32) = fill 0 row i := by simp [fill]
theorem fill_all (row : Nat → B) (i : Nat) (hi : i < 32) : fill 32 row i = .int .u32 (num (row i)) := by simp [fill, hi]
theorem fill_step {w : World} {g k : Nat} {row : Nat → B} (h : w.rowIs g 36 32 (fill k row)) : (w.setCell ⟨g, k, none⟩ (.int .u32 (num (row k)))).rowIs g 36 32 (fill (k + 1) row) := by
  refine (h.set k _).congr fun i _ => ?_
  by_cases e : i = k
  · subst e; simp [fill]
  · have : (i < k + 1) ↔ (i < k) := by omega
    simp [fill, e, this]
/-- The array at g tells what e steps make of each bit. -/
def Steps (w : World) (g e : Nat) : Prop := w.rowIs g 36 32 (fun j => .int .u32 (num (stps e (bit j))))
theorem Steps.of_fill {w : World} {g e : Nat} (h : w.rowIs g 36 32 (fill 32 (fun j => stps e (bit j)))) : Steps w g e := h.congr fun i hi => fill_all _ i hi
theorem Steps.below {w w' : World} {g e : Nat} (h : Steps w g e) (hb : Below w.heap.size w w') : Steps w' g e := World.rowIs.of_block h (hb.block g (World.rowIs.lt h))
theorem one_all (c : Array Value) (f : Nat → Int) (hs : c.size = 32) (h : ∀ i, i < 32 → c[i]? = some (.int .u32 (f i))) : c.all (·.oneCell') = true := by
  rw [Array.all_eq_true]
  intro i hi
  have := h i (by omega)
  rw [Array.getElem?_eq_getElem hi] at this
  rw [Option.some.inj this]; rfl
theorem steps_list {w : World} {g e : Nat} (h : Steps w g e) : ∃ L : List Value, L = (List.range 32).map (fun j => Value.int .u32 (num (stps e (bit j)))) ∧ w.rangeAt g 0 L ∧
    (∀ i, i < 32 → L.toArray[i]? = some (.int .u32 (num (stps e (bit i))))) ∧ (Try.prog.info? 36).map (·.size) = some L.length := by
  refine ⟨_, rfl, fun j v hv => ?_, fun i hi => ?_, ?_⟩
  · rw [Nat.zero_add]
    rw [List.getElem?_map] at hv
    by_cases hj : j < 32
    · rw [List.getElem?_range hj] at hv
      rw [World.rowIs.cell h hj, ← Option.some.inj hv]
    · rw [List.getElem?_eq_none (by simpa using hj)] at hv; cases hv
  · simp [hi]
  · rw [Try.info36]; simp
theorem range_of {w : World} {g e : Nat} {L : List Value} (h : Steps w g e) (hL : L = (List.range 32).map (fun j => Value.int .u32 (num (stps e (bit j))))) : w.rangeAt g 0 L := by
  obtain ⟨L', rfl, hr, _⟩ := steps_list h
  rw [hL]; exact hr
set_option maxHeartbeats 1600000 in
theorem rzeros_any (r : B) (n : Nat) (w : World) (hn : (n : Int) ≤ 9223372036854775807) :
    Calls Try.prog 11 #[.int .u32 (num r), .int .i64 n] w fun e w' => e = .returned (.int .u32 (num (stps (8 * n) r))) ∧ Below w.heap.size w w' := by
  have hz := (row_zero w).congr (fun i _ => fill_zero (fun j => stps 8 (bit j)) i)
  have hbel : Below w.heap.size w (w.alloc (Obj.cells zeros32 36)) := (Below.refl _ _).alloc (Nat.le_refl _) _
  generalize hg : stps (8 * n) r = gl
  have HG := hide hg
  clear hg
  go_enter Try.func11, Try.ntmps11
  go_wp2
  change Code.wp _ _ _ _ (w.alloc (Obj.cells zeros32 36))
  generalize w.alloc (Obj.cells zeros32 36) = W at hz hbel ⊢
  go_loopw [6] (fun si wr => ∃ k : Nat, k ≤ 32 ∧ si = .int .i64 k ∧ wr.rowIs w.heap.size 36 32 (fill k (fun j => stps 8 (bit j))) ∧ Below w.heap.size w wr) (fun i _ => 32 - (intOf i).toNat)
  case atStart => exact ⟨0, by omega, rfl, hz, hbel⟩
  case round =>
    obtain ⟨k, hk, rfl, hrow, hb⟩ := hrel
    by_cases hlt : k < 32
    · have hck := hrow.cell hlt
      have hfr := hrow.frozen k
      go_wp2_with fail
      rw [bit_num k hlt]
      refine (take_zero _ _).mono ?_
      rintro e w' ⟨rfl, rfl⟩
      have hf := fill_step hrow
      have hb' := hb.setCell (p := ⟨w.heap.size, k, none⟩) (Nat.le_refl _) (.int .u32 (num (stps 8 (bit k))))
      clear hrow hb
      go_wp2
      exact ⟨⟨k + 1, by omega, by go_num, hf, hb'⟩, by simp [intOf]; omega⟩
    · have : k = 32 := by omega
      subst this
      have hst := Steps.of_fill hrow
      clear hrow hz hbel
      rw [show ((32 : Nat) : Int) = 32 from rfl]
      go_wp2
      go_loopw [0, 1] (fun sr sn wr => ∃ (r' : B) (m e : Nat), sr = .int .u32 (num r') ∧ sn = .int .i64 m ∧ (m : Int) ≤ 9223372036854775807 ∧ stps (e * m) r' = gl ∧ Steps wr w.heap.size e ∧ Below w.heap.size w wr) (fun _ i _ => (intOf i).toNat)
      case atStart => exact ⟨r, n, 8, rfl, rfl, hn, HG.out, hst, hb⟩
      case round =>
        obtain ⟨r', m, e, rfl, rfl, hm, hs, hst2, hb2⟩ := hrel
        have HS := hide hs
        clear hs HG hst hb
        by_cases hpos : 0 < m
        · by_cases ho : m % 2 = 1
          case' pos =>
            have q : ((m : Int) % 2 == 1) = true := by simp; omega
            obtain ⟨cs, hcs, hsz, hc⟩ := hst2
            have hi : (Try.prog.info? 36).map (·.size) = some cs.size := by rw [Try.info36, hsz]
            go_wp2_with (refine wpList_load_row rfl 36 (.tmp 5) rfl w.heap.size rfl 36 cs (0, 0) _ hcs Try.underlying36 rfl hi ?_)
            refine (thru_any cs (fun j => stps e (bit j)) r' wr hc).mono ?_
            rintro e1 W1 ⟨rfl, hb3⟩
            rw [thru_map _ e (fun _ _ => rfl)]
            have hst1 : Steps W1 w.heap.size e := Steps.below ⟨cs, hcs, hsz, hc⟩ hb3
            have hbel1 : Below w.heap.size w W1 := hb2.trans (hb3.mono hb2.size)
            have HS1 := hide (odd_go e m r' gl ho HS.out)
            clear hcs hsz hc hi hb2 hb3 HS ho
            go_wp2
          case' neg =>
            have q : ((m : Int) % 2 == 1) = false := by simp; omega
            have HS1 := hide (even_go e m r' gl ho HS.out)
            clear HS ho
            go_wp2
            generalize wr = W1 at hst2 hb2 ⊢
            have hst1 := hst2
            have hbel1 := hb2
            clear hst2 hb2
          all_goals
            change Code.wp _ _ _ _ (W1.alloc (Obj.cells zeros32 36))
            have hz2 := (row_zero W1).congr (fun i _ => fill_zero (fun j => stps (e + e) (bit j)) i)
            have hbel2 := hbel1.alloc hbel1.size (Obj.cells zeros32 36)
            have hst2 : Steps (W1.alloc (Obj.cells zeros32 36)) w.heap.size e := World.rowIs.alloc hst1 _
            have hne : w.heap.size ≠ W1.heap.size := by have := World.rowIs.lt hst1; omega
            have hle := hbel1.size
            generalize W1.alloc (Obj.cells zeros32 36) = W2 at hz2 hbel2 hst2 ⊢
            generalize W1.heap.size = g2 at hz2 hne hle ⊢
            clear hst1 hbel1
            go_loopw [8] (fun si wr => ∃ k : Nat, k ≤ 32 ∧ si = .int .i64 k ∧ wr.rowIs g2 36 32 (fill k (fun j => stps (e + e) (bit j))) ∧ Steps wr w.heap.size e ∧ Below w.heap.size w wr) (fun i _ => 32 - (intOf i).toNat)
            case atStart => exact ⟨0, by omega, rfl, hz2, hst2, hbel2⟩
            case round =>
              obtain ⟨k, hk, rfl, hrow, hstr, hbr⟩ := hrel
              by_cases hlt : k < 32
              · have c1 := hrow.cell hlt
                have f1 := hrow.frozen k
                obtain ⟨L, hL, hrange, hc, hi⟩ := steps_list hstr
                have HL := hide hL
                have HC := hide hc
                clear hL hc
                have c2 := World.rowIs.cell hstr hlt
                have hu := Try.underlying36
                have hl2 : g2 < wr.heap.size := World.rowIs.lt hrow
                have hl1 : w.heap.size < wr.heap.size := by have := hbr.size; omega
                go_wp2_with fail
                go_region_held3 (fun W => W.rangeAt w.heap.size 0 L ∧ W.cell? ⟨w.heap.size, k, none⟩ = some (.int .u32 (num (stps e (bit k))))) (first | exact ⟨hrange, c2⟩ | exact ⟨hr3, c23⟩ | exact ⟨range_of (hS4 _) HL.out, World.rowIs.cell (hS4 _) hlt⟩) (first
                  | (go_at_call 16; go_must (
                     refine (thru_any L.toArray (fun j => stps e (bit j)) (stps e (bit k)) _ HC.out).mono ?_
                     rintro e1 W3 ⟨rfl, hb3⟩
                     rw [thru_map _ e (fun _ _ => rfl), ← stps_add]
                     have hrow3 := World.rowIs.of_block (w' := W3) hrow (hb3.block g2 hl2)
                     have hst3 : Steps W3 w.heap.size e := World.rowIs.of_block hstr (hb3.block _ hl1)
                     have hbr3 : Below w.heap.size w W3 := hbr.drew.trans (hb3.mono (Nat.le_of_lt hl1))
                     have c3 := World.rowIs.cell hrow3 hlt
                     have f3 := World.rowIs.frozen hrow3 k
                     have hr3 := range_of hst3 HL.out
                     have c23 := World.rowIs.cell hst3 hlt
                     have hS4 : ∀ v, Steps (W3.setCell ⟨g2, k, none⟩ v) w.heap.size e := fun v => World.rowIs.setOther hst3 hne v)))
                have hf := fill_step hrow3
                have hs' := hS4 (.int .u32 (num (stps (e + e) (bit k))))
                have hb' := hbr3.setCell (p := ⟨g2, k, none⟩) hle (.int .u32 (num (stps (e + e) (bit k))))
                clear hrow3 hst3 hbr3 hrow hstr hbr hS4 hr3 c23 hrange HL HC
                go_wp2
                exact ⟨⟨k + 1, by omega, by go_num, hf, hs', hb'⟩, by simp [intOf]; omega⟩
              · have : k = 32 := by omega
                subst this
                obtain ⟨c2, hc2, hz2', ha2⟩ := Steps.of_fill hrow
                obtain ⟨c1, hc1, hz1', ha1⟩ := hstr
                have hi2 : (Try.prog.info? 36).map (·.size) = some c2.size := by rw [Try.info36, hz2']
                have hone := hide (one_all c2 (fun j => num (stps (e + e) (bit j))) hz2' ha2)
                have hst4 := hide (show Steps (wr.setRow w.heap.size c2) w.heap.size (e + e) from ⟨c2, setRow_heap _ _ c1 c2 36 (0, 0) hc1, hz2', ha2⟩)
                have hbr4 := hide (below_setRow hbr (Nat.le_refl _) c2)
                have hz := hide (show c1.size = c2.size by rw [hz1', hz2'])
                clear hrow hz1' hz2' ha1 ha2
                go_wp2_with (first
                  | (refine wpList_load_row rfl 36 (.tmp 7) rfl g2 rfl 36 c2 (0, 0) _ hc2 Try.underlying36 rfl hi2 ?_)
                  | (refine wpList_store_row rfl 36 (.tmp 5) (.tmp 37) rfl w.heap.size c2 rfl rfl 36 c1 hc1 hi2 hz.out hone.out ?_))
                exact ⟨⟨_, m / 2, e + e, rfl, by go_num, by omega, HS1.out, hst4.out, hbr4.out⟩, by simp [intOf]; omega⟩
        · have : m = 0 := by omega
          subst this
          go_wp2
          go_ret
          exact ⟨ret_int (by have := HS.out; rw [Nat.mul_zero] at this; rw [← this]; rfl), hb2⟩
end Go.Proofs.Ytancibbhkhjcbaa
