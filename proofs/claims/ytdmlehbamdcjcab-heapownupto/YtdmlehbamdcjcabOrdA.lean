/-
  Items of keys; whether items are in their order.
-/
import Derived.Test.YtdmlehbamdcjcabOpenG
import Derived.Test.YtdmlehbamdcjcabHpHI
import Derived.Test.YtdmlehbamdcjcabMgM
namespace Go.Proofs.Ytdmlehbamdcjcab
open Go.RowKit
def mkI (e : Int × Int) : It := ⟨e.1, e.2⟩
/-- The items of keys, each with its place as its tag. -/
def tgI (K : List Int) : List It := (tg K 0).map mkI
theorem tgI_len (K : List Int) : (tgI K).length = K.length := by unfold tgI; rw [List.length_map, tg_len]
theorem tg_get {α : Type} (L : List α) (s : Int) (i : Nat) : (tg L s)[i]? = (L[i]?).map fun x => (x, s + i) := by
  induction L generalizing s i with
  | nil => simp [tg]
  | cons a l ih =>
    cases i with
    | zero => simp [tg]
    | succ i => simp [tg, ih]; congr 1; funext x; congr 1; omega
theorem tgI_get (K : List Int) (i : Nat) : (tgI K)[i]? = (K[i]?).map fun x => (⟨x, i⟩ : It) := by
  unfold tgI
  rw [List.getElem?_map, tg_get]
  cases K[i]? with
  | none => rfl
  | some x => simp [mkI]
theorem tgI_snoc (K : List Int) (i : Nat) (x : Int) (hx : K[i]? = some x) : tgI (K.take (i + 1)) = tgI (K.take i) ++ [⟨x, i⟩] := by
  have hi := get_lt hx
  rw [take_snoc hx]
  unfold tgI
  rw [tg_snoc, List.map_append, List.length_take, Nat.min_eq_left (by omega)]
  simp [mkI]
set_option maxRecDepth 8000 in
set_option maxHeartbeats 1600000 in
theorem tagged_any (w : World) (a : Option Addr) (N c : Nat) (K : List Int) (hr : TRow layN w a N K) (hN : (N : Int) ≤ 5000000000000) :
    Calls Try.prog 7 #[.slice a N c] w fun r w' => ∃ v, r = .returned v ∧ Own layI 28 w' w.heap.size v (tgI K) ∧ Below w.heap.size w w' := by
  obtain ⟨i0, hi, hz0, hz1, hz2⟩ := info_parts Try.infoTI
  have HR : Hid _ := hide hr
  have HLN : Hid _ := hide hr.len
  clear hr
  go_enter Try.func7, Try.ntmps7
  go_wp2_with fail
  go_loopw [3, 4] (fun sl si wr => ∃ k : Nat, si = .int .i64 k ∧ k ≤ N ∧ Own layI 28 wr w.heap.size sl (tgI (K.take k)) ∧ Below w.heap.size w wr) (fun _ si _ => N - (intOf si).toNat)
  case atStart => exact ⟨0, rfl, Nat.zero_le _, Own.nil _ _ _ _, Below.refl _ _⟩
  case round =>
    obtain ⟨k, rfl, hk, ho, hb⟩ := hrel
    have HO : Hid _ := hide ho
    have HB : Hid _ := hide hb
    by_cases hlt : k < N
    · have hltI : (k : Int) < (N : Int) := by omega
      obtain ⟨x, hx⟩ : ∃ x, K[k]? = some x := ⟨_, List.getElem?_eq_getElem (by rw [HLN.out]; exact hlt)⟩
      obtain ⟨b, off, rfl, _, hc⟩ := (HR.out.below hb).at (by omega)
      have x0 := hc k x hx 0 _ rfl
      simp only [layN, Nat.mul_one, Nat.add_zero] at x0
      have hlk : (tgI (K.take k)).length = k := by rw [tgI_len, List.length_take, HLN.out]; omega
      obtain ⟨av, cv, hvv, _, _⟩ := own_form ho
      rw [hlk] at hvv
      subst hvv
      have HX : Hid _ := hide hx
      have HLK : Hid _ := hide hlk
      clear ho hb hc hx hlk
      go_wp2_with (at_builtin; refine append_lay layI _ 24 28 i0 _ 16 Try.underlying24 hi hz0 hz1 hz2 rfl rfl (.tmp 11) (.tmp 18) rfl w.heap.size _ _ rfl (HO.out.below (below_alloc1 _ _)) _ _ _ [⟨x, k⟩] rfl (TRow.one (heap_new _ _)) (fun e => by cases e) (by rw [HLK.out]; unfold maxLen; omega) (by rw [HLK.out]; omega) (by simp; have := HB.out.size; omega) ?_; intro v2 w2 hown2 hgr2 hl2)
      refine ⟨⟨k + 1, by go_num, by omega, ?_, (HB.out.alloc HB.out.size _).grown hgr2 (by simp; have := HB.out.size; omega) (fun q hq => (HO.out.lt q hq).1)⟩, by simp [intOf]; omega⟩
      rw [tgI_snoc K k x HX.out]
      exact hown2
    · clear ho hb
      go_wp2_with fail
      go_ret
      refine ⟨_, rfl, ?_, HB.out⟩
      have h9 := HO.out
      rw [List.take_of_length_le (by rw [HLN.out]; omega)] at h9
      exact h9
/-- Items in their order, just those of the keys. -/
structure Ordd (M : List It) (K : List Int) : Prop where
  len : M.length = K.length
  key : ∀ (i : Nat) (x : It), M[i]? = some x → ∃ j : Nat, x.t = j ∧ K[j]? = some x.k
  uni : ∀ (i j : Nat) (x y : It), M[i]? = some x → M[j]? = some y → x.t = y.t → i = j
  ord : ∀ (i : Nat) (x y : It), M[i]? = some x → M[i + 1]? = some y → x.k < y.k ∨ (x.k = y.k ∧ x.t < y.t)
theorem ordd_sort (K : List Int) : Ordd ((isort (fst bfI) (tg (tgI K) 0)).map Prod.fst) K := by
  have hp := isort_perm (fst bfI) (tg (tgI K) 0)
  have hs : Srt (fst bfI) (isort (fst bfI) (tg (tgI K) 0)) := isort_srt (fst_ord fun a : It => a.k) _
  have ht : Turns (isort (fst bfI) (tg (tgI K) 0)) := (tg_turns (tgI K) 0).perm hp.symm
  have hel : ∀ e ∈ isort (fst bfI) (tg (tgI K) 0), ∃ j : Nat, e.1.t = j ∧ e.2 = j ∧ K[j]? = some e.1.k := by
    intro e he
    obtain ⟨j, hj⟩ := List.mem_iff_getElem?.mp (hp.mem_iff.mp he)
    rw [tg_get, tgI_get] at hj
    cases hk : K[j]? with
    | none => rw [hk] at hj; simp at hj
    | some x =>
      rw [hk] at hj
      simp at hj
      subst hj
      exact ⟨j, rfl, rfl, by rw [hk]⟩
  generalize isort (fst bfI) (tg (tgI K) 0) = T at hp hs ht hel ⊢
  have hget : ∀ (i : Nat) x, (T.map Prod.fst)[i]? = some x → ∃ e, T[i]? = some e ∧ e.1 = x := by
    intro i x hx
    rw [List.getElem?_map] at hx
    cases he : T[i]? with
    | none => rw [he] at hx; simp at hx
    | some e => rw [he] at hx; exact ⟨e, rfl, by simpa using hx⟩
  refine ⟨by rw [List.length_map, hp.length_eq, tg_len, tgI_len], fun i x hx => ?_, fun i j x y hx hy hxy => ?_, fun i x y hx hy => ?_⟩
  · obtain ⟨e, he, rfl⟩ := hget i x hx
    obtain ⟨j, h1, _, h3⟩ := hel e (List.mem_of_getElem? he)
    exact ⟨j, h1, h3⟩
  · obtain ⟨e, he, rfl⟩ := hget i x hx
    obtain ⟨f, hf, rfl⟩ := hget j y hy
    obtain ⟨j1, a1, a2, _⟩ := hel e (List.mem_of_getElem? he)
    obtain ⟨j2, c1, c2, _⟩ := hel f (List.mem_of_getElem? hf)
    have h9 : e.2 = f.2 := by omega
    have hi := get_lt he
    have hj := get_lt hf
    rw [List.getElem?_eq_getElem hi] at he
    rw [List.getElem?_eq_getElem hj] at hf
    have he' := Option.some.inj he
    have hf' := Option.some.inj hf
    rcases Nat.lt_trichotomy i j with hlt | heq | hgt
    · exact absurd h9 (by rw [← he', ← hf']; exact List.pairwise_iff_getElem.mp ht i j hi hj hlt)
    · exact heq
    · exact absurd h9.symm (by rw [← he', ← hf']; exact List.pairwise_iff_getElem.mp ht j i hj hi hgt)
  · obtain ⟨e, he, rfl⟩ := hget i x hx
    obtain ⟨f, hf, rfl⟩ := hget (i + 1) y hy
    obtain ⟨j1, a1, a2, _⟩ := hel e (List.mem_of_getElem? he)
    obtain ⟨j2, c1, c2, _⟩ := hel f (List.mem_of_getElem? hf)
    have hi := get_lt he
    have hj := get_lt hf
    rw [List.getElem?_eq_getElem hi] at he
    rw [List.getElem?_eq_getElem hj] at hf
    have hne : e.2 ≠ f.2 := by rw [← Option.some.inj he, ← Option.some.inj hf]; exact List.pairwise_iff_getElem.mp ht i (i + 1) hi hj (by omega)
    have hle : fst bfI f e = false := by rw [← Option.some.inj he, ← Option.some.inj hf]; exact List.pairwise_iff_getElem.mp hs i (i + 1) hi hj (by omega)
    unfold fst bfI at hle
    split at hle
    · have : e.1.k < f.1.k := by simpa using hle
      exact .inl this
    · have : ¬ f.1.k < e.1.k := by simpa using hle
      omega
/-- A truth in a row. -/
def layB : Lay Bool := ⟨fun a => [.bool a], 1, by decide, fun _ => rfl, by intro a u hu; simp at hu; subst hu; rfl⟩
theorem Try.info4 : (Try.prog.info? 4).map (fun i => (i.zero, i.size, i.bytes)) = some (some (.bool false), 1, 1) := by kernel_rfl
end Go.Proofs.Ytdmlehbamdcjcab
