/-
  Streams as mathematics: the first fault, the bodies, what is read off one.
-/
import Derived.Test.YtdppbaipmmcjbaaDoorGetN
namespace Go.Proofs.YtdppbaipmmcjbaaDoor
open Go.RowKit
/-- The first fault of records, if the first one must have at least the stamp m. -/
def strE : Int → List Rc → Int
  | _, [] => 0
  | m, r :: l => if putE St.zero r ≠ 0 then putE St.zero r else if r.stamp < m then 80 else strE (r.stamp + 1) l
/-- Records told one behind the other. -/
def encs : St → List Rc → List Int
  | _, [] => []
  | s, r :: l => text s r ++ encs (behindS r) l
/-- The bodies of a stream, behind a body under way. -/
def cutS (lim : Nat) : List Int → St → List Rc → List (List Int)
  | b, _, [] => if b = [] then [] else [b]
  | b, s, r :: l => if lim < b.length + (text s r).length then b :: cutS lim (text St.zero r) (behindS r) l else cutS lim (b ++ text s r) (behindS r) l
theorem drop_get {α : Type} {L : List α} {k : Nat} {r : α} (h : L[k]? = some r) : L.drop k = r :: L.drop (k + 1) := by
  rw [List.drop_eq_getElem_cons (List.getElem?_eq_some_iff.1 h).1, (List.getElem?_eq_some_iff.1 h).2]
theorem strE_bad {m : Int} {L : List Rc} {k : Nat} {r : Rc} (h : L[k]? = some r) (hp : putE St.zero r ≠ 0) : strE m (L.drop k) = putE St.zero r := by
  rw [drop_get h, strE, if_pos hp]
theorem strE_low {m : Int} {L : List Rc} {k : Nat} {r : Rc} (h : L[k]? = some r) (hp : putE St.zero r = 0) (hm : r.stamp < m) : strE m (L.drop k) = 80 := by
  rw [drop_get h, strE, if_neg (by omega), if_pos hm]
theorem strE_on {m : Int} {L : List Rc} {k : Nat} {r : Rc} (h : L[k]? = some r) (hp : putE St.zero r = 0) (hm : ¬ r.stamp < m) : strE m (L.drop k) = strE (r.stamp + 1) (L.drop (k + 1)) := by
  rw [drop_get h, strE, if_neg (by omega), if_neg hm]
theorem cutS_full {lim : Nat} {b : List Int} {s : St} {L : List Rc} {k : Nat} {r : Rc} (h : L[k]? = some r) (hl : lim < b.length + (text s r).length) : cutS lim b s (L.drop k) = b :: cutS lim (text St.zero r) (behindS r) (L.drop (k + 1)) := by
  rw [drop_get h, cutS, if_pos hl]
theorem cutS_room {lim : Nat} {b : List Int} {s : St} {L : List Rc} {k : Nat} {r : Rc} (h : L[k]? = some r) (hl : ¬ lim < b.length + (text s r).length) : cutS lim b s (L.drop k) = cutS lim (b ++ text s r) (behindS r) (L.drop (k + 1)) := by
  rw [drop_get h, cutS, if_neg hl]
theorem putE_codes (s : St) (r : Rc) : putE s r = 71 ∨ putE s r = 60 ∨ putE s r = 70 ∨ putE s r = 0 := by
  unfold putE
  split
  · exact .inl rfl
  · split
    · exact .inr (.inl rfl)
    · split
      · exact .inr (.inr (.inl rfl))
      · split
        · exact .inl rfl
        · exact .inr (.inr (.inr rfl))
theorem strE_ne2 : ∀ (L : List Rc) (m : Int), strE m L ≠ 2
  | [], _ => by rw [strE]; decide
  | r :: l, m => by
    rw [strE]
    split
    · have := putE_codes St.zero r; omega
    · split
      · decide
      · exact strE_ne2 l _
/-- A record that may be, against any state that stands ahead of it. -/
theorem putE_upon {s : St} {r : Rc} (h : putE St.zero r = 0) (hs : mayS s.stamp s.stack = true) (hl : s.stamp ≤ r.stamp) : putE s r = 0 := by
  have h1 := putE_ok h
  have h2 := of_decide_eq_true hs
  exact putE_of (by omega)
theorem may_behind {s : St} {r : Rc} (h : putE s r = 0) : mayS (behindS r).stamp (behindS r).stack = true := by
  have h1 := putE_ok h
  exact decide_eq_true (by dsimp only [behindS]; omega)
theorem putE_zero {s : St} {r : Rc} (h : putE s r = 0) : putE St.zero r = 0 := by
  have h1 := putE_ok h
  exact putE_of (by dsimp only [St.zero]; omega)
/-! ### a stream's bodies -/
/-- The parts of a stream, likewise. -/
def cutP (lim : Nat) : List Int → St → List Rc → List Rc → List (List Rc)
  | b, _, cur, [] => if b = [] then [] else [cur]
  | b, s, cur, r :: l => if lim < b.length + (text s r).length then cur :: cutP lim (text St.zero r) (behindS r) [r] l else cutP lim (b ++ text s r) (behindS r) (cur ++ [r]) l
def fin : St → List Rc → St
  | s, [] => s
  | _, r :: l => fin (behindS r) l
theorem encs_snoc : ∀ (L : List Rc) (s : St) (r : Rc), encs s (L ++ [r]) = encs s L ++ text (fin s L) r
  | [], s, r => by simp [encs, fin]
  | x :: l, s, r => by rw [List.cons_append, encs, encs_snoc l, encs, fin, List.append_assoc]
theorem fin_snoc : ∀ (L : List Rc) (s : St) (r : Rc), fin s (L ++ [r]) = behindS r
  | [], s, r => rfl
  | x :: l, s, r => by rw [List.cons_append, fin, fin_snoc l]
theorem cutS_P (lim : Nat) : ∀ (L : List Rc) (b : List Int) (s : St) (cur : List Rc), b = encs St.zero cur → s = fin St.zero cur → cutS lim b s L = (cutP lim b s cur L).map (encs St.zero)
  | [], b, s, cur, hb, hs => by
    rw [cutS, cutP]
    split
    · rfl
    · rw [hb]; rfl
  | r :: l, b, s, cur, hb, hs => by
    rw [cutS, cutP]
    split
    · rw [List.map_cons, ← hb, cutS_P lim l (text St.zero r) (behindS r) [r] (by simp [encs]) rfl]
    · rw [cutS_P lim l _ _ (cur ++ [r]) (by rw [encs_snoc, ← hb, ← hs]) (by rw [fin_snoc])]
/-! ### reading -/
def chk (zs : List Int) : Nat → St → Nat → List Rc → List Rc × Int
  | 0, _, _, acc => (acc, 0)
  | n + 1, s, t, acc => if zs.length ≤ t then (acc, 0) else if (getG s zs t).2.2 ≠ 0 then ([], (getG s zs t).2.2) else chk zs n (behindS (getG s zs t).1) (getG s zs t).2.1.toNat (acc ++ [(getG s zs t).1])
def chunkV (zs : List Int) : List Rc × Int := if zs.length = 0 then ([], 42) else chk zs zs.length St.zero 0 []
theorem chk_end {zs : List Int} {n : Nat} {s : St} {t : Nat} {acc : List Rc} (h : zs.length ≤ t) : chk zs n s t acc = (acc, 0) := by
  cases n with
  | zero => rfl
  | succ n => rw [chk, if_pos h]
theorem chk_bad {zs : List Int} {n : Nat} {s : St} {t : Nat} {acc : List Rc} (h : t < zs.length) (hn : zs.length - t ≤ n) (he : (getG s zs t).2.2 ≠ 0) : chk zs n s t acc = ([], (getG s zs t).2.2) := by
  cases n with
  | zero => omega
  | succ n => rw [chk, if_neg (by omega), if_pos he]
theorem chk_on {zs : List Int} {n : Nat} {s : St} {t : Nat} {acc : List Rc} {r : Rc} {q : Nat} (h : t < zs.length) (hn : zs.length - t ≤ n) (he : getG s zs t = (r, (q : Int), 0)) (hq : t < q) : ∃ m, zs.length - q ≤ m ∧ chk zs n s t acc = chk zs m (behindS r) q (acc ++ [r]) := by
  cases n with
  | zero => omega
  | succ n =>
    refine ⟨n, by omega, ?_⟩
    rw [chk, if_neg (by omega), he, if_neg (by simp)]
    simp
theorem getG_in {s : St} {zs : List Int} {t : Nat} (hs : mayS s.stamp s.stack = true) (ht : t ≤ zs.length) : getG s zs t = readG s zs t := by
  unfold getG
  rw [if_neg (by simp [hs]), if_neg (by omega), Int.toNat_natCast]
theorem get_inv {s : St} {zs : List Int} {t : Nat} (hs : mayS s.stamp s.stack = true) (hso : s.ok) (hu : ∀ i : Nat, 0 ≤ zs[i]?.getD 0 ∧ zs[i]?.getD 0 ≤ 255) (ht : t ≤ zs.length) (h : (getG s zs t).2.2 = 0) :
    ∃ (r : Rc) (q : Nat), getG s zs t = (r, (q : Int), 0) ∧ putE s r = 0 ∧ r.ok ∧ t < q ∧ q ≤ zs.length ∧ sl zs t q = text s r := by
  rw [getG_in hs ht] at h ⊢
  obtain ⟨⟨r, p, e⟩, hx⟩ : ∃ x, x = readG s zs t := ⟨_, rfl⟩
  rw [← hx] at h ⊢
  dsimp only at h
  subst h
  obtain ⟨h1, h2, q, rfl, h3, h4, h5⟩ := read_inv hs hso hu ht hx.symm
  exact ⟨r, q, rfl, h1, h2, h3, h4, h5⟩
theorem ok_behind {r : Rc} (h : r.ok) : (behindS r).ok := ⟨h.o0, h.o1⟩
/-- What is read was written. -/
theorem chk_inv {zs : List Int} (hu : ∀ i : Nat, 0 ≤ zs[i]?.getD 0 ∧ zs[i]?.getD 0 ≤ 255) : ∀ (n : Nat) (s : St) (t : Nat) (acc L : List Rc), mayS s.stamp s.stack = true → s.ok → t ≤ zs.length → zs.length - t ≤ n → chk zs n s t acc = (L, 0) →
    ∃ M, L = acc ++ M ∧ zs.drop t = encs s M ∧ strE s.stamp M = 0 ∧ (∀ r ∈ M, r.ok)
  | 0, s, t, acc, L, hs, hso, ht, hn, h => by
    have e : acc = L := congrArg Prod.fst h
    subst e
    exact ⟨[], by simp, by rw [List.drop_eq_nil_of_le (by omega)]; rfl, rfl, by simp⟩
  | n + 1, s, t, acc, L, hs, hso, ht, hn, h => by
    rw [chk] at h
    by_cases hl : zs.length ≤ t
    · rw [if_pos hl] at h
      have e : acc = L := congrArg Prod.fst h
      subst e
      exact ⟨[], by simp, by rw [List.drop_eq_nil_of_le (by omega)]; rfl, rfl, by simp⟩
    · rw [if_neg hl] at h
      by_cases he : (getG s zs t).2.2 = 0
      · rw [if_neg (by omega)] at h
        obtain ⟨r, q, e1, hp, hr, h3, h4, h5⟩ := get_inv hs hso hu ht he
        rw [e1] at h
        dsimp only at h
        rw [Int.toNat_natCast] at h
        obtain ⟨M, e2, e3, e4, e5⟩ := chk_inv hu n (behindS r) q _ L (may_behind hp) (ok_behind hr) h4 (by omega) h
        refine ⟨r :: M, by rw [e2]; simp, ?_, ?_, ?_⟩
        · rw [encs, ← e3, ← h5]
          unfold sl
          rw [show zs.drop q = (zs.drop t).drop (q - t) by rw [List.drop_drop]; congr 1; omega, List.take_append_drop]
        · have := putE_ok hp
          rw [strE, if_neg (by rw [putE_zero hp]; simp), if_neg (by omega)]
          exact e4
        · intro x hx
          rcases List.mem_cons.1 hx with rfl | hx
          · exact hr
          · exact e5 x hx
      · rw [if_pos he] at h
        exact absurd (congrArg Prod.snd h) he
theorem getG_text {s : St} {r : Rc} {pre rest zs : List Int} (hp : putE s r = 0) (hr : r.ok) (hz : zs = pre ++ (text s r ++ rest)) : getG s zs (pre.length : Nat) = (r, (((pre ++ text s r).length : Nat) : Int), (0 : Int)) := by
  have h1 := putE_ok hp
  rw [getG_in (decide_eq_true (by omega)) (by rw [hz]; simp)]
  exact read_text hp hr hz
/-- What is written is read. -/
theorem chk_text {zs : List Int} : ∀ (M : List Rc) (n : Nat) (s : St) (pre : List Int) (acc : List Rc), mayS s.stamp s.stack = true → strE s.stamp M = 0 → (∀ r ∈ M, r.ok) → zs = pre ++ encs s M → zs.length - pre.length ≤ n → chk zs n s pre.length acc = (acc ++ M, 0)
  | [], n, s, pre, acc, hs, h1, h2, hz, hn => by
    rw [chk_end (by rw [hz]; simp [encs]), List.append_nil]
  | r :: M, n, s, pre, acc, hs, h1, h2, hz, hn => by
    rw [strE] at h1
    split at h1
    · rename_i h; exact absurd h1 h
    · rename_i h
      have hp0 : putE St.zero r = 0 := by simpa using h
      split at h1
      · exact absurd h1 (by decide)
      · rename_i hlow
        have hp := putE_upon hp0 hs (by omega)
        have hr := h2 r (by simp)
        have hl := text_len hp hr
        have hg := getG_text (pre := pre) (rest := encs (behindS r) M) hp hr hz
        have hlt : pre.length < zs.length := by rw [hz, encs]; simp; omega
        obtain ⟨m, hm, e⟩ := chk_on (acc := acc) (q := (pre ++ text s r).length) hlt hn hg (by simp; omega)
        rw [e, chk_text M m (behindS r) (pre ++ text s r) (acc ++ [r]) (may_behind hp) h1 (fun x hx => h2 x (by simp [hx])) (by rw [hz, encs, List.append_assoc]) hm]
        simp
theorem may_zero : mayS St.zero.stamp St.zero.stack = true := by decide
theorem ok_zero : St.zero.ok := ⟨by decide, by decide⟩
theorem chunk_inv {zs : List Int} {L : List Rc} (hu : ∀ i : Nat, 0 ≤ zs[i]?.getD 0 ∧ zs[i]?.getD 0 ≤ 255) (h : chunkV zs = (L, 0)) : zs.length ≠ 0 ∧ zs = encs St.zero L ∧ strE 0 L = 0 ∧ (∀ r ∈ L, r.ok) ∧ L ≠ [] := by
  unfold chunkV at h
  split at h
  · exact absurd (congrArg Prod.snd h) (by simp)
  · rename_i hz
    obtain ⟨M, e1, e2, e3, e4⟩ := chk_inv hu zs.length St.zero 0 [] L may_zero ok_zero (Nat.zero_le _) (by omega) h
    rw [List.nil_append] at e1
    subst e1
    rw [List.drop_zero] at e2
    refine ⟨hz, e2, e3, e4, ?_⟩
    intro e
    subst e
    rw [e2] at hz
    exact hz rfl
theorem chunk_text {L : List Rc} (h1 : strE 0 L = 0) (h2 : ∀ r ∈ L, r.ok) (h3 : L ≠ []) : chunkV (encs St.zero L) = (L, 0) := by
  have h := chk_text (zs := encs St.zero L) L (encs St.zero L).length St.zero [] [] may_zero h1 h2 (by simp) (by simp)
  unfold chunkV
  rw [if_neg ?_]
  · simpa using h
  · cases L with
    | nil => exact absurd rfl h3
    | cons r l => rw [encs]; unfold text; simp
/-- Errors in reading are no ErrArg. -/
theorem rd_ne2 : ∀ (l : List Int) (p : Int) (k : Nat) (X : Int), (rd l p k X).2.2 ≠ 2
  | [], _, _, _ => by rw [rd]; decide
  | c :: l, p, k, X => by
    rw [rd]
    repeat' split
    all_goals first | decide | exact rd_ne2 l _ _ _ | simp
theorem rdAt_ne2 {zs : List Int} {t : Nat} (h : t ≤ zs.length) : (rdAt zs t).2.2 ≠ 2 := by
  rw [rdAt_good h]; exact rd_ne2 _ _ _ _
theorem told_ne2 {b : Int} {f : Rc → Int → Ans} {x : Ans} {n : Nat} (hx : x.2.2 ≠ 2) (hp : x.2.2 = 0 → 0 ≤ x.2.1 ∧ x.2.1 ≤ n) (hf : ∀ r (p : Nat), p ≤ n → (f r p).2.2 ≠ 2 ∧ ((f r p).2.2 = 0 → 0 ≤ (f r p).2.1 ∧ (f r p).2.1 ≤ n)) :
    (told b f x).2.2 ≠ 2 ∧ ((told b f x).2.2 = 0 → 0 ≤ (told b f x).2.1 ∧ (told b f x).2.1 ≤ n) := by
  unfold told
  split
  · exact ⟨hx, hp⟩
  · rename_i h0
    have h0' : x.2.2 = 0 := by simpa using h0
    obtain ⟨p, hpe⟩ : ∃ p : Nat, x.2.1 = p := ⟨x.2.1.toNat, by have := hp h0'; omega⟩
    have hfp := hf x.1 p (by have := hp h0'; omega)
    split
    · exact ⟨hx, hp⟩
    · rw [hpe]
      split
      · exact ⟨hfp.1, fun e => absurd e ‹_›⟩
      · split
        · exact ⟨by simp [bad], fun e => absurd e (by simp [bad])⟩
        · exact hfp
theorem pK_err (zs : List Int) (r : Rc) (p : Int) : (pK zs r p).2.2 = 71 ∨ (pK zs r p).2.2 = (rdAt zs p).2.2 := by
  by_cases hk : farK zs r p
  · left; exact if_pos hk
  · right; exact if_neg hk
theorem readG_ne2 {s : St} {zs : List Int} {t : Nat} (ht : t ≤ zs.length) : (readG s zs t).2.2 ≠ 2 := by
  unfold readG
  split
  · decide
  · rename_i h0
    split
    · decide
    · split
      · exact rdAt_ne2 (t := t + 1) (by omega)
      · rename_i h1
        have hq := rdAt_place (t := ((t + 1 : Nat) : Int)) (zs := zs) (by simpa using h1)
        rw [show ((t + 1 : Nat) : Int) = (t : Int) + 1 by omega] at hq
        have hpl : ∀ p : Nat, p ≤ zs.length → (rdAt zs p).2.2 ≠ 2 ∧ ((rdAt zs p).2.2 = 0 → 0 ≤ (rdAt zs p).2.1 ∧ (rdAt zs p).2.1 ≤ zs.length) := fun p hp => ⟨rdAt_ne2 hp, fun e => by have := rdAt_place e; omega⟩
        split
        · decide
        · refine (told_ne2 (n := zs.length) ?_ ?_ ?_).1
          · refine (told_ne2 (n := zs.length) ?_ ?_ ?_).1
            · refine (told_ne2 (n := zs.length) (by simp) (fun _ => by dsimp only; omega) ?_).1
              intro r p hp; exact hpl p hp
            · refine (told_ne2 (n := zs.length) (by simp) (fun _ => by dsimp only; omega) ?_).2
              intro r p hp; exact hpl p hp
            · intro r p hp; exact hpl p hp
          · refine (told_ne2 (n := zs.length) ?_ ?_ ?_).2
            · refine (told_ne2 (n := zs.length) (by simp) (fun _ => by dsimp only; omega) ?_).1
              intro r p hp; exact hpl p hp
            · refine (told_ne2 (n := zs.length) (by simp) (fun _ => by dsimp only; omega) ?_).2
              intro r p hp; exact hpl p hp
            · intro r p hp; exact hpl p hp
          · intro r p hp
            have h9 := hpl p hp
            rcases pK_err zs r p with e | e
            · rw [e]; exact ⟨by decide, fun e2 => absurd e2 (by decide)⟩
            · rw [e]; exact h9
theorem chk_ne2 {zs : List Int} (hu : ∀ i : Nat, 0 ≤ zs[i]?.getD 0 ∧ zs[i]?.getD 0 ≤ 255) : ∀ (n : Nat) (s : St) (t : Nat) (acc : List Rc), mayS s.stamp s.stack = true → s.ok → t ≤ zs.length → (chk zs n s t acc).2 ≠ 2 ∧ ((chk zs n s t acc).2 ≠ 0 → (chk zs n s t acc).1 = [])
  | 0, s, t, acc, hs, hso, ht => by rw [chk]; exact ⟨by simp, fun h => absurd rfl h⟩
  | n + 1, s, t, acc, hs, hso, ht => by
    rw [chk]
    split
    · exact ⟨by simp, fun h => absurd rfl h⟩
    · split
      · refine ⟨?_, fun _ => rfl⟩
        rw [getG_in hs ht]; exact readG_ne2 ht
      · rename_i h1 h2
        obtain ⟨r, q, e1, hp, hr, h3, h4, h5⟩ := get_inv hs hso hu ht (by simpa using h2)
        rw [e1]
        dsimp only
        rw [Int.toNat_natCast]
        exact chk_ne2 hu n (behindS r) q _ (may_behind hp) (ok_behind hr) h4
theorem chunk_ne2 {zs : List Int} (hu : ∀ i : Nat, 0 ≤ zs[i]?.getD 0 ∧ zs[i]?.getD 0 ≤ 255) : (chunkV zs).2 ≠ 2 ∧ ((chunkV zs).2 ≠ 0 → (chunkV zs).1 = []) := by
  unfold chunkV
  split
  · exact ⟨by decide, fun _ => rfl⟩
  · exact chk_ne2 hu _ _ _ _ may_zero ok_zero (Nat.zero_le _)
end Go.Proofs.YtdppbaipmmcjbaaDoor
