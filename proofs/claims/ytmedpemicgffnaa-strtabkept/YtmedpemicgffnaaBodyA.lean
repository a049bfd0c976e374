/-
  One body of a table.
-/
import Derived.Test.YtmedpemicgffnaaCut
import Derived.Test.YtmedpemicgffnaaTabD
import Derived.Lib.AppendStr
namespace Go.Proofs.Ytmedpemicgffnaa
open Go.RowKit Go.Maps
theorem strCells_eq (s : ByteArray) : Lib.strCells s = (sbytes s).map (Value.int .u8) := by
  unfold sbytes; rw [List.map_map]; rfl
/-- 'append(b, s...)' of a string's bytes, b the call's own. -/
theorem append_bytes (w : World) {ops : Array Oper} {rest : List Oper} {o : Oper} {a : Act} {Q : Exit → Act → World → Prop} (hgd : o.guard = none) (sl x : Operand)
    (ho : o.op = .call { callee := .builtin .append, args := #[sl, x], argTypes := #[34, 9] }) (base : Nat)
    (v : Value) (n : Nat) (xs : List Int) (hs : a.eval sl = v) (hown : w.ownsRow base 5 1 v n (xs.map (Value.int .u8)))
    (s : ByteArray) (hx : a.eval x = .string s) (hb : ((n + s.size : Nat) : Int) ≤ 100000000) (hbase : base ≤ w.heap.size)
    (h : ∀ (a' : Option Addr) (c' : Nat) w', w'.ownsRow base 5 1 (.slice a' (n + s.size) c') (n + s.size) ((xs ++ sbytes s).map (Value.int .u8)) → w.grownBy w' v.ownBlock → wpList Try.prog ops Q rest (a.put o.dst (.slice a' (n + s.size) c')) w') : wpList Try.prog ops Q (o :: rest) a w := by
  obtain ⟨i0, hi, hz0, hz1, hz2⟩ := info_parts Try.info5
  refine Lib.wpList_append_own_string w hgd sl x 34 9 ho base 5 i0 Try.underlying34 Try.underlying9 hi hz0 hz1 hz2 v n _ hs hown s hx (by unfold maxLen; omega) (by omega) hbase ?_
  intro v' w' h1 h2 _
  obtain ⟨a', c', rfl⟩ := own_form h1
  exact h a' c' w' (by rw [List.map_append, ← strCells_eq]; exact h1) h2
theorem rsize_any (s : ByteArray) (w : World) (hs : (s.size : Int) ≤ 65536) :
    Calls Try.prog 52 #[.string s] w fun e w' => e = .returned (.int .i64 ((recd s).length : Int)) ∧ w' = w := by
  have HR : Hid ((recd s).length = (enc s.size).length + s.size) := recd_len s
  have h10 := enc_le s.size (by omega)
  obtain ⟨Z, hZ⟩ : ∃ Z : Int, Z = ((s.size : Nat) : Int) := ⟨_, rfl⟩
  have hlen : ∀ (ty : TypeId) (W : World), (Builtin.len_ #[9] ty #[.string s]).run Try.prog W = .ok (.int .i64 Z) W := fun ty W => by rw [hZ]; exact run_len_string W 9 ty s Try.underlying9
  rw [← hZ] at hs
  have hZ0 : 0 ≤ Z := by omega
  have Q := size_any Z w hZ0 (by omega)
  have e1 : Z.toNat = s.size := by omega
  rw [e1] at Q
  have HQ : Hid _ := hide Q
  have HZ : Hid (Z = ((s.size : Nat) : Int)) := hZ
  generalize (recd s).length = R at HR ⊢
  have h10' : ((enc s.size).length : Int) ≤ 10 := by omega
  generalize (enc s.size).length = E at HR HQ h10'
  clear Q e1 hZ h10
  go_enter Try.func52, Try.ntmps52
  go_wp2_with fail
  refine HQ.out.mono ?_
  rintro e w' ⟨rfl, rfl⟩
  go_wp2
  go_ret
  exact ⟨ret_int (by have := HR.out; have := HZ.out; omega), rfl⟩
theorem body_any {w : World} {tb : Nat} {S : Nat → Prop} {L : List ByteArray} {v mv : Value} (h : Tab w tb S L v mv) (first lim : Nat) (hf : first < L.length) (hlim : (lim : Int) ≤ 1048576) :
    Calls Try.prog 45 #[.pointer (some ⟨tb, 0, none⟩), .int .i64 (first : Int), .int .i64 (lim : Int)] w fun e w' => ∃ cnt a c, e = .returned (.tuple #[.slice a (bodyOf L first cnt).length c, .int .i64 ((first : Int) + cnt)]) ∧ Cut L lim first cnt ∧
      w'.ownsRow w.heap.size 5 1 (.slice a (bodyOf L first cnt).length c) (bodyOf L first cnt).length ((bodyOf L first cnt).map (Value.int .u8)) ∧ Below w.heap.size w w' := by
  have H : Hid (Tab w tb S L v mv) := h
  have hfi : (first : Int) ≤ 65536 := by have := h.len; omega
  have hLi : (L.length : Int) ≤ 65536 := by have := h.len; omega
  have c0 := h.cell0
  obtain ⟨a, c, rfl⟩ := own_form h.own
  obtain ⟨b, off, rfl, hcl⟩ := (SRow.of_own h.own).at hf
  have hcf : ¬ c = first := by
    rcases h.own.2 with ⟨e, _⟩ | ⟨g, cap, cur, e, _, _, hc, _⟩
    · cases e
    · cases e; omega
  have Q := uv_any first w (by omega) (by omega)
  rw [Int.toNat_natCast] at Q
  have HQ : Hid _ := hide Q
  clear Q h hcl
  go_enter Try.func45, Try.ntmps45
  go_wp2_with fail
  refine HQ.out.mono ?_
  rintro e w1 ⟨c1, rfl, ho, hb⟩
  have HO : Hid _ := hide ho
  have HB : Hid (Below w.heap.size w w1) := hb
  have d0 : w1.cell? ⟨tb, 0, none⟩ = some (.slice (some ⟨b, off, none⟩) L.length c) := by rw [hb.cell (p := ⟨tb, 0, none⟩) H.out.lt]; exact c0
  clear ho hb c0
  go_wp2
  obtain ⟨m, hm⟩ : ∃ m, L.length = first + m := ⟨L.length - first, by omega⟩
  have hm' : L.length - first = m := by omega
  have HM : Hid (L.length = first + m) := hm
  have hmi : (m : Int) ≤ 65536 := by omega
  rw [hm']
  clear hm' hm hcf
  go_loopw [8, 21] (fun o i wr => ∃ (k : Nat) (a' : Option Addr) (c' : Nat), k ≤ m ∧ i = .int .i64 k ∧ o = .slice a' (bodyOf L first k).length c' ∧ wr.ownsRow w.heap.size 5 1 (.slice a' (bodyOf L first k).length c') (bodyOf L first k).length ((bodyOf L first k).map (Value.int .u8)) ∧ Below w.heap.size w wr ∧ (1 < k → (bodyOf L first k).length ≤ lim)) (fun _ i _ => m - (intOf i).toNat)
  case atStart => exact ⟨0, some ⟨w.heap.size, 0, none⟩, c1, Nat.zero_le _, rfl, by rw [bodyOf_zero], by rw [bodyOf_zero]; exact HO.out, HB.out, fun h => by omega⟩
  case round =>
    clear d0
    obtain ⟨k, a', c', hk, rfl, rfl, hown, hbel, hfit⟩ := hrel
    have HF : Hid (1 < k → (bodyOf L first k).length ≤ lim) := hfit
    have hBl : ((bodyOf L first k).length : Int) ≤ 10000000 := by have := bodyOf_len (Nat.le_of_lt hf) H.out.len H.out.sum H.out.small k; omega
    have HBr : Hid (Below w.heap.size w wr) := hbel
    have d0 : wr.cell? ⟨tb, 0, none⟩ = some (.slice (some ⟨b, off, none⟩) L.length c) := by rw [hbel.cell (p := ⟨tb, 0, none⟩) H.out.lt]; exact H.out.cell0
    by_cases hlt : k < m
    · obtain ⟨b', off', e', hcell⟩ := ((SRow.of_own H.out.own).below hbel).at (i := first + k) (by have := HM.out; omega)
      cases e'
      rw [← Nat.add_assoc] at hcell
      have hsk : Hid (L[first + k]? = some (L.getD (first + k) ByteArray.empty)) := hide (by rw [List.getD_eq_getElem?_getD]; have := HM.out; simp [show first + k < L.length by omega])
      have hsz : ((L.getD (first + k) ByteArray.empty).size : Int) ≤ 65536 := by have := H.out.small _ (List.mem_of_getElem? hsk.out); omega
      generalize L.getD (first + k) ByteArray.empty = s at hcell hsk hsz
      have HW : Hid (wr.ownsRow w.heap.size 5 1 (.slice a' (bodyOf L first k).length c') (bodyOf L first k).length ((bodyOf L first k).map (Value.int .u8))) := hown
      obtain ⟨B, hB⟩ : ∃ B, B = bodyOf L first k := ⟨_, rfl⟩
      rw [← hB] at hBl HW HF ⊢
      have HBo : Hid (bodyOf L first k = B) := hB.symm
      have hR := rsize_any s wr hsz
      have h10 : ((enc s.size).length : Int) ≤ 10 := by have := enc_le s.size (by omega); omega
      obtain ⟨Z, hZ⟩ : ∃ Z : Int, Z = ((s.size : Nat) : Int) := ⟨_, rfl⟩
      have hlen : ∀ (ty : TypeId) (W : World), (Builtin.len_ #[9] ty #[.string s]).run Try.prog W = .ok (.int .i64 Z) W := fun ty W => by rw [hZ]; exact run_len_string W 9 ty s Try.underlying9
      have hZ0 : 0 ≤ Z := by omega
      have hZ6 : Z ≤ 65536 := by omega
      have hU := uv_any Z wr hZ0 (by omega)
      rw [show Z.toNat = s.size by omega] at hU
      have HU : Hid _ := hide hU
      have HR : Hid _ := hide hR
      have HZ : Hid (Z = ((s.size : Nat) : Int)) := hZ
      obtain ⟨R, hRd⟩ : ∃ R : Int, R = ((recd s).length : Int) := ⟨_, rfl⟩
      rw [← hRd] at HR
      have hR6 : 0 ≤ R ∧ R ≤ 65546 := by rw [hRd, recd_len]; omega
      have HRd : Hid (R = ((recd s).length : Int)) := hRd
      clear hU hR hZ hown hbel hfit hB hsz hRd d0
      by_cases hk0 : k = 0
      · have HK0 : Hid (k = 0) := hk0
        subst hk0
        rw [Nat.add_zero] at hcell
        go_wp2_with fail
        refine HU.out.mono ?_
        rintro e w2 ⟨c2, rfl, ho2, hb2⟩
        have HO2 : Hid (w2.ownsRow wr.heap.size 5 1 (.slice (some ⟨wr.heap.size, 0, none⟩) (enc s.size).length c2) (enc s.size).length ((enc s.size).map (Value.int .u8))) := ho2
        have HB2 : Hid (Below wr.heap.size wr w2) := hb2
        have HW2 : Hid (w2.ownsRow w.heap.size 5 1 (.slice a' B.length c') B.length (B.map (Value.int .u8))) := hide (own_but (S := fun _ => False) HW.out (But.of_below hb2) (fun _ _ e => e))
        have hws : w.heap.size ≤ w2.heap.size := Nat.le_trans HBr.out.size hb2.size
        clear ho2 hb2
        go_wp2_with (first
          | (at_builtin; refine append_row _ rfl _ _ rfl w.heap.size (.slice a' B.length c') B.length B rfl HW2.out (some ⟨wr.heap.size, 0, none⟩) (enc s.size).length c2 (enc s.size) rfl (own_row_u8 HO2.out (u8_of_mem (enc_mem _))) (fun h => by cases h) (by omega) hws ?_
             intro v3 w3 o3 g3
             obtain ⟨a3, c3, rfl⟩ := own_formB o3
             have O3 : Hid (w3.ownsRow w.heap.size 5 1 (.slice a3 (B.length + (enc s.size).length) c3) (B.length + (enc s.size).length) ((B ++ enc s.size).map (Value.int .u8))) := o3
             have G3 : Hid (w2.grownBy w3 (Value.slice a' B.length c').ownBlock) := g3
             have hws3 : w.heap.size ≤ w3.heap.size := Nat.le_trans hws g3.size
             clear o3 g3)
          | (at_builtin; refine append_bytes _ rfl _ _ rfl w.heap.size (.slice a3 (B.length + (enc s.size).length) c3) (B.length + (enc s.size).length) (B ++ enc s.size) rfl O3.out s rfl (by have := HZ.out; omega) hws3 ?_
             intro a4 c4 w4 o4 g4
             have O4 : Hid (w4.ownsRow w.heap.size 5 1 (.slice a4 (B.length + (enc s.size).length + s.size) c4) (B.length + (enc s.size).length + s.size) ((B ++ enc s.size ++ sbytes s).map (Value.int .u8))) := o4
             have G4 : Hid (w3.grownBy w4 (Value.slice a3 (B.length + (enc s.size).length) c3).ownBlock) := g4
             clear o4 g4)
          | go_in)
        have eB : bodyOf L first (0 + 1) = B ++ enc s.size ++ sbytes s := by rw [bodyOf_succ hsk.out, HBo.out]; unfold recd; rw [List.append_assoc]
        have eL : (bodyOf L first (0 + 1)).length = B.length + (enc s.size).length + s.size := by rw [eB, List.length_append, List.length_append, sbytes_len]
        refine ⟨⟨0 + 1, a4, c4, by omega, by go_num, by rw [eL], by rw [eL, eB]; exact O4.out, ?_, ?_⟩, by simp [intOf]; omega⟩
        · exact (((HBr.out.trans (HB2.out.mono HBr.out.size)).grown G3.out hws (fun j hj => (HW2.out.lt j hj).1)).grown G4.out hws3 (fun j hj => (O3.out.lt j hj).1))
        · intro h; omega
      · have hk1 : 0 < k := by omega
        go_wp2_with fail
        refine HR.out.mono ?_
        rintro e w5 ⟨rfl, rfl⟩
        by_cases hle : (lim : Int) < (B.length : Int) + R
        · have HLE : Hid ((lim : Int) < (B.length : Int) + R) := hle
          go_wp2
          go_ret2
          refine ⟨k, a', c', by rw [HBo.out]; rfl, ⟨hk1, by have := HM.out; omega, ?_, ?_⟩, by rw [HBo.out]; exact HW.out, HBr.out⟩
          · intro h; have := HF.out h; rw [HBo.out]; exact this
          · intro s' hs'; rw [hsk.out] at hs'; cases hs'; rw [HBo.out]; have := HRd.out; have := HLE.out; omega
        · have hle : Hid (¬ (lim : Int) < (B.length : Int) + R) := hle
          have q1 : decide ((lim : Int) < (B.length : Int) + R) = false := decide_eq_false hle.out
          go_wp2_with fail
          refine HU.out.mono ?_
          rintro e w2 ⟨c2, rfl, ho2, hb2⟩
          have HO2 : Hid (w2.ownsRow w5.heap.size 5 1 (.slice (some ⟨w5.heap.size, 0, none⟩) (enc s.size).length c2) (enc s.size).length ((enc s.size).map (Value.int .u8))) := ho2
          have HB2 : Hid (Below w5.heap.size w5 w2) := hb2
          have HW2 : Hid (w2.ownsRow w.heap.size 5 1 (.slice a' B.length c') B.length (B.map (Value.int .u8))) := hide (own_but (S := fun _ => False) HW.out (But.of_below hb2) (fun _ _ e => e))
          have hws : w.heap.size ≤ w2.heap.size := Nat.le_trans HBr.out.size hb2.size
          clear ho2 hb2
          go_wp2_with (first
            | (at_builtin; refine append_row _ rfl _ _ rfl w.heap.size (.slice a' B.length c') B.length B rfl HW2.out (some ⟨w5.heap.size, 0, none⟩) (enc s.size).length c2 (enc s.size) rfl (own_row_u8 HO2.out (u8_of_mem (enc_mem _))) (fun h => by cases h) (by omega) hws ?_
               intro v3 w3 o3 g3
               obtain ⟨a3, c3, rfl⟩ := own_formB o3
               have O3 : Hid (w3.ownsRow w.heap.size 5 1 (.slice a3 (B.length + (enc s.size).length) c3) (B.length + (enc s.size).length) ((B ++ enc s.size).map (Value.int .u8))) := o3
               have G3 : Hid (w2.grownBy w3 (Value.slice a' B.length c').ownBlock) := g3
               have hws3 : w.heap.size ≤ w3.heap.size := Nat.le_trans hws g3.size
               clear o3 g3)
            | (at_builtin; refine append_bytes _ rfl _ _ rfl w.heap.size (.slice a3 (B.length + (enc s.size).length) c3) (B.length + (enc s.size).length) (B ++ enc s.size) rfl O3.out s rfl (by have := HZ.out; omega) hws3 ?_
               intro a4 c4 w4 o4 g4
               have O4 : Hid (w4.ownsRow w.heap.size 5 1 (.slice a4 (B.length + (enc s.size).length + s.size) c4) (B.length + (enc s.size).length + s.size) ((B ++ enc s.size ++ sbytes s).map (Value.int .u8))) := o4
               have G4 : Hid (w3.grownBy w4 (Value.slice a3 (B.length + (enc s.size).length) c3).ownBlock) := g4
               clear o4 g4)
            | go_in)
          have eB : bodyOf L first (k + 1) = B ++ enc s.size ++ sbytes s := by rw [bodyOf_succ hsk.out, HBo.out]; unfold recd; rw [List.append_assoc]
          have eL : (bodyOf L first (k + 1)).length = B.length + (enc s.size).length + s.size := by rw [eB, List.length_append, List.length_append, sbytes_len]
          refine ⟨⟨k + 1, a4, c4, by omega, by go_num, by rw [eL], by rw [eL, eB]; exact O4.out, ?_, ?_⟩, by simp [intOf]; omega⟩
          · exact (((HBr.out.trans (HB2.out.mono HBr.out.size)).grown G3.out hws (fun j hj => (HW2.out.lt j hj).1)).grown G4.out hws3 (fun j hj => (O3.out.lt j hj).1))
          · intro _; rw [eL]; have := HRd.out; rw [recd_len] at this; have := hle.out; omega

    · have hkm : k = m := by omega
      subst hkm
      have HW : Hid (wr.ownsRow w.heap.size 5 1 (.slice a' (bodyOf L first k).length c') (bodyOf L first k).length ((bodyOf L first k).map (Value.int .u8))) := hown
      clear hown hbel hfit
      go_wp2
      go_quiet (fail)
      go_wp2
      go_ret2
      refine ⟨k, a', c', ?_, ⟨by have := HM.out; omega, by have := HM.out; omega, HF.out, ?_⟩, own_but (S := fun _ => False) HW.out (But.of_below (below_drewN (Below.refl _ _) nq)) (fun _ _ e => e), below_drewN HBr.out nq⟩
      · show Ending.returned (.tuple #[_, .int .i64 ((L.length : Nat) : Int)]) = _
        rw [HM.out, Int.natCast_add]; rfl
      · intro s hs
        have := (List.getElem?_eq_some_iff.1 hs).1
        have := HM.out
        omega
end Go.Proofs.Ytmedpemicgffnaa
