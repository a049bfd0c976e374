/-
  EventParts, whatever comes.
-/
import Derived.Test.YtifbehkdhalfcaaDoorParB
import Derived.Test.YtifbehkdhalfcaaDoorParC
import Derived.Test.YtifbehkdhalfcaaDoorEvtO
namespace Go.Proofs.YtifbehkdhalfcaaDoor
open Go.RowKit Go.Maps Go.Shelf
theorem bounds_nil : bounds [] = (-1, 0) := by unfold bounds; rw [if_pos (by simp), bnd]
set_option maxRecDepth 8000 in
set_option maxHeartbeats 4000000 in
theorem parts_nil (ka : Option Addr) (kn kc : Nat) (cut : Int) (w : World) (h : Kr w) :
    Calls Tryd.prog 4 #[.slice none 0 0, .slice ka kn kc, .int .i64 cut] w fun r w' => r = .returned (.bool true) ∧ Below w.heap.size w w' := by
  have HAl : Hid _ := hide (alive_any w h)
  have HK : Hid _ := hide h
  have HQ : Hid (∀ W, Kr W → Calls Tryd.prog 10 #[.slice none 0 0] W fun r w' => r = .returned (.tuple #[.int .i64 (-1), .int .i64 0]) ∧ Below W.heap.size W w') := hide (fun W hW => by
    have := bounds_any none 0 0 [] W hW ⟨rfl, .inl rfl⟩ (by intro e he; simp at he) (by omega)
    rwa [bounds_nil] at this)
  have hcases : (decide (cut < 0) = true) ∨ (decide (cut < 0) = false ∧ decide ((0 : Int) < cut) = true) ∨ cut = 0 := by
    by_cases h1 : cut < 0
    · exact .inl (decide_eq_true h1)
    · by_cases h2 : 0 < cut
      · exact .inr (.inl ⟨decide_eq_false h1, decide_eq_true h2⟩)
      · exact .inr (.inr (by omega))
  clear h
  rcases hcases with d1 | ⟨d1, d2⟩ | rfl <;> (
    go_enter Tryd.func4, Tryd.ntmps4
    go_wp2_with fail
    refine HAl.out.mono ?_
    rintro r w1 ⟨rfl, hb1⟩
    have HB1 : Hid _ := hide hb1
    have HQ1 : Hid _ := hide (HQ.out w1 (HK.out.below hb1 (by have := HK.out.size; omega)))
    clear HAl hb1
    go_wp2_with fail
    refine HQ1.out.mono ?_
    rintro r w2 ⟨rfl, hb2⟩
    have HB2 : Hid _ := hide (HB1.out.trans (hb2.mono HB1.out.size))
    have HQ2 : Hid _ := hide (HQ.out w2 (HK.out.below HB2.out (by have := HK.out.size; omega)))
    clear hb2 HQ1 HB1
    go_wp2_with fail
    refine HQ2.out.mono ?_
    rintro r w3 ⟨rfl, hb3⟩
    have HB3 : Hid _ := hide (HB2.out.trans (hb3.mono HB2.out.size))
    have HQ3 : Hid _ := hide (HQ.out w3 (HK.out.below HB3.out (by have := HK.out.size; omega)))
    clear hb3 HQ2 HB2
    go_wp2
    go_loopw [12, 13] (fun s i wr => i = .int .i64 0 ∧ s = .slice none 0 0 ∧ wr = w3) (fun _ _ _ => 0)
    case atStart => exact ⟨rfl, rfl, rfl⟩
    case round =>
      obtain ⟨rfl, rfl, rfl⟩ := hrel
      go_wp2_with fail
      refine HQ3.out.mono ?_
      rintro r w6 ⟨rfl, hb6⟩
      have HB6 : Hid _ := hide (HB3.out.trans (hb6.mono HB3.out.size))
      clear hb6
      go_wp2
      go_ret
      exact ⟨rfl, HB6.out⟩)
theorem parts_any (a : Option Addr) (n c : Nat) (es : List Ev) (ka : Option Addr) (kn kc : Nat) (ks : List Bool) (cut : Int) (w : World) (h : Kr w) (hr : ERow w a n es) (hok : ∀ e ∈ es, e.ok) (hn : n * 56 ≤ 140737488355328) (hc : n ≤ c) (hz : a = none → n = 0 ∧ c = 0) (hk : BoRow w ka kn ks) (hkn : (kn : Int) ≤ 9223372036854775806) :
    Calls Tryd.prog 4 #[.slice a n c, .slice ka kn kc, .int .i64 cut] w fun r w' => r = .returned (.bool true) ∧ Below w.heap.size w w' := by
  cases a with
  | none =>
    obtain ⟨rfl, rfl⟩ := hz rfl
    exact parts_nil ka kn kc cut w h
  | some ad =>
    by_cases h1 : cut < 0
    · exact parts_lo ad n c es ka kn kc ks cut w h hr hok hn hc hk hkn h1
    · by_cases h2 : (n : Int) < cut
      · exact parts_hi ad n c es ka kn kc ks cut w h hr hok hn hc hk hkn h2
      · exact parts_C ad n c es ka kn kc ks cut w h hr hok hn hc hk hkn ⟨by omega, by omega⟩
end Go.Proofs.YtifbehkdhalfcaaDoor
namespace Go.Proofs.YtifbehkdhalfcaaDoor
open Go.ChangeShapes Go.WideShapes Go.ChangeAt Go.RowKit
theorem obytesB : Tryd.prog.bytesOf 4 = 1 := by kernel_rfl
/-- A list of truths that came in. -/
theorem open_bs {H : Type} {enc : TypeId × Value → H} {W : World} {a : Option Addr} {len cap : Nat} {d : DataW H} {p : List MemPlace} {ts : List TypeId} {ds : List (DataW H)} {j : Nat}
    (h : DataW.Trod enc Tryd.prog W 0 (fun _ => true) true 29 (.slice a len cap) d p)
    (hsz : (DataW.weightsEach Tryd.prog ts ds).all (· ≤ reachBytes) = true) (ht : ts[j]? = some 29) (hd : ds[j]? = some d) :
    ∃ bs, BoRow W a len bs ∧ (len : Int) ≤ 9223372036854775806 := by
  obtain ⟨fuel, hf⟩ := h
  rcases Deep.open_slice1 Tryd.underlying29 (by kernel_rfl) hf with ⟨hcs, _⟩ | ⟨x, l, c, m, n, V, D, Pl, hcs, _, hl, hm, hmm, hx, hel⟩
  · simp [Value.cells] at hcs
    obtain ⟨rfl, rfl, rfl⟩ := hcs
    exact ⟨[], ⟨rfl, .inl rfl⟩, by omega⟩
  · simp [Value.cells] at hcs
    obtain ⟨rfl, rfl, rfl⟩ := hcs
    simp only [Prod.mk.injEq] at hx
    have hm' : m = cap := by simpa using hmm
    subst hm'
    have hall : ∀ n ∈ d.weights Tryd.prog 29, n ≤ reachBytes := fun n hn => by
      have := List.all_eq_true.1 hsz _ (DataW.weights_mem_each ht hd n hn)
      simpa using this
    rw [hx.1] at hall
    have hlen := hall (((List.range len).map D).length + ((List.range (m - len)).map fun j => D (len + j)).length |> (· * Tryd.prog.bytesOf 4)) (by simp [DataW.weights, Tryd.underlying29])
    rw [obytesB] at hlen
    simp only [List.length_map, List.length_range, reachBytes] at hlen
    have each : ∀ i, i < len → ∃ q : Bool, V i = .bool q := by
      intro i hi
      obtain ⟨_, h2⟩ := hel i (by omega)
      obtain ⟨q, e, _⟩ := DataW.trod_bool Tryd.underlying4 h2
      exact ⟨q, by simpa using e⟩
    obtain ⟨f, hch⟩ := Deep.choose_lt each
    refine ⟨(List.range len).map f, ⟨by simp, ?_⟩, by omega⟩
    by_cases h0 : len = 0
    · exact .inl h0
    · right
      obtain ⟨b, off, sp⟩ := x
      have h1 := (hel 0 (by omega)).1
      have hsp : sp = none := by simpa [Addr.add] using World.cell?_spot h1
      subst hsp
      refine ⟨b, off, rfl, fun i hi => ?_⟩
      have hc := (hel i (by omega)).1
      rw [add_at, hch i hi] at hc
      rw [hc, List.getD_eq_getElem?_getD]
      simp [hi]
end Go.Proofs.YtifbehkdhalfcaaDoor
