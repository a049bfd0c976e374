/-
  MergeSteps: two mergers and the document's, made and taken from.
-/
import Derived.Test.YtdlpffbeladgaaaMsB
import Derived.Test.YtdlpffbeladgaaaMSp
namespace Go.Proofs.Ytdlpffbeladgaaa
open Go.RowKit
/-- New, and then the document's. -/
theorem new_pr (w : World) (ag ai : Option Addr) (n cg ci : Nat) (rg ri : List Rw) (Gs : List (Int × List Rc)) (hg : Rdz w ag n rg Gs) (h0 : ag = none → n = 0 ∧ cg = 0) (hi : Rdz w ai n ri Gs) (hn : n * 32 ≤ 140737488355328) (hm : ∀ G ∈ Gs, G.2.length * 40 ≤ 140737488355328) :
    Calls Try.prog 10 #[.slice ag n cg] w fun r w2 => ∃ (po : Option Addr) (er : Int), r = .returned (.tuple #[.pointer po, .int .i64 er]) ∧ Below w.heap.size w w2 ∧ ∀ W, Below w2.heap.size w2 W → Calls Try.prog 11 #[.slice ai n ci] W fun r2 w3 => ∃ (qo : Option Addr) (d : Option PD), r2 = .returned (.tuple #[.pointer qo, .int .i64 er]) ∧ qo.isNone = po.isNone ∧ Below W.heap.size W w3 ∧ Pr w3 (.pointer po) (.pointer qo) d ∧ ∀ d', d = some d' → d'.base = w.heap.size := by
  by_cases hf : rfault (-1) 0 Gs = 0
  · refine (new_ok w ag n cg rg Gs hg h0 hm (RowsOk.of hf)).mono ?_
    rintro r w2 ⟨p, rv, ph, hv, rfl, M2, b2⟩
    refine ⟨_, _, rfl, b2, fun W hW => (rnew_any W ai n ci ri Gs ((hi.below b2).below hW) hn hm).mono ?_⟩
    rintro r2 w3 ⟨(⟨h9, _⟩ | ⟨_, q, vr, va, rfl, R3⟩), b3⟩
    · exact absurd hf h9
    · have hsz : w.heap.size ≤ W.heap.size := Nat.le_trans b2.size hW.size
      refine ⟨_, some ⟨w.heap.size, p, rv, ph, ⟨Gs.map Prod.snd, 0, hv, Gs.length⟩, q, vr, va, Gs, List.replicate Gs.length 0⟩, rfl, rfl, b3, ⟨rfl, rfl, ⟨(M2.below hW).below b3, R3.mono hsz, (leftR_zero Gs).symm, RowsOk.of hf, fun b hb hv' => ?_, Nat.le_trans hsz b3.size⟩⟩, fun d' e => by cases e; rfl⟩
      obtain ⟨cur, T, e1, _⟩ := M2.ty hb
      obtain ⟨rws, hz⟩ := R3.rows
      have h1 := (hz.own.lt b hv').1
      have h2 := get_lt' e1
      have h3 := hW.size
      omega
  · refine (new_bad w ag n cg rg Gs hg (by omega) hm hf).mono ?_
    rintro r w2 ⟨rfl, b2⟩
    refine ⟨_, _, rfl, b2, fun W hW => (rnew_any W ai n ci ri Gs ((hi.below b2).below hW) hn hm).mono ?_⟩
    rintro r2 w3 ⟨(⟨_, rfl⟩ | ⟨h9, _⟩), b3⟩
    · exact ⟨_, none, rfl, rfl, b3, ⟨rfl, rfl⟩, fun d' e => by cases e⟩
    · exact absurd h9 hf
/-- What lies in memory behind k of the two mergers. -/
structure LP (w wr : World) (s0 s1 : Value) (k : Nat) (po0 po1 qo0 qo1 : Option Addr) (d0 d1 : Option PD) : Prop where
  bb : wr.heap[w.heap.size]? = some (.cells #[s0, s1] 24 (0, 0))
  bo : wr.heap[w.heap.size + 1]? = some (.cells #[.pointer po0, .pointer po1] 26 (0, 0))
  br : wr.heap[w.heap.size + 1 + 1]? = some (.cells #[.pointer qo0, .pointer qo1] 28 (0, 0))
  a : 1 ≤ k → Pr wr (.pointer po0) (.pointer qo0) d0 ∧ ∀ b, MutO d0 b → w.heap.size ≤ b
  b : 2 ≤ k → Pr wr (.pointer po1) (.pointer qo1) d1 ∧ ∀ b, MutO d1 b → w.heap.size ≤ b
  ne : 2 ≤ k → ∀ b, MutO d0 b → ¬ MutO d1 b
  below : Below w.heap.size w wr
theorem Pr.not_ty {w : World} {vp vd : Value} {d : Option PD} (h : Pr w vp vd d) {b : Nat} {cur : Array Value} {T : TypeId} (hb : w.heap[b]? = some (.cells cur T (0, 0))) (hT : T ≠ 73 ∧ T ≠ 38 ∧ T ≠ 92 ∧ T ≠ 95 ∧ T ≠ 77 ∧ T ≠ 3) : ¬ MutO d b := by
  intro hm
  obtain ⟨cur', T', h1, h2⟩ := h.ty hm
  rw [hb] at h1
  cases h1
  obtain ⟨n1, n2, n3, n4, n5, n6⟩ := hT
  rcases h2 with e | e | e | e | e | e
  · exact n1 e
  · exact n2 e
  · exact n3 e
  · exact n4 e
  · exact n5 e
  · exact n6 e
theorem LP.on {w wr W : World} {s0 s1 : Value} {k : Nat} {po0 po1 qo0 qo1 : Option Addr} {d0 d1 : Option PD} (h : LP w wr s0 s1 k po0 po1 qo0 qo1 d0 d1) (hb : Below wr.heap.size wr W) : LP w W s0 s1 k po0 po1 qo0 qo1 d0 d1 :=
  ⟨(hb.block _ (get_lt' h.bb)).trans h.bb, (hb.block _ (get_lt' h.bo)).trans h.bo, (hb.block _ (get_lt' h.br)).trans h.br, fun e => ⟨(h.a e).1.on hb, (h.a e).2⟩, fun e => ⟨(h.b e).1.on hb, (h.b e).2⟩, h.ne, h.below.trans (hb.mono h.below.size)⟩
/-- One of the two is chosen; behind its step both are as they should. -/
theorem LP.sel {w wr : World} {s0 s1 : Value} {po0 po1 qo0 qo1 : Option Addr} {d0 d1 : Option PD} (h : LP w wr s0 s1 2 po0 po1 qo0 qo1 d0 d1) {t : Nat} (ht : t < 2) :
    ∃ po qo d, wr.cell? ⟨w.heap.size + 1, t, none⟩ = some (.pointer po) ∧ wr.cell? ⟨w.heap.size + 1 + 1, t, none⟩ = some (.pointer qo) ∧ Pr wr (.pointer po) (.pointer qo) d ∧
      ∀ W d', Pr W (.pointer po) (.pointer qo) d' → But (MutO d) wr W → (∀ b, MutO d' b → MutO d b ∨ wr.heap.size ≤ b) → ∃ e0 e1, LP w W s0 s1 2 po0 po1 qo0 qo1 e0 e1 := by
  obtain ⟨a1, a2⟩ := h.a (by omega)
  obtain ⟨b1, b2⟩ := h.b (by omega)
  have keep : ∀ {d : Option PD} {vp vd : Value} {W : World}, Pr wr vp vd d → But (MutO d) wr W → W.heap[w.heap.size]? = some (.cells #[s0, s1] 24 (0, 0)) ∧ W.heap[w.heap.size + 1]? = some (.cells #[.pointer po0, .pointer po1] 26 (0, 0)) ∧ W.heap[w.heap.size + 1 + 1]? = some (.cells #[.pointer qo0, .pointer qo1] 28 (0, 0)) := by
    intro d vp vd W hp hb
    exact ⟨(hb.block _ (get_lt' h.bb) (hp.not_ty h.bb (by decide))).trans h.bb, (hb.block _ (get_lt' h.bo) (hp.not_ty h.bo (by decide))).trans h.bo, (hb.block _ (get_lt' h.br) (hp.not_ty h.br (by decide))).trans h.br⟩
  have : t = 0 ∨ t = 1 := by omega
  rcases this with rfl | rfl
  · refine ⟨po0, qo0, d0, cell_at h.bo rfl, cell_at h.br rfl, a1, fun W d' hp hb hn => ⟨d', d1, ?_⟩⟩
    obtain ⟨k1, k2, k3⟩ := keep a1 hb
    refine ⟨k1, k2, k3, fun _ => ⟨hp, fun b hm => ?_⟩, fun _ => ⟨b1.but hb (fun b hm h9 => h.ne (by omega) b h9 hm) (fun b cur hb' => a1.not_rec hb'), b2⟩, fun _ b hm hm1 => ?_, h.below.trans (hb.below h.below.size (fun b hm => a2 b hm))⟩
    · rcases hn b hm with e | e
      · exact a2 b e
      · exact Nat.le_trans h.below.size e
    · rcases hn b hm with e | e
      · exact h.ne (by omega) b e hm1
      · have := b1.lt hm1; omega
  · refine ⟨po1, qo1, d1, cell_at h.bo rfl, cell_at h.br rfl, b1, fun W d' hp hb hn => ⟨d0, d', ?_⟩⟩
    obtain ⟨k1, k2, k3⟩ := keep b1 hb
    refine ⟨k1, k2, k3, fun _ => ⟨a1.but hb (fun b hm h9 => h.ne (by omega) b hm h9) (fun b cur hb' => b1.not_rec hb'), a2⟩, fun _ => ⟨hp, fun b hm => ?_⟩, fun _ b hm hm1 => ?_, h.below.trans (hb.below h.below.size (fun b hm => b2 b hm))⟩
    · rcases hn b hm with e | e
      · exact b2 b e
      · exact Nat.le_trans h.below.size e
    · rcases hn b hm1 with e | e
      · exact h.ne (by omega) b hm e
      · have := a1.lt hm; omega
end Go.Proofs.Ytdlpffbeladgaaa
