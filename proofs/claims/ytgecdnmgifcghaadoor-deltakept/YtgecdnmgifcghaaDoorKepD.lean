/-
  DeltaKept: the region in which a copy is made and read, and two variables are laid, whatever order is drawn.
-/
import Derived.Test.YtgecdnmgifcghaaDoorKepC
namespace Go.Proofs.YtgecdnmgifcghaaDoor
open Go.RowKit
attribute [local go_sem] Oper.semAt_some
/-- A region of a code, by its number. -/
def reg? (n : Nat) : Code → Option Code
  | .region i ops b => if i = n then some (.region i ops b) else none
  | .seq a b => match reg? n a with
    | some c => some c
    | none => reg? n b
  | .cond _ a b => match reg? n a with
    | some c => some c
    | none => reg? n b
  | .loop c => reg? n c
  | .block _ c => reg? n c
  | .scope c => reg? n c
  | _ => none
noncomputable def reg20 : Code := ((Tryd.f7.body.bind (reg? 20)).getD .skip)
set_option maxRecDepth 200000 in
set_option maxHeartbeats 8000000 in
theorem reg20_any {Q : Exit → Act → World → Prop} (x0 x1 x2 x3 x5 x6 x8 x9 x10 x11 x12 x14 x15 x16 x17 x18 x19 x20 x21 x22 x23 x24 x25 x26 x27 x28 x29 x30 x31 x32 x33 x34 x35 x36 x37 x38 x39 x40 x41 x42 x43 x44 x45 x46 x47 x48 x49 x50 x51 x52 x53 x54 x55 x56 x57 x58 x59 x60 x61 x62 x63 x64 x65 x66 x67 x68 x69 x70 x71 x72 x73 x74 x75 x76 x77 x78 x79 x80 x81 x82 x83 x84 x85 x86 x87 x88 x89 x90 x91 x92 x93 x94 x95 x96 x97 x98 x99 x100 x101 x102 x103 x104 x105 x106 x107 x108 x109 x110 x111 x112 x113 x114 x115 x116 x117 x118 x119 x120 x121 x122 x123 x124 x125 x126 x127 x128 x129 x130 x131 x132 x133 x134 x135 x136 x137 x138 x139 x140 x141 x142 x143 x144 x145 x146 x147 x148 x149 x150 x151 x152 x153 x154 x155 x156 x157 x158 x159 x160 x161 x162 x163 x164 x165 x166 x167 x168 x169 x170 x171 x172 x173 x174 x175 x176 x177 x178 x179 x180 x181 x182 x183 x184 x185 x186 x187 x188 x189 x190 x191 x192 x193 x194 x195 x196 x197 x198 x199 x200 x201 x202 x203 x204 x205 x206 x207 : Value) (a7 : Option Addr) (p4 n c7 g9 c9 : Nat) (S O K qt qk qo qa qq p s1 s2 s3 f : Int) (wm : World) (hA9 : (n : Int) ≤ (c9 : Int))
    (HKM : Hid (∀ X, Below wm.heap.size wm X → X.cell? ⟨p4, 0, none⟩ = some (.int .i64 S) ∧ X.cell? ⟨p4, 1, none⟩ = some (.int .u64 O) ∧ X.cell? ⟨p4, 2, none⟩ = some (.int .i64 K)))
    (HC : Hid (∀ X, Below wm.heap.size wm X → Calls Tryd.prog 13 #[.slice (some ⟨g9, 0, none⟩) n c9] X fun e wc => ∃ a' c', e = .returned (.slice a' n c') ∧ Below wm.heap.size wm wc ∧ Below X.heap.size X wc ∧ (∀ Y, Below wc.heap.size wc Y → Calls Tryd.prog 14 #[.agg #[.int .i64 S, .int .u64 O, .int .i64 K], .slice a' n c', .int .i64 0] Y fun e w3 => e = .returned (.tuple #[.agg #[.int .i64 qt, .int .i64 qk, .int .u64 qo, .int .u64 qa, .int .i64 qq], .int .i64 p, .agg #[.int .i64 s1, .int .u64 s2, .int .i64 s3], .int .i64 f]) ∧ Below wm.heap.size wm w3 ∧ Below wc.heap.size wc w3 ∧ Below Y.heap.size Y w3)))
    (HQ : Hid (∀ (v151 v152 v153 v154 v155 v156 v157 v158 v159 v160 v161 v162 : Value) (rb sb : Nat) (W : World), W.heap[rb]? = some (.cells #[.int .i64 qt, .int .i64 qk, .int .u64 qo, .int .u64 qa, .int .i64 qq] 32 (0, 0)) → W.heap[sb]? = some (.cells #[.int .i64 s1, .int .u64 s2, .int .i64 s3] 26 (0, 0)) → Below wm.heap.size wm W → Q .normal ⟨#[x0, x1, x2, x3, .pointer (some ⟨p4, 0, none⟩), x5, x6, .slice a7 n c7, x8, x9, x10, x11, x12, .slice (some ⟨g9, 0, none⟩) (n + 3) c9, x14, x15, x16, x17, x18, x19, x20, x21, .pointer (some ⟨rb, 0, none⟩), .int .i64 p, .pointer (some ⟨sb, 0, none⟩), .int .i64 f, x26, x27, x28, x29, x30, x31, x32, x33, x34, x35, x36, x37, x38, x39, x40, x41, x42, x43, x44, x45, x46, x47, x48, x49, x50, x51, x52, x53, x54, x55, x56, x57, x58, x59, x60, x61, x62, x63, x64, x65, x66, x67, x68, x69, x70, x71, x72, x73, x74, x75, x76, x77, x78, x79, x80, x81, x82, x83, x84, x85, x86, x87, x88, x89, x90, x91, x92, x93, x94, x95, x96, x97, x98, x99, x100, x101, x102, x103, x104, x105, x106, x107, x108, x109, x110, x111, x112, x113, x114, x115, x116, x117, x118, x119, x120, x121, x122, x123, x124, x125, x126, x127, x128, x129, x130, x131, x132, x133, x134, x135, x136, x137, x138, x139, x140, x141, x142, x143, x144, x145, x146, x147, x148, x149, x150, v151, v152, v153, v154, v155, v156, v157, v158, v159, v160, v161, v162, x163, x164, x165, x166, x167, x168, x169, x170, x171, x172, x173, x174, x175, x176, x177, x178, x179, x180, x181, x182, x183, x184, x185, x186, x187, x188, x189, x190, x191, x192, x193, x194, x195, x196, x197, x198, x199, x200, x201, x202, x203, x204, x205, x206, x207], []⟩ W)) :
    reg20.wp Tryd.prog Q ⟨#[x0, x1, x2, x3, .pointer (some ⟨p4, 0, none⟩), x5, x6, .slice a7 n c7, x8, x9, x10, x11, x12, .slice (some ⟨g9, 0, none⟩) (n + 3) c9, x14, x15, x16, x17, x18, x19, x20, x21, x22, x23, x24, x25, x26, x27, x28, x29, x30, x31, x32, x33, x34, x35, x36, x37, x38, x39, x40, x41, x42, x43, x44, x45, x46, x47, x48, x49, x50, x51, x52, x53, x54, x55, x56, x57, x58, x59, x60, x61, x62, x63, x64, x65, x66, x67, x68, x69, x70, x71, x72, x73, x74, x75, x76, x77, x78, x79, x80, x81, x82, x83, x84, x85, x86, x87, x88, x89, x90, x91, x92, x93, x94, x95, x96, x97, x98, x99, x100, x101, x102, x103, x104, x105, x106, x107, x108, x109, x110, x111, x112, x113, x114, x115, x116, x117, x118, x119, x120, x121, x122, x123, x124, x125, x126, x127, x128, x129, x130, x131, x132, x133, x134, x135, x136, x137, x138, x139, x140, x141, x142, x143, x144, x145, x146, x147, x148, x149, x150, x151, x152, x153, x154, x155, x156, x157, x158, x159, x160, x161, x162, x163, x164, x165, x166, x167, x168, x169, x170, x171, x172, x173, x174, x175, x176, x177, x178, x179, x180, x181, x182, x183, x184, x185, x186, x187, x188, x189, x190, x191, x192, x193, x194, x195, x196, x197, x198, x199, x200, x201, x202, x203, x204, x205, x206, x207], []⟩ wm := by
  conv => arg 2; whnf
  refine wp_region_inv (fun B ac W => ∃ v22 v23 v24 v25 v151 v152 v153 v154 v155 v156 v157 v158 v159 v160 v161 v162 : Value, ac = ⟨#[x0, x1, x2, x3, .pointer (some ⟨p4, 0, none⟩), x5, x6, .slice a7 n c7, x8, x9, x10, x11, x12, .slice (some ⟨g9, 0, none⟩) (n + 3) c9, x14, x15, x16, x17, x18, x19, x20, x21, v22, v23, v24, v25, x26, x27, x28, x29, x30, x31, x32, x33, x34, x35, x36, x37, x38, x39, x40, x41, x42, x43, x44, x45, x46, x47, x48, x49, x50, x51, x52, x53, x54, x55, x56, x57, x58, x59, x60, x61, x62, x63, x64, x65, x66, x67, x68, x69, x70, x71, x72, x73, x74, x75, x76, x77, x78, x79, x80, x81, x82, x83, x84, x85, x86, x87, x88, x89, x90, x91, x92, x93, x94, x95, x96, x97, x98, x99, x100, x101, x102, x103, x104, x105, x106, x107, x108, x109, x110, x111, x112, x113, x114, x115, x116, x117, x118, x119, x120, x121, x122, x123, x124, x125, x126, x127, x128, x129, x130, x131, x132, x133, x134, x135, x136, x137, x138, x139, x140, x141, x142, x143, x144, x145, x146, x147, x148, x149, x150, v151, v152, v153, v154, v155, v156, v157, v158, v159, v160, v161, v162, x163, x164, x165, x166, x167, x168, x169, x170, x171, x172, x173, x174, x175, x176, x177, x178, x179, x180, x181, x182, x183, x184, x185, x186, x187, x188, x189, x190, x191, x192, x193, x194, x195, x196, x197, x198, x199, x200, x201, x202, x203, x204, x205, x206, x207], []⟩ ∧ (B 0 = true → v152 = .agg #[.int .i64 S, .int .u64 O, .int .i64 K]) ∧ (B 1 = true → v153 = .slice (some ⟨g9, 0, none⟩) (n + 3) c9) ∧ (B 2 = true → v154 = .slice a7 n c7) ∧ (B 3 = true → v155 = .int .i64 n) ∧ (B 4 = true → v156 = .slice (some ⟨g9, 0, none⟩) n c9) ∧ (B 6 = true → v158 = (.tuple #[.agg #[.int .i64 qt, .int .i64 qk, .int .u64 qo, .int .u64 qa, .int .i64 qq], .int .i64 p, .agg #[.int .i64 s1, .int .u64 s2, .int .i64 s3], .int .i64 f])) ∧ (B 7 = true → v151 = (.tuple #[.agg #[.int .i64 qt, .int .i64 qk, .int .u64 qo, .int .u64 qa, .int .i64 qq], .int .i64 p, .agg #[.int .i64 s1, .int .u64 s2, .int .i64 s3], .int .i64 f]) ∧ B 6 = true) ∧ (B 8 = true → v159 = .agg #[.int .i64 qt, .int .i64 qk, .int .u64 qo, .int .u64 qa, .int .i64 qq] ∧ B 6 = true) ∧ (B 9 = true → v160 = .int .i64 p) ∧ (B 10 = true → v161 = .agg #[.int .i64 s1, .int .u64 s2, .int .i64 s3] ∧ B 6 = true) ∧ (B 11 = true → v162 = .int .i64 f) ∧ (B 15 = true → v23 = .int .i64 p) ∧ (B 17 = true → v25 = .int .i64 f) ∧ R20 wm W n S O K (.tuple #[.agg #[.int .i64 qt, .int .i64 qk, .int .u64 qo, .int .u64 qa, .int .i64 qq], .int .i64 p, .agg #[.int .i64 s1, .int .u64 s2, .int .i64 s3], .int .i64 f]) #[.int .i64 qt, .int .i64 qk, .int .u64 qo, .int .u64 qa, .int .i64 qq] #[.int .i64 s1, .int .u64 s2, .int .i64 s3] (B 5) (B 6) (B 12) (B 13) (B 14) (B 16) v22 v24 v157) (by kernel_rfl) (by kernel_rfl) ?_ ?_ ?_
  · exact ⟨x22, x23, x24, x25, x151, x152, x153, x154, x155, x156, x157, x158, x159, x160, x161, x162, rfl, by simp, by simp, by simp, by simp, by simp, by simp, by simp, by simp, by simp, by simp, by simp, by simp, by simp, ⟨(Below.refl _ _).drew, by simp, by simp, by simp, by simp, by simp⟩⟩
  · intro B ac W i o ho hBi hed hI K9 hK9
    have hi : i < 18 := (Array.getElem?_eq_some_iff.1 ho).1
    obtain ⟨v22, v23, v24, v25, v151, v152, v153, v154, v155, v156, v157, v158, v159, v160, v161, v162, rfl, h0, h1, h2, h3, h4, h6, h7, h8, h9, h10, h11, h15, h17, R⟩ := hI
    have HR : Hid _ := hide R
    have H0 : Hid _ := hide h0
    have H1 : Hid _ := hide h1
    have H2 : Hid _ := hide h2
    have H3 : Hid _ := hide h3
    have H4 : Hid _ := hide h4
    have H6 : Hid _ := hide h6
    have H7 : Hid _ := hide h7
    have H8 : Hid _ := hide h8
    have H9 : Hid _ := hide h9
    have H10 : Hid _ := hide h10
    have H11 : Hid _ := hide h11
    have H15 : Hid _ := hide h15
    have H17 : Hid _ := hide h17
    have HBi : Hid _ := hide hBi
    have HED : Hid _ := hide hed
    have HK9 : Hid _ := hide hK9
    clear R hBi hed hK9 HQ h0 h1 h2 h3 h4 h6 h7 h8 h9 h10 h11 h15 h17
    obtain rfl | rfl | rfl | rfl | rfl | rfl | rfl | rfl | rfl | rfl | rfl | rfl | rfl | rfl | rfl | rfl | rfl | rfl : i = 0 ∨ i = 1 ∨ i = 2 ∨ i = 3 ∨ i = 4 ∨ i = 5 ∨ i = 6 ∨ i = 7 ∨ i = 8 ∨ i = 9 ∨ i = 10 ∨ i = 11 ∨ i = 12 ∨ i = 13 ∨ i = 14 ∨ i = 15 ∨ i = 16 ∨ i = 17 := by omega
    · obtain rfl : _ = o := Option.some.inj ho
      obtain ⟨z0, z1, z2⟩ := HKM.out W HR.out.below
      clear ho
      go_simp
      exact HK9.out.out _ _ ⟨v22, v23, v24, v25, v151, _, v153, v154, v155, v156, v157, v158, v159, v160, v161, v162, rfl, fun _ => rfl, fun h => H1.out (upd_of h (by decide)), fun h => H2.out (upd_of h (by decide)), fun h => H3.out (upd_of h (by decide)), fun h => H4.out (upd_of h (by decide)), fun h => H6.out (upd_of h (by decide)), fun h => ⟨(H7.out (upd_of h (by decide))).1, upd_mono (H7.out (upd_of h (by decide))).2⟩, fun h => ⟨(H8.out (upd_of h (by decide))).1, upd_mono (H8.out (upd_of h (by decide))).2⟩, fun h => H9.out (upd_of h (by decide)), fun h => ⟨(H10.out (upd_of h (by decide))).1, upd_mono (H10.out (upd_of h (by decide))).2⟩, fun h => H11.out (upd_of h (by decide)), fun h => H15.out (upd_of h (by decide)), fun h => H17.out (upd_of h (by decide)), HR.out⟩
    · obtain rfl : _ = o := Option.some.inj ho
      clear ho
      go_simp
      exact HK9.out.out _ _ ⟨v22, v23, v24, v25, v151, v152, _, v154, v155, v156, v157, v158, v159, v160, v161, v162, rfl, fun h => H0.out (upd_of h (by decide)), fun _ => rfl, fun h => H2.out (upd_of h (by decide)), fun h => H3.out (upd_of h (by decide)), fun h => H4.out (upd_of h (by decide)), fun h => H6.out (upd_of h (by decide)), fun h => ⟨(H7.out (upd_of h (by decide))).1, upd_mono (H7.out (upd_of h (by decide))).2⟩, fun h => ⟨(H8.out (upd_of h (by decide))).1, upd_mono (H8.out (upd_of h (by decide))).2⟩, fun h => H9.out (upd_of h (by decide)), fun h => ⟨(H10.out (upd_of h (by decide))).1, upd_mono (H10.out (upd_of h (by decide))).2⟩, fun h => H11.out (upd_of h (by decide)), fun h => H15.out (upd_of h (by decide)), fun h => H17.out (upd_of h (by decide)), HR.out⟩
    · obtain rfl : _ = o := Option.some.inj ho
      clear ho
      go_simp
      exact HK9.out.out _ _ ⟨v22, v23, v24, v25, v151, v152, v153, _, v155, v156, v157, v158, v159, v160, v161, v162, rfl, fun h => H0.out (upd_of h (by decide)), fun h => H1.out (upd_of h (by decide)), fun _ => rfl, fun h => H3.out (upd_of h (by decide)), fun h => H4.out (upd_of h (by decide)), fun h => H6.out (upd_of h (by decide)), fun h => ⟨(H7.out (upd_of h (by decide))).1, upd_mono (H7.out (upd_of h (by decide))).2⟩, fun h => ⟨(H8.out (upd_of h (by decide))).1, upd_mono (H8.out (upd_of h (by decide))).2⟩, fun h => H9.out (upd_of h (by decide)), fun h => ⟨(H10.out (upd_of h (by decide))).1, upd_mono (H10.out (upd_of h (by decide))).2⟩, fun h => H11.out (upd_of h (by decide)), fun h => H15.out (upd_of h (by decide)), fun h => H17.out (upd_of h (by decide)), HR.out⟩
    · obtain rfl : _ = o := Option.some.inj ho
      have e2 : v154 = .slice a7 n c7 := H2.out (HED.out ⟨2, .data⟩ (by simp) rfl)
      subst e2
      clear ho
      go_simp
      exact HK9.out.out _ _ ⟨v22, v23, v24, v25, v151, v152, v153, _, _, v156, v157, v158, v159, v160, v161, v162, rfl, fun h => H0.out (upd_of h (by decide)), fun h => H1.out (upd_of h (by decide)), fun h => H2.out (upd_of h (by decide)), fun _ => rfl, fun h => H4.out (upd_of h (by decide)), fun h => H6.out (upd_of h (by decide)), fun h => ⟨(H7.out (upd_of h (by decide))).1, upd_mono (H7.out (upd_of h (by decide))).2⟩, fun h => ⟨(H8.out (upd_of h (by decide))).1, upd_mono (H8.out (upd_of h (by decide))).2⟩, fun h => H9.out (upd_of h (by decide)), fun h => ⟨(H10.out (upd_of h (by decide))).1, upd_mono (H10.out (upd_of h (by decide))).2⟩, fun h => H11.out (upd_of h (by decide)), fun h => H15.out (upd_of h (by decide)), fun h => H17.out (upd_of h (by decide)), HR.out⟩
    · obtain rfl : _ = o := Option.some.inj ho
      have e1 : v153 = .slice (some ⟨g9, 0, none⟩) (n + 3) c9 := H1.out (HED.out ⟨1, .data⟩ (by simp) rfl)
      subst e1
      have e3 : v155 = .int .i64 n := H3.out (HED.out ⟨3, .data⟩ (by simp) rfl)
      subst e3
      clear ho
      go_simp
      exact HK9.out.out _ _ ⟨v22, v23, v24, v25, v151, v152, _, v154, _, _, v157, v158, v159, v160, v161, v162, rfl, fun h => H0.out (upd_of h (by decide)), fun h => H1.out (upd_of h (by decide)), fun h => H2.out (upd_of h (by decide)), fun h => H3.out (upd_of h (by decide)), fun _ => rfl, fun h => H6.out (upd_of h (by decide)), fun h => ⟨(H7.out (upd_of h (by decide))).1, upd_mono (H7.out (upd_of h (by decide))).2⟩, fun h => ⟨(H8.out (upd_of h (by decide))).1, upd_mono (H8.out (upd_of h (by decide))).2⟩, fun h => H9.out (upd_of h (by decide)), fun h => ⟨(H10.out (upd_of h (by decide))).1, upd_mono (H10.out (upd_of h (by decide))).2⟩, fun h => H11.out (upd_of h (by decide)), fun h => H15.out (upd_of h (by decide)), fun h => H17.out (upd_of h (by decide)), HR.out⟩
    · obtain rfl : _ = o := Option.some.inj ho
      have e4 : v156 = .slice (some ⟨g9, 0, none⟩) n c9 := H4.out (HED.out ⟨4, .data⟩ (by simp) rfl)
      subst e4
      have hC := HC.out W HR.out.below
      clear ho
      go_simp
      refine hC.mono ?_
      rintro e W2 ⟨a2, c2, rfl, hb1, hb2, hY⟩
      exact HK9.out.out _ _ ⟨v22, v23, v24, v25, v151, v152, v153, v154, v155, _, _, v158, v159, v160, v161, v162, rfl, fun h => H0.out (upd_of h (by decide)), fun h => H1.out (upd_of h (by decide)), fun h => H2.out (upd_of h (by decide)), fun h => H3.out (upd_of h (by decide)), fun h => H4.out (upd_of h (by decide)), fun h => H6.out (upd_of h (by decide)), fun h => ⟨(H7.out (upd_of h (by decide))).1, upd_mono (H7.out (upd_of h (by decide))).2⟩, fun h => ⟨(H8.out (upd_of h (by decide))).1, upd_mono (H8.out (upd_of h (by decide))).2⟩, fun h => H9.out (upd_of h (by decide)), fun h => ⟨(H10.out (upd_of h (by decide))).1, upd_mono (H10.out (upd_of h (by decide))).2⟩, fun h => H11.out (upd_of h (by decide)), fun h => H15.out (upd_of h (by decide)), fun h => H17.out (upd_of h (by decide)), (show R20 wm W2 n S O K _ _ _ true (B 6) (B 12) (B 13) (B 14) (B 16) v22 v24 _ from R20.copied (v157 := v157) (by have := HR.out; rw [HBi.out] at this; exact this) hb2 ⟨a2, c2, rfl, fun Y hY2 => (hY Y hY2).mono (fun e w3 h => ⟨h.1, h.2.2.2⟩)⟩)⟩
    · obtain rfl : _ = o := Option.some.inj ho
      have e0 : v152 = .agg #[.int .i64 S, .int .u64 O, .int .i64 K] := H0.out (HED.out ⟨0, .data⟩ (by simp) rfl)
      subst e0
      have HB5 : Hid (B 5 = true) := hide (HED.out ⟨5, .data⟩ (by simp) rfl)
      obtain ⟨ac, cc9, e9, hG⟩ := HR.out.cp HB5.out HBi.out
      subst e9
      have hG := hG W (Below.refl _ _)
      clear ho
      go_simp
      refine hG.mono ?_
      rintro e W2 ⟨rfl, hb2⟩
      exact HK9.out.out _ _ ⟨v22, v23, v24, v25, v151, _, v153, v154, v155, v156, _, _, v159, v160, v161, v162, rfl, fun h => H0.out (upd_of h (by decide)), fun h => H1.out (upd_of h (by decide)), fun h => H2.out (upd_of h (by decide)), fun h => H3.out (upd_of h (by decide)), fun h => H4.out (upd_of h (by decide)), fun _ => rfl, fun h => ⟨(H7.out (upd_of h (by decide))).1, upd_mono (H7.out (upd_of h (by decide))).2⟩, fun h => ⟨(H8.out (upd_of h (by decide))).1, upd_mono (H8.out (upd_of h (by decide))).2⟩, fun h => H9.out (upd_of h (by decide)), fun h => ⟨(H10.out (upd_of h (by decide))).1, upd_mono (H10.out (upd_of h (by decide))).2⟩, fun h => H11.out (upd_of h (by decide)), fun h => H15.out (upd_of h (by decide)), fun h => H17.out (upd_of h (by decide)), (show R20 wm W2 n S O K _ _ _ (B 5) true (B 12) (B 13) (B 14) (B 16) v22 v24 _ from R20.got (by have := HR.out; rw [HBi.out] at this; exact this) hb2)⟩
    · obtain rfl : _ = o := Option.some.inj ho
      have HB6 : Hid (B 6 = true) := hide (HED.out ⟨6, .data⟩ (by simp) rfl)
      have e6 : v158 = (.tuple #[.agg #[.int .i64 qt, .int .i64 qk, .int .u64 qo, .int .u64 qa, .int .i64 qq], .int .i64 p, .agg #[.int .i64 s1, .int .u64 s2, .int .i64 s3], .int .i64 f]) := H6.out HB6.out
      subst e6
      clear ho
      go_simp
      exact HK9.out.out _ _ ⟨v22, v23, v24, v25, _, v152, v153, v154, v155, v156, v157, _, v159, v160, v161, v162, rfl, fun h => H0.out (upd_of h (by decide)), fun h => H1.out (upd_of h (by decide)), fun h => H2.out (upd_of h (by decide)), fun h => H3.out (upd_of h (by decide)), fun h => H4.out (upd_of h (by decide)), fun h => H6.out (upd_of h (by decide)), fun _ => ⟨rfl, upd_mono HB6.out⟩, fun h => ⟨(H8.out (upd_of h (by decide))).1, upd_mono (H8.out (upd_of h (by decide))).2⟩, fun h => H9.out (upd_of h (by decide)), fun h => ⟨(H10.out (upd_of h (by decide))).1, upd_mono (H10.out (upd_of h (by decide))).2⟩, fun h => H11.out (upd_of h (by decide)), fun h => H15.out (upd_of h (by decide)), fun h => H17.out (upd_of h (by decide)), HR.out⟩
    · obtain rfl : _ = o := Option.some.inj ho
      have HB6 : Hid (B 6 = true) := hide (H7.out (HED.out ⟨7, .data⟩ (by simp) rfl)).2
      have e7 : v151 = (.tuple #[.agg #[.int .i64 qt, .int .i64 qk, .int .u64 qo, .int .u64 qa, .int .i64 qq], .int .i64 p, .agg #[.int .i64 s1, .int .u64 s2, .int .i64 s3], .int .i64 f]) := (H7.out (HED.out ⟨7, .data⟩ (by simp) rfl)).1
      subst e7
      clear ho
      go_simp
      exact HK9.out.out _ _ ⟨v22, v23, v24, v25, _, v152, v153, v154, v155, v156, v157, v158, _, v160, v161, v162, rfl, fun h => H0.out (upd_of h (by decide)), fun h => H1.out (upd_of h (by decide)), fun h => H2.out (upd_of h (by decide)), fun h => H3.out (upd_of h (by decide)), fun h => H4.out (upd_of h (by decide)), fun h => H6.out (upd_of h (by decide)), fun h => ⟨(H7.out (upd_of h (by decide))).1, upd_mono (H7.out (upd_of h (by decide))).2⟩, fun _ => ⟨rfl, upd_mono HB6.out⟩, fun h => H9.out (upd_of h (by decide)), fun h => ⟨(H10.out (upd_of h (by decide))).1, upd_mono (H10.out (upd_of h (by decide))).2⟩, fun h => H11.out (upd_of h (by decide)), fun h => H15.out (upd_of h (by decide)), fun h => H17.out (upd_of h (by decide)), HR.out⟩
    · obtain rfl : _ = o := Option.some.inj ho
      have HB6 : Hid (B 6 = true) := hide (H7.out (HED.out ⟨7, .data⟩ (by simp) rfl)).2
      have e7 : v151 = (.tuple #[.agg #[.int .i64 qt, .int .i64 qk, .int .u64 qo, .int .u64 qa, .int .i64 qq], .int .i64 p, .agg #[.int .i64 s1, .int .u64 s2, .int .i64 s3], .int .i64 f]) := (H7.out (HED.out ⟨7, .data⟩ (by simp) rfl)).1
      subst e7
      clear ho
      go_simp
      exact HK9.out.out _ _ ⟨v22, v23, v24, v25, _, v152, v153, v154, v155, v156, v157, v158, v159, _, v161, v162, rfl, fun h => H0.out (upd_of h (by decide)), fun h => H1.out (upd_of h (by decide)), fun h => H2.out (upd_of h (by decide)), fun h => H3.out (upd_of h (by decide)), fun h => H4.out (upd_of h (by decide)), fun h => H6.out (upd_of h (by decide)), fun h => ⟨(H7.out (upd_of h (by decide))).1, upd_mono (H7.out (upd_of h (by decide))).2⟩, fun h => ⟨(H8.out (upd_of h (by decide))).1, upd_mono (H8.out (upd_of h (by decide))).2⟩, fun _ => rfl, fun h => ⟨(H10.out (upd_of h (by decide))).1, upd_mono (H10.out (upd_of h (by decide))).2⟩, fun h => H11.out (upd_of h (by decide)), fun h => H15.out (upd_of h (by decide)), fun h => H17.out (upd_of h (by decide)), HR.out⟩
    · obtain rfl : _ = o := Option.some.inj ho
      have HB6 : Hid (B 6 = true) := hide (H7.out (HED.out ⟨7, .data⟩ (by simp) rfl)).2
      have e7 : v151 = (.tuple #[.agg #[.int .i64 qt, .int .i64 qk, .int .u64 qo, .int .u64 qa, .int .i64 qq], .int .i64 p, .agg #[.int .i64 s1, .int .u64 s2, .int .i64 s3], .int .i64 f]) := (H7.out (HED.out ⟨7, .data⟩ (by simp) rfl)).1
      subst e7
      clear ho
      go_simp
      exact HK9.out.out _ _ ⟨v22, v23, v24, v25, _, v152, v153, v154, v155, v156, v157, v158, v159, v160, _, v162, rfl, fun h => H0.out (upd_of h (by decide)), fun h => H1.out (upd_of h (by decide)), fun h => H2.out (upd_of h (by decide)), fun h => H3.out (upd_of h (by decide)), fun h => H4.out (upd_of h (by decide)), fun h => H6.out (upd_of h (by decide)), fun h => ⟨(H7.out (upd_of h (by decide))).1, upd_mono (H7.out (upd_of h (by decide))).2⟩, fun h => ⟨(H8.out (upd_of h (by decide))).1, upd_mono (H8.out (upd_of h (by decide))).2⟩, fun h => H9.out (upd_of h (by decide)), fun _ => ⟨rfl, upd_mono HB6.out⟩, fun h => H11.out (upd_of h (by decide)), fun h => H15.out (upd_of h (by decide)), fun h => H17.out (upd_of h (by decide)), HR.out⟩
    · obtain rfl : _ = o := Option.some.inj ho
      have HB6 : Hid (B 6 = true) := hide (H7.out (HED.out ⟨7, .data⟩ (by simp) rfl)).2
      have e7 : v151 = (.tuple #[.agg #[.int .i64 qt, .int .i64 qk, .int .u64 qo, .int .u64 qa, .int .i64 qq], .int .i64 p, .agg #[.int .i64 s1, .int .u64 s2, .int .i64 s3], .int .i64 f]) := (H7.out (HED.out ⟨7, .data⟩ (by simp) rfl)).1
      subst e7
      clear ho
      go_simp
      exact HK9.out.out _ _ ⟨v22, v23, v24, v25, _, v152, v153, v154, v155, v156, v157, v158, v159, v160, v161, _, rfl, fun h => H0.out (upd_of h (by decide)), fun h => H1.out (upd_of h (by decide)), fun h => H2.out (upd_of h (by decide)), fun h => H3.out (upd_of h (by decide)), fun h => H4.out (upd_of h (by decide)), fun h => H6.out (upd_of h (by decide)), fun h => ⟨(H7.out (upd_of h (by decide))).1, upd_mono (H7.out (upd_of h (by decide))).2⟩, fun h => ⟨(H8.out (upd_of h (by decide))).1, upd_mono (H8.out (upd_of h (by decide))).2⟩, fun h => H9.out (upd_of h (by decide)), fun h => ⟨(H10.out (upd_of h (by decide))).1, upd_mono (H10.out (upd_of h (by decide))).2⟩, fun _ => rfl, fun h => H15.out (upd_of h (by decide)), fun h => H17.out (upd_of h (by decide)), HR.out⟩
    · obtain rfl : _ = o := Option.some.inj ho
      clear ho
      go_simp
      exact HK9.out.out _ _ ⟨_, v23, v24, v25, v151, v152, v153, v154, v155, v156, v157, v158, v159, v160, v161, v162, rfl, fun h => H0.out (upd_of h (by decide)), fun h => H1.out (upd_of h (by decide)), fun h => H2.out (upd_of h (by decide)), fun h => H3.out (upd_of h (by decide)), fun h => H4.out (upd_of h (by decide)), fun h => H6.out (upd_of h (by decide)), fun h => ⟨(H7.out (upd_of h (by decide))).1, upd_mono (H7.out (upd_of h (by decide))).2⟩, fun h => ⟨(H8.out (upd_of h (by decide))).1, upd_mono (H8.out (upd_of h (by decide))).2⟩, fun h => H9.out (upd_of h (by decide)), fun h => ⟨(H10.out (upd_of h (by decide))).1, upd_mono (H10.out (upd_of h (by decide))).2⟩, fun h => H11.out (upd_of h (by decide)), fun h => H15.out (upd_of h (by decide)), fun h => H17.out (upd_of h (by decide)), (show R20 wm _ n S O K _ _ _ (B 5) (B 6) true (B 13) (B 14) (B 16) _ v24 v157 from R20.recA (v22 := v22) (by have := HR.out; rw [HBi.out] at this; exact this))⟩
    · obtain rfl : _ = o := Option.some.inj ho
      clear ho
      go_simp
      exact HK9.out.out _ _ ⟨v22, v23, _, v25, v151, v152, v153, v154, v155, v156, v157, v158, v159, v160, v161, v162, rfl, fun h => H0.out (upd_of h (by decide)), fun h => H1.out (upd_of h (by decide)), fun h => H2.out (upd_of h (by decide)), fun h => H3.out (upd_of h (by decide)), fun h => H4.out (upd_of h (by decide)), fun h => H6.out (upd_of h (by decide)), fun h => ⟨(H7.out (upd_of h (by decide))).1, upd_mono (H7.out (upd_of h (by decide))).2⟩, fun h => ⟨(H8.out (upd_of h (by decide))).1, upd_mono (H8.out (upd_of h (by decide))).2⟩, fun h => H9.out (upd_of h (by decide)), fun h => ⟨(H10.out (upd_of h (by decide))).1, upd_mono (H10.out (upd_of h (by decide))).2⟩, fun h => H11.out (upd_of h (by decide)), fun h => H15.out (upd_of h (by decide)), fun h => H17.out (upd_of h (by decide)), (show R20 wm _ n S O K _ _ _ (B 5) (B 6) (B 12) true (B 14) (B 16) v22 _ v157 from R20.st (v24 := v24) (by have := HR.out; rw [HBi.out] at this; exact this))⟩
    · obtain rfl : _ = o := Option.some.inj ho
      have HB12 : Hid (B 12 = true) := hide (HED.out ⟨12, .data⟩ (by simp) rfl)
      have HB6 : Hid (B 6 = true) := hide (H8.out (HED.out ⟨8, .data⟩ (by simp) rfl)).2
      have e8 : v159 = .agg #[.int .i64 qt, .int .i64 qk, .int .u64 qo, .int .u64 qa, .int .i64 qq] := (H8.out (HED.out ⟨8, .data⟩ (by simp) rfl)).1
      subst e8
      have HR2 : R20 wm W n S O K (.tuple #[.agg #[.int .i64 qt, .int .i64 qk, .int .u64 qo, .int .u64 qa, .int .i64 qq], .int .i64 p, .agg #[.int .i64 s1, .int .u64 s2, .int .i64 s3], .int .i64 f]) #[.int .i64 qt, .int .i64 qk, .int .u64 qo, .int .u64 qa, .int .i64 qq] #[.int .i64 s1, .int .u64 s2, .int .i64 s3] (B 5) (B 6) true (B 13) false (B 16) v22 v24 v157 := by have := HR.out; rw [HB12.out, HBi.out] at this; exact this
      obtain ⟨rb, e9, hrb, LR⟩ := HR2.recAt
      subst e9
      obtain ⟨r0, r1, r2, r3, r4⟩ := r5_cells LR; have f0 := frz LR 0; have f1 := frz LR 1; have f2 := frz LR 2; have f3 := frz LR 3; have f4 := frz LR 4
      have HRR := hide (HR2.recS HB6.out)
      clear HR2 LR
      clear ho
      go_simp
      exact HK9.out.out _ _ ⟨_, v23, v24, v25, v151, v152, v153, v154, v155, v156, v157, v158, _, v160, v161, v162, rfl, fun h => H0.out (upd_of h (by decide)), fun h => H1.out (upd_of h (by decide)), fun h => H2.out (upd_of h (by decide)), fun h => H3.out (upd_of h (by decide)), fun h => H4.out (upd_of h (by decide)), fun h => H6.out (upd_of h (by decide)), fun h => ⟨(H7.out (upd_of h (by decide))).1, upd_mono (H7.out (upd_of h (by decide))).2⟩, fun h => ⟨(H8.out (upd_of h (by decide))).1, upd_mono (H8.out (upd_of h (by decide))).2⟩, fun h => H9.out (upd_of h (by decide)), fun h => ⟨(H10.out (upd_of h (by decide))).1, upd_mono (H10.out (upd_of h (by decide))).2⟩, fun h => H11.out (upd_of h (by decide)), fun h => H15.out (upd_of h (by decide)), fun h => H17.out (upd_of h (by decide)), (show R20 wm _ n S O K _ _ _ (B 5) (B 6) (B 12) (B 13) true (B 16) _ v24 v157 from by rw [HB12.out]; exact HRR.out)⟩
    · obtain rfl : _ = o := Option.some.inj ho
      have e9 : v160 = .int .i64 p := H9.out (HED.out ⟨9, .data⟩ (by simp) rfl)
      subst e9
      clear ho
      go_simp
      exact HK9.out.out _ _ ⟨v22, _, v24, v25, v151, v152, v153, v154, v155, v156, v157, v158, v159, _, v161, v162, rfl, fun h => H0.out (upd_of h (by decide)), fun h => H1.out (upd_of h (by decide)), fun h => H2.out (upd_of h (by decide)), fun h => H3.out (upd_of h (by decide)), fun h => H4.out (upd_of h (by decide)), fun h => H6.out (upd_of h (by decide)), fun h => ⟨(H7.out (upd_of h (by decide))).1, upd_mono (H7.out (upd_of h (by decide))).2⟩, fun h => ⟨(H8.out (upd_of h (by decide))).1, upd_mono (H8.out (upd_of h (by decide))).2⟩, fun h => H9.out (upd_of h (by decide)), fun h => ⟨(H10.out (upd_of h (by decide))).1, upd_mono (H10.out (upd_of h (by decide))).2⟩, fun h => H11.out (upd_of h (by decide)), fun _ => rfl, fun h => H17.out (upd_of h (by decide)), HR.out⟩
    · obtain rfl : _ = o := Option.some.inj ho
      have HB13 : Hid (B 13 = true) := hide (HED.out ⟨13, .data⟩ (by simp) rfl)
      have HB6 : Hid (B 6 = true) := hide (H10.out (HED.out ⟨10, .data⟩ (by simp) rfl)).2
      have e10 : v161 = .agg #[.int .i64 s1, .int .u64 s2, .int .i64 s3] := (H10.out (HED.out ⟨10, .data⟩ (by simp) rfl)).1
      subst e10
      have HR2 : R20 wm W n S O K (.tuple #[.agg #[.int .i64 qt, .int .i64 qk, .int .u64 qo, .int .u64 qa, .int .i64 qq], .int .i64 p, .agg #[.int .i64 s1, .int .u64 s2, .int .i64 s3], .int .i64 f]) #[.int .i64 qt, .int .i64 qk, .int .u64 qo, .int .u64 qa, .int .i64 qq] #[.int .i64 s1, .int .u64 s2, .int .i64 s3] (B 5) (B 6) (B 12) true (B 14) false v22 v24 v157 := by have := HR.out; rw [HB13.out, HBi.out] at this; exact this
      obtain ⟨rb, e9, hrb, LR⟩ := HR2.stAt
      subst e9
      obtain ⟨r0, r1, r2⟩ := z3_cells LR; have f0 := frz LR 0; have f1 := frz LR 1; have f2 := frz LR 2
      have HRR := hide (HR2.stS HB6.out)
      clear HR2 LR
      clear ho
      go_simp
      exact HK9.out.out _ _ ⟨v22, v23, _, v25, v151, v152, v153, v154, v155, v156, v157, v158, v159, v160, _, v162, rfl, fun h => H0.out (upd_of h (by decide)), fun h => H1.out (upd_of h (by decide)), fun h => H2.out (upd_of h (by decide)), fun h => H3.out (upd_of h (by decide)), fun h => H4.out (upd_of h (by decide)), fun h => H6.out (upd_of h (by decide)), fun h => ⟨(H7.out (upd_of h (by decide))).1, upd_mono (H7.out (upd_of h (by decide))).2⟩, fun h => ⟨(H8.out (upd_of h (by decide))).1, upd_mono (H8.out (upd_of h (by decide))).2⟩, fun h => H9.out (upd_of h (by decide)), fun h => ⟨(H10.out (upd_of h (by decide))).1, upd_mono (H10.out (upd_of h (by decide))).2⟩, fun h => H11.out (upd_of h (by decide)), fun h => H15.out (upd_of h (by decide)), fun h => H17.out (upd_of h (by decide)), (show R20 wm _ n S O K _ _ _ (B 5) (B 6) (B 12) (B 13) (B 14) true v22 _ v157 from by rw [HB13.out]; exact HRR.out)⟩
    · obtain rfl : _ = o := Option.some.inj ho
      have e11 : v162 = .int .i64 f := H11.out (HED.out ⟨11, .data⟩ (by simp) rfl)
      subst e11
      clear ho
      go_simp
      exact HK9.out.out _ _ ⟨v22, v23, v24, _, v151, v152, v153, v154, v155, v156, v157, v158, v159, v160, v161, _, rfl, fun h => H0.out (upd_of h (by decide)), fun h => H1.out (upd_of h (by decide)), fun h => H2.out (upd_of h (by decide)), fun h => H3.out (upd_of h (by decide)), fun h => H4.out (upd_of h (by decide)), fun h => H6.out (upd_of h (by decide)), fun h => ⟨(H7.out (upd_of h (by decide))).1, upd_mono (H7.out (upd_of h (by decide))).2⟩, fun h => ⟨(H8.out (upd_of h (by decide))).1, upd_mono (H8.out (upd_of h (by decide))).2⟩, fun h => H9.out (upd_of h (by decide)), fun h => ⟨(H10.out (upd_of h (by decide))).1, upd_mono (H10.out (upd_of h (by decide))).2⟩, fun h => H11.out (upd_of h (by decide)), fun h => H15.out (upd_of h (by decide)), fun _ => rfl, HR.out⟩
  · intro B ac W hall hI
    obtain ⟨v22, v23, v24, v25, v151, v152, v153, v154, v155, v156, v157, v158, v159, v160, v161, v162, rfl, h0, h1, h2, h3, h4, h6, h7, h8, h9, h10, h11, h15, h17, R⟩ := hI
    have e15 := h15 (hall 15 (by decide))
    have e17 := h17 (hall 17 (by decide))
    obtain ⟨rb, e12, hrb, LR⟩ := R.r (hall 12 (by decide))
    obtain ⟨sb, e13, hsb, LS⟩ := R.s (hall 13 (by decide))
    rw [if_pos (hall 14 (by decide))] at LR
    rw [if_pos (hall 16 (by decide))] at LS
    have hBel := R.below
    subst e15 e17 e12 e13
    exact HQ.out _ _ _ _ _ _ _ _ _ _ _ _ rb sb W LR LS hBel
end Go.Proofs.YtgecdnmgifcghaaDoor
