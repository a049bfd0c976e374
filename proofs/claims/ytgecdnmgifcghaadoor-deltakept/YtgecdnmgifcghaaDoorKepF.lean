/-
  DeltaKept: the regions in which a record is read and two variables are laid, whatever order is drawn.
-/
import Derived.Test.YtgecdnmgifcghaaDoorKepE
namespace Go.Proofs.YtgecdnmgifcghaaDoor
open Go.RowKit
attribute [local go_sem] Oper.semAt_some
noncomputable def reg12 : Code := ((Tryd.f7.body.bind (reg? 12)).getD .skip)
set_option maxRecDepth 200000 in
set_option maxHeartbeats 8000000 in
theorem reg12_any {Q : Exit → Act → World → Prop} (x0 x1 x2 x3 x5 x6 x8 x9 x10 x11 x12 x14 x15 x16 x17 x18 x19 x20 x21 x22 x23 x24 x25 x26 x27 x28 x29 x30 x31 x32 x33 x34 x35 x36 x37 x38 x39 x40 x41 x42 x43 x44 x45 x46 x47 x48 x49 x50 x51 x52 x53 x54 x55 x56 x57 x58 x59 x60 x61 x62 x63 x64 x65 x66 x67 x68 x69 x70 x71 x72 x73 x74 x75 x76 x77 x78 x79 x80 x81 x82 x83 x84 x85 x86 x87 x88 x89 x90 x91 x92 x93 x94 x95 x96 x97 x98 x99 x100 x101 x102 x103 x104 x105 x106 x107 x108 x109 x110 x111 x112 x113 x114 x115 x116 x117 x118 x119 x120 x121 x122 x123 x124 x125 x126 x127 x128 x129 x130 x131 x132 x133 x134 x135 x136 x137 x138 x139 x140 x141 x142 x143 x144 x145 x146 x147 x148 x149 x150 x151 x152 x153 x154 x155 x156 x157 x158 x159 x160 x161 x162 x163 x164 x165 x166 x167 x168 x169 x170 x171 x172 x173 x174 x175 x176 x177 x178 x179 x180 x181 x182 x183 x184 x185 x186 x187 x188 x189 x190 x191 x192 x193 x194 x195 x196 x197 x198 x199 x200 x201 x202 x203 x204 x205 x206 x207 : Value) (a7 : Option Addr) (p4 n c7 g9 c9 : Nat) (S O K qt qk qo qa qq p s1 s2 s3 f : Int) (wm : World) (hA9 : (n : Int) ≤ (c9 : Int))
    (HKM : Hid (∀ X, Below wm.heap.size wm X → X.cell? ⟨p4, 0, none⟩ = some (.int .i64 S) ∧ X.cell? ⟨p4, 1, none⟩ = some (.int .u64 O) ∧ X.cell? ⟨p4, 2, none⟩ = some (.int .i64 K)))
    (HG : Hid (∀ X, Below wm.heap.size wm X → Calls Tryd.prog 14 #[.agg #[.int .i64 S, .int .u64 O, .int .i64 K], .slice (some ⟨g9, 0, none⟩) n c9, .int .i64 0] X fun e w3 => e = .returned (.tuple #[.agg #[.int .i64 qt, .int .i64 qk, .int .u64 qo, .int .u64 qa, .int .i64 qq], .int .i64 p, .agg #[.int .i64 s1, .int .u64 s2, .int .i64 s3], .int .i64 f]) ∧ Below wm.heap.size wm w3 ∧ Below X.heap.size X w3))
    (HQ : Hid (∀ (v73 v74 v75 v76 v77 v78 v79 v80 v81 v82 v83 : Value) (rb sb : Nat) (W : World), W.heap[rb]? = some (.cells #[.int .i64 qt, .int .i64 qk, .int .u64 qo, .int .u64 qa, .int .i64 qq] 32 (0, 0)) → W.heap[sb]? = some (.cells #[.int .i64 s1, .int .u64 s2, .int .i64 s3] 26 (0, 0)) → Below wm.heap.size wm W → Q .normal ⟨#[x0, x1, x2, x3, .pointer (some ⟨p4, 0, none⟩), x5, x6, .slice a7 n c7, x8, .int .i64 f, x10, x11, x12, .slice (some ⟨g9, 0, none⟩) (n + 3) c9, .pointer (some ⟨rb, 0, none⟩), .int .i64 p, .pointer (some ⟨sb, 0, none⟩), x17, x18, x19, x20, x21, x22, x23, x24, x25, x26, x27, x28, x29, x30, x31, x32, x33, x34, x35, x36, x37, x38, x39, x40, x41, x42, x43, x44, x45, x46, x47, x48, x49, x50, x51, x52, x53, x54, x55, x56, x57, x58, x59, x60, x61, x62, x63, x64, x65, x66, x67, x68, x69, x70, x71, x72, v73, v74, v75, v76, v77, v78, v79, v80, v81, v82, v83, x84, x85, x86, x87, x88, x89, x90, x91, x92, x93, x94, x95, x96, x97, x98, x99, x100, x101, x102, x103, x104, x105, x106, x107, x108, x109, x110, x111, x112, x113, x114, x115, x116, x117, x118, x119, x120, x121, x122, x123, x124, x125, x126, x127, x128, x129, x130, x131, x132, x133, x134, x135, x136, x137, x138, x139, x140, x141, x142, x143, x144, x145, x146, x147, x148, x149, x150, x151, x152, x153, x154, x155, x156, x157, x158, x159, x160, x161, x162, x163, x164, x165, x166, x167, x168, x169, x170, x171, x172, x173, x174, x175, x176, x177, x178, x179, x180, x181, x182, x183, x184, x185, x186, x187, x188, x189, x190, x191, x192, x193, x194, x195, x196, x197, x198, x199, x200, x201, x202, x203, x204, x205, x206, x207], []⟩ W)) :
    reg12.wp Tryd.prog Q ⟨#[x0, x1, x2, x3, .pointer (some ⟨p4, 0, none⟩), x5, x6, .slice a7 n c7, x8, x9, x10, x11, x12, .slice (some ⟨g9, 0, none⟩) (n + 3) c9, x14, x15, x16, x17, x18, x19, x20, x21, x22, x23, x24, x25, x26, x27, x28, x29, x30, x31, x32, x33, x34, x35, x36, x37, x38, x39, x40, x41, x42, x43, x44, x45, x46, x47, x48, x49, x50, x51, x52, x53, x54, x55, x56, x57, x58, x59, x60, x61, x62, x63, x64, x65, x66, x67, x68, x69, x70, x71, x72, x73, x74, x75, x76, x77, x78, x79, x80, x81, x82, x83, x84, x85, x86, x87, x88, x89, x90, x91, x92, x93, x94, x95, x96, x97, x98, x99, x100, x101, x102, x103, x104, x105, x106, x107, x108, x109, x110, x111, x112, x113, x114, x115, x116, x117, x118, x119, x120, x121, x122, x123, x124, x125, x126, x127, x128, x129, x130, x131, x132, x133, x134, x135, x136, x137, x138, x139, x140, x141, x142, x143, x144, x145, x146, x147, x148, x149, x150, x151, x152, x153, x154, x155, x156, x157, x158, x159, x160, x161, x162, x163, x164, x165, x166, x167, x168, x169, x170, x171, x172, x173, x174, x175, x176, x177, x178, x179, x180, x181, x182, x183, x184, x185, x186, x187, x188, x189, x190, x191, x192, x193, x194, x195, x196, x197, x198, x199, x200, x201, x202, x203, x204, x205, x206, x207], []⟩ wm := by
  conv => arg 2; whnf
  refine wp_region_inv (fun B ac W => ∃ v9 v14 v15 v16 v73 v74 v75 v76 v77 v78 v79 v80 v81 v82 v83 : Value, ac = ⟨#[x0, x1, x2, x3, .pointer (some ⟨p4, 0, none⟩), x5, x6, .slice a7 n c7, x8, v9, x10, x11, x12, .slice (some ⟨g9, 0, none⟩) (n + 3) c9, v14, v15, v16, x17, x18, x19, x20, x21, x22, x23, x24, x25, x26, x27, x28, x29, x30, x31, x32, x33, x34, x35, x36, x37, x38, x39, x40, x41, x42, x43, x44, x45, x46, x47, x48, x49, x50, x51, x52, x53, x54, x55, x56, x57, x58, x59, x60, x61, x62, x63, x64, x65, x66, x67, x68, x69, x70, x71, x72, v73, v74, v75, v76, v77, v78, v79, v80, v81, v82, v83, x84, x85, x86, x87, x88, x89, x90, x91, x92, x93, x94, x95, x96, x97, x98, x99, x100, x101, x102, x103, x104, x105, x106, x107, x108, x109, x110, x111, x112, x113, x114, x115, x116, x117, x118, x119, x120, x121, x122, x123, x124, x125, x126, x127, x128, x129, x130, x131, x132, x133, x134, x135, x136, x137, x138, x139, x140, x141, x142, x143, x144, x145, x146, x147, x148, x149, x150, x151, x152, x153, x154, x155, x156, x157, x158, x159, x160, x161, x162, x163, x164, x165, x166, x167, x168, x169, x170, x171, x172, x173, x174, x175, x176, x177, x178, x179, x180, x181, x182, x183, x184, x185, x186, x187, x188, x189, x190, x191, x192, x193, x194, x195, x196, x197, x198, x199, x200, x201, x202, x203, x204, x205, x206, x207], []⟩ ∧ (B 0 = true → v74 = .agg #[.int .i64 S, .int .u64 O, .int .i64 K]) ∧ (B 1 = true → v75 = .slice (some ⟨g9, 0, none⟩) (n + 3) c9) ∧ (B 2 = true → v76 = .slice a7 n c7) ∧ (B 3 = true → v77 = .int .i64 n) ∧ (B 4 = true → v78 = .slice (some ⟨g9, 0, none⟩) n c9) ∧ (B 5 = true → v79 = (.tuple #[.agg #[.int .i64 qt, .int .i64 qk, .int .u64 qo, .int .u64 qa, .int .i64 qq], .int .i64 p, .agg #[.int .i64 s1, .int .u64 s2, .int .i64 s3], .int .i64 f])) ∧ (B 6 = true → v73 = (.tuple #[.agg #[.int .i64 qt, .int .i64 qk, .int .u64 qo, .int .u64 qa, .int .i64 qq], .int .i64 p, .agg #[.int .i64 s1, .int .u64 s2, .int .i64 s3], .int .i64 f]) ∧ B 5 = true) ∧ (B 7 = true → v80 = .agg #[.int .i64 qt, .int .i64 qk, .int .u64 qo, .int .u64 qa, .int .i64 qq] ∧ B 5 = true) ∧ (B 8 = true → v81 = .int .i64 p) ∧ (B 9 = true → v82 = .agg #[.int .i64 s1, .int .u64 s2, .int .i64 s3] ∧ B 5 = true) ∧ (B 10 = true → v83 = .int .i64 f) ∧ (B 14 = true → v15 = .int .i64 p) ∧ (B 16 = true → v9 = .int .i64 f) ∧ R20 wm W n S O K (.tuple #[.agg #[.int .i64 qt, .int .i64 qk, .int .u64 qo, .int .u64 qa, .int .i64 qq], .int .i64 p, .agg #[.int .i64 s1, .int .u64 s2, .int .i64 s3], .int .i64 f]) #[.int .i64 qt, .int .i64 qk, .int .u64 qo, .int .u64 qa, .int .i64 qq] #[.int .i64 s1, .int .u64 s2, .int .i64 s3] false (B 5) (B 11) (B 12) (B 13) (B 15) v14 v16 undef) (by kernel_rfl) (by kernel_rfl) ?_ ?_ ?_
  · exact ⟨x9, x14, x15, x16, x73, x74, x75, x76, x77, x78, x79, x80, x81, x82, x83, rfl, by simp, by simp, by simp, by simp, by simp, by simp, by simp, by simp, by simp, by simp, by simp, by simp, by simp, ⟨(Below.refl _ _).drew, by simp, by simp, by simp, by simp, by simp⟩⟩
  · intro B ac W i o ho hBi hed hI K9 hK9
    have hi : i < 17 := (Array.getElem?_eq_some_iff.1 ho).1
    obtain ⟨v9, v14, v15, v16, v73, v74, v75, v76, v77, v78, v79, v80, v81, v82, v83, rfl, h0, h1, h2, h3, h4, h5, h6, h7, h8, h9, h10, h14, h16, R⟩ := hI
    have HR : Hid _ := hide R
    have H0 : Hid _ := hide h0
    have H1 : Hid _ := hide h1
    have H2 : Hid _ := hide h2
    have H3 : Hid _ := hide h3
    have H4 : Hid _ := hide h4
    have H5 : Hid _ := hide h5
    have H6 : Hid _ := hide h6
    have H7 : Hid _ := hide h7
    have H8 : Hid _ := hide h8
    have H9 : Hid _ := hide h9
    have H10 : Hid _ := hide h10
    have H14 : Hid _ := hide h14
    have H16 : Hid _ := hide h16
    have HBi : Hid _ := hide hBi
    have HED : Hid _ := hide hed
    have HK9 : Hid _ := hide hK9
    clear R hBi hed hK9 HQ h0 h1 h2 h3 h4 h5 h6 h7 h8 h9 h10 h14 h16
    obtain rfl | rfl | rfl | rfl | rfl | rfl | rfl | rfl | rfl | rfl | rfl | rfl | rfl | rfl | rfl | rfl | rfl : i = 0 ∨ i = 1 ∨ i = 2 ∨ i = 3 ∨ i = 4 ∨ i = 5 ∨ i = 6 ∨ i = 7 ∨ i = 8 ∨ i = 9 ∨ i = 10 ∨ i = 11 ∨ i = 12 ∨ i = 13 ∨ i = 14 ∨ i = 15 ∨ i = 16 := by omega
    · obtain rfl : _ = o := Option.some.inj ho
      obtain ⟨z0, z1, z2⟩ := HKM.out W HR.out.below
      clear ho
      go_simp
      exact HK9.out.out _ _ ⟨v9, v14, v15, v16, v73, _, v75, v76, v77, v78, v79, v80, v81, v82, v83, rfl, fun _ => rfl, fun h => H1.out (upd_of h (by decide)), fun h => H2.out (upd_of h (by decide)), fun h => H3.out (upd_of h (by decide)), fun h => H4.out (upd_of h (by decide)), fun h => H5.out (upd_of h (by decide)), fun h => ⟨(H6.out (upd_of h (by decide))).1, upd_mono (H6.out (upd_of h (by decide))).2⟩, fun h => ⟨(H7.out (upd_of h (by decide))).1, upd_mono (H7.out (upd_of h (by decide))).2⟩, fun h => H8.out (upd_of h (by decide)), fun h => ⟨(H9.out (upd_of h (by decide))).1, upd_mono (H9.out (upd_of h (by decide))).2⟩, fun h => H10.out (upd_of h (by decide)), fun h => H14.out (upd_of h (by decide)), fun h => H16.out (upd_of h (by decide)), HR.out⟩
    · obtain rfl : _ = o := Option.some.inj ho
      clear ho
      go_simp
      exact HK9.out.out _ _ ⟨v9, v14, v15, v16, v73, v74, _, v76, v77, v78, v79, v80, v81, v82, v83, rfl, fun h => H0.out (upd_of h (by decide)), fun _ => rfl, fun h => H2.out (upd_of h (by decide)), fun h => H3.out (upd_of h (by decide)), fun h => H4.out (upd_of h (by decide)), fun h => H5.out (upd_of h (by decide)), fun h => ⟨(H6.out (upd_of h (by decide))).1, upd_mono (H6.out (upd_of h (by decide))).2⟩, fun h => ⟨(H7.out (upd_of h (by decide))).1, upd_mono (H7.out (upd_of h (by decide))).2⟩, fun h => H8.out (upd_of h (by decide)), fun h => ⟨(H9.out (upd_of h (by decide))).1, upd_mono (H9.out (upd_of h (by decide))).2⟩, fun h => H10.out (upd_of h (by decide)), fun h => H14.out (upd_of h (by decide)), fun h => H16.out (upd_of h (by decide)), HR.out⟩
    · obtain rfl : _ = o := Option.some.inj ho
      clear ho
      go_simp
      exact HK9.out.out _ _ ⟨v9, v14, v15, v16, v73, v74, v75, _, v77, v78, v79, v80, v81, v82, v83, rfl, fun h => H0.out (upd_of h (by decide)), fun h => H1.out (upd_of h (by decide)), fun _ => rfl, fun h => H3.out (upd_of h (by decide)), fun h => H4.out (upd_of h (by decide)), fun h => H5.out (upd_of h (by decide)), fun h => ⟨(H6.out (upd_of h (by decide))).1, upd_mono (H6.out (upd_of h (by decide))).2⟩, fun h => ⟨(H7.out (upd_of h (by decide))).1, upd_mono (H7.out (upd_of h (by decide))).2⟩, fun h => H8.out (upd_of h (by decide)), fun h => ⟨(H9.out (upd_of h (by decide))).1, upd_mono (H9.out (upd_of h (by decide))).2⟩, fun h => H10.out (upd_of h (by decide)), fun h => H14.out (upd_of h (by decide)), fun h => H16.out (upd_of h (by decide)), HR.out⟩
    · obtain rfl : _ = o := Option.some.inj ho
      have e2 : v76 = .slice a7 n c7 := H2.out (HED.out ⟨2, .data⟩ (by simp) rfl)
      subst e2
      clear ho
      go_simp
      exact HK9.out.out _ _ ⟨v9, v14, v15, v16, v73, v74, v75, _, _, v78, v79, v80, v81, v82, v83, rfl, fun h => H0.out (upd_of h (by decide)), fun h => H1.out (upd_of h (by decide)), fun h => H2.out (upd_of h (by decide)), fun _ => rfl, fun h => H4.out (upd_of h (by decide)), fun h => H5.out (upd_of h (by decide)), fun h => ⟨(H6.out (upd_of h (by decide))).1, upd_mono (H6.out (upd_of h (by decide))).2⟩, fun h => ⟨(H7.out (upd_of h (by decide))).1, upd_mono (H7.out (upd_of h (by decide))).2⟩, fun h => H8.out (upd_of h (by decide)), fun h => ⟨(H9.out (upd_of h (by decide))).1, upd_mono (H9.out (upd_of h (by decide))).2⟩, fun h => H10.out (upd_of h (by decide)), fun h => H14.out (upd_of h (by decide)), fun h => H16.out (upd_of h (by decide)), HR.out⟩
    · obtain rfl : _ = o := Option.some.inj ho
      have e1 : v75 = .slice (some ⟨g9, 0, none⟩) (n + 3) c9 := H1.out (HED.out ⟨1, .data⟩ (by simp) rfl)
      subst e1
      have e3 : v77 = .int .i64 n := H3.out (HED.out ⟨3, .data⟩ (by simp) rfl)
      subst e3
      clear ho
      go_simp
      exact HK9.out.out _ _ ⟨v9, v14, v15, v16, v73, v74, _, v76, _, _, v79, v80, v81, v82, v83, rfl, fun h => H0.out (upd_of h (by decide)), fun h => H1.out (upd_of h (by decide)), fun h => H2.out (upd_of h (by decide)), fun h => H3.out (upd_of h (by decide)), fun _ => rfl, fun h => H5.out (upd_of h (by decide)), fun h => ⟨(H6.out (upd_of h (by decide))).1, upd_mono (H6.out (upd_of h (by decide))).2⟩, fun h => ⟨(H7.out (upd_of h (by decide))).1, upd_mono (H7.out (upd_of h (by decide))).2⟩, fun h => H8.out (upd_of h (by decide)), fun h => ⟨(H9.out (upd_of h (by decide))).1, upd_mono (H9.out (upd_of h (by decide))).2⟩, fun h => H10.out (upd_of h (by decide)), fun h => H14.out (upd_of h (by decide)), fun h => H16.out (upd_of h (by decide)), HR.out⟩
    · obtain rfl : _ = o := Option.some.inj ho
      have e0 : v74 = .agg #[.int .i64 S, .int .u64 O, .int .i64 K] := H0.out (HED.out ⟨0, .data⟩ (by simp) rfl)
      subst e0
      have e4 : v78 = .slice (some ⟨g9, 0, none⟩) n c9 := H4.out (HED.out ⟨4, .data⟩ (by simp) rfl)
      subst e4
      have hG := HG.out W HR.out.below
      clear ho
      go_simp
      refine hG.mono ?_
      rintro e W2 ⟨rfl, hb1, hb2⟩
      exact HK9.out.out _ _ ⟨v9, v14, v15, v16, v73, _, v75, v76, v77, _, _, v80, v81, v82, v83, rfl, fun h => H0.out (upd_of h (by decide)), fun h => H1.out (upd_of h (by decide)), fun h => H2.out (upd_of h (by decide)), fun h => H3.out (upd_of h (by decide)), fun h => H4.out (upd_of h (by decide)), fun _ => rfl, fun h => ⟨(H6.out (upd_of h (by decide))).1, upd_mono (H6.out (upd_of h (by decide))).2⟩, fun h => ⟨(H7.out (upd_of h (by decide))).1, upd_mono (H7.out (upd_of h (by decide))).2⟩, fun h => H8.out (upd_of h (by decide)), fun h => ⟨(H9.out (upd_of h (by decide))).1, upd_mono (H9.out (upd_of h (by decide))).2⟩, fun h => H10.out (upd_of h (by decide)), fun h => H14.out (upd_of h (by decide)), fun h => H16.out (upd_of h (by decide)), (show R20 wm W2 n S O K _ _ _ false true (B 11) (B 12) (B 13) (B 15) v14 v16 undef from R20.got (by have := HR.out; rw [HBi.out] at this; exact this) hb2)⟩
    · obtain rfl : _ = o := Option.some.inj ho
      have HB5 : Hid (B 5 = true) := hide (HED.out ⟨5, .data⟩ (by simp) rfl)
      have e5 : v79 = (.tuple #[.agg #[.int .i64 qt, .int .i64 qk, .int .u64 qo, .int .u64 qa, .int .i64 qq], .int .i64 p, .agg #[.int .i64 s1, .int .u64 s2, .int .i64 s3], .int .i64 f]) := H5.out HB5.out
      subst e5
      clear ho
      go_simp
      exact HK9.out.out _ _ ⟨v9, v14, v15, v16, _, v74, v75, v76, v77, v78, _, v80, v81, v82, v83, rfl, fun h => H0.out (upd_of h (by decide)), fun h => H1.out (upd_of h (by decide)), fun h => H2.out (upd_of h (by decide)), fun h => H3.out (upd_of h (by decide)), fun h => H4.out (upd_of h (by decide)), fun h => H5.out (upd_of h (by decide)), fun _ => ⟨rfl, upd_mono HB5.out⟩, fun h => ⟨(H7.out (upd_of h (by decide))).1, upd_mono (H7.out (upd_of h (by decide))).2⟩, fun h => H8.out (upd_of h (by decide)), fun h => ⟨(H9.out (upd_of h (by decide))).1, upd_mono (H9.out (upd_of h (by decide))).2⟩, fun h => H10.out (upd_of h (by decide)), fun h => H14.out (upd_of h (by decide)), fun h => H16.out (upd_of h (by decide)), HR.out⟩
    · obtain rfl : _ = o := Option.some.inj ho
      have HB5 : Hid (B 5 = true) := hide (H6.out (HED.out ⟨6, .data⟩ (by simp) rfl)).2
      have e6 : v73 = (.tuple #[.agg #[.int .i64 qt, .int .i64 qk, .int .u64 qo, .int .u64 qa, .int .i64 qq], .int .i64 p, .agg #[.int .i64 s1, .int .u64 s2, .int .i64 s3], .int .i64 f]) := (H6.out (HED.out ⟨6, .data⟩ (by simp) rfl)).1
      subst e6
      clear ho
      go_simp
      exact HK9.out.out _ _ ⟨v9, v14, v15, v16, _, v74, v75, v76, v77, v78, v79, _, v81, v82, v83, rfl, fun h => H0.out (upd_of h (by decide)), fun h => H1.out (upd_of h (by decide)), fun h => H2.out (upd_of h (by decide)), fun h => H3.out (upd_of h (by decide)), fun h => H4.out (upd_of h (by decide)), fun h => H5.out (upd_of h (by decide)), fun h => ⟨(H6.out (upd_of h (by decide))).1, upd_mono (H6.out (upd_of h (by decide))).2⟩, fun _ => ⟨rfl, upd_mono HB5.out⟩, fun h => H8.out (upd_of h (by decide)), fun h => ⟨(H9.out (upd_of h (by decide))).1, upd_mono (H9.out (upd_of h (by decide))).2⟩, fun h => H10.out (upd_of h (by decide)), fun h => H14.out (upd_of h (by decide)), fun h => H16.out (upd_of h (by decide)), HR.out⟩
    · obtain rfl : _ = o := Option.some.inj ho
      have HB5 : Hid (B 5 = true) := hide (H6.out (HED.out ⟨6, .data⟩ (by simp) rfl)).2
      have e6 : v73 = (.tuple #[.agg #[.int .i64 qt, .int .i64 qk, .int .u64 qo, .int .u64 qa, .int .i64 qq], .int .i64 p, .agg #[.int .i64 s1, .int .u64 s2, .int .i64 s3], .int .i64 f]) := (H6.out (HED.out ⟨6, .data⟩ (by simp) rfl)).1
      subst e6
      clear ho
      go_simp
      exact HK9.out.out _ _ ⟨v9, v14, v15, v16, _, v74, v75, v76, v77, v78, v79, v80, _, v82, v83, rfl, fun h => H0.out (upd_of h (by decide)), fun h => H1.out (upd_of h (by decide)), fun h => H2.out (upd_of h (by decide)), fun h => H3.out (upd_of h (by decide)), fun h => H4.out (upd_of h (by decide)), fun h => H5.out (upd_of h (by decide)), fun h => ⟨(H6.out (upd_of h (by decide))).1, upd_mono (H6.out (upd_of h (by decide))).2⟩, fun h => ⟨(H7.out (upd_of h (by decide))).1, upd_mono (H7.out (upd_of h (by decide))).2⟩, fun _ => rfl, fun h => ⟨(H9.out (upd_of h (by decide))).1, upd_mono (H9.out (upd_of h (by decide))).2⟩, fun h => H10.out (upd_of h (by decide)), fun h => H14.out (upd_of h (by decide)), fun h => H16.out (upd_of h (by decide)), HR.out⟩
    · obtain rfl : _ = o := Option.some.inj ho
      have HB5 : Hid (B 5 = true) := hide (H6.out (HED.out ⟨6, .data⟩ (by simp) rfl)).2
      have e6 : v73 = (.tuple #[.agg #[.int .i64 qt, .int .i64 qk, .int .u64 qo, .int .u64 qa, .int .i64 qq], .int .i64 p, .agg #[.int .i64 s1, .int .u64 s2, .int .i64 s3], .int .i64 f]) := (H6.out (HED.out ⟨6, .data⟩ (by simp) rfl)).1
      subst e6
      clear ho
      go_simp
      exact HK9.out.out _ _ ⟨v9, v14, v15, v16, _, v74, v75, v76, v77, v78, v79, v80, v81, _, v83, rfl, fun h => H0.out (upd_of h (by decide)), fun h => H1.out (upd_of h (by decide)), fun h => H2.out (upd_of h (by decide)), fun h => H3.out (upd_of h (by decide)), fun h => H4.out (upd_of h (by decide)), fun h => H5.out (upd_of h (by decide)), fun h => ⟨(H6.out (upd_of h (by decide))).1, upd_mono (H6.out (upd_of h (by decide))).2⟩, fun h => ⟨(H7.out (upd_of h (by decide))).1, upd_mono (H7.out (upd_of h (by decide))).2⟩, fun h => H8.out (upd_of h (by decide)), fun _ => ⟨rfl, upd_mono HB5.out⟩, fun h => H10.out (upd_of h (by decide)), fun h => H14.out (upd_of h (by decide)), fun h => H16.out (upd_of h (by decide)), HR.out⟩
    · obtain rfl : _ = o := Option.some.inj ho
      have HB5 : Hid (B 5 = true) := hide (H6.out (HED.out ⟨6, .data⟩ (by simp) rfl)).2
      have e6 : v73 = (.tuple #[.agg #[.int .i64 qt, .int .i64 qk, .int .u64 qo, .int .u64 qa, .int .i64 qq], .int .i64 p, .agg #[.int .i64 s1, .int .u64 s2, .int .i64 s3], .int .i64 f]) := (H6.out (HED.out ⟨6, .data⟩ (by simp) rfl)).1
      subst e6
      clear ho
      go_simp
      exact HK9.out.out _ _ ⟨v9, v14, v15, v16, _, v74, v75, v76, v77, v78, v79, v80, v81, v82, _, rfl, fun h => H0.out (upd_of h (by decide)), fun h => H1.out (upd_of h (by decide)), fun h => H2.out (upd_of h (by decide)), fun h => H3.out (upd_of h (by decide)), fun h => H4.out (upd_of h (by decide)), fun h => H5.out (upd_of h (by decide)), fun h => ⟨(H6.out (upd_of h (by decide))).1, upd_mono (H6.out (upd_of h (by decide))).2⟩, fun h => ⟨(H7.out (upd_of h (by decide))).1, upd_mono (H7.out (upd_of h (by decide))).2⟩, fun h => H8.out (upd_of h (by decide)), fun h => ⟨(H9.out (upd_of h (by decide))).1, upd_mono (H9.out (upd_of h (by decide))).2⟩, fun _ => rfl, fun h => H14.out (upd_of h (by decide)), fun h => H16.out (upd_of h (by decide)), HR.out⟩
    · obtain rfl : _ = o := Option.some.inj ho
      clear ho
      go_simp
      exact HK9.out.out _ _ ⟨v9, _, v15, v16, v73, v74, v75, v76, v77, v78, v79, v80, v81, v82, v83, rfl, fun h => H0.out (upd_of h (by decide)), fun h => H1.out (upd_of h (by decide)), fun h => H2.out (upd_of h (by decide)), fun h => H3.out (upd_of h (by decide)), fun h => H4.out (upd_of h (by decide)), fun h => H5.out (upd_of h (by decide)), fun h => ⟨(H6.out (upd_of h (by decide))).1, upd_mono (H6.out (upd_of h (by decide))).2⟩, fun h => ⟨(H7.out (upd_of h (by decide))).1, upd_mono (H7.out (upd_of h (by decide))).2⟩, fun h => H8.out (upd_of h (by decide)), fun h => ⟨(H9.out (upd_of h (by decide))).1, upd_mono (H9.out (upd_of h (by decide))).2⟩, fun h => H10.out (upd_of h (by decide)), fun h => H14.out (upd_of h (by decide)), fun h => H16.out (upd_of h (by decide)), (show R20 wm _ n S O K _ _ _ false (B 5) true (B 12) (B 13) (B 15) _ v16 undef from R20.recA (v22 := v14) (by have := HR.out; rw [HBi.out] at this; exact this))⟩
    · obtain rfl : _ = o := Option.some.inj ho
      clear ho
      go_simp
      exact HK9.out.out _ _ ⟨v9, v14, v15, _, v73, v74, v75, v76, v77, v78, v79, v80, v81, v82, v83, rfl, fun h => H0.out (upd_of h (by decide)), fun h => H1.out (upd_of h (by decide)), fun h => H2.out (upd_of h (by decide)), fun h => H3.out (upd_of h (by decide)), fun h => H4.out (upd_of h (by decide)), fun h => H5.out (upd_of h (by decide)), fun h => ⟨(H6.out (upd_of h (by decide))).1, upd_mono (H6.out (upd_of h (by decide))).2⟩, fun h => ⟨(H7.out (upd_of h (by decide))).1, upd_mono (H7.out (upd_of h (by decide))).2⟩, fun h => H8.out (upd_of h (by decide)), fun h => ⟨(H9.out (upd_of h (by decide))).1, upd_mono (H9.out (upd_of h (by decide))).2⟩, fun h => H10.out (upd_of h (by decide)), fun h => H14.out (upd_of h (by decide)), fun h => H16.out (upd_of h (by decide)), (show R20 wm _ n S O K _ _ _ false (B 5) (B 11) true (B 13) (B 15) v14 _ undef from R20.st (v24 := v16) (by have := HR.out; rw [HBi.out] at this; exact this))⟩
    · obtain rfl : _ = o := Option.some.inj ho
      have HB11 : Hid (B 11 = true) := hide (HED.out ⟨11, .data⟩ (by simp) rfl)
      have HB5 : Hid (B 5 = true) := hide (H7.out (HED.out ⟨7, .data⟩ (by simp) rfl)).2
      have e7 : v80 = .agg #[.int .i64 qt, .int .i64 qk, .int .u64 qo, .int .u64 qa, .int .i64 qq] := (H7.out (HED.out ⟨7, .data⟩ (by simp) rfl)).1
      subst e7
      have HR2 : R20 wm W n S O K (.tuple #[.agg #[.int .i64 qt, .int .i64 qk, .int .u64 qo, .int .u64 qa, .int .i64 qq], .int .i64 p, .agg #[.int .i64 s1, .int .u64 s2, .int .i64 s3], .int .i64 f]) #[.int .i64 qt, .int .i64 qk, .int .u64 qo, .int .u64 qa, .int .i64 qq] #[.int .i64 s1, .int .u64 s2, .int .i64 s3] false (B 5) true (B 12) false (B 15) v14 v16 undef := by have := HR.out; rw [HB11.out, HBi.out] at this; exact this
      obtain ⟨rb, e9, hrb, LR⟩ := HR2.recAt
      subst e9
      obtain ⟨r0, r1, r2, r3, r4⟩ := r5_cells LR; have f0 := frz LR 0; have f1 := frz LR 1; have f2 := frz LR 2; have f3 := frz LR 3; have f4 := frz LR 4
      have HRR := hide (HR2.recS HB5.out)
      clear HR2 LR
      clear ho
      go_simp
      exact HK9.out.out _ _ ⟨v9, _, v15, v16, v73, v74, v75, v76, v77, v78, v79, _, v81, v82, v83, rfl, fun h => H0.out (upd_of h (by decide)), fun h => H1.out (upd_of h (by decide)), fun h => H2.out (upd_of h (by decide)), fun h => H3.out (upd_of h (by decide)), fun h => H4.out (upd_of h (by decide)), fun h => H5.out (upd_of h (by decide)), fun h => ⟨(H6.out (upd_of h (by decide))).1, upd_mono (H6.out (upd_of h (by decide))).2⟩, fun h => ⟨(H7.out (upd_of h (by decide))).1, upd_mono (H7.out (upd_of h (by decide))).2⟩, fun h => H8.out (upd_of h (by decide)), fun h => ⟨(H9.out (upd_of h (by decide))).1, upd_mono (H9.out (upd_of h (by decide))).2⟩, fun h => H10.out (upd_of h (by decide)), fun h => H14.out (upd_of h (by decide)), fun h => H16.out (upd_of h (by decide)), (show R20 wm _ n S O K _ _ _ false (B 5) (B 11) (B 12) true (B 15) _ v16 undef from by rw [HB11.out]; exact HRR.out)⟩
    · obtain rfl : _ = o := Option.some.inj ho
      have e8 : v81 = .int .i64 p := H8.out (HED.out ⟨8, .data⟩ (by simp) rfl)
      subst e8
      clear ho
      go_simp
      exact HK9.out.out _ _ ⟨v9, v14, _, v16, v73, v74, v75, v76, v77, v78, v79, v80, _, v82, v83, rfl, fun h => H0.out (upd_of h (by decide)), fun h => H1.out (upd_of h (by decide)), fun h => H2.out (upd_of h (by decide)), fun h => H3.out (upd_of h (by decide)), fun h => H4.out (upd_of h (by decide)), fun h => H5.out (upd_of h (by decide)), fun h => ⟨(H6.out (upd_of h (by decide))).1, upd_mono (H6.out (upd_of h (by decide))).2⟩, fun h => ⟨(H7.out (upd_of h (by decide))).1, upd_mono (H7.out (upd_of h (by decide))).2⟩, fun h => H8.out (upd_of h (by decide)), fun h => ⟨(H9.out (upd_of h (by decide))).1, upd_mono (H9.out (upd_of h (by decide))).2⟩, fun h => H10.out (upd_of h (by decide)), fun _ => rfl, fun h => H16.out (upd_of h (by decide)), HR.out⟩
    · obtain rfl : _ = o := Option.some.inj ho
      have HB12 : Hid (B 12 = true) := hide (HED.out ⟨12, .data⟩ (by simp) rfl)
      have HB5 : Hid (B 5 = true) := hide (H9.out (HED.out ⟨9, .data⟩ (by simp) rfl)).2
      have e9 : v82 = .agg #[.int .i64 s1, .int .u64 s2, .int .i64 s3] := (H9.out (HED.out ⟨9, .data⟩ (by simp) rfl)).1
      subst e9
      have HR2 : R20 wm W n S O K (.tuple #[.agg #[.int .i64 qt, .int .i64 qk, .int .u64 qo, .int .u64 qa, .int .i64 qq], .int .i64 p, .agg #[.int .i64 s1, .int .u64 s2, .int .i64 s3], .int .i64 f]) #[.int .i64 qt, .int .i64 qk, .int .u64 qo, .int .u64 qa, .int .i64 qq] #[.int .i64 s1, .int .u64 s2, .int .i64 s3] false (B 5) (B 11) true (B 13) false v14 v16 undef := by have := HR.out; rw [HB12.out, HBi.out] at this; exact this
      obtain ⟨rb, e9, hrb, LR⟩ := HR2.stAt
      subst e9
      obtain ⟨r0, r1, r2⟩ := z3_cells LR; have f0 := frz LR 0; have f1 := frz LR 1; have f2 := frz LR 2
      have HRR := hide (HR2.stS HB5.out)
      clear HR2 LR
      clear ho
      go_simp
      exact HK9.out.out _ _ ⟨v9, v14, v15, _, v73, v74, v75, v76, v77, v78, v79, v80, v81, _, v83, rfl, fun h => H0.out (upd_of h (by decide)), fun h => H1.out (upd_of h (by decide)), fun h => H2.out (upd_of h (by decide)), fun h => H3.out (upd_of h (by decide)), fun h => H4.out (upd_of h (by decide)), fun h => H5.out (upd_of h (by decide)), fun h => ⟨(H6.out (upd_of h (by decide))).1, upd_mono (H6.out (upd_of h (by decide))).2⟩, fun h => ⟨(H7.out (upd_of h (by decide))).1, upd_mono (H7.out (upd_of h (by decide))).2⟩, fun h => H8.out (upd_of h (by decide)), fun h => ⟨(H9.out (upd_of h (by decide))).1, upd_mono (H9.out (upd_of h (by decide))).2⟩, fun h => H10.out (upd_of h (by decide)), fun h => H14.out (upd_of h (by decide)), fun h => H16.out (upd_of h (by decide)), (show R20 wm _ n S O K _ _ _ false (B 5) (B 11) (B 12) (B 13) true v14 _ undef from by rw [HB12.out]; exact HRR.out)⟩
    · obtain rfl : _ = o := Option.some.inj ho
      have e10 : v83 = .int .i64 f := H10.out (HED.out ⟨10, .data⟩ (by simp) rfl)
      subst e10
      clear ho
      go_simp
      exact HK9.out.out _ _ ⟨_, v14, v15, v16, v73, v74, v75, v76, v77, v78, v79, v80, v81, v82, _, rfl, fun h => H0.out (upd_of h (by decide)), fun h => H1.out (upd_of h (by decide)), fun h => H2.out (upd_of h (by decide)), fun h => H3.out (upd_of h (by decide)), fun h => H4.out (upd_of h (by decide)), fun h => H5.out (upd_of h (by decide)), fun h => ⟨(H6.out (upd_of h (by decide))).1, upd_mono (H6.out (upd_of h (by decide))).2⟩, fun h => ⟨(H7.out (upd_of h (by decide))).1, upd_mono (H7.out (upd_of h (by decide))).2⟩, fun h => H8.out (upd_of h (by decide)), fun h => ⟨(H9.out (upd_of h (by decide))).1, upd_mono (H9.out (upd_of h (by decide))).2⟩, fun h => H10.out (upd_of h (by decide)), fun h => H14.out (upd_of h (by decide)), fun _ => rfl, HR.out⟩
  · intro B ac W hall hI
    obtain ⟨v9, v14, v15, v16, v73, v74, v75, v76, v77, v78, v79, v80, v81, v82, v83, rfl, h0, h1, h2, h3, h4, h5, h6, h7, h8, h9, h10, h14, h16, R⟩ := hI
    have e14 := h14 (hall 14 (by decide))
    have e16 := h16 (hall 16 (by decide))
    obtain ⟨rb, e11, hrb, LR⟩ := R.r (hall 11 (by decide))
    obtain ⟨sb, e12, hsb, LS⟩ := R.s (hall 12 (by decide))
    rw [if_pos (hall 13 (by decide))] at LR
    rw [if_pos (hall 15 (by decide))] at LS
    have hBel := R.below
    subst e14 e16 e11 e12
    exact HQ.out _ _ _ _ _ _ _ _ _ _ _ rb sb W LR LS hBel
noncomputable def reg19 : Code := ((Tryd.f7.body.bind (reg? 19)).getD .skip)
set_option maxRecDepth 200000 in
set_option maxHeartbeats 8000000 in
theorem reg19_any {Q : Exit → Act → World → Prop} (x0 x1 x2 x3 x5 x6 x8 x9 x10 x11 x12 x14 x15 x16 x17 x18 x19 x20 x21 x22 x23 x24 x25 x26 x27 x28 x29 x30 x31 x32 x33 x34 x35 x36 x37 x38 x39 x40 x41 x42 x43 x44 x45 x46 x47 x48 x49 x50 x51 x52 x53 x54 x55 x56 x57 x58 x59 x60 x61 x62 x63 x64 x65 x66 x67 x68 x69 x70 x71 x72 x73 x74 x75 x76 x77 x78 x79 x80 x81 x82 x83 x84 x85 x86 x87 x88 x89 x90 x91 x92 x93 x94 x95 x96 x97 x98 x99 x100 x101 x102 x103 x104 x105 x106 x107 x108 x109 x110 x111 x112 x113 x114 x115 x116 x117 x118 x119 x120 x121 x122 x123 x124 x125 x126 x127 x128 x129 x130 x131 x132 x133 x134 x135 x136 x137 x138 x139 x140 x141 x142 x143 x144 x145 x146 x147 x148 x149 x150 x151 x152 x153 x154 x155 x156 x157 x158 x159 x160 x161 x162 x163 x164 x165 x166 x167 x168 x169 x170 x171 x172 x173 x174 x175 x176 x177 x178 x179 x180 x181 x182 x183 x184 x185 x186 x187 x188 x189 x190 x191 x192 x193 x194 x195 x196 x197 x198 x199 x200 x201 x202 x203 x204 x205 x206 x207 : Value) (a7 : Option Addr) (p4 n c7 g9 c9 : Nat) (S O K qt qk qo qa qq p s1 s2 s3 f : Int) (wm : World) (hA9 : (n : Int) ≤ (c9 : Int))
    (HKM : Hid (∀ X, Below wm.heap.size wm X → X.cell? ⟨p4, 0, none⟩ = some (.int .i64 S) ∧ X.cell? ⟨p4, 1, none⟩ = some (.int .u64 O) ∧ X.cell? ⟨p4, 2, none⟩ = some (.int .i64 K)))
    (HG : Hid (∀ X, Below wm.heap.size wm X → Calls Tryd.prog 14 #[.agg #[.int .i64 S, .int .u64 O, .int .i64 K], .slice (some ⟨g9, 0, none⟩) n c9, .int .i64 0] X fun e w3 => e = .returned (.tuple #[.agg #[.int .i64 qt, .int .i64 qk, .int .u64 qo, .int .u64 qa, .int .i64 qq], .int .i64 p, .agg #[.int .i64 s1, .int .u64 s2, .int .i64 s3], .int .i64 f]) ∧ Below wm.heap.size wm w3 ∧ Below X.heap.size X w3))
    (HQ : Hid (∀ (v140 v141 v142 v143 v144 v145 v146 v147 v148 v149 v150 : Value) (rb sb : Nat) (W : World), W.heap[rb]? = some (.cells #[.int .i64 qt, .int .i64 qk, .int .u64 qo, .int .u64 qa, .int .i64 qq] 32 (0, 0)) → W.heap[sb]? = some (.cells #[.int .i64 s1, .int .u64 s2, .int .i64 s3] 26 (0, 0)) → Below wm.heap.size wm W → Q .normal ⟨#[x0, x1, x2, x3, .pointer (some ⟨p4, 0, none⟩), x5, x6, .slice a7 n c7, x8, x9, x10, x11, x12, .slice (some ⟨g9, 0, none⟩) (n + 3) c9, x14, x15, x16, x17, .pointer (some ⟨rb, 0, none⟩), .int .i64 p, .pointer (some ⟨sb, 0, none⟩), .int .i64 f, x22, x23, x24, x25, x26, x27, x28, x29, x30, x31, x32, x33, x34, x35, x36, x37, x38, x39, x40, x41, x42, x43, x44, x45, x46, x47, x48, x49, x50, x51, x52, x53, x54, x55, x56, x57, x58, x59, x60, x61, x62, x63, x64, x65, x66, x67, x68, x69, x70, x71, x72, x73, x74, x75, x76, x77, x78, x79, x80, x81, x82, x83, x84, x85, x86, x87, x88, x89, x90, x91, x92, x93, x94, x95, x96, x97, x98, x99, x100, x101, x102, x103, x104, x105, x106, x107, x108, x109, x110, x111, x112, x113, x114, x115, x116, x117, x118, x119, x120, x121, x122, x123, x124, x125, x126, x127, x128, x129, x130, x131, x132, x133, x134, x135, x136, x137, x138, x139, v140, v141, v142, v143, v144, v145, v146, v147, v148, v149, v150, x151, x152, x153, x154, x155, x156, x157, x158, x159, x160, x161, x162, x163, x164, x165, x166, x167, x168, x169, x170, x171, x172, x173, x174, x175, x176, x177, x178, x179, x180, x181, x182, x183, x184, x185, x186, x187, x188, x189, x190, x191, x192, x193, x194, x195, x196, x197, x198, x199, x200, x201, x202, x203, x204, x205, x206, x207], []⟩ W)) :
    reg19.wp Tryd.prog Q ⟨#[x0, x1, x2, x3, .pointer (some ⟨p4, 0, none⟩), x5, x6, .slice a7 n c7, x8, x9, x10, x11, x12, .slice (some ⟨g9, 0, none⟩) (n + 3) c9, x14, x15, x16, x17, x18, x19, x20, x21, x22, x23, x24, x25, x26, x27, x28, x29, x30, x31, x32, x33, x34, x35, x36, x37, x38, x39, x40, x41, x42, x43, x44, x45, x46, x47, x48, x49, x50, x51, x52, x53, x54, x55, x56, x57, x58, x59, x60, x61, x62, x63, x64, x65, x66, x67, x68, x69, x70, x71, x72, x73, x74, x75, x76, x77, x78, x79, x80, x81, x82, x83, x84, x85, x86, x87, x88, x89, x90, x91, x92, x93, x94, x95, x96, x97, x98, x99, x100, x101, x102, x103, x104, x105, x106, x107, x108, x109, x110, x111, x112, x113, x114, x115, x116, x117, x118, x119, x120, x121, x122, x123, x124, x125, x126, x127, x128, x129, x130, x131, x132, x133, x134, x135, x136, x137, x138, x139, x140, x141, x142, x143, x144, x145, x146, x147, x148, x149, x150, x151, x152, x153, x154, x155, x156, x157, x158, x159, x160, x161, x162, x163, x164, x165, x166, x167, x168, x169, x170, x171, x172, x173, x174, x175, x176, x177, x178, x179, x180, x181, x182, x183, x184, x185, x186, x187, x188, x189, x190, x191, x192, x193, x194, x195, x196, x197, x198, x199, x200, x201, x202, x203, x204, x205, x206, x207], []⟩ wm := by
  conv => arg 2; whnf
  refine wp_region_inv (fun B ac W => ∃ v18 v19 v20 v21 v140 v141 v142 v143 v144 v145 v146 v147 v148 v149 v150 : Value, ac = ⟨#[x0, x1, x2, x3, .pointer (some ⟨p4, 0, none⟩), x5, x6, .slice a7 n c7, x8, x9, x10, x11, x12, .slice (some ⟨g9, 0, none⟩) (n + 3) c9, x14, x15, x16, x17, v18, v19, v20, v21, x22, x23, x24, x25, x26, x27, x28, x29, x30, x31, x32, x33, x34, x35, x36, x37, x38, x39, x40, x41, x42, x43, x44, x45, x46, x47, x48, x49, x50, x51, x52, x53, x54, x55, x56, x57, x58, x59, x60, x61, x62, x63, x64, x65, x66, x67, x68, x69, x70, x71, x72, x73, x74, x75, x76, x77, x78, x79, x80, x81, x82, x83, x84, x85, x86, x87, x88, x89, x90, x91, x92, x93, x94, x95, x96, x97, x98, x99, x100, x101, x102, x103, x104, x105, x106, x107, x108, x109, x110, x111, x112, x113, x114, x115, x116, x117, x118, x119, x120, x121, x122, x123, x124, x125, x126, x127, x128, x129, x130, x131, x132, x133, x134, x135, x136, x137, x138, x139, v140, v141, v142, v143, v144, v145, v146, v147, v148, v149, v150, x151, x152, x153, x154, x155, x156, x157, x158, x159, x160, x161, x162, x163, x164, x165, x166, x167, x168, x169, x170, x171, x172, x173, x174, x175, x176, x177, x178, x179, x180, x181, x182, x183, x184, x185, x186, x187, x188, x189, x190, x191, x192, x193, x194, x195, x196, x197, x198, x199, x200, x201, x202, x203, x204, x205, x206, x207], []⟩ ∧ (B 0 = true → v141 = .agg #[.int .i64 S, .int .u64 O, .int .i64 K]) ∧ (B 1 = true → v142 = .slice (some ⟨g9, 0, none⟩) (n + 3) c9) ∧ (B 2 = true → v143 = .slice a7 n c7) ∧ (B 3 = true → v144 = .int .i64 n) ∧ (B 4 = true → v145 = .slice (some ⟨g9, 0, none⟩) n c9) ∧ (B 5 = true → v146 = (.tuple #[.agg #[.int .i64 qt, .int .i64 qk, .int .u64 qo, .int .u64 qa, .int .i64 qq], .int .i64 p, .agg #[.int .i64 s1, .int .u64 s2, .int .i64 s3], .int .i64 f])) ∧ (B 6 = true → v140 = (.tuple #[.agg #[.int .i64 qt, .int .i64 qk, .int .u64 qo, .int .u64 qa, .int .i64 qq], .int .i64 p, .agg #[.int .i64 s1, .int .u64 s2, .int .i64 s3], .int .i64 f]) ∧ B 5 = true) ∧ (B 7 = true → v147 = .agg #[.int .i64 qt, .int .i64 qk, .int .u64 qo, .int .u64 qa, .int .i64 qq] ∧ B 5 = true) ∧ (B 8 = true → v148 = .int .i64 p) ∧ (B 9 = true → v149 = .agg #[.int .i64 s1, .int .u64 s2, .int .i64 s3] ∧ B 5 = true) ∧ (B 10 = true → v150 = .int .i64 f) ∧ (B 14 = true → v19 = .int .i64 p) ∧ (B 16 = true → v21 = .int .i64 f) ∧ R20 wm W n S O K (.tuple #[.agg #[.int .i64 qt, .int .i64 qk, .int .u64 qo, .int .u64 qa, .int .i64 qq], .int .i64 p, .agg #[.int .i64 s1, .int .u64 s2, .int .i64 s3], .int .i64 f]) #[.int .i64 qt, .int .i64 qk, .int .u64 qo, .int .u64 qa, .int .i64 qq] #[.int .i64 s1, .int .u64 s2, .int .i64 s3] false (B 5) (B 11) (B 12) (B 13) (B 15) v18 v20 undef) (by kernel_rfl) (by kernel_rfl) ?_ ?_ ?_
  · exact ⟨x18, x19, x20, x21, x140, x141, x142, x143, x144, x145, x146, x147, x148, x149, x150, rfl, by simp, by simp, by simp, by simp, by simp, by simp, by simp, by simp, by simp, by simp, by simp, by simp, by simp, ⟨(Below.refl _ _).drew, by simp, by simp, by simp, by simp, by simp⟩⟩
  · intro B ac W i o ho hBi hed hI K9 hK9
    have hi : i < 17 := (Array.getElem?_eq_some_iff.1 ho).1
    obtain ⟨v18, v19, v20, v21, v140, v141, v142, v143, v144, v145, v146, v147, v148, v149, v150, rfl, h0, h1, h2, h3, h4, h5, h6, h7, h8, h9, h10, h14, h16, R⟩ := hI
    have HR : Hid _ := hide R
    have H0 : Hid _ := hide h0
    have H1 : Hid _ := hide h1
    have H2 : Hid _ := hide h2
    have H3 : Hid _ := hide h3
    have H4 : Hid _ := hide h4
    have H5 : Hid _ := hide h5
    have H6 : Hid _ := hide h6
    have H7 : Hid _ := hide h7
    have H8 : Hid _ := hide h8
    have H9 : Hid _ := hide h9
    have H10 : Hid _ := hide h10
    have H14 : Hid _ := hide h14
    have H16 : Hid _ := hide h16
    have HBi : Hid _ := hide hBi
    have HED : Hid _ := hide hed
    have HK9 : Hid _ := hide hK9
    clear R hBi hed hK9 HQ h0 h1 h2 h3 h4 h5 h6 h7 h8 h9 h10 h14 h16
    obtain rfl | rfl | rfl | rfl | rfl | rfl | rfl | rfl | rfl | rfl | rfl | rfl | rfl | rfl | rfl | rfl | rfl : i = 0 ∨ i = 1 ∨ i = 2 ∨ i = 3 ∨ i = 4 ∨ i = 5 ∨ i = 6 ∨ i = 7 ∨ i = 8 ∨ i = 9 ∨ i = 10 ∨ i = 11 ∨ i = 12 ∨ i = 13 ∨ i = 14 ∨ i = 15 ∨ i = 16 := by omega
    · obtain rfl : _ = o := Option.some.inj ho
      obtain ⟨z0, z1, z2⟩ := HKM.out W HR.out.below
      clear ho
      go_simp
      exact HK9.out.out _ _ ⟨v18, v19, v20, v21, v140, _, v142, v143, v144, v145, v146, v147, v148, v149, v150, rfl, fun _ => rfl, fun h => H1.out (upd_of h (by decide)), fun h => H2.out (upd_of h (by decide)), fun h => H3.out (upd_of h (by decide)), fun h => H4.out (upd_of h (by decide)), fun h => H5.out (upd_of h (by decide)), fun h => ⟨(H6.out (upd_of h (by decide))).1, upd_mono (H6.out (upd_of h (by decide))).2⟩, fun h => ⟨(H7.out (upd_of h (by decide))).1, upd_mono (H7.out (upd_of h (by decide))).2⟩, fun h => H8.out (upd_of h (by decide)), fun h => ⟨(H9.out (upd_of h (by decide))).1, upd_mono (H9.out (upd_of h (by decide))).2⟩, fun h => H10.out (upd_of h (by decide)), fun h => H14.out (upd_of h (by decide)), fun h => H16.out (upd_of h (by decide)), HR.out⟩
    · obtain rfl : _ = o := Option.some.inj ho
      clear ho
      go_simp
      exact HK9.out.out _ _ ⟨v18, v19, v20, v21, v140, v141, _, v143, v144, v145, v146, v147, v148, v149, v150, rfl, fun h => H0.out (upd_of h (by decide)), fun _ => rfl, fun h => H2.out (upd_of h (by decide)), fun h => H3.out (upd_of h (by decide)), fun h => H4.out (upd_of h (by decide)), fun h => H5.out (upd_of h (by decide)), fun h => ⟨(H6.out (upd_of h (by decide))).1, upd_mono (H6.out (upd_of h (by decide))).2⟩, fun h => ⟨(H7.out (upd_of h (by decide))).1, upd_mono (H7.out (upd_of h (by decide))).2⟩, fun h => H8.out (upd_of h (by decide)), fun h => ⟨(H9.out (upd_of h (by decide))).1, upd_mono (H9.out (upd_of h (by decide))).2⟩, fun h => H10.out (upd_of h (by decide)), fun h => H14.out (upd_of h (by decide)), fun h => H16.out (upd_of h (by decide)), HR.out⟩
    · obtain rfl : _ = o := Option.some.inj ho
      clear ho
      go_simp
      exact HK9.out.out _ _ ⟨v18, v19, v20, v21, v140, v141, v142, _, v144, v145, v146, v147, v148, v149, v150, rfl, fun h => H0.out (upd_of h (by decide)), fun h => H1.out (upd_of h (by decide)), fun _ => rfl, fun h => H3.out (upd_of h (by decide)), fun h => H4.out (upd_of h (by decide)), fun h => H5.out (upd_of h (by decide)), fun h => ⟨(H6.out (upd_of h (by decide))).1, upd_mono (H6.out (upd_of h (by decide))).2⟩, fun h => ⟨(H7.out (upd_of h (by decide))).1, upd_mono (H7.out (upd_of h (by decide))).2⟩, fun h => H8.out (upd_of h (by decide)), fun h => ⟨(H9.out (upd_of h (by decide))).1, upd_mono (H9.out (upd_of h (by decide))).2⟩, fun h => H10.out (upd_of h (by decide)), fun h => H14.out (upd_of h (by decide)), fun h => H16.out (upd_of h (by decide)), HR.out⟩
    · obtain rfl : _ = o := Option.some.inj ho
      have e2 : v143 = .slice a7 n c7 := H2.out (HED.out ⟨2, .data⟩ (by simp) rfl)
      subst e2
      clear ho
      go_simp
      exact HK9.out.out _ _ ⟨v18, v19, v20, v21, v140, v141, v142, _, _, v145, v146, v147, v148, v149, v150, rfl, fun h => H0.out (upd_of h (by decide)), fun h => H1.out (upd_of h (by decide)), fun h => H2.out (upd_of h (by decide)), fun _ => rfl, fun h => H4.out (upd_of h (by decide)), fun h => H5.out (upd_of h (by decide)), fun h => ⟨(H6.out (upd_of h (by decide))).1, upd_mono (H6.out (upd_of h (by decide))).2⟩, fun h => ⟨(H7.out (upd_of h (by decide))).1, upd_mono (H7.out (upd_of h (by decide))).2⟩, fun h => H8.out (upd_of h (by decide)), fun h => ⟨(H9.out (upd_of h (by decide))).1, upd_mono (H9.out (upd_of h (by decide))).2⟩, fun h => H10.out (upd_of h (by decide)), fun h => H14.out (upd_of h (by decide)), fun h => H16.out (upd_of h (by decide)), HR.out⟩
    · obtain rfl : _ = o := Option.some.inj ho
      have e1 : v142 = .slice (some ⟨g9, 0, none⟩) (n + 3) c9 := H1.out (HED.out ⟨1, .data⟩ (by simp) rfl)
      subst e1
      have e3 : v144 = .int .i64 n := H3.out (HED.out ⟨3, .data⟩ (by simp) rfl)
      subst e3
      clear ho
      go_simp
      exact HK9.out.out _ _ ⟨v18, v19, v20, v21, v140, v141, _, v143, _, _, v146, v147, v148, v149, v150, rfl, fun h => H0.out (upd_of h (by decide)), fun h => H1.out (upd_of h (by decide)), fun h => H2.out (upd_of h (by decide)), fun h => H3.out (upd_of h (by decide)), fun _ => rfl, fun h => H5.out (upd_of h (by decide)), fun h => ⟨(H6.out (upd_of h (by decide))).1, upd_mono (H6.out (upd_of h (by decide))).2⟩, fun h => ⟨(H7.out (upd_of h (by decide))).1, upd_mono (H7.out (upd_of h (by decide))).2⟩, fun h => H8.out (upd_of h (by decide)), fun h => ⟨(H9.out (upd_of h (by decide))).1, upd_mono (H9.out (upd_of h (by decide))).2⟩, fun h => H10.out (upd_of h (by decide)), fun h => H14.out (upd_of h (by decide)), fun h => H16.out (upd_of h (by decide)), HR.out⟩
    · obtain rfl : _ = o := Option.some.inj ho
      have e0 : v141 = .agg #[.int .i64 S, .int .u64 O, .int .i64 K] := H0.out (HED.out ⟨0, .data⟩ (by simp) rfl)
      subst e0
      have e4 : v145 = .slice (some ⟨g9, 0, none⟩) n c9 := H4.out (HED.out ⟨4, .data⟩ (by simp) rfl)
      subst e4
      have hG := HG.out W HR.out.below
      clear ho
      go_simp
      refine hG.mono ?_
      rintro e W2 ⟨rfl, hb1, hb2⟩
      exact HK9.out.out _ _ ⟨v18, v19, v20, v21, v140, _, v142, v143, v144, _, _, v147, v148, v149, v150, rfl, fun h => H0.out (upd_of h (by decide)), fun h => H1.out (upd_of h (by decide)), fun h => H2.out (upd_of h (by decide)), fun h => H3.out (upd_of h (by decide)), fun h => H4.out (upd_of h (by decide)), fun _ => rfl, fun h => ⟨(H6.out (upd_of h (by decide))).1, upd_mono (H6.out (upd_of h (by decide))).2⟩, fun h => ⟨(H7.out (upd_of h (by decide))).1, upd_mono (H7.out (upd_of h (by decide))).2⟩, fun h => H8.out (upd_of h (by decide)), fun h => ⟨(H9.out (upd_of h (by decide))).1, upd_mono (H9.out (upd_of h (by decide))).2⟩, fun h => H10.out (upd_of h (by decide)), fun h => H14.out (upd_of h (by decide)), fun h => H16.out (upd_of h (by decide)), (show R20 wm W2 n S O K _ _ _ false true (B 11) (B 12) (B 13) (B 15) v18 v20 undef from R20.got (by have := HR.out; rw [HBi.out] at this; exact this) hb2)⟩
    · obtain rfl : _ = o := Option.some.inj ho
      have HB5 : Hid (B 5 = true) := hide (HED.out ⟨5, .data⟩ (by simp) rfl)
      have e5 : v146 = (.tuple #[.agg #[.int .i64 qt, .int .i64 qk, .int .u64 qo, .int .u64 qa, .int .i64 qq], .int .i64 p, .agg #[.int .i64 s1, .int .u64 s2, .int .i64 s3], .int .i64 f]) := H5.out HB5.out
      subst e5
      clear ho
      go_simp
      exact HK9.out.out _ _ ⟨v18, v19, v20, v21, _, v141, v142, v143, v144, v145, _, v147, v148, v149, v150, rfl, fun h => H0.out (upd_of h (by decide)), fun h => H1.out (upd_of h (by decide)), fun h => H2.out (upd_of h (by decide)), fun h => H3.out (upd_of h (by decide)), fun h => H4.out (upd_of h (by decide)), fun h => H5.out (upd_of h (by decide)), fun _ => ⟨rfl, upd_mono HB5.out⟩, fun h => ⟨(H7.out (upd_of h (by decide))).1, upd_mono (H7.out (upd_of h (by decide))).2⟩, fun h => H8.out (upd_of h (by decide)), fun h => ⟨(H9.out (upd_of h (by decide))).1, upd_mono (H9.out (upd_of h (by decide))).2⟩, fun h => H10.out (upd_of h (by decide)), fun h => H14.out (upd_of h (by decide)), fun h => H16.out (upd_of h (by decide)), HR.out⟩
    · obtain rfl : _ = o := Option.some.inj ho
      have HB5 : Hid (B 5 = true) := hide (H6.out (HED.out ⟨6, .data⟩ (by simp) rfl)).2
      have e6 : v140 = (.tuple #[.agg #[.int .i64 qt, .int .i64 qk, .int .u64 qo, .int .u64 qa, .int .i64 qq], .int .i64 p, .agg #[.int .i64 s1, .int .u64 s2, .int .i64 s3], .int .i64 f]) := (H6.out (HED.out ⟨6, .data⟩ (by simp) rfl)).1
      subst e6
      clear ho
      go_simp
      exact HK9.out.out _ _ ⟨v18, v19, v20, v21, _, v141, v142, v143, v144, v145, v146, _, v148, v149, v150, rfl, fun h => H0.out (upd_of h (by decide)), fun h => H1.out (upd_of h (by decide)), fun h => H2.out (upd_of h (by decide)), fun h => H3.out (upd_of h (by decide)), fun h => H4.out (upd_of h (by decide)), fun h => H5.out (upd_of h (by decide)), fun h => ⟨(H6.out (upd_of h (by decide))).1, upd_mono (H6.out (upd_of h (by decide))).2⟩, fun _ => ⟨rfl, upd_mono HB5.out⟩, fun h => H8.out (upd_of h (by decide)), fun h => ⟨(H9.out (upd_of h (by decide))).1, upd_mono (H9.out (upd_of h (by decide))).2⟩, fun h => H10.out (upd_of h (by decide)), fun h => H14.out (upd_of h (by decide)), fun h => H16.out (upd_of h (by decide)), HR.out⟩
    · obtain rfl : _ = o := Option.some.inj ho
      have HB5 : Hid (B 5 = true) := hide (H6.out (HED.out ⟨6, .data⟩ (by simp) rfl)).2
      have e6 : v140 = (.tuple #[.agg #[.int .i64 qt, .int .i64 qk, .int .u64 qo, .int .u64 qa, .int .i64 qq], .int .i64 p, .agg #[.int .i64 s1, .int .u64 s2, .int .i64 s3], .int .i64 f]) := (H6.out (HED.out ⟨6, .data⟩ (by simp) rfl)).1
      subst e6
      clear ho
      go_simp
      exact HK9.out.out _ _ ⟨v18, v19, v20, v21, _, v141, v142, v143, v144, v145, v146, v147, _, v149, v150, rfl, fun h => H0.out (upd_of h (by decide)), fun h => H1.out (upd_of h (by decide)), fun h => H2.out (upd_of h (by decide)), fun h => H3.out (upd_of h (by decide)), fun h => H4.out (upd_of h (by decide)), fun h => H5.out (upd_of h (by decide)), fun h => ⟨(H6.out (upd_of h (by decide))).1, upd_mono (H6.out (upd_of h (by decide))).2⟩, fun h => ⟨(H7.out (upd_of h (by decide))).1, upd_mono (H7.out (upd_of h (by decide))).2⟩, fun _ => rfl, fun h => ⟨(H9.out (upd_of h (by decide))).1, upd_mono (H9.out (upd_of h (by decide))).2⟩, fun h => H10.out (upd_of h (by decide)), fun h => H14.out (upd_of h (by decide)), fun h => H16.out (upd_of h (by decide)), HR.out⟩
    · obtain rfl : _ = o := Option.some.inj ho
      have HB5 : Hid (B 5 = true) := hide (H6.out (HED.out ⟨6, .data⟩ (by simp) rfl)).2
      have e6 : v140 = (.tuple #[.agg #[.int .i64 qt, .int .i64 qk, .int .u64 qo, .int .u64 qa, .int .i64 qq], .int .i64 p, .agg #[.int .i64 s1, .int .u64 s2, .int .i64 s3], .int .i64 f]) := (H6.out (HED.out ⟨6, .data⟩ (by simp) rfl)).1
      subst e6
      clear ho
      go_simp
      exact HK9.out.out _ _ ⟨v18, v19, v20, v21, _, v141, v142, v143, v144, v145, v146, v147, v148, _, v150, rfl, fun h => H0.out (upd_of h (by decide)), fun h => H1.out (upd_of h (by decide)), fun h => H2.out (upd_of h (by decide)), fun h => H3.out (upd_of h (by decide)), fun h => H4.out (upd_of h (by decide)), fun h => H5.out (upd_of h (by decide)), fun h => ⟨(H6.out (upd_of h (by decide))).1, upd_mono (H6.out (upd_of h (by decide))).2⟩, fun h => ⟨(H7.out (upd_of h (by decide))).1, upd_mono (H7.out (upd_of h (by decide))).2⟩, fun h => H8.out (upd_of h (by decide)), fun _ => ⟨rfl, upd_mono HB5.out⟩, fun h => H10.out (upd_of h (by decide)), fun h => H14.out (upd_of h (by decide)), fun h => H16.out (upd_of h (by decide)), HR.out⟩
    · obtain rfl : _ = o := Option.some.inj ho
      have HB5 : Hid (B 5 = true) := hide (H6.out (HED.out ⟨6, .data⟩ (by simp) rfl)).2
      have e6 : v140 = (.tuple #[.agg #[.int .i64 qt, .int .i64 qk, .int .u64 qo, .int .u64 qa, .int .i64 qq], .int .i64 p, .agg #[.int .i64 s1, .int .u64 s2, .int .i64 s3], .int .i64 f]) := (H6.out (HED.out ⟨6, .data⟩ (by simp) rfl)).1
      subst e6
      clear ho
      go_simp
      exact HK9.out.out _ _ ⟨v18, v19, v20, v21, _, v141, v142, v143, v144, v145, v146, v147, v148, v149, _, rfl, fun h => H0.out (upd_of h (by decide)), fun h => H1.out (upd_of h (by decide)), fun h => H2.out (upd_of h (by decide)), fun h => H3.out (upd_of h (by decide)), fun h => H4.out (upd_of h (by decide)), fun h => H5.out (upd_of h (by decide)), fun h => ⟨(H6.out (upd_of h (by decide))).1, upd_mono (H6.out (upd_of h (by decide))).2⟩, fun h => ⟨(H7.out (upd_of h (by decide))).1, upd_mono (H7.out (upd_of h (by decide))).2⟩, fun h => H8.out (upd_of h (by decide)), fun h => ⟨(H9.out (upd_of h (by decide))).1, upd_mono (H9.out (upd_of h (by decide))).2⟩, fun _ => rfl, fun h => H14.out (upd_of h (by decide)), fun h => H16.out (upd_of h (by decide)), HR.out⟩
    · obtain rfl : _ = o := Option.some.inj ho
      clear ho
      go_simp
      exact HK9.out.out _ _ ⟨_, v19, v20, v21, v140, v141, v142, v143, v144, v145, v146, v147, v148, v149, v150, rfl, fun h => H0.out (upd_of h (by decide)), fun h => H1.out (upd_of h (by decide)), fun h => H2.out (upd_of h (by decide)), fun h => H3.out (upd_of h (by decide)), fun h => H4.out (upd_of h (by decide)), fun h => H5.out (upd_of h (by decide)), fun h => ⟨(H6.out (upd_of h (by decide))).1, upd_mono (H6.out (upd_of h (by decide))).2⟩, fun h => ⟨(H7.out (upd_of h (by decide))).1, upd_mono (H7.out (upd_of h (by decide))).2⟩, fun h => H8.out (upd_of h (by decide)), fun h => ⟨(H9.out (upd_of h (by decide))).1, upd_mono (H9.out (upd_of h (by decide))).2⟩, fun h => H10.out (upd_of h (by decide)), fun h => H14.out (upd_of h (by decide)), fun h => H16.out (upd_of h (by decide)), (show R20 wm _ n S O K _ _ _ false (B 5) true (B 12) (B 13) (B 15) _ v20 undef from R20.recA (v22 := v18) (by have := HR.out; rw [HBi.out] at this; exact this))⟩
    · obtain rfl : _ = o := Option.some.inj ho
      clear ho
      go_simp
      exact HK9.out.out _ _ ⟨v18, v19, _, v21, v140, v141, v142, v143, v144, v145, v146, v147, v148, v149, v150, rfl, fun h => H0.out (upd_of h (by decide)), fun h => H1.out (upd_of h (by decide)), fun h => H2.out (upd_of h (by decide)), fun h => H3.out (upd_of h (by decide)), fun h => H4.out (upd_of h (by decide)), fun h => H5.out (upd_of h (by decide)), fun h => ⟨(H6.out (upd_of h (by decide))).1, upd_mono (H6.out (upd_of h (by decide))).2⟩, fun h => ⟨(H7.out (upd_of h (by decide))).1, upd_mono (H7.out (upd_of h (by decide))).2⟩, fun h => H8.out (upd_of h (by decide)), fun h => ⟨(H9.out (upd_of h (by decide))).1, upd_mono (H9.out (upd_of h (by decide))).2⟩, fun h => H10.out (upd_of h (by decide)), fun h => H14.out (upd_of h (by decide)), fun h => H16.out (upd_of h (by decide)), (show R20 wm _ n S O K _ _ _ false (B 5) (B 11) true (B 13) (B 15) v18 _ undef from R20.st (v24 := v20) (by have := HR.out; rw [HBi.out] at this; exact this))⟩
    · obtain rfl : _ = o := Option.some.inj ho
      have HB11 : Hid (B 11 = true) := hide (HED.out ⟨11, .data⟩ (by simp) rfl)
      have HB5 : Hid (B 5 = true) := hide (H7.out (HED.out ⟨7, .data⟩ (by simp) rfl)).2
      have e7 : v147 = .agg #[.int .i64 qt, .int .i64 qk, .int .u64 qo, .int .u64 qa, .int .i64 qq] := (H7.out (HED.out ⟨7, .data⟩ (by simp) rfl)).1
      subst e7
      have HR2 : R20 wm W n S O K (.tuple #[.agg #[.int .i64 qt, .int .i64 qk, .int .u64 qo, .int .u64 qa, .int .i64 qq], .int .i64 p, .agg #[.int .i64 s1, .int .u64 s2, .int .i64 s3], .int .i64 f]) #[.int .i64 qt, .int .i64 qk, .int .u64 qo, .int .u64 qa, .int .i64 qq] #[.int .i64 s1, .int .u64 s2, .int .i64 s3] false (B 5) true (B 12) false (B 15) v18 v20 undef := by have := HR.out; rw [HB11.out, HBi.out] at this; exact this
      obtain ⟨rb, e9, hrb, LR⟩ := HR2.recAt
      subst e9
      obtain ⟨r0, r1, r2, r3, r4⟩ := r5_cells LR; have f0 := frz LR 0; have f1 := frz LR 1; have f2 := frz LR 2; have f3 := frz LR 3; have f4 := frz LR 4
      have HRR := hide (HR2.recS HB5.out)
      clear HR2 LR
      clear ho
      go_simp
      exact HK9.out.out _ _ ⟨_, v19, v20, v21, v140, v141, v142, v143, v144, v145, v146, _, v148, v149, v150, rfl, fun h => H0.out (upd_of h (by decide)), fun h => H1.out (upd_of h (by decide)), fun h => H2.out (upd_of h (by decide)), fun h => H3.out (upd_of h (by decide)), fun h => H4.out (upd_of h (by decide)), fun h => H5.out (upd_of h (by decide)), fun h => ⟨(H6.out (upd_of h (by decide))).1, upd_mono (H6.out (upd_of h (by decide))).2⟩, fun h => ⟨(H7.out (upd_of h (by decide))).1, upd_mono (H7.out (upd_of h (by decide))).2⟩, fun h => H8.out (upd_of h (by decide)), fun h => ⟨(H9.out (upd_of h (by decide))).1, upd_mono (H9.out (upd_of h (by decide))).2⟩, fun h => H10.out (upd_of h (by decide)), fun h => H14.out (upd_of h (by decide)), fun h => H16.out (upd_of h (by decide)), (show R20 wm _ n S O K _ _ _ false (B 5) (B 11) (B 12) true (B 15) _ v20 undef from by rw [HB11.out]; exact HRR.out)⟩
    · obtain rfl : _ = o := Option.some.inj ho
      have e8 : v148 = .int .i64 p := H8.out (HED.out ⟨8, .data⟩ (by simp) rfl)
      subst e8
      clear ho
      go_simp
      exact HK9.out.out _ _ ⟨v18, _, v20, v21, v140, v141, v142, v143, v144, v145, v146, v147, _, v149, v150, rfl, fun h => H0.out (upd_of h (by decide)), fun h => H1.out (upd_of h (by decide)), fun h => H2.out (upd_of h (by decide)), fun h => H3.out (upd_of h (by decide)), fun h => H4.out (upd_of h (by decide)), fun h => H5.out (upd_of h (by decide)), fun h => ⟨(H6.out (upd_of h (by decide))).1, upd_mono (H6.out (upd_of h (by decide))).2⟩, fun h => ⟨(H7.out (upd_of h (by decide))).1, upd_mono (H7.out (upd_of h (by decide))).2⟩, fun h => H8.out (upd_of h (by decide)), fun h => ⟨(H9.out (upd_of h (by decide))).1, upd_mono (H9.out (upd_of h (by decide))).2⟩, fun h => H10.out (upd_of h (by decide)), fun _ => rfl, fun h => H16.out (upd_of h (by decide)), HR.out⟩
    · obtain rfl : _ = o := Option.some.inj ho
      have HB12 : Hid (B 12 = true) := hide (HED.out ⟨12, .data⟩ (by simp) rfl)
      have HB5 : Hid (B 5 = true) := hide (H9.out (HED.out ⟨9, .data⟩ (by simp) rfl)).2
      have e9 : v149 = .agg #[.int .i64 s1, .int .u64 s2, .int .i64 s3] := (H9.out (HED.out ⟨9, .data⟩ (by simp) rfl)).1
      subst e9
      have HR2 : R20 wm W n S O K (.tuple #[.agg #[.int .i64 qt, .int .i64 qk, .int .u64 qo, .int .u64 qa, .int .i64 qq], .int .i64 p, .agg #[.int .i64 s1, .int .u64 s2, .int .i64 s3], .int .i64 f]) #[.int .i64 qt, .int .i64 qk, .int .u64 qo, .int .u64 qa, .int .i64 qq] #[.int .i64 s1, .int .u64 s2, .int .i64 s3] false (B 5) (B 11) true (B 13) false v18 v20 undef := by have := HR.out; rw [HB12.out, HBi.out] at this; exact this
      obtain ⟨rb, e9, hrb, LR⟩ := HR2.stAt
      subst e9
      obtain ⟨r0, r1, r2⟩ := z3_cells LR; have f0 := frz LR 0; have f1 := frz LR 1; have f2 := frz LR 2
      have HRR := hide (HR2.stS HB5.out)
      clear HR2 LR
      clear ho
      go_simp
      exact HK9.out.out _ _ ⟨v18, v19, _, v21, v140, v141, v142, v143, v144, v145, v146, v147, v148, _, v150, rfl, fun h => H0.out (upd_of h (by decide)), fun h => H1.out (upd_of h (by decide)), fun h => H2.out (upd_of h (by decide)), fun h => H3.out (upd_of h (by decide)), fun h => H4.out (upd_of h (by decide)), fun h => H5.out (upd_of h (by decide)), fun h => ⟨(H6.out (upd_of h (by decide))).1, upd_mono (H6.out (upd_of h (by decide))).2⟩, fun h => ⟨(H7.out (upd_of h (by decide))).1, upd_mono (H7.out (upd_of h (by decide))).2⟩, fun h => H8.out (upd_of h (by decide)), fun h => ⟨(H9.out (upd_of h (by decide))).1, upd_mono (H9.out (upd_of h (by decide))).2⟩, fun h => H10.out (upd_of h (by decide)), fun h => H14.out (upd_of h (by decide)), fun h => H16.out (upd_of h (by decide)), (show R20 wm _ n S O K _ _ _ false (B 5) (B 11) (B 12) (B 13) true v18 _ undef from by rw [HB12.out]; exact HRR.out)⟩
    · obtain rfl : _ = o := Option.some.inj ho
      have e10 : v150 = .int .i64 f := H10.out (HED.out ⟨10, .data⟩ (by simp) rfl)
      subst e10
      clear ho
      go_simp
      exact HK9.out.out _ _ ⟨v18, v19, v20, _, v140, v141, v142, v143, v144, v145, v146, v147, v148, v149, _, rfl, fun h => H0.out (upd_of h (by decide)), fun h => H1.out (upd_of h (by decide)), fun h => H2.out (upd_of h (by decide)), fun h => H3.out (upd_of h (by decide)), fun h => H4.out (upd_of h (by decide)), fun h => H5.out (upd_of h (by decide)), fun h => ⟨(H6.out (upd_of h (by decide))).1, upd_mono (H6.out (upd_of h (by decide))).2⟩, fun h => ⟨(H7.out (upd_of h (by decide))).1, upd_mono (H7.out (upd_of h (by decide))).2⟩, fun h => H8.out (upd_of h (by decide)), fun h => ⟨(H9.out (upd_of h (by decide))).1, upd_mono (H9.out (upd_of h (by decide))).2⟩, fun h => H10.out (upd_of h (by decide)), fun h => H14.out (upd_of h (by decide)), fun _ => rfl, HR.out⟩
  · intro B ac W hall hI
    obtain ⟨v18, v19, v20, v21, v140, v141, v142, v143, v144, v145, v146, v147, v148, v149, v150, rfl, h0, h1, h2, h3, h4, h5, h6, h7, h8, h9, h10, h14, h16, R⟩ := hI
    have e14 := h14 (hall 14 (by decide))
    have e16 := h16 (hall 16 (by decide))
    obtain ⟨rb, e11, hrb, LR⟩ := R.r (hall 11 (by decide))
    obtain ⟨sb, e12, hsb, LS⟩ := R.s (hall 12 (by decide))
    rw [if_pos (hall 13 (by decide))] at LR
    rw [if_pos (hall 15 (by decide))] at LS
    have hBel := R.below
    subst e14 e16 e11 e12
    exact HQ.out _ _ _ _ _ _ _ _ _ _ _ rb sb W LR LS hBel
end Go.Proofs.YtgecdnmgifcghaaDoor
