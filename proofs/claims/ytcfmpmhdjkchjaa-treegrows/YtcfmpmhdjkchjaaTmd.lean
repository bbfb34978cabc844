import Derived.Test.YtcfmpmhdjkchjaaTmc
namespace Go.Proofs.Ytcfmpmhdjkchjaa
open Go.RowKit Go.Maps

set_option maxRecDepth 1000000 in
set_option maxHeartbeats 32000000 in
theorem tok_head {Te : List Td} {Sy : List Sd} {P : List Pd} {J : List Ep → List Nd → Nat → Prop} {u : Nat → Value} {w W1 : World} {a0 a1 a2 : Option Addr} {n0 c0 n1 c1 n2 c2 lb B : Nat} {N pad len : Int} {W2 : World} {a7 a8 : Option Addr} {m7 c7 m8 c8 p i ob : Nat} {S : List En} {tk : List Nd} {Q : Exit → Act → World → Prop} (hG : Gx w (.slice a0 n0 c0) (.slice a1 n1 c1) (.slice a2 n2 c2) Te Sy P) (hJ : Kp Te Sy P J) (hN0 : Te.length = n0) (hBA : ∀ W, Below B W1 W → Below w.heap.size w W) (hLX : ∀ W, Below B W1 W → W.heap[lb]? = some (.cells #[u 0, u 1, .slice a0 n0 c0, .slice a1 n1 c1, .slice a2 n2 c2, u 5, u 6, u 7, u 8, u 9, u 10, u 11] 52 (0, 0))) (hBS : ∀ W, Below B W1 W → B ≤ W.heap.size)
    (hM2 : Ms Te J B lb W1 W2 (.slice a7 m7 c7) (.slice a8 m8 c8) S tk p i) (hM7 : S.length = m7) (hM8 : tk.length = m8) (hi : i < 65536) (hO2 : W2.heap[ob]? = some (.cells #[.int .i64 N, .int .i64 pad, .int .i64 len] 104 (0, 0)))
    (x0 x1 x3 x4 x5 x6 x10 x12 x13 x14 x15 x16 x17 x18 x19 x20 x21 x22 x23 x24 x25 x26 x27 x28 x29 x30 x31 x32 x33 x34 x35 x36 x37 x38 x39 x40 x41 x42 x43 x44 x45 x46 x47 x48 x49 x50 x51 x52 x53 x54 x55 x56 x57 x58 x59 x60 x61 x62 x63 x64 x65 x66 x67 x68 x69 x70 x71 x72 x73 x74 x75 x76 x77 x78 x79 x80 x81 x82 x83 x84 x85 x86 x87 x88 x89 x90 x91 x92 x93 x94 x95 x96 x97 x98 x99 x100 x101 x102 x103 x104 x105 x106 x107 x108 x109 x110 x111 x112 x113 x114 x115 x116 x117 x118 x119 x120 x121 x122 x123 x124 x125 x126 x127 x128 x129 x130 x131 x132 x133 x134 x135 x136 x137 x138 x139 x140 x141 x142 x143 x144 x145 x146 x147 x148 x149 x150 x151 x152 x153 x154 x155 x156 x157 x158 x159 x160 x161 x162 x163 x164 x165 x166 x167 x168 x169 x170 x171 x172 x173 x174 x175 x176 x177 x178 x179 x180 x181 x182 x183 x184 x185 x186 x187 x188 x189 x190 x191 x192 x193 x194 x195 x196 x197 x198 x199 x200 x201 x202 x203 x204 x205 x206 x207 x208 x209 x210 x211 x212 x213 x214 x215 x216 x217 x218 x219 x220 x221 x222 x223 x224 x225 x226 x227 x228 x229 x230 x231 x232 x233 x234 x235 x236 : Value) (hQ : ∀ (v7 v8 v9 y11 y12 y13 y14 y15 y16 y17 y18 y19 y20 y21 y22 y23 y24 y25 y26 y27 y28 y29 y30 y31 y32 y33 y34 y35 y36 y37 y38 y39 y40 y41 y42 y43 y44 y45 y46 y47 y48 y49 y50 y51 y52 y53 y54 y55 y56 y57 y58 y59 y60 y61 y62 y63 y64 y65 y66 y67 y68 y69 y70 y71 y72 y73 y74 y75 y76 y77 y78 y79 y80 y81 y82 y83 y84 y85 y86 y87 y88 y89 y90 y91 y92 y93 y94 y95 y96 y97 y98 y99 y100 y101 y102 y103 y104 y105 y106 y107 y108 y109 y110 y111 y112 y113 y114 y115 y116 y117 y118 y119 y120 y121 y122 y123 y124 y125 y126 y127 y128 y129 y130 y131 y132 y133 y134 y135 y136 y137 y138 y139 y140 y141 y142 y143 y144 y145 y146 y147 y148 y149 y150 y151 y152 y153 y154 y155 y156 y157 y158 y159 y160 y161 y162 y163 y164 y165 y166 y167 y168 y169 y170 y171 y172 y173 y174 y175 y176 y177 y178 y179 y180 y181 y182 y183 y184 y185 y186 y187 y188 y189 y190 y191 y192 y193 y194 y195 y196 y197 y198 y199 y200 y201 y202 y203 y204 y205 y206 y207 y208 y209 y210 y211 y212 y213 y214 y215 y216 y217 y218 y219 y220 y221 y222 y223 y224 y225 y226 y227 y228 y229 y230 y231 y232 y233 y234 : Value) (W : World), Nx Te J B lb W1 (i + 1) v7 v8 v9 W → Q (.exit 1) ⟨#[x0, x1, .pointer (some ⟨lb, 0, none⟩), x3, x4, x5, x6, v7, v8, v9, x10, y11, y12, y13, y14, y15, y16, y17, y18, y19, y20, y21, y22, y23, y24, y25, y26, y27, y28, y29, y30, y31, y32, y33, y34, y35, y36, y37, y38, y39, y40, y41, y42, y43, y44, y45, y46, y47, y48, y49, y50, y51, y52, y53, y54, y55, y56, y57, y58, y59, y60, y61, y62, y63, y64, y65, y66, y67, y68, y69, y70, y71, y72, y73, y74, y75, y76, y77, y78, y79, y80, y81, y82, y83, y84, y85, y86, y87, y88, y89, y90, y91, y92, y93, y94, y95, y96, y97, y98, y99, y100, y101, y102, y103, y104, y105, y106, y107, y108, y109, y110, y111, y112, y113, y114, y115, y116, y117, y118, y119, y120, y121, y122, y123, y124, y125, y126, y127, y128, y129, y130, y131, y132, y133, y134, y135, y136, y137, y138, y139, y140, y141, y142, y143, y144, y145, y146, y147, y148, y149, y150, y151, y152, y153, y154, y155, y156, y157, y158, y159, y160, y161, y162, y163, y164, y165, y166, y167, y168, y169, y170, y171, y172, y173, y174, y175, y176, y177, y178, y179, y180, y181, y182, y183, y184, y185, y186, y187, y188, y189, y190, y191, y192, y193, y194, y195, y196, y197, y198, y199, y200, y201, y202, y203, y204, y205, y206, y207, y208, y209, y210, y211, y212, y213, y214, y215, y216, y217, y218, y219, y220, y221, y222, y223, y224, y225, y226, y227, y228, y229, y230, y231, y232, y233, y234, x235, x236], []⟩ W) :
    Code.wp Try.prog cTB Q ⟨#[x0, x1, .pointer (some ⟨lb, 0, none⟩), x3, x4, x5, x6, .slice a7 m7 c7, .slice a8 m8 c8, .int .i64 (p : Int), x10, .pointer (some ⟨ob, 0, none⟩), x12, x13, x14, x15, x16, x17, x18, x19, x20, x21, x22, x23, x24, x25, x26, x27, x28, x29, x30, x31, x32, x33, x34, x35, x36, x37, x38, x39, x40, x41, x42, x43, x44, x45, x46, x47, x48, x49, x50, x51, x52, x53, x54, x55, x56, x57, x58, x59, x60, x61, x62, x63, x64, x65, x66, x67, x68, x69, x70, x71, x72, x73, x74, x75, x76, x77, x78, x79, x80, x81, x82, x83, x84, x85, x86, x87, x88, x89, x90, x91, x92, x93, x94, x95, x96, x97, x98, x99, x100, x101, x102, x103, x104, x105, x106, x107, x108, x109, x110, x111, x112, x113, x114, x115, x116, x117, x118, x119, x120, x121, x122, x123, x124, x125, x126, x127, x128, x129, x130, x131, x132, x133, x134, x135, x136, x137, x138, x139, x140, x141, x142, x143, x144, x145, x146, x147, x148, x149, x150, x151, x152, x153, x154, x155, x156, x157, x158, x159, x160, x161, x162, x163, x164, x165, x166, x167, x168, x169, x170, x171, x172, x173, x174, x175, x176, x177, x178, x179, x180, x181, x182, x183, x184, x185, x186, x187, x188, x189, x190, x191, x192, x193, x194, x195, x196, x197, x198, x199, x200, x201, x202, x203, x204, x205, x206, x207, x208, x209, x210, x211, x212, x213, x214, x215, x216, x217, x218, x219, x220, x221, x222, x223, x224, x225, x226, x227, x228, x229, x230, x231, x232, x233, x234, x235, x236], []⟩ W2 := by
  have HG : Hid (Gx w (.slice a0 n0 c0) (.slice a1 n1 c1) (.slice a2 n2 c2) Te Sy P) := hG
  have HJ : Hid (Kp Te Sy P J) := hJ
  have HN0 : Hid (Te.length = n0) := hN0
  have HBA : Hid (∀ W, Below B W1 W → Below w.heap.size w W) := hBA
  have HLX : Hid (∀ W, Below B W1 W → W.heap[lb]? = some (.cells #[u 0, u 1, .slice a0 n0 c0, .slice a1 n1 c1, .slice a2 n2 c2, u 5, u 6, u 7, u 8, u 9, u 10, u 11] 52 (0, 0))) := hLX
  have HBS : Hid (∀ W, Below B W1 W → B ≤ W.heap.size) := hBS
  have HM2 : Hid (Ms Te J B lb W1 W2 (.slice a7 m7 c7) (.slice a8 m8 c8) S tk p i) := hM2
  have HM7 : Hid (S.length = m7) := hM7
  have HM8 : Hid (tk.length = m8) := hM8
  have HIM : Hid (i < 65536) := hi
  have HO2 : Hid (W2.heap[ob]? = some (.cells #[.int .i64 N, .int .i64 pad, .int .i64 len] 104 (0, 0))) := hO2
  have HQ : Hid (∀ (v7 v8 v9 y11 y12 y13 y14 y15 y16 y17 y18 y19 y20 y21 y22 y23 y24 y25 y26 y27 y28 y29 y30 y31 y32 y33 y34 y35 y36 y37 y38 y39 y40 y41 y42 y43 y44 y45 y46 y47 y48 y49 y50 y51 y52 y53 y54 y55 y56 y57 y58 y59 y60 y61 y62 y63 y64 y65 y66 y67 y68 y69 y70 y71 y72 y73 y74 y75 y76 y77 y78 y79 y80 y81 y82 y83 y84 y85 y86 y87 y88 y89 y90 y91 y92 y93 y94 y95 y96 y97 y98 y99 y100 y101 y102 y103 y104 y105 y106 y107 y108 y109 y110 y111 y112 y113 y114 y115 y116 y117 y118 y119 y120 y121 y122 y123 y124 y125 y126 y127 y128 y129 y130 y131 y132 y133 y134 y135 y136 y137 y138 y139 y140 y141 y142 y143 y144 y145 y146 y147 y148 y149 y150 y151 y152 y153 y154 y155 y156 y157 y158 y159 y160 y161 y162 y163 y164 y165 y166 y167 y168 y169 y170 y171 y172 y173 y174 y175 y176 y177 y178 y179 y180 y181 y182 y183 y184 y185 y186 y187 y188 y189 y190 y191 y192 y193 y194 y195 y196 y197 y198 y199 y200 y201 y202 y203 y204 y205 y206 y207 y208 y209 y210 y211 y212 y213 y214 y215 y216 y217 y218 y219 y220 y221 y222 y223 y224 y225 y226 y227 y228 y229 y230 y231 y232 y233 y234 : Value) (W : World), Nx Te J B lb W1 (i + 1) v7 v8 v9 W → Q (.exit 1) ⟨#[x0, x1, .pointer (some ⟨lb, 0, none⟩), x3, x4, x5, x6, v7, v8, v9, x10, y11, y12, y13, y14, y15, y16, y17, y18, y19, y20, y21, y22, y23, y24, y25, y26, y27, y28, y29, y30, y31, y32, y33, y34, y35, y36, y37, y38, y39, y40, y41, y42, y43, y44, y45, y46, y47, y48, y49, y50, y51, y52, y53, y54, y55, y56, y57, y58, y59, y60, y61, y62, y63, y64, y65, y66, y67, y68, y69, y70, y71, y72, y73, y74, y75, y76, y77, y78, y79, y80, y81, y82, y83, y84, y85, y86, y87, y88, y89, y90, y91, y92, y93, y94, y95, y96, y97, y98, y99, y100, y101, y102, y103, y104, y105, y106, y107, y108, y109, y110, y111, y112, y113, y114, y115, y116, y117, y118, y119, y120, y121, y122, y123, y124, y125, y126, y127, y128, y129, y130, y131, y132, y133, y134, y135, y136, y137, y138, y139, y140, y141, y142, y143, y144, y145, y146, y147, y148, y149, y150, y151, y152, y153, y154, y155, y156, y157, y158, y159, y160, y161, y162, y163, y164, y165, y166, y167, y168, y169, y170, y171, y172, y173, y174, y175, y176, y177, y178, y179, y180, y181, y182, y183, y184, y185, y186, y187, y188, y189, y190, y191, y192, y193, y194, y195, y196, y197, y198, y199, y200, y201, y202, y203, y204, y205, y206, y207, y208, y209, y210, y211, y212, y213, y214, y215, y216, y217, y218, y219, y220, y221, y222, y223, y224, y225, y226, y227, y228, y229, y230, y231, y232, y233, y234, x235, x236], []⟩ W) := hQ
  clear hG hJ hN0 hBA hLX hBS hM2 hM7 hM8 hi hO2 hQ
  have o0 := rcell HO2.out 0 _ rfl
  have o1 := rcell HO2.out 1 _ rfl
  have o2 := rcell HO2.out 2 _ rfl
  have HLX2 : Hid (W2.heap[lb]? = some (.cells #[u 0, u 1, .slice a0 n0 c0, .slice a1 n1 c1, .slice a2 n2 c2, u 5, u 6, u 7, u 8, u 9, u 10, u 11] 52 (0, 0))) := HLX.out _ HM2.out.b
  have l2 := rcell HLX2.out 2 _ rfl
  have HCT : Hid (Ms Te J B lb W1 W2 (.slice a7 m7 c7) (.slice a8 m8 c8) S tk p (i + 1)) := ⟨HM2.out.m, HM2.out.b, HM2.out.j, q_next HM2.out.q HIM.out⟩
  conv => arg 2; whnf
  go_upto_region 10 with fail
  generalize wrap64 (wrap64 (-wrap64 (N + 1)) + 1) = z
  generalize wrap64 (-wrap64 (N + 1)) = zb
  generalize wrap64 (N + 1) = za
  go_cut [75] from 24 to 234 (fun v75 wx => v75 = .bool (decide (z < 1 ∨ (n0 : Int) ≤ z ∨ pad < 0 ∨ 1048576 < pad ∨ len < 0 ∨ 1048576 < len)) ∧ wx = W2)
  case first =>
    by_cases b1 : z < 1
    · have f1 : decide (z < 1) = true := by rw [decide_eq_true_eq]; exact b1
      go_wp2_with fail
      go_meet
      exact ⟨congrArg Value.bool (decide_eq_true (p := (z < 1 ∨ (n0 : Int) ≤ z ∨ pad < 0 ∨ 1048576 < pad ∨ len < 0 ∨ 1048576 < len)) (by omega)).symm, rfl⟩
    by_cases b2 : (n0 : Int) ≤ z
    · have f1 : decide (z < 1) = false := by rw [decide_eq_false_iff_not]; exact b1
      have f2 : decide ((n0 : Int) ≤ z) = true := by rw [decide_eq_true_eq]; exact b2
      go_wp2_with fail
      go_meet
      exact ⟨congrArg Value.bool (decide_eq_true (p := (z < 1 ∨ (n0 : Int) ≤ z ∨ pad < 0 ∨ 1048576 < pad ∨ len < 0 ∨ 1048576 < len)) (by omega)).symm, rfl⟩
    by_cases b3 : pad < 0
    · have f1 : decide (z < 1) = false := by rw [decide_eq_false_iff_not]; exact b1
      have f2 : decide ((n0 : Int) ≤ z) = false := by rw [decide_eq_false_iff_not]; exact b2
      have f3 : decide (pad < 0) = true := by rw [decide_eq_true_eq]; exact b3
      go_wp2_with fail
      go_meet
      exact ⟨congrArg Value.bool (decide_eq_true (p := (z < 1 ∨ (n0 : Int) ≤ z ∨ pad < 0 ∨ 1048576 < pad ∨ len < 0 ∨ 1048576 < len)) (by omega)).symm, rfl⟩
    by_cases b4 : 1048576 < pad
    · have f1 : decide (z < 1) = false := by rw [decide_eq_false_iff_not]; exact b1
      have f2 : decide ((n0 : Int) ≤ z) = false := by rw [decide_eq_false_iff_not]; exact b2
      have f3 : decide (pad < 0) = false := by rw [decide_eq_false_iff_not]; exact b3
      have f4 : decide (1048576 < pad) = true := by rw [decide_eq_true_eq]; exact b4
      go_wp2_with fail
      go_meet
      exact ⟨congrArg Value.bool (decide_eq_true (p := (z < 1 ∨ (n0 : Int) ≤ z ∨ pad < 0 ∨ 1048576 < pad ∨ len < 0 ∨ 1048576 < len)) (by omega)).symm, rfl⟩
    by_cases b5 : len < 0
    · have f1 : decide (z < 1) = false := by rw [decide_eq_false_iff_not]; exact b1
      have f2 : decide ((n0 : Int) ≤ z) = false := by rw [decide_eq_false_iff_not]; exact b2
      have f3 : decide (pad < 0) = false := by rw [decide_eq_false_iff_not]; exact b3
      have f4 : decide (1048576 < pad) = false := by rw [decide_eq_false_iff_not]; exact b4
      have f5 : decide (len < 0) = true := by rw [decide_eq_true_eq]; exact b5
      go_wp2_with fail
      go_meet
      exact ⟨congrArg Value.bool (decide_eq_true (p := (z < 1 ∨ (n0 : Int) ≤ z ∨ pad < 0 ∨ 1048576 < pad ∨ len < 0 ∨ 1048576 < len)) (by omega)).symm, rfl⟩
    by_cases b6 : 1048576 < len
    · have f1 : decide (z < 1) = false := by rw [decide_eq_false_iff_not]; exact b1
      have f2 : decide ((n0 : Int) ≤ z) = false := by rw [decide_eq_false_iff_not]; exact b2
      have f3 : decide (pad < 0) = false := by rw [decide_eq_false_iff_not]; exact b3
      have f4 : decide (1048576 < pad) = false := by rw [decide_eq_false_iff_not]; exact b4
      have f5 : decide (len < 0) = false := by rw [decide_eq_false_iff_not]; exact b5
      have f6 : decide (1048576 < len) = true := by rw [decide_eq_true_eq]; exact b6
      go_wp2_with fail
      go_meet
      exact ⟨congrArg Value.bool (decide_eq_true (p := (z < 1 ∨ (n0 : Int) ≤ z ∨ pad < 0 ∨ 1048576 < pad ∨ len < 0 ∨ 1048576 < len)) (by omega)).symm, rfl⟩
    have f1 : decide (z < 1) = false := by rw [decide_eq_false_iff_not]; exact b1
    have f2 : decide ((n0 : Int) ≤ z) = false := by rw [decide_eq_false_iff_not]; exact b2
    have f3 : decide (pad < 0) = false := by rw [decide_eq_false_iff_not]; exact b3
    have f4 : decide (1048576 < pad) = false := by rw [decide_eq_false_iff_not]; exact b4
    have f5 : decide (len < 0) = false := by rw [decide_eq_false_iff_not]; exact b5
    have f6 : decide (1048576 < len) = false := by rw [decide_eq_false_iff_not]; exact b6
    go_wp2_with fail
    go_meet
    exact ⟨congrArg Value.bool (decide_eq_false (p := (z < 1 ∨ (n0 : Int) ≤ z ∨ pad < 0 ∨ 1048576 < pad ∨ len < 0 ∨ 1048576 < len)) (by omega)).symm, rfl⟩
  case rest =>
    obtain ⟨rfl, hwc⟩ := hcut
    rw [hwc]
    clear hwc
    by_cases hbad : (z < 1 ∨ (n0 : Int) ≤ z ∨ pad < 0 ∨ 1048576 < pad ∨ len < 0 ∨ 1048576 < len)
    · rw [decide_eq_true hbad]
      clear hbad
      refine next_k (by assumption) ?_
      refine wp_cond_true rfl ?_
      refine wp_exit ?_
      dsimp only [Exit.then]
      exact HQ.out _ _ _ _ _ _ _ _ _ _ _ _ _ _ _ _ _ _ _ _ _ _ _ _ _ _ _ _ _ _ _ _ _ _ _ _ _ _ _ _ _ _ _ _ _ _ _ _ _ _ _ _ _ _ _ _ _ _ _ _ _ _ _ _ _ _ _ _ _ _ _ _ _ _ _ _ _ _ _ _ _ _ _ _ _ _ _ _ _ _ _ _ _ _ _ _ _ _ _ _ _ _ _ _ _ _ _ _ _ _ _ _ _ _ _ _ _ _ _ _ _ _ _ _ _ _ _ _ _ _ _ _ _ _ _ _ _ _ _ _ _ _ _ _ _ _ _ _ _ _ _ _ _ _ _ _ _ _ _ _ _ _ _ _ _ _ _ _ _ _ _ _ _ _ _ _ _ _ _ _ _ _ _ _ _ _ _ _ _ _ _ _ _ _ _ _ _ _ _ _ _ _ _ _ _ _ _ _ _ _ _ _ _ _ _ _ _ _ _ _ _ _ _ _ _ _ _ _ ⟨p, S, tk, rfl, HCT.out⟩
    · rw [decide_eq_false hbad]
      have b1 : ¬ z < 1 := fun h => hbad (by omega)
      have b2 : ¬ (n0 : Int) ≤ z := fun h => hbad (by omega)
      have b3 : ¬ pad < 0 := fun h => hbad (by omega)
      have b4 : ¬ 1048576 < pad := fun h => hbad (by omega)
      have b5 : ¬ len < 0 := fun h => hbad (by omega)
      have b6 : ¬ 1048576 < len := fun h => hbad (by omega)
      clear hbad
      obtain ⟨zt, rfl⟩ : ∃ zt : Nat, z = (zt : Int) := ⟨z.toNat, by omega⟩
      obtain ⟨pd, rfl⟩ : ∃ pd : Nat, pad = (pd : Int) := ⟨pad.toNat, by omega⟩
      obtain ⟨ln, rfl⟩ : ∃ ln : Nat, len = (ln : Int) := ⟨len.toNat, by omega⟩
      have HBD : Hid (1 ≤ zt ∧ zt < n0 ∧ pd ≤ 1048576 ∧ ln ≤ 1048576) := by show _ ∧ _ ∧ _ ∧ _; omega
      refine next_k (by assumption) ?_
      refine wp_cond_false rfl ?_
      refine wp_skip ?_
      dsimp only [Exit.then]
      refine next_k (by assumption) ?_
      exact tok_made HG.out HJ.out HN0.out HBA.out HLX.out HBS.out HM2.out HM7.out HM8.out HIM.out HO2.out HBD.out _ _ _ _ _ _ _ _ _ _ _ _ _ _ _ _ _ _ _ _ _ _ _ _ _ _ _ _ _ _ _ _ _ _ _ _ _ _ _ _ _ _ _ _ _ _ _ _ _ _ _ _ _ _ _ _ _ _ _ _ _ _ _ _ _ _ _ _ _ _ _ _ _ _ _ _ _ _ _ _ _ _ _ _ _ _ _ _ _ _ _ _ _ _ _ _ _ _ _ _ _ _ _ _ _ _ _ _ _ _ _ _ _ _ _ _ _ _ _ _ _ _ _ _ _ _ _ _ _ _ _ _ _ _ _ _ _ _ _ _ _ _ _ _ _ _ _ _ _ _ _ _ _ _ _ _ _ _ _ _ _ _ _ _ _ _ _ _ _ _ _ _ _ _ _ _ _ _ _ _ _ _ _ _ _ _ _ _ _ _ _ _ _ _ _ _ _ _ _ _ _ _ _ _ _ _ _ _ _ _ _ _ _ _ _ _ _ _ _ _ _ _ _ _ _ _ _ _ _ _ _ HQ.out
end Go.Proofs.Ytcfmpmhdjkchjaa
