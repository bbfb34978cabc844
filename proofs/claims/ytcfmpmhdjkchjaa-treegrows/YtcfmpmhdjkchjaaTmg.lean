import Derived.Test.YtcfmpmhdjkchjaaTmf
namespace Go.Proofs.Ytcfmpmhdjkchjaa
open Go.RowKit Go.Maps

theorem fit_of (S : List En) (rs : List Rf) (d : Nat) (hd : d + rs.length = S.length) (h : ∀ k, k < rs.length → (S.getD (d + k) end_).1 = (rs.getD k rfd).1) : (S.drop d).map (fun x => x.1) = rs.map (fun x => x.1) := by
  refine List.ext_getElem (by rw [List.length_map, List.length_map, List.length_drop]; omega) (fun k h1 h2 => ?_)
  rw [List.length_map] at h1 h2
  rw [List.getElem_map, List.getElem_map, List.getElem_drop]
  have h3 := h k h2
  rw [List.getD_eq_getElem?_getD, List.getElem?_eq_getElem (by omega), List.getD_eq_getElem?_getD, List.getElem?_eq_getElem h2] at h3
  exact h3
set_option maxRecDepth 1000000 in
set_option maxHeartbeats 32000000 in
theorem prod_head {Te : List Td} {Sy : List Sd} {P : List Pd} {J : List Ep → List Nd → Nat → Prop} {u : Nat → Value} {w W1 : World} {a0 a1 a2 : Option Addr} {n0 c0 n1 c1 n2 c2 lb B : Nat} {pad len : Int} {W2 : World} {a7 a8 : Option Addr} {m7 c7 m8 c8 p i ob q : Nat} {S : List En} {tk : List Nd} {Q : Exit → Act → World → Prop} (hG : Gx w (.slice a0 n0 c0) (.slice a1 n1 c1) (.slice a2 n2 c2) Te Sy P) (hJ : Kp Te Sy P J) (hN0 : Te.length = n0) (hBA : ∀ W, Below B W1 W → Below w.heap.size w W) (hLX : ∀ W, Below B W1 W → W.heap[lb]? = some (.cells #[u 0, u 1, .slice a0 n0 c0, .slice a1 n1 c1, .slice a2 n2 c2, u 5, u 6, u 7, u 8, u 9, u 10, u 11] 52 (0, 0))) (hBS : ∀ W, Below B W1 W → B ≤ W.heap.size) (hGS : Gs Te Sy P) (hRI : ∀ x ∈ P, ∀ r ∈ x.2.2, r.1 ≤ 9223372036854775807) (hwB : w.heap.size ≤ B) (hN2 : P.length = n2)
    (hM2 : Ms Te J B lb W1 W2 (.slice a7 m7 c7) (.slice a8 m8 c8) S tk p i) (hM7 : S.length = m7) (hM8 : tk.length = m8) (hi : i < 65536) (hO2 : W2.heap[ob]? = some (.cells #[.int .i64 (q : Int), .int .i64 pad, .int .i64 len] 104 (0, 0)))
    (x0 x1 x3 x4 x5 x6 x10 x12 x13 x14 x15 x16 x17 x18 x19 x20 x21 x22 x23 x24 x25 x26 x27 x28 x29 x30 x31 x32 x33 x34 x35 x36 x37 x38 x39 x40 x41 x42 x43 x44 x45 x46 x47 x48 x49 x50 x51 x52 x53 x54 x55 x56 x57 x58 x59 x60 x61 x62 x63 x64 x65 x66 x67 x68 x69 x70 x71 x72 x73 x74 x75 x76 x77 x78 x79 x80 x81 x82 x83 x84 x85 x86 x87 x88 x89 x90 x91 x92 x93 x94 x95 x96 x97 x98 x99 x100 x101 x102 x103 x104 x105 x106 x107 x108 x109 x110 x111 x112 x113 x114 x115 x116 x117 x118 x119 x120 x121 x122 x123 x124 x125 x126 x127 x128 x129 x130 x131 x132 x133 x134 x135 x136 x137 x138 x139 x140 x141 x142 x143 x144 x145 x146 x147 x148 x149 x150 x151 x152 x153 x154 x155 x156 x157 x158 x159 x160 x161 x162 x163 x164 x165 x166 x167 x168 x169 x170 x171 x172 x173 x174 x175 x176 x177 x178 x179 x180 x181 x182 x183 x184 x185 x186 x187 x188 x189 x190 x191 x192 x193 x194 x195 x196 x197 x198 x199 x200 x201 x202 x203 x204 x205 x206 x207 x208 x209 x210 x211 x212 x213 x214 x215 x216 x217 x218 x219 x220 x221 x222 x223 x224 x225 x226 x227 x228 x229 x230 x231 x232 x233 x234 x235 x236 : Value) (hQ : ∀ (v7 v8 v9 y11 y12 y13 y14 y15 y16 y17 y18 y19 y20 y21 y22 y23 y24 y25 y26 y27 y28 y29 y30 y31 y32 y33 y34 y35 y36 y37 y38 y39 y40 y41 y42 y43 y44 y45 y46 y47 y48 y49 y50 y51 y52 y53 y54 y55 y56 y57 y58 y59 y60 y61 y62 y63 y64 y65 y66 y67 y68 y69 y70 y71 y72 y73 y74 y75 y76 y77 y78 y79 y80 y81 y82 y83 y84 y85 y86 y87 y88 y89 y90 y91 y92 y93 y94 y95 y96 y97 y98 y99 y100 y101 y102 y103 y104 y105 y106 y107 y108 y109 y110 y111 y112 y113 y114 y115 y116 y117 y118 y119 y120 y121 y122 y123 y124 y125 y126 y127 y128 y129 y130 y131 y132 y133 y134 y135 y136 y137 y138 y139 y140 y141 y142 y143 y144 y145 y146 y147 y148 y149 y150 y151 y152 y153 y154 y155 y156 y157 y158 y159 y160 y161 y162 y163 y164 y165 y166 y167 y168 y169 y170 y171 y172 y173 y174 y175 y176 y177 y178 y179 y180 y181 y182 y183 y184 y185 y186 y187 y188 y189 y190 y191 y192 y193 y194 y195 y196 y197 y198 y199 y200 y201 y202 y203 y204 y205 y206 y207 y208 y209 y210 y211 y212 y213 y214 y215 y216 y217 y218 y219 y220 y221 y222 y223 y224 y225 y226 y227 y228 y229 y230 y231 y232 y233 y234 : Value) (W : World), Nx Te J B lb W1 (i + 1) v7 v8 v9 W → Q (.exit 1) ⟨#[x0, x1, .pointer (some ⟨lb, 0, none⟩), x3, x4, x5, x6, v7, v8, v9, x10, y11, y12, y13, y14, y15, y16, y17, y18, y19, y20, y21, y22, y23, y24, y25, y26, y27, y28, y29, y30, y31, y32, y33, y34, y35, y36, y37, y38, y39, y40, y41, y42, y43, y44, y45, y46, y47, y48, y49, y50, y51, y52, y53, y54, y55, y56, y57, y58, y59, y60, y61, y62, y63, y64, y65, y66, y67, y68, y69, y70, y71, y72, y73, y74, y75, y76, y77, y78, y79, y80, y81, y82, y83, y84, y85, y86, y87, y88, y89, y90, y91, y92, y93, y94, y95, y96, y97, y98, y99, y100, y101, y102, y103, y104, y105, y106, y107, y108, y109, y110, y111, y112, y113, y114, y115, y116, y117, y118, y119, y120, y121, y122, y123, y124, y125, y126, y127, y128, y129, y130, y131, y132, y133, y134, y135, y136, y137, y138, y139, y140, y141, y142, y143, y144, y145, y146, y147, y148, y149, y150, y151, y152, y153, y154, y155, y156, y157, y158, y159, y160, y161, y162, y163, y164, y165, y166, y167, y168, y169, y170, y171, y172, y173, y174, y175, y176, y177, y178, y179, y180, y181, y182, y183, y184, y185, y186, y187, y188, y189, y190, y191, y192, y193, y194, y195, y196, y197, y198, y199, y200, y201, y202, y203, y204, y205, y206, y207, y208, y209, y210, y211, y212, y213, y214, y215, y216, y217, y218, y219, y220, y221, y222, y223, y224, y225, y226, y227, y228, y229, y230, y231, y232, y233, y234, x235, x236], []⟩ W) (hQn : ∀ (v7 v8 v9 y11 y12 y13 y14 y15 y16 y17 y18 y19 y20 y21 y22 y23 y24 y25 y26 y27 y28 y29 y30 y31 y32 y33 y34 y35 y36 y37 y38 y39 y40 y41 y42 y43 y44 y45 y46 y47 y48 y49 y50 y51 y52 y53 y54 y55 y56 y57 y58 y59 y60 y61 y62 y63 y64 y65 y66 y67 y68 y69 y70 y71 y72 y73 y74 y75 y76 y77 y78 y79 y80 y81 y82 y83 y84 y85 y86 y87 y88 y89 y90 y91 y92 y93 y94 y95 y96 y97 y98 y99 y100 y101 y102 y103 y104 y105 y106 y107 y108 y109 y110 y111 y112 y113 y114 y115 y116 y117 y118 y119 y120 y121 y122 y123 y124 y125 y126 y127 y128 y129 y130 y131 y132 y133 y134 y135 y136 y137 y138 y139 y140 y141 y142 y143 y144 y145 y146 y147 y148 y149 y150 y151 y152 y153 y154 y155 y156 y157 y158 y159 y160 y161 y162 y163 y164 y165 y166 y167 y168 y169 y170 y171 y172 y173 y174 y175 y176 y177 y178 y179 y180 y181 y182 y183 y184 y185 y186 y187 y188 y189 y190 y191 y192 y193 y194 y195 y196 y197 y198 y199 y200 y201 y202 y203 y204 y205 y206 y207 y208 y209 y210 y211 y212 y213 y214 y215 y216 y217 y218 y219 y220 y221 y222 y223 y224 y225 y226 y227 y228 y229 y230 y231 y232 y233 y234 : Value) (W : World), Nx Te J B lb W1 (i + 1) v7 v8 v9 W → Q (.normal) ⟨#[x0, x1, .pointer (some ⟨lb, 0, none⟩), x3, x4, x5, x6, v7, v8, v9, x10, y11, y12, y13, y14, y15, y16, y17, y18, y19, y20, y21, y22, y23, y24, y25, y26, y27, y28, y29, y30, y31, y32, y33, y34, y35, y36, y37, y38, y39, y40, y41, y42, y43, y44, y45, y46, y47, y48, y49, y50, y51, y52, y53, y54, y55, y56, y57, y58, y59, y60, y61, y62, y63, y64, y65, y66, y67, y68, y69, y70, y71, y72, y73, y74, y75, y76, y77, y78, y79, y80, y81, y82, y83, y84, y85, y86, y87, y88, y89, y90, y91, y92, y93, y94, y95, y96, y97, y98, y99, y100, y101, y102, y103, y104, y105, y106, y107, y108, y109, y110, y111, y112, y113, y114, y115, y116, y117, y118, y119, y120, y121, y122, y123, y124, y125, y126, y127, y128, y129, y130, y131, y132, y133, y134, y135, y136, y137, y138, y139, y140, y141, y142, y143, y144, y145, y146, y147, y148, y149, y150, y151, y152, y153, y154, y155, y156, y157, y158, y159, y160, y161, y162, y163, y164, y165, y166, y167, y168, y169, y170, y171, y172, y173, y174, y175, y176, y177, y178, y179, y180, y181, y182, y183, y184, y185, y186, y187, y188, y189, y190, y191, y192, y193, y194, y195, y196, y197, y198, y199, y200, y201, y202, y203, y204, y205, y206, y207, y208, y209, y210, y211, y212, y213, y214, y215, y216, y217, y218, y219, y220, y221, y222, y223, y224, y225, y226, y227, y228, y229, y230, y231, y232, y233, y234, x235, x236], []⟩ W) :
    Code.wp Try.prog cPB Q ⟨#[x0, x1, .pointer (some ⟨lb, 0, none⟩), x3, x4, x5, x6, .slice a7 m7 c7, .slice a8 m8 c8, .int .i64 (p : Int), x10, .pointer (some ⟨ob, 0, none⟩), x12, x13, x14, x15, x16, x17, x18, x19, x20, x21, x22, x23, x24, x25, x26, x27, x28, x29, x30, x31, x32, x33, x34, x35, x36, x37, x38, x39, x40, x41, x42, x43, x44, x45, x46, x47, x48, x49, x50, x51, x52, x53, x54, x55, x56, x57, x58, x59, x60, x61, x62, x63, x64, x65, x66, x67, x68, x69, x70, x71, x72, x73, x74, x75, x76, x77, x78, x79, x80, x81, x82, x83, x84, x85, x86, x87, x88, x89, x90, x91, x92, x93, x94, x95, x96, x97, x98, x99, x100, x101, x102, x103, x104, x105, x106, x107, x108, x109, x110, x111, x112, x113, x114, x115, x116, x117, x118, x119, x120, x121, x122, x123, x124, x125, x126, x127, x128, x129, x130, x131, x132, x133, x134, x135, x136, x137, x138, x139, x140, x141, x142, x143, x144, x145, x146, x147, x148, x149, x150, x151, x152, x153, x154, x155, x156, x157, x158, x159, x160, x161, x162, x163, x164, x165, x166, x167, x168, x169, x170, x171, x172, x173, x174, x175, x176, x177, x178, x179, x180, x181, x182, x183, x184, x185, x186, x187, x188, x189, x190, x191, x192, x193, x194, x195, x196, x197, x198, x199, x200, x201, x202, x203, x204, x205, x206, x207, x208, x209, x210, x211, x212, x213, x214, x215, x216, x217, x218, x219, x220, x221, x222, x223, x224, x225, x226, x227, x228, x229, x230, x231, x232, x233, x234, x235, x236], []⟩ W2 := by
  have HG : Hid (Gx w (.slice a0 n0 c0) (.slice a1 n1 c1) (.slice a2 n2 c2) Te Sy P) := hG
  have HJ : Hid (Kp Te Sy P J) := hJ
  have HN0 : Hid (Te.length = n0) := hN0
  have HBA : Hid (∀ W, Below B W1 W → Below w.heap.size w W) := hBA
  have HLX : Hid (∀ W, Below B W1 W → W.heap[lb]? = some (.cells #[u 0, u 1, .slice a0 n0 c0, .slice a1 n1 c1, .slice a2 n2 c2, u 5, u 6, u 7, u 8, u 9, u 10, u 11] 52 (0, 0))) := hLX
  have HBS : Hid (∀ W, Below B W1 W → B ≤ W.heap.size) := hBS
  have HM2 : Hid (Ms Te J B lb W1 W2 (.slice a7 m7 c7) (.slice a8 m8 c8) S tk p i) := hM2
  have HM7 : Hid (S.length = m7) := hM7
  have HM8 : Hid (tk.length = m8) := hM8
  have HIM : Hid (i < 65536) := hi
  have HO2 : Hid (W2.heap[ob]? = some (.cells #[.int .i64 (q : Int), .int .i64 pad, .int .i64 len] 104 (0, 0))) := hO2
  have HGS : Hid (Gs Te Sy P) := hGS
  have HRI : Hid (∀ x ∈ P, ∀ r ∈ x.2.2, r.1 ≤ 9223372036854775807) := hRI
  have HWB : Hid (w.heap.size ≤ B) := hwB
  have HN2 : Hid (P.length = n2) := hN2
  have HQ : Hid (∀ (v7 v8 v9 y11 y12 y13 y14 y15 y16 y17 y18 y19 y20 y21 y22 y23 y24 y25 y26 y27 y28 y29 y30 y31 y32 y33 y34 y35 y36 y37 y38 y39 y40 y41 y42 y43 y44 y45 y46 y47 y48 y49 y50 y51 y52 y53 y54 y55 y56 y57 y58 y59 y60 y61 y62 y63 y64 y65 y66 y67 y68 y69 y70 y71 y72 y73 y74 y75 y76 y77 y78 y79 y80 y81 y82 y83 y84 y85 y86 y87 y88 y89 y90 y91 y92 y93 y94 y95 y96 y97 y98 y99 y100 y101 y102 y103 y104 y105 y106 y107 y108 y109 y110 y111 y112 y113 y114 y115 y116 y117 y118 y119 y120 y121 y122 y123 y124 y125 y126 y127 y128 y129 y130 y131 y132 y133 y134 y135 y136 y137 y138 y139 y140 y141 y142 y143 y144 y145 y146 y147 y148 y149 y150 y151 y152 y153 y154 y155 y156 y157 y158 y159 y160 y161 y162 y163 y164 y165 y166 y167 y168 y169 y170 y171 y172 y173 y174 y175 y176 y177 y178 y179 y180 y181 y182 y183 y184 y185 y186 y187 y188 y189 y190 y191 y192 y193 y194 y195 y196 y197 y198 y199 y200 y201 y202 y203 y204 y205 y206 y207 y208 y209 y210 y211 y212 y213 y214 y215 y216 y217 y218 y219 y220 y221 y222 y223 y224 y225 y226 y227 y228 y229 y230 y231 y232 y233 y234 : Value) (W : World), Nx Te J B lb W1 (i + 1) v7 v8 v9 W → Q (.exit 1) ⟨#[x0, x1, .pointer (some ⟨lb, 0, none⟩), x3, x4, x5, x6, v7, v8, v9, x10, y11, y12, y13, y14, y15, y16, y17, y18, y19, y20, y21, y22, y23, y24, y25, y26, y27, y28, y29, y30, y31, y32, y33, y34, y35, y36, y37, y38, y39, y40, y41, y42, y43, y44, y45, y46, y47, y48, y49, y50, y51, y52, y53, y54, y55, y56, y57, y58, y59, y60, y61, y62, y63, y64, y65, y66, y67, y68, y69, y70, y71, y72, y73, y74, y75, y76, y77, y78, y79, y80, y81, y82, y83, y84, y85, y86, y87, y88, y89, y90, y91, y92, y93, y94, y95, y96, y97, y98, y99, y100, y101, y102, y103, y104, y105, y106, y107, y108, y109, y110, y111, y112, y113, y114, y115, y116, y117, y118, y119, y120, y121, y122, y123, y124, y125, y126, y127, y128, y129, y130, y131, y132, y133, y134, y135, y136, y137, y138, y139, y140, y141, y142, y143, y144, y145, y146, y147, y148, y149, y150, y151, y152, y153, y154, y155, y156, y157, y158, y159, y160, y161, y162, y163, y164, y165, y166, y167, y168, y169, y170, y171, y172, y173, y174, y175, y176, y177, y178, y179, y180, y181, y182, y183, y184, y185, y186, y187, y188, y189, y190, y191, y192, y193, y194, y195, y196, y197, y198, y199, y200, y201, y202, y203, y204, y205, y206, y207, y208, y209, y210, y211, y212, y213, y214, y215, y216, y217, y218, y219, y220, y221, y222, y223, y224, y225, y226, y227, y228, y229, y230, y231, y232, y233, y234, x235, x236], []⟩ W) := hQ
  have HQn : Hid (∀ (v7 v8 v9 y11 y12 y13 y14 y15 y16 y17 y18 y19 y20 y21 y22 y23 y24 y25 y26 y27 y28 y29 y30 y31 y32 y33 y34 y35 y36 y37 y38 y39 y40 y41 y42 y43 y44 y45 y46 y47 y48 y49 y50 y51 y52 y53 y54 y55 y56 y57 y58 y59 y60 y61 y62 y63 y64 y65 y66 y67 y68 y69 y70 y71 y72 y73 y74 y75 y76 y77 y78 y79 y80 y81 y82 y83 y84 y85 y86 y87 y88 y89 y90 y91 y92 y93 y94 y95 y96 y97 y98 y99 y100 y101 y102 y103 y104 y105 y106 y107 y108 y109 y110 y111 y112 y113 y114 y115 y116 y117 y118 y119 y120 y121 y122 y123 y124 y125 y126 y127 y128 y129 y130 y131 y132 y133 y134 y135 y136 y137 y138 y139 y140 y141 y142 y143 y144 y145 y146 y147 y148 y149 y150 y151 y152 y153 y154 y155 y156 y157 y158 y159 y160 y161 y162 y163 y164 y165 y166 y167 y168 y169 y170 y171 y172 y173 y174 y175 y176 y177 y178 y179 y180 y181 y182 y183 y184 y185 y186 y187 y188 y189 y190 y191 y192 y193 y194 y195 y196 y197 y198 y199 y200 y201 y202 y203 y204 y205 y206 y207 y208 y209 y210 y211 y212 y213 y214 y215 y216 y217 y218 y219 y220 y221 y222 y223 y224 y225 y226 y227 y228 y229 y230 y231 y232 y233 y234 : Value) (W : World), Nx Te J B lb W1 (i + 1) v7 v8 v9 W → Q (.normal) ⟨#[x0, x1, .pointer (some ⟨lb, 0, none⟩), x3, x4, x5, x6, v7, v8, v9, x10, y11, y12, y13, y14, y15, y16, y17, y18, y19, y20, y21, y22, y23, y24, y25, y26, y27, y28, y29, y30, y31, y32, y33, y34, y35, y36, y37, y38, y39, y40, y41, y42, y43, y44, y45, y46, y47, y48, y49, y50, y51, y52, y53, y54, y55, y56, y57, y58, y59, y60, y61, y62, y63, y64, y65, y66, y67, y68, y69, y70, y71, y72, y73, y74, y75, y76, y77, y78, y79, y80, y81, y82, y83, y84, y85, y86, y87, y88, y89, y90, y91, y92, y93, y94, y95, y96, y97, y98, y99, y100, y101, y102, y103, y104, y105, y106, y107, y108, y109, y110, y111, y112, y113, y114, y115, y116, y117, y118, y119, y120, y121, y122, y123, y124, y125, y126, y127, y128, y129, y130, y131, y132, y133, y134, y135, y136, y137, y138, y139, y140, y141, y142, y143, y144, y145, y146, y147, y148, y149, y150, y151, y152, y153, y154, y155, y156, y157, y158, y159, y160, y161, y162, y163, y164, y165, y166, y167, y168, y169, y170, y171, y172, y173, y174, y175, y176, y177, y178, y179, y180, y181, y182, y183, y184, y185, y186, y187, y188, y189, y190, y191, y192, y193, y194, y195, y196, y197, y198, y199, y200, y201, y202, y203, y204, y205, y206, y207, y208, y209, y210, y211, y212, y213, y214, y215, y216, y217, y218, y219, y220, y221, y222, y223, y224, y225, y226, y227, y228, y229, y230, y231, y232, y233, y234, x235, x236], []⟩ W) := hQn
  clear hG hJ hN0 hBA hLX hBS hM2 hM7 hM8 hi hO2 hGS hRI hwB hN2 hQ hQn
  have o0 := rcell HO2.out 0 _ rfl
  have HLX2 : Hid (W2.heap[lb]? = some (.cells #[u 0, u 1, .slice a0 n0 c0, .slice a1 n1 c1, .slice a2 n2 c2, u 5, u 6, u 7, u 8, u 9, u 10, u 11] 52 (0, 0))) := HLX.out _ HM2.out.b
  have HCT : Hid (Nx Te J B lb W1 (i + 1) (.slice a7 m7 c7) (.slice a8 m8 c8) (.int .i64 (p : Int)) W2) := ⟨p, S, tk, rfl, ⟨HM2.out.m, HM2.out.b, HM2.out.j, q_next HM2.out.q HIM.out⟩⟩
  by_cases hq : q < n2
  · have hqP : q < P.length := by rw [HN2.out]; exact hq
    obtain ⟨pg, po, rfl, p0, p1⟩ := HG.out.prod q hqP
    have hrw := HG.out.r _ (getD_mem P pfd q hqP)
    have HPS : Hid ((P.getD q pfd).2.2.length * 40 + 4096 ≤ 140737488355328) := HGS.out.r _ (getD_mem P pfd q hqP)
    obtain ⟨px, hpx⟩ : ∃ px, P.getD q pfd = px := ⟨_, rfl⟩
    rw [hpx] at p0 p1 hrw HPS
    obtain ⟨lhs, vr, rs⟩ := px
    dsimp only at p0 p1
    have HRR : Hid (Rw w vr rs.length (flat rf rs)) := hrw
    obtain ⟨ra, rc, hvr⟩ := HRR.out.form
    subst hvr
    have HP : Hid (P.getD q pfd = (lhs, .slice ra rs.length rc, rs)) := hpx
    have HQ2 : Hid (q < n2) := hq
    have HBW : Hid (Below w.heap.size w W2) := HBA.out _ HM2.out.b
    have p0 := below_cell HBW.out p0
    have p1 := below_cell HBW.out p1
    have l4 := rcell HLX2.out 4 _ rfl
    have g1 : (q : Int) < (n2 : Int) := by omega
    have g2 : q < n2 := hq
    have HNS : Hid (rs.length ≤ 3518437208883) := by have h7 := HPS.out; dsimp only at h7; show _ ≤ _; omega
    clear hq hqP hrw hpx HPS
    by_cases hl : lhs < 0
    · have g3 : lhs < 0 := hl
      conv => arg 2; whnf
      go_wp2_with fail
      exact HQ.out _ _ _ _ _ _ _ _ _ _ _ _ _ _ _ _ _ _ _ _ _ _ _ _ _ _ _ _ _ _ _ _ _ _ _ _ _ _ _ _ _ _ _ _ _ _ _ _ _ _ _ _ _ _ _ _ _ _ _ _ _ _ _ _ _ _ _ _ _ _ _ _ _ _ _ _ _ _ _ _ _ _ _ _ _ _ _ _ _ _ _ _ _ _ _ _ _ _ _ _ _ _ _ _ _ _ _ _ _ _ _ _ _ _ _ _ _ _ _ _ _ _ _ _ _ _ _ _ _ _ _ _ _ _ _ _ _ _ _ _ _ _ _ _ _ _ _ _ _ _ _ _ _ _ _ _ _ _ _ _ _ _ _ _ _ _ _ _ _ _ _ _ _ _ _ _ _ _ _ _ _ _ _ _ _ _ _ _ _ _ _ _ _ _ _ _ _ _ _ _ _ _ _ _ _ _ _ _ _ _ _ _ _ _ _ _ _ _ _ _ _ _ _ _ _ _ _ _ HCT.out
    · have g3 : 0 ≤ lhs := by omega
      have HL0 : Hid (0 ≤ lhs) := g3
      obtain ⟨nr, hnr⟩ : ∃ nr, rs.length = nr := ⟨_, rfl⟩
      have HNR : Hid (rs.length = nr) := hnr
      rw [hnr] at p1 HRR HP HNS
      clear hl hnr
      have HDM : Hid (m7 ≤ 131072) := by
        have h7 := HM2.out.q.2.2.1; have h8 := HM2.out.q.2.1; have h9 := phi_len (S.map ep); rw [List.length_map, HM7.out] at h9
        show _ ≤ _; omega
      conv => arg 2; whnf
      go_upto_region 20 with fail
      clear p0 p1 l4 o0 g1 g2 g3
      by_cases hm : nr ≤ m7
      · obtain ⟨d, hd⟩ : ∃ d, d + nr = m7 := ⟨m7 - nr, by omega⟩
        have HD : Hid (d + nr = m7) := hd
        have f1 : wrap64 ((m7 : Int) - (nr : Int)) = (d : Int) := by unfold wrap64; have := HDM.out; have := HNS.out; omega
        clear hm hd
        go_upto_block 2 with fail
        (try rw [f1])
        clear f1
        go_cut [17, 18] from 140 to 161 (fun v17 _ wx => ∃ b : Bool, v17 = .bool b ∧ Hid (b = true → ∀ k, k < nr → (S.getD (d + k) end_).1 = (rs.getD k rfd).1) ∧ Hid (Below W2.heap.size W2 wx))
        case first =>
          go_wp2_with fail
          go_loopg [17, 18] nr (fun gm v17 v18 wr => ∃ (j : Nat) (b : Bool), v17 = .bool b ∧ v18 = .int .i64 (j : Int) ∧ Hid (gm = nr - j ∧ j ≤ nr) ∧ Hid (b = true → ∀ k, k < j → (S.getD (d + k) end_).1 = (rs.getD k rfd).1) ∧ Hid (Below W2.heap.size W2 wr))
          case atStart => exact ⟨0, true, rfl, rfl, ⟨rfl, Nat.zero_le _⟩, (fun _ k hk => absurd hk (Nat.not_lt_zero k)), Below.refl _ _⟩
          case round =>
            obtain ⟨j, b, rfl, rfl, HI, HB, HBL⟩ := hrel
            cases b
            · by_cases hj : j < nr
              · have g1 : (j : Int) < (nr : Int) := by omega
                have g2 : j < nr := hj
                clear hj
                go_wp2_with fail
                go_meet
                exact ⟨false, rfl, (fun h => by cases h), HBL⟩
              · have g1 : ¬ (j : Int) < (nr : Int) := by omega
                have g2 : ¬ j < nr := hj
                clear hj
                go_wp2_with fail
                go_meet
                exact ⟨false, rfl, (fun h => by cases h), HBL⟩
            · by_cases hj : j < nr
              · have g1 : (j : Int) < (nr : Int) := by omega
                have g2 : j < nr := hj
                have HJN : Hid (j < nr) := hj
                obtain ⟨dj, hdj⟩ : ∃ dj, d + j = dj := ⟨_, rfl⟩
                have HDJ : Hid (d + j = dj) := hdj
                have hlt : dj < S.length := by have := HD.out; have := HM7.out; omega
                have HMw : Hid (Ms Te J B lb W1 wr (.slice a7 m7 c7) (.slice a8 m8 c8) S tk p i) := HM2.out.up HBL.out (HBS.out _ HM2.out.b)
                obtain ⟨g7, cc7, hv7, _⟩ := row_form HMw.out.m.s (by omega)
                obtain ⟨rfl, -, rfl⟩ := Value.slice.inj hv7
                have hc0 := row_at HMw.out.m.s (dj * 3) _ (mf_get S dj hlt).2.2
                have hrr := HRR.out.up (below_trans HBW.out HBL.out)
                rw [← HNR.out] at hrr
                obtain ⟨rg, ro, hra, hr0, _⟩ := Rw.ref hrr j (by rw [HNR.out]; exact hj)
                subst hra
                obtain ⟨sy, hsy⟩ : ∃ sy, (S.getD dj end_).1 = sy := ⟨_, rfl⟩
                obtain ⟨ry, hry⟩ : ∃ ry, (rs.getD j rfd).1 = ry := ⟨_, rfl⟩
                rw [hsy] at hc0
                rw [hry] at hr0
                have HSY : Hid ((S.getD (d + j) end_).1 = sy ∧ (rs.getD j rfd).1 = ry) := ⟨by rw [HDJ.out]; exact hsy, hry⟩
                have f1 : (dj : Int) < (m7 : Int) := by have := HM7.out; omega
                have f2 : dj < m7 := by have := HM7.out; omega
                have HF3 : Hid (IntKind.i64.wrap ((d : Int) + (j : Int)) = (dj : Int)) := by show _ = _; rw [w64 _ (by omega) (by have := HDM.out; have := HD.out; omega)]; omega
                have HWJ : Hid (IntKind.i64.wrap ((j : Int) + 1) = ((j + 1 : Nat) : Int)) := w64n j (by have := HNS.out; have := HJN.out; omega)
                have HNX : Hid ((sy == ry) = true → ∀ k, k < j + 1 → (S.getD (d + k) end_).1 = (rs.getD k rfd).1) := fun h k hk => by
                  by_cases e : k = j
                  · subst e
                    rw [HSY.out.1, HSY.out.2]; simpa using h
                  · exact HB.out rfl k (by omega)
                clear hj hdj hlt hv7 hrr hsy hry
                go_upto_region 25 with fail
                have f3 := HF3.out
                go_region
                clear f3
                have hwj := HWJ.out
                go_wp2_with fail
                clear hwj
                go_roundg (nr - (j + 1))
                case measure => have := HI.out.1; have := HJN.out; omega
                case rel => exact ⟨j + 1, sy == ry, rfl, by first | rfl | (rw [show (j : Int) + 1 = ((j + 1 : Nat) : Int) by omega]), ⟨rfl, HJN.out⟩, HNX.out, Below.drew HBL.out⟩
              · have g1 : ¬ (j : Int) < (nr : Int) := by omega
                have g2 : ¬ j < nr := hj
                obtain rfl : j = nr := by have := HI.out; omega
                clear hj g1 g2
                go_wp2_with fail
                go_meet
                exact ⟨true, rfl, HB, HBL⟩
        case rest =>
          obtain ⟨b, rfl, HFB, HBB⟩ := hcut
          refine next_k (by assumption) ?_
          cases b
          · go_wp2_with fail
            have HCW : Hid (Nx Te J B lb W1 (i + 1) (.slice a7 m7 c7) (.slice a8 m8 c8) (.int .i64 (p : Int)) wc) := by obtain ⟨p9, S9, tk9, e9, h9⟩ := HCT.out; exact ⟨p9, S9, tk9, e9, h9.up HBB.out (HBS.out _ HM2.out.b)⟩
            exact HQ.out _ _ _ _ _ _ _ _ _ _ _ _ _ _ _ _ _ _ _ _ _ _ _ _ _ _ _ _ _ _ _ _ _ _ _ _ _ _ _ _ _ _ _ _ _ _ _ _ _ _ _ _ _ _ _ _ _ _ _ _ _ _ _ _ _ _ _ _ _ _ _ _ _ _ _ _ _ _ _ _ _ _ _ _ _ _ _ _ _ _ _ _ _ _ _ _ _ _ _ _ _ _ _ _ _ _ _ _ _ _ _ _ _ _ _ _ _ _ _ _ _ _ _ _ _ _ _ _ _ _ _ _ _ _ _ _ _ _ _ _ _ _ _ _ _ _ _ _ _ _ _ _ _ _ _ _ _ _ _ _ _ _ _ _ _ _ _ _ _ _ _ _ _ _ _ _ _ _ _ _ _ _ _ _ _ _ _ _ _ _ _ _ _ _ _ _ _ _ _ _ _ _ _ _ _ _ _ _ _ _ _ _ _ _ _ _ _ _ _ _ _ _ _ _ _ _ _ _ HCW.out
          · go_upto_if 163 with fail
            refine wp_cond_false rfl ?_
            refine wp_skip ?_
            dsimp only [Exit.then]
            refine next_k (by assumption) ?_
            have HMF : Hid (Ms Te J B lb W1 wc (.slice a7 m7 c7) (.slice a8 m8 c8) S tk p i) := HM2.out.up HBB.out (HBS.out _ HM2.out.b)
            have HOF : Hid (wc.heap[ob]? = some (.cells #[.int .i64 (q : Int), .int .i64 pad, .int .i64 len] 104 (0, 0))) := (HBB.out.block ob (lt_of_heap HO2.out)).trans HO2.out
            have hfit : (S.drop d).map (fun x => x.1) = rs.map (fun x => x.1) := fit_of S rs d (by rw [HNR.out, HM7.out]; exact HD.out) (by rw [HNR.out]; exact HFB.out rfl)
            exact prod_mid HG.out HJ.out HN0.out HBA.out HLX.out HBS.out HGS.out HRI.out HWB.out HN2.out HMF.out HM7.out HM8.out HIM.out HOF.out HQ2.out HP.out HNR.out HL0.out HD.out hfit _ _ _ _ _ _ _ _ _ _ _ _ _ _ _ _ _ _ _ _ _ _ _ _ _ _ _ _ _ _ _ _ _ _ _ _ _ _ _ _ _ _ _ _ _ _ _ _ _ _ _ _ _ _ _ _ _ _ _ _ _ _ _ _ _ _ _ _ _ _ _ _ _ _ _ _ _ _ _ _ _ _ _ _ _ _ _ _ _ _ _ _ _ _ _ _ _ _ _ _ _ _ _ _ _ _ _ _ _ _ _ _ _ _ _ _ _ _ _ _ _ _ _ _ _ _ _ _ _ _ _ _ _ _ _ _ _ _ _ _ _ _ _ _ _ _ _ _ _ _ _ _ _ _ _ _ _ _ _ _ _ _ _ _ _ _ _ _ _ _ _ _ _ _ _ _ _ _ _ _ _ _ _ _ _ _ _ _ _ _ _ _ _ _ _ _ _ _ _ _ _ _ _ _ _ _ _ _ _ _ _ _ _ _ _ _ _ _ _ _ _ _ _ _ _ _ _ _ _ _ HQn.out
      · obtain ⟨z, hz⟩ : ∃ z, wrap64 ((m7 : Int) - (nr : Int)) = z := ⟨_, rfl⟩
        have hz0 : z < 0 := by rw [← hz]; unfold wrap64; have := HDM.out; have := HNS.out; omega
        have HMN : Hid (m7 < nr) := by show _ < _; omega
        clear hm
        go_upto_block 2 with fail
        (try rw [hz])
        rw [show decide ((0 : Int) ≤ z) = false from decide_eq_false (by omega)]
        clear hz hz0
        go_cut [17, 18] from 140 to 161 (fun v17 _ wx => ∃ b : Bool, v17 = .bool b ∧ Hid (b = true → False) ∧ Hid (Below W2.heap.size W2 wx))
        case first =>
          go_wp2_with fail
          go_loopg [17, 18] 0 (fun _ v17 v18 wr => v17 = .bool false ∧ v18 = .int .i64 0 ∧ wr = W2)
          case atStart => exact ⟨rfl, rfl, rfl⟩
          case round =>
            obtain ⟨rfl, rfl, rfl⟩ := hrel
            have g1 : (0 : Int) < (nr : Int) := by have := HMN.out; omega
            have g2 : 0 < nr := by have := HMN.out; omega
            go_wp2_with fail
            go_meet
            exact ⟨false, rfl, (fun h => by cases h), Below.refl _ _⟩
        case rest =>
          obtain ⟨b, rfl, HFB, HBB⟩ := hcut
          refine next_k (by assumption) ?_
          cases b
          · go_wp2_with fail
            have HCW : Hid (Nx Te J B lb W1 (i + 1) (.slice a7 m7 c7) (.slice a8 m8 c8) (.int .i64 (p : Int)) wc) := by obtain ⟨p9, S9, tk9, e9, h9⟩ := HCT.out; exact ⟨p9, S9, tk9, e9, h9.up HBB.out (HBS.out _ HM2.out.b)⟩
            exact HQ.out _ _ _ _ _ _ _ _ _ _ _ _ _ _ _ _ _ _ _ _ _ _ _ _ _ _ _ _ _ _ _ _ _ _ _ _ _ _ _ _ _ _ _ _ _ _ _ _ _ _ _ _ _ _ _ _ _ _ _ _ _ _ _ _ _ _ _ _ _ _ _ _ _ _ _ _ _ _ _ _ _ _ _ _ _ _ _ _ _ _ _ _ _ _ _ _ _ _ _ _ _ _ _ _ _ _ _ _ _ _ _ _ _ _ _ _ _ _ _ _ _ _ _ _ _ _ _ _ _ _ _ _ _ _ _ _ _ _ _ _ _ _ _ _ _ _ _ _ _ _ _ _ _ _ _ _ _ _ _ _ _ _ _ _ _ _ _ _ _ _ _ _ _ _ _ _ _ _ _ _ _ _ _ _ _ _ _ _ _ _ _ _ _ _ _ _ _ _ _ _ _ _ _ _ _ _ _ _ _ _ _ _ _ _ _ _ _ _ _ _ _ _ _ _ _ _ _ _ HCW.out
          · cases HFB.out rfl
  · have g1 : ¬ (q : Int) < (n2 : Int) := by omega
    have g2 : ¬ q < n2 := hq
    have l4 := rcell HLX2.out 4 _ rfl
    conv => arg 2; whnf
    go_wp2_with fail
    exact HQ.out _ _ _ _ _ _ _ _ _ _ _ _ _ _ _ _ _ _ _ _ _ _ _ _ _ _ _ _ _ _ _ _ _ _ _ _ _ _ _ _ _ _ _ _ _ _ _ _ _ _ _ _ _ _ _ _ _ _ _ _ _ _ _ _ _ _ _ _ _ _ _ _ _ _ _ _ _ _ _ _ _ _ _ _ _ _ _ _ _ _ _ _ _ _ _ _ _ _ _ _ _ _ _ _ _ _ _ _ _ _ _ _ _ _ _ _ _ _ _ _ _ _ _ _ _ _ _ _ _ _ _ _ _ _ _ _ _ _ _ _ _ _ _ _ _ _ _ _ _ _ _ _ _ _ _ _ _ _ _ _ _ _ _ _ _ _ _ _ _ _ _ _ _ _ _ _ _ _ _ _ _ _ _ _ _ _ _ _ _ _ _ _ _ _ _ _ _ _ _ _ _ _ _ _ _ _ _ _ _ _ _ _ _ _ _ _ _ _ _ _ _ _ _ _ _ _ _ _ HCT.out
end Go.Proofs.Ytcfmpmhdjkchjaa
