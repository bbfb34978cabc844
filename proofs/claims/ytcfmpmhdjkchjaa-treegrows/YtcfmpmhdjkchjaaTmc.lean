import Derived.Test.YtcfmpmhdjkchjaaTma
namespace Go.Proofs.Ytcfmpmhdjkchjaa
open Go.RowKit Go.Maps

theorem Rw.op {W : World} {a : Option Addr} {n cap : Nat} {l : List Op3} (h : Rw W (.slice a n cap) l.length (flat opf l)) (i : Nat) (hi : i < l.length) : ∃ g o, a = some ⟨g, o, none⟩ ∧ W.cell? ⟨g, o + i * 3, none⟩ = some (.int .i64 (l.getD i opd).1) ∧ W.cell? ⟨g, o + i * 3 + 1, none⟩ = some (.int .i64 (l.getD i opd).2.1) ∧ W.cell? ⟨g, o + i * 3 + 2, none⟩ = some (.int .i64 (l.getD i opd).2.2) := by
  obtain ⟨g, o, cap', e, hc⟩ := Rw.place h (by omega)
  obtain ⟨rfl, -, -⟩ := Value.slice.inj e
  exact ⟨g, o, rfl, hc _ _ (flat_get opf_len opd l i 0 hi (by decide)), by rw [Nat.add_assoc]; exact hc _ _ (flat_get opf_len opd l i 1 hi (by decide)), by rw [Nat.add_assoc]; exact hc _ _ (flat_get opf_len opd l i 2 hi (by decide))⟩
/-- A maker's state in a round. -/
structure Ms (Te : List Td) (J : List Ep → List Nd → Nat → Prop) (B lb : Nat) (W1 W : World) (v7 v8 : Value) (S : List En) (tk : List Nd) (p i : Nat) : Prop where
  m : Mst B W v7 v8 S tk
  b : Below B W1 W
  j : J (S.map ep) tk p
  q : p ≤ i * 2097152 ∧ i ≤ 65536 ∧ phi (S.map ep) ≤ 2 * i ∧ tk.length ≤ i
theorem Ms.up {Te : List Td} {J : List Ep → List Nd → Nat → Prop} {B lb : Nat} {W1 W W' : World} {v7 v8 : Value} {S : List En} {tk : List Nd} {p i : Nat} (h : Ms Te J B lb W1 W v7 v8 S tk p i) (hb : Below W.heap.size W W') (hB : B ≤ W.heap.size) : Ms Te J B lb W1 W' v7 v8 S tk p i := ⟨h.m.up hb, h.b.trans (hb.mono hB), h.j, h.q⟩
theorem fresh_ne {W : World} {o : Obj} {v v8 v5 : Value} (hne : v.ownBlock ≠ v8.ownBlock) (hlt : ∀ r, v.ownBlock = some r → r < W.heap.size) (ha : v5.ownBlock = v8.ownBlock ∨ v5.ownBlock = some (W.alloc o).heap.size) : v.ownBlock = none ∨ v.ownBlock ≠ v5.ownBlock := by
  refine .inr fun e => ?_
  rcases ha with ha | ha
  · rw [ha] at e; exact hne e
  · rw [ha] at e
    have h9 := hlt _ e
    simp at h9
    omega
theorem q_next {p i f t : Nat} (h : p ≤ i * 2097152 ∧ i ≤ 65536 ∧ f ≤ 2 * i ∧ t ≤ i) (hi : i < 65536) : p ≤ (i + 1) * 2097152 ∧ i + 1 ≤ 65536 ∧ f ≤ 2 * (i + 1) ∧ t ≤ i + 1 := ⟨by omega, by omega, by omega, by omega⟩
theorem next_k {c : Code} {Q : Exit → Act → World → Prop} {K : Act → World → Prop} {a : Act} {w : World} (h : ∀ a w, Code.wp Try.prog c Q a w → K a w) (h2 : Code.wp Try.prog c Q a w) : K a w := h a w h2
/-- A piece of a body: a way of left and right. -/
def sub : List Bool → Code → Code
  | [], c => c
  | b :: p, .seq x y => sub p (bif b then y else x)
  | b :: p, .cond _ x y => sub p (bif b then y else x)
  | _ :: p, .block _ c => sub p c
  | _ :: p, .loop c => sub p c
  | _, c => c
noncomputable def mBody : Code := Try.f24.body.getD .skip
/-- What is asked of the stack behind a step. -/
def Nx (Te : List Td) (J : List Ep → List Nd → Nat → Prop) (B lb : Nat) (W1 : World) (i : Nat) (v7 v8 v9 : Value) (W : World) : Prop := ∃ (p : Nat) (S : List En) (tk : List Nd), v9 = .int .i64 (p : Int) ∧ Ms Te J B lb W1 W v7 v8 S tk p i
noncomputable def cTB : Code := sub [true, true, true, true, false, true, false, false, true, false, false, true, false, true, false] mBody
noncomputable def cT2 : Code := sub [true, true, true, true, false, true, false, false, true, false, false, true, false, true, false, true, true] mBody
noncomputable def cPB : Code := sub [true, true, true, true, false, true, false, false, true, false, false, true, true] mBody
noncomputable def cP3 : Code := sub [true, true, true, true, false, true, false, false, true, false, false, true, true, true, true, true, true, true, true] mBody
noncomputable def cP4 : Code := sub [true, true, true, true, false, true, false, false, true, false, false, true, true, true, true, true, true, true, true, true, true, true, true] mBody
set_option maxRecDepth 1000000 in
set_option maxHeartbeats 32000000 in
theorem tok_made {Te : List Td} {Sy : List Sd} {P : List Pd} {J : List Ep → List Nd → Nat → Prop} {u : Nat → Value} {w W1 : World} {a0 a1 a2 : Option Addr} {n0 c0 n1 c1 n2 c2 lb B : Nat} {N : Int} {pd ln zt : Nat} {W2 : World} {a7 a8 : Option Addr} {m7 c7 m8 c8 p i ob : Nat} {S : List En} {tk : List Nd} {Q : Exit → Act → World → Prop} (hG : Gx w (.slice a0 n0 c0) (.slice a1 n1 c1) (.slice a2 n2 c2) Te Sy P) (hJ : Kp Te Sy P J) (hN0 : Te.length = n0) (hBA : ∀ W, Below B W1 W → Below w.heap.size w W) (hLX : ∀ W, Below B W1 W → W.heap[lb]? = some (.cells #[u 0, u 1, .slice a0 n0 c0, .slice a1 n1 c1, .slice a2 n2 c2, u 5, u 6, u 7, u 8, u 9, u 10, u 11] 52 (0, 0))) (hBS : ∀ W, Below B W1 W → B ≤ W.heap.size)
    (hM2 : Ms Te J B lb W1 W2 (.slice a7 m7 c7) (.slice a8 m8 c8) S tk p i) (hM7 : S.length = m7) (hM8 : tk.length = m8) (hi : i < 65536) (hO2 : W2.heap[ob]? = some (.cells #[.int .i64 N, .int .i64 (pd : Int), .int .i64 (ln : Int)] 104 (0, 0))) (hBD : 1 ≤ zt ∧ zt < n0 ∧ pd ≤ 1048576 ∧ ln ≤ 1048576)
    (x0 x1 x3 x4 x5 x6 x10 x13 x14 x15 x16 x17 x18 x19 x20 x21 x22 x23 x24 x25 x26 x27 x28 x29 x30 x31 x32 x33 x34 x35 x36 x37 x38 x39 x40 x41 x42 x43 x44 x45 x46 x47 x48 x49 x50 x51 x52 x53 x54 x55 x56 x57 x58 x59 x60 x61 x62 x63 x64 x65 x66 x67 x68 x69 x70 x71 x72 x73 x74 x75 x76 x77 x78 x79 x80 x81 x82 x83 x84 x85 x86 x87 x88 x89 x90 x91 x92 x93 x94 x95 x96 x97 x98 x99 x100 x101 x102 x103 x104 x105 x106 x107 x108 x109 x110 x111 x112 x113 x114 x115 x116 x117 x118 x119 x120 x121 x122 x123 x124 x125 x126 x127 x128 x129 x130 x131 x132 x133 x134 x135 x136 x137 x138 x139 x140 x141 x142 x143 x144 x145 x146 x147 x148 x149 x150 x151 x152 x153 x154 x155 x156 x157 x158 x159 x160 x161 x162 x163 x164 x165 x166 x167 x168 x169 x170 x171 x172 x173 x174 x175 x176 x177 x178 x179 x180 x181 x182 x183 x184 x185 x186 x187 x188 x189 x190 x191 x192 x193 x194 x195 x196 x197 x198 x199 x200 x201 x202 x203 x204 x205 x206 x207 x208 x209 x210 x211 x212 x213 x214 x215 x216 x217 x218 x219 x220 x221 x222 x223 x224 x225 x226 x227 x228 x229 x230 x231 x232 x233 x234 x235 x236 : Value) (hQ : ∀ (v7 v8 v9 y11 y12 y13 y14 y15 y16 y17 y18 y19 y20 y21 y22 y23 y24 y25 y26 y27 y28 y29 y30 y31 y32 y33 y34 y35 y36 y37 y38 y39 y40 y41 y42 y43 y44 y45 y46 y47 y48 y49 y50 y51 y52 y53 y54 y55 y56 y57 y58 y59 y60 y61 y62 y63 y64 y65 y66 y67 y68 y69 y70 y71 y72 y73 y74 y75 y76 y77 y78 y79 y80 y81 y82 y83 y84 y85 y86 y87 y88 y89 y90 y91 y92 y93 y94 y95 y96 y97 y98 y99 y100 y101 y102 y103 y104 y105 y106 y107 y108 y109 y110 y111 y112 y113 y114 y115 y116 y117 y118 y119 y120 y121 y122 y123 y124 y125 y126 y127 y128 y129 y130 y131 y132 y133 y134 y135 y136 y137 y138 y139 y140 y141 y142 y143 y144 y145 y146 y147 y148 y149 y150 y151 y152 y153 y154 y155 y156 y157 y158 y159 y160 y161 y162 y163 y164 y165 y166 y167 y168 y169 y170 y171 y172 y173 y174 y175 y176 y177 y178 y179 y180 y181 y182 y183 y184 y185 y186 y187 y188 y189 y190 y191 y192 y193 y194 y195 y196 y197 y198 y199 y200 y201 y202 y203 y204 y205 y206 y207 y208 y209 y210 y211 y212 y213 y214 y215 y216 y217 y218 y219 y220 y221 y222 y223 y224 y225 y226 y227 y228 y229 y230 y231 y232 y233 y234 : Value) (W : World), Nx Te J B lb W1 (i + 1) v7 v8 v9 W → Q (.exit 1) ⟨#[x0, x1, .pointer (some ⟨lb, 0, none⟩), x3, x4, x5, x6, v7, v8, v9, x10, y11, y12, y13, y14, y15, y16, y17, y18, y19, y20, y21, y22, y23, y24, y25, y26, y27, y28, y29, y30, y31, y32, y33, y34, y35, y36, y37, y38, y39, y40, y41, y42, y43, y44, y45, y46, y47, y48, y49, y50, y51, y52, y53, y54, y55, y56, y57, y58, y59, y60, y61, y62, y63, y64, y65, y66, y67, y68, y69, y70, y71, y72, y73, y74, y75, y76, y77, y78, y79, y80, y81, y82, y83, y84, y85, y86, y87, y88, y89, y90, y91, y92, y93, y94, y95, y96, y97, y98, y99, y100, y101, y102, y103, y104, y105, y106, y107, y108, y109, y110, y111, y112, y113, y114, y115, y116, y117, y118, y119, y120, y121, y122, y123, y124, y125, y126, y127, y128, y129, y130, y131, y132, y133, y134, y135, y136, y137, y138, y139, y140, y141, y142, y143, y144, y145, y146, y147, y148, y149, y150, y151, y152, y153, y154, y155, y156, y157, y158, y159, y160, y161, y162, y163, y164, y165, y166, y167, y168, y169, y170, y171, y172, y173, y174, y175, y176, y177, y178, y179, y180, y181, y182, y183, y184, y185, y186, y187, y188, y189, y190, y191, y192, y193, y194, y195, y196, y197, y198, y199, y200, y201, y202, y203, y204, y205, y206, y207, y208, y209, y210, y211, y212, y213, y214, y215, y216, y217, y218, y219, y220, y221, y222, y223, y224, y225, y226, y227, y228, y229, y230, y231, y232, y233, y234, x235, x236], []⟩ W) :
    Code.wp Try.prog cT2 Q ⟨#[x0, x1, .pointer (some ⟨lb, 0, none⟩), x3, x4, x5, x6, .slice a7 m7 c7, .slice a8 m8 c8, .int .i64 (p : Int), x10, .pointer (some ⟨ob, 0, none⟩), .int .i64 (zt : Int), x13, x14, x15, x16, x17, x18, x19, x20, x21, x22, x23, x24, x25, x26, x27, x28, x29, x30, x31, x32, x33, x34, x35, x36, x37, x38, x39, x40, x41, x42, x43, x44, x45, x46, x47, x48, x49, x50, x51, x52, x53, x54, x55, x56, x57, x58, x59, x60, x61, x62, x63, x64, x65, x66, x67, x68, x69, x70, x71, x72, x73, x74, x75, x76, x77, x78, x79, x80, x81, x82, x83, x84, x85, x86, x87, x88, x89, x90, x91, x92, x93, x94, x95, x96, x97, x98, x99, x100, x101, x102, x103, x104, x105, x106, x107, x108, x109, x110, x111, x112, x113, x114, x115, x116, x117, x118, x119, x120, x121, x122, x123, x124, x125, x126, x127, x128, x129, x130, x131, x132, x133, x134, x135, x136, x137, x138, x139, x140, x141, x142, x143, x144, x145, x146, x147, x148, x149, x150, x151, x152, x153, x154, x155, x156, x157, x158, x159, x160, x161, x162, x163, x164, x165, x166, x167, x168, x169, x170, x171, x172, x173, x174, x175, x176, x177, x178, x179, x180, x181, x182, x183, x184, x185, x186, x187, x188, x189, x190, x191, x192, x193, x194, x195, x196, x197, x198, x199, x200, x201, x202, x203, x204, x205, x206, x207, x208, x209, x210, x211, x212, x213, x214, x215, x216, x217, x218, x219, x220, x221, x222, x223, x224, x225, x226, x227, x228, x229, x230, x231, x232, x233, x234, x235, x236], []⟩ W2 := by
  obtain ⟨iN, hiN, hx0, hx1, hx2⟩ := info_parts infoNd
  obtain ⟨iM, hiM, hy0, hy1, hy2⟩ := info_parts infoMd
  have HG : Hid (Gx w (.slice a0 n0 c0) (.slice a1 n1 c1) (.slice a2 n2 c2) Te Sy P) := hG
  have HJ : Hid (Kp Te Sy P J) := hJ
  have HN0 : Hid (Te.length = n0) := hN0
  have HBA : Hid (∀ W, Below B W1 W → Below w.heap.size w W) := hBA
  have HLX : Hid (∀ W, Below B W1 W → W.heap[lb]? = some (.cells #[u 0, u 1, .slice a0 n0 c0, .slice a1 n1 c1, .slice a2 n2 c2, u 5, u 6, u 7, u 8, u 9, u 10, u 11] 52 (0, 0))) := hLX
  have HBS : Hid (∀ W, Below B W1 W → B ≤ W.heap.size) := hBS
  have HM2 : Hid (Ms Te J B lb W1 W2 (.slice a7 m7 c7) (.slice a8 m8 c8) S tk p i) := hM2
  have HM7 : Hid (S.length = m7) := hM7
  have HM8 : Hid (tk.length = m8) := hM8
  have HIM : Hid (i < 65536) := hi
  have HO2 : Hid (W2.heap[ob]? = some (.cells #[.int .i64 N, .int .i64 (pd : Int), .int .i64 (ln : Int)] 104 (0, 0))) := hO2
  have HBD : Hid (1 ≤ zt ∧ zt < n0 ∧ pd ≤ 1048576 ∧ ln ≤ 1048576) := hBD
  clear hG hJ hN0 hBA hLX hBS hM2 hM7 hM8 hi hO2 hBD
  have o1 := rcell HO2.out 1 _ rfl
  have o2 := rcell HO2.out 2 _ rfl
  have HLX2 : Hid (W2.heap[lb]? = some (.cells #[u 0, u 1, .slice a0 n0 c0, .slice a1 n1 c1, .slice a2 n2 c2, u 5, u 6, u 7, u 8, u 9, u 10, u 11] 52 (0, 0))) := HLX.out _ HM2.out.b
  have HQ : Hid (∀ (v7 v8 v9 y11 y12 y13 y14 y15 y16 y17 y18 y19 y20 y21 y22 y23 y24 y25 y26 y27 y28 y29 y30 y31 y32 y33 y34 y35 y36 y37 y38 y39 y40 y41 y42 y43 y44 y45 y46 y47 y48 y49 y50 y51 y52 y53 y54 y55 y56 y57 y58 y59 y60 y61 y62 y63 y64 y65 y66 y67 y68 y69 y70 y71 y72 y73 y74 y75 y76 y77 y78 y79 y80 y81 y82 y83 y84 y85 y86 y87 y88 y89 y90 y91 y92 y93 y94 y95 y96 y97 y98 y99 y100 y101 y102 y103 y104 y105 y106 y107 y108 y109 y110 y111 y112 y113 y114 y115 y116 y117 y118 y119 y120 y121 y122 y123 y124 y125 y126 y127 y128 y129 y130 y131 y132 y133 y134 y135 y136 y137 y138 y139 y140 y141 y142 y143 y144 y145 y146 y147 y148 y149 y150 y151 y152 y153 y154 y155 y156 y157 y158 y159 y160 y161 y162 y163 y164 y165 y166 y167 y168 y169 y170 y171 y172 y173 y174 y175 y176 y177 y178 y179 y180 y181 y182 y183 y184 y185 y186 y187 y188 y189 y190 y191 y192 y193 y194 y195 y196 y197 y198 y199 y200 y201 y202 y203 y204 y205 y206 y207 y208 y209 y210 y211 y212 y213 y214 y215 y216 y217 y218 y219 y220 y221 y222 y223 y224 y225 y226 y227 y228 y229 y230 y231 y232 y233 y234 : Value) (W : World), Nx Te J B lb W1 (i + 1) v7 v8 v9 W → Q (.exit 1) ⟨#[x0, x1, .pointer (some ⟨lb, 0, none⟩), x3, x4, x5, x6, v7, v8, v9, x10, y11, y12, y13, y14, y15, y16, y17, y18, y19, y20, y21, y22, y23, y24, y25, y26, y27, y28, y29, y30, y31, y32, y33, y34, y35, y36, y37, y38, y39, y40, y41, y42, y43, y44, y45, y46, y47, y48, y49, y50, y51, y52, y53, y54, y55, y56, y57, y58, y59, y60, y61, y62, y63, y64, y65, y66, y67, y68, y69, y70, y71, y72, y73, y74, y75, y76, y77, y78, y79, y80, y81, y82, y83, y84, y85, y86, y87, y88, y89, y90, y91, y92, y93, y94, y95, y96, y97, y98, y99, y100, y101, y102, y103, y104, y105, y106, y107, y108, y109, y110, y111, y112, y113, y114, y115, y116, y117, y118, y119, y120, y121, y122, y123, y124, y125, y126, y127, y128, y129, y130, y131, y132, y133, y134, y135, y136, y137, y138, y139, y140, y141, y142, y143, y144, y145, y146, y147, y148, y149, y150, y151, y152, y153, y154, y155, y156, y157, y158, y159, y160, y161, y162, y163, y164, y165, y166, y167, y168, y169, y170, y171, y172, y173, y174, y175, y176, y177, y178, y179, y180, y181, y182, y183, y184, y185, y186, y187, y188, y189, y190, y191, y192, y193, y194, y195, y196, y197, y198, y199, y200, y201, y202, y203, y204, y205, y206, y207, y208, y209, y210, y211, y212, y213, y214, y215, y216, y217, y218, y219, y220, y221, y222, y223, y224, y225, y226, y227, y228, y229, y230, y231, y232, y233, y234, x235, x236], []⟩ W) := hQ
  clear hQ
  conv => arg 2; whnf
  have HPB : Hid (p + pd + ln ≤ 1000000000000) := by have h1 := HM2.out.q.1; have h2 := HM2.out.q.2.1; have h3 := HBD.out; show _ ≤ _; omega
  have hw1 : IntKind.i64.wrap ((p : Int) + (pd : Int)) = ((p + pd : Nat) : Int) := by rw [w64 _ (by omega) (by have := HPB.out; omega)]; omega
  have hw2 : IntKind.i64.wrap (((p + pd : Nat) : Int) + (ln : Int)) = ((p + pd + ln : Nat) : Int) := by rw [w64 _ (by omega) (by have := HPB.out; omega)]; omega
  have HJT := HJ.out.tok (S.map ep) tk p zt pd ln HM2.out.j HBD.out.1 (by rw [HN0.out]; exact HBD.out.2.1)
  have htk : tkn Te (zt : Int) (tk.length : Int) ((p + pd : Nat) : Int) ((p + pd + ln : Nat) : Int) = [⟨(Te.getD zt tdd).1, !(Te.getD zt tdd).2, ⟨#[]⟩, ((p + pd : Nat) : Int), ((p + pd + ln : Nat) : Int), 0, (tk.length : Int)⟩] := by
    unfold tkn
    rw [show ((zt : Int) == 0) = false by rw [beq_eq_false_iff_ne]; have := HBD.out; omega, show itk Te (zt : Int) = true by simp only [itk, Bool.and_eq_true, decide_eq_true_eq]; have := HBD.out; have := HN0.out; omega]; rfl
  have HTK0 : Hid (Calls Try.prog 33 #[lgv u (.slice a0 n0 c0) (.slice a1 n1 c1) (.slice a2 n2 c2), .int .i64 (zt : Int), .int .i64 (tk.length : Int), .int .i64 ((p + pd : Nat) : Int), .int .i64 ((p + pd + ln : Nat) : Int)] W2 fun e w' => ∃ v', e = .returned v' ∧ w'.ownsRow W2.heap.size 33 7 v' (tkn Te (zt : Int) (tk.length : Int) ((p + pd : Nat) : Int) ((p + pd + ln : Nat) : Int)).length (flat nf (tkn Te (zt : Int) (tk.length : Int) ((p + pd : Nat) : Int) ((p + pd + ln : Nat) : Int))) ∧ Below W2.heap.size W2 w') := token_any u W2 (HG.out.up (HBA.out _ HM2.out.b)) _ _ _ _
  rw [htk] at HJT HTK0
  obtain ⟨x, hx⟩ : ∃ x : Nd, (⟨(Te.getD zt tdd).1, !(Te.getD zt tdd).2, ⟨#[]⟩, ((p + pd : Nat) : Int), ((p + pd + ln : Nat) : Int), 0, (tk.length : Int)⟩ : Nd) = x := ⟨_, rfl⟩
  rw [hx] at HJT HTK0
  rw [HM8.out] at HTK0
  have HP3 : Hid (p + pd + ln ≤ (i + 1) * 2097152) := by have h1 := HM2.out.q.1; have h3 := HBD.out; show _ ≤ _; omega
  obtain ⟨fr, hfr⟩ : ∃ fr, p + pd = fr := ⟨_, rfl⟩
  rw [hfr] at hw1 hw2 HJT HTK0 HP3
  obtain ⟨p', hp'⟩ : ∃ p', fr + ln = p' := ⟨_, rfl⟩
  rw [hp'] at hw2 HJT HTK0 HP3
  have HTK : Hid (Calls Try.prog 33 #[.agg #[u 0, u 1, .slice a0 n0 c0, .slice a1 n1 c1, .slice a2 n2 c2, u 5, u 6, u 7, u 8, u 9, u 10, u 11], .int .i64 (zt : Int), .int .i64 (m8 : Int), .int .i64 (fr : Int), .int .i64 (p' : Int)] W2 fun e w' => ∃ v', e = .returned v' ∧ w'.ownsRow W2.heap.size 33 7 v' 1 (flat nf [x]) ∧ Below W2.heap.size W2 w') := HTK0.out
  have HJ2 : Hid (J (S.map ep ++ [((zt : Int), [x], (p' : Int))]) (tk ++ [x]) p') := HJT
  clear htk hx hfr hp' HJT HTK0 HPB
  have t0 := rcell HLX2.out 0 _ rfl
  have t1 := rcell HLX2.out 1 _ rfl
  have t2 := rcell HLX2.out 2 _ rfl
  have t3 := rcell HLX2.out 3 _ rfl
  have t4 := rcell HLX2.out 4 _ rfl
  have t5 := rcell HLX2.out 5 _ rfl
  have t6 := rcell HLX2.out 6 _ rfl
  have t7 := rcell HLX2.out 7 _ rfl
  have t8 := rcell HLX2.out 8 _ rfl
  have t9 := rcell HLX2.out 9 _ rfl
  have t10 := rcell HLX2.out 10 _ rfl
  have t11 := rcell HLX2.out 11 _ rfl
  go_upto_region 14 with (go_at_call 33; refine Calls.mono HTK.out ?_; rintro ee W3 ⟨v14, rfl, ho3, hb3⟩; have HO3 : Hid (W3.ownsRow W2.heap.size 33 7 v14 1 (flat nf [x])) := ho3; have HB3 : Hid (Below W2.heap.size W2 W3) := hb3; clear ho3 hb3; dsimp only)
  clear t0 t1 t2 t3 t4 t5 t6 t7 t8 t9 t10 t11 o1 o2 hw1 hw2
  obtain ⟨gt, ct, hv14, hgt, _⟩ := row_form HO3.out (by decide)
  subst hv14
  have HM3 : Hid (Mst B W3 (.slice a7 m7 c7) (.slice a8 m8 c8) S tk) := HM2.out.m.up HB3.out
  have HBW3 : Hid (Below B W1 W3) := HM2.out.b.trans (HB3.out.mono (HBS.out _ HM2.out.b))
  have HNE : Hid (Value.ownBlock (.slice (some ⟨gt, 0, none⟩) 1 ct) ≠ Value.ownBlock (.slice a8 m8 c8)) := fun e => by
    have h7 := own_ltb HM2.out.m.t gt e.symm
    omega
  have HOB : Hid (W3.ownsRow B 33 7 (.slice (some ⟨gt, 0, none⟩) 1 ct) 1 (flat nf [x])) := row_base HO3.out (HBS.out _ HM2.out.b)
  clear hgt
  have y0 : W3.cell? ⟨gt, 0, none⟩ = some (.string x.nm) := row_at HOB.out 0 _ rfl
  have y1 : W3.cell? ⟨gt, 1, none⟩ = some (.bool x.nd) := row_at HOB.out 1 _ rfl
  have y2 : W3.cell? ⟨gt, 2, none⟩ = some (.string x.fd) := row_at HOB.out 2 _ rfl
  have y3 : W3.cell? ⟨gt, 3, none⟩ = some (.int .i64 x.fr) := row_at HOB.out 3 _ rfl
  have y4 : W3.cell? ⟨gt, 4, none⟩ = some (.int .i64 x.tt) := row_at HOB.out 4 _ rfl
  have y5 : W3.cell? ⟨gt, 5, none⟩ = some (.int .i64 x.kd) := row_at HOB.out 5 _ rfl
  have y6 : W3.cell? ⟨gt, 6, none⟩ = some (.int .i64 x.lf) := row_at HOB.out 6 _ rfl
  have HROW : Hid ((W3.alloc (.cells #[.string x.nm, .bool x.nd, .string x.fd, .int .i64 x.fr, .int .i64 x.tt, .int .i64 x.kd, .int .i64 x.lf] 33)).ownsRow B 33 7 (.slice a8 m8 c8) m8 (flat nf tk)) := by have h7 := HM3.out.t; rw [HM8.out] at h7; exact h7.alloc _
  have HSA : Hid (B ≤ (W3.alloc (.cells #[.string x.nm, .bool x.nd, .string x.fd, .int .i64 x.fr, .int .i64 x.tt, .int .i64 x.kd, .int .i64 x.lf] 33)).heap.size) := Nat.le_trans (HBS.out _ HBW3.out) (bel_up _ _).size
  have HMX : Hid (m8 + 1 ≤ maxLen ∧ (m8 + 1) * 72 ≤ 140737488355328) := by have h7 := HM2.out.q.2.2.2; have h8 := HM2.out.q.2.1; rw [HM8.out] at h7; show _ ∧ _; unfold maxLen; exact ⟨by omega, by omega⟩
  have HCW : Hid (∀ j q, [Value.string x.nm, .bool x.nd, .string x.fd, .int .i64 x.fr, .int .i64 x.tt, .int .i64 x.kd, .int .i64 x.lf][j]? = some q → (W3.alloc (.cells #[.string x.nm, .bool x.nd, .string x.fd, .int .i64 x.fr, .int .i64 x.tt, .int .i64 x.kd, .int .i64 x.lf] 33)).cell? ((⟨W3.heap.size, 0, none⟩ : Addr).add j) = some q) := World.news_of_block (heap_new W3 (.cells #[.string x.nm, .bool x.nd, .string x.fd, .int .i64 x.fr, .int .i64 x.tt, .int .i64 x.kd, .int .i64 x.lf] 33))
  go_upto_region 17 with (at_builtin; refine wpList_append_own_at _ rfl _ _ 22 rfl B 33 iN _ 7 72 Try.underlying22 hiN hx0 hx1 hx2 rfl (by decide) _ _ _ rfl HROW.out ⟨W3.heap.size, 0, none⟩ 1 1 [Value.string x.nm, .bool x.nd, .string x.fd, .int .i64 x.fr, .int .i64 x.tt, .int .i64 x.kd, .int .i64 x.lf] rfl rfl HCW.out (nf_one x) HMX.out.1 HMX.out.2 HSA.out ?_; intro v5 W4 ho5 hg5 _ ha5; have HM4 : Hid (Mst B W4 (.slice a7 m7 c7) v5 S (tk ++ [x])) := HM3.out.tok hg5 (by rw [HM8.out]; exact ho5) ha5; have HB4 : Hid (Below B W1 W4) := bel_app HBW3.out (HBS.out _ HBW3.out) HM3.out.t hg5; have HO4 : Hid (W4.ownsRow B 33 7 (.slice (some ⟨gt, 0, none⟩) 1 ct) 1 (flat nf [x])) := (HOB.out.alloc _).kept hg5 (.inr HNE.out); have HN4 : Hid (Value.ownBlock (.slice (some ⟨gt, 0, none⟩) 1 ct) = none ∨ Value.ownBlock (.slice (some ⟨gt, 0, none⟩) 1 ct) ≠ v5.ownBlock) := fresh_ne HNE.out (own_ltb HOB.out) ha5; obtain ⟨b8, d8, rfl⟩ := row_shape ho5; clear ho5 hg5 ha5)
  obtain ⟨m9, hm9⟩ : ∃ m9, m8 + 1 = m9 := ⟨_, rfl⟩
  rw [hm9] at HM4 HN4 ⊢
  clear hm9 HM3 HROW HSA HCW HMX y0 y1 y2 y3 y4 y5 y6
  have HROW : Hid ((W4.alloc (.cells #[.int .i64 (zt : Int), .slice (some ⟨gt, 0, none⟩) 1 ct, .int .i64 (p' : Int)] 61)).ownsRow B 61 3 (.slice a7 m7 c7) m7 (flat mf S)) := by have h7 := HM4.out.s; rw [HM7.out] at h7; exact h7.alloc _
  have HSA : Hid (B ≤ (W4.alloc (.cells #[.int .i64 (zt : Int), .slice (some ⟨gt, 0, none⟩) 1 ct, .int .i64 (p' : Int)] 61)).heap.size) := Nat.le_trans (HBS.out _ HB4.out) (bel_up _ _).size
  have HMX : Hid (m7 + 1 ≤ maxLen ∧ (m7 + 1) * 40 ≤ 140737488355328) := by have h7 := HM2.out.q.2.2.1; have h8 := HM2.out.q.2.1; have h9 := phi_len (S.map ep); rw [List.length_map, HM7.out] at h9; show _ ∧ _; unfold maxLen; exact ⟨by omega, by omega⟩
  have HCW : Hid (∀ j q, [Value.int .i64 (zt : Int), .slice (some ⟨gt, 0, none⟩) 1 ct, .int .i64 (p' : Int)][j]? = some q → (W4.alloc (.cells #[.int .i64 (zt : Int), .slice (some ⟨gt, 0, none⟩) 1 ct, .int .i64 (p' : Int)] 61)).cell? ((⟨W4.heap.size, 0, none⟩ : Addr).add j) = some q) := World.news_of_block (heap_new W4 (.cells #[.int .i64 (zt : Int), .slice (some ⟨gt, 0, none⟩) 1 ct, .int .i64 (p' : Int)] 61))
  have HQN : Hid (p' ≤ (i + 1) * 2097152 ∧ i + 1 ≤ 65536 ∧ phi ((S ++ [((zt : Int), Value.slice (some ⟨gt, 0, none⟩) 1 ct, [x], (p' : Int))]).map ep) ≤ 2 * (i + 1) ∧ (tk ++ [x]).length ≤ i + 1) := by
    have h7 := HM2.out.q
    have h8 := HIM.out
    have h9 : phi ((S ++ [((zt : Int), Value.slice (some ⟨gt, 0, none⟩) 1 ct, [x], (p' : Int))]).map ep) = phi (S.map ep) + 2 := by rw [List.map_append, phi_app]; rfl
    refine ⟨HP3.out, by omega, ?_, ?_⟩
    · rw [h9]; omega
    · rw [List.length_append, List.length_singleton]; omega
  go_wp2_with (at_builtin; refine wpList_append_own_at _ rfl _ _ 57 rfl B 61 iM _ 3 40 Try.underlying57 hiM hy0 hy1 hy2 rfl (by decide) _ _ _ rfl HROW.out ⟨W4.heap.size, 0, none⟩ 1 1 [Value.int .i64 (zt : Int), .slice (some ⟨gt, 0, none⟩) 1 ct, .int .i64 (p' : Int)] rfl rfl HCW.out (by simp [Value.oneCell']) HMX.out.1 HMX.out.2 HSA.out ?_; intro v6 W5 ho6 hg6 _ ha6; have HM5 : Hid (Mst B W5 v6 (.slice b8 m9 d8) (S ++ [((zt : Int), Value.slice (some ⟨gt, 0, none⟩) 1 ct, [x], (p' : Int))]) (tk ++ [x])) := HM4.out.push hg6 (by rw [HM7.out]; exact ho6) HO4.out HN4.out; have HB5 : Hid (Below B W1 W5) := bel_app HB4.out (HBS.out _ HB4.out) HM4.out.s hg6; obtain ⟨b7, d7, rfl⟩ := row_shape ho6; clear ho6 hg6 ha6)
  exact HQ.out _ _ _ _ _ _ _ _ _ _ _ _ _ _ _ _ _ _ _ _ _ _ _ _ _ _ _ _ _ _ _ _ _ _ _ _ _ _ _ _ _ _ _ _ _ _ _ _ _ _ _ _ _ _ _ _ _ _ _ _ _ _ _ _ _ _ _ _ _ _ _ _ _ _ _ _ _ _ _ _ _ _ _ _ _ _ _ _ _ _ _ _ _ _ _ _ _ _ _ _ _ _ _ _ _ _ _ _ _ _ _ _ _ _ _ _ _ _ _ _ _ _ _ _ _ _ _ _ _ _ _ _ _ _ _ _ _ _ _ _ _ _ _ _ _ _ _ _ _ _ _ _ _ _ _ _ _ _ _ _ _ _ _ _ _ _ _ _ _ _ _ _ _ _ _ _ _ _ _ _ _ _ _ _ _ _ _ _ _ _ _ _ _ _ _ _ _ _ _ _ _ _ _ _ _ _ _ _ _ _ _ _ _ _ _ _ _ _ _ _ _ _ _ _ _ _ _ _ ⟨p', S ++ [((zt : Int), Value.slice (some ⟨gt, 0, none⟩) 1 ct, [x], (p' : Int))], tk ++ [x], rfl, ⟨HM5.out, HB5.out, by rw [List.map_append]; exact HJ2.out, HQN.out⟩⟩
end Go.Proofs.Ytcfmpmhdjkchjaa
