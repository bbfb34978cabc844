import Derived.Test.YtcfmpmhdjkchjaaTme
namespace Go.Proofs.Ytcfmpmhdjkchjaa
open Go.RowKit Go.Maps

theorem lst_take (S : List En) (d : Nat) (h : 0 < d) (hl : d ≤ S.length) : lst ((S.take d).map ep) = (S.getD (d - 1) end_).2.2.2 := by
  unfold lst
  have hlen : ((S.take d).map ep).length = d := by rw [List.length_map, List.length_take]; omega
  rw [List.getLast?_eq_getElem?, hlen, List.getElem?_map, List.getElem?_take_of_lt (by omega), List.getElem?_eq_getElem (by omega), List.getD_eq_getElem?_getD, List.getElem?_eq_getElem (by omega)]
  rfl
theorem Mst.keep {B : Nat} {W W' : World} {v7 v8 v : Value} {S : List En} {tk : List Nd} {e : TypeId} {size n : Nat} {xs : List Value} {o : Obj} (h : Mst B W v7 v8 S tk) (hr : W.ownsRow B e size v n xs) (h1 : 61 ≠ e) (h2 : 33 ≠ e) (hg : (W.alloc o).grownBy W' v.ownBlock) : Mst B W' v7 v8 S tk :=
  ⟨(h.s.alloc o).kept hg (tag_ne (h.s.alloc o) (hr.alloc o) h1), (h.t.alloc o).kept hg (tag_ne (h.t.alloc o) (hr.alloc o) h2), fun x hx => ⟨((h.e x hx).1.alloc o).kept hg (tag_ne ((h.e x hx).1.alloc o) (hr.alloc o) h2), (h.e x hx).2⟩⟩
theorem blk_grow {W W' : World} {B b : Nat} {e t : TypeId} {size n : Nat} {v : Value} {xs : List Value} {cs : Array Value} {o : Obj} (h : W.heap[b]? = some (.cells cs t (0, 0))) (hr : W.ownsRow B e size v n xs) (hne : e ≠ t) (hg : (W.alloc o).grownBy W' v.ownBlock) : W'.heap[b]? = some (.cells cs t (0, 0)) := by
  have h2 := ((bel_up W o).block b (lt_of_heap h)).trans h
  exact (hg.block b (lt_of_heap h2) (fun e => tag_ne_blk (hr.alloc o) h2 hne e.symm)).trans h2
theorem own_one {W : World} {B g : Nat} {v : Value} {t : TypeId} (hB : B ≤ g) (h : W.heap[g]? = some (.cells #[v] t (0, 0))) : W.ownsRow B t 1 (.slice (some ⟨g, 0, none⟩) 1 1) 1 [v] :=
  ⟨rfl, .inr ⟨g, 1, #[v], rfl, hB, h, Nat.le_refl _, by unfold maxLen; omega, rfl, rfl⟩⟩
theorem mf_get (l : List En) (i : Nat) (h : i < l.length) : (flat mf l)[i * 3 + 1]? = some (l.getD i end_).2.1 ∧ (flat mf l)[i * 3 + 2]? = some (.int .i64 (l.getD i end_).2.2.2) ∧ (flat mf l)[i * 3]? = some (.int .i64 (l.getD i end_).1) :=
  ⟨flat_get mf_len end_ l i 1 h (by decide), flat_get mf_len end_ l i 2 h (by decide), flat_get mf_len end_ l i 0 h (by decide)⟩
theorem drop_take_succ (S : List En) (d j : Nat) (h : d + j < S.length) : (S.drop d).take (j + 1) = (S.drop d).take j ++ [S.getD (d + j) end_] := by
  rw [List.take_add_one, List.getElem?_drop, List.getD_eq_getElem?_getD, List.getElem?_eq_getElem h]
  rfl
/-- The two rows while a production's lists are gathered. -/
structure Ga (Te : List Td) (J : List Ep → List Nd → Nat → Prop) (B lb : Nat) (W1 W : World) (v7 v8 : Value) (S : List En) (tk : List Nd) (p i ob d j : Nat) (q pad len : Int) (v19 v20 : Value) : Prop where
  m : Ms Te J B lb W1 W v7 v8 S tk p i
  o : W.heap[ob]? = some (.cells #[.int .i64 q, .int .i64 pad, .int .i64 len] 104 (0, 0))
  k : W.ownsRow B 22 1 v20 j (((S.drop d).take j).map (fun x => x.2.1))
  e : W.ownsRow B 3 1 v19 (j + 1) (iC (lst ((S.take d).map ep) :: ((S.drop d).take j).map (fun x => x.2.2.2)))
set_option maxRecDepth 1000000 in
set_option maxHeartbeats 32000000 in
theorem prod_mid {Te : List Td} {Sy : List Sd} {P : List Pd} {J : List Ep → List Nd → Nat → Prop} {u : Nat → Value} {w W1 : World} {a0 a1 a2 : Option Addr} {n0 c0 n1 c1 n2 c2 lb B : Nat} {W5 : World} {pad len : Int} {a7 a8 ra : Option Addr} {m7 c7 m8 c8 p i ob q d nr rc : Nat} {lhs : Int} {rs : List Rf} {S : List En} {tk : List Nd} {Q : Exit → Act → World → Prop} (hG : Gx w (.slice a0 n0 c0) (.slice a1 n1 c1) (.slice a2 n2 c2) Te Sy P) (hJ : Kp Te Sy P J) (hN0 : Te.length = n0) (hBA : ∀ W, Below B W1 W → Below w.heap.size w W) (hLX : ∀ W, Below B W1 W → W.heap[lb]? = some (.cells #[u 0, u 1, .slice a0 n0 c0, .slice a1 n1 c1, .slice a2 n2 c2, u 5, u 6, u 7, u 8, u 9, u 10, u 11] 52 (0, 0))) (hBS : ∀ W, Below B W1 W → B ≤ W.heap.size) (hGS : Gs Te Sy P) (hRI : ∀ x ∈ P, ∀ r ∈ x.2.2, r.1 ≤ 9223372036854775807) (hwB : w.heap.size ≤ B) (hN2 : P.length = n2)
    (hM5 : Ms Te J B lb W1 W5 (.slice a7 m7 c7) (.slice a8 m8 c8) S tk p i) (hM7 : S.length = m7) (hM8 : tk.length = m8) (hi : i < 65536) (hO5 : W5.heap[ob]? = some (.cells #[.int .i64 (q : Int), .int .i64 pad, .int .i64 len] 104 (0, 0))) (hq : q < n2) (hP : P.getD q pfd = (lhs, .slice ra nr rc, rs)) (hnr : rs.length = nr) (hl0 : 0 ≤ lhs) (hd : d + nr = m7) (hfit : (S.drop d).map (fun x => x.1) = rs.map (fun x => x.1)) (x0 x1 x3 x4 x5 x6 x10 x12 x13 x14 x17 x18 x19 x20 x21 x22 x23 x24 x25 x26 x27 x28 x29 x30 x31 x32 x33 x34 x35 x36 x37 x38 x39 x40 x41 x42 x43 x44 x45 x46 x47 x48 x49 x50 x51 x52 x53 x54 x55 x56 x57 x58 x59 x60 x61 x62 x63 x64 x65 x66 x67 x68 x69 x70 x71 x72 x73 x74 x75 x76 x77 x78 x79 x80 x81 x82 x83 x84 x85 x86 x87 x88 x89 x90 x91 x92 x93 x94 x95 x96 x97 x98 x99 x100 x101 x102 x103 x104 x105 x106 x107 x108 x109 x110 x111 x112 x113 x114 x115 x116 x117 x118 x119 x120 x121 x122 x123 x124 x125 x126 x127 x128 x129 x130 x131 x132 x133 x134 x135 x136 x137 x138 x139 x140 x141 x142 x143 x144 x145 x146 x147 x148 x149 x150 x151 x152 x153 x154 x155 x156 x157 x158 x159 x160 x161 x162 x163 x164 x165 x166 x167 x168 x169 x170 x171 x172 x173 x174 x175 x176 x177 x178 x179 x180 x181 x182 x183 x184 x185 x186 x187 x188 x189 x190 x191 x192 x193 x194 x195 x196 x197 x198 x199 x200 x201 x202 x203 x204 x205 x206 x207 x208 x209 x210 x211 x212 x213 x214 x215 x216 x217 x218 x219 x220 x221 x222 x223 x224 x225 x226 x227 x228 x229 x230 x231 x232 x233 x234 x235 x236 : Value) (hQ : ∀ (v7 v8 v9 y11 y12 y13 y14 y15 y16 y17 y18 y19 y20 y21 y22 y23 y24 y25 y26 y27 y28 y29 y30 y31 y32 y33 y34 y35 y36 y37 y38 y39 y40 y41 y42 y43 y44 y45 y46 y47 y48 y49 y50 y51 y52 y53 y54 y55 y56 y57 y58 y59 y60 y61 y62 y63 y64 y65 y66 y67 y68 y69 y70 y71 y72 y73 y74 y75 y76 y77 y78 y79 y80 y81 y82 y83 y84 y85 y86 y87 y88 y89 y90 y91 y92 y93 y94 y95 y96 y97 y98 y99 y100 y101 y102 y103 y104 y105 y106 y107 y108 y109 y110 y111 y112 y113 y114 y115 y116 y117 y118 y119 y120 y121 y122 y123 y124 y125 y126 y127 y128 y129 y130 y131 y132 y133 y134 y135 y136 y137 y138 y139 y140 y141 y142 y143 y144 y145 y146 y147 y148 y149 y150 y151 y152 y153 y154 y155 y156 y157 y158 y159 y160 y161 y162 y163 y164 y165 y166 y167 y168 y169 y170 y171 y172 y173 y174 y175 y176 y177 y178 y179 y180 y181 y182 y183 y184 y185 y186 y187 y188 y189 y190 y191 y192 y193 y194 y195 y196 y197 y198 y199 y200 y201 y202 y203 y204 y205 y206 y207 y208 y209 y210 y211 y212 y213 y214 y215 y216 y217 y218 y219 y220 y221 y222 y223 y224 y225 y226 y227 y228 y229 y230 y231 y232 y233 y234 : Value) (W : World), Nx Te J B lb W1 (i + 1) v7 v8 v9 W → Q (.normal) ⟨#[x0, x1, .pointer (some ⟨lb, 0, none⟩), x3, x4, x5, x6, v7, v8, v9, x10, y11, y12, y13, y14, y15, y16, y17, y18, y19, y20, y21, y22, y23, y24, y25, y26, y27, y28, y29, y30, y31, y32, y33, y34, y35, y36, y37, y38, y39, y40, y41, y42, y43, y44, y45, y46, y47, y48, y49, y50, y51, y52, y53, y54, y55, y56, y57, y58, y59, y60, y61, y62, y63, y64, y65, y66, y67, y68, y69, y70, y71, y72, y73, y74, y75, y76, y77, y78, y79, y80, y81, y82, y83, y84, y85, y86, y87, y88, y89, y90, y91, y92, y93, y94, y95, y96, y97, y98, y99, y100, y101, y102, y103, y104, y105, y106, y107, y108, y109, y110, y111, y112, y113, y114, y115, y116, y117, y118, y119, y120, y121, y122, y123, y124, y125, y126, y127, y128, y129, y130, y131, y132, y133, y134, y135, y136, y137, y138, y139, y140, y141, y142, y143, y144, y145, y146, y147, y148, y149, y150, y151, y152, y153, y154, y155, y156, y157, y158, y159, y160, y161, y162, y163, y164, y165, y166, y167, y168, y169, y170, y171, y172, y173, y174, y175, y176, y177, y178, y179, y180, y181, y182, y183, y184, y185, y186, y187, y188, y189, y190, y191, y192, y193, y194, y195, y196, y197, y198, y199, y200, y201, y202, y203, y204, y205, y206, y207, y208, y209, y210, y211, y212, y213, y214, y215, y216, y217, y218, y219, y220, y221, y222, y223, y224, y225, y226, y227, y228, y229, y230, y231, y232, y233, y234, x235, x236], []⟩ W) :
    Code.wp Try.prog cP3 Q ⟨#[x0, x1, .pointer (some ⟨lb, 0, none⟩), x3, x4, x5, x6, .slice a7 m7 c7, .slice a8 m8 c8, .int .i64 (p : Int), x10, .pointer (some ⟨ob, 0, none⟩), x12, x13, x14, .slice ra nr rc, .int .i64 (d : Int), x17, x18, x19, x20, x21, x22, x23, x24, x25, x26, x27, x28, x29, x30, x31, x32, x33, x34, x35, x36, x37, x38, x39, x40, x41, x42, x43, x44, x45, x46, x47, x48, x49, x50, x51, x52, x53, x54, x55, x56, x57, x58, x59, x60, x61, x62, x63, x64, x65, x66, x67, x68, x69, x70, x71, x72, x73, x74, x75, x76, x77, x78, x79, x80, x81, x82, x83, x84, x85, x86, x87, x88, x89, x90, x91, x92, x93, x94, x95, x96, x97, x98, x99, x100, x101, x102, x103, x104, x105, x106, x107, x108, x109, x110, x111, x112, x113, x114, x115, x116, x117, x118, x119, x120, x121, x122, x123, x124, x125, x126, x127, x128, x129, x130, x131, x132, x133, x134, x135, x136, x137, x138, x139, x140, x141, x142, x143, x144, x145, x146, x147, x148, x149, x150, x151, x152, x153, x154, x155, x156, x157, x158, x159, x160, x161, x162, x163, x164, x165, x166, x167, x168, x169, x170, x171, x172, x173, x174, x175, x176, x177, x178, x179, x180, x181, x182, x183, x184, x185, x186, x187, x188, x189, x190, x191, x192, x193, x194, x195, x196, x197, x198, x199, x200, x201, x202, x203, x204, x205, x206, x207, x208, x209, x210, x211, x212, x213, x214, x215, x216, x217, x218, x219, x220, x221, x222, x223, x224, x225, x226, x227, x228, x229, x230, x231, x232, x233, x234, x235, x236], []⟩ W5 := by
  obtain ⟨iS, hiS, hz0, hz1, hz2⟩ := info_parts infoSn
  obtain ⟨i3, hi3, ht0, ht1, ht2⟩ := info_parts info3
  have HG : Hid (Gx w (.slice a0 n0 c0) (.slice a1 n1 c1) (.slice a2 n2 c2) Te Sy P) := hG
  have HJ : Hid (Kp Te Sy P J) := hJ
  have HN0 : Hid (Te.length = n0) := hN0
  have HBA : Hid (∀ W, Below B W1 W → Below w.heap.size w W) := hBA
  have HLX : Hid (∀ W, Below B W1 W → W.heap[lb]? = some (.cells #[u 0, u 1, .slice a0 n0 c0, .slice a1 n1 c1, .slice a2 n2 c2, u 5, u 6, u 7, u 8, u 9, u 10, u 11] 52 (0, 0))) := hLX
  have HBS : Hid (∀ W, Below B W1 W → B ≤ W.heap.size) := hBS
  have HGS : Hid (Gs Te Sy P) := hGS
  have HRI : Hid (∀ x ∈ P, ∀ r ∈ x.2.2, r.1 ≤ 9223372036854775807) := hRI
  have HWB : Hid (w.heap.size ≤ B) := hwB
  have HN2 : Hid (P.length = n2) := hN2
  have HM5 : Hid (Ms Te J B lb W1 W5 (.slice a7 m7 c7) (.slice a8 m8 c8) S tk p i) := hM5
  have HM7 : Hid (S.length = m7) := hM7
  have HM8 : Hid (tk.length = m8) := hM8
  have HIM : Hid (i < 65536) := hi
  have HO5 : Hid (W5.heap[ob]? = some (.cells #[.int .i64 (q : Int), .int .i64 pad, .int .i64 len] 104 (0, 0))) := hO5
  have HQ2 : Hid (q < n2) := hq
  have HP : Hid (P.getD q pfd = (lhs, .slice ra nr rc, rs)) := hP
  have HNR : Hid (rs.length = nr) := hnr
  have HL0 : Hid (0 ≤ lhs) := hl0
  have HD : Hid (d + nr = m7) := hd
  have HFT : Hid ((S.drop d).map (fun x => x.1) = rs.map (fun x => x.1)) := hfit
  have HQ : Hid (∀ (v7 v8 v9 y11 y12 y13 y14 y15 y16 y17 y18 y19 y20 y21 y22 y23 y24 y25 y26 y27 y28 y29 y30 y31 y32 y33 y34 y35 y36 y37 y38 y39 y40 y41 y42 y43 y44 y45 y46 y47 y48 y49 y50 y51 y52 y53 y54 y55 y56 y57 y58 y59 y60 y61 y62 y63 y64 y65 y66 y67 y68 y69 y70 y71 y72 y73 y74 y75 y76 y77 y78 y79 y80 y81 y82 y83 y84 y85 y86 y87 y88 y89 y90 y91 y92 y93 y94 y95 y96 y97 y98 y99 y100 y101 y102 y103 y104 y105 y106 y107 y108 y109 y110 y111 y112 y113 y114 y115 y116 y117 y118 y119 y120 y121 y122 y123 y124 y125 y126 y127 y128 y129 y130 y131 y132 y133 y134 y135 y136 y137 y138 y139 y140 y141 y142 y143 y144 y145 y146 y147 y148 y149 y150 y151 y152 y153 y154 y155 y156 y157 y158 y159 y160 y161 y162 y163 y164 y165 y166 y167 y168 y169 y170 y171 y172 y173 y174 y175 y176 y177 y178 y179 y180 y181 y182 y183 y184 y185 y186 y187 y188 y189 y190 y191 y192 y193 y194 y195 y196 y197 y198 y199 y200 y201 y202 y203 y204 y205 y206 y207 y208 y209 y210 y211 y212 y213 y214 y215 y216 y217 y218 y219 y220 y221 y222 y223 y224 y225 y226 y227 y228 y229 y230 y231 y232 y233 y234 : Value) (W : World), Nx Te J B lb W1 (i + 1) v7 v8 v9 W → Q (.normal) ⟨#[x0, x1, .pointer (some ⟨lb, 0, none⟩), x3, x4, x5, x6, v7, v8, v9, x10, y11, y12, y13, y14, y15, y16, y17, y18, y19, y20, y21, y22, y23, y24, y25, y26, y27, y28, y29, y30, y31, y32, y33, y34, y35, y36, y37, y38, y39, y40, y41, y42, y43, y44, y45, y46, y47, y48, y49, y50, y51, y52, y53, y54, y55, y56, y57, y58, y59, y60, y61, y62, y63, y64, y65, y66, y67, y68, y69, y70, y71, y72, y73, y74, y75, y76, y77, y78, y79, y80, y81, y82, y83, y84, y85, y86, y87, y88, y89, y90, y91, y92, y93, y94, y95, y96, y97, y98, y99, y100, y101, y102, y103, y104, y105, y106, y107, y108, y109, y110, y111, y112, y113, y114, y115, y116, y117, y118, y119, y120, y121, y122, y123, y124, y125, y126, y127, y128, y129, y130, y131, y132, y133, y134, y135, y136, y137, y138, y139, y140, y141, y142, y143, y144, y145, y146, y147, y148, y149, y150, y151, y152, y153, y154, y155, y156, y157, y158, y159, y160, y161, y162, y163, y164, y165, y166, y167, y168, y169, y170, y171, y172, y173, y174, y175, y176, y177, y178, y179, y180, y181, y182, y183, y184, y185, y186, y187, y188, y189, y190, y191, y192, y193, y194, y195, y196, y197, y198, y199, y200, y201, y202, y203, y204, y205, y206, y207, y208, y209, y210, y211, y212, y213, y214, y215, y216, y217, y218, y219, y220, y221, y222, y223, y224, y225, y226, y227, y228, y229, y230, y231, y232, y233, y234, x235, x236], []⟩ W) := hQ
  clear hG hJ hN0 hBA hLX hBS hGS hRI hwB hN2 hM5 hM7 hM8 hi hO5 hq hP hnr hl0 hd hfit hQ
  have HBW : Hid (B ≤ W5.heap.size) := HBS.out _ HM5.out.b
  have HDM : Hid (d ≤ 131072 ∧ m7 ≤ 131072 ∧ nr ≤ 131072) := by
    have h7 := HM5.out.q.2.2.1; have h8 := HM5.out.q.2.1; have h9 := phi_len (S.map ep); rw [List.length_map, HM7.out] at h9
    have := HD.out
    show _ ∧ _ ∧ _; omega
  obtain ⟨W6, hW6⟩ : ∃ W6, W6 = W5.alloc (.cells #[.int .i64 0] 3) := ⟨_, rfl⟩
  have HX6 : Hid (W6.heap[W5.heap.size]? = some (.cells #[.int .i64 0] 3 (0, 0))) := by rw [hW6]; exact heap_new _ _
  have HB6 : Hid (Below W5.heap.size W5 W6) := by rw [hW6]; exact bel_up _ _
  conv => arg 2; whnf
  go_upto_if 166 with fail
  rw [← hW6]
  clear hW6
  obtain ⟨ge, hge⟩ : ∃ ge, W5.heap.size = ge := ⟨_, rfl⟩
  have HGE : Hid (W5.heap.size = ge) := hge
  rw [hge] at HX6 ⊢
  clear hge
  go_cut [166] from 166 to 174 (fun _ wx => wx.ownsRow B 3 1 (.slice (some ⟨ge, 0, none⟩) 1 1) 1 (iC [lst ((S.take d).map ep)]) ∧ Below W5.heap.size W5 wx)
  case first =>
    by_cases hd0 : 0 < d
    · have e1 : (0 : Int) < (d : Int) := by omega
      have e2 : 0 < d := hd0
      obtain ⟨d1, hd1⟩ : ∃ d1, d - 1 = d1 := ⟨_, rfl⟩
      have HD1 : Hid (d - 1 = d1 ∧ 0 < d) := ⟨hd1, hd0⟩
      have hlt : d1 < S.length := by have := HD.out; have := HM7.out; omega
      obtain ⟨g7, cc7, hv7, _⟩ := row_form HM5.out.m.s (by omega)
      obtain ⟨rfl, -, rfl⟩ := Value.slice.inj hv7
      have hc := below_cell HB6.out (row_at HM5.out.m.s (d1 * 3 + 2) _ (mf_get S d1 hlt).2.1)
      have HL : Hid (lst ((S.take d).map ep) = (S.getD d1 end_).2.2.2) := by show _ = _; rw [← HD1.out.1]; exact lst_take S d HD1.out.2 (by have := HD.out; have := HM7.out; omega)
      obtain ⟨en, hen⟩ : ∃ en, (S.getD d1 end_).2.2.2 = en := ⟨_, rfl⟩
      rw [hen] at hc HL
      have f1 : (d1 : Int) < (m7 : Int) := by have := HM7.out; omega
      have f2 : d1 < m7 := by have := HM7.out; omega
      have f3 : wrap64 ((d : Int) - 1) = (d1 : Int) := by unfold wrap64; have := HDM.out; omega
      have fz := Lib.frozen_of_heap HX6.out 0
      have c0 := rcell HX6.out 0 _ rfl
      clear hd0 hd1 hlt hv7 hen
      go_wp2_with fail
      go_meet
      refine ⟨?_, HB6.out.setCell (by show _ ≤ ge; rw [HGE.out]; exact Nat.le_refl _) _⟩
      rw [HL.out]
      exact own_one (by rw [← HGE.out]; exact HBW.out) (blk_set _ HX6.out)
    · have e1 : decide ((0 : Int) < (d : Int)) = false := by rw [decide_eq_false_iff_not]; omega
      have e2 : decide (0 < d) = false := by rw [decide_eq_false_iff_not]; exact hd0
      obtain rfl : d = 0 := by omega
      clear hd0 e1 e2
      go_wp2_with fail
      go_meet
      refine ⟨?_, HB6.out⟩
      exact own_one (by rw [← HGE.out]; exact HBW.out) HX6.out
  case rest =>
    obtain ⟨hr0, hb0⟩ := hcut
    obtain ⟨W7, rfl⟩ : ∃ W7, W7 = wc := ⟨_, rfl⟩
    have HM7w : Hid (Ms Te J B lb W1 W7 (.slice a7 m7 c7) (.slice a8 m8 c8) S tk p i) := HM5.out.up hb0 HBW.out
    have HO7 : Hid (W7.heap[ob]? = some (.cells #[.int .i64 (q : Int), .int .i64 pad, .int .i64 len] 104 (0, 0))) := (hb0.block ob (lt_of_heap HO5.out)).trans HO5.out
    have HGA0 : Hid (Ga Te J B lb W1 W7 (.slice a7 m7 c7) (.slice a8 m8 c8) S tk p i ob d 0 (q : Int) pad len (.slice (some ⟨ge, 0, none⟩) 1 1) (.slice none 0 0)) := ⟨HM7w.out, HO7.out, World.ownsRow_nil _ _ _ _, hr0⟩
    clear hr0 hb0 HX6 HB6 HGE
    go_upto_block 4 with fail
    go_cut [19, 20, 21] from 175 to 200 (fun v19 v20 _ wx => ∃ ea ec ka kc, v19 = .slice ea (nr + 1) ec ∧ v20 = .slice ka nr kc ∧ Hid (Ga Te J B lb W1 wx (.slice a7 m7 c7) (.slice a8 m8 c8) S tk p i ob d nr (q : Int) pad len (.slice ea (nr + 1) ec) (.slice ka nr kc)))
    case first =>
      go_wp2_with fail
      go_loopg [19, 20, 21] nr (fun gm v19 v20 v21 wr => ∃ j : Nat, v21 = .int .i64 (j : Int) ∧ Hid (gm = nr - j ∧ j ≤ nr) ∧ Hid (Ga Te J B lb W1 wr (.slice a7 m7 c7) (.slice a8 m8 c8) S tk p i ob d j (q : Int) pad len v19 v20))
      case atStart => exact ⟨0, rfl, ⟨rfl, Nat.zero_le _⟩, HGA0⟩
      case round =>
        clear HGA0 HM7w HO7
        obtain ⟨j, rfl, HI, HGA⟩ := hrel
        obtain ⟨ea, ec, hv19⟩ := row_shape HGA.out.e
        obtain ⟨ka, kc, hv20⟩ := row_shape HGA.out.k
        subst hv19 hv20
        by_cases hj : j < nr
        · have g1 : (j : Int) < (nr : Int) := by omega
          have g2 : j < nr := hj
          have HJN : Hid (j < nr) := hj
          obtain ⟨dj, hdj⟩ : ∃ dj, d + j = dj := ⟨_, rfl⟩
          have HDJ : Hid (d + j = dj) := hdj
          have hlt : dj < S.length := by have := HD.out; have := HM7.out; omega
          obtain ⟨g7, cc7, hv7, _⟩ := row_form HGA.out.m.m.s (by omega)
          obtain ⟨rfl, -, rfl⟩ := Value.slice.inj hv7
          obtain ⟨ta, tc, htv⟩ := row_shape (HGA.out.m.m.e _ (getD_mem S end_ dj hlt)).1
          have hc1 := row_at HGA.out.m.m.s (dj * 3 + 1) _ (mf_get S dj hlt).1
          have hc2 := row_at HGA.out.m.m.s (dj * 3 + 2) _ (mf_get S dj hlt).2.1
          have HSD : Hid ((S.drop d).take (j + 1) = (S.drop d).take j ++ [S.getD dj end_]) := by show _ = _; rw [← hdj]; exact drop_take_succ S d j (by omega)
          obtain ⟨xx, hxx⟩ : ∃ xx, S.getD dj end_ = xx := ⟨_, rfl⟩
          rw [hxx] at htv hc1 hc2 HSD
          have HXX0 : Hid (S.getD dj end_ = xx) := hxx
          obtain ⟨tl, htl⟩ : ∃ tl, xx.2.2.1.length = tl := ⟨_, rfl⟩
          rw [htl] at htv
          rw [htv] at hc1
          have HTV : Hid (xx.2.1 = .slice ta tl tc) := htv
          obtain ⟨en, hen⟩ : ∃ en, xx.2.2.2 = en := ⟨_, rfl⟩
          rw [hen] at hc2
          have HEN : Hid (xx.2.2.2 = en) := hen
          have f1 : (dj : Int) < (m7 : Int) := by have := HM7.out; omega
          have f2 : dj < m7 := by have := HM7.out; omega
          have HC2 : Hid (wr.cell? ⟨g7, dj * 3 + 2, none⟩ = some (.int .i64 en)) := hc2
          have HROW : Hid ((wr.alloc (.cells #[.slice ta tl tc] 22)).ownsRow B 22 1 (.slice ka j kc) j (((S.drop d).take j).map (fun x => x.2.1))) := HGA.out.k.alloc _
          have HSA : Hid (B ≤ (wr.alloc (.cells #[.slice ta tl tc] 22)).heap.size) := Nat.le_trans (HBS.out _ HGA.out.m.b) (bel_up _ _).size
          have HMX : Hid (j + 1 ≤ maxLen ∧ (j + 1) * 24 ≤ 140737488355328) := by have h7 := HDM.out; have h8 := HJN.out; show _ ∧ _; unfold maxLen; exact ⟨by omega, by omega⟩
          have HF3 : Hid (wrap64 ((d : Int) + (j : Int)) = (dj : Int)) := by show _ = _; unfold wrap64; have := HDM.out; have := HDJ.out; have := HJN.out; omega
          have HWJ : Hid (IntKind.i64.wrap ((j : Int) + 1) = ((j + 1 : Nat) : Int)) := w64n j (by have := HDM.out; have := HJN.out; omega)
          clear hj hdj hlt hv7 htv hxx htl hen hc2
          have f3 := HF3.out
          go_upto_region 35 with (at_builtin; refine wpList_append_own_at _ rfl _ _ 68 rfl B 22 iS _ 1 24 Try.underlying68 hiS hz0 hz1 hz2 rfl (by decide) _ _ _ rfl HROW.out ⟨wr.heap.size, 0, none⟩ 1 1 [Value.slice ta tl tc] rfl rfl (cell_one_new _ _ _) (by simp [Value.oneCell']) HMX.out.1 HMX.out.2 HSA.out ?_; intro v5 W8 ho8 hg8 _ _; obtain ⟨b5, d5, rfl⟩ := row_shape ho8; have RO8 : Hid (W8.ownsRow B 22 1 (.slice b5 (j + 1) d5) (j + 1) (((S.drop d).take j).map (fun x => x.2.1) ++ [Value.slice ta tl tc])) := ho8; have RG8 : Hid ((wr.alloc (.cells #[.slice ta tl tc] 22)).grownBy W8 (Value.ownBlock (.slice ka j kc))) := hg8; clear ho8 hg8)
          have HMs8 : Hid (Ms Te J B lb W1 W8 (.slice (some ⟨g7, 0, none⟩) m7 c7) (.slice a8 m8 c8) S tk p i) := ⟨HGA.out.m.m.keep HGA.out.k (by decide) (by decide) RG8.out, bel_app HGA.out.m.b (HBS.out _ HGA.out.m.b) HGA.out.k RG8.out, HGA.out.m.j, HGA.out.m.q⟩
          have HO8 : Hid (W8.heap[ob]? = some (.cells #[.int .i64 (q : Int), .int .i64 pad, .int .i64 len] 104 (0, 0))) := blk_grow HGA.out.o HGA.out.k (by decide) RG8.out
          have HE8 : Hid (W8.ownsRow B 3 1 (.slice ea (j + 1) ec) (j + 1) (iC (lst ((S.take d).map ep) :: ((S.drop d).take j).map (fun x => x.2.2.2)))) := (HGA.out.e.alloc _).kept RG8.out (tag_ne HGA.out.e HGA.out.k (by decide))
          have HK8 : Hid (W8.ownsRow B 22 1 (.slice b5 (j + 1) d5) (j + 1) (((S.drop d).take (j + 1)).map (fun x => x.2.1))) := by rw [HSD.out, List.map_append, List.map_singleton, HTV.out]; exact RO8.out
          clear hc1 HROW HSA HMX HC2 f3
          have hlt : dj < S.length := by rw [HM7.out]; exact f2
          have hc2 := row_at HMs8.out.m.s (dj * 3 + 2) _ (mf_get S dj hlt).2.1
          have HXX : Hid ((S.getD dj end_).2.2.2 = en) := by show _ = _; rw [HXX0.out]; exact HEN.out
          rw [HXX.out] at hc2
          clear hlt HXX
          have HROW : Hid ((W8.alloc (.cells #[.int .i64 en] 3)).ownsRow B 3 1 (.slice ea (j + 1) ec) (j + 1) (iC (lst ((S.take d).map ep) :: ((S.drop d).take j).map (fun x => x.2.2.2)))) := HE8.out.alloc _
          have HSA : Hid (B ≤ (W8.alloc (.cells #[.int .i64 en] 3)).heap.size) := Nat.le_trans (HBS.out _ HMs8.out.b) (bel_up _ _).size
          have HMX : Hid (j + 1 + 1 ≤ maxLen ∧ (j + 1 + 1) * 8 ≤ 140737488355328) := by have h7 := HDM.out; have h8 := HJN.out; show _ ∧ _; unfold maxLen; exact ⟨by omega, by omega⟩
          have f3 := HF3.out
          have hwj := HWJ.out
          go_wp2_with (at_builtin; refine wpList_append_own_at _ rfl _ _ 23 rfl B 3 i3 _ 1 8 Try.underlying23 hi3 ht0 ht1 ht2 rfl (by decide) _ _ _ rfl HROW.out ⟨W8.heap.size, 0, none⟩ 1 1 [Value.int .i64 en] rfl rfl (cell_one_new _ _ _) (by simp [Value.oneCell']) HMX.out.1 HMX.out.2 HSA.out ?_; intro v6 W9 ho9 hg9 _ _; obtain ⟨b6, d6, rfl⟩ := row_shape ho9; have RO9 : Hid (W9.ownsRow B 3 1 (.slice b6 (j + 1 + 1) d6) (j + 1 + 1) (iC (lst ((S.take d).map ep) :: ((S.drop d).take j).map (fun x => x.2.2.2)) ++ [Value.int .i64 en])) := ho9; have RG9 : Hid ((W8.alloc (.cells #[.int .i64 en] 3)).grownBy W9 (Value.ownBlock (.slice ea (j + 1) ec))) := hg9; clear ho9 hg9)
          have HMs9 : Hid (Ms Te J B lb W1 W9 (.slice (some ⟨g7, 0, none⟩) m7 c7) (.slice a8 m8 c8) S tk p i) := ⟨HMs8.out.m.keep HE8.out (by decide) (by decide) RG9.out, bel_app HMs8.out.b (HBS.out _ HMs8.out.b) HE8.out RG9.out, HMs8.out.j, HMs8.out.q⟩
          have HO9 : Hid (W9.heap[ob]? = some (.cells #[.int .i64 (q : Int), .int .i64 pad, .int .i64 len] 104 (0, 0))) := blk_grow HO8.out HE8.out (by decide) RG9.out
          have HK9 : Hid (W9.ownsRow B 22 1 (.slice b5 (j + 1) d5) (j + 1) (((S.drop d).take (j + 1)).map (fun x => x.2.1))) := (HK8.out.alloc _).kept RG9.out (tag_ne HK8.out HE8.out (by decide))
          have HE9 : Hid (W9.ownsRow B 3 1 (.slice b6 (j + 1 + 1) d6) (j + 1 + 1) (iC (lst ((S.take d).map ep) :: ((S.drop d).take (j + 1)).map (fun x => x.2.2.2)))) := by rw [HSD.out, List.map_append, List.map_singleton, HEN.out, ← List.cons_append, iC_app]; exact RO9.out
          clear f3 hwj
          go_roundg (nr - (j + 1))
          case measure => have := HI.out.1; have := HJN.out; omega
          case rel => exact ⟨j + 1, by first | rfl | (rw [show (j : Int) + 1 = ((j + 1 : Nat) : Int) by omega]), ⟨rfl, HJN.out⟩, ⟨HMs9.out, HO9.out, HK9.out, HE9.out⟩⟩
        · have g1 : ¬ (j : Int) < (nr : Int) := by omega
          have g2 : ¬ j < nr := hj
          obtain rfl : j = nr := by have := HI.out; omega
          clear hj g1 g2
          go_wp2_with fail
          go_meet
          exact ⟨ea, ec, ka, kc, rfl, rfl, HGA⟩
    case rest =>
      obtain ⟨ea, ec, ka, kc, rfl, rfl, HGA⟩ := hcut
      refine next_k (by assumption) ?_
      have hKf : wc.ownsRow B 22 1 (.slice ka nr kc) nr ((S.drop d).map (fun x => x.2.1)) := by have h7 := HGA.out.k; rw [List.take_of_length_le (by rw [List.length_drop]; have := HD.out; have := HM7.out; omega)] at h7; exact h7
      have hEf : wc.ownsRow B 3 1 (.slice ea (nr + 1) ec) (nr + 1) (iC (lst ((S.take d).map ep) :: (S.drop d).map (fun x => x.2.2.2))) := by have h7 := HGA.out.e; rw [List.take_of_length_le (i := nr) (by rw [List.length_drop]; have := HD.out; have := HM7.out; omega)] at h7; exact h7
      exact prod_end HG.out HJ.out HN0.out HBA.out HLX.out HBS.out HGS.out HRI.out HWB.out HN2.out HGA.out.m HM7.out HM8.out HIM.out HGA.out.o HQ2.out HP.out HNR.out HL0.out HD.out HFT.out rfl hKf hEf _ _ _ _ _ _ _ _ _ _ _ _ _ _ _ _ _ _ _ _ _ _ _ _ _ _ _ _ _ _ _ _ _ _ _ _ _ _ _ _ _ _ _ _ _ _ _ _ _ _ _ _ _ _ _ _ _ _ _ _ _ _ _ _ _ _ _ _ _ _ _ _ _ _ _ _ _ _ _ _ _ _ _ _ _ _ _ _ _ _ _ _ _ _ _ _ _ _ _ _ _ _ _ _ _ _ _ _ _ _ _ _ _ _ _ _ _ _ _ _ _ _ _ _ _ _ _ _ _ _ _ _ _ _ _ _ _ _ _ _ _ _ _ _ _ _ _ _ _ _ _ _ _ _ _ _ _ _ _ _ _ _ _ _ _ _ _ _ _ _ _ _ _ _ _ _ _ _ _ _ _ _ _ _ _ _ _ _ _ _ _ _ _ _ _ _ _ _ _ _ _ _ _ _ _ _ _ _ _ _ _ _ _ _ _ _ _ _ _ _ _ _ _ _ _ _ _ _ HQ.out
end Go.Proofs.Ytcfmpmhdjkchjaa
