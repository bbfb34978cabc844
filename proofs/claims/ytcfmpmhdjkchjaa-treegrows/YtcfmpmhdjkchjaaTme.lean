import Derived.Test.YtcfmpmhdjkchjaaTmd
namespace Go.Proofs.Ytcfmpmhdjkchjaa
open Go.RowKit Go.Maps

theorem cell_grow {W W' : World} {row : Option Nat} {a : Addr} {v : Value} (h : W.cell? a = some v) (hg : W.grownBy W' row) (hne : row ≠ some a.block) : W'.cell? a = some v := by
  have e := hg.block a.block (cell_lt h) (fun e => hne e.symm)
  unfold World.cell? at h ⊢
  rw [e]; exact h
theorem Rw.pre {W : World} {a : Option Addr} {n m cap : Nat} {xs ys : List Value} (h : Rw W (.slice a n cap) n (xs ++ ys)) (hm : m ≤ n) : Rw W (.slice a m cap) m xs := by
  obtain ⟨a', g, o, cap', e, hn, h0, h1, hc⟩ := h
  obtain ⟨rfl, -, rfl⟩ := Value.slice.inj e
  refine ⟨a, g, o, cap, rfl, by omega, fun h => ?_, fun h => h1 (by omega), fun j u hu => hc j u ?_⟩
  · have := h0 h; omega
  · rw [List.getElem?_append_left (List.getElem?_eq_some_iff.1 hu).1]; exact hu
theorem flat_len3 (l : List En) : (flat mf l).length = l.length * 3 := by
  induction l with
  | nil => rfl
  | cons x l ih =>
    show (mf x ++ flat mf l).length = _
    rw [List.length_append, ih, mf_len, List.length_cons]; omega
theorem mf_one (l : List En) (h : ∀ x ∈ l, x.2.1.oneCell' = true) : ∀ u ∈ flat mf l, u.oneCell' = true := by
  induction l with
  | nil => intro u hu; cases hu
  | cons x l ih =>
    intro u hu
    have hu' : u ∈ mf x ++ flat mf l := hu
    rcases List.mem_append.1 hu' with e | e
    · simp only [mf, List.mem_cons, List.not_mem_nil, or_false] at e
      rcases e with rfl | rfl | rfl
      · rfl
      · exact h x (by simp)
      · rfl
    · exact ih (fun y hy => h y (List.mem_cons_of_mem _ hy)) u e
theorem Mst.one {B : Nat} {W : World} {v7 v8 : Value} {S : List En} {tk : List Nd} (h : Mst B W v7 v8 S tk) : ∀ x ∈ S, x.2.1.oneCell' = true := fun x hx => by
  obtain ⟨a, cap, e⟩ := row_shape (h.e x hx).1
  rw [e]; rfl
theorem Mst.copy {B : Nat} {W W' : World} {v7 v7' v8 : Value} {S : List En} {tk : List Nd} {d : Nat} (h : Mst B W v7 v8 S tk) (hg : W.grownBy W' none) (hs : W'.ownsRow B 61 3 v7' (S.take d).length (flat mf (S.take d))) : Mst B W' v7' v8 (S.take d) tk := by
  have hk : ∀ v : Value, v.ownBlock = none ∨ v.ownBlock ≠ none := fun v => by cases v.ownBlock <;> simp
  exact ⟨hs, h.t.kept hg (hk _), fun x hx => ⟨(h.e x (List.mem_of_mem_take hx)).1.kept hg (hk _), (h.e x (List.mem_of_mem_take hx)).2⟩⟩
/-- The lists of nodes that a production takes off the stack, in memory. -/
theorem Mst.kids {B : Nat} {W : World} {v7 v8 vk : Value} {S : List En} {tk : List Nd} {d nr : Nat} (h : Mst B W v7 v8 S tk) (hn : d + nr = S.length) (hk : W.ownsRow B 22 1 vk nr ((S.drop d).map (fun x => x.2.1))) : Kr W vk ((S.drop d).map (fun x => (x.2.1, x.2.2.1))) := by
  have hl : (S.drop d).length = nr := by rw [List.length_drop]; omega
  refine ⟨?_, fun y hy => ?_⟩
  · have := row_rw hk (by decide)
    rw [List.length_map, hl, List.map_map]
    exact this
  · obtain ⟨x, hx, rfl⟩ := List.mem_map.1 hy
    exact row_rw (h.e x (List.mem_of_mem_drop hx)).1 (by decide)
theorem step_append {P : Program} {o : Oper} {ops : Array Oper} {a : Act} {w : World} {K : Act → World → Prop} {Q : Exit → Act → World → Prop} {E : Prop} (hg : o.guard = none) (s x : Operand) (t : TypeId) (hop : o.op = Op.call { callee := Callee.builtin Builtin.append, args := #[s, x], argTypes := #[t, t] }) (sv xv v : Value) (w' : World) (hs : a.eval s = sv) (hx : a.eval x = xv) (hrun : (Builtin.append_ #[t, t] o.type #[sv, xv]).run P w = .ok v w')
    (hK : K (a.put o.dst v) w') : if Region.wanted o (yielded ops a.tmps) = true then Oper.wp P o a w K Q else E := by
  have hw : Region.wanted o (yielded ops a.tmps) = true := by simp [Region.wanted, hg]
  rw [if_pos hw]
  unfold Oper.wp
  simp [execOp, hop, resolve, invoke, builtin, hs, hx, hrun, Result.andThen]
  exact hK
set_option maxRecDepth 1000000 in
set_option maxHeartbeats 32000000 in
theorem prod_end {Te : List Td} {Sy : List Sd} {P : List Pd} {J : List Ep → List Nd → Nat → Prop} {u : Nat → Value} {w W1 : World} {a0 a1 a2 : Option Addr} {n0 c0 n1 c1 n2 c2 lb B : Nat} {W5 : World} {pad len : Int} {a7 a8 ra ka ea : Option Addr} {m7 c7 m8 c8 p i ob q d nr rc ne ec kc : Nat} {lhs : Int} {rs : List Rf} {S : List En} {tk : List Nd} {Q : Exit → Act → World → Prop} (hG : Gx w (.slice a0 n0 c0) (.slice a1 n1 c1) (.slice a2 n2 c2) Te Sy P) (hJ : Kp Te Sy P J) (hN0 : Te.length = n0) (hBA : ∀ W, Below B W1 W → Below w.heap.size w W) (hLX : ∀ W, Below B W1 W → W.heap[lb]? = some (.cells #[u 0, u 1, .slice a0 n0 c0, .slice a1 n1 c1, .slice a2 n2 c2, u 5, u 6, u 7, u 8, u 9, u 10, u 11] 52 (0, 0))) (hBS : ∀ W, Below B W1 W → B ≤ W.heap.size) (hGS : Gs Te Sy P) (hRI : ∀ x ∈ P, ∀ r ∈ x.2.2, r.1 ≤ 9223372036854775807) (hwB : w.heap.size ≤ B) (hN2 : P.length = n2)
    (hM5 : Ms Te J B lb W1 W5 (.slice a7 m7 c7) (.slice a8 m8 c8) S tk p i) (hM7 : S.length = m7) (hM8 : tk.length = m8) (hi : i < 65536) (hO5 : W5.heap[ob]? = some (.cells #[.int .i64 (q : Int), .int .i64 pad, .int .i64 len] 104 (0, 0))) (hq : q < n2) (hP : P.getD q pfd = (lhs, .slice ra nr rc, rs)) (hnr : rs.length = nr) (hl0 : 0 ≤ lhs) (hd : d + nr = m7) (hfit : (S.drop d).map (fun x => x.1) = rs.map (fun x => x.1)) (hne : nr + 1 = ne) (hK : W5.ownsRow B 22 1 (.slice ka nr kc) nr ((S.drop d).map (fun x => x.2.1))) (hE : W5.ownsRow B 3 1 (.slice ea ne ec) ne (iC (lst ((S.take d).map ep) :: (S.drop d).map (fun x => x.2.2.2))))
    (x0 x1 x3 x4 x5 x6 x10 x12 x13 x14 x17 x18 x21 x22 x23 x24 x25 x26 x27 x28 x29 x30 x31 x32 x33 x34 x35 x36 x37 x38 x39 x40 x41 x42 x43 x44 x45 x46 x47 x48 x49 x50 x51 x52 x53 x54 x55 x56 x57 x58 x59 x60 x61 x62 x63 x64 x65 x66 x67 x68 x69 x70 x71 x72 x73 x74 x75 x76 x77 x78 x79 x80 x81 x82 x83 x84 x85 x86 x87 x88 x89 x90 x91 x92 x93 x94 x95 x96 x97 x98 x99 x100 x101 x102 x103 x104 x105 x106 x107 x108 x109 x110 x111 x112 x113 x114 x115 x116 x117 x118 x119 x120 x121 x122 x123 x124 x125 x126 x127 x128 x129 x130 x131 x132 x133 x134 x135 x136 x137 x138 x139 x140 x141 x142 x143 x144 x145 x146 x147 x148 x149 x150 x151 x152 x153 x154 x155 x156 x157 x158 x159 x160 x161 x162 x163 x164 x165 x166 x167 x168 x169 x170 x171 x172 x173 x174 x175 x176 x177 x178 x179 x180 x181 x182 x183 x184 x185 x186 x187 x188 x189 x190 x191 x192 x193 x194 x195 x196 x197 x198 x199 x200 x201 x202 x203 x204 x205 x206 x207 x208 x209 x210 x211 x212 x213 x214 x215 x216 x217 x218 x219 x220 x221 x222 x223 x224 x225 x226 x227 x228 x229 x230 x231 x232 x233 x234 x235 x236 : Value) (hQ : ∀ (v7 v8 v9 y11 y12 y13 y14 y15 y16 y17 y18 y19 y20 y21 y22 y23 y24 y25 y26 y27 y28 y29 y30 y31 y32 y33 y34 y35 y36 y37 y38 y39 y40 y41 y42 y43 y44 y45 y46 y47 y48 y49 y50 y51 y52 y53 y54 y55 y56 y57 y58 y59 y60 y61 y62 y63 y64 y65 y66 y67 y68 y69 y70 y71 y72 y73 y74 y75 y76 y77 y78 y79 y80 y81 y82 y83 y84 y85 y86 y87 y88 y89 y90 y91 y92 y93 y94 y95 y96 y97 y98 y99 y100 y101 y102 y103 y104 y105 y106 y107 y108 y109 y110 y111 y112 y113 y114 y115 y116 y117 y118 y119 y120 y121 y122 y123 y124 y125 y126 y127 y128 y129 y130 y131 y132 y133 y134 y135 y136 y137 y138 y139 y140 y141 y142 y143 y144 y145 y146 y147 y148 y149 y150 y151 y152 y153 y154 y155 y156 y157 y158 y159 y160 y161 y162 y163 y164 y165 y166 y167 y168 y169 y170 y171 y172 y173 y174 y175 y176 y177 y178 y179 y180 y181 y182 y183 y184 y185 y186 y187 y188 y189 y190 y191 y192 y193 y194 y195 y196 y197 y198 y199 y200 y201 y202 y203 y204 y205 y206 y207 y208 y209 y210 y211 y212 y213 y214 y215 y216 y217 y218 y219 y220 y221 y222 y223 y224 y225 y226 y227 y228 y229 y230 y231 y232 y233 y234 : Value) (W : World), Nx Te J B lb W1 (i + 1) v7 v8 v9 W → Q (.normal) ⟨#[x0, x1, .pointer (some ⟨lb, 0, none⟩), x3, x4, x5, x6, v7, v8, v9, x10, y11, y12, y13, y14, y15, y16, y17, y18, y19, y20, y21, y22, y23, y24, y25, y26, y27, y28, y29, y30, y31, y32, y33, y34, y35, y36, y37, y38, y39, y40, y41, y42, y43, y44, y45, y46, y47, y48, y49, y50, y51, y52, y53, y54, y55, y56, y57, y58, y59, y60, y61, y62, y63, y64, y65, y66, y67, y68, y69, y70, y71, y72, y73, y74, y75, y76, y77, y78, y79, y80, y81, y82, y83, y84, y85, y86, y87, y88, y89, y90, y91, y92, y93, y94, y95, y96, y97, y98, y99, y100, y101, y102, y103, y104, y105, y106, y107, y108, y109, y110, y111, y112, y113, y114, y115, y116, y117, y118, y119, y120, y121, y122, y123, y124, y125, y126, y127, y128, y129, y130, y131, y132, y133, y134, y135, y136, y137, y138, y139, y140, y141, y142, y143, y144, y145, y146, y147, y148, y149, y150, y151, y152, y153, y154, y155, y156, y157, y158, y159, y160, y161, y162, y163, y164, y165, y166, y167, y168, y169, y170, y171, y172, y173, y174, y175, y176, y177, y178, y179, y180, y181, y182, y183, y184, y185, y186, y187, y188, y189, y190, y191, y192, y193, y194, y195, y196, y197, y198, y199, y200, y201, y202, y203, y204, y205, y206, y207, y208, y209, y210, y211, y212, y213, y214, y215, y216, y217, y218, y219, y220, y221, y222, y223, y224, y225, y226, y227, y228, y229, y230, y231, y232, y233, y234, x235, x236], []⟩ W) :
    Code.wp Try.prog cP4 Q ⟨#[x0, x1, .pointer (some ⟨lb, 0, none⟩), x3, x4, x5, x6, .slice a7 m7 c7, .slice a8 m8 c8, .int .i64 (p : Int), x10, .pointer (some ⟨ob, 0, none⟩), x12, x13, x14, .slice ra nr rc, .int .i64 (d : Int), x17, x18, .slice ea ne ec, .slice ka nr kc, x21, x22, x23, x24, x25, x26, x27, x28, x29, x30, x31, x32, x33, x34, x35, x36, x37, x38, x39, x40, x41, x42, x43, x44, x45, x46, x47, x48, x49, x50, x51, x52, x53, x54, x55, x56, x57, x58, x59, x60, x61, x62, x63, x64, x65, x66, x67, x68, x69, x70, x71, x72, x73, x74, x75, x76, x77, x78, x79, x80, x81, x82, x83, x84, x85, x86, x87, x88, x89, x90, x91, x92, x93, x94, x95, x96, x97, x98, x99, x100, x101, x102, x103, x104, x105, x106, x107, x108, x109, x110, x111, x112, x113, x114, x115, x116, x117, x118, x119, x120, x121, x122, x123, x124, x125, x126, x127, x128, x129, x130, x131, x132, x133, x134, x135, x136, x137, x138, x139, x140, x141, x142, x143, x144, x145, x146, x147, x148, x149, x150, x151, x152, x153, x154, x155, x156, x157, x158, x159, x160, x161, x162, x163, x164, x165, x166, x167, x168, x169, x170, x171, x172, x173, x174, x175, x176, x177, x178, x179, x180, x181, x182, x183, x184, x185, x186, x187, x188, x189, x190, x191, x192, x193, x194, x195, x196, x197, x198, x199, x200, x201, x202, x203, x204, x205, x206, x207, x208, x209, x210, x211, x212, x213, x214, x215, x216, x217, x218, x219, x220, x221, x222, x223, x224, x225, x226, x227, x228, x229, x230, x231, x232, x233, x234, x235, x236], []⟩ W5 := by
  obtain ⟨iM, hiM, hy0, hy1, hy2⟩ := info_parts infoMd
  have HG : Hid (Gx w (.slice a0 n0 c0) (.slice a1 n1 c1) (.slice a2 n2 c2) Te Sy P) := hG
  have HJ : Hid (Kp Te Sy P J) := hJ
  have HN0 : Hid (Te.length = n0) := hN0
  have HBA : Hid (∀ W, Below B W1 W → Below w.heap.size w W) := hBA
  have HLX : Hid (∀ W, Below B W1 W → W.heap[lb]? = some (.cells #[u 0, u 1, .slice a0 n0 c0, .slice a1 n1 c1, .slice a2 n2 c2, u 5, u 6, u 7, u 8, u 9, u 10, u 11] 52 (0, 0))) := hLX
  have HBS : Hid (∀ W, Below B W1 W → B ≤ W.heap.size) := hBS
  have HGS : Hid (Gs Te Sy P) := hGS
  have HRI : Hid (∀ x ∈ P, ∀ r ∈ x.2.2, r.1 ≤ 9223372036854775807) := hRI
  have HWB : Hid (w.heap.size ≤ B) := hwB
  have HN2 : Hid (P.length = n2) := hN2
  have HM5 : Hid (Ms Te J B lb W1 W5 (.slice a7 m7 c7) (.slice a8 m8 c8) S tk p i) := hM5
  have HM7 : Hid (S.length = m7) := hM7
  have HM8 : Hid (tk.length = m8) := hM8
  have HIM : Hid (i < 65536) := hi
  have HO5 : Hid (W5.heap[ob]? = some (.cells #[.int .i64 (q : Int), .int .i64 pad, .int .i64 len] 104 (0, 0))) := hO5
  have HQ2 : Hid (q < n2) := hq
  have HP : Hid (P.getD q pfd = (lhs, .slice ra nr rc, rs)) := hP
  have HNR : Hid (rs.length = nr) := hnr
  have HL0 : Hid (0 ≤ lhs) := hl0
  have HD : Hid (d + nr = m7) := hd
  have HFT : Hid ((S.drop d).map (fun x => x.1) = rs.map (fun x => x.1)) := hfit
  have HNE1 : Hid (nr + 1 = ne) := hne
  have HKK : Hid (W5.ownsRow B 22 1 (.slice ka nr kc) nr ((S.drop d).map (fun x => x.2.1))) := hK
  have HEE : Hid (W5.ownsRow B 3 1 (.slice ea ne ec) ne (iC (lst ((S.take d).map ep) :: (S.drop d).map (fun x => x.2.2.2)))) := hE
  have HQ : Hid (∀ (v7 v8 v9 y11 y12 y13 y14 y15 y16 y17 y18 y19 y20 y21 y22 y23 y24 y25 y26 y27 y28 y29 y30 y31 y32 y33 y34 y35 y36 y37 y38 y39 y40 y41 y42 y43 y44 y45 y46 y47 y48 y49 y50 y51 y52 y53 y54 y55 y56 y57 y58 y59 y60 y61 y62 y63 y64 y65 y66 y67 y68 y69 y70 y71 y72 y73 y74 y75 y76 y77 y78 y79 y80 y81 y82 y83 y84 y85 y86 y87 y88 y89 y90 y91 y92 y93 y94 y95 y96 y97 y98 y99 y100 y101 y102 y103 y104 y105 y106 y107 y108 y109 y110 y111 y112 y113 y114 y115 y116 y117 y118 y119 y120 y121 y122 y123 y124 y125 y126 y127 y128 y129 y130 y131 y132 y133 y134 y135 y136 y137 y138 y139 y140 y141 y142 y143 y144 y145 y146 y147 y148 y149 y150 y151 y152 y153 y154 y155 y156 y157 y158 y159 y160 y161 y162 y163 y164 y165 y166 y167 y168 y169 y170 y171 y172 y173 y174 y175 y176 y177 y178 y179 y180 y181 y182 y183 y184 y185 y186 y187 y188 y189 y190 y191 y192 y193 y194 y195 y196 y197 y198 y199 y200 y201 y202 y203 y204 y205 y206 y207 y208 y209 y210 y211 y212 y213 y214 y215 y216 y217 y218 y219 y220 y221 y222 y223 y224 y225 y226 y227 y228 y229 y230 y231 y232 y233 y234 : Value) (W : World), Nx Te J B lb W1 (i + 1) v7 v8 v9 W → Q (.normal) ⟨#[x0, x1, .pointer (some ⟨lb, 0, none⟩), x3, x4, x5, x6, v7, v8, v9, x10, y11, y12, y13, y14, y15, y16, y17, y18, y19, y20, y21, y22, y23, y24, y25, y26, y27, y28, y29, y30, y31, y32, y33, y34, y35, y36, y37, y38, y39, y40, y41, y42, y43, y44, y45, y46, y47, y48, y49, y50, y51, y52, y53, y54, y55, y56, y57, y58, y59, y60, y61, y62, y63, y64, y65, y66, y67, y68, y69, y70, y71, y72, y73, y74, y75, y76, y77, y78, y79, y80, y81, y82, y83, y84, y85, y86, y87, y88, y89, y90, y91, y92, y93, y94, y95, y96, y97, y98, y99, y100, y101, y102, y103, y104, y105, y106, y107, y108, y109, y110, y111, y112, y113, y114, y115, y116, y117, y118, y119, y120, y121, y122, y123, y124, y125, y126, y127, y128, y129, y130, y131, y132, y133, y134, y135, y136, y137, y138, y139, y140, y141, y142, y143, y144, y145, y146, y147, y148, y149, y150, y151, y152, y153, y154, y155, y156, y157, y158, y159, y160, y161, y162, y163, y164, y165, y166, y167, y168, y169, y170, y171, y172, y173, y174, y175, y176, y177, y178, y179, y180, y181, y182, y183, y184, y185, y186, y187, y188, y189, y190, y191, y192, y193, y194, y195, y196, y197, y198, y199, y200, y201, y202, y203, y204, y205, y206, y207, y208, y209, y210, y211, y212, y213, y214, y215, y216, y217, y218, y219, y220, y221, y222, y223, y224, y225, y226, y227, y228, y229, y230, y231, y232, y233, y234, x235, x236], []⟩ W) := hQ
  clear hG hJ hN0 hBA hLX hBS hGS hRI hwB hN2 hM5 hM7 hM8 hi hO5 hq hP hnr hl0 hd hfit hne hK hE hQ
  have HLX2 : Hid (W5.heap[lb]? = some (.cells #[u 0, u 1, .slice a0 n0 c0, .slice a1 n1 c1, .slice a2 n2 c2, u 5, u 6, u 7, u 8, u 9, u 10, u 11] 52 (0, 0))) := HLX.out _ HM5.out.b
  have hKr := HM5.out.m.kids (d := d) (nr := nr) (by rw [HM7.out]; exact HD.out) HKK.out
  have HLE : Hid ((lst ((S.take d).map ep) :: (S.drop d).map (fun x => x.2.2.2)).length = ne) := by show _ = _; rw [List.length_cons, List.length_map, List.length_drop]; have := HD.out; have := HM7.out; have := HNE1.out; omega
  have hIs : Is W5 (.slice ea ne ec) (lst ((S.take d).map ep) :: (S.drop d).map (fun x => x.2.2.2)) := by
    show Rw _ _ _ _
    rw [HLE.out]; exact row_rw HEE.out (by decide)
  have e1 : ((S.drop d).map (fun x => (x.2.1, x.2.2.1))).map Prod.snd = ((S.drop d).map ep).map (fun x => x.2.1) := by rw [List.map_map, List.map_map]; rfl
  have e2 : S.map ep = (S.take d).map ep ++ (S.drop d).map ep := by rw [← List.map_append, List.take_append_drop]
  have hph : phi ((S.take d).map ep) + phi ((S.drop d).map ep) ≤ 2 * i := by have := HM5.out.q.2.2.1; rw [e2, phi_app] at this; exact this
  have h0 := reduce_any u (q : Int) W5 (HG.out.up (HBA.out _ HM5.out.b)) HGS.out HRI.out hKr hIs (by rw [e1, phi_rom]; have := HIM.out; omega)
  have hJ2 := HJ.out.red ((S.take d).map ep) ((S.drop d).map ep) tk p q (by rw [← e2]; exact HM5.out.j) (by rw [HN2.out]; exact HQ2.out) (by rw [HP.out]; exact HL0.out) (by rw [HP.out, List.map_map]; exact HFT.out)
  rw [e1] at h0
  have e3 : ((S.drop d).map ep).map (fun x => x.2.2) = (S.drop d).map (fun x => x.2.2.2) := by rw [List.map_map]; rfl
  have e4 : ((S.drop d).map ep).length = nr := by rw [List.length_map, List.length_drop]; have := HD.out; have := HM7.out; omega
  rw [e3, e4, HP.out, HN0.out] at hJ2
  have hXl := rdc_len Te Sy P (q : Int) (((S.drop d).map ep).map (fun x => x.2.1)) (lst ((S.take d).map ep) :: (S.drop d).map (fun x => x.2.2.2))
  rw [phi_rom] at hXl
  obtain ⟨X, hX⟩ : ∃ X, rdc Te Sy P (q : Int) (((S.drop d).map ep).map (fun x => x.2.1)) (lst ((S.take d).map ep) :: (S.drop d).map (fun x => x.2.2.2)) = X := ⟨_, rfl⟩
  obtain ⟨en, hen⟩ : ∃ en, (lst ((S.take d).map ep) :: (S.drop d).map (fun x => x.2.2.2)).getD nr 0 = en := ⟨_, rfl⟩
  rw [hX] at h0 hJ2 hXl
  rw [hen] at hJ2
  dsimp only at hJ2
  obtain ⟨zz, hzz⟩ : ∃ zz, IntKind.i64.wrap (lhs + (n0 : Int)) = zz := ⟨_, rfl⟩
  rw [hzz] at hJ2
  have HJ2 : Hid (J ((S.take d).map ep ++ [(zz, X, en)]) tk p) := hJ2
  have HRE : Hid (Calls Try.prog 47 #[.agg #[u 0, u 1, .slice a0 n0 c0, .slice a1 n1 c1, .slice a2 n2 c2, u 5, u 6, u 7, u 8, u 9, u 10, u 11], .int .i64 (q : Int), .slice ka nr kc, .slice ea ne ec] W5 fun e w' => ∃ v', e = .returned v' ∧ w'.ownsRow W5.heap.size 33 7 v' X.length (flat nf X) ∧ Below W5.heap.size W5 w') := h0
  have HQN : Hid (p ≤ (i + 1) * 2097152 ∧ i + 1 ≤ 65536 ∧ phi ((S.take d).map ep) + (X.length + 1) ≤ 2 * (i + 1) ∧ tk.length ≤ i + 1) := by
    have h7 := HM5.out.q
    have h8 := HIM.out
    show _ ∧ _ ∧ _ ∧ _
    refine ⟨by omega, by omega, by omega, by omega⟩
  have hqP : q < P.length := by rw [HN2.out]; exact HQ2.out
  obtain ⟨pg, po, rfl, p0, _⟩ := HG.out.prod q hqP
  rw [HP.out] at p0
  dsimp only at p0
  have HP0 : Hid (w.cell? ⟨pg, po + q * 2, none⟩ = some (.int .i64 lhs)) := p0
  obtain ⟨ge, ce, hve, hgB, _⟩ := row_form HEE.out (by have := HNE1.out; omega)
  obtain ⟨rfl, -, rfl⟩ := Value.slice.inj hve
  have hEn := row_at HEE.out nr (.int .i64 en) (by rw [← hen]; exact iC_get _ nr (by rw [HLE.out]; have := HNE1.out; omega))
  have HEn : Hid (W5.cell? ⟨ge, nr, none⟩ = some (.int .i64 en)) := hEn
  have HZZ : Hid (IntKind.i64.wrap (lhs + (n0 : Int)) = zz) := hzz
  clear hKr hIs e1 e2 hph h0 hJ2 e3 e4 hXl hX hen hzz hqP p0 hve hgB hEn
  have t0 := rcell HLX2.out 0 _ rfl
  have t1 := rcell HLX2.out 1 _ rfl
  have t2 := rcell HLX2.out 2 _ rfl
  have t3 := rcell HLX2.out 3 _ rfl
  have t4 := rcell HLX2.out 4 _ rfl
  have t5 := rcell HLX2.out 5 _ rfl
  have t6 := rcell HLX2.out 6 _ rfl
  have t7 := rcell HLX2.out 7 _ rfl
  have t8 := rcell HLX2.out 8 _ rfl
  have t9 := rcell HLX2.out 9 _ rfl
  have t10 := rcell HLX2.out 10 _ rfl
  have t11 := rcell HLX2.out 11 _ rfl
  have o0 := rcell HO5.out 0 _ rfl
  conv => arg 2; whnf
  go_upto_region 37 with (go_at_call 47; refine Calls.mono HRE.out ?_; rintro ee W6 ⟨v22, rfl, ho6, hb6⟩; have HX6 : Hid (W6.ownsRow W5.heap.size 33 7 v22 X.length (flat nf X)) := ho6; have HB6 : Hid (Below W5.heap.size W5 W6) := hb6; clear ho6 hb6; dsimp only)
  clear t0 t1 t2 t3 t4 t5 t6 t7 t8 t9 t10 t11 o0
  obtain ⟨xa, xc, hv22⟩ := row_shape HX6.out
  subst hv22
  have HM6 : Hid (Mst B W6 (.slice a7 m7 c7) (.slice a8 m8 c8) S tk) := HM5.out.m.up HB6.out
  have HBW6 : Hid (Below B W1 W6) := HM5.out.b.trans (HB6.out.mono (HBS.out _ HM5.out.b))
  have HXN : Hid (Value.ownBlock (.slice xa X.length xc) = none ∨ Value.ownBlock (.slice xa X.length xc) ≠ Value.ownBlock (.slice a8 m8 c8)) := by
    cases hx : Value.ownBlock (.slice xa X.length xc) with
    | none => exact .inl rfl
    | some r =>
      refine .inr fun e => ?_
      have h7 := (row_tag HX6.out r hx).1
      have h8 := own_ltb HM5.out.m.t r e.symm
      omega
  obtain ⟨lx, hlx⟩ : ∃ lx, X.length = lx := ⟨_, rfl⟩
  have HLX9 : Hid (X.length = lx) := hlx
  rw [hlx] at HXN ⊢
  have HX6b : Hid (W6.ownsRow B 33 7 (.slice xa lx xc) X.length (flat nf X)) := by have h7 := row_base HX6.out (HBS.out _ HM5.out.b); rw [hlx] at h7; rw [hlx]; exact h7
  clear hlx HX6
  have hTK : (S.take d).length = d := by rw [List.length_take]; have := HD.out; have := HM7.out; omega
  have HTD : Hid ((S.take d).length = d) := hTK
  have HRW : Hid (Rw W6 (.slice a7 d c7) d (flat mf (S.take d))) := by
    have h7 := row_rw HM6.out.s (by decide)
    rw [HM7.out, ← List.take_append_drop d S, flat_app] at h7
    exact h7.pre (by have := HD.out; omega)
  have hcap : d ≤ c7 := by
    obtain ⟨a', g', o', cap', e', hn', _⟩ := row_rw HM6.out.s (by decide)
    obtain ⟨-, rfl, rfl⟩ := Value.slice.inj e'
    have := HD.out
    omega
  have hcapI : (d : Int) ≤ (c7 : Int) := by omega
  have HMY : Hid (d ≤ maxLen ∧ d * 40 ≤ 140737488355328) := by
    have h7 := HM5.out.q.2.2.1; have h8 := HM5.out.q.2.1; have h9 := phi_len (S.map ep); rw [List.length_map, HM7.out] at h9
    have := HD.out
    show _ ∧ _; unfold maxLen; exact ⟨by omega, by omega⟩
  have HCP : Hid ((flat mf (S.take d)).length = d * 3 ∧ ∀ u ∈ flat mf (S.take d), u.oneCell' = true) := ⟨by rw [flat_len3, hTK], mf_one _ (fun x hx => HM6.out.one x (List.mem_of_mem_take hx))⟩
  clear hTK
  go_upto_region 39 with (at_builtin; refine wpList_copy _ rfl _ _ 57 rfl B 61 iM _ 3 40 Try.underlying57 hiM hy0 hy1 hy2 rfl (by decide) _ d _ rfl rfl HRW.out HCP.out.1 HCP.out.2 HMY.out.1 HMY.out.2 (HBS.out _ HBW6.out) ?_; intro v23 W7 ho7 hg7; have HM7s : Hid (Mst B W7 v23 (.slice a8 m8 c8) (S.take d) tk) := HM6.out.copy hg7 (by rw [HTD.out]; exact ho7); have HG7 : Hid (W6.grownBy W7 none) := hg7; clear ho7 hg7)
  have HB7 : Hid (Below B W1 W7) := bel_app0 HBW6.out (HBS.out _ HBW6.out) (World.ownsRow_nil W6 B 61 3) HG7.out
  have HX7 : Hid (W7.ownsRow B 33 7 (.slice xa lx xc) X.length (flat nf X)) := HX6b.out.kept HG7.out (by cases Value.ownBlock (.slice xa lx xc) <;> simp)
  have HLX7 : Hid (W7.heap[lb]? = some (.cells #[u 0, u 1, .slice a0 n0 c0, .slice a1 n1 c1, .slice (some ⟨pg, po, none⟩) n2 c2, u 5, u 6, u 7, u 8, u 9, u 10, u 11] 52 (0, 0))) := HLX.out _ HB7.out
  have HO7 : Hid (W7.heap[ob]? = some (.cells #[.int .i64 (q : Int), .int .i64 pad, .int .i64 len] 104 (0, 0))) := by
    have h7 := (HB6.out.block ob (lt_of_heap HO5.out)).trans HO5.out
    exact (HG7.out.block ob (lt_of_heap h7) (fun e => by cases e)).trans h7
  have k1 : Hid (W7.cell? ⟨lb, 2, none⟩ = some (.slice a0 n0 c0)) := rcell HLX7.out 2 _ rfl
  have k2 : Hid (W7.cell? ⟨lb, 4, none⟩ = some (.slice (some ⟨pg, po, none⟩) n2 c2)) := rcell HLX7.out 4 _ rfl
  have k3 : Hid (W7.cell? ⟨ob, 0, none⟩ = some (.int .i64 (q : Int))) := rcell HO7.out 0 _ rfl
  have k4 : Hid (W7.cell? ⟨pg, po + q * 2, none⟩ = some (.int .i64 lhs)) := below_cell (HBA.out _ HB7.out) HP0.out
  have k5 : Hid (W7.cell? ⟨ge, nr, none⟩ = some (.int .i64 en)) := cell_grow (below_cell HB6.out HEn.out) HG7.out (fun e => by cases e)
  have HNL : Hid (v23.ownBlock ≠ some lb) := tag_ne_blk HM7s.out.s HLX7.out (by decide)
  have HNO : Hid (v23.ownBlock ≠ some ob) := tag_ne_blk HM7s.out.s HO7.out (by decide)
  have HNP : Hid (v23.ownBlock ≠ some pg) := fun e => by
    have h7 := (row_tag HM7s.out.s pg e).1
    have h8 := cell_lt HP0.out
    have h9 := HWB.out
    dsimp only at h8
    omega
  have HNE : Hid (v23.ownBlock ≠ some ge) := fun e => by
    have h7 := (row_up HEE.out HB6.out).kept HG7.out (by cases Value.ownBlock (.slice (some ⟨ge, 0, none⟩) ne ec) <;> simp)
    rcases tag_ne h7 HM7s.out.s (by decide) with h8 | h8
    · cases h8
    · exact h8 e.symm
  have HMX : Hid (d + 1 ≤ maxLen ∧ (d + 1) * 40 ≤ 140737488355328) := by
    have h7 := HM5.out.q.2.2.1; have h8 := HM5.out.q.2.1; have h9 := phi_len (S.map ep); rw [List.length_map, HM7.out] at h9
    have := HD.out
    show _ ∧ _; unfold maxLen; exact ⟨by omega, by omega⟩
  have f1 : (q : Int) < (n2 : Int) := by have := HQ2.out; omega
  have f2 : q < n2 := HQ2.out
  have f3 : (nr : Int) < (ne : Int) := by have := HNE1.out; omega
  have f4 : nr < ne := by have := HNE1.out; omega
  have hzz := HZZ.out
  have HPHI : Hid (phi ((S.take d ++ [(zz, Value.slice xa lx xc, X, en)]).map ep) ≤ 2 * (i + 1)) := by
    show _ ≤ _
    rw [List.map_append, phi_app]
    have h7 := HQN.out.2.2.1
    have h8 : phi ([(zz, Value.slice xa lx xc, X, en)].map ep) = X.length + 1 + 0 := rfl
    rw [h8]
    omega
  clear hcap hcapI
  refine wp_region_noPanic ?_
  refine wp_region_held_drew (S := fun V => V.cell? ⟨lb, 2, none⟩ = some (.slice a0 n0 c0) ∧ V.cell? ⟨lb, 4, none⟩ = some (.slice (some ⟨pg, po, none⟩) n2 c2) ∧ V.cell? ⟨ob, 0, none⟩ = some (.int .i64 (q : Int)) ∧ V.cell? ⟨pg, po + q * 2, none⟩ = some (.int .i64 lhs) ∧ V.cell? ⟨ge, nr, none⟩ = some (.int .i64 en)) (by kernel_rfl) ⟨k1.out, k2.out, k3.out, k4.out, k5.out⟩ (fun hHeld => ?_)
  obtain ⟨WD, hWD⟩ : ∃ WD, W7.drew = WD := ⟨_, rfl⟩
  have HMD : Hid (Mst B WD v23 (.slice a8 m8 c8) (S.take d) tk) := by rw [← hWD]; exact HM7s.out.up (Below.drew (Below.refl _ _))
  have HBD : Hid (Below B W1 WD) := by rw [← hWD]; exact Below.drew HB7.out
  have HXD : Hid (WD.ownsRow B 33 7 (.slice xa lx xc) X.length (flat nf X)) := by rw [← hWD]; exact row_up HX7.out (Below.drew (Below.refl _ _))
  have kD : Hid ((fun V => V.cell? ⟨lb, 2, none⟩ = some (.slice a0 n0 c0) ∧ V.cell? ⟨lb, 4, none⟩ = some (.slice (some ⟨pg, po, none⟩) n2 c2) ∧ V.cell? ⟨ob, 0, none⟩ = some (.int .i64 (q : Int)) ∧ V.cell? ⟨pg, po + q * 2, none⟩ = some (.int .i64 lhs) ∧ V.cell? ⟨ge, nr, none⟩ = some (.int .i64 en)) WD) := by rw [← hWD]; exact ⟨k1.out, k2.out, k3.out, k4.out, k5.out⟩
  rw [hWD] at hHeld ⊢
  clear hWD
  refine wpAnyH_take (i := 0) (oi := { dst := _, op := _, type := _, pos := _, after := _, guard := _ }) (v := ?_) rfl (by kernel_rfl) (by kernel_rfl) (by kernel_rfl) (fun _ _ _ h => h) (Or.inl ⟨by rfl, ?_⟩) (by assumption) ?_
  rotate_left
  · intro W hSw
    (try dsimp only at hSw)
    obtain ⟨z1, z2, z3, z4, z5⟩ := hSw
    go_simp
    (try with_reducible rfl)
  try simp only [Act.put, List.setIfInBounds_toArray, List.set_cons_zero, List.set_cons_succ]
  refine wpAnyH_take (i := 1) (oi := { dst := _, op := _, type := _, pos := _, after := _, guard := _ }) (v := ?_) rfl (by kernel_rfl) (by kernel_rfl) (by kernel_rfl) (fun _ _ _ h => h) (Or.inl ⟨by rfl, ?_⟩) (by assumption) ?_
  rotate_left
  · intro W hSw
    (try dsimp only at hSw)
    obtain ⟨z1, z2, z3, z4, z5⟩ := hSw
    go_simp
    (try with_reducible rfl)
  try simp only [Act.put, List.setIfInBounds_toArray, List.set_cons_zero, List.set_cons_succ]
  refine wpAnyH_take (i := 2) (oi := { dst := _, op := _, type := _, pos := _, after := _, guard := _ }) (v := ?_) rfl (by kernel_rfl) (by kernel_rfl) (by kernel_rfl) (fun _ _ _ h => h) (Or.inl ⟨by rfl, ?_⟩) (by assumption) ?_
  rotate_left
  · intro W hSw
    (try dsimp only at hSw)
    obtain ⟨z1, z2, z3, z4, z5⟩ := hSw
    go_simp
    (try with_reducible rfl)
  try simp only [Act.put, List.setIfInBounds_toArray, List.set_cons_zero, List.set_cons_succ]
  refine wpAnyH_take (i := 3) (oi := { dst := _, op := _, type := _, pos := _, after := _, guard := _ }) (v := ?_) rfl (by kernel_rfl) (by kernel_rfl) (by kernel_rfl) (fun _ _ _ h => h) (Or.inl ⟨by rfl, ?_⟩) (by assumption) ?_
  rotate_left
  · intro W hSw
    (try dsimp only at hSw)
    obtain ⟨z1, z2, z3, z4, z5⟩ := hSw
    go_simp
    (try with_reducible rfl)
  try simp only [Act.put, List.setIfInBounds_toArray, List.set_cons_zero, List.set_cons_succ]
  refine wpAnyH_take (i := 4) (oi := { dst := _, op := _, type := _, pos := _, after := _, guard := _ }) (v := ?_) rfl (by kernel_rfl) (by kernel_rfl) (by kernel_rfl) (fun _ _ _ h => h) (Or.inl ⟨by rfl, ?_⟩) (by assumption) ?_
  rotate_left
  · intro W hSw
    (try dsimp only at hSw)
    obtain ⟨z1, z2, z3, z4, z5⟩ := hSw
    go_simp
    (try with_reducible rfl)
  try simp only [Act.put, List.setIfInBounds_toArray, List.set_cons_zero, List.set_cons_succ]
  refine wpAnyH_take (i := 5) (oi := { dst := _, op := _, type := _, pos := _, after := _, guard := _ }) (v := ?_) rfl (by kernel_rfl) (by kernel_rfl) (by kernel_rfl) (fun _ _ _ h => h) (Or.inl ⟨by rfl, ?_⟩) (by assumption) ?_
  rotate_left
  · intro W hSw
    (try dsimp only at hSw)
    obtain ⟨z1, z2, z3, z4, z5⟩ := hSw
    go_simp
    (try with_reducible rfl)
  try simp only [Act.put, List.setIfInBounds_toArray, List.set_cons_zero, List.set_cons_succ]
  refine wpAnyH_take (i := 6) (oi := { dst := _, op := _, type := _, pos := _, after := _, guard := _ }) (v := ?_) rfl (by kernel_rfl) (by kernel_rfl) (by kernel_rfl) (fun _ _ _ h => h) (Or.inl ⟨by rfl, ?_⟩) (by assumption) ?_
  rotate_left
  · intro W hSw
    (try dsimp only at hSw)
    obtain ⟨z1, z2, z3, z4, z5⟩ := hSw
    go_simp
    (try with_reducible rfl)
  try simp only [Act.put, List.setIfInBounds_toArray, List.set_cons_zero, List.set_cons_succ]
  refine wpAnyH_take (i := 7) (oi := { dst := _, op := _, type := _, pos := _, after := _, guard := _ }) (v := ?_) rfl (by kernel_rfl) (by kernel_rfl) (by kernel_rfl) (fun _ _ _ h => h) (Or.inl ⟨by rfl, ?_⟩) (by assumption) ?_
  rotate_left
  · intro W hSw
    (try dsimp only at hSw)
    obtain ⟨z1, z2, z3, z4, z5⟩ := hSw
    go_simp
    (try with_reducible rfl)
  try simp only [Act.put, List.setIfInBounds_toArray, List.set_cons_zero, List.set_cons_succ]
  refine wpAnyH_take (i := 8) (oi := { dst := _, op := _, type := _, pos := _, after := _, guard := _ }) (v := ?_) rfl (by kernel_rfl) (by kernel_rfl) (by kernel_rfl) (fun _ _ _ h => h) (Or.inl ⟨by rfl, ?_⟩) (by assumption) ?_
  rotate_left
  · intro W hSw
    (try dsimp only at hSw)
    obtain ⟨z1, z2, z3, z4, z5⟩ := hSw
    go_simp
    (try with_reducible rfl)
  try simp only [Act.put, List.setIfInBounds_toArray, List.set_cons_zero, List.set_cons_succ]
  refine wpAnyH_take (i := 9) (oi := { dst := _, op := _, type := _, pos := _, after := _, guard := _ }) (v := ?_) rfl (by kernel_rfl) (by kernel_rfl) (by kernel_rfl) (fun _ _ _ h => h) (Or.inl ⟨by rfl, ?_⟩) (by assumption) ?_
  rotate_left
  · intro W hSw
    (try dsimp only at hSw)
    obtain ⟨z1, z2, z3, z4, z5⟩ := hSw
    go_simp
    (try with_reducible rfl)
  try simp only [Act.put, List.setIfInBounds_toArray, List.set_cons_zero, List.set_cons_succ]
  refine wpAnyH_take (i := 10) (oi := { dst := _, op := _, type := _, pos := _, after := _, guard := _ }) (v := ?_) rfl (by kernel_rfl) (by kernel_rfl) (by kernel_rfl) (fun _ _ _ h => h) (Or.inl ⟨by rfl, ?_⟩) (by assumption) ?_
  rotate_left
  · intro W hSw
    (try dsimp only at hSw)
    obtain ⟨z1, z2, z3, z4, z5⟩ := hSw
    go_simp
    (try with_reducible rfl)
  try simp only [Act.put, List.setIfInBounds_toArray, List.set_cons_zero, List.set_cons_succ]
  refine wpAnyH_take (i := 11) (oi := { dst := _, op := _, type := _, pos := _, after := _, guard := _ }) (v := ?_) rfl (by kernel_rfl) (by kernel_rfl) (by kernel_rfl) (fun _ _ _ h => h) (Or.inl ⟨by rfl, ?_⟩) (by assumption) ?_
  rotate_left
  · intro W hSw
    (try dsimp only at hSw)
    obtain ⟨z1, z2, z3, z4, z5⟩ := hSw
    go_simp
    (try with_reducible rfl)
  try simp only [Act.put, List.setIfInBounds_toArray, List.set_cons_zero, List.set_cons_succ]
  refine wpAnyH_take (i := 12) (oi := { dst := _, op := _, type := _, pos := _, after := _, guard := _ }) (v := ?_) rfl (by kernel_rfl) (by kernel_rfl) (by kernel_rfl) (fun _ _ _ h => h) (Or.inl ⟨by rfl, ?_⟩) (by assumption) ?_
  rotate_left
  · intro W hSw
    (try dsimp only at hSw)
    obtain ⟨z1, z2, z3, z4, z5⟩ := hSw
    go_simp
    (try with_reducible rfl)
  try simp only [Act.put, List.setIfInBounds_toArray, List.set_cons_zero, List.set_cons_succ]
  refine wpAnyH_take (i := 13) (oi := { dst := _, op := _, type := _, pos := _, after := _, guard := _ }) (v := ?_) rfl (by kernel_rfl) (by kernel_rfl) (by kernel_rfl) (fun _ _ _ h => h) (Or.inl ⟨by rfl, ?_⟩) (by assumption) ?_
  rotate_left
  · intro W hSw
    (try dsimp only at hSw)
    obtain ⟨z1, z2, z3, z4, z5⟩ := hSw
    go_simp
    (try with_reducible rfl)
  try simp only [Act.put, List.setIfInBounds_toArray, List.set_cons_zero, List.set_cons_succ]
  refine wpAnyH_take (i := 14) (oi := { dst := _, op := _, type := _, pos := _, after := _, guard := _ }) (v := ?_) rfl (by kernel_rfl) (by kernel_rfl) (by kernel_rfl) (fun _ _ _ h => h) (Or.inl ⟨by rfl, ?_⟩) (by assumption) ?_
  rotate_left
  · intro W hSw
    (try dsimp only at hSw)
    obtain ⟨z1, z2, z3, z4, z5⟩ := hSw
    go_simp
    (try with_reducible rfl)
  try simp only [Act.put, List.setIfInBounds_toArray, List.set_cons_zero, List.set_cons_succ]
  refine wpAnyH_take (i := 15) (oi := { dst := _, op := _, type := _, pos := _, after := _, guard := _ }) (v := ?_) rfl (by kernel_rfl) (by kernel_rfl) (by kernel_rfl) (fun _ _ _ h => h) (Or.inl ⟨by rfl, ?_⟩) (by assumption) ?_
  rotate_left
  · intro W hSw
    (try dsimp only at hSw)
    obtain ⟨z1, z2, z3, z4, z5⟩ := hSw
    go_simp
    (try with_reducible rfl)
  try simp only [Act.put, List.setIfInBounds_toArray, List.set_cons_zero, List.set_cons_succ]
  refine wpAnyH_take (i := 16) (oi := { dst := _, op := _, type := _, pos := _, after := _, guard := _ }) (v := ?_) rfl (by kernel_rfl) (by kernel_rfl) (by kernel_rfl) (fun _ _ _ h => h) (Or.inl ⟨by rfl, ?_⟩) (by assumption) ?_
  rotate_left
  · intro W hSw
    (try dsimp only at hSw)
    obtain ⟨z1, z2, z3, z4, z5⟩ := hSw
    go_simp
    (try with_reducible rfl)
  try simp only [Act.put, List.setIfInBounds_toArray, List.set_cons_zero, List.set_cons_succ]
  refine wpAnyH_take (i := 17) (oi := { dst := _, op := _, type := _, pos := _, after := _, guard := _ }) (v := ?_) rfl (by kernel_rfl) (by kernel_rfl) (by kernel_rfl) (fun _ _ _ h => h) (Or.inl ⟨by rfl, ?_⟩) (by assumption) ?_
  rotate_left
  · intro W hSw
    (try dsimp only at hSw)
    obtain ⟨z1, z2, z3, z4, z5⟩ := hSw
    go_simp
    (try with_reducible rfl)
  try simp only [Act.put, List.setIfInBounds_toArray, List.set_cons_zero, List.set_cons_succ]
  refine wpAnyH_take (i := 18) (oi := { dst := _, op := _, type := _, pos := _, after := _, guard := _ }) (v := ?_) rfl (by kernel_rfl) (by kernel_rfl) (by kernel_rfl) (fun _ _ _ h => h) (Or.inl ⟨by rfl, ?_⟩) (by assumption) ?_
  rotate_left
  · intro W hSw
    (try dsimp only at hSw)
    obtain ⟨z1, z2, z3, z4, z5⟩ := hSw
    go_simp
    (try with_reducible rfl)
  try simp only [Act.put, List.setIfInBounds_toArray, List.set_cons_zero, List.set_cons_succ]
  refine wpAnyH_take (i := 19) (oi := { dst := _, op := _, type := _, pos := _, after := _, guard := _ }) (v := ?_) rfl (by kernel_rfl) (by kernel_rfl) (by kernel_rfl) (fun _ _ _ h => h) (Or.inl ⟨by rfl, ?_⟩) (by assumption) ?_
  rotate_left
  · intro W hSw
    (try dsimp only at hSw)
    obtain ⟨z1, z2, z3, z4, z5⟩ := hSw
    go_simp
    (try with_reducible rfl)
  try simp only [Act.put, List.setIfInBounds_toArray, List.set_cons_zero, List.set_cons_succ]
  refine wpAnyH_take (i := 20) (oi := { dst := _, op := _, type := _, pos := _, after := _, guard := _ }) (v := ?_) rfl (by kernel_rfl) (by kernel_rfl) (by kernel_rfl) (fun _ _ _ h => h) (Or.inl ⟨by rfl, ?_⟩) (by assumption) ?_
  rotate_left
  · intro W hSw
    (try dsimp only at hSw)
    obtain ⟨z1, z2, z3, z4, z5⟩ := hSw
    go_simp
    (try with_reducible rfl)
  try simp only [Act.put, List.setIfInBounds_toArray, List.set_cons_zero, List.set_cons_succ]
  obtain ⟨v9, W8, r8, ho8, hg8, _, ha8⟩ := run_append_own_at (P := Try.prog) (WD.alloc (.cells #[.int .i64 zz, .slice xa lx xc, .int .i64 en] 61)) B 57 57 61 iM _ 3 40 Try.underlying57 hiM hy0 hy1 hy2 rfl (by decide) v23 d (flat mf (S.take d)) (by have h7 := HMD.out.s; rw [HTD.out] at h7; exact h7.alloc _) ⟨WD.heap.size, 0, none⟩ 1 1 [.int .i64 zz, .slice xa lx xc, .int .i64 en] rfl (World.news_of_block (heap_new WD (.cells #[.int .i64 zz, .slice xa lx xc, .int .i64 en] 61))) (by simp [Value.oneCell']) HMX.out.1 HMX.out.2 (Nat.le_trans (HBS.out _ HBD.out) (bel_up _ _).size)
  have HR8 : Hid _ := r8
  have HM8s : Hid (Mst B W8 v9 (.slice a8 m8 c8) (S.take d ++ [(zz, .slice xa lx xc, X, en)]) tk) := HMD.out.push hg8 (by rw [HTD.out]; exact ho8) HXD.out HXN.out
  have HB8 : Hid (Below B W1 W8) := bel_app HBD.out (HBS.out _ HBD.out) HMD.out.s hg8
  have HK8 : Hid (∀ (ad : Addr) (u : Value), v23.ownBlock ≠ some ad.block → WD.cell? ad = some u → W8.cell? ad = some u) := fun ad u hne h => cell_grow (cell_up _ h) hg8 hne
  obtain ⟨a9, c9, hv9⟩ := row_shape ho8
  subst hv9
  clear r8 ho8 hg8 ha8
  refine wpAnyH_ready (rs := [21]) (by kernel_rfl) (by simp) ?_
  refine AllReadyH.cons (o := { dst := _, op := _, type := _, pos := _, after := _, guard := _ }) rfl (fun K hK => ?_) AllReadyH.nil
  go_simp
  refine hK.out _ _ ?_ (fun hHeld => ?_)
  · exact ⟨cell_up _ kD.out.1, cell_up _ kD.out.2.1, cell_up _ kD.out.2.2.1, cell_up _ kD.out.2.2.2.1, cell_up _ kD.out.2.2.2.2⟩
  clear hK K hHeld
  try simp only [Act.put, List.setIfInBounds_toArray, List.set_cons_zero, List.set_cons_succ]
  refine wpAnyH_ready (rs := [22]) (by kernel_rfl) (by simp) ?_
  refine AllReadyH.cons (o := { dst := _, op := _, type := _, pos := _, after := _, guard := _ }) rfl (fun K hK => ?_) AllReadyH.nil
  refine step_append rfl _ _ 57 rfl _ _ (.slice a9 (d + 1) c9) W8 rfl rfl HR8.out ?_
  refine hK.out _ _ ?_ (fun hHeld => ?_)
  · exact ⟨HK8.out _ _ HNL.out kD.out.1, HK8.out _ _ HNL.out kD.out.2.1, HK8.out _ _ HNO.out kD.out.2.2.1, HK8.out _ _ HNP.out kD.out.2.2.2.1, HK8.out _ _ HNE.out kD.out.2.2.2.2⟩
  clear hK K
  try simp only [Act.put, List.setIfInBounds_toArray, List.set_cons_zero, List.set_cons_succ]
  refine wpAnyH_take (i := 23) (oi := { dst := _, op := _, type := _, pos := _, after := _, guard := _ }) (v := ?_) rfl (by kernel_rfl) (by kernel_rfl) (by kernel_rfl) (fun _ _ _ h => h) (Or.inl ⟨by rfl, ?_⟩) (by assumption) ?_
  rotate_left
  · intro W hSw
    (try dsimp only at hSw)
    obtain ⟨z1, z2, z3, z4, z5⟩ := hSw
    go_simp
    (try with_reducible rfl)
  try simp only [Act.put, List.setIfInBounds_toArray, List.set_cons_zero, List.set_cons_succ]
  clear hHeld
  refine wpAnyH_done (by kernel_rfl) ?_ _
  refine NoPanic.normal ?_
  exact HQ.out _ _ _ _ _ _ _ _ _ _ _ _ _ _ _ _ _ _ _ _ _ _ _ _ _ _ _ _ _ _ _ _ _ _ _ _ _ _ _ _ _ _ _ _ _ _ _ _ _ _ _ _ _ _ _ _ _ _ _ _ _ _ _ _ _ _ _ _ _ _ _ _ _ _ _ _ _ _ _ _ _ _ _ _ _ _ _ _ _ _ _ _ _ _ _ _ _ _ _ _ _ _ _ _ _ _ _ _ _ _ _ _ _ _ _ _ _ _ _ _ _ _ _ _ _ _ _ _ _ _ _ _ _ _ _ _ _ _ _ _ _ _ _ _ _ _ _ _ _ _ _ _ _ _ _ _ _ _ _ _ _ _ _ _ _ _ _ _ _ _ _ _ _ _ _ _ _ _ _ _ _ _ _ _ _ _ _ _ _ _ _ _ _ _ _ _ _ _ _ _ _ _ _ _ _ _ _ _ _ _ _ _ _ _ _ _ _ _ _ _ _ _ _ _ _ _ _ _ ⟨p, S.take d ++ [(zz, .slice xa lx xc, X, en)], tk, rfl, ⟨HM8s.out, HB8.out, by rw [List.map_append]; exact HJ2.out, HQN.out.1, HQN.out.2.1, HPHI.out, HQN.out.2.2.2⟩⟩
end Go.Proofs.Ytcfmpmhdjkchjaa
