import Derived.Test.YtcfmpmhdjkchjaaTgr
import Derived.Test.YtcfmpmhdjkchjaaTmc
namespace Go.Proofs.Ytcfmpmhdjkchjaa
open Go.RowKit Go.Maps

noncomputable def cL3 : Code := sub [true, true, true, true, true, true, false, true, false, false, true, false, false, true, true, true, true, true, true, true] (Try.f4.body.getD .skip)
theorem hid_name {tk : List Nd} {t : Nat} (h : hid tk t) : ∃ r : List UInt8, (tk.getD t ndd).nm = ⟨(95 :: r).toArray⟩ := by
  unfold hid hpf at h
  obtain ⟨nm, hnm⟩ : ∃ nm, (tk.getD t ndd).nm = nm := ⟨_, rfl⟩
  rw [hnm] at h ⊢
  cases hl : nm.data.toList with
  | nil => rw [hl] at h; cases h
  | cons x r =>
    rw [hl] at h
    have hx : 95 = x := by simpa [Lib.hasPrefix] using h
    subst hx
    refine ⟨r, ?_⟩
    cases nm with
    | mk d => rw [← hl]
set_option maxRecDepth 1000000 in
set_option maxHeartbeats 32000000 in
theorem leaves_any {W : World} {B : Nat} {a8 ta : Option Addr} {m8 c8 tl tc nx : Nat} {tk X R : List Nd} {Q : Exit → Act → World → Prop} (hT : W.ownsRow B 33 7 (.slice a8 m8 c8) m8 (flat nf tk)) (hX : W.ownsRow B 33 7 (.slice ta tl tc) tl (flat nf X)) (h8 : tk.length = m8) (hl : X.length = tl) (hm : m8 ≤ 9223372036854775807) (hm2 : tl ≤ 1000000000000) (hL : Lf tk nx (X ++ R) m8)
    (x0 x1 x2 x3 x4 x5 x6 x7 x9 x11 x13 x14 x15 x16 x17 x18 x19 x20 x21 x22 x23 x24 x25 x26 x27 x28 x29 x30 x31 x32 x33 x34 x35 x36 x37 x38 x39 x40 x41 x42 x43 x44 x45 x46 x47 x48 x49 x50 x51 x52 x53 x54 x55 x56 x57 x58 x59 x60 x61 x62 x63 x64 x65 x66 x67 x68 x69 x70 x71 x72 x73 x74 x75 x76 x77 x78 x79 x80 x81 x82 x83 x84 x85 x86 x87 x88 x89 x90 x91 x92 x93 x94 x95 x96 x97 x98 x99 x100 x101 x102 x103 x104 x105 x106 x107 x108 x109 x110 x111 x112 x113 x114 x115 x116 x117 x118 x119 x120 x121 x122 x123 x124 x125 x126 x127 x128 x129 x130 x131 x132 x133 x134 x135 x136 x137 x138 x139 x140 x141 x142 x143 x144 x145 x146 x147 x148 x149 x150 x151 x152 x153 x154 x155 x156 x157 x158 x159 x160 x161 x162 x163 x164 x165 x166 x167 x168 x169 x170 x171 x172 x173 x174 x175 x176 x177 x178 x179 x180 x181 x182 x183 x184 x185 x186 x187 x188 x189 x190 x191 x192 x193 x194 x195 x196 x197 x198 x199 x200 x201 x202 x203 x204 x205 x206 x207 x208 x209 x210 x211 x212 x213 x214 x215 x216 x217 x218 x219 : Value) (hQ : ∀ (nx' : Nat) (y4 y16 y102 y103 y104 y105 y106 y107 y108 y109 y110 y111 y112 y113 y114 y115 y116 y117 y118 y119 y120 y121 y122 y123 y124 y125 y126 y127 y128 y129 y130 y131 y132 y133 y134 y135 y136 y137 y138 y139 y140 y141 y142 y143 y144 y145 y146 y147 y148 y149 y150 y151 y152 y153 y154 y155 y156 y157 y158 y159 y160 y161 y162 y163 y164 y165 y166 y167 y168 y169 y170 y171 y172 y173 y174 y175 y176 y177 y178 y179 y180 y181 y182 y183 y184 y185 y186 y187 y188 y189 y190 y191 y192 y193 y194 y195 y196 y197 y198 : Value) (W' : World), Lf tk nx' R m8 → Below W.heap.size W W' → Q .normal ⟨#[x0, x1, x2, x3, y4, x5, x6, x7, .slice a8 m8 c8, x9, .int .i64 (nx' : Int), x11, .slice ta tl tc, x13, x14, x15, y16, x17, x18, x19, x20, x21, x22, x23, x24, x25, x26, x27, x28, x29, x30, x31, x32, x33, x34, x35, x36, x37, x38, x39, x40, x41, x42, x43, x44, x45, x46, x47, x48, x49, x50, x51, x52, x53, x54, x55, x56, x57, x58, x59, x60, x61, x62, x63, x64, x65, x66, x67, x68, x69, x70, x71, x72, x73, x74, x75, x76, x77, x78, x79, x80, x81, x82, x83, x84, x85, x86, x87, x88, x89, x90, x91, x92, x93, x94, x95, x96, x97, x98, x99, x100, x101, y102, y103, y104, y105, y106, y107, y108, y109, y110, y111, y112, y113, y114, y115, y116, y117, y118, y119, y120, y121, y122, y123, y124, y125, y126, y127, y128, y129, y130, y131, y132, y133, y134, y135, y136, y137, y138, y139, y140, y141, y142, y143, y144, y145, y146, y147, y148, y149, y150, y151, y152, y153, y154, y155, y156, y157, y158, y159, y160, y161, y162, y163, y164, y165, y166, y167, y168, y169, y170, y171, y172, y173, y174, y175, y176, y177, y178, y179, y180, y181, y182, y183, y184, y185, y186, y187, y188, y189, y190, y191, y192, y193, y194, y195, y196, y197, y198, x199, x200, x201, x202, x203, x204, x205, x206, x207, x208, x209, x210, x211, x212, x213, x214, x215, x216, x217, x218, x219], []⟩ W') :
    Code.wp Try.prog cL3 Q ⟨#[x0, x1, x2, x3, x4, x5, x6, x7, .slice a8 m8 c8, x9, .int .i64 (nx : Int), x11, .slice ta tl tc, x13, x14, x15, x16, x17, x18, x19, x20, x21, x22, x23, x24, x25, x26, x27, x28, x29, x30, x31, x32, x33, x34, x35, x36, x37, x38, x39, x40, x41, x42, x43, x44, x45, x46, x47, x48, x49, x50, x51, x52, x53, x54, x55, x56, x57, x58, x59, x60, x61, x62, x63, x64, x65, x66, x67, x68, x69, x70, x71, x72, x73, x74, x75, x76, x77, x78, x79, x80, x81, x82, x83, x84, x85, x86, x87, x88, x89, x90, x91, x92, x93, x94, x95, x96, x97, x98, x99, x100, x101, x102, x103, x104, x105, x106, x107, x108, x109, x110, x111, x112, x113, x114, x115, x116, x117, x118, x119, x120, x121, x122, x123, x124, x125, x126, x127, x128, x129, x130, x131, x132, x133, x134, x135, x136, x137, x138, x139, x140, x141, x142, x143, x144, x145, x146, x147, x148, x149, x150, x151, x152, x153, x154, x155, x156, x157, x158, x159, x160, x161, x162, x163, x164, x165, x166, x167, x168, x169, x170, x171, x172, x173, x174, x175, x176, x177, x178, x179, x180, x181, x182, x183, x184, x185, x186, x187, x188, x189, x190, x191, x192, x193, x194, x195, x196, x197, x198, x199, x200, x201, x202, x203, x204, x205, x206, x207, x208, x209, x210, x211, x212, x213, x214, x215, x216, x217, x218, x219], []⟩ W := by
  have HT : Hid (W.ownsRow B 33 7 (.slice a8 m8 c8) m8 (flat nf tk)) := hT
  have HX : Hid (W.ownsRow B 33 7 (.slice ta tl tc) tl (flat nf X)) := hX
  have H8 : Hid (tk.length = m8) := h8
  have HL : Hid (X.length = tl) := hl
  have HM : Hid (m8 ≤ 9223372036854775807 ∧ tl ≤ 1000000000000) := ⟨hm, hm2⟩
  have HLF : Hid (Lf tk nx (X.drop 0 ++ R) m8) := hL
  have HQ : Hid (∀ (nx' : Nat) (y4 y16 y102 y103 y104 y105 y106 y107 y108 y109 y110 y111 y112 y113 y114 y115 y116 y117 y118 y119 y120 y121 y122 y123 y124 y125 y126 y127 y128 y129 y130 y131 y132 y133 y134 y135 y136 y137 y138 y139 y140 y141 y142 y143 y144 y145 y146 y147 y148 y149 y150 y151 y152 y153 y154 y155 y156 y157 y158 y159 y160 y161 y162 y163 y164 y165 y166 y167 y168 y169 y170 y171 y172 y173 y174 y175 y176 y177 y178 y179 y180 y181 y182 y183 y184 y185 y186 y187 y188 y189 y190 y191 y192 y193 y194 y195 y196 y197 y198 : Value) (W' : World), Lf tk nx' R m8 → Below W.heap.size W W' → Q .normal ⟨#[x0, x1, x2, x3, y4, x5, x6, x7, .slice a8 m8 c8, x9, .int .i64 (nx' : Int), x11, .slice ta tl tc, x13, x14, x15, y16, x17, x18, x19, x20, x21, x22, x23, x24, x25, x26, x27, x28, x29, x30, x31, x32, x33, x34, x35, x36, x37, x38, x39, x40, x41, x42, x43, x44, x45, x46, x47, x48, x49, x50, x51, x52, x53, x54, x55, x56, x57, x58, x59, x60, x61, x62, x63, x64, x65, x66, x67, x68, x69, x70, x71, x72, x73, x74, x75, x76, x77, x78, x79, x80, x81, x82, x83, x84, x85, x86, x87, x88, x89, x90, x91, x92, x93, x94, x95, x96, x97, x98, x99, x100, x101, y102, y103, y104, y105, y106, y107, y108, y109, y110, y111, y112, y113, y114, y115, y116, y117, y118, y119, y120, y121, y122, y123, y124, y125, y126, y127, y128, y129, y130, y131, y132, y133, y134, y135, y136, y137, y138, y139, y140, y141, y142, y143, y144, y145, y146, y147, y148, y149, y150, y151, y152, y153, y154, y155, y156, y157, y158, y159, y160, y161, y162, y163, y164, y165, y166, y167, y168, y169, y170, y171, y172, y173, y174, y175, y176, y177, y178, y179, y180, y181, y182, y183, y184, y185, y186, y187, y188, y189, y190, y191, y192, y193, y194, y195, y196, y197, y198, x199, x200, x201, x202, x203, x204, x205, x206, x207, x208, x209, x210, x211, x212, x213, x214, x215, x216, x217, x218, x219], []⟩ W') := hQ
  clear hT hX h8 hl hm hm2 hL hQ
  conv => arg 2; whnf
  go_wp2_with fail
  go_loopg [10, 16] tl (fun gm v10 v16 wr => ∃ j nx : Nat, v16 = .int .i64 (j : Int) ∧ v10 = .int .i64 (nx : Int) ∧ Hid (gm = tl - j ∧ j ≤ tl) ∧ Hid (Lf tk nx (X.drop j ++ R) m8) ∧ Hid (Below W.heap.size W wr))
  case atStart => exact ⟨0, nx, rfl, rfl, ⟨rfl, Nat.zero_le _⟩, HLF, Below.refl _ _⟩
  case round =>
    clear HLF
    obtain ⟨j, nx, rfl, rfl, HJ, HLF, HB⟩ := hrel
    by_cases hj : j < tl
    · have g1 : (j : Int) < (tl : Int) := by omega
      have g2 : j < tl := hj
      have HJN : Hid (j < tl) := hj
      have hjX : j < X.length := by rw [HL.out]; exact hj
      obtain ⟨gt, cc, hvt, _⟩ := row_form HX.out (by omega)
      obtain ⟨rfl, -, rfl⟩ := Value.slice.inj hvt
      have HCX : Hid (∀ W', Below wr.heap.size wr W' → ∀ k q, (nf (X.getD j ndd))[k]? = some q → k < 7 → W'.cell? ⟨gt, j * 7 + k, none⟩ = some q) := fun W' hb k q hq hk => row_at (row_up HX.out (below_trans HB.out hb)) (j * 7 + k) _ (by rw [flat_get nf_len ndd X j k hjX hk]; exact hq)
      have hd : X.drop j = X.getD j ndd :: X.drop (j + 1) := by rw [List.drop_eq_getElem_cons hjX, List.getD_eq_getElem?_getD, List.getElem?_eq_getElem hjX]; rfl
      have hLF := HLF.out
      rw [hd, List.cons_append] at hLF
      obtain ⟨y, hy⟩ : ∃ y, X.getD j ndd = y := ⟨_, rfl⟩
      rw [hy] at HCX hLF
      have c6 : wr.cell? ⟨gt, j * 7 + 6, none⟩ = some (.int .i64 y.lf) := HCX.out wr (Below.refl _ _) 6 _ rfl (by decide)
      have HWJ : Hid (IntKind.i64.wrap ((j : Int) + 1) = ((j + 1 : Nat) : Int)) := w64n j (by have := HM.out; have := HJN.out; omega)
      clear hj hjX hvt hd hy HLF
      rcases hLF with ⟨n1, n2⟩ | ⟨n, n1, n2, n3, n4, n5, n6, n7, n8⟩
      · have HN2 : Hid (Lf tk nx (X.drop (j + 1) ++ R) m8) := n2
        have e1 : y.lf < 0 := n1
        have hwj := HWJ.out
        clear n1 n2
        go_wp2_with fail
        clear hwj
        go_roundg (tl - (j + 1))
        case measure => have := HJ.out.1; have := HJN.out; omega
        case rel => exact ⟨j + 1, nx, by first | rfl | (rw [show (j : Int) + 1 = ((j + 1 : Nat) : Int) by omega]), rfl, ⟨rfl, HJN.out⟩, HN2, HB⟩
      · rw [n1] at c6
        have HN8 : Hid (Lf tk (n + 1) (X.drop (j + 1) ++ R) m8) := n8
        have HHD : Hid (∀ t, nx ≤ t → t < n → hid tk t) := n7
        have HNN : Hid (nx ≤ n ∧ n < m8) := ⟨n2, by rw [← H8.out]; exact n3⟩
        obtain ⟨g8, cc8, hv8, _⟩ := row_form HT.out (by have := HNN.out; omega)
        obtain ⟨rfl, -, rfl⟩ := Value.slice.inj hv8
        have HCT : Hid (∀ q, q < m8 → ∀ W', Below wr.heap.size wr W' → ∀ k v, (nf (tk.getD q ndd))[k]? = some v → k < 7 → W'.cell? ⟨g8, q * 7 + k, none⟩ = some v) := fun q hq W' hb k v hv hk => row_at (row_up HT.out (below_trans HB.out hb)) (q * 7 + k) _ (by rw [flat_get nf_len ndd tk q k (by rw [H8.out]; exact hq) hk]; exact hv)
        obtain ⟨f, hf⟩ : ∃ f, y.fr = f := ⟨_, rfl⟩
        obtain ⟨e, he⟩ : ∃ e, y.tt = e := ⟨_, rfl⟩
        have k2 : wr.cell? ⟨gt, j * 7 + 5, none⟩ = some (.int .i64 0) := by have h7 := HCX.out wr (Below.refl _ _) 5 _ rfl (by decide); rw [n4] at h7; exact h7
        have k3 : wr.cell? ⟨gt, j * 7 + 3, none⟩ = some (.int .i64 f) := by have h7 := HCX.out wr (Below.refl _ _) 3 _ rfl (by decide); rw [hf] at h7; exact h7
        have k4 : wr.cell? ⟨gt, j * 7 + 4, none⟩ = some (.int .i64 e) := by have h7 := HCX.out wr (Below.refl _ _) 4 _ rfl (by decide); rw [he] at h7; exact h7
        have k5 : wr.cell? ⟨g8, n * 7 + 3, none⟩ = some (.int .i64 f) := by have h7 := HCT.out n HNN.out.2 wr (Below.refl _ _) 3 _ rfl (by decide); rw [← n5, hf] at h7; exact h7
        have k6 : wr.cell? ⟨g8, n * 7 + 4, none⟩ = some (.int .i64 e) := by have h7 := HCT.out n HNN.out.2 wr (Below.refl _ _) 4 _ rfl (by decide); rw [← n6, he] at h7; exact h7
        have K1 : Hid _ := c6
        have K2 : Hid _ := k2
        have K3 : Hid _ := k3
        have K4 : Hid _ := k4
        have K5 : Hid _ := k5
        have K6 : Hid _ := k6
        have HY6 : Hid ((nf y)[6]? = some (.int .i64 (n : Int))) := by show some _ = _; rw [n1]
        clear n1 n2 n3 n4 n5 n6 n7 n8 hf he k2 k3 k4 k5 k6 hv8
        go_upto_region 30 with fail
        clear c6
        refine r30 HJN.out HNN.out.2 HNN.out.1 K1.out K2.out K3.out K4.out K5.out K6.out _ _ _ _ _ _ _ _ _ _ _ _ _ _ _ _ _ _ _ _ _ _ _ _ _ _ _ _ _ _ _ _ _ _ _ _ _ _ _ _ _ _ _ _ _ _ _ _ _ _ _ _ _ _ _ _ _ _ _ _ _ _ _ _ _ _ _ _ _ _ _ _ _ _ _ _ _ _ _ _ _ _ _ _ _ _ _ _ _ _ _ _ _ _ _ _ _ _ _ _ _ _ _ _ _ _ _ _ _ _ _ _ _ _ _ _ _ _ _ _ _ _ _ _ _ _ _ _ _ _ _ _ _ _ _ _ _ _ _ _ _ _ _ _ _ _ _ _ _ _ _ _ _ _ _ _ _ _ _ _ _ _ _ _ _ _ _ _ _ _ _ _ _ _ _ _ _ _ _ _ _ _ _ _ _ _ _ _ _ _ _ _ _ _ _ _ _ _ _ _ _ _ _ _ _ _ _ _ _ _ _ _ _ _ _ _ (fun y114 y115 y116 y117 y118 y119 y120 y121 y122 y123 y124 y125 y126 y127 y128 y129 y130 y131 y132 y133 y134 y135 y136 y137 y138 y139 y140 y141 y142 y143 y144 y145 y146 y147 y148 y149 y150 y151 y152 y153 y154 y155 y156 y157 y158 y159 y160 y161 y162 y163 y164 y165 y166 y167 y168 y169 y170 y171 W9 hb9 => ?_)
        have HB9 : Hid (Below wr.heap.size wr W9) := hb9
        clear hb9
        refine ex_nextN ?_
        refine next_kN (by assumption) ?_
        refine wp_cond_false rfl ?_
        refine wp_skip ?_
        refine ex_nextN ?_
        refine next_kN (by assumption) ?_
        go_wp2_with fail
        obtain ⟨wo, rfl⟩ : ∃ wo, wo = wr := ⟨_, rfl⟩
        go_loopg [10] (n - nx) (fun gm v10 wq => ∃ q : Nat, v10 = .int .i64 (q : Int) ∧ Hid (gm = n - q ∧ nx ≤ q ∧ q ≤ n) ∧ wq = W9)
        case atStart => exact ⟨nx, rfl, ⟨rfl, Nat.le_refl _, HNN.out.1⟩, rfl⟩
        case round =>
          obtain ⟨q, rfl, HQ9, rfl⟩ := hrel
          have k7 := HCX.out wr HB9.out 6 _ HY6.out (by decide)
          by_cases hq : q < n
          · have f1 : (q : Int) < (n : Int) := by omega
            have f2 : q < n := hq
            have HQN : Hid (q < n) := hq
            have f3 : (q : Int) < (m8 : Int) := by have := HNN.out; omega
            have f4 : q < m8 := by have := HNN.out; omega
            obtain ⟨r, hr⟩ := hid_name (HHD.out q HQ9.out.2.1 hq)
            have k8 := HCT.out q f4 wr HB9.out 0 _ rfl (by decide)
            rw [hr, Nat.add_zero] at k8
            obtain ⟨s, hs⟩ : ∃ s : ByteArray, (⟨(95 :: r).toArray⟩ : ByteArray) = s := ⟨_, rfl⟩
            rw [hs] at k8
            have s1 : s.toList.isEmpty = false := by rw [← hs, ByteArray.toList_eq]; rfl
            have s2 : 0 < s.size := by rw [← hs]; show 0 < (95 :: r).toArray.size; simp
            have s2i : (0 : Int) < (s.size : Int) := by omega
            have s3 : (s[0]).toNat = 95 := by subst hs; rfl
            have HWQ : Hid (IntKind.i64.wrap ((q : Int) + 1) = ((q + 1 : Nat) : Int)) := w64n q (by have := HM.out; have := HNN.out; have := HQN.out; omega)
            have hwq := HWQ.out
            clear hq hr hs
            go_wp2_with fail
            clear hwq
            go_roundg (n - (q + 1))
            case measure => have := HQ9.out; have := HQN.out; omega
            case rel => exact ⟨q + 1, by first | rfl | (rw [show (q : Int) + 1 = ((q + 1 : Nat) : Int) by omega]), ⟨rfl, by have := HQ9.out; omega, HQN.out⟩, rfl⟩
          · have f1 : ¬ (q : Int) < (n : Int) := by omega
            have f2 : ¬ q < n := hq
            obtain rfl : q = n := by have := HQ9.out; omega
            have HWQ : Hid (IntKind.i64.wrap ((q : Int) + 1) = ((q + 1 : Nat) : Int)) := w64n q (by have := HM.out; have := HNN.out; omega)
            have hwq := HWQ.out
            have hwj := HWJ.out
            clear hq
            go_wp2_with fail
            clear hwq hwj
            go_roundg (tl - (j + 1))
            case measure => have := HJ.out.1; have := HJN.out; omega
            case rel => exact ⟨j + 1, q + 1, by first | rfl | (rw [show (j : Int) + 1 = ((j + 1 : Nat) : Int) by omega]), by first | rfl | (rw [show (q : Int) + 1 = ((q + 1 : Nat) : Int) by omega]), ⟨rfl, HJN.out⟩, HN8, below_trans HB.out HB9.out⟩
    · have g1 : ¬ (j : Int) < (tl : Int) := by omega
      have g2 : ¬ j < tl := hj
      have HEND : Hid (Lf tk nx R m8) := by have h7 := HLF.out; rw [List.drop_eq_nil_of_le (by rw [HL.out]; omega), List.nil_append] at h7; exact h7
      clear hj
      go_wp2_with fail
      (try simp only [Exit.inBlock, Exit.then])
      exact HQ.out nx _ _ _ _ _ _ _ _ _ _ _ _ _ _ _ _ _ _ _ _ _ _ _ _ _ _ _ _ _ _ _ _ _ _ _ _ _ _ _ _ _ _ _ _ _ _ _ _ _ _ _ _ _ _ _ _ _ _ _ _ _ _ _ _ _ _ _ _ _ _ _ _ _ _ _ _ _ _ _ _ _ _ _ _ _ _ _ _ _ _ _ _ _ _ _ _ _ _ _ _ HEND.out HB.out
end Go.Proofs.Ytcfmpmhdjkchjaa
