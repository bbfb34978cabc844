import Derived.Test.YtcfmpmhdjkchjaaTmg
namespace Go.Proofs.Ytcfmpmhdjkchjaa
open Go.RowKit Go.Maps

theorem ex_then {K : Act → World → Prop} {Q : Exit → Act → World → Prop} {a : Act} {w : World} {id : Nat} (h : Q (.exit id) a w) : Exit.then K Q (.exit id) a w := h
theorem ex_next {K : Act → World → Prop} {Q : Exit → Act → World → Prop} {a : Act} {w : World} (h : K a w) : Exit.then K Q .normal a w := h
theorem ex_block {Q : Exit → Act → World → Prop} {a : Act} {w : World} {id : Nat} (h : Q .normal a w) : Exit.inBlock id Q (.exit id) a w := by
  unfold Exit.inBlock
  dsimp only
  rw [if_pos rfl]
  exact h
theorem ex_blockn {Q : Exit → Act → World → Prop} {a : Act} {w : World} {id : Nat} (h : Q .normal a w) : Exit.inBlock id Q .normal a w := h
set_option maxRecDepth 1000000 in
set_option maxHeartbeats 32000000 in
theorem made_any {v0 v1 v2 vs : Value} {Te : List Td} {Sy : List Sd} {P : List Pd} {L : List Op3} {J : List Ep → List Nd → Nat → Prop} (u : Nat → Value) (w : World) (hg : Gx w v0 v1 v2 Te Sy P) (hgs : Gs Te Sy P) (hri : ∀ x ∈ P, ∀ r ∈ x.2.2, r.1 ≤ 9223372036854775807) (hst : Rw w vs L.length (flat opf L)) (hsz : L.length * 24 + 4096 ≤ 140737488355328) (hJ : Kp Te Sy P J) :
    Calls Try.prog 24 #[lgv u v0 v1 v2, vs] w fun e w' => ∃ v7 v8 S tk p, e = .returned (.tuple #[v7, v8, .bool true]) ∧ Mst w.heap.size w' v7 v8 S tk ∧ J (S.map ep) tk p ∧ S.length ≤ 131072 ∧ phi (S.map ep) ≤ 131072 ∧ Below w.heap.size w w' := by
  obtain ⟨iN, hiN, hx0, hx1, hx2⟩ := info_parts infoNd
  obtain ⟨iM, hiM, hy0, hy1, hy2⟩ := info_parts infoMd
  obtain ⟨iS, hiS, hz0, hz1, hz2⟩ := info_parts infoSn
  obtain ⟨i3, hi3, ht0, ht1, ht2⟩ := info_parts info3
  have HG : Hid (Gx w v0 v1 v2 Te Sy P) := hg
  have HGS : Hid (Gs Te Sy P) := hgs
  have HRI : Hid (∀ x ∈ P, ∀ r ∈ x.2.2, r.1 ≤ 9223372036854775807) := hri
  have HST : Hid (Rw w vs L.length (flat opf L)) := hst
  have HSZ : Hid (L.length * 24 + 4096 ≤ 140737488355328) := hsz
  have HJ : Hid (Kp Te Sy P J) := hJ
  obtain ⟨a0, c0, a1, c1, a2, c2, rfl, rfl, rfl⟩ := hg.form
  obtain ⟨sa, sc, rfl⟩ := hst.form
  clear hg hgs hri hst hsz hJ
  obtain ⟨n0, hn0⟩ : ∃ n, Te.length = n := ⟨_, rfl⟩
  obtain ⟨n1, hn1⟩ : ∃ n, Sy.length = n := ⟨_, rfl⟩
  obtain ⟨n2, hn2⟩ : ∃ n, P.length = n := ⟨_, rfl⟩
  obtain ⟨n, hn⟩ : ∃ n, L.length = n := ⟨_, rfl⟩
  have HN0 : Hid (Te.length = n0) := hn0
  have HN2 : Hid (P.length = n2) := hn2
  have HN : Hid (L.length = n) := hn
  rw [hn0, hn1, hn2] at HG ⊢
  rw [hn] at HST HSZ ⊢
  clear hn0 hn1 hn2 hn
  unfold lgv
  obtain ⟨W1, hW1⟩ : ∃ W1, W1 = w.alloc (.cells #[u 0, u 1, .slice a0 n0 c0, .slice a1 n1 c1, .slice a2 n2 c2, u 5, u 6, u 7, u 8, u 9, u 10, u 11] 52) := ⟨_, rfl⟩
  have HB1 : Hid (Below w.heap.size w W1) := by rw [hW1]; exact bel_up _ _
  have HX1 : Hid (W1.heap[w.heap.size]? = some (.cells #[u 0, u 1, .slice a0 n0 c0, .slice a1 n1 c1, .slice a2 n2 c2, u 5, u 6, u 7, u 8, u 9, u 10, u 11] 52 (0, 0))) := by rw [hW1]; exact heap_new _ _
  go_enter Try.func24, Try.ntmps24
  go_upto_region 5 with fail
  rw [← hW1]
  clear hW1
  obtain ⟨lb, hlb⟩ : ∃ lb, w.heap.size = lb := ⟨_, rfl⟩
  rw [hlb] at HX1 ⊢
  have HLB : Hid (w.heap.size = lb) := hlb
  clear hlb
  have HM0 : Hid (Ms Te J W1.heap.size lb W1 W1 (.slice none 0 0) (.slice none 0 0) [] [] 0 0) := ⟨⟨World.ownsRow_nil _ _ _ _, World.ownsRow_nil _ _ _ _, fun x hx => by cases hx⟩, Below.refl _ _, HJ.out.z, ⟨Nat.zero_le _, Nat.zero_le _, Nat.zero_le _, Nat.zero_le _⟩⟩
  obtain ⟨B, hB⟩ : ∃ B, W1.heap.size = B := ⟨_, rfl⟩
  have HBB : Hid (W1.heap.size = B) := hB
  rw [hB] at HM0
  clear hB
  have HBA : Hid (∀ W, Below B W1 W → Below w.heap.size w W) := fun W hb => HB1.out.trans (hb.mono (by rw [← HBB.out]; exact HB1.out.size))
  have HLX : Hid (∀ W, Below B W1 W → W.heap[lb]? = some (.cells #[u 0, u 1, .slice a0 n0 c0, .slice a1 n1 c1, .slice a2 n2 c2, u 5, u 6, u 7, u 8, u 9, u 10, u 11] 52 (0, 0))) := fun W hb => (hb.block lb (by rw [← HBB.out]; exact lt_of_heap HX1.out)).trans HX1.out
  have HBS : Hid (∀ W, Below B W1 W → B ≤ W.heap.size) := fun W hb => by have := hb.size; rw [HBB.out] at this; exact this
  go_loopg [7, 8, 9, 10] n (fun gm v7 v8 v9 v10 wr => ∃ (i p : Nat) (S : List En) (tk : List Nd), v9 = .int .i64 (p : Int) ∧ v10 = .int .i64 (i : Int) ∧ Hid (gm = n - i ∧ i ≤ n) ∧ Hid (Ms Te J B lb W1 wr v7 v8 S tk p i))
  case atStart => exact ⟨0, 0, [], [], rfl, rfl, ⟨rfl, Nat.zero_le _⟩, HM0⟩
  case round =>
    clear HM0
    obtain ⟨i, p, S, tk, rfl, rfl, HI, HM⟩ := hrel
    obtain ⟨a7, c7, hv7⟩ := row_shape HM.out.m.s
    obtain ⟨a8, c8, hv8⟩ := row_shape HM.out.m.t
    subst hv7 hv8
    by_cases hi : i < n ∧ i < 65536
    · have e1 : decide ((i : Int) < (n : Int)) = true := by rw [decide_eq_true_eq]; omega
      have e2 : decide (i < n) = true := by rw [decide_eq_true_eq]; omega
      have e3 : decide ((i : Int) < 65536) = true := by rw [decide_eq_true_eq]; omega
      have e4 : decide (i < 65536) = true := by rw [decide_eq_true_eq]; omega
      have e5 : (i : Int) < (n : Int) := by omega
      have e6 : i < n := hi.1
      have HIM : Hid (i < n ∧ i < 65536) := hi
      have hop := Rw.op (l := L) (n := n) (a := sa) (cap := sc) (by rw [HN.out]; exact HST.out) i (by rw [HN.out]; exact hi.1)
      obtain ⟨og, oo, rfl, q0, q1, q2⟩ := hop
      have hbw := HBA.out _ HM.out.b
      have q0 := below_cell hbw q0
      have q1 := below_cell hbw q1
      have q2 := below_cell hbw q2
      obtain ⟨ox, hox⟩ : ∃ ox, L.getD i opd = ox := ⟨_, rfl⟩
      rw [hox] at q0 q1 q2
      obtain ⟨N, pad, len⟩ := ox
      dsimp only at q0 q1 q2
      obtain ⟨W2, hW2⟩ : ∃ W2, W2 = wr.alloc (.cells #[.int .i64 N, .int .i64 pad, .int .i64 len] 104) := ⟨_, rfl⟩
      have HM2 : Hid (Ms Te J B lb W1 W2 (.slice a7 S.length c7) (.slice a8 tk.length c8) S tk p i) := by rw [hW2]; exact HM.out.up (bel_up _ _) (HBS.out _ HM.out.b)
      have HO2 : Hid (W2.heap[wr.heap.size]? = some (.cells #[.int .i64 N, .int .i64 pad, .int .i64 len] 104 (0, 0))) := by rw [hW2]; exact heap_new _ _
      obtain ⟨m7, hm7⟩ : ∃ m, S.length = m := ⟨_, rfl⟩
      obtain ⟨m8, hm8⟩ : ∃ m, tk.length = m := ⟨_, rfl⟩
      have HM7 : Hid (S.length = m7) := hm7
      have HM8 : Hid (tk.length = m8) := hm8
      rw [hm7, hm8] at HM HM2 ⊢
      clear hox hi hbw hm7 hm8
      have hwi := w64n i (by have := HIM.out; omega)
      go_upto_region 8 with fail
      rw [← hW2]
      clear hW2 q0 q1 q2 e1 e2 e3 e4 e5 e6
      obtain ⟨ob, hob⟩ : ∃ ob, wr.heap.size = ob := ⟨_, rfl⟩
      rw [hob] at HO2 ⊢
      clear hob
      have HWB : Hid (w.heap.size ≤ B) := by rw [← HBB.out]; exact HB1.out.size
      have o0 := rcell HO2.out 0 _ rfl
      go_upto_if 40 with fail
      clear o0 hwi
      by_cases hN : N < 0
      · rw [decide_eq_true hN]
        refine wp_cond_true rfl ?_
        refine tok_head HG.out HJ.out HN0.out HBA.out HLX.out HBS.out HM2.out HM7.out HM8.out HIM.out.2 HO2.out _ _ _ _ _ _ _ _ _ _ _ _ _ _ _ _ _ _ _ _ _ _ _ _ _ _ _ _ _ _ _ _ _ _ _ _ _ _ _ _ _ _ _ _ _ _ _ _ _ _ _ _ _ _ _ _ _ _ _ _ _ _ _ _ _ _ _ _ _ _ _ _ _ _ _ _ _ _ _ _ _ _ _ _ _ _ _ _ _ _ _ _ _ _ _ _ _ _ _ _ _ _ _ _ _ _ _ _ _ _ _ _ _ _ _ _ _ _ _ _ _ _ _ _ _ _ _ _ _ _ _ _ _ _ _ _ _ _ _ _ _ _ _ _ _ _ _ _ _ _ _ _ _ _ _ _ _ _ _ _ _ _ _ _ _ _ _ _ _ _ _ _ _ _ _ _ _ _ _ _ _ _ _ _ _ _ _ _ _ _ _ _ _ _ _ _ _ _ _ _ _ _ _ _ _ _ _ _ _ _ _ _ _ _ _ _ _ _ _ _ _ _ _ _ _ _ _ _ _ _ _ _ (fun v7' v8' v9' y11 y12 y13 y14 y15 y16 y17 y18 y19 y20 y21 y22 y23 y24 y25 y26 y27 y28 y29 y30 y31 y32 y33 y34 y35 y36 y37 y38 y39 y40 y41 y42 y43 y44 y45 y46 y47 y48 y49 y50 y51 y52 y53 y54 y55 y56 y57 y58 y59 y60 y61 y62 y63 y64 y65 y66 y67 y68 y69 y70 y71 y72 y73 y74 y75 y76 y77 y78 y79 y80 y81 y82 y83 y84 y85 y86 y87 y88 y89 y90 y91 y92 y93 y94 y95 y96 y97 y98 y99 y100 y101 y102 y103 y104 y105 y106 y107 y108 y109 y110 y111 y112 y113 y114 y115 y116 y117 y118 y119 y120 y121 y122 y123 y124 y125 y126 y127 y128 y129 y130 y131 y132 y133 y134 y135 y136 y137 y138 y139 y140 y141 y142 y143 y144 y145 y146 y147 y148 y149 y150 y151 y152 y153 y154 y155 y156 y157 y158 y159 y160 y161 y162 y163 y164 y165 y166 y167 y168 y169 y170 y171 y172 y173 y174 y175 y176 y177 y178 y179 y180 y181 y182 y183 y184 y185 y186 y187 y188 y189 y190 y191 y192 y193 y194 y195 y196 y197 y198 y199 y200 y201 y202 y203 y204 y205 y206 y207 y208 y209 y210 y211 y212 y213 y214 y215 y216 y217 y218 y219 y220 y221 y222 y223 y224 y225 y226 y227 y228 y229 y230 y231 y232 y233 y234 W9 hNx => ?_)
        refine ex_then (ex_block (ex_next ?_))
        obtain ⟨p', S', tk', rfl, hMs⟩ := hNx
        have HMs : Hid (Ms Te J B lb W1 W9 v7' v8' S' tk' p' (i + 1)) := hMs
        clear hMs
        refine next_k (by assumption) ?_
        have hwi := w64n i (by have := HIM.out; omega)
        go_wp2_with fail
        clear hwi
        go_roundg (n - (i + 1))
        case measure => have := HI.out.1; have := HIM.out; omega
        case rel => exact ⟨i + 1, p', S', tk', rfl, by first | rfl | (rw [show (i : Int) + 1 = ((i + 1 : Nat) : Int) by omega]), ⟨rfl, HIM.out.1⟩, HMs⟩
      · rw [decide_eq_false hN]
        refine wp_cond_false rfl ?_
        refine wp_skip ?_
        dsimp only [Exit.then]
        refine next_k (by assumption) ?_
        obtain ⟨q, rfl⟩ : ∃ q : Nat, N = (q : Int) := ⟨N.toNat, by omega⟩
        clear hN
        refine prod_head HG.out HJ.out HN0.out HBA.out HLX.out HBS.out HGS.out HRI.out HWB.out HN2.out HM2.out HM7.out HM8.out HIM.out.2 HO2.out _ _ _ _ _ _ _ _ _ _ _ _ _ _ _ _ _ _ _ _ _ _ _ _ _ _ _ _ _ _ _ _ _ _ _ _ _ _ _ _ _ _ _ _ _ _ _ _ _ _ _ _ _ _ _ _ _ _ _ _ _ _ _ _ _ _ _ _ _ _ _ _ _ _ _ _ _ _ _ _ _ _ _ _ _ _ _ _ _ _ _ _ _ _ _ _ _ _ _ _ _ _ _ _ _ _ _ _ _ _ _ _ _ _ _ _ _ _ _ _ _ _ _ _ _ _ _ _ _ _ _ _ _ _ _ _ _ _ _ _ _ _ _ _ _ _ _ _ _ _ _ _ _ _ _ _ _ _ _ _ _ _ _ _ _ _ _ _ _ _ _ _ _ _ _ _ _ _ _ _ _ _ _ _ _ _ _ _ _ _ _ _ _ _ _ _ _ _ _ _ _ _ _ _ _ _ _ _ _ _ _ _ _ _ _ _ _ _ _ _ _ _ _ _ _ _ _ _ _ _ _ _ (fun v7' v8' v9' y11 y12 y13 y14 y15 y16 y17 y18 y19 y20 y21 y22 y23 y24 y25 y26 y27 y28 y29 y30 y31 y32 y33 y34 y35 y36 y37 y38 y39 y40 y41 y42 y43 y44 y45 y46 y47 y48 y49 y50 y51 y52 y53 y54 y55 y56 y57 y58 y59 y60 y61 y62 y63 y64 y65 y66 y67 y68 y69 y70 y71 y72 y73 y74 y75 y76 y77 y78 y79 y80 y81 y82 y83 y84 y85 y86 y87 y88 y89 y90 y91 y92 y93 y94 y95 y96 y97 y98 y99 y100 y101 y102 y103 y104 y105 y106 y107 y108 y109 y110 y111 y112 y113 y114 y115 y116 y117 y118 y119 y120 y121 y122 y123 y124 y125 y126 y127 y128 y129 y130 y131 y132 y133 y134 y135 y136 y137 y138 y139 y140 y141 y142 y143 y144 y145 y146 y147 y148 y149 y150 y151 y152 y153 y154 y155 y156 y157 y158 y159 y160 y161 y162 y163 y164 y165 y166 y167 y168 y169 y170 y171 y172 y173 y174 y175 y176 y177 y178 y179 y180 y181 y182 y183 y184 y185 y186 y187 y188 y189 y190 y191 y192 y193 y194 y195 y196 y197 y198 y199 y200 y201 y202 y203 y204 y205 y206 y207 y208 y209 y210 y211 y212 y213 y214 y215 y216 y217 y218 y219 y220 y221 y222 y223 y224 y225 y226 y227 y228 y229 y230 y231 y232 y233 y234 W9 hNx => ?_) (fun v7' v8' v9' y11 y12 y13 y14 y15 y16 y17 y18 y19 y20 y21 y22 y23 y24 y25 y26 y27 y28 y29 y30 y31 y32 y33 y34 y35 y36 y37 y38 y39 y40 y41 y42 y43 y44 y45 y46 y47 y48 y49 y50 y51 y52 y53 y54 y55 y56 y57 y58 y59 y60 y61 y62 y63 y64 y65 y66 y67 y68 y69 y70 y71 y72 y73 y74 y75 y76 y77 y78 y79 y80 y81 y82 y83 y84 y85 y86 y87 y88 y89 y90 y91 y92 y93 y94 y95 y96 y97 y98 y99 y100 y101 y102 y103 y104 y105 y106 y107 y108 y109 y110 y111 y112 y113 y114 y115 y116 y117 y118 y119 y120 y121 y122 y123 y124 y125 y126 y127 y128 y129 y130 y131 y132 y133 y134 y135 y136 y137 y138 y139 y140 y141 y142 y143 y144 y145 y146 y147 y148 y149 y150 y151 y152 y153 y154 y155 y156 y157 y158 y159 y160 y161 y162 y163 y164 y165 y166 y167 y168 y169 y170 y171 y172 y173 y174 y175 y176 y177 y178 y179 y180 y181 y182 y183 y184 y185 y186 y187 y188 y189 y190 y191 y192 y193 y194 y195 y196 y197 y198 y199 y200 y201 y202 y203 y204 y205 y206 y207 y208 y209 y210 y211 y212 y213 y214 y215 y216 y217 y218 y219 y220 y221 y222 y223 y224 y225 y226 y227 y228 y229 y230 y231 y232 y233 y234 W9 hNx => ?_)
        · refine ex_block (ex_next ?_)
          obtain ⟨p', S', tk', rfl, hMs⟩ := hNx
          have HMs : Hid (Ms Te J B lb W1 W9 v7' v8' S' tk' p' (i + 1)) := hMs
          clear hMs
          refine next_k (by assumption) ?_
          have hwi := w64n i (by have := HIM.out; omega)
          go_wp2_with fail
          clear hwi
          go_roundg (n - (i + 1))
          case measure => have := HI.out.1; have := HIM.out; omega
          case rel => exact ⟨i + 1, p', S', tk', rfl, by first | rfl | (rw [show (i : Int) + 1 = ((i + 1 : Nat) : Int) by omega]), ⟨rfl, HIM.out.1⟩, HMs⟩
        · refine ex_blockn (ex_next ?_)
          obtain ⟨p', S', tk', rfl, hMs⟩ := hNx
          have HMs : Hid (Ms Te J B lb W1 W9 v7' v8' S' tk' p' (i + 1)) := hMs
          clear hMs
          refine next_k (by assumption) ?_
          have hwi := w64n i (by have := HIM.out; omega)
          go_wp2_with fail
          clear hwi
          go_roundg (n - (i + 1))
          case measure => have := HI.out.1; have := HIM.out; omega
          case rel => exact ⟨i + 1, p', S', tk', rfl, by first | rfl | (rw [show (i : Int) + 1 = ((i + 1 : Nat) : Int) by omega]), ⟨rfl, HIM.out.1⟩, HMs⟩
    · have HTL : Hid (S.length ≤ 131072 ∧ phi (S.map ep) ≤ 131072) := by
        have h1 := HM.out.q
        have h2 := phi_len (S.map ep)
        rw [List.length_map] at h2
        show _ ∧ _; omega
      have HRS : Hid (∃ S' tk' p', Mst w.heap.size wr (.slice a7 S.length c7) (.slice a8 tk.length c8) S' tk' ∧ J (S'.map ep) tk' p' ∧ S'.length ≤ 131072 ∧ phi (S'.map ep) ≤ 131072 ∧ Below w.heap.size w wr) := ⟨S, tk, p, ⟨row_base HM.out.m.s (by rw [← HBB.out]; exact HB1.out.size), row_base HM.out.m.t (by rw [← HBB.out]; exact HB1.out.size), fun x hx => ⟨row_base (HM.out.m.e x hx).1 (by rw [← HBB.out]; exact HB1.out.size), (HM.out.m.e x hx).2⟩⟩, HM.out.j, HTL.out.1, HTL.out.2, HBA.out _ HM.out.b⟩
      obtain ⟨m7, hm7⟩ : ∃ m, S.length = m := ⟨_, rfl⟩
      obtain ⟨m8, hm8⟩ : ∃ m, tk.length = m := ⟨_, rfl⟩
      rw [hm7, hm8] at HRS ⊢
      clear hm7 hm8
      by_cases h1 : i < n
      · have e1 : decide ((i : Int) < (n : Int)) = true := by rw [decide_eq_true_eq]; omega
        have e2 : decide (i < n) = true := by rw [decide_eq_true_eq]; omega
        have e3 : decide ((i : Int) < 65536) = false := by rw [decide_eq_false_iff_not]; omega
        have e4 : decide (i < 65536) = false := by rw [decide_eq_false_iff_not]; omega
        clear hi h1
        go_wp2_with fail
        (try simp only [Exit.inBlock, Exit.then])
        obtain ⟨S', tk', p', r1, r2, r3, r4, r5⟩ := HRS.out
        refine bodyPost_ret (v := .tuple #[.slice a7 m7 c7, .slice a8 m8 c8, .bool true]) ?_ rfl ⟨_, _, S', tk', p', rfl, r1, r2, r3, r4, r5⟩
        simp [results, Try.results24, go_sem]
      · have e1 : decide ((i : Int) < (n : Int)) = false := by rw [decide_eq_false_iff_not]; omega
        have e2 : decide (i < n) = false := by rw [decide_eq_false_iff_not]; omega
        clear hi h1
        go_wp2_with fail
        (try simp only [Exit.inBlock, Exit.then])
        obtain ⟨S', tk', p', r1, r2, r3, r4, r5⟩ := HRS.out
        refine bodyPost_ret (v := .tuple #[.slice a7 m7 c7, .slice a8 m8 c8, .bool true]) ?_ rfl ⟨_, _, S', tk', p', rfl, r1, r2, r3, r4, r5⟩
        simp [results, Try.results24, go_sem]
end Go.Proofs.Ytcfmpmhdjkchjaa
