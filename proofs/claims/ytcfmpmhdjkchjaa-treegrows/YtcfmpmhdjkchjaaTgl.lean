import Derived.Test.YtcfmpmhdjkchjaaTgs
import Derived.Test.YtcfmpmhdjkchjaaTmh
import Derived.Test.YtcfmpmhdjkchjaaTal
namespace Go.Proofs.Ytcfmpmhdjkchjaa
open Go.RowKit Go.Maps

theorem phi_memG : ∀ (S : List En) (x : En), x ∈ S → x.2.2.1.length ≤ phi (S.map ep)
  | [], x, h => by cases h
  | y :: l, x, h => by
    rcases List.mem_cons.1 h with rfl | h
    · show _ ≤ x.2.2.1.length + 1 + phi (l.map ep); omega
    · have := phi_memG l x h
      show _ ≤ y.2.2.1.length + 1 + phi (l.map ep); omega
set_option maxRecDepth 1000000 in
set_option maxHeartbeats 64000000 in
theorem treeGrows_any {v0 v1 v2 vs : Value} {Te : List Td} {Sy : List Sd} {P : List Pd} {L : List Op3} (u : Nat → Value) (w : World) (hg : Gx w v0 v1 v2 Te Sy P) (hgs : Gs Te Sy P) (hri : ∀ x ∈ P, ∀ r ∈ x.2.2, r.1 ≤ 9223372036854775807) (hlm : ∀ x ∈ P, x.1 ≤ 9223372036854775807) (hst : Rw w vs L.length (flat opf L)) (hsz : L.length * 24 + 4096 ≤ 140737488355328) :
    Calls Try.prog 4 #[lgv u v0 v1 v2, vs] w fun e w' => e = .returned (.bool true) ∧ Below w.heap.size w w' := by
  obtain ⟨a0, c0, a1, c1, a2, c2, rfl, rfl, rfl⟩ := hg.form
  obtain ⟨n0, hn0⟩ : ∃ n, Te.length = n := ⟨_, rfl⟩
  obtain ⟨n1, hn1⟩ : ∃ n, Sy.length = n := ⟨_, rfl⟩
  obtain ⟨n2, hn2⟩ : ∃ n, P.length = n := ⟨_, rfl⟩
  have HN0 : Hid (Te.length = n0) := hn0
  have HN1 : Hid (Sy.length = n1) := hn1
  have HNS : Hid (n0 ≤ 5864062014804 ∧ n1 ≤ 5864062014804) := by have h7 := hgs.t; have h8 := hgs.s; show _ ∧ _; omega
  have HG : Hid (Gx w (.slice a0 n0 c0) (.slice a1 n1 c1) (.slice a2 n2 c2) Te Sy P) := by rw [← hn0, ← hn1, ← hn2]; exact hg
  rw [hn0, hn1, hn2]
  obtain ⟨W1, hW1⟩ : ∃ W1, W1 = w.alloc (.cells #[u 0, u 1, .slice a0 n0 c0, .slice a1 n1 c1, .slice a2 n2 c2, u 5, u 6, u 7, u 8, u 9, u 10, u 11] 52) := ⟨_, rfl⟩
  have HB1 : Hid (Below w.heap.size w W1) := by rw [hW1]; exact bel_up _ _
  have HX1 : Hid (W1.heap[w.heap.size]? = some (.cells #[u 0, u 1, .slice a0 n0 c0, .slice a1 n1 c1, .slice a2 n2 c2, u 5, u 6, u 7, u 8, u 9, u 10, u 11] 52 (0, 0))) := by rw [hW1]; exact heap_new _ _
  have HMD : Hid (∀ W, Below w.heap.size w W → Calls Try.prog 24 #[.agg #[u 0, u 1, .slice a0 n0 c0, .slice a1 n1 c1, .slice a2 n2 c2, u 5, u 6, u 7, u 8, u 9, u 10, u 11], vs] W fun e w' => ∃ v7 v8 S tk p, e = .returned (.tuple #[v7, v8, .bool true]) ∧ Mst W.heap.size w' v7 v8 S tk ∧ Gw Te Sy (S.map ep) tk p ∧ S.length ≤ 131072 ∧ phi (S.map ep) ≤ 131072 ∧ Below W.heap.size W w') := fun W hb => made_any u W (HG.out.up hb) hgs hri (hst.up hb) hsz (kp_grows Te Sy P hlm (by have := HNS.out; omega))
  clear hg hgs hri hlm hst hsz hn0 hn1 hn2
  unfold lgv
  go_enter Try.func4, Try.ntmps4
  go_upto_region 1 with fail
  rw [← hW1]
  clear hW1
  obtain ⟨lb, hlb⟩ : ∃ lb, w.heap.size = lb := ⟨_, rfl⟩
  rw [hlb] at HX1 ⊢
  clear hlb
  go_upto_region 3 with (go_at_call 23; refine Calls.mono (alive_any _) ?_; rintro ee W2 ⟨rfl, hb2⟩; have HB2 : Hid (Below w.heap.size w W2) := below_trans HB1.out hb2; have HX2 : Hid (W2.heap[lb]? = some (.cells #[u 0, u 1, .slice a0 n0 c0, .slice a1 n1 c1, .slice a2 n2 c2, u 5, u 6, u 7, u 8, u 9, u 10, u 11] 52 (0, 0))) := (hb2.block lb (lt_of_heap HX1.out)).trans HX1.out; clear hb2)
  go_wp2_with fail
  go_loopg [5, 6] n1 (fun gm v5 _ wr => ∃ i : Nat, v5 = .int .i64 (i : Int) ∧ Hid (gm = n1 - i ∧ i ≤ n1) ∧ wr = W2)
  case atStart => exact ⟨0, rfl, ⟨rfl, Nat.zero_le _⟩, rfl⟩
  case round =>
    obtain ⟨i, rfl, HI, rfl⟩ := hrel
    have l3 := rcell HX2.out 3 _ rfl
    by_cases hi : i < n1
    · have g1 : (i : Int) < (n1 : Int) := by omega
      have g2 : i < n1 := hi
      have HIN : Hid (i < n1) := hi
      obtain ⟨sg, so, rfl, _, y1⟩ := (HG.out.up HB2.out).sym i (by rw [HN1.out]; exact hi)
      obtain ⟨k, hk⟩ : ∃ k, (Sy.getD i sdd).2 = k := ⟨_, rfl⟩
      rw [hk] at y1
      have HWI : Hid (IntKind.i64.wrap ((i : Int) + 1) = ((i + 1 : Nat) : Int)) := w64n i (by have := HNS.out; have := HIN.out; omega)
      clear hi hk
      by_cases b1 : k < 1
      · have f1 : k < 1 := b1
        go_wp2_with fail
        (try simp only [Exit.inBlock, Exit.then])
        go_ret
        exact ⟨rfl, HB2.out⟩
      · by_cases b2 : 3 < k
        · have f1 : 1 ≤ k := by omega
          have f2 : 3 < k := b2
          go_wp2_with fail
          (try simp only [Exit.inBlock, Exit.then])
          go_ret
          exact ⟨rfl, HB2.out⟩
        · have f1 : 1 ≤ k := by omega
          have f2 : k ≤ 3 := by omega
          have hwi := HWI.out
          clear b1 b2
          go_wp2_with fail
          clear hwi
          go_roundg (n1 - (i + 1))
          case measure => have := HI.out.1; have := HIN.out; omega
          case rel => exact ⟨i + 1, by first | rfl | (rw [show (i : Int) + 1 = ((i + 1 : Nat) : Int) by omega]), ⟨rfl, HIN.out⟩, rfl⟩
    · have g1 : ¬ (i : Int) < (n1 : Int) := by omega
      have g2 : ¬ i < n1 := hi
      clear hi
      go_upto_region 9 with fail
      clear g1 g2 l3
      have t0 := rcell HX2.out 0 _ rfl
      have t1 := rcell HX2.out 1 _ rfl
      have t2 := rcell HX2.out 2 _ rfl
      have t3 := rcell HX2.out 3 _ rfl
      have t4 := rcell HX2.out 4 _ rfl
      have t5 := rcell HX2.out 5 _ rfl
      have t6 := rcell HX2.out 6 _ rfl
      have t7 := rcell HX2.out 7 _ rfl
      have t8 := rcell HX2.out 8 _ rfl
      have t9 := rcell HX2.out 9 _ rfl
      have t10 := rcell HX2.out 10 _ rfl
      have t11 := rcell HX2.out 11 _ rfl
      go_upto_region 12 with (go_at_call 24; refine Calls.mono (HMD.out wr HB2.out) ?_; rintro ee W4 ⟨v7, v8, S, tk, p, rfl, hm4, hc4, hl4, hp4, hb4⟩; have HM4 : Hid (Mst wr.heap.size W4 v7 v8 S tk) := hm4; have HC4 : Hid (Gw Te Sy (S.map ep) tk p) := hc4; have HL4 : Hid (S.length ≤ 131072 ∧ phi (S.map ep) ≤ 131072) := ⟨hl4, hp4⟩; have HB4 : Hid (Below w.heap.size w W4) := below_trans HB2.out hb4; have HX4 : Hid (W4.heap[lb]? = some (.cells #[u 0, u 1, .slice a0 n0 c0, .slice a1 n1 c1, .slice a2 n2 c2, u 5, u 6, u 7, u 8, u 9, u 10, u 11] 52 (0, 0))) := (hb4.block lb (lt_of_heap HX2.out)).trans HX2.out; clear hm4 hc4 hl4 hp4 hb4)
      clear t0 t1 t2 t3 t4 t5 t6 t7 t8 t9 t10 t11
      obtain ⟨a7, c7, hv7⟩ := row_shape HM4.out.s
      obtain ⟨a8, c8, hv8⟩ := row_shape HM4.out.t
      subst hv7 hv8
      obtain ⟨m7, hm7⟩ : ∃ m, S.length = m := ⟨_, rfl⟩
      obtain ⟨m8, hm8⟩ : ∃ m, tk.length = m := ⟨_, rfl⟩
      have HM7 : Hid (S.length = m7) := hm7
      have HM8 : Hid (tk.length = m8) := hm8
      have H8M : Hid (m8 ≤ 9223372036854775807) := by
        show _ ≤ _
        rcases Nat.eq_zero_or_pos m8 with e | e
        · omega
        · obtain ⟨_, _, _, _, h7, h8⟩ := row_form HM4.out.t (by omega)
          unfold maxLen at h8
          omega
      have HTR : Hid (∀ W, Below W4.heap.size W4 W → W.ownsRow wr.heap.size 33 7 (.slice a8 m8 c8) m8 (flat nf tk)) := fun W hb => by have h7 := row_up HM4.out.t hb; rw [hm8] at h7; exact h7
      have HSR : Hid (∀ W, Below W4.heap.size W4 W → W.ownsRow wr.heap.size 61 3 (.slice a7 m7 c7) m7 (flat mf S)) := fun W hb => by have h7 := row_up HM4.out.s hb; rw [hm7] at h7; exact h7
      have HLF : Hid (Lf tk 0 ((S.drop 0).map (fun x => x.2.2.1)).flatten m8) := by
        have h7 := HC4.out.l
        rw [List.map_map, hm8] at h7
        exact h7
      rw [hm7, hm8]
      clear hm7 hm8 HMD HX1 HB1 HI HX2
      go_wp2_with fail
      obtain ⟨wi, rfl⟩ : ∃ wi, wi = wr := ⟨_, rfl⟩
      go_loopg [10, 11] m7 (fun gm v10 v11 wr => ∃ i nx : Nat, v11 = .int .i64 (i : Int) ∧ v10 = .int .i64 (nx : Int) ∧ Hid (gm = m7 - i ∧ i ≤ m7) ∧ Hid (Lf tk nx ((S.drop i).map (fun x => x.2.2.1)).flatten m8) ∧ Hid (Below W4.heap.size W4 wr))
      case atStart => exact ⟨0, 0, rfl, rfl, ⟨rfl, Nat.zero_le _⟩, HLF, Below.refl _ _⟩
      case round =>
        clear HLF
        obtain ⟨i, nx, rfl, rfl, HI, HLF, HB⟩ := hrel
        by_cases hi : i < m7
        · have g1 : (i : Int) < (m7 : Int) := by omega
          have g2 : i < m7 := hi
          have HIM : Hid (i < m7) := hi
          have hlt : i < S.length := by rw [HM7.out]; exact hi
          obtain ⟨g7, cc7, hv7, _⟩ := row_form HM4.out.s (by omega)
          obtain ⟨rfl, -, rfl⟩ := Value.slice.inj hv7
          have hmem := getD_mem S end_ i hlt
          obtain ⟨wa, wb, rs, hsp, hsq⟩ := chs_all HC4.out.w _ (List.mem_map.2 ⟨_, hmem, rfl⟩)
          have hss := HC4.out.s _ (List.mem_map.2 ⟨_, hmem, rfl⟩)
          have hph := phi_memG S _ hmem
          have hd : S.drop i = S.getD i end_ :: S.drop (i + 1) := by rw [List.drop_eq_getElem_cons hlt, List.getD_eq_getElem?_getD, List.getElem?_eq_getElem hlt]; rfl
          have HRX : Hid (∀ W, Below W4.heap.size W4 W → W.ownsRow wi.heap.size 33 7 (S.getD i end_).2.1 (S.getD i end_).2.2.1.length (flat nf (S.getD i end_).2.2.1)) := fun W hb => row_up (HM4.out.e _ hmem).1 hb
          have hc0 := row_at (HSR.out _ HB.out) (i * 3) _ (mf_get S i hlt).2.2
          have hc1 := row_at (HSR.out _ HB.out) (i * 3 + 1) _ (mf_get S i hlt).1
          have hLF := HLF.out
          rw [hd, List.map_cons, List.flatten_cons] at hLF
          obtain ⟨xx, hxx⟩ : ∃ xx, S.getD i end_ = xx := ⟨_, rfl⟩
          rw [hxx] at hsp hss hph HRX hc0 hc1 hLF
          obtain ⟨sy, tv, X, en⟩ := xx
          dsimp only at hph hc0 hc1 hLF
          have HSP : Hid (Sp (kys X) rs ∧ sq wa rs wb) := ⟨hsp, hsq⟩
          have HSS : Hid (∀ a : Nat, a < Sy.length → ish Sy (a : Int) = true → IntKind.i64.wrap (sy - (Te.length : Int)) = (a : Int) → rt (kds X) = some 1) := hss
          have HLX : Hid (Lf tk nx (X ++ ((S.drop (i + 1)).map (fun x => x.2.2.1)).flatten) m8) := hLF
          obtain ⟨tl, htl⟩ : ∃ tl, X.length = tl := ⟨_, rfl⟩
          have HTL : Hid (X.length = tl) := htl
          have HTS : Hid (tl ≤ 131072) := by show _ ≤ _; have := HL4.out; omega
          have HSX : Hid (Sm X) := by show _ ≤ _; have := HTS.out; omega
          have HRX2 : Hid (∀ W, Below W4.heap.size W4 W → W.ownsRow wi.heap.size 33 7 tv tl (flat nf X)) := fun W hb => by have h7 := HRX.out W hb; dsimp only at h7; rw [htl] at h7; exact h7
          obtain ⟨ta, tc, rfl⟩ := row_shape (HRX2.out _ HB.out)
          have HNX : Hid (∀ W, Below W4.heap.size W4 W → Ns W (.slice ta tl tc) X) := fun W hb => by show Rw _ _ _ _; rw [HTL.out]; exact row_rw (HRX2.out W hb) (by decide)
          have HRT : Hid (rt (kds X) = some rs.length) := hsp.fo
          have HRO : Hid (∀ W, Below W4.heap.size W4 W → Calls Try.prog 25 #[.slice ta tl tc] W fun e w' => e = .returned (.int .i64 (rs.length : Int)) ∧ W = w') := fun W hb => by
            have h7 := roots_any W (HNX.out W hb) HSX.out
            rw [rts_some HRT.out] at h7
            exact h7
          have HNE : Hid (∀ W, Below W4.heap.size W4 W → Calls Try.prog 26 #[.slice ta tl tc] W fun e w' => e = .returned (.bool true) ∧ Below W.heap.size W w') := fun W hb => nested_any W (HNX.out W hb) HSX.out HSP.out.1 HSP.out.2
          have HX5 : Hid (∀ W, Below W4.heap.size W4 W → W.heap[lb]? = some (.cells #[u 0, u 1, .slice a0 n0 c0, .slice a1 n1 c1, .slice a2 n2 c2, u 5, u 6, u 7, u 8, u 9, u 10, u 11] 52 (0, 0))) := fun W hb => (hb.block lb (lt_of_heap HX4.out)).trans HX4.out
          obtain ⟨nr, hnr⟩ : ∃ nr, rs.length = nr := ⟨_, rfl⟩
          rw [hnr] at HRT HRO
          have HC0 : Hid (wr.cell? ⟨g7, i * 3, none⟩ = some (.int .i64 sy)) := hc0
          have HIW : Hid (IntKind.i64.wrap ((i : Int) + 1) = ((i + 1 : Nat) : Int)) := w64n i (by have := HL4.out; have := HM7.out; have := HIM.out; omega)
          have e9 : ¬ (nr : Int) < 0 := by omega
          clear hi hlt hv7 hmem hsp hsq hss hph hd hc0 hLF hxx htl hnr HLF HRX
          go_upto_region 20 with (go_at_call 25; refine Calls.mono (HRO.out wr HB.out) ?_; rintro ee ww ⟨rfl, rfl⟩)
          clear hc1 e9
          have hc0 := HC0.out
          have l2 := rcell (HX5.out _ HB.out) 2 _ rfl
          go_region
          clear hc0 l2
          obtain ⟨W5, hW5⟩ : ∃ W5, wr.drew = W5 := ⟨_, rfl⟩
          have HB5 : Hid (Below W4.heap.size W4 W5) := by rw [← hW5]; exact Below.drew HB.out
          rw [hW5]
          clear hW5
          obtain ⟨zz, hzz⟩ : ∃ zz, wrap64 (sy - (n0 : Int)) = zz := ⟨_, rfl⟩
          have HZZ : Hid (IntKind.i64.wrap (sy - (Te.length : Int)) = zz) := by show _ = _; rw [HN0.out, ← hzz, IntKind.wrap_i64]; unfold wrap64; omega
          rw [hzz]
          clear hzz
          go_upto_region 21 with fail
          go_cut [97] from 74 to 97 (fun v97 wx => v97 = .bool false ∧ wx = W5)
          case first =>
            have l3 := rcell (HX5.out _ HB5.out) 3 _ rfl
            by_cases b1 : zz < 0
            · have f1 : zz < 0 := b1
              go_wp2_with fail
              go_meet
              exact ⟨rfl, rfl⟩
            · by_cases b2 : (n1 : Int) ≤ zz
              · have f1 : 0 ≤ zz := by omega
                have f2 : (n1 : Int) ≤ zz := b2
                go_wp2_with fail
                go_meet
                exact ⟨rfl, rfl⟩
              · obtain ⟨z, rfl⟩ : ∃ z : Nat, zz = (z : Int) := ⟨zz.toNat, by omega⟩
                have f1 : (z : Int) < (n1 : Int) := by omega
                have f2 : z < n1 := by omega
                obtain ⟨sg, so, rfl, _, y1⟩ := (HG.out.up (below_trans HB4.out HB5.out)).sym z (by rw [HN1.out]; exact f2)
                obtain ⟨k, hk⟩ : ∃ k, (Sy.getD z sdd).2 = k := ⟨_, rfl⟩
                rw [hk] at y1
                by_cases b3 : k = 1
                · have h1 := HSS.out z (by rw [HN1.out]; exact f2) (by unfold ish; rw [HN1.out, show ((z : Int)).toNat = z by simp, hk, b3]; simp; omega) HZZ.out
                  rw [HRT.out] at h1
                  obtain rfl : nr = 1 := by injection h1
                  subst b3
                  clear b1 b2 hk h1
                  go_wp2_with fail
                  go_meet
                  exact ⟨rfl, rfl⟩
                · have f3 : (k == 1) = false := by rw [beq_eq_false_iff_ne]; exact b3
                  clear b1 b2 b3 hk
                  go_wp2_with fail
                  go_meet
                  exact ⟨rfl, rfl⟩
          case rest =>
            obtain ⟨rfl, hwc⟩ := hcut
            rw [hwc]
            clear hwc
            go_upto_if 101 with (go_at_call 26; refine Calls.mono (HNE.out W5 HB5.out) ?_; rintro ee W6 ⟨rfl, hb6⟩; have HB6 : Hid (Below W4.heap.size W4 W6) := below_trans HB5.out hb6; clear hb6)
            refine wp_cond_false rfl ?_
            refine wp_skip ?_
            refine ex_nextN ?_
            refine next_kN (by assumption) ?_
            refine leaves_any (HTR.out W6 HB6.out) (HRX2.out W6 HB6.out) HM8.out HTL.out H8M.out (by have := HTS.out; omega) HLX.out _ _ _ _ _ _ _ _ _ _ _ _ _ _ _ _ _ _ _ _ _ _ _ _ _ _ _ _ _ _ _ _ _ _ _ _ _ _ _ _ _ _ _ _ _ _ _ _ _ _ _ _ _ _ _ _ _ _ _ _ _ _ _ _ _ _ _ _ _ _ _ _ _ _ _ _ _ _ _ _ _ _ _ _ _ _ _ _ _ _ _ _ _ _ _ _ _ _ _ _ _ _ _ _ _ _ _ _ _ _ _ _ _ _ _ _ _ _ _ _ _ _ _ _ _ _ _ _ _ _ _ _ _ _ _ _ _ _ _ _ _ _ _ _ _ _ _ _ _ _ _ _ _ _ _ _ _ _ _ _ _ _ _ _ _ _ _ _ _ _ _ _ _ _ _ _ _ _ _ _ _ _ _ _ _ _ _ _ _ _ _ _ _ _ _ _ _ _ _ _ _ _ _ _ _ _ _ _ _ _ _ _ _ _ _ _ _ (fun nx' y4 y16 y102 y103 y104 y105 y106 y107 y108 y109 y110 y111 y112 y113 y114 y115 y116 y117 y118 y119 y120 y121 y122 y123 y124 y125 y126 y127 y128 y129 y130 y131 y132 y133 y134 y135 y136 y137 y138 y139 y140 y141 y142 y143 y144 y145 y146 y147 y148 y149 y150 y151 y152 y153 y154 y155 y156 y157 y158 y159 y160 y161 y162 y163 y164 y165 y166 y167 y168 y169 y170 y171 y172 y173 y174 y175 y176 y177 y178 y179 y180 y181 y182 y183 y184 y185 y186 y187 y188 y189 y190 y191 y192 y193 y194 y195 y196 y197 y198 W9 hLn hb9 => ?_)
            have HLN : Hid (Lf tk nx' ((S.drop (i + 1)).map (fun x => x.2.2.1)).flatten m8) := hLn
            have HB9 : Hid (Below W4.heap.size W4 W9) := below_trans HB6.out hb9
            clear hLn hb9
            refine ex_blockn (ex_nextN ?_)
            refine next_kN (by assumption) ?_
            have hwi := HIW.out
            go_wp2_with fail
            clear hwi
            go_roundg (m7 - (i + 1))
            case measure => have := HI.out.1; have := HIM.out; omega
            case rel => exact ⟨i + 1, nx', by first | rfl | (rw [show (i : Int) + 1 = ((i + 1 : Nat) : Int) by omega]), rfl, ⟨rfl, HIM.out⟩, HLN, HB9⟩
        · have g1 : ¬ (i : Int) < (m7 : Int) := by omega
          have g2 : ¬ i < m7 := hi
          have HEN : Hid (nx ≤ m8 ∧ ∀ t, nx ≤ t → t < m8 → hid tk t) := by
            have h7 := HLF.out
            rw [List.drop_eq_nil_of_le (by rw [HM7.out]; omega)] at h7
            exact ⟨h7.1, h7.2.2⟩
          clear hi
          go_wp2_with fail
          obtain ⟨wo, rfl⟩ : ∃ wo, wo = wr := ⟨_, rfl⟩
          go_loopg [10] (m8 - nx) (fun gm v10 wr => ∃ q : Nat, v10 = .int .i64 (q : Int) ∧ Hid (gm = m8 - q ∧ nx ≤ q ∧ q ≤ m8) ∧ wr = wo)
          case atStart => exact ⟨nx, rfl, ⟨rfl, Nat.le_refl _, HEN.out.1⟩, rfl⟩
          case round =>
            obtain ⟨q, rfl, HQ9, rfl⟩ := hrel
            by_cases hq : q < m8
            · have f1 : (q : Int) < (m8 : Int) := by omega
              have f2 : q < m8 := hq
              have HQN : Hid (q < m8) := hq
              obtain ⟨g8, cc8, hv8, _⟩ := row_form (HTR.out _ HB.out) (by omega)
              obtain ⟨rfl, -, rfl⟩ := Value.slice.inj hv8
              obtain ⟨r, hr⟩ := hid_name (HEN.out.2 q HQ9.out.2.1 hq)
              have k8 := row_at (HTR.out _ HB.out) (q * 7 + 0) _ (by rw [flat_get nf_len ndd tk q 0 (by rw [HM8.out]; exact hq) (by decide)]; rfl)
              rw [hr, Nat.add_zero] at k8
              obtain ⟨s, hs⟩ : ∃ s : ByteArray, (⟨(95 :: r).toArray⟩ : ByteArray) = s := ⟨_, rfl⟩
              rw [hs] at k8
              have s1 : s.toList.isEmpty = false := by rw [← hs, ByteArray.toList_eq]; rfl
              have s2 : 0 < s.size := by rw [← hs]; show 0 < (95 :: r).toArray.size; simp
              have s2i : (0 : Int) < (s.size : Int) := by omega
              have s3 : (s[0]).toNat = 95 := by subst hs; rfl
              have HWQ : Hid (IntKind.i64.wrap ((q : Int) + 1) = ((q + 1 : Nat) : Int)) := w64n q (by have := H8M.out; have := HQN.out; omega)
              have hwq := HWQ.out
              clear hq hr hs hv8
              go_wp2_with fail
              clear hwq
              go_roundg (m8 - (q + 1))
              case measure => have := HQ9.out; have := HQN.out; omega
              case rel => exact ⟨q + 1, by first | rfl | (rw [show (q : Int) + 1 = ((q + 1 : Nat) : Int) by omega]), ⟨rfl, by have := HQ9.out; omega, HQN.out⟩, rfl⟩
            · have f1 : ¬ (q : Int) < (m8 : Int) := by omega
              have f2 : ¬ q < m8 := hq
              clear hq
              go_wp2_with fail
              (try simp only [Exit.inBlock, Exit.then])
              go_ret
              exact ⟨rfl, below_trans HB4.out HB.out⟩
end Go.Proofs.Ytcfmpmhdjkchjaa
