import Derived.Test.YtcfmpmhdjkchjaaTmh
import Derived.Test.YtcfmpmhdjkchjaaTpx
import Derived.Test.YtcfmpmhdjkchjaaTal
import Derived.Test.YtcfmpmhdjkchjaaTcs
namespace Go.Proofs.Ytcfmpmhdjkchjaa
open Go.RowKit Go.Maps

theorem chs_wp {S : List Ep} {lo hi : Int} (h : chs lo S hi) (i : Nat) (hi' : i < S.length) : ∃ a b, Wp (S.getD i (0, [], 0)).2.1 a b := by
  induction S generalizing lo i with
  | nil => cases hi'
  | cons x l ih =>
    cases i with
    | zero => exact ⟨_, _, h.1⟩
    | succ i => exact ih h.2 i (Nat.lt_of_succ_lt_succ hi')
theorem ep_get (S : List En) (i : Nat) (h : i < S.length) : ((S.map ep).getD i (0, [], 0)).2.1 = (S.getD i end_).2.2.1 := by
  rw [List.getD_eq_getElem?_getD, List.getElem?_map, List.getElem?_eq_getElem h, List.getD_eq_getElem?_getD, List.getElem?_eq_getElem h]
  rfl
theorem phi_mem : ∀ (S : List En) (x : En), x ∈ S → x.2.2.1.length ≤ phi (S.map ep)
  | [], x, h => by cases h
  | y :: l, x, h => by
    rcases List.mem_cons.1 h with rfl | h
    · show _ ≤ x.2.2.1.length + 1 + phi (l.map ep); omega
    · have := phi_mem l x h
      show _ ≤ y.2.2.1.length + 1 + phi (l.map ep); omega
theorem wtl_step (t : List Nd) (z : Int) (j : Nat) : wtl t z 0 (j + 1) = wtl t z 0 j ++ (if cvr (t.getD j ndd) z then [((j : Nat) : Int)] else []) := by
  rw [wtl_app t z 0 j (j + 1) (Nat.zero_le _) (by omega)]
  congr 1
  unfold wtl
  rw [show j + 1 - j = 1 by omega]
  show List.map _ (List.filter _ [j]) = _
  rw [List.filter_cons]
  cases hc : cvr (t.getD j ndd) z <;> rfl
theorem wtl_len (t : List Nd) (z : Int) (a b : Nat) : (wtl t z a b).length ≤ b - a := by
  unfold wtl
  rw [List.length_map]
  exact Nat.le_trans (List.length_filter_le _ _) (by rw [List.length_range']; exact Nat.le_refl _)
theorem prt_pl {t : List Nd} (hF : Fo (kds t)) (c : Nat) (hc : c < (kds t).length) : prt t (c : Int) = pl (kds t) c := by
  unfold prt
  have hs : std t (c : Int) = true := by
    rcases @rts_fo t with ⟨r, _, h2⟩ | ⟨h1, _⟩
    · unfold std
      rw [kds_len] at hc
      rw [h2]
      simp only [Bool.and_eq_true, decide_eq_true_eq]
      omega
    · obtain ⟨r, hr⟩ := hF
      rw [hr] at h1; cases h1
  rw [if_pos hs]
  rfl
/-- What stays of a stack while it is looked at. -/
structure Lk (B : Nat) (w W : World) (v7 v8 : Value) (S : List En) (tk : List Nd) : Prop where
  m : Mst B W v7 v8 S tk
  b : Below w.heap.size w W
theorem Lk.up {B : Nat} {w W W' : World} {v7 v8 : Value} {S : List En} {tk : List Nd} (h : Lk B w W v7 v8 S tk) (hb : Below W.heap.size W W') : Lk B w W' v7 v8 S tk := ⟨h.m.up hb, below_trans h.b hb⟩
set_option maxRecDepth 100000 in
set_option maxHeartbeats 32000000 in
theorem treeCovers_any {v0 v1 v2 vs : Value} {Te : List Td} {Sy : List Sd} {P : List Pd} {L : List Op3} (u : Nat → Value) (z : Int) (w : World) (hg : Gx w v0 v1 v2 Te Sy P) (hgs : Gs Te Sy P) (hri : ∀ x ∈ P, ∀ r ∈ x.2.2, r.1 ≤ 9223372036854775807) (hst : Rw w vs L.length (flat opf L)) (hsz : L.length * 24 + 4096 ≤ 140737488355328) :
    Calls Try.prog 5 #[lgv u v0 v1 v2, vs, .int .i64 z] w fun e w' => e = .returned (.bool true) ∧ Below w.heap.size w w' := by
  obtain ⟨i3, hi3, ht0, ht1, ht2⟩ := info_parts info3
  obtain ⟨W1, hW1⟩ : ∃ W1, W1 = w.alloc (.cells #[u 0, u 1, v0, v1, v2, u 5, u 6, u 7, u 8, u 9, u 10, u 11] 52) := ⟨_, rfl⟩
  have HB1 : Hid (Below w.heap.size w W1) := by rw [hW1]; exact bel_up _ _
  have HX1 : Hid (W1.heap[w.heap.size]? = some (.cells #[u 0, u 1, v0, v1, v2, u 5, u 6, u 7, u 8, u 9, u 10, u 11] 52 (0, 0))) := by rw [hW1]; exact heap_new _ _
  have HMD : Hid (∀ W, Below w.heap.size w W → Calls Try.prog 24 #[.agg #[u 0, u 1, v0, v1, v2, u 5, u 6, u 7, u 8, u 9, u 10, u 11], vs] W fun e w' => ∃ v7 v8 S tk p, e = .returned (.tuple #[v7, v8, .bool true]) ∧ Mst W.heap.size w' v7 v8 S tk ∧ chs 0 (S.map ep) ((p : Nat) : Int) ∧ S.length ≤ 131072 ∧ phi (S.map ep) ≤ 131072 ∧ Below W.heap.size W w') := fun W hb => made_any u W (hg.up hb) hgs hri (hst.up hb) hsz (kp_chs Te Sy P)
  clear hg hgs hri hst hsz
  unfold lgv
  go_enter Try.func5, Try.ntmps5
  go_upto_region 1 with fail
  rw [← hW1]
  clear hW1
  obtain ⟨lb, hlb⟩ : ∃ lb, w.heap.size = lb := ⟨_, rfl⟩
  have HLB : Hid (w.heap.size = lb) := hlb
  rw [hlb] at HX1 ⊢
  clear hlb
  go_upto_region 3 with (go_at_call 23; refine Calls.mono (alive_any _) ?_; rintro ee W2 ⟨rfl, hb2⟩; have HB2 : Hid (Below w.heap.size w W2) := below_trans HB1.out hb2; have HX2 : Hid (W2.heap[lb]? = some (.cells #[u 0, u 1, v0, v1, v2, u 5, u 6, u 7, u 8, u 9, u 10, u 11] 52 (0, 0))) := (hb2.block lb (lt_of_heap HX1.out)).trans HX1.out; clear hb2)
  have t0 := rcell HX2.out 0 _ rfl
  have t1 := rcell HX2.out 1 _ rfl
  have t2 := rcell HX2.out 2 _ rfl
  have t3 := rcell HX2.out 3 _ rfl
  have t4 := rcell HX2.out 4 _ rfl
  have t5 := rcell HX2.out 5 _ rfl
  have t6 := rcell HX2.out 6 _ rfl
  have t7 := rcell HX2.out 7 _ rfl
  have t8 := rcell HX2.out 8 _ rfl
  have t9 := rcell HX2.out 9 _ rfl
  have t10 := rcell HX2.out 10 _ rfl
  have t11 := rcell HX2.out 11 _ rfl
  go_upto_region 6 with (go_at_call 24; refine Calls.mono (HMD.out W2 HB2.out) ?_; rintro ee W3 ⟨v7, v8, S, tk, p, rfl, hm3, hc3, hl3, hp3, hb3⟩; have HM3 : Hid (Mst W2.heap.size W3 v7 v8 S tk) := hm3; have HC3 : Hid (chs 0 (S.map ep) ((p : Nat) : Int)) := hc3; have HL3 : Hid (S.length ≤ 131072 ∧ phi (S.map ep) ≤ 131072) := ⟨hl3, hp3⟩; have HB3 : Hid (Below w.heap.size w W3) := below_trans HB2.out hb3; have HBS : Hid (W2.heap.size ≤ W3.heap.size) := hb3.size; clear hm3 hc3 hl3 hp3 hb3)
  clear t0 t1 t2 t3 t4 t5 t6 t7 t8 t9 t10 t11 HX2 HX1 HMD
  obtain ⟨B, hB⟩ : ∃ B, W2.heap.size = B := ⟨_, rfl⟩
  have HWB : Hid (w.heap.size ≤ B) := by rw [← hB]; exact HB2.out.size
  rw [hB] at HM3 HBS
  clear hB HB2 HB1
  obtain ⟨a7, c7, hv7⟩ := row_shape HM3.out.s
  obtain ⟨a8, c8, hv8⟩ := row_shape HM3.out.t
  subst hv7 hv8
  obtain ⟨m7, hm7⟩ : ∃ m, S.length = m := ⟨_, rfl⟩
  obtain ⟨m8, hm8⟩ : ∃ m, tk.length = m := ⟨_, rfl⟩
  have HM7 : Hid (S.length = m7) := hm7
  have HLK : Hid (Lk B w W3 (.slice a7 m7 c7) (.slice a8 m8 c8) S tk) := ⟨by rw [← hm7, ← hm8]; exact HM3.out, HB3.out⟩
  have HBX : Hid (∀ W, Below W3.heap.size W3 W → B ≤ W.heap.size) := fun W hb => Nat.le_trans HBS.out hb.size
  rw [hm7, hm8]
  clear hm7 hm8 HM3 HB3
  go_wp2_with fail
  go_loopg [10] m7 (fun gm v10 wr => ∃ i : Nat, v10 = .int .i64 (i : Int) ∧ Hid (gm = m7 - i ∧ i ≤ m7) ∧ Hid (Lk B w wr (.slice a7 m7 c7) (.slice a8 m8 c8) S tk) ∧ Hid (B ≤ wr.heap.size))
  case atStart => exact ⟨0, rfl, ⟨rfl, Nat.zero_le _⟩, HLK, HBS⟩
  case round =>
    clear HLK HBS HBX
    obtain ⟨i, rfl, HI, HLK, HBS⟩ := hrel
    by_cases hi : i < m7
    · have g1 : (i : Int) < (m7 : Int) := by omega
      have g2 : i < m7 := hi
      have HIM : Hid (i < m7) := hi
      have hlt : i < S.length := by rw [HM7.out]; exact hi
      obtain ⟨g7, cc7, hv7, _⟩ := row_form HLK.out.m.s (by omega)
      obtain ⟨rfl, -, rfl⟩ := Value.slice.inj hv7
      have hmem := getD_mem S end_ i hlt
      obtain ⟨wa, wb, hWp⟩ := chs_wp HC3.out i (by rw [List.length_map]; exact hlt)
      rw [ep_get S i hlt] at hWp
      have hph := phi_mem S _ hmem
      have hrow := (HLK.out.m.e _ hmem).1
      have hc1 := row_at HLK.out.m.s (i * 3 + 1) _ (mf_get S i hlt).1
      have HMM : Hid (S.getD i end_ ∈ S) := hmem
      obtain ⟨xx, hxx⟩ : ∃ xx, S.getD i end_ = xx := ⟨_, rfl⟩
      rw [hxx] at hWp hph hrow hc1 HMM
      obtain ⟨sy, tv, X, en⟩ := xx
      dsimp only at hWp hph hrow hc1
      obtain ⟨ta, tc, rfl⟩ := row_shape hrow
      obtain ⟨tl, htl⟩ : ∃ tl, X.length = tl := ⟨_, rfl⟩
      have HTL : Hid (X.length = tl) := htl
      have HPT : Hid (pat X z = wtl X z 0 tl) := by show _ = _; rw [← htl]; exact pat_is hWp z
      have HFO : Hid (Fo (kds X)) := by obtain ⟨rs, k1, _⟩ := hWp; exact ⟨_, k1.fo⟩
      have HCH : Hid (chn (kds X) (-1) (pat X z)) := pat_chn z
      have HTS : Hid (tl ≤ 131072) := by show _ ≤ _; have := HL3.out; omega
      have HSX : Hid (Sm X) := by show _ ≤ _; have := HTS.out; omega
      have HRX : Hid (∀ W, Lk B w W (.slice (some ⟨g7, 0, none⟩) m7 c7) (.slice a8 m8 c8) S tk → W.ownsRow B 33 7 (.slice ta tl tc) tl (flat nf X)) := fun W h => by
        have h7 := (h.m.e _ HMM.out).1
        dsimp only at h7
        rw [htl] at h7
        exact h7
      rw [htl] at hc1
      clear hi hlt hv7 hmem hWp hph hrow hxx htl
      have HIW : Hid (IntKind.i64.wrap ((i : Int) + 1) = ((i + 1 : Nat) : Int)) := w64n i (by have := HL3.out; have := HM7.out; have := HIM.out; omega)
      go_upto_region 12 with fail
      clear hc1 g1 g2
      go_wp2_with fail
      go_loopg [12, 13] tl (fun gm v12 v13 wr => ∃ j : Nat, v13 = .int .i64 (j : Int) ∧ Hid (gm = tl - j ∧ j ≤ tl) ∧ Hid (Lk B w wr (.slice (some ⟨g7, 0, none⟩) m7 c7) (.slice a8 m8 c8) S tk) ∧ Hid (B ≤ wr.heap.size) ∧ Hid (wr.ownsRow B 3 1 v12 (wtl X z 0 j).length (iC (wtl X z 0 j))))
      case atStart => exact ⟨0, rfl, ⟨rfl, Nat.zero_le _⟩, HLK, HBS, by rw [wtl_nil]; exact World.ownsRow_nil _ _ _ _⟩
      case round =>
        clear HLK HBS
        obtain ⟨j, rfl, HJ, HLK, HBS, HWT⟩ := hrel
        obtain ⟨wa, wc2, hv12⟩ := row_shape HWT.out
        subst hv12
        by_cases hj : j < tl
        · have g1 : (j : Int) < (tl : Int) := by omega
          have g2 : j < tl := hj
          have HJN : Hid (j < tl) := hj
          have hjX : j < X.length := by rw [HTL.out]; exact hj
          have hrow := HRX.out _ HLK.out
          obtain ⟨gt, ct, hvt, _⟩ := row_form hrow (by omega)
          obtain ⟨rfl, -, rfl⟩ := Value.slice.inj hvt
          have c3 := row_at hrow (j * 7 + 3) _ (flat_get nf_len ndd X j 3 hjX (by decide))
          have c4 := row_at hrow (j * 7 + 4) _ (flat_get nf_len ndd X j 4 hjX (by decide))
          have HST := wtl_step X z j
          obtain ⟨x, hx⟩ : ∃ x, X.getD j ndd = x := ⟨_, rfl⟩
          rw [hx] at c3 c4 HST
          have C3 : wr.cell? ⟨gt, j * 7 + 3, none⟩ = some (.int .i64 x.fr) := c3
          have C4 : wr.cell? ⟨gt, j * 7 + 4, none⟩ = some (.int .i64 x.tt) := c4
          have HWS : Hid (wtl X z 0 (j + 1) = wtl X z 0 j ++ (if cvr x z then [((j : Nat) : Int)] else [])) := HST
          have HWJ : Hid (IntKind.i64.wrap ((j : Int) + 1) = ((j + 1 : Nat) : Int)) := w64n j (by have := HTS.out; have := HJN.out; omega)
          have HWL : Hid ((wtl X z 0 j).length ≤ 131072) := by show _ ≤ _; have h7 := wtl_len X z 0 j; have := HTS.out; have := HJN.out; omega
          clear hj hjX hrow hvt c3 c4 hx HST
          go_upto_region 14 with fail
          go_cut [60] from 45 to 60 (fun v60 wx => v60 = .bool (cvr x z) ∧ wx = wr)
          case first =>
            by_cases b1 : x.fr ≤ z
            · by_cases b2 : z < x.tt
              · go_wp2_with fail
                go_meet
                exact ⟨by unfold cvr; rw [decide_eq_true b1, decide_eq_true b2]; rfl, rfl⟩
              · go_wp2_with fail
                go_meet
                exact ⟨by unfold cvr; rw [decide_eq_true b1, decide_eq_false (by omega : ¬ z < x.tt)]; rfl, rfl⟩
            · go_wp2_with fail
              go_meet
              exact ⟨by unfold cvr; rw [decide_eq_false (by omega : ¬ x.fr ≤ z)]; rfl, rfl⟩
          case rest =>
            obtain ⟨rfl, hwc⟩ := hcut
            rw [hwc]
            clear hwc C3 C4 g1 g2
            cases hcv : cvr x z
            · rw [hcv] at HWS
              have hwj := HWJ.out
              clear hcv
              go_wp2_with fail
              clear hwj
              go_roundg (tl - (j + 1))
              case measure => have := HJ.out.1; have := HJN.out; omega
              case rel => exact ⟨j + 1, by first | rfl | (rw [show (j : Int) + 1 = ((j + 1 : Nat) : Int) by omega]), ⟨rfl, HJN.out⟩, HLK, HBS, by rw [HWS.out]; exact (by rw [if_neg (by decide), List.append_nil]; exact HWT.out)⟩
            · rw [hcv] at HWS
              obtain ⟨wl, hwl⟩ : ∃ wl, (wtl X z 0 j).length = wl := ⟨_, rfl⟩
              rw [hwl] at HWT HWL ⊢
              have HROW : Hid ((wr.alloc (.cells #[.int .i64 (j : Int)] 3)).ownsRow B 3 1 (.slice wa wl wc2) wl (iC (wtl X z 0 j))) := HWT.out.alloc _
              have HSA : Hid (B ≤ (wr.alloc (.cells #[.int .i64 (j : Int)] 3)).heap.size) := Nat.le_trans HBS.out (bel_up _ _).size
              have HMX : Hid (wl + 1 ≤ maxLen ∧ (wl + 1) * 8 ≤ 140737488355328) := by have h7 := HWL.out; show _ ∧ _; unfold maxLen; exact ⟨by omega, by omega⟩
              have HWE : Hid (wtl X z 0 (j + 1) = wtl X z 0 j ++ [(j : Int)] ∧ (wtl X z 0 (j + 1)).length = wl + 1) := by
                have h7 : wtl X z 0 (j + 1) = wtl X z 0 j ++ [(j : Int)] := HWS.out
                exact ⟨h7, by rw [h7, List.length_append, hwl]; rfl⟩
              have hwj := HWJ.out
              clear hcv hwl HWS HWL
              go_wp2_with (at_builtin; refine wpList_append_own_at _ rfl _ _ 23 rfl B 3 i3 _ 1 8 Try.underlying23 hi3 ht0 ht1 ht2 rfl (by decide) _ _ _ rfl HROW.out ⟨wr.heap.size, 0, none⟩ 1 1 [Value.int .i64 (j : Int)] rfl rfl (cell_one_new _ _ _) (by simp [Value.oneCell']) HMX.out.1 HMX.out.2 HSA.out ?_; intro v6 W9 ho9 hg9 _ _; obtain ⟨b6, d6, rfl⟩ := row_shape ho9; have RO9 : Hid (W9.ownsRow B 3 1 (.slice b6 (wl + 1) d6) (wl + 1) (iC (wtl X z 0 j) ++ [Value.int .i64 (j : Int)])) := ho9; have RG9 : Hid ((wr.alloc (.cells #[.int .i64 (j : Int)] 3)).grownBy W9 (Value.ownBlock (.slice wa wl wc2))) := hg9; clear ho9 hg9)
              clear hwj
              have HL9 : Hid (Lk B w W9 (.slice (some ⟨g7, 0, none⟩) m7 c7) (.slice a8 m8 c8) S tk) := ⟨HLK.out.m.keep HWT.out (by decide) (by decide) RG9.out, HLK.out.b.trans (bel_app (Below.refl B wr) HBS.out HWT.out RG9.out |>.mono HWB.out)⟩
              have HB9 : Hid (B ≤ W9.heap.size) := Nat.le_trans HSA.out RG9.out.size
              go_roundg (tl - (j + 1))
              case measure => have := HJ.out.1; have := HJN.out; omega
              case rel => exact ⟨j + 1, by first | rfl | (rw [show (j : Int) + 1 = ((j + 1 : Nat) : Int) by omega]), ⟨rfl, HJN.out⟩, HL9, HB9, by rw [HWE.out.2, HWE.out.1, iC_app]; exact RO9.out⟩
        · have g1 : ¬ (j : Int) < (tl : Int) := by omega
          have g2 : ¬ j < tl := hj
          obtain rfl : j = tl := by have := HJ.out; omega
          have HPA : Hid (Calls Try.prog 27 #[.slice ta j tc, .int .i64 z] wr fun e w' => ∃ v', e = .returned v' ∧ w'.ownsRow wr.heap.size 3 1 v' (pat X z).length (iC (pat X z)) ∧ Below wr.heap.size wr w') := path_any wr (by show Rw _ _ _ _; rw [HTL.out]; exact row_rw (HRX.out _ HLK.out) (by decide)) HSX.out z
          obtain ⟨G, hG⟩ : ∃ G, pat X z = G := ⟨_, rfl⟩
          have HWG : Hid (wtl X z 0 j = G) := by show _ = _; rw [← hG]; exact HPT.out.symm
          rw [hG] at HPA HCH
          rw [HWG.out] at HWT ⊢
          have HGL : Hid (G.length ≤ 131072) := by show _ ≤ _; rw [← HWG.out]; have h7 := wtl_len X z 0 j; have := HTS.out; omega
          obtain ⟨gl, hgl⟩ : ∃ gl, G.length = gl := ⟨_, rfl⟩
          have HGN : Hid (G.length = gl) := hgl
          rw [hgl] at HPA HWT ⊢
          clear hj hG hgl g1 g2
          go_upto_region 17 with (go_at_call 27; refine Calls.mono HPA.out ?_; rintro ee W4 ⟨v14, rfl, ho4, hb4⟩; have HG4 : Hid (W4.ownsRow B 3 1 v14 gl (iC G)) := row_base ho4 HBS.out; have HL4 : Hid (Lk B w W4 (.slice (some ⟨g7, 0, none⟩) m7 c7) (.slice a8 m8 c8) S tk) := HLK.out.up hb4; have HW4 : Hid (W4.ownsRow B 3 1 (.slice wa gl wc2) gl (iC G)) := row_up HWT.out hb4; have HB4 : Hid (B ≤ W4.heap.size) := Nat.le_trans HBS.out hb4.size; clear ho4 hb4)
          obtain ⟨ga, gc, hv14⟩ := row_shape HG4.out
          subst hv14
          have HSI : Hid (Calls Try.prog 28 #[.slice ga gl gc, .slice wa gl wc2] W4 fun e w' => e = .returned (.bool true) ∧ Below W4.heap.size W4 w') := same_intsC (l := G) (by have := HGL.out; omega) W4 (by rw [HGN.out]; exact row_rw HG4.out (by decide)) (by rw [HGN.out]; exact row_rw HW4.out (by decide))
          clear HPA HLK HBS HWT
          go_upto_region 19 with (go_at_call 28; refine Calls.mono HSI.out ?_; rintro ee W5 ⟨rfl, hb5⟩; have HG5 : Hid (W5.ownsRow B 3 1 (.slice ga gl gc) gl (iC G)) := row_up HG4.out hb5; have HL5 : Hid (Lk B w W5 (.slice (some ⟨g7, 0, none⟩) m7 c7) (.slice a8 m8 c8) S tk) := HL4.out.up hb5; have HB5 : Hid (B ≤ W5.heap.size) := Nat.le_trans HB4.out hb5.size; clear hb5)
          clear HSI HG4 HL4 HW4 HB4
          go_wp2_with fail
          go_loopg [15, 16] gl (fun gm v15 _ wr => ∃ k : Nat, v15 = .int .i64 (k : Int) ∧ Hid (gm = gl - k ∧ k ≤ gl) ∧ wr = W5)
          case atStart => exact ⟨0, rfl, ⟨rfl, Nat.zero_le _⟩, rfl⟩
          case round =>
            obtain ⟨k, rfl, HK, rfl⟩ := hrel
            by_cases hk : k < gl
            · have g1 : (k : Int) < (gl : Int) := by omega
              have g2 : k < gl := hk
              have HKN : Hid (k < gl) := hk
              obtain ⟨gg, cg, hvg, _⟩ := row_form HG5.out (by omega)
              obtain ⟨rfl, -, rfl⟩ := Value.slice.inj hvg
              have hkG : k < G.length := by rw [HGN.out]; exact hk
              have ck := row_at HG5.out k _ (iC_get G k hkG)
              obtain ⟨c, hc1, hc2, hc3⟩ := chn_at HCH.out k hkG
              rw [hc1] at ck
              have hpr := prt_pl HFO.out c hc2
              rw [hc3] at hpr
              have HPR : Hid (Calls Try.prog 29 #[.slice ta j tc, .int .i64 (c : Int)] wr fun e w' => e = .returned (.int .i64 (if k = 0 then -1 else G.getD (k - 1) 0)) ∧ wr = w') := by
                have h7 := parent_any wr (by show Rw _ _ _ _; rw [HTL.out]; exact row_rw (HRX.out _ HL5.out) (by decide)) HSX.out (c : Int)
                rw [hpr] at h7
                exact h7
              have HWK : Hid (IntKind.i64.wrap ((k : Int) + 1) = ((k + 1 : Nat) : Int)) := w64n k (by have := HGL.out; have := HGN.out; have := HKN.out; omega)
              by_cases hk0 : k = 0
              · subst hk0
                rw [if_pos rfl] at HPR
                have hwk := HWK.out
                clear hk hvg hc1 hc2 hc3 hpr hkG
                go_wp2_with (go_at_call 29; refine Calls.mono HPR.out ?_; rintro ee ww ⟨rfl, rfl⟩)
                clear hwk
                go_roundg (gl - (0 + 1))
                case measure => have := HK.out.1; have := HKN.out; omega
                case rel => exact ⟨0 + 1, by first | rfl | (rw [show ((0 : Nat) : Int) + 1 = ((0 + 1 : Nat) : Int) by omega]), ⟨rfl, HKN.out⟩, rfl⟩
              · rw [if_neg hk0] at HPR
                obtain ⟨k1, hk1⟩ : ∃ k1, k - 1 = k1 := ⟨_, rfl⟩
                rw [hk1] at HPR
                have ck1 := row_at HG5.out k1 _ (iC_get G k1 (by omega))
                obtain ⟨up, hup⟩ : ∃ up, G.getD k1 0 = up := ⟨_, rfl⟩
                rw [hup] at HPR ck1
                have f1 : (k1 : Int) < (gl : Int) := by omega
                have f2 : k1 < gl := by omega
                have f4 : (0 : Int) < (k : Int) := by omega
                have f5 : 0 < k := by omega
                have HF3 : Hid (wrap64 ((k : Int) - 1) = (k1 : Int)) := by show _ = _; unfold wrap64; have := HGL.out; have := HGN.out; omega
                have hwk := HWK.out
                have f3 := HF3.out
                clear hk hvg hc1 hc2 hc3 hpr hkG hk0 hk1 hup
                go_wp2_with (go_at_call 29; refine Calls.mono HPR.out ?_; rintro ee ww ⟨rfl, rfl⟩)
                clear hwk f3
                go_roundg (gl - (k + 1))
                case measure => have := HK.out.1; have := HKN.out; omega
                case rel => exact ⟨k + 1, by first | rfl | (rw [show (k : Int) + 1 = ((k + 1 : Nat) : Int) by omega]), ⟨rfl, HKN.out⟩, rfl⟩
            · have g1 : ¬ (k : Int) < (gl : Int) := by omega
              have g2 : ¬ k < gl := hk
              have hwi := HIW.out
              clear hk
              go_wp2_with fail
              clear hwi
              go_roundg (m7 - (i + 1))
              case measure => have := HI.out.1; have := HIM.out; omega
              case rel => exact ⟨i + 1, by first | rfl | (rw [show (i : Int) + 1 = ((i + 1 : Nat) : Int) by omega]), ⟨rfl, HIM.out⟩, HL5, HB5⟩
    · have g1 : ¬ (i : Int) < (m7 : Int) := by omega
      have g2 : ¬ i < m7 := hi
      clear hi
      go_wp2_with fail
      (try simp only [Exit.inBlock, Exit.then])
      go_ret
      exact ⟨rfl, HLK.out.b⟩
end Go.Proofs.Ytcfmpmhdjkchjaa
