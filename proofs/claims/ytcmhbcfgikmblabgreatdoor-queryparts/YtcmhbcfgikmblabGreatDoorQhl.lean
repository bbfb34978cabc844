import Derived.Test.YtcmhbcfgikmblabGreatDoorQhz
namespace Go.Proofs.YtcmhbcfgikmblabGreatDoor.Qy
open Go.RowKit Go.Maps

theorem eq_nilI (a : Addr) (n c : Nat) (w : World) : Sem.run Tryz.prog (binOp BinOp.eql 34 (.slice (some a) n c) (.slice none 0 0)) w = .ok (.bool false) w := by kernel_rfl
theorem eq_nilN (w : World) : Sem.run Tryz.prog (binOp BinOp.eql 34 (.slice none 0 0) (.slice none 0 0)) w = .ok (.bool true) w := by kernel_rfl
theorem cell_one_new1 (w : World) (x : Value) (t : TypeId) : ∀ j u, [x][j]? = some u → (w.alloc (.cells #[x] t)).cell? ((⟨w.heap.size, 0, none⟩ : Addr).add j) = some u := fun j u hu => by
  have h := Tr.cell_one_new w x t j u hu
  exact h
set_option maxRecDepth 100000 in
set_option maxHeartbeats 16000000 in
/-- QueryParts. -/
theorem queryParts_any {vp vc vt : Value} {P : List Pn} {cs : List Cd} {T : List Tr.Nd} (s : ByteArray) (w : World) (hp : Ps w vp P) (hc : Cs w vc cs) (ht : Tr.Ns w vt T) (hz : Tr.Sm T) (hl : P.length * 64 ≤ 140737488355328) : Calls Tryz.prog 4 #[.agg #[vp, vc], vt, .string s] w fun e w' => e = .returned (.bool true) ∧ Below w.heap.size w w' := by
  obtain ⟨W1, hW1⟩ : ∃ W1, W1 = w.alloc (.cells #[vp, vc] 25) := ⟨_, rfl⟩
  obtain ⟨qb, hqb⟩ : ∃ qb, w.heap.size = qb := ⟨_, rfl⟩
  have HB1 : Hid (Below w.heap.size w W1) := by rw [hW1]; exact bel_up _ _
  have hq1 : W1.heap[qb]? = some (.cells #[vp, vc] 25 (0, 0)) := by rw [hW1, ← hqb]; exact heap_new w _
  have HST : Hid _ := started_any W1
  have HPS : Hid (Ps W1 vp P) := hp.up HB1.out
  have HCS : Hid (Cs W1 vc cs) := hc.up HB1.out
  have HTS : Hid (Tr.Ns W1 vt T) := ht.up HB1.out
  have HZ : Hid (Tr.Sm T) := hz
  have HPL : Hid (P.length * 64 ≤ 140737488355328) := hl
  obtain ⟨pa, pc, hvp⟩ := hp.form
  obtain ⟨ca, cc, hvc⟩ := hc.form
  obtain ⟨ta, tc, hvt⟩ := ht.form
  obtain ⟨pl, hpl⟩ : ∃ pl, P.length = pl := ⟨_, rfl⟩
  obtain ⟨m, hm⟩ : ∃ m, cs.length = m := ⟨_, rfl⟩
  obtain ⟨tl, htl⟩ : ∃ tl, T.length = tl := ⟨_, rfl⟩
  have HN : Hid (P.length = pl ∧ cs.length = m ∧ T.length = tl) := ⟨hpl, hm, htl⟩
  rw [hpl] at hvp
  rw [hm] at hvc
  rw [htl] at hvt
  subst hvp hvc hvt
  have HQC : Hid (∀ W, Below W1.heap.size W1 W → W.cell? ⟨qb, 0, none⟩ = some (.slice pa pl pc) ∧ W.cell? ⟨qb, 1, none⟩ = some (.slice ca m cc)) := fun W hW => ⟨below_cell hW (rcell hq1 0 _ rfl), below_cell hW (rcell hq1 1 _ rfl)⟩
  have HBP : Hid (∀ W, Below W1.heap.size W1 W → Calls Tryz.prog 6 #[.slice pa pl pc] W fun e w' => ∃ b, e = .returned (.bool b) ∧ Below W.heap.size W w') := fun W hW => beyondP_any W (HPS.out.up hW) HPL.out
  have HBT : Hid (∀ W, Below W1.heap.size W1 W → Calls Tryz.prog 7 #[.slice ta tl tc] W fun e w' => ∃ b, e = .returned (.bool b) ∧ Below W.heap.size W w') := fun W hW => Tr.beyond_any W (HTS.out.up hW) HZ.out
  clear hp hc ht hz hl hq1 hpl hm htl
  go_enter Tryz.func4, Tryz.ntmps4
  go_upto_region 1 with fail
  first | rw [← hW1, hqb] | rw [← hW1]
  clear hW1 hqb
  go_upto_region 3 with (go_at_call 5; refine Calls.mono HST.out ?_; rintro e w2 ⟨rfl, hb2⟩; have HB2 : Hid (Below W1.heap.size W1 w2) := hb2; clear hb2)
  obtain ⟨q0, q1⟩ := HQC.out w2 HB2.out
  go_cut [33] from 27 to 33 (fun v33 wd => ∃ b, v33 = .bool b ∧ Hid (Below W1.heap.size W1 wd))
  case first =>
    go_wp2_with first | (go_at_call 6; refine Calls.mono (HBP.out _ HB2.out) ?_; rintro e w3 ⟨b, rfl, hb3⟩; have HB3 : Hid (Below W1.heap.size W1 w3) := below_trans HB2.out hb3; clear hb3) | (go_at_call 7; refine Calls.mono (HBT.out _ HB3.out) ?_; rintro e w4 ⟨b4, rfl, hb4⟩; have HB4 : Hid (Below W1.heap.size W1 w4) := below_trans HB3.out hb4; clear hb4)
    all_goals (go_meet; first | exact ⟨_, rfl, HB4⟩ | exact ⟨_, rfl, HB3⟩)
  case rest =>
    obtain ⟨b, rfl, HB4⟩ := hcut
    obtain ⟨w4, hw4⟩ : ∃ w4, w4 = wc := ⟨_, rfl⟩
    rw [← hw4] at HB4 ⊢
    clear hw4 q0 q1
    cases b with
    | true =>
      go_wp2_with fail
      go_ret
      exact ⟨rfl, below_trans HB1.out HB4.out⟩
    | false =>
      obtain ⟨q0, q1⟩ := HQC.out w4 HB4.out
      have HSH : Hid _ := shaped_any w4 (HPS.out.up HB4.out) (HCS.out.up HB4.out)
      obtain ⟨SB, hSB⟩ : ∃ SB, shp P cs = SB := ⟨_, rfl⟩
      have HSB : Hid (shp P cs = SB) := hSB
      rw [hSB] at HSH
      clear hSB
      have HRT : Hid (∀ W, Below W1.heap.size W1 W → Calls Tryz.prog 10 #[.slice ta tl tc] W fun e w' => e = .returned (.int .i64 (Tr.rts T)) ∧ W = w') := fun W hW => Tr.roots_any W (HTS.out.up hW) HZ.out
      have HAZ : Hid (∀ W, Below W1.heap.size W1 W → allQ P cs T s = [] → Calls Tryz.prog 8 #[.agg #[.slice pa pl pc, .slice ca m cc], .slice ta tl tc, .string s] W fun e w' => ∃ a c, e = .returned (.slice a 0 c) ∧ Below W.heap.size W w') := fun W hW h0 => by
        have h1 := allq_any W (HPS.out.up hW) (HCS.out.up hW) (HTS.out.up hW) HZ.out s
        rw [h0] at h1
        refine Calls.mono h1 ?_
        rintro e w' ⟨v, vs, rfl, hf, hb⟩
        obtain ⟨a, c, rfl⟩ := row_shape hf.ow
        exact ⟨a, c, rfl, hb⟩
      cases SB with
      | false =>
        have h0 : allQ P cs T s = [] := by unfold allQ; rw [HSB.out]; rfl
        have HAZ2 : Hid _ := fun W hW => HAZ.out W hW h0
        clear h0 HAZ
        go_upto_region 6 with (go_at_call 9; refine Calls.mono HSH.out ?_; rintro e w6 ⟨rfl, hb6⟩; have HB6 : Hid (Below W1.heap.size W1 w6) := below_trans HB4.out hb6; clear hb6)
        clear q0 q1
        obtain ⟨q0, q1⟩ := HQC.out w6 HB6.out
        go_wp2_with (go_at_call 8; refine Calls.mono (HAZ2.out _ HB6.out) ?_; rintro e w7 ⟨ga, gc, rfl, hb7⟩; have HB7 : Hid (Below W1.heap.size W1 w7) := below_trans HB6.out hb7; clear hb7)
        go_ret
        exact ⟨rfl, below_trans HB1.out HB7.out⟩
      | true =>
        rcases @Tr.rts_fo T with ⟨r, hr, hr2⟩ | ⟨hr, hr2⟩
        · have HFO : Hid (Tr.Fo (Tr.kds T)) := ⟨r, hr⟩
          have HRR : Hid (Tr.rt (Tr.kds T) = some r) := hr
          obtain ⟨a1, a2, a3, a4⟩ := shp_all HSB.out
          have HSO : Hid (P.length ≤ 32 ∧ Tr.Fo (pks P) ∧ 0 < P.length ∧ 0 < (pks P).length) := ⟨a1, ⟨1, a3⟩, pos_one a3, by rw [pks_len]; exact pos_one a3⟩
          have HE1 : Hid (Tr.eA (pks P) 0 = P.length) := by
            have h3 := whole a3
            rw [pks_len] at h3
            exact h3
          rw [hr2] at HRT
          have d1 : decide ((r : Int) < 0) = false := by rw [decide_eq_false_iff_not]; omega
          have hpp : 0 < pl := by have := HN.out.1; have := pos_one a3; omega
          clear hr hr2 a1 a2 a3 a4 HAZ
          go_upto_region 7 with first | (go_at_call 9; refine Calls.mono HSH.out ?_; rintro e w6 ⟨rfl, hb6⟩; have HB6 : Hid (Below W1.heap.size W1 w6) := below_trans HB4.out hb6; clear hb6) | (go_at_call 10; refine Calls.mono (HRT.out _ HB6.out) ?_; rintro e w9 ⟨rfl, hw9⟩; subst hw9)
          clear q0 q1 d1 HSH
          obtain ⟨q0, q1⟩ := HQC.out w6 HB6.out
          have HSM : Hid (tl * 72 + 4096 ≤ 140737488355328) := by have h9 := HZ.out; unfold Tr.Sm at h9; rw [HN.out.2.2] at h9; exact h9
          have HALL : Hid (∀ (W : World) (v : Value) (Q : List Pn), Below W1.heap.size W1 W → Ps W v Q → shp Q [] = true → Calls Tryz.prog 8 #[.agg #[v, .slice none 0 0], .slice ta tl tc, .string s] W fun e w' => ∃ a c vs n, e = .returned (.slice a n c) ∧ Fa 0 w' (.slice a n c) vs (alls Q [] T s T.length) n ∧ n ≤ T.length ∧ Below W.heap.size W w') := fun W v Q hW hQ hs => by
            have hnil : Cs W (.slice none 0 0) [] := Rw.nil _
            have h1 := allq_any W hQ hnil (HTS.out.up hW) HZ.out s
            have e1 : allQ Q [] T s = alls Q [] T s T.length := by
              unfold allQ
              rw [hs, HRR.out]
              rfl
            rw [e1] at h1
            refine Calls.mono h1 ?_
            rintro e w' ⟨v, vs, rfl, hf, hb⟩
            obtain ⟨a, c, rfl⟩ := row_shape hf.ow
            exact ⟨a, c, vs, _, rfl, hf.base (Nat.zero_le _), alls_len _ _ _ _ _, hb⟩
          go_upto_region 8 with (go_at_call 8; refine Calls.mono (HALL.out _ _ _ HB6.out (HPS.out.up HB6.out) (shp_bare HSB.out)) ?_; rintro e w7 ⟨ga, gc, vs7, rb, rfl, hf7, hn7, hb7⟩; have HF7 : Hid (Fg w7 (.slice ga rb gc) vs7 (alls P [] T s T.length) rb ∧ rb ≤ T.length) := ⟨hf7.fg, hn7⟩; have HB7 : Hid (Below W1.heap.size W1 w7) := below_trans HB6.out hb7; clear hf7 hn7 hb7)
          clear q0 q1
          obtain ⟨q0, -⟩ := HQC.out w7 HB7.out
          obtain ⟨pg, po, hpa, c0, c1, c2, c3, c4⟩ := (HPS.out.up HB7.out).all 0 HSO.out.2.2.1
          subst hpa
          have HONE : Hid (shp [bare1 (P.getD 0 pz)] [] = true) := shp_one HSB.out
          obtain ⟨p, hp0⟩ : ∃ p, P.getD 0 pz = p := ⟨_, rfl⟩
          have HP0 : Hid (P.getD 0 pz = p) := hp0
          rw [hp0] at c0 c1 c2 c3 c4 HONE
          simp only [Nat.zero_mul, Nat.add_zero] at c0 c1 c2 c3 c4
          have hpi : (0 : Int) < (pl : Int) := by omega
          obtain ⟨W8, hW8⟩ : ∃ W8, W8 = w7.alloc (.cells #[.string p.nm, .bool p.lit, .string p.fd, .string p.cp, .int .i64 p.kd] 46) := ⟨_, rfl⟩
          obtain ⟨nb, hnb⟩ : ∃ nb, w7.heap.size = nb := ⟨_, rfl⟩
          have HNB : Hid (w7.heap.size = nb) := hnb
          have h8 : W8.heap[nb]? = some (.cells #[.string p.nm, .bool p.lit, .string p.fd, .string p.cp, .int .i64 p.kd] 46 (0, 0)) := by rw [hW8, ← hnb]; exact heap_new w7 _
          have HB8 : Hid (Below w7.heap.size w7 W8) := by rw [hW8]; exact bel_up _ _
          go_upto_region 9 with fail
          rw [← hW8]
          try rw [hnb]
          clear hW8 hnb hp0
          have k4 := rcell h8 4 _ rfl
          have f4 := Lib.frozen_of_heap h8 4
          obtain ⟨W9, hW9⟩ : ∃ W9, W9 = W8.setCell ⟨nb, 4, none⟩ (.int .i64 0) := ⟨_, rfl⟩
          have h9 : W9.heap[nb]? = some (.cells #[.string p.nm, .bool p.lit, .string p.fd, .string p.cp, .int .i64 0] 46 (0, 0)) := by rw [hW9]; exact blk_set _ h8
          have HB9 : Hid (Below w7.heap.size w7 W9) := by rw [hW9]; exact Below.setCell HB8.out (show w7.heap.size ≤ nb by have := HNB.out; omega) _
          go_upto_region 10 with fail
          rw [← hW9]
          clear hW9 k4 f4 h8
          have m0 := rcell h9 0 _ rfl
          have m1 := rcell h9 1 _ rfl
          have m2 := rcell h9 2 _ rfl
          have m3 := rcell h9 3 _ rfl
          have m4 := rcell h9 4 _ rfl
          have HB19 : Hid (Below W1.heap.size W1 W9) := below_trans HB7.out HB9.out
          have HO1 : Hid _ := HALL.out (W9.alloc (.cells #[.string p.nm, .bool p.lit, .string p.fd, .string p.cp, .int .i64 0] 46)) (.slice (some ⟨W9.heap.size, 0, none⟩) 1 1) [bare1 p] (below_trans HB19.out (bel_up _ _)) ⟨_, W9.heap.size, 0, 1, rfl, Nat.le_refl _, (fun h => by cases h), (fun _ => rfl), (fun j u hu => by
            have h9 : ([Value.string p.nm, .bool p.lit, .string p.fd, .string p.cp, .int .i64 0] : List Value)[j]? = some u := hu
            rw [Nat.zero_add, Lib.cell_of_heap (heap_new W9 _)]; simpa using h9)⟩ HONE.out
          go_upto_region 11 with (go_at_call 8; refine Calls.mono HO1.out ?_; rintro e w11 ⟨oa, oc, us, on, rfl, hf11, hn11, hb11⟩; have HF11 : Hid (Fg w11 (.slice oa on oc) us (alls [bare1 p] [] T s T.length) on ∧ on ≤ T.length) := ⟨hf11.fg, hn11⟩; have HB11 : Hid (Below W1.heap.size W1 w11) := below_trans HB19.out (below_trans (bel_up _ _) hb11); have HF7b : Hid (Fg w11 (.slice ga rb gc) vs7 (alls P [] T s T.length) rb) := HF7.out.1.up (below_trans HB9.out (below_trans (bel_up _ _) hb11)); clear hf11 hn11 hb11)
          clear m0 m1 m2 m3 m4 c0 c1 c2 c3 c4 q0 h9
          obtain ⟨K0, hK0⟩ : ∃ K0, Tr.kA (pks P) 0 = K0 := ⟨_, rfl⟩
          have HK0 : Hid (Tr.kA (pks P) 0 = K0 ∧ p.kd = (K0 : Int) ∧ K0 ≤ 32 ∧ Tr.wA (pks P) 1 K0 = P.length ∧ K0 ≤ Tr.rA (pks P) 1) := by
            have h1 := HSO.out.2.1.step 0 HSO.out.2.2.2
            have h2 := HSO.out.2.1.eq 0 HSO.out.2.2.2
            have h3 := HSO.out.2.1.le 1
            rw [hK0] at h1 h2
            have h4 : (pks P).getD 0 0 = p.kd := by
              unfold pks
              rw [← HP0.out, List.getD_eq_getElem?_getD, List.getD_eq_getElem?_getD, List.getElem?_map, List.getElem?_eq_getElem HSO.out.2.2.1]
              rfl
            rw [h4] at h1
            rw [pks_len] at h3
            have h5 : K0 ≤ Tr.rA (pks P) 1 := h1.2.2.1
            refine ⟨hK0, h1.2.1, ?_, ?_, h5⟩
            · have := HSO.out.1; omega
            · rw [← h2]; exact HE1.out
          obtain ⟨iS, hiS, hy0, hy1, hy2⟩ := info_parts infoSF
          have HKC : Hid (∀ W, Below W1.heap.size W1 W → W.cell? ⟨pg, po + 4, none⟩ = some (.int .i64 (K0 : Int))) := fun W hW => by
            obtain ⟨g9, o9, e9, _, _, _, _, c4⟩ := (HPS.out.up hW).all 0 HSO.out.2.2.1
            have e8 := Option.some.inj e9
            obtain ⟨e6, e7, _⟩ := Addr.mk.inj e8
            subst e6 e7
            rw [HP0.out, HK0.out.2.1] at c4
            simpa using c4
          clear hK0
          go_upto_region 14 with fail
          go_loopg [10, 11, 12] K0 (fun gm v10 v11 v12 wr => ∃ (i : Nat) (vs : List Value), v12 = .int .i64 (i : Int) ∧ v11 = .int .i64 ((Tr.wA (pks P) 1 i : Nat) : Int) ∧ Hid (i ≤ K0 ∧ gm = K0 - i) ∧ Hid (wr.ownsRow w11.heap.size 30 1 v10 i vs) ∧ Hid (Pts wr vs P T s i) ∧ Hid (Below w11.heap.size w11 wr))
          case atStart => exact ⟨0, [], rfl, (by rw [Tr.wA_zero]; rfl), ⟨Nat.zero_le _, rfl⟩, World.ownsRow_nil _ _ _ _, ⟨rfl, fun j hj => by omega⟩, Below.refl _ _⟩
          case round =>
            obtain ⟨i, vs, rfl, rfl, HI, HOW, HPT, HBR⟩ := hrel
            obtain ⟨ra, rc, hov⟩ := row_shape HOW.out
            subst hov
            have HB1r : Hid (Below W1.heap.size W1 wr) := below_trans HB11.out HBR.out
            obtain ⟨q0, -⟩ := HQC.out wr HB1r.out
            have c4 := HKC.out wr HB1r.out
            by_cases hi : i < K0
            · have e1 : decide ((i : Int) < (K0 : Int)) = true := by rw [decide_eq_true_eq]; omega
              have e2 : decide (i < K0) = true := by rw [decide_eq_true_eq]; omega
              have HIL : Hid (i < K0) := hi
              have hwi := w64n i (by have := HK0.out.2.2.1; omega)
              have hch := Tr.Ch.in HSO.out.2.1 (show Tr.Ch (pks P) 0 i _ from ⟨HSO.out.2.2.2, by rw [HK0.out.1]; exact hi, rfl⟩)
              rw [Nat.zero_add, pks_len] at hch
              have HCE : Hid (Tr.wA (pks P) 1 i < P.length ∧ Tr.wA (pks P) 1 (i + 1) = Tr.eA (pks P) (Tr.wA (pks P) 1 i) ∧ Tr.wA (pks P) 1 i < Tr.eA (pks P) (Tr.wA (pks P) 1 i) ∧ Tr.eA (pks P) (Tr.wA (pks P) 1 i) ≤ P.length) := ⟨hch.2.1, hch.2.2.2.2.2, hch.2.2.2.2.1, by have := HE1.out; have := hch.2.2.1; omega⟩
              have HPA : Hid _ := part_any wr (HPS.out.up HB1r.out) HSO.out.2.1 HSO.out.1 _ HCE.out.1
              have HPU : Hid (∀ {W : World} {x : Value} {us : List Value} {n : Nat}, Pts W vs P T s i → Fa 0 W x us (alls (sub P (Tr.wA (pks P) 1 i)) [] T s T.length) n → n ≤ T.length → Pts W (vs ++ [x]) P T s (i + 1)) := fun h h1 h2 => h.push h1 h2
              have HSP : Hid (shp (sub P (Tr.wA (pks P) 1 i)) [] = true) := shp_sub HSB.out HCE.out.1
              obtain ⟨c, hcc⟩ : ∃ c, Tr.wA (pks P) 1 i = c := ⟨_, rfl⟩
              obtain ⟨SP, hSP⟩ : ∃ SP, sub P c = SP := ⟨_, rfl⟩
              rw [hcc] at HPA HPU HSP HCE ⊢
              rw [hSP] at HPA HPU HSP
              obtain ⟨sl, hsl⟩ : ∃ sl, SP.length = sl := ⟨_, rfl⟩
              have HSL : Hid (SP.length = sl) := hsl
              rw [hsl] at HPA
              obtain ⟨d, hd⟩ : ∃ d, Tr.eA (pks P) c - c = d := ⟨_, rfl⟩
              rw [hd] at HPA
              have hwc : IntKind.i64.wrap ((c : Int) + (d : Int)) = ((Tr.wA (pks P) 1 (i + 1) : Nat) : Int) := by
                have h1 := HCE.out
                have h2 := HSO.out.1
                rw [h1.2.1, IntKind.wrap_i64]
                omega
              have HMX : Hid (i + 1 ≤ maxLen ∧ (i + 1) * 24 ≤ 140737488355328) := by have := HK0.out.2.2.1; show _ ∧ _; unfold maxLen; omega
              have hcl : (0 : Int) ≤ (c : Int) := by omega
              clear hi hch hcc hSP hsl hd
              go_upto_region 17 with (go_at_call 14; refine Calls.mono HPA.out ?_; rintro e w2 ⟨⟨vn, rfl, hvn⟩, hb2⟩; obtain ⟨na, nc, rfl⟩ := row_shape hvn; have HVN : Hid (Ps w2 (.slice na sl nc) SP) := (by show Rw _ _ _ _; rw [HSL.out]; exact row_rw hvn); have HB2r : Hid (Below wr.heap.size wr w2) := hb2; clear hvn hb2)
              clear c4 q0
              obtain ⟨W3, hW3⟩ : ∃ W3, W3 = w2.alloc (.cells #[.slice na sl nc, .slice none 0 0] 25) := ⟨_, rfl⟩
              have h3 : W3.heap[w2.heap.size]? = some (.cells #[.slice na sl nc, .slice none 0 0] 25 (0, 0)) := by rw [hW3]; exact heap_new w2 _
              have HB3 : Hid (Below wr.heap.size wr W3) := by rw [hW3]; exact below_trans HB2r.out (bel_up _ _)
              have HA3 : Hid _ := HALL.out W3 _ SP (below_trans HB1r.out HB3.out) (by rw [hW3]; exact HVN.out.up (bel_up _ _)) HSP.out
              first | rw [← hW3] | skip
              obtain ⟨n2, hn2⟩ : ∃ n2, w2.heap.size = n2 := ⟨_, rfl⟩
              rw [hn2] at h3 ⊢
              have u0 := rcell h3 0 _ rfl
              have u1 := rcell h3 1 _ rfl
              clear hW3 h3 hn2
              go_upto_region 18 with (go_at_call 8; refine Calls.mono HA3.out ?_; rintro e w5 ⟨fa, fc, us5, fn, rfl, hf5, hn5, hb5⟩; have HB5 : Hid (Below wr.heap.size wr w5) := below_trans HB3.out hb5; have HP5 : Hid (Pts w5 (vs ++ [.slice fa fn fc]) P T s (i + 1)) := HPU.out (HPT.out.up HB5.out) hf5 hn5; have HO5 : Hid ((w5.alloc (.cells #[.slice fa fn fc] 30)).ownsRow w11.heap.size 30 1 (.slice ra i rc) i vs) := (row_up HOW.out HB5.out).alloc _; have HSA : Hid (w11.heap.size ≤ (w5.alloc (.cells #[.slice fa fn fc] 30)).heap.size) := Nat.le_trans (Nat.le_trans HBR.out.size HB5.out.size) (bel_up _ _).size; clear hf5 hn5 hb5)
              clear u0 u1
              go_wp2_with (at_builtin; refine wpList_append_own_at _ rfl _ _ 47 rfl w11.heap.size 30 iS (.slice none 0 0) 1 24 Tryz.underlying47 hiS hy0 hy1 hy2 rfl (by decide) _ _ _ rfl HO5.out ⟨w5.heap.size, 0, none⟩ 1 1 [.slice fa fn fc] rfl rfl (World.news_of_block (heap_new w5 _)) (by simp [Value.oneCell']) HMX.out.1 HMX.out.2 HSA.out ?_; intro v8 w8 ho8 hg8 _ ha8; have HO8 : Hid (w8.ownsRow w11.heap.size 30 1 v8 (i + 1) (vs ++ [.slice fa fn fc])) := ho8; have HB8 : Hid (Below w11.heap.size w11 w8) := Tr.bel_app (below_trans HBR.out HB5.out) (Nat.le_trans HBR.out.size HB5.out.size) (row_up HOW.out HB5.out) hg8; have HG8 : Hid (w5.grownBy w8 (Value.ownBlock (.slice ra i rc))) := (World.grownBy_alloc _ _ _).trans hg8; obtain ⟨ya, yc, rfl⟩ := row_shape ho8; clear ho8 hg8 ha8)
              go_roundg (K0 - (i + 1))
              case measure => have := HI.out; have := HIL.out; omega
              case rel => exact ⟨i + 1, _, by simp, rfl, ⟨HIL.out, rfl⟩, HO8, HP5.out.grown HG8.out (row_up HOW.out HB5.out), HB8⟩
            · have e1 : decide ((i : Int) < (K0 : Int)) = false := by rw [decide_eq_false_iff_not]; omega
              have e2 : decide (i < K0) = false := by rw [decide_eq_false_iff_not]; omega
              have hik : K0 = i := by have := HI.out; omega
              subst hik
              obtain ⟨w12, hw12⟩ : ∃ w12, w12 = wr := ⟨_, rfl⟩
              rw [← hw12] at HB1r HPT HOW HBR q0 c4 ⊢
              clear hi hw12 HI
              go_upto_region 22 with fail
              clear e1 e2 q0 c4
              obtain ⟨iF, hiF, hx0, hx1, hx2⟩ := info_parts infoF
              obtain ⟨iI, hiI, hw0, hw1, hw2⟩ := info_parts infoI
              go_loopg [16, 17] tl (fun gm v16 v17 wr => ∃ (v k : Nat) (ws : List Value), v17 = .int .i64 (v : Int) ∧ Hid (v ≤ tl ∧ gm = tl - v) ∧ Hid (Fa w12.heap.size wr v16 ws (alls P [] T s v) k) ∧ Hid (k ≤ v) ∧ Hid (Below w12.heap.size w12 wr))
              case atStart => exact ⟨0, 0, [], rfl, ⟨Nat.zero_le _, rfl⟩, ⟨World.ownsRow_nil _ _ _ _, ⟨rfl, rfl⟩, fun i x hx => by simp at hx⟩, Nat.le_refl _, Below.refl _ _⟩
              case round =>
                obtain ⟨v, kw, ws, rfl, HI, HFA, HKI, HBR2⟩ := hrel
                obtain ⟨wa, wc, hov⟩ := row_shape HFA.out.ow
                subst hov
                obtain ⟨wv, hwv⟩ : ∃ wv, wv = wr := ⟨_, rfl⟩
                rw [← hwv] at HFA HBR2 ⊢
                clear hwv
                have HB1v : Hid (Below W1.heap.size W1 wv) := below_trans HB1r.out HBR2.out
                by_cases hi : v < tl
                · have e1 : decide ((v : Int) < (tl : Int)) = true := by rw [decide_eq_true_eq]; omega
                  have e2 : decide (v < tl) = true := by rw [decide_eq_true_eq]; omega
                  have HIL : Hid (v < tl ∧ v < T.length) := ⟨hi, by rw [HN.out.2.2]; exact hi⟩
                  have hwi := w64n v (by have := HSM.out; omega)
                  have HWI : Hid (IntKind.i64.wrap ((v : Int) + 1) = (v : Int) + 1) := by rw [hwi]; rfl
                  have HFO11 : Hid (Fg wv (.slice oa on oc) us (alls [bare1 p] [] T s T.length) on) := HF11.out.1.up (below_trans HBR.out HBR2.out)
                  have HMO : Hid _ := match_any (v : Int) (by have := HF11.out.2; have := HSM.out; have := HN.out.2.2; omega) wv HFO11.out
                  have HOO : Hid _ := own_one (p := p) s HFO.out v HIL.out.2
                  have HGN : Hid (gN P T 0 v = if alk p (T.getD v Tr.ndd) then (gr (lf P T s) (kN (Tr.kds T) v)).map ((v : Int) :: ·) else none) := by
                    have h9 := gN_parts (P := P) (T := T) s HSO.out.2.1 HSO.out.2.2.1 HFO.out v HIL.out.2
                    rw [HP0.out] at h9
                    exact h9
                  have HAS : Hid _ := alls_next P T s HFO.out v HIL.out.2
                  obtain ⟨AK, hAK⟩ : ∃ AK, alk p (T.getD v Tr.ndd) = AK := ⟨_, rfl⟩
                  rw [hAK] at HOO HGN
                  clear hi hAK
                  cases AK with
                  | false =>
                    have HMN : Hid (∀ x, Mt us (alls [bare1 p] [] T s T.length) (v : Int) x → x = .slice none 0 0) := fun x hx => by
                      rcases hx with ⟨_, hx⟩ | ⟨l, _, _, _, hx, _⟩
                      · exact hx
                      · rw [HOO.out] at hx; cases hx
                    have HNX : Hid (alls P [] T s (v + 1) = alls P [] T s v) := by
                      show _ = _
                      rw [HAS.out, HGN.out]
                      simp
                    have heq := eq_nilN wv
                    go_wp2_with (go_at_call 15; refine Calls.mono HMO.out ?_; rintro e w13 ⟨⟨x, rfl, hmt⟩, hw13⟩; subst hw13; obtain rfl := HMN.out x hmt; clear hmt)
                    go_roundg (tl - (v + 1))
                    case measure => have := HI.out; have := HIL.out; omega
                    case rel => exact ⟨v + 1, kw, ws, by simp, ⟨HIL.out.1, rfl⟩, (by rw [HNX.out]; exact HFA), (by have := HKI.out; show kw ≤ v + 1; omega), HBR2⟩
                  | true =>
                    have HMS : Hid (∀ x, Mt us (alls [bare1 p] [] T s T.length) (v : Int) x → ∃ a n c, x = .slice (some a) n c) := fun x hx => by
                      rcases hx with ⟨hx, _⟩ | ⟨l, a, c, i, _, h2, h3, h4, h5⟩
                      · rw [HOO.out] at hx; cases hx
                      · have h6 := HFO11.out.at' i x h3
                        rw [h4] at h6
                        obtain ⟨g, o, cap, e, _⟩ := h6.place h5
                        exact ⟨_, _, _, e⟩
                    obtain ⟨w14, hw14⟩ : ∃ w14, w14 = wv.alloc (.cells #[.int .i64 (v : Int)] 3) := ⟨_, rfl⟩
                    have HOWF : Hid (w14.ownsRow wv.heap.size 3 1 (.slice (some ⟨wv.heap.size, 0, none⟩) 1 1) [(v : Int)].length (iC [(v : Int)])) := by rw [hw14]; exact World.ownsRow_lit wv #[.int .i64 (v : Int)] 1 (Nat.le_refl _) (by decide) rfl
                    have HBV4 : Hid (Below wv.heap.size wv w14) := by rw [hw14]; exact bel_up _ _
                    have HS14 : Hid (w14.heap.size = wv.heap.size + 1) := by show _ = _; rw [hw14]; simp
                    have HKD : Hid _ := Tr.kids_any w14 ((HTS.out.up HB1v.out).up HBV4.out) HZ.out (v : Int)
                    rw [kls_kN HIL.out.2 HFO.out] at HKD
                    obtain ⟨KL, hKL⟩ : ∃ KL, kN (Tr.kds T) v = KL := ⟨_, rfl⟩
                    rw [hKL] at HKD HGN
                    obtain ⟨kn, hkn⟩ : ∃ kn, KL.length = kn := ⟨_, rfl⟩
                    have HKN : Hid (KL.length = kn ∧ kn ≤ tl) := ⟨hkn, by
                      rw [← hkn, ← hKL]
                      unfold kN
                      rw [List.length_map, List.length_range]
                      have h1 := HFO.out.step v (by rw [Tr.kds_len]; exact HIL.out.2)
                      have h2 := HFO.out.le (v + 1)
                      rw [Tr.kds_len] at h2
                      have := HN.out.2.2
                      omega⟩
                    rw [show (KL.map (fun k : Nat => (k : Int))).length = kn by rw [List.length_map]; exact hkn] at HKD
                    clear hKL hkn
                    go_upto_if 101 with (go_at_call 15; refine Calls.mono HMO.out ?_; rintro e w13 ⟨⟨x, rfl, hmt⟩, hw13⟩; subst hw13; obtain ⟨xa, xn, xc, rfl⟩ := HMS.out x hmt; have heq := eq_nilI xa xn xc wv; clear hmt)
                    go_upto_region 26 with fail
                    rw [← hw14]
                    clear hw14 heq
                    obtain ⟨b3, hb3⟩ : ∃ b3, wv.heap.size = b3 := ⟨_, rfl⟩
                    have HB3 : Hid (wv.heap.size = b3) := hb3
                    rw [hb3] at HOWF HBV4 HS14 ⊢
                    clear hb3
                    go_upto_region 30 with (go_at_call 16; refine Calls.mono HKD.out ?_; rintro e w15 ⟨kv, rfl, hkv, hb15⟩; obtain ⟨ka, kc, rfl⟩ := row_shape hkv; have HKO : Hid (w15.ownsRow w14.heap.size 3 1 (.slice ka kn kc) kn (iC (KL.map (fun k : Nat => (k : Int))))) := hkv; have HB15 : Hid (Below w14.heap.size w14 w15) := hb15; clear hkv hb15)
                    have HNE0 : Hid (Value.ownBlock (.slice ka kn kc) = none ∨ Value.ownBlock (.slice ka kn kc) ≠ Value.ownBlock (.slice (some ⟨b3, 0, none⟩) 1 1)) := by
                      cases hk : Value.ownBlock (.slice ka kn kc) with
                      | none => exact .inl rfl
                      | some r =>
                        refine .inr fun e => ?_
                        have h1 := (row_tag HKO.out r hk).1
                        have h2 : some r = some b3 := e
                        have h3 := Option.some.inj h2
                        have := HS14.out
                        omega
                    go_loopg [18, 20, 21, 22] K0 (fun gm v18 v20 v21 v22 wr => ∃ (i k : Nat) (A : Bool) (F : List Int), v22 = .int .i64 (i : Int) ∧ v20 = .int .i64 (k : Int) ∧ v21 = .bool A ∧ Hid (i ≤ K0 ∧ gm = K0 - i ∧ k ≤ kn ∧ F.length ≤ 1 + 32 * i) ∧ Hid (wr.ownsRow b3 3 1 v18 F.length (iC F)) ∧ Hid (wr.ownsRow w14.heap.size 3 1 (.slice ka kn kc) kn (iC (KL.map (fun k : Nat => (k : Int))))) ∧ Hid (Value.ownBlock (.slice ka kn kc) = none ∨ Value.ownBlock (.slice ka kn kc) ≠ v18.ownBlock) ∧ Hid (Below b3 wv wr) ∧ Hid (gN P T 0 v = if A then (gr ((lf P T s).drop i) (KL.drop k)).map (F ++ ·) else none))
                    case atStart => exact ⟨0, 0, true, [(v : Int)], rfl, rfl, rfl, ⟨Nat.zero_le _, rfl, Nat.zero_le _, by simp⟩, row_up HOWF.out HB15.out, HKO, HNE0, HBV4.out.trans (HB15.out.mono (by have := HS14.out; omega)), (by show _ = _; rw [HGN.out, List.drop_zero, List.drop_zero]; rfl)⟩
                    case round =>
                      clear HOWF HKO HNE0 HGN
                      obtain ⟨i, k, A, F, rfl, rfl, rfl, HI3, HFW, HKO, HNE, HBV, HTG⟩ := hrel
                      obtain ⟨fa, fc, hfv⟩ := row_shape HFW.out
                      subst hfv
                      obtain ⟨w16, hw16⟩ : ∃ w16, w16 = wr := ⟨_, rfl⟩
                      rw [← hw16] at HFW HKO HBV ⊢
                      clear hw16
                      have HBW : Hid (Below wv.heap.size wv w16) := by rw [HB3.out]; exact HBV.out
                      have HB12 : Hid (Below w12.heap.size w12 w16) := below_trans HBR2.out HBW.out
                      by_cases hi : i < K0
                      · have e1 : decide ((i : Int) < (K0 : Int)) = true := by rw [decide_eq_true_eq]; omega
                        have e2 : decide (i < K0) = true := by rw [decide_eq_true_eq]; omega
                        have HIL3 : Hid (i < K0) := hi
                        have hwi3 := w64n i (by have := HK0.out.2.2.1; omega)
                        have HWI3 : Hid (IntKind.i64.wrap ((i : Int) + 1) = (i : Int) + 1) := by rw [hwi3]; rfl
                        have b1 : (i : Int) < (K0 : Int) := by omega
                        have b0 : (0 : Int) ≤ (i : Int) := by omega
                        obtain ⟨xv, xus, xn, hx1, hx2, hx3⟩ := HPT.out.2 i hi
                        obtain ⟨xa, xc, hxv⟩ := row_shape hx2.ow
                        subst hxv
                        obtain ⟨rg, ro, rcap, er, hrc⟩ := (row_rw HOW.out).place (by omega)
                        obtain ⟨er4, -, -⟩ := Value.slice.inj er
                        subst er4
                        have hcell := hrc i _ hx1
                        have HCP : Hid (∀ W, Below w16.heap.size w16 W → W.cell? ⟨rg, ro + i, none⟩ = some (.slice xa xn xc)) := fun W hW => below_cell hW (below_cell HB12.out hcell)
                        have hch := Tr.Ch.in HSO.out.2.1 (show Tr.Ch (pks P) 0 i _ from ⟨HSO.out.2.2.2, by rw [HK0.out.1]; exact hi, rfl⟩)
                        rw [Nat.zero_add, pks_len] at hch
                        have HLN : Hid (∀ l ∈ pts P T s (Tr.wA (pks P) 1 i), l.length ≤ 32) := fun l hl => pts_len HSB.out HFO.out hch.2.1 hl
                        have hld := lf_drop T s HK0.out.1 hi
                        obtain ⟨RX, hRX⟩ : ∃ RX, pts P T s (Tr.wA (pks P) 1 i) = RX := ⟨_, rfl⟩
                        obtain ⟨G1, hG1⟩ : ∃ G1, (lf P T s).drop (i + 1) = G1 := ⟨_, rfl⟩
                        have HG1 : Hid ((lf P T s).drop (i + 1) = G1) := hG1
                        rw [hG1, hRX] at hld
                        rw [hRX] at hx2 HLN
                        rw [hld] at HTG
                        have HFX : Hid (Fa 0 w12 (.slice xa xn xc) xus RX xn ∧ xn ≤ T.length) := ⟨hx2, hx3⟩
                        clear hi hx1 hx2 hx3 er hrc hcell hch hld hRX hG1
                        go_upto_region 33 with fail
                        go_loopg [20, 23] (kn - k) (fun gm v20 v23 wr => ∃ (k2 : Nat) (l : List Int) (la : Option Addr) (lc : Nat), v20 = .int .i64 (k2 : Int) ∧ v23 = .slice la l.length lc ∧ Hid (k2 ≤ kn ∧ gm = kn - k2) ∧ Hid (Below w16.heap.size w16 wr) ∧ Hid ((l = [] → gr ((fun k : Nat => mtc RX (k : Int)) :: G1) (KL.drop k) = gr ((fun k : Nat => mtc RX (k : Int)) :: G1) (KL.drop k2)) ∧ (l ≠ [] → gr ((fun k : Nat => mtc RX (k : Int)) :: G1) (KL.drop k) = (gr G1 (KL.drop k2)).map (l ++ ·))) ∧ Hid (Rw w12 (.slice la l.length lc) l.length (iC l) ∧ l.length ≤ 32))
                        case atStart => exact ⟨k, [], none, 0, rfl, rfl, ⟨HI3.out.2.2.1, rfl⟩, Below.refl _ _, ⟨fun _ => rfl, fun h => absurd rfl h⟩, ⟨Rw.nil _, by simp⟩⟩
                        case round =>
                          obtain ⟨k2, l, la, lc, rfl, rfl, HI4, HB4r, HGR, HRL⟩ := hrel
                          obtain ⟨w17, hw17⟩ : ∃ w17, w17 = wr := ⟨_, rfl⟩
                          rw [← hw17] at HB4r ⊢
                          clear hw17
                          obtain ⟨q, hq⟩ : ∃ q, l.length = q := ⟨_, rfl⟩
                          have HQ : Hid (l.length = q ∧ l.isEmpty = decide (q = 0)) := ⟨hq, by rw [← hq]; cases l <;> simp⟩
                          rw [hq] at HRL ⊢
                          clear hq
                          go_upto_region 33 with fail
                          go_cut [121] from 113 to 121 (fun v121 wd => v121 = .bool (decide (k2 < kn) && l.isEmpty) ∧ w17 = wd)
                          case first =>
                            by_cases hk : k2 < kn
                            · have g1 : decide ((k2 : Int) < (kn : Int)) = true := by rw [decide_eq_true_eq]; omega
                              have g2 : decide (k2 < kn) = true := by rw [decide_eq_true_eq]; omega
                              by_cases h0 : q = 0
                              · have g3 : ((q : Int) == 0) = true := by rw [h0]; rfl
                                have HE : Hid ((decide (k2 < kn) && l.isEmpty) = true) := by show _ = _; rw [g2, HQ.out.2, decide_eq_true h0]; rfl
                                subst h0
                                clear hk
                                go_wp2_with fail
                                go_meet
                                exact ⟨by rw [HE.out], rfl⟩
                              · have g3 : ((q : Int) == 0) = false := by rw [beq_eq_false_iff_ne]; omega
                                have HE : Hid ((decide (k2 < kn) && l.isEmpty) = false) := by show _ = _; rw [g2, HQ.out.2, decide_eq_false h0]; rfl
                                clear hk h0
                                go_wp2_with fail
                                go_meet
                                exact ⟨by rw [HE.out], rfl⟩
                            · have g1 : decide ((k2 : Int) < (kn : Int)) = false := by rw [decide_eq_false_iff_not]; omega
                              have g2 : decide (k2 < kn) = false := by rw [decide_eq_false_iff_not]; omega
                              have HE : Hid ((decide (k2 < kn) && l.isEmpty) = false) := by show _ = _; rw [g2]; rfl
                              clear hk
                              go_wp2_with fail
                              go_meet
                              exact ⟨by rw [HE.out], rfl⟩
                          case rest =>
                            obtain ⟨rfl, hwd⟩ := hcut
                            subst hwd
                            obtain ⟨BB, hBB⟩ : ∃ BB, (decide (k2 < kn) && l.isEmpty) = BB := ⟨_, rfl⟩
                            have HBB : Hid ((decide (k2 < kn) && l.isEmpty) = BB) := hBB
                            rw [hBB]
                            clear hBB
                            cases BB with
                            | true =>
                              have hkk : k2 < kn ∧ q = 0 := by
                                have h9 := HBB.out
                                rw [HQ.out.2, Bool.and_eq_true, decide_eq_true_eq, decide_eq_true_eq] at h9
                                exact h9
                              have HKK : Hid (k2 < kn ∧ q = 0) := hkk
                              obtain ⟨kg, ko, kcap, ek, hkc⟩ := (row_rw (row_up HKO.out HB4r.out)).place (by omega)
                              obtain ⟨ek4, -, -⟩ := Value.slice.inj ek
                              subst ek4
                              obtain ⟨z, hz⟩ : ∃ z, KL.getD k2 0 = z := ⟨_, rfl⟩
                              have HZK : Hid (KL.getD k2 0 = z) := hz
                              have hkz := hkc k2 (.int .i64 (z : Int)) (by
                                rw [iC_get _ k2 (by rw [List.length_map, HKN.out.1]; exact hkk.1), ← hz]
                                simp [List.getD_eq_getElem?_getD, List.getElem?_map, List.getElem?_eq_getElem (show k2 < KL.length by rw [HKN.out.1]; exact hkk.1)])
                              have HS34 : Hid (w17.cell? ⟨rg, ro + i, none⟩ = some (.slice xa xn xc) ∧ w17.cell? ⟨kg, ko + k2, none⟩ = some (.int .i64 (z : Int))) := ⟨HCP.out w17 HB4r.out, hkz⟩
                              have HMT : Hid (∀ W, Below w17.heap.size w17 W → Calls Tryz.prog 15 #[.slice xa xn xc, .int .i64 (z : Int)] W fun e w' => (∃ x, e = .returned x ∧ Mt xus RX (z : Int) x) ∧ W = w') := fun W hW => match_any (z : Int) (by have := HFX.out.2; have := HSM.out; have := HN.out.2.2; omega) W ((HFX.out.1.up (below_trans HB12.out HB4r.out)).fg.up hW)
                              have g1 : (k2 : Int) < (kn : Int) := by omega
                              have g2 : k2 < kn := hkk.1
                              have g0 : (0 : Int) ≤ (k2 : Int) := by omega
                              have hwk := w64n k2 (by have := HKN.out.2; have := HSM.out; omega)
                              clear hkk ek hkc hz hkz
                              go_upto_region 34 with fail
                              refine wp_region_noPanic ?_
                              refine wp_region_held_drew (S := fun W => W.cell? ⟨rg, ro + i, none⟩ = some (.slice xa xn xc) ∧ W.cell? ⟨kg, ko + k2, none⟩ = some (.int .i64 (z : Int))) (by kernel_rfl) HS34.out (fun hHeld => ?_)
                              refine wpAnyH_take (i := 0) (oi := { dst := _, op := _, type := _, pos := _, after := _, guard := _ }) (v := ?_) rfl (by kernel_rfl) (by kernel_rfl) (by kernel_rfl) (fun _ _ _ h => h) (Or.inl ⟨by rfl, ?_⟩) (by assumption) ?_
                              rotate_left
                              · intro W hSw
                                (try dsimp only at hSw)
                                go_simp
                                (try with_reducible rfl)
                              try simp only [Act.put, List.setIfInBounds_toArray, List.set_cons_zero, List.set_cons_succ]
                              refine wpAnyH_take (i := 1) (oi := { dst := _, op := _, type := _, pos := _, after := _, guard := _ }) (v := ?_) rfl (by kernel_rfl) (by kernel_rfl) (by kernel_rfl) (fun _ _ _ h => h) (Or.inl ⟨by rfl, ?_⟩) (by assumption) ?_
                              rotate_left
                              · intro W hSw
                                (try dsimp only at hSw)
                                go_simp
                                (try with_reducible rfl)
                              try simp only [Act.put, List.setIfInBounds_toArray, List.set_cons_zero, List.set_cons_succ]
                              refine wpAnyH_take (i := 2) (oi := { dst := _, op := _, type := _, pos := _, after := _, guard := _ }) (v := ?_) rfl (by kernel_rfl) (by kernel_rfl) (by kernel_rfl) (fun _ _ _ h => h) (Or.inl ⟨by rfl, ?_⟩) (by assumption) ?_
                              rotate_left
                              · intro W hSw
                                (try dsimp only at hSw)
                                go_simp
                                (try with_reducible rfl)
                              try simp only [Act.put, List.setIfInBounds_toArray, List.set_cons_zero, List.set_cons_succ]
                              refine wpAnyH_take (i := 3) (oi := { dst := _, op := _, type := _, pos := _, after := _, guard := _ }) (v := ?_) rfl (by kernel_rfl) (by kernel_rfl) (by kernel_rfl) (fun _ _ _ h => h) (Or.inl ⟨by rfl, ?_⟩) (by assumption) ?_
                              rotate_left
                              · intro W hSw
                                (try dsimp only at hSw)
                                obtain ⟨s0, s1⟩ := hSw
                                go_simp
                                (try with_reducible rfl)
                              try simp only [Act.put, List.setIfInBounds_toArray, List.set_cons_zero, List.set_cons_succ]
                              refine wpAnyH_take (i := 4) (oi := { dst := _, op := _, type := _, pos := _, after := _, guard := _ }) (v := ?_) rfl (by kernel_rfl) (by kernel_rfl) (by kernel_rfl) (fun _ _ _ h => h) (Or.inl ⟨by rfl, ?_⟩) (by assumption) ?_
                              rotate_left
                              · intro W hSw
                                (try dsimp only at hSw)
                                go_simp
                                (try with_reducible rfl)
                              try simp only [Act.put, List.setIfInBounds_toArray, List.set_cons_zero, List.set_cons_succ]
                              refine wpAnyH_take (i := 5) (oi := { dst := _, op := _, type := _, pos := _, after := _, guard := _ }) (v := ?_) rfl (by kernel_rfl) (by kernel_rfl) (by kernel_rfl) (fun _ _ _ h => h) (Or.inl ⟨by rfl, ?_⟩) (by assumption) ?_
                              rotate_left
                              · intro W hSw
                                (try dsimp only at hSw)
                                go_simp
                                (try with_reducible rfl)
                              try simp only [Act.put, List.setIfInBounds_toArray, List.set_cons_zero, List.set_cons_succ]
                              refine wpAnyH_take (i := 6) (oi := { dst := _, op := _, type := _, pos := _, after := _, guard := _ }) (v := ?_) rfl (by kernel_rfl) (by kernel_rfl) (by kernel_rfl) (fun _ _ _ h => h) (Or.inl ⟨by rfl, ?_⟩) (by assumption) ?_
                              rotate_left
                              · intro W hSw
                                (try dsimp only at hSw)
                                go_simp
                                (try with_reducible rfl)
                              try simp only [Act.put, List.setIfInBounds_toArray, List.set_cons_zero, List.set_cons_succ]
                              refine wpAnyH_take (i := 7) (oi := { dst := _, op := _, type := _, pos := _, after := _, guard := _ }) (v := ?_) rfl (by kernel_rfl) (by kernel_rfl) (by kernel_rfl) (fun _ _ _ h => h) (Or.inl ⟨by rfl, ?_⟩) (by assumption) ?_
                              rotate_left
                              · intro W hSw
                                (try dsimp only at hSw)
                                obtain ⟨s0, s1⟩ := hSw
                                go_simp
                                (try with_reducible rfl)
                              try simp only [Act.put, List.setIfInBounds_toArray, List.set_cons_zero, List.set_cons_succ]
                              refine wpAnyH_ready (rs := [8]) (by kernel_rfl) (by simp) ?_
                              refine AllReadyH.cons (o := { dst := _, op := _, type := _, pos := _, after := _, guard := _ }) rfl (fun K hK => ?_) AllReadyH.nil
                              go_simp
                              refine (HMT.out _ (Below.drew (Below.refl _ _))).mono ?_
                              rintro e w35 ⟨⟨x2, rfl, hmt⟩, hw35⟩
                              have HBF : Hid (Below w17.heap.size w17 w35) := by rw [← hw35]; exact Below.drew (Below.refl _ _)
                              have HMM : Hid (Mt xus RX (z : Int) x2) := hmt
                              clear hmt hw35
                              go_wp2_with fail
                              refine hK.out _ _ ?_ (fun hHeld => ?_)
                              · exact ⟨below_cell HBF.out HS34.out.1, below_cell HBF.out HS34.out.2⟩
                              clear hK K
                              try simp only [Act.put, List.setIfInBounds_toArray, List.set_cons_zero, List.set_cons_succ]
                              refine wpAnyH_take (i := 9) (oi := { dst := _, op := _, type := _, pos := _, after := _, guard := _ }) (v := ?_) rfl (by kernel_rfl) (by kernel_rfl) (by kernel_rfl) (fun _ _ _ h => h) (Or.inl ⟨by rfl, ?_⟩) (by assumption) ?_
                              rotate_left
                              · intro W hSw
                                (try dsimp only at hSw)
                                go_simp
                                (try with_reducible rfl)
                              try simp only [Act.put, List.setIfInBounds_toArray, List.set_cons_zero, List.set_cons_succ]
                              refine wpAnyH_done (by kernel_rfl) ?_ _
                              clear hHeld
                              refine NoPanic.normal ?_
                              have HW17 : Hid (Below w16.heap.size w16 w35) := below_trans HB4r.out HBF.out
                              rcases HMM.out with ⟨hm1, rfl⟩ | ⟨l2, a2, c2, i2, hm1, rfl, hm2, hm3, hm4⟩
                              · have HG2 : Hid (gr ((fun k : Nat => mtc RX (k : Int)) :: G1) (KL.drop k) = gr ((fun k : Nat => mtc RX (k : Int)) :: G1) (KL.drop (k2 + 1))) := by
                                  have h1 := HGR.out.1 (by have := HKK.out.2; have := HQ.out.1; exact List.eq_nil_of_length_eq_zero (by omega))
                                  have h2 := gr_go (fun k : Nat => mtc RX (k : Int)) G1 KL k2 (by rw [HKN.out.1]; exact HKK.out.1) (by rw [HZK.out]; exact hm1)
                                  exact h1.trans h2
                                clear hm1
                                go_wp2_with fail
                                go_roundg (kn - (k2 + 1))
                                case measure => have := HI4.out; have := HKK.out; omega
                                case rel => exact ⟨k2 + 1, [], none, 0, by simp, rfl, ⟨HKK.out.1, rfl⟩, HW17, ⟨fun _ => HG2.out, fun h => absurd rfl h⟩, ⟨Rw.nil _, by simp⟩⟩
                              · have HG2 : Hid (gr ((fun k : Nat => mtc RX (k : Int)) :: G1) (KL.drop k) = (gr G1 (KL.drop (k2 + 1))).map (l2 ++ ·)) := by
                                  have h1 := HGR.out.1 (by have := HKK.out.2; have := HQ.out.1; exact List.eq_nil_of_length_eq_zero (by omega))
                                  have h2 := gr_hit (fun k : Nat => mtc RX (k : Int)) G1 KL k2 (by rw [HKN.out.1]; exact HKK.out.1) l2 (by rw [HZK.out]; exact hm1)
                                  exact h1.trans h2
                                have HR2 : Hid (Rw w12 (.slice a2 l2.length c2) l2.length (iC l2) ∧ l2.length ≤ 32) := by
                                  have h1 := HFX.out.1.at' i2 _ hm2
                                  rw [hm3] at h1
                                  exact ⟨row_rw h1, HLN.out l2 (mtc_mem hm1)⟩
                                have HL0 : Hid (0 < l2.length) := hm4
                                clear hm1 hm2 hm3 hm4
                                go_wp2_with fail
                                go_roundg (kn - (k2 + 1))
                                case measure => have := HI4.out; have := HKK.out; omega
                                case rel => exact ⟨k2 + 1, l2, a2, c2, by simp, rfl, ⟨HKK.out.1, rfl⟩, HW17, ⟨fun h => (by have := HL0.out; rw [h] at this; cases this), fun _ => HG2.out⟩, HR2⟩
                            | false =>
                              have HST : Hid (gN P T 0 v = if A && !l.isEmpty then (gr G1 (KL.drop k2)).map ((F ++ l) ++ ·) else none) := gr_step HTG.out (fun h => by
                                rw [HGR.out.1 h]
                                refine gr_end _ _ _ _ ?_
                                have h9 := HBB.out
                                rw [h] at h9
                                simp at h9
                                rw [HKN.out.1]
                                exact h9) HGR.out.2
                              obtain ⟨E, hE⟩ : ∃ E, l.isEmpty = E := ⟨_, rfl⟩
                              have HE : Hid (l.isEmpty = E ∧ E = decide (q = 0)) := ⟨hE, by rw [← hE]; exact HQ.out.2⟩
                              rw [hE] at HST
                              clear hE
                              go_upto_if 135 with fail
                              go_cut [21] from 135 to 135 (fun v21 wd => v21 = .bool (A && !E) ∧ w17 = wd)
                              case first =>
                                by_cases h0 : q = 0
                                · have g3 : ((q : Int) == 0) = true := by rw [h0]; rfl
                                  have HA : Hid ((A && !E) = false) := by show _ = _; rw [HE.out.2, decide_eq_true h0]; cases A <;> rfl
                                  subst h0
                                  go_wp2_with fail
                                  go_meet
                                  exact ⟨by rw [HA.out], rfl⟩
                                · have g3 : ((q : Int) == 0) = false := by rw [beq_eq_false_iff_ne]; omega
                                  have HA : Hid ((A && !E) = A) := by show _ = _; rw [HE.out.2, decide_eq_false h0]; cases A <;> rfl
                                  clear h0
                                  go_wp2_with fail
                                  go_meet
                                  exact ⟨by rw [HA.out], rfl⟩
                              case rest =>
                                obtain ⟨rfl, hwd⟩ := hcut
                                subst hwd
                                obtain ⟨A2, hA2⟩ : ∃ A2, (A && !E) = A2 := ⟨_, rfl⟩
                                rw [hA2] at HST ⊢
                                clear hA2 HE
                                have HBV17 : Hid (Below b3 wv w17) := by have h9 := below_trans HBW.out HB4r.out; rw [HB3.out] at h9; exact h9
                                go_upto_region 39 with fail
                                go_loopg [18, 24] q (fun gm v18 v24 wr => ∃ j : Nat, v24 = .int .i64 (j : Int) ∧ Hid (j ≤ q ∧ gm = q - j) ∧ Hid (wr.ownsRow b3 3 1 v18 (F ++ l.take j).length (iC (F ++ l.take j))) ∧ Hid (wr.ownsRow w14.heap.size 3 1 (.slice ka kn kc) kn (iC (KL.map (fun k : Nat => (k : Int))))) ∧ Hid (Value.ownBlock (.slice ka kn kc) = none ∨ Value.ownBlock (.slice ka kn kc) ≠ v18.ownBlock) ∧ Hid (Below b3 wv wr))
                                case atStart => exact ⟨0, rfl, ⟨Nat.zero_le _, rfl⟩, (by show World.ownsRow _ _ _ _ _ _ _; rw [List.take_zero, List.append_nil]; exact row_up HFW.out HB4r.out), row_up HKO.out HB4r.out, HNE, HBV17⟩
                                case round =>
                                  obtain ⟨j, rfl, HI5, HFJ, HKJ, HNJ, HBJ⟩ := hrel
                                  obtain ⟨ja, jc, hjv⟩ := row_shape HFJ.out
                                  subst hjv
                                  obtain ⟨w18, hw18⟩ : ∃ w18, w18 = wr := ⟨_, rfl⟩
                                  rw [← hw18] at HFJ HKJ HBJ ⊢
                                  clear hw18
                                  by_cases hj : j < q
                                  · have g1 : decide ((j : Int) < (q : Int)) = true := by rw [decide_eq_true_eq]; omega
                                    have g2 : decide (j < q) = true := by rw [decide_eq_true_eq]; omega
                                    have g4 : (j : Int) < (q : Int) := by omega
                                    have g5 : (0 : Int) ≤ (j : Int) := by omega
                                    have HJL : Hid (j < q) := hj
                                    have hwj := w64n j (by have := HRL.out.2; omega)
                                    have HB12j : Hid (Below w12.heap.size w12 w18) := below_trans HBR2.out (by rw [HB3.out]; exact HBJ.out)
                                    have hrl := HRL.out.1
                                    obtain ⟨lg, lo, lcap, el, hlc⟩ := hrl.place (by omega)
                                    obtain ⟨el4, -, -⟩ := Value.slice.inj el
                                    subst el4
                                    obtain ⟨y, hy⟩ : ∃ y, l.getD j 0 = y := ⟨_, rfl⟩
                                    have hly := hlc j _ (iC_get l j (by rw [HQ.out.1]; exact hj))
                                    rw [hy] at hly
                                    have c9 := below_cell HB12j.out hly
                                    have HTK : Hid (F ++ l.take (j + 1) = (F ++ l.take j) ++ [y]) := by
                                      show _ = _
                                      rw [List.take_add_one, List.getElem?_eq_getElem (by rw [HQ.out.1]; exact hj), List.append_assoc, ← hy, List.getD_eq_getElem?_getD, List.getElem?_eq_getElem (by rw [HQ.out.1]; exact hj)]
                                      rfl
                                    obtain ⟨FJ, hFJ⟩ : ∃ FJ, F ++ l.take j = FJ := ⟨_, rfl⟩
                                    obtain ⟨fj, hfj⟩ : ∃ fj, FJ.length = fj := ⟨_, rfl⟩
                                    have HFL : Hid (FJ.length = fj ∧ fj ≤ 1 + 32 * i + 32) := ⟨hfj, by
                                      rw [← hfj, ← hFJ, List.length_append, List.length_take]
                                      have h1 := HI3.out.2.2.2
                                      have h2 := HRL.out.2
                                      have h3 := HQ.out.1
                                      omega⟩
                                    rw [hFJ] at HFJ HTK HNJ ⊢
                                    rw [hfj] at HFJ HNJ ⊢
                                    have HROW : Hid ((w18.alloc (.cells #[.int .i64 y] 3)).ownsRow b3 3 1 (.slice ja fj jc) fj (iC FJ)) := HFJ.out.alloc _
                                    have HSA : Hid (b3 ≤ (w18.alloc (.cells #[.int .i64 y] 3)).heap.size) := by
                                      have h1 := HBJ.out.size
                                      have h2 := HB3.out
                                      show _ ≤ _
                                      simp
                                      omega
                                    have HMX : Hid (fj + 1 ≤ maxLen ∧ (fj + 1) * 8 ≤ 140737488355328) := by have := HFL.out.2; have := HK0.out.2.2.1; have := HIL3.out; show _ ∧ _; unfold maxLen; omega
                                    clear hj hrl el hlc hy hly hFJ hfj
                                    go_wp2_with (at_builtin; refine wpList_append_own_at _ rfl _ _ 34 rfl b3 3 iI (.int .i64 0) 1 8 Tryz.underlying34 hiI hw0 hw1 hw2 rfl (by decide) _ _ _ rfl HROW.out ⟨w18.heap.size, 0, none⟩ 1 1 [.int .i64 y] rfl rfl (World.news_of_block (heap_new w18 _)) (by simp [Value.oneCell']) HMX.out.1 HMX.out.2 HSA.out ?_; intro v8 w8 ho8 hg8 _ ha8; have HO8 : Hid (w8.ownsRow b3 3 1 v8 (fj + 1) (iC FJ ++ [.int .i64 y])) := ho8; have HK8 : Hid (w8.ownsRow w14.heap.size 3 1 (.slice ka kn kc) kn (iC (KL.map (fun k : Nat => (k : Int))))) := (HKJ.out.alloc _).kept hg8 HNJ.out; have HN8 : Hid (Value.ownBlock (.slice ka kn kc) = none ∨ Value.ownBlock (.slice ka kn kc) ≠ v8.ownBlock) := ne_app HNJ.out HKJ.out ha8; have HB8 : Hid (Below b3 wv w8) := Tr.bel_app HBJ.out (by have h1 := HBJ.out.size; have h2 := HB3.out; omega) HFJ.out hg8; obtain ⟨ya, yc, rfl⟩ := row_shape ho8; clear ho8 hg8 ha8)
                                    go_roundg (q - (j + 1))
                                    case measure => have := HI5.out; have := HJL.out; omega
                                    case rel => exact ⟨j + 1, by simp, ⟨HJL.out, rfl⟩, (by
                                      show World.ownsRow _ _ _ _ _ _ _
                                      rw [HTK.out, List.length_append, HFL.out.1, iC_app]
                                      exact HO8.out), HK8, HN8, HB8⟩
                                  · have g1 : decide ((j : Int) < (q : Int)) = false := by rw [decide_eq_false_iff_not]; omega
                                    have g2 : decide (j < q) = false := by rw [decide_eq_false_iff_not]; omega
                                    have HTL : Hid (l.take j = l) := by show _ = _; exact List.take_of_length_le (by rw [HQ.out.1]; omega)
                                    have HFE : Hid (w18.ownsRow b3 3 1 (.slice ja (F ++ l).length jc) (F ++ l).length (iC (F ++ l))) := by
                                      have h9 := HFJ.out
                                      rw [HTL.out] at h9
                                      exact h9
                                    have HNE5 : Hid (Value.ownBlock (.slice ka kn kc) = none ∨ Value.ownBlock (.slice ka kn kc) ≠ Value.ownBlock (.slice ja (F ++ l).length jc)) := by have h9 := HNJ.out; rw [HTL.out] at h9; exact h9
                                    rw [HTL.out]
                                    have hwi3 := HWI3.out
                                    clear hj
                                    go_wp2_with fail
                                    go_roundg (K0 - (i + 1))
                                    case measure => have := HI3.out; have := HIL3.out; omega
                                    case rel => exact ⟨i + 1, k2, A2, F ++ l, by simp, rfl, rfl, ⟨HIL3.out, rfl, HI4.out.1, by rw [List.length_append]; have := HI3.out.2.2.2; have := HRL.out.2; have := HQ.out.1; omega⟩, HFE, HKJ, HNE5, HBJ, (by rw [HG1.out]; exact HST)⟩
                      · have e1 : decide ((i : Int) < (K0 : Int)) = false := by rw [decide_eq_false_iff_not]; omega
                        have e2 : decide (i < K0) = false := by rw [decide_eq_false_iff_not]; omega
                        have hik : K0 = i := by have := HI3.out; omega
                        have HGE : Hid (gN P T 0 v = if A then some F else none) := by
                          show _ = _
                          have h9 := HTG.out
                          rw [← hik, lf_end T s HK0.out.1, gr_nil] at h9
                          rw [h9]
                          cases A <;> simp
                        have HFA16 : Hid (Fa w12.heap.size w16 (.slice wa kw wc) ws (alls P [] T s v) kw) := HFA.out.up HBW.out
                        have hwi := HWI.out
                        clear hi hik
                        cases A with
                        | false =>
                          have HNX : Hid (alls P [] T s (v + 1) = alls P [] T s v) := by
                            show _ = _
                            rw [HAS.out, HGE.out]
                            simp
                          go_wp2_with fail
                          go_roundg (tl - (v + 1))
                          case measure => have := HI.out; have := HIL.out; omega
                          case rel => exact ⟨v + 1, kw, ws, by simp, ⟨HIL.out.1, rfl⟩, (by rw [HNX.out]; exact HFA16), (by have := HKI.out; show kw ≤ v + 1; omega), HB12⟩
                        | true =>
                          have HNX : Hid (alls P [] T s (v + 1) = alls P [] T s v ++ [F]) := by
                            show _ = _
                            rw [HAS.out, HGE.out]
                            simp
                          obtain ⟨fl, hfl⟩ : ∃ fl, F.length = fl := ⟨_, rfl⟩
                          have HFLN : Hid (F.length = fl) := hfl
                          rw [hfl] at HFW ⊢
                          clear hfl
                          have HROW : Hid ((w16.alloc (.cells #[.slice fa fl fc] 36)).ownsRow w12.heap.size 36 1 (.slice wa kw wc) kw ws) := HFA16.out.ow.alloc _
                          have HSA : Hid (w12.heap.size ≤ (w16.alloc (.cells #[.slice fa fl fc] 36)).heap.size) := Nat.le_trans HB12.out.size (bel_up _ _).size
                          have HMX : Hid (kw + 1 ≤ maxLen ∧ (kw + 1) * 24 ≤ 140737488355328) := by have := HKI.out; have := HIL.out; have := HSM.out; show _ ∧ _; unfold maxLen; omega
                          go_wp2_with (at_builtin; refine wpList_append_own_at _ rfl _ _ 30 rfl w12.heap.size 36 iF (.agg #[.slice none 0 0]) 1 24 Tryz.underlying30 hiF hx0 hx1 hx2 rfl (by decide) _ _ _ rfl HROW.out ⟨w16.heap.size, 0, none⟩ 1 1 [.slice fa fl fc] rfl rfl (World.news_of_block (heap_new w16 _)) (by simp [Value.oneCell']) HMX.out.1 HMX.out.2 HSA.out ?_; intro v8 w8 ho8 hg8 _ ha8; have HO8 : Hid (w8.ownsRow w12.heap.size 36 1 v8 (kw + 1) (ws ++ [.slice fa fl fc])) := ho8; have HG8 : Hid (w16.grownBy w8 (Value.ownBlock (.slice wa kw wc))) := (World.grownBy_alloc _ _ _).trans hg8; have HB8 : Hid (Below w12.heap.size w12 w8) := Tr.bel_app HB12.out HB12.out.size HFA16.out.ow hg8; obtain ⟨ya, yc, rfl⟩ := row_shape ho8; clear ho8 hg8 ha8)
                          go_roundg (tl - (v + 1))
                          case measure => have := HI.out; have := HIL.out; omega
                          case rel => exact ⟨v + 1, kw + 1, _, by simp, ⟨HIL.out.1, rfl⟩, (by rw [HNX.out]; exact HFA16.out.push HFW.out HFLN.out (by have h1 := HBR2.out.size; have h2 := HB3.out; omega) HO8.out HG8.out), (by have := HKI.out; show kw + 1 ≤ v + 1; omega), HB8⟩
                · have e1 : decide ((v : Int) < (tl : Int)) = false := by rw [decide_eq_false_iff_not]; omega
                  have e2 : decide (v < tl) = false := by rw [decide_eq_false_iff_not]; omega
                  have hvt : tl = v := by have := HI.out; omega
                  subst hvt
                  have HLR : Hid (kw = rb) := by
                    have h1 := HFA.out.ln.2
                    have h2 := HF7b.out.ln.2
                    rw [HN.out.2.2] at h2
                    exact h1.symm.trans h2
                  obtain rfl := HLR.out
                  have HS7 : Hid (Fg w11 (.slice ga kw gc) vs7 (alls P [] T s tl) kw) := by have h9 := HF7b.out; rw [HN.out.2.2] at h9; exact h9
                  have HSF : Hid _ := sameFound_any (n := kw) (R := alls P [] T s tl) (by have := HKI.out; have := HSM.out; omega) (fun j hj => by
                    have h8 : (alls P [] T s tl).getD j [] ∈ alls P [] T s tl := by rw [List.getD_eq_getElem?_getD, List.getElem?_eq_getElem (by rw [HFA.out.ln.2]; exact hj)]; exact List.getElem_mem _
                    have h9 := (alls_fv [] s (shp_all HSB.out).2.2.1 HFO.out tl (by rw [HN.out.2.2]; exact Nat.le_refl _) _ h8).1
                    have := HSO.out.1
                    omega) wv (HS7.out.up (below_trans HBR.out HBR2.out)) HFA.out.fg
                  clear hi
                  go_wp2_with (go_at_call 13; refine Calls.mono HSF.out ?_; rintro e w8 ⟨rfl, hb8⟩; have HB8z : Hid (Below wv.heap.size wv w8) := hb8; clear hb8)
                  go_ret
                  exact ⟨rfl, below_trans HB1.out (below_trans HB1v.out HB8z.out)⟩
        · have h0 : allQ P cs T s = [] := by unfold allQ; rw [HSB.out, hr]; rfl
          have HAZ2 : Hid _ := fun W hW => HAZ.out W hW h0
          rw [hr2] at HRT
          clear hr hr2 h0 HAZ
          go_upto_region 6 with first | (go_at_call 9; refine Calls.mono HSH.out ?_; rintro e w6 ⟨rfl, hb6⟩; have HB6 : Hid (Below W1.heap.size W1 w6) := below_trans HB4.out hb6; clear hb6) | (go_at_call 10; refine Calls.mono (HRT.out _ HB6.out) ?_; rintro e w9 ⟨rfl, hw9⟩; subst hw9)
          clear q0 q1
          obtain ⟨q0, q1⟩ := HQC.out w6 HB6.out
          go_wp2_with (go_at_call 8; refine Calls.mono (HAZ2.out _ HB6.out) ?_; rintro e w7 ⟨ga, gc, rfl, hb7⟩; have HB7 : Hid (Below W1.heap.size W1 w7) := below_trans HB6.out hb7; clear hb7)
          go_ret
          exact ⟨rfl, below_trans HB1.out HB7.out⟩
end Go.Proofs.YtcmhbcfgikmblabGreatDoor.Qy
