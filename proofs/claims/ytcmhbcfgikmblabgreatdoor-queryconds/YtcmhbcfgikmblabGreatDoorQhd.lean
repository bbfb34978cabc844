import Derived.Test.YtcmhbcfgikmblabGreatDoorQhx
namespace Go.Proofs.YtcmhbcfgikmblabGreatDoor.Qy
open Go.RowKit Go.Maps

set_option maxRecDepth 100000 in
set_option maxHeartbeats 16000000 in
/-- QueryConds. -/
theorem queryConds_any {vp vc vt : Value} {P : List Pn} {cs : List Cd} {T : List Tr.Nd} (s : ByteArray) (w : World) (hp : Ps w vp P) (hc : Cs w vc cs) (ht : Tr.Ns w vt T) (hz : Tr.Sm T) (hl : P.length * 64 ≤ 140737488355328) : Calls Tryz.prog 3 #[.agg #[vp, vc], vt, .string s] w fun e w' => e = .returned (.bool true) ∧ Below w.heap.size w w' := by
  obtain ⟨W1, hW1⟩ : ∃ W1, W1 = w.alloc (.cells #[vp, vc] 25) := ⟨_, rfl⟩
  obtain ⟨qb, hqb⟩ : ∃ qb, w.heap.size = qb := ⟨_, rfl⟩
  have HB1 : Hid (Below w.heap.size w W1) := by rw [hW1]; exact bel_up _ _
  have hq1 : W1.heap[qb]? = some (.cells #[vp, vc] 25 (0, 0)) := by rw [hW1, ← hqb]; exact heap_new w _
  have HST : Hid _ := started_any W1
  have HPS : Hid (Ps W1 vp P) := hp.up HB1.out
  have HCS : Hid (Cs W1 vc cs) := hc.up HB1.out
  have HTS : Hid (Tr.Ns W1 vt T) := ht.up HB1.out
  have HZ : Hid (Tr.Sm T) := hz
  have HPL : Hid (P.length * 64 ≤ 140737488355328) := hl
  obtain ⟨pa, pc, hvp⟩ := hp.form
  obtain ⟨ca, cc, hvc⟩ := hc.form
  obtain ⟨ta, tc, hvt⟩ := ht.form
  obtain ⟨pl, hpl⟩ : ∃ pl, P.length = pl := ⟨_, rfl⟩
  obtain ⟨m, hm⟩ : ∃ m, cs.length = m := ⟨_, rfl⟩
  obtain ⟨tl, htl⟩ : ∃ tl, T.length = tl := ⟨_, rfl⟩
  have HN : Hid (P.length = pl ∧ cs.length = m ∧ T.length = tl) := ⟨hpl, hm, htl⟩
  rw [hpl] at hvp
  rw [hm] at hvc
  rw [htl] at hvt
  subst hvp hvc hvt
  have HQC : Hid (∀ W, Below W1.heap.size W1 W → W.cell? ⟨qb, 0, none⟩ = some (.slice pa pl pc) ∧ W.cell? ⟨qb, 1, none⟩ = some (.slice ca m cc)) := fun W hW => ⟨below_cell hW (rcell hq1 0 _ rfl), below_cell hW (rcell hq1 1 _ rfl)⟩
  have HBP : Hid (∀ W, Below W1.heap.size W1 W → Calls Tryz.prog 6 #[.slice pa pl pc] W fun e w' => ∃ b, e = .returned (.bool b) ∧ Below W.heap.size W w') := fun W hW => beyondP_any W (HPS.out.up hW) HPL.out
  have HBT : Hid (∀ W, Below W1.heap.size W1 W → Calls Tryz.prog 7 #[.slice ta tl tc] W fun e w' => ∃ b, e = .returned (.bool b) ∧ Below W.heap.size W w') := fun W hW => Tr.beyond_any W (HTS.out.up hW) HZ.out
  clear hp hc ht hz hl hq1 hpl hm htl
  go_enter Tryz.func3, Tryz.ntmps3
  go_upto_region 1 with fail
  first | rw [← hW1, hqb] | rw [← hW1]
  clear hW1 hqb
  go_upto_region 3 with (go_at_call 5; refine Calls.mono HST.out ?_; rintro e w2 ⟨rfl, hb2⟩; have HB2 : Hid (Below W1.heap.size W1 w2) := hb2; clear hb2)
  obtain ⟨q0, q1⟩ := HQC.out w2 HB2.out
  go_cut [25] from 19 to 25 (fun v25 wd => ∃ b, v25 = .bool b ∧ Hid (Below W1.heap.size W1 wd))
  case first =>
    go_wp2_with first | (go_at_call 6; refine Calls.mono (HBP.out _ HB2.out) ?_; rintro e w3 ⟨b, rfl, hb3⟩; have HB3 : Hid (Below W1.heap.size W1 w3) := below_trans HB2.out hb3; clear hb3) | (go_at_call 7; refine Calls.mono (HBT.out _ HB3.out) ?_; rintro e w4 ⟨b4, rfl, hb4⟩; have HB4 : Hid (Below W1.heap.size W1 w4) := below_trans HB3.out hb4; clear hb4)
    all_goals (go_meet; first | exact ⟨_, rfl, HB4⟩ | exact ⟨_, rfl, HB3⟩)
  case rest =>
    obtain ⟨b, rfl, HB4⟩ := hcut
    obtain ⟨w4, hw4⟩ : ∃ w4, w4 = wc := ⟨_, rfl⟩
    rw [← hw4] at HB4 ⊢
    clear hw4 q0 q1
    cases b with
    | true =>
      go_wp2_with fail
      go_ret
      exact ⟨rfl, below_trans HB1.out HB4.out⟩
    | false =>
      obtain ⟨q0, q1⟩ := HQC.out w4 HB4.out
      have HAL : Hid _ := allq_any w4 (HPS.out.up HB4.out) (HCS.out.up HB4.out) (HTS.out.up HB4.out) HZ.out s
      obtain ⟨RL, hRL⟩ : ∃ RL, allQ P cs T s = RL := ⟨_, rfl⟩
      have HRL : Hid (allQ P cs T s = RL) := hRL
      rw [hRL] at HAL
      obtain ⟨rl, hrl⟩ : ∃ rl, RL.length = rl := ⟨_, rfl⟩
      have HRLN : Hid (RL.length = rl) := hrl
      rw [hrl] at HAL
      clear hRL hrl
      go_upto_region 6 with (go_at_call 8; refine Calls.mono HAL.out ?_; rintro e w5 ⟨v5, vs5, rfl, hf5, hb5⟩; have HF5 : Hid (Fg w5 v5 vs5 RL rl) := hf5.fg; have HB5 : Hid (Below W1.heap.size W1 w5) := below_trans HB4.out hb5; obtain ⟨fa, fc, rfl⟩ := row_shape hf5.ow; clear hf5 hb5)
      clear q0 q1 HAL
      obtain ⟨q0, q1⟩ := HQC.out w5 HB5.out
      have HSH : Hid _ := shaped_any w5 (HPS.out.up HB5.out) (HCS.out.up HB5.out)
      obtain ⟨SB, hSB⟩ : ∃ SB, shp P cs = SB := ⟨_, rfl⟩
      have HSB : Hid (shp P cs = SB) := hSB
      rw [hSB] at HSH
      clear hSB
      have HRT : Hid (∀ W, Below W1.heap.size W1 W → Calls Tryz.prog 10 #[.slice ta tl tc] W fun e w' => e = .returned (.int .i64 (Tr.rts T)) ∧ W = w') := fun W hW => Tr.roots_any W (HTS.out.up hW) HZ.out
      cases SB with
      | false =>
        have h0 : rl = 0 := by
          rw [← HRLN.out, ← HRL.out]
          unfold allQ
          rw [HSB.out]
          rfl
        subst h0
        go_wp2_with (go_at_call 9; refine Calls.mono HSH.out ?_; rintro e w6 ⟨rfl, hb6⟩; have HB6 : Hid (Below W1.heap.size W1 w6) := below_trans HB5.out hb6; clear hb6)
        go_ret
        exact ⟨rfl, below_trans HB1.out HB6.out⟩
      | true =>
        rcases @Tr.rts_fo T with ⟨r, hr, hr2⟩ | ⟨hr, hr2⟩
        · have HFO : Hid (Tr.Fo (Tr.kds T)) := ⟨r, hr⟩
          obtain ⟨a1, a2, a3, a4⟩ := shp_all HSB.out
          have HSO : Hid (P.length ≤ 32 ∧ cs.length ≤ 16 ∧ Tr.rt (pks P) = some 1 ∧ ∀ c ∈ cs, csh P c = true) := ⟨a1, a2, a3, a4⟩
          have HRA : Hid (RL = (allQ P [] T s).filter (hld P cs T s) ∧ allQ P [] T s = alls P [] T s tl) := by
            have e1 : allQ P [] T s = alls P [] T s T.length := by
              unfold allQ
              rw [shp_bare HSB.out, hr]
              rfl
            have e2 : allQ P cs T s = alls P cs T s T.length := by
              unfold allQ
              rw [HSB.out, hr]
              rfl
            exact ⟨by rw [← HRL.out, e1, e2]; exact alls_filter P cs T s HFO.out _ (Nat.le_refl _), by rw [e1, HN.out.2.2]⟩
          rw [hr2] at HRT
          have d1 : decide ((r : Int) < 0) = false := by rw [decide_eq_false_iff_not]; omega
          clear hr hr2 a1 a2 a3 a4
          go_upto_region 8 with first | (go_at_call 9; refine Calls.mono HSH.out ?_; rintro e w6 ⟨rfl, hb6⟩; have HB6 : Hid (Below W1.heap.size W1 w6) := below_trans HB5.out hb6; have HF6 : Hid (Fg w6 (.slice fa rl fc) vs5 RL rl) := HF5.out.up hb6; clear hb6) | (go_at_call 10; refine Calls.mono (HRT.out _ HB6.out) ?_; rintro e w9 ⟨rfl, hw9⟩; subst hw9)
          clear q0 q1 d1 HSH
          obtain ⟨q0, q1⟩ := HQC.out w6 HB6.out
          have hnil : Cs w6 (.slice none 0 0) [] := Rw.nil _
          have HAL : Hid _ := allq_any w6 (HPS.out.up HB6.out) hnil (HTS.out.up HB6.out) HZ.out s
          obtain ⟨RB, hRB⟩ : ∃ RB, allQ P [] T s = RB := ⟨_, rfl⟩
          rw [hRB] at HAL HRA
          obtain ⟨rb, hrb⟩ : ∃ rb, RB.length = rb := ⟨_, rfl⟩
          have HRB : Hid (RB.length = rb ∧ rb ≤ tl) := ⟨hrb, by rw [← hrb, HRA.out.2]; exact alls_len _ _ _ _ _⟩
          have HFV : Hid (∀ i, i < rb → Fv P T (RB.getD i [])) := fun i hi => by
            refine alls_fv [] s HSO.out.2.2.1 HFO.out tl (by rw [HN.out.2.2]; exact Nat.le_refl _) _ ?_
            rw [← HRA.out.2, List.getD_eq_getElem?_getD, List.getElem?_eq_getElem (by rw [hrb]; exact hi)]
            exact List.getElem_mem _
          rw [hrb] at HAL
          clear hRB hrb hnil
          go_upto_region 9 with (go_at_call 8; refine Calls.mono HAL.out ?_; rintro e w7 ⟨v7, vs7, rfl, hf7, hb7⟩; have HF7 : Hid (Fg w7 v7 vs7 RB rb) := hf7.fg; have HB7 : Hid (Below W1.heap.size W1 w7) := below_trans HB6.out hb7; have HL7 : Hid (Fg w7 (.slice fa rl fc) vs5 RL rl) := HF6.out.up hb7; obtain ⟨ga, gc, rfl⟩ := row_shape hf7.ow; clear hf7 hb7)
          clear q0 q1 HAL
          obtain ⟨iF, hiF, hx0, hx1, hx2⟩ := info_parts infoF
          have HPLC : Hid (∀ W, Below W1.heap.size W1 W → ∀ t : ByteArray, Calls Tryz.prog 11 #[.agg #[.slice pa pl pc, .slice ca m cc], .string t] W fun e w' => e = .returned (.int .i64 (cap P t)) ∧ Below W.heap.size W w') := fun W hW t => place_any t W (HPS.out.up hW) (HCS.out.up hW) HPL.out
          go_upto_region 11 with fail
          go_loopg [9, 10] rb (fun gm v9 v10 wr => ∃ (i k : Nat) (ws : List Value), v10 = .int .i64 (i : Int) ∧ Hid (i ≤ rb ∧ gm = rb - i) ∧ Hid (wr.ownsRow w7.heap.size 36 1 v9 k ws) ∧ Hid (k ≤ i) ∧ Hid (Wn w7 ws ((RB.take i).filter (hld P cs T s)) k) ∧ Hid (Below w7.heap.size w7 wr))
          case atStart => exact ⟨0, 0, [], rfl, ⟨Nat.zero_le _, rfl⟩, World.ownsRow_nil _ _ _ _, Nat.le_refl _, ⟨⟨rfl, rfl⟩, fun i x hx => by simp at hx⟩, Below.refl _ _⟩
          case round =>
            obtain ⟨i, k, ws, rfl, HI, HOW, HKI, HWN, HBR⟩ := hrel
            obtain ⟨oa, oc, hov⟩ := row_shape HOW.out
            subst hov
            by_cases hi : i < rb
            · have e1 : decide ((i : Int) < (rb : Int)) = true := by rw [decide_eq_true_eq]; omega
              have e2 : decide (i < rb) = true := by rw [decide_eq_true_eq]; omega
              have b1 : (i : Int) < (rb : Int) := by omega
              have b2 : i < rb := hi
              have HIL : Hid (i < rb) := hi
              have HSM : Hid (tl * 72 + 4096 ≤ 140737488355328) := by have h9 := HZ.out; unfold Tr.Sm at h9; rw [HN.out.2.2] at h9; exact h9
              have hwi := w64n i (by have h9 := HSM.out; have := HRB.out.2; omega)
              have HWI : Hid (IntKind.i64.wrap ((i : Int) + 1) = (i : Int) + 1) := by rw [hwi]; rfl
              have HB1r : Hid (Below W1.heap.size W1 wr) := below_trans HB7.out HBR.out
              obtain ⟨g, o, ya, yc, rfl, hgc, hgr, -⟩ := HF7.out.one i hi
              have hfv := HFV.out i hi
              obtain ⟨F, hF⟩ : ∃ F, RB.getD i [] = F := ⟨_, rfl⟩
              have HFE : Hid (RB.getD i [] = F) := hF
              rw [hF] at hgc hgr hfv
              have hfl : F.length = pl := hfv.1.trans HN.out.1
              have HFVF : Hid (Fv P T F) := hfv
              rw [hfl] at hgc hgr
              obtain ⟨yg, yo, c9, hye, hyc⟩ := hgr.place (by rw [← HN.out.1]; exact pos_one HSO.out.2.2.1)
              obtain ⟨e4, -, -⟩ := Value.slice.inj hye
              subst e4
              have HG7 : Hid (w7.cell? ⟨g, o + i, none⟩ = some (.slice (some ⟨yg, yo, none⟩) pl yc)) := hgc
              have HGR : Hid (Rw w7 (.slice (some ⟨yg, yo, none⟩) pl yc) F.length (iC F)) := by rw [hfl]; exact hgr
              have HY7 : Hid (∀ j, j < pl → w7.cell? ⟨yg, yo + j, none⟩ = some (.int .i64 (F.getD j 0))) := fun j hj => hyc j _ (iC_get F j (by rw [hfl]; exact hj))
              have c0 := below_cell HBR.out hgc
              obtain ⟨q0, -⟩ := HQC.out wr HB1r.out
              have f1 : ((pl : Int) != (pl : Int)) = false := by simp
              clear hi hgc hgr hfv hF hfl hye hyc
              go_upto_region 13 with fail
              go_quiet (fail)
              have HB9 : Hid (Below wr.heap.size wr (wr.drewN nq)) := below_drewN (Below.refl _ _) _
              have HOW9 : Hid ((wr.drewN nq).ownsRow w7.heap.size 36 1 (.slice oa k oc) k ws) := row_up HOW.out HB9.out
              have HB79 : Hid (Below w7.heap.size w7 (wr.drewN nq)) := below_trans HBR.out HB9.out
              generalize wr.drewN nq = W9 at HB9 HOW9 HB79 ⊢
              have HB19 : Hid (Below W1.heap.size W1 W9) := below_trans HB7.out HB79.out
              clear c0 q0
              go_upto_region 17 with fail
              go_loopg [11, 12] m (fun gm v11 v12 wr => ∃ (j : Nat) (A : Bool), v12 = .int .i64 (j : Int) ∧ v11 = .bool A ∧ Hid (j ≤ m ∧ gm = m - j) ∧ Hid ((cs.take j).all (cho P T s F) = A) ∧ Hid (Below W9.heap.size W9 wr))
              case atStart => exact ⟨0, true, rfl, rfl, ⟨Nat.zero_le _, rfl⟩, rfl, Below.refl _ _⟩
              case round =>
                obtain ⟨j, A, rfl, rfl, HJ, HA, HBJ⟩ := hrel
                obtain ⟨wa, hwa⟩ : ∃ wa, wa = wr := ⟨_, rfl⟩
                rw [← hwa] at HBJ ⊢
                clear hwa
                have HB1a : Hid (Below W1.heap.size W1 wa) := below_trans HB19.out HBJ.out
                have HB7a : Hid (Below w7.heap.size w7 wa) := below_trans HB79.out HBJ.out
                obtain ⟨q0, q1⟩ := HQC.out wa HB1a.out
                by_cases hj : j < m
                · have e3 : decide ((j : Int) < (m : Int)) = true := by rw [decide_eq_true_eq]; omega
                  have e4 : decide (j < m) = true := by rw [decide_eq_true_eq]; omega
                  have e5 : (j : Int) < (m : Int) := by omega
                  have HJL : Hid (j < m) := hj
                  have hjl : j < cs.length := by rw [HN.out.2.1]; exact hj
                  have hwj := w64n j (by have := HSO.out.2.1; have := HN.out.2.1; omega)
                  have HWJ : Hid (IntKind.i64.wrap ((j : Int) + 1) = (j : Int) + 1) := by rw [hwj]; rfl
                  obtain ⟨cg, co, rfl, c0, c1, c2, c3⟩ := (HCS.out.up HB1a.out).all j hjl
                  have hmem : cs.getD j cz ∈ cs := by rw [List.getD_eq_getElem?_getD, List.getElem?_eq_getElem hjl]; exact List.getElem_mem hjl
                  obtain ⟨k1, k2⟩ := csh_ok (HSO.out.2.2.2 _ hmem)
                  obtain ⟨x, hx⟩ : ∃ x, cs.getD j cz = x := ⟨_, rfl⟩
                  rw [hx] at c0 c1 c2 c3 k1 k2
                  have HTA : Hid ((cs.take (j + 1)).all (cho P T s F) = (A && cho P T s F x)) := by
                    show _ = _
                    rw [take_all cs _ j hjl, HA.out, hx]
                  obtain ⟨_, _, z1, z2⟩ := cap_some k1
                  obtain ⟨ka, hka⟩ : ∃ ka : Nat, cap P x.a = (ka : Int) := ⟨(cap P x.a).toNat, by omega⟩
                  have hkp : ka < pl := by rw [hka, HN.out.1] at z2; omega
                  obtain ⟨na, hna, hnt⟩ := HFVF.out.2 ka (by rw [HN.out.1]; exact hkp)
                  rw [HN.out.2.2] at hnt
                  have HNA : Hid (F.getD ka 0 = (na : Int) ∧ na < tl ∧ cap P x.a = (ka : Int)) := ⟨hna, hnt, hka⟩
                  have HK2 : Hid (x.b = ⟨#[]⟩ ∨ x.b ≠ ⟨#[]⟩ ∧ x.tx = ⟨#[]⟩ ∧ cap P x.b ≠ -1) := k2
                  obtain ⟨W2, hW2⟩ : ∃ W2, W2 = wa.alloc (.cells #[.bool x.nt, .string x.a, .string x.b, .string x.tx] 38) := ⟨_, rfl⟩
                  have HY2 := HY7.out ka hkp
                  rw [hna] at HY2
                  have ga1 : (ka : Int) < (pl : Int) := by omega
                  have ga2 : ka < pl := hkp
                  have hwb : 0 ≤ (ka : Int) := by omega
                  clear hj hjl hx hmem k1 k2 z1 z2 hka hkp hna hnt
                  go_upto_region 20 with fail
                  rw [← hW2]
                  have hn2 := heap_new wa (.cells #[.bool x.nt, .string x.a, .string x.b, .string x.tx] 38)
                  have hb2 : Below wa.heap.size wa W2 := by rw [hW2]; exact bel_up _ _
                  rw [← hW2] at hn2
                  obtain ⟨cb, hcb⟩ : ∃ cb, wa.heap.size = cb := ⟨_, rfl⟩
                  rw [hcb] at hn2 ⊢
                  have HC2 : Hid (W2.heap[cb]? = some (.cells #[.bool x.nt, .string x.a, .string x.b, .string x.tx] 38 (0, 0))) := hn2
                  have HBW2 : Hid (Below W1.heap.size W1 W2) := below_trans HB1a.out hb2
                  have HB72 : Hid (Below w7.heap.size w7 W2) := below_trans HB7a.out hb2
                  have HB92 : Hid (Below W9.heap.size W9 W2) := below_trans HBJ.out hb2
                  clear hW2 hn2 hb2 hcb c0 c1 c2 c3 q0 q1
                  have HSa : Hid (W2.cell? ⟨g, o + i, none⟩ = some (.slice (some ⟨yg, yo, none⟩) pl yc) ∧ W2.cell? ⟨qb, 0, none⟩ = some (.slice pa pl pc) ∧ W2.cell? ⟨qb, 1, none⟩ = some (.slice (some ⟨cg, co, none⟩) m cc) ∧ W2.cell? ⟨cb, 1, none⟩ = some (.string x.a) ∧ W2.cell? ⟨yg, yo + ka, none⟩ = some (.int .i64 (na : Int))) := ⟨below_cell HB72.out HG7.out, (HQC.out W2 HBW2.out).1, (HQC.out W2 HBW2.out).2, rcell HC2.out 1 _ rfl, below_cell HB72.out HY2⟩
                  have HPLa : Hid (∀ W, Below W1.heap.size W1 W → Calls Tryz.prog 11 #[.agg #[.slice pa pl pc, .slice (some ⟨cg, co, none⟩) m cc], .string x.a] W fun e w' => e = .returned (.int .i64 (ka : Int)) ∧ Below W.heap.size W w') := fun W hW => by rw [← HNA.out.2.2]; exact HPLC.out W hW x.a
                  clear HY2
                  refine wp_region_noPanic ?_
                  refine wp_region_held_drew (S := fun W => W.cell? ⟨g, o + i, none⟩ = some (.slice (some ⟨yg, yo, none⟩) pl yc) ∧ W.cell? ⟨qb, 0, none⟩ = some (.slice pa pl pc) ∧ W.cell? ⟨qb, 1, none⟩ = some (.slice (some ⟨cg, co, none⟩) m cc) ∧ W.cell? ⟨cb, 1, none⟩ = some (.string x.a) ∧ W.cell? ⟨yg, yo + ka, none⟩ = some (.int .i64 (na : Int))) (by kernel_rfl) HSa.out (fun hHeld => ?_)
                  refine wpAnyH_take (i := 0) (oi := { dst := _, op := _, type := _, pos := _, after := _, guard := _ }) (v := ?_) rfl (by kernel_rfl) (by kernel_rfl) (by kernel_rfl) (fun _ _ _ h => h) (Or.inl ⟨by rfl, ?_⟩) (by assumption) ?_
                  rotate_left
                  · intro W hSw
                    (try dsimp only at hSw)
                    go_simp
                    (try with_reducible rfl)
                  try simp only [Act.put, List.setIfInBounds_toArray, List.set_cons_zero, List.set_cons_succ]
                  refine wpAnyH_take (i := 1) (oi := { dst := _, op := _, type := _, pos := _, after := _, guard := _ }) (v := ?_) rfl (by kernel_rfl) (by kernel_rfl) (by kernel_rfl) (fun _ _ _ h => h) (Or.inl ⟨by rfl, ?_⟩) (by assumption) ?_
                  rotate_left
                  · intro W hSw
                    (try dsimp only at hSw)
                    go_simp
                    (try with_reducible rfl)
                  try simp only [Act.put, List.setIfInBounds_toArray, List.set_cons_zero, List.set_cons_succ]
                  refine wpAnyH_take (i := 2) (oi := { dst := _, op := _, type := _, pos := _, after := _, guard := _ }) (v := ?_) rfl (by kernel_rfl) (by kernel_rfl) (by kernel_rfl) (fun _ _ _ h => h) (Or.inl ⟨by rfl, ?_⟩) (by assumption) ?_
                  rotate_left
                  · intro W hSw
                    (try dsimp only at hSw)
                    go_simp
                    (try with_reducible rfl)
                  try simp only [Act.put, List.setIfInBounds_toArray, List.set_cons_zero, List.set_cons_succ]
                  refine wpAnyH_take (i := 3) (oi := { dst := _, op := _, type := _, pos := _, after := _, guard := _ }) (v := ?_) rfl (by kernel_rfl) (by kernel_rfl) (by kernel_rfl) (fun _ _ _ h => h) (Or.inl ⟨by rfl, ?_⟩) (by assumption) ?_
                  rotate_left
                  · intro W hSw
                    (try dsimp only at hSw)
                    go_simp
                    (try with_reducible rfl)
                  try simp only [Act.put, List.setIfInBounds_toArray, List.set_cons_zero, List.set_cons_succ]
                  refine wpAnyH_take (i := 4) (oi := { dst := _, op := _, type := _, pos := _, after := _, guard := _ }) (v := ?_) rfl (by kernel_rfl) (by kernel_rfl) (by kernel_rfl) (fun _ _ _ h => h) (Or.inl ⟨by rfl, ?_⟩) (by assumption) ?_
                  rotate_left
                  · intro W hSw
                    (try dsimp only at hSw)
                    obtain ⟨s0, s1, s2, s3, s4⟩ := hSw
                    go_simp
                    (try with_reducible rfl)
                  try simp only [Act.put, List.setIfInBounds_toArray, List.set_cons_zero, List.set_cons_succ]
                  refine wpAnyH_take (i := 5) (oi := { dst := _, op := _, type := _, pos := _, after := _, guard := _ }) (v := ?_) rfl (by kernel_rfl) (by kernel_rfl) (by kernel_rfl) (fun _ _ _ h => h) (Or.inl ⟨by rfl, ?_⟩) (by assumption) ?_
                  rotate_left
                  · intro W hSw
                    (try dsimp only at hSw)
                    obtain ⟨s0, s1, s2, s3, s4⟩ := hSw
                    go_simp
                    (try with_reducible rfl)
                  try simp only [Act.put, List.setIfInBounds_toArray, List.set_cons_zero, List.set_cons_succ]
                  refine wpAnyH_take (i := 6) (oi := { dst := _, op := _, type := _, pos := _, after := _, guard := _ }) (v := ?_) rfl (by kernel_rfl) (by kernel_rfl) (by kernel_rfl) (fun _ _ _ h => h) (Or.inl ⟨by rfl, ?_⟩) (by assumption) ?_
                  rotate_left
                  · intro W hSw
                    (try dsimp only at hSw)
                    go_simp
                    (try with_reducible rfl)
                  try simp only [Act.put, List.setIfInBounds_toArray, List.set_cons_zero, List.set_cons_succ]
                  refine wpAnyH_take (i := 7) (oi := { dst := _, op := _, type := _, pos := _, after := _, guard := _ }) (v := ?_) rfl (by kernel_rfl) (by kernel_rfl) (by kernel_rfl) (fun _ _ _ h => h) (Or.inl ⟨by rfl, ?_⟩) (by assumption) ?_
                  rotate_left
                  · intro W hSw
                    (try dsimp only at hSw)
                    obtain ⟨s0, s1, s2, s3, s4⟩ := hSw
                    go_simp
                    (try with_reducible rfl)
                  try simp only [Act.put, List.setIfInBounds_toArray, List.set_cons_zero, List.set_cons_succ]
                  refine wpAnyH_ready (rs := [8]) (by kernel_rfl) (by simp) ?_
                  refine AllReadyH.cons (o := { dst := _, op := _, type := _, pos := _, after := _, guard := _ }) rfl (fun K hK => ?_) AllReadyH.nil
                  go_simp
                  refine (HPLa.out _ (below_trans HBW2.out (Below.drew (Below.refl _ _)))).mono ?_
                  rintro e wf ⟨rfl, hb⟩
                  have HBFa : Hid (Below W2.heap.size W2 wf) := (Below.drew (Below.refl _ _)).trans hb
                  clear hb
                  go_wp2_with fail
                  refine hK.out _ _ ?_ (fun hHeld => ?_)
                  · exact ⟨below_cell HBFa.out HSa.out.1, below_cell HBFa.out HSa.out.2.1, below_cell HBFa.out HSa.out.2.2.1, below_cell HBFa.out HSa.out.2.2.2.1, below_cell HBFa.out HSa.out.2.2.2.2⟩
                  clear hK K
                  try simp only [Act.put, List.setIfInBounds_toArray, List.set_cons_zero, List.set_cons_succ]
                  refine wpAnyH_take (i := 9) (oi := { dst := _, op := _, type := _, pos := _, after := _, guard := _ }) (v := ?_) rfl (by kernel_rfl) (by kernel_rfl) (by kernel_rfl) (fun _ _ _ h => h) (Or.inl ⟨by rfl, ?_⟩) (by assumption) ?_
                  rotate_left
                  · intro W hSw
                    (try dsimp only at hSw)
                    go_simp
                    (try with_reducible rfl)
                  try simp only [Act.put, List.setIfInBounds_toArray, List.set_cons_zero, List.set_cons_succ]
                  refine wpAnyH_take (i := 10) (oi := { dst := _, op := _, type := _, pos := _, after := _, guard := _ }) (v := ?_) rfl (by kernel_rfl) (by kernel_rfl) (by kernel_rfl) (fun _ _ _ h => h) (Or.inl ⟨by rfl, ?_⟩) (by assumption) ?_
                  rotate_left
                  · intro W hSw
                    (try dsimp only at hSw)
                    obtain ⟨s0, s1, s2, s3, s4⟩ := hSw
                    go_simp
                    (try with_reducible rfl)
                  try simp only [Act.put, List.setIfInBounds_toArray, List.set_cons_zero, List.set_cons_succ]
                  refine wpAnyH_take (i := 11) (oi := { dst := _, op := _, type := _, pos := _, after := _, guard := _ }) (v := ?_) rfl (by kernel_rfl) (by kernel_rfl) (by kernel_rfl) (fun _ _ _ h => h) (Or.inl ⟨by rfl, ?_⟩) (by assumption) ?_
                  rotate_left
                  · intro W hSw
                    (try dsimp only at hSw)
                    go_simp
                    (try with_reducible rfl)
                  try simp only [Act.put, List.setIfInBounds_toArray, List.set_cons_zero, List.set_cons_succ]
                  refine wpAnyH_done (by kernel_rfl) ?_ _
                  clear hHeld
                  refine NoPanic.normal ?_
                  have HB9f : Hid (Below W9.heap.size W9 wf) := below_trans HB92.out HBFa.out
                  have HB7f : Hid (Below w7.heap.size w7 wf) := below_trans HB72.out HBFa.out
                  have HB1f : Hid (Below W1.heap.size W1 wf) := below_trans HBW2.out HBFa.out
                  have HCf : Hid (wf.heap[cb]? = some (.cells #[.bool x.nt, .string x.a, .string x.b, .string x.tx] 38 (0, 0))) := (HBFa.out.block _ (lt_of_heap HC2.out)).trans HC2.out
                  have da1 : decide ((na : Int) < 0) = false := by rw [decide_eq_false_iff_not]; omega
                  have da2 : decide ((tl : Int) ≤ (na : Int)) = false := by have h9 := HNA.out.2.1; rw [decide_eq_false_iff_not]; omega
                  have da3 : decide (tl ≤ na) = false := by have h9 := HNA.out.2.1; rw [decide_eq_false_iff_not]; omega
                  have da4 : (na : Int) < (tl : Int) := by have h9 := HNA.out.2.1; omega
                  have da5 : na < tl := HNA.out.2.1
                  have da6 : 0 ≤ (na : Int) := by omega
                  have HTN : Hid (∀ W, Below W1.heap.size W1 W → ∀ n, n < tl → ∃ tg tq, ta = some ⟨tg, tq, none⟩ ∧ (∀ j u, (Tr.nf (T.getD n Tr.ndd))[j]? = some u → W.cell? ⟨tg, tq + n * 7 + j, none⟩ = some u)) := fun W hW n hn => by
                    obtain ⟨g9, o9, c9, he9, hc9⟩ := (HTS.out.up hW).cells n (by rw [HN.out.2.2]; exact hn)
                    obtain ⟨e9, -, -⟩ := Value.slice.inj he9
                    exact ⟨g9, o9, e9, fun j u hu => by rw [Nat.add_assoc]; exact hc9 j u hu⟩
                  obtain ⟨tg, tq, hta, htc⟩ := HTN.out wf HB1f.out na da5
                  obtain ⟨ya', hya⟩ : ∃ y, T.getD na Tr.ndd = y := ⟨_, rfl⟩
                  rw [hya] at htc
                  have HYA : Hid (byo (T.getD (F.getD ka 0).toNat Tr.ndd) s = byo ya' s) := by
                    show _ = _
                    rw [HNA.out.1, Int.toNat_natCast, hya]
                  subst hta
                  have HTC : Hid (∀ W, Below wf.heap.size wf W → (W.cell? ⟨tg, tq + na * 7, none⟩ = some (.string ya'.nm) ∧ W.cell? ⟨tg, tq + na * 7 + 1, none⟩ = some (.bool ya'.nd) ∧ W.cell? ⟨tg, tq + na * 7 + 2, none⟩ = some (.string ya'.fd) ∧ W.cell? ⟨tg, tq + na * 7 + 3, none⟩ = some (.int .i64 ya'.fr) ∧ W.cell? ⟨tg, tq + na * 7 + 4, none⟩ = some (.int .i64 ya'.tt) ∧ W.cell? ⟨tg, tq + na * 7 + 5, none⟩ = some (.int .i64 ya'.kd) ∧ W.cell? ⟨tg, tq + na * 7 + 6, none⟩ = some (.int .i64 ya'.lf))) := fun W hW => ⟨below_cell hW (htc 0 _ rfl), below_cell hW (htc 1 _ rfl), below_cell hW (htc 2 _ rfl), below_cell hW (htc 3 _ rfl), below_cell hW (htc 4 _ rfl), below_cell hW (htc 5 _ rfl), below_cell hW (htc 6 _ rfl)⟩
                  have HCO : Hid (∀ W, Calls Tryz.prog 12 #[nV ya', .string s] W fun e w' => e = .returned (.string (byo ya' s)) ∧ Below W.heap.size W w') := fun W => covered_any ya' s W
                  obtain ⟨BA, hBA⟩ : ∃ BA, byo ya' s = BA := ⟨_, rfl⟩
                  rw [hBA] at HCO HYA
                  clear hya htc hBA
                  have t2 := rcell HCf.out 2 _ rfl
                  have t3 := rcell HCf.out 3 _ rfl
                  by_cases hb : x.b = ⟨#[]⟩
                  · have HCH : Hid (cho P T s F x = (decide (BA = x.tx) != x.nt)) := by
                      show _ = _
                      unfold cho
                      rw [if_pos (show cap P x.b = -1 by rw [hb]; rfl), HNA.out.2.2, Int.toNat_natCast, HYA.out]
                    rw [hb] at t2
                    clear hb
                    go_upto_region 29 with fail
                    have HS9 : Hid ((wf.cell? ⟨tg, tq + na * 7, none⟩ = some (.string ya'.nm) ∧ wf.cell? ⟨tg, tq + na * 7 + 1, none⟩ = some (.bool ya'.nd) ∧ wf.cell? ⟨tg, tq + na * 7 + 2, none⟩ = some (.string ya'.fd) ∧ wf.cell? ⟨tg, tq + na * 7 + 3, none⟩ = some (.int .i64 ya'.fr) ∧ wf.cell? ⟨tg, tq + na * 7 + 4, none⟩ = some (.int .i64 ya'.tt) ∧ wf.cell? ⟨tg, tq + na * 7 + 5, none⟩ = some (.int .i64 ya'.kd) ∧ wf.cell? ⟨tg, tq + na * 7 + 6, none⟩ = some (.int .i64 ya'.lf)) ∧ wf.cell? ⟨cb, 0, none⟩ = some (.bool x.nt)) := ⟨HTC.out wf (Below.refl _ _), rcell HCf.out 0 _ rfl⟩
                    clear t2 t3
                    refine wp_region_noPanic ?_
                    refine wp_region_held_drew (S := fun W => (W.cell? ⟨tg, tq + na * 7, none⟩ = some (.string ya'.nm) ∧ W.cell? ⟨tg, tq + na * 7 + 1, none⟩ = some (.bool ya'.nd) ∧ W.cell? ⟨tg, tq + na * 7 + 2, none⟩ = some (.string ya'.fd) ∧ W.cell? ⟨tg, tq + na * 7 + 3, none⟩ = some (.int .i64 ya'.fr) ∧ W.cell? ⟨tg, tq + na * 7 + 4, none⟩ = some (.int .i64 ya'.tt) ∧ W.cell? ⟨tg, tq + na * 7 + 5, none⟩ = some (.int .i64 ya'.kd) ∧ W.cell? ⟨tg, tq + na * 7 + 6, none⟩ = some (.int .i64 ya'.lf)) ∧ W.cell? ⟨cb, 0, none⟩ = some (.bool x.nt)) (by kernel_rfl) HS9.out (fun hHeld => ?_)
                    refine wpAnyH_take (i := 0) (oi := { dst := _, op := _, type := _, pos := _, after := _, guard := _ }) (v := ?_) rfl (by kernel_rfl) (by kernel_rfl) (by kernel_rfl) (fun _ _ _ h => h) (Or.inl ⟨by rfl, ?_⟩) (by assumption) ?_
                    rotate_left
                    · intro W hSw
                      (try dsimp only at hSw)
                      go_simp
                      (try with_reducible rfl)
                    try simp only [Act.put, List.setIfInBounds_toArray, List.set_cons_zero, List.set_cons_succ]
                    refine wpAnyH_take (i := 1) (oi := { dst := _, op := _, type := _, pos := _, after := _, guard := _ }) (v := ?_) rfl (by kernel_rfl) (by kernel_rfl) (by kernel_rfl) (fun _ _ _ h => h) (Or.inl ⟨by rfl, ?_⟩) (by assumption) ?_
                    rotate_left
                    · intro W hSw
                      (try dsimp only at hSw)
                      go_simp
                      (try with_reducible rfl)
                    try simp only [Act.put, List.setIfInBounds_toArray, List.set_cons_zero, List.set_cons_succ]
                    refine wpAnyH_take (i := 2) (oi := { dst := _, op := _, type := _, pos := _, after := _, guard := _ }) (v := ?_) rfl (by kernel_rfl) (by kernel_rfl) (by kernel_rfl) (fun _ _ _ h => h) (Or.inl ⟨by rfl, ?_⟩) (by assumption) ?_
                    rotate_left
                    · intro W hSw
                      (try dsimp only at hSw)
                      go_simp
                      (try with_reducible rfl)
                    try simp only [Act.put, List.setIfInBounds_toArray, List.set_cons_zero, List.set_cons_succ]
                    refine wpAnyH_take (i := 3) (oi := { dst := _, op := _, type := _, pos := _, after := _, guard := _ }) (v := ?_) rfl (by kernel_rfl) (by kernel_rfl) (by kernel_rfl) (fun _ _ _ h => h) (Or.inl ⟨by rfl, ?_⟩) (by assumption) ?_
                    rotate_left
                    · intro W hSw
                      (try dsimp only at hSw)
                      obtain ⟨⟨s0, s1, s2, s3, s4, s5, s6⟩, s7⟩ := hSw
                      go_simp
                      (try with_reducible rfl)
                    try simp only [Act.put, List.setIfInBounds_toArray, List.set_cons_zero, List.set_cons_succ]
                    refine wpAnyH_take (i := 4) (oi := { dst := _, op := _, type := _, pos := _, after := _, guard := _ }) (v := ?_) rfl (by kernel_rfl) (by kernel_rfl) (by kernel_rfl) (fun _ _ _ h => h) (Or.inl ⟨by rfl, ?_⟩) (by assumption) ?_
                    rotate_left
                    · intro W hSw
                      (try dsimp only at hSw)
                      go_simp
                      (try with_reducible rfl)
                    try simp only [Act.put, List.setIfInBounds_toArray, List.set_cons_zero, List.set_cons_succ]
                    refine wpAnyH_take (i := 6) (oi := { dst := _, op := _, type := _, pos := _, after := _, guard := _ }) (v := ?_) rfl (by kernel_rfl) (by kernel_rfl) (by kernel_rfl) (fun _ _ _ h => h) (Or.inl ⟨by rfl, ?_⟩) (by assumption) ?_
                    rotate_left
                    · intro W hSw
                      (try dsimp only at hSw)
                      go_simp
                      (try with_reducible rfl)
                    try simp only [Act.put, List.setIfInBounds_toArray, List.set_cons_zero, List.set_cons_succ]
                    refine wpAnyH_take (i := 8) (oi := { dst := _, op := _, type := _, pos := _, after := _, guard := _ }) (v := ?_) rfl (by kernel_rfl) (by kernel_rfl) (by kernel_rfl) (fun _ _ _ h => h) (Or.inl ⟨by rfl, ?_⟩) (by assumption) ?_
                    rotate_left
                    · intro W hSw
                      (try dsimp only at hSw)
                      go_simp
                      (try with_reducible rfl)
                    try simp only [Act.put, List.setIfInBounds_toArray, List.set_cons_zero, List.set_cons_succ]
                    refine wpAnyH_take (i := 9) (oi := { dst := _, op := _, type := _, pos := _, after := _, guard := _ }) (v := ?_) rfl (by kernel_rfl) (by kernel_rfl) (by kernel_rfl) (fun _ _ _ h => h) (Or.inl ⟨by rfl, ?_⟩) (by assumption) ?_
                    rotate_left
                    · intro W hSw
                      (try dsimp only at hSw)
                      obtain ⟨⟨s0, s1, s2, s3, s4, s5, s6⟩, s7⟩ := hSw
                      go_simp
                      (try with_reducible rfl)
                    try simp only [Act.put, List.setIfInBounds_toArray, List.set_cons_zero, List.set_cons_succ]
                    refine wpAnyH_ready (rs := [5]) (by kernel_rfl) (by simp) ?_
                    refine AllReadyH.cons (o := { dst := _, op := _, type := _, pos := _, after := _, guard := _ }) rfl (fun K hK => ?_) AllReadyH.nil
                    go_simp
                    refine (HCO.out _).mono ?_
                    rintro e wz ⟨rfl, hb⟩
                    have HBG : Hid (Below wf.heap.size wf wz) := (Below.drew (Below.refl _ _)).trans hb
                    clear hb
                    go_wp2_with fail
                    refine hK.out _ _ ?_ (fun hHeld => ?_)
                    · exact ⟨⟨below_cell HBG.out HS9.out.1.1, below_cell HBG.out HS9.out.1.2.1, below_cell HBG.out HS9.out.1.2.2.1, below_cell HBG.out HS9.out.1.2.2.2.1, below_cell HBG.out HS9.out.1.2.2.2.2.1, below_cell HBG.out HS9.out.1.2.2.2.2.2.1, below_cell HBG.out HS9.out.1.2.2.2.2.2.2⟩, below_cell HBG.out HS9.out.2⟩
                    clear hK K
                    try simp only [Act.put, List.setIfInBounds_toArray, List.set_cons_zero, List.set_cons_succ]
                    refine wpAnyH_take (i := 7) (oi := { dst := _, op := _, type := _, pos := _, after := _, guard := _ }) (v := ?_) rfl (by kernel_rfl) (by kernel_rfl) (by kernel_rfl) (fun _ _ _ h => h) (Or.inl ⟨by rfl, ?_⟩) (by assumption) ?_
                    rotate_left
                    · intro W hSw
                      (try dsimp only at hSw)
                      go_simp
                      (try with_reducible rfl)
                    try simp only [Act.put, List.setIfInBounds_toArray, List.set_cons_zero, List.set_cons_succ]
                    refine wpAnyH_take (i := 10) (oi := { dst := _, op := _, type := _, pos := _, after := _, guard := _ }) (v := ?_) rfl (by kernel_rfl) (by kernel_rfl) (by kernel_rfl) (fun _ _ _ h => h) (Or.inl ⟨by rfl, ?_⟩) (by assumption) ?_
                    rotate_left
                    · intro W hSw
                      (try dsimp only at hSw)
                      go_simp
                      (try with_reducible rfl)
                    try simp only [Act.put, List.setIfInBounds_toArray, List.set_cons_zero, List.set_cons_succ]
                    refine wpAnyH_done (by kernel_rfl) ?_ _
                    clear hHeld
                    refine NoPanic.normal ?_
                    have HB9z : Hid (Below W9.heap.size W9 wz) := below_trans HB9f.out HBG.out
                    obtain ⟨OT, hOT⟩ : ∃ OT, x.tx = OT := ⟨_, rfl⟩
                    rw [hOT] at HCH ⊢
                    clear hOT
                    obtain ⟨Q, hQ⟩ : ∃ Q, ((BA.toList == OT.toList) == x.nt) = Q := ⟨_, rfl⟩
                    have HQ : Hid (cho P T s F x = !Q) := by
                      show _ = _
                      rw [HCH.out, ← hQ, str_eq]
                      rfl
                    rw [hQ]
                    have hwj2 := HWJ.out
                    clear hQ
                    cases Q with
                    | true =>
                      go_wp2_with fail
                      go_roundg (m - (j + 1))
                      case measure => have := HJ.out; have := HJL.out; omega
                      case rel => exact ⟨j + 1, false, by simp, rfl, ⟨HJL.out, rfl⟩, (by rw [HTA.out, HQ.out]; cases A <;> rfl), HB9z⟩
                    | false =>
                      go_wp2_with fail
                      go_roundg (m - (j + 1))
                      case measure => have := HJ.out; have := HJL.out; omega
                      case rel => exact ⟨j + 1, A, by simp, rfl, ⟨HJL.out, rfl⟩, (by rw [HTA.out, HQ.out]; cases A <;> rfl), HB9z⟩
                  · have HBX : Hid (x.tx = ⟨#[]⟩ ∧ cap P x.b ≠ -1) := ⟨(HK2.out.resolve_left hb).2.1, (HK2.out.resolve_left hb).2.2⟩
                    have f9 : x.b.toList.isEmpty = false := by rw [bs_empty]; exact decide_eq_false hb
                    obtain ⟨_, _, z1, z2⟩ := cap_some HBX.out.2
                    obtain ⟨kb, hkb⟩ : ∃ kb : Nat, cap P x.b = (kb : Int) := ⟨(cap P x.b).toNat, by omega⟩
                    have hkp : kb < pl := by rw [hkb, HN.out.1] at z2; omega
                    obtain ⟨nb, hnb, hnt⟩ := HFVF.out.2 kb (by rw [HN.out.1]; exact hkp)
                    rw [HN.out.2.2] at hnt
                    have HNB : Hid (F.getD kb 0 = (nb : Int) ∧ nb < tl ∧ cap P x.b = (kb : Int)) := ⟨hnb, hnt, hkb⟩
                    have HY2 := HY7.out kb hkp
                    rw [hnb] at HY2
                    have gb1 : (kb : Int) < (pl : Int) := by omega
                    have gb2 : kb < pl := hkp
                    have gb3 : 0 ≤ (kb : Int) := by omega
                    clear hb z1 z2 hkb hkp hnb hnt
                    go_upto_region 23 with fail
                    have HSb : Hid (wf.cell? ⟨g, o + i, none⟩ = some (.slice (some ⟨yg, yo, none⟩) pl yc) ∧ wf.cell? ⟨qb, 0, none⟩ = some (.slice pa pl pc) ∧ wf.cell? ⟨qb, 1, none⟩ = some (.slice (some ⟨cg, co, none⟩) m cc) ∧ wf.cell? ⟨cb, 2, none⟩ = some (.string x.b) ∧ wf.cell? ⟨yg, yo + kb, none⟩ = some (.int .i64 (nb : Int))) := ⟨below_cell HB7f.out HG7.out, (HQC.out wf HB1f.out).1, (HQC.out wf HB1f.out).2, rcell HCf.out 2 _ rfl, below_cell HB7f.out HY2⟩
                    have HPLb : Hid (∀ W, Below W1.heap.size W1 W → Calls Tryz.prog 11 #[.agg #[.slice pa pl pc, .slice (some ⟨cg, co, none⟩) m cc], .string x.b] W fun e w' => e = .returned (.int .i64 (kb : Int)) ∧ Below W.heap.size W w') := fun W hW => by rw [← HNB.out.2.2]; exact HPLC.out W hW x.b
                    clear HY2 t2 t3
                    have HBwf : Hid (Below W1.heap.size W1 wf) := HB1f.out
                    refine wp_region_noPanic ?_
                    refine wp_region_held_drew (S := fun W => W.cell? ⟨g, o + i, none⟩ = some (.slice (some ⟨yg, yo, none⟩) pl yc) ∧ W.cell? ⟨qb, 0, none⟩ = some (.slice pa pl pc) ∧ W.cell? ⟨qb, 1, none⟩ = some (.slice (some ⟨cg, co, none⟩) m cc) ∧ W.cell? ⟨cb, 2, none⟩ = some (.string x.b) ∧ W.cell? ⟨yg, yo + kb, none⟩ = some (.int .i64 (nb : Int))) (by kernel_rfl) HSb.out (fun hHeld => ?_)
                    refine wpAnyH_take (i := 0) (oi := { dst := _, op := _, type := _, pos := _, after := _, guard := _ }) (v := ?_) rfl (by kernel_rfl) (by kernel_rfl) (by kernel_rfl) (fun _ _ _ h => h) (Or.inl ⟨by rfl, ?_⟩) (by assumption) ?_
                    rotate_left
                    · intro W hSw
                      (try dsimp only at hSw)
                      go_simp
                      (try with_reducible rfl)
                    try simp only [Act.put, List.setIfInBounds_toArray, List.set_cons_zero, List.set_cons_succ]
                    refine wpAnyH_take (i := 1) (oi := { dst := _, op := _, type := _, pos := _, after := _, guard := _ }) (v := ?_) rfl (by kernel_rfl) (by kernel_rfl) (by kernel_rfl) (fun _ _ _ h => h) (Or.inl ⟨by rfl, ?_⟩) (by assumption) ?_
                    rotate_left
                    · intro W hSw
                      (try dsimp only at hSw)
                      go_simp
                      (try with_reducible rfl)
                    try simp only [Act.put, List.setIfInBounds_toArray, List.set_cons_zero, List.set_cons_succ]
                    refine wpAnyH_take (i := 2) (oi := { dst := _, op := _, type := _, pos := _, after := _, guard := _ }) (v := ?_) rfl (by kernel_rfl) (by kernel_rfl) (by kernel_rfl) (fun _ _ _ h => h) (Or.inl ⟨by rfl, ?_⟩) (by assumption) ?_
                    rotate_left
                    · intro W hSw
                      (try dsimp only at hSw)
                      go_simp
                      (try with_reducible rfl)
                    try simp only [Act.put, List.setIfInBounds_toArray, List.set_cons_zero, List.set_cons_succ]
                    refine wpAnyH_take (i := 3) (oi := { dst := _, op := _, type := _, pos := _, after := _, guard := _ }) (v := ?_) rfl (by kernel_rfl) (by kernel_rfl) (by kernel_rfl) (fun _ _ _ h => h) (Or.inl ⟨by rfl, ?_⟩) (by assumption) ?_
                    rotate_left
                    · intro W hSw
                      (try dsimp only at hSw)
                      go_simp
                      (try with_reducible rfl)
                    try simp only [Act.put, List.setIfInBounds_toArray, List.set_cons_zero, List.set_cons_succ]
                    refine wpAnyH_take (i := 4) (oi := { dst := _, op := _, type := _, pos := _, after := _, guard := _ }) (v := ?_) rfl (by kernel_rfl) (by kernel_rfl) (by kernel_rfl) (fun _ _ _ h => h) (Or.inl ⟨by rfl, ?_⟩) (by assumption) ?_
                    rotate_left
                    · intro W hSw
                      (try dsimp only at hSw)
                      obtain ⟨s0, s1, s2, s3, s4⟩ := hSw
                      go_simp
                      (try with_reducible rfl)
                    try simp only [Act.put, List.setIfInBounds_toArray, List.set_cons_zero, List.set_cons_succ]
                    refine wpAnyH_take (i := 5) (oi := { dst := _, op := _, type := _, pos := _, after := _, guard := _ }) (v := ?_) rfl (by kernel_rfl) (by kernel_rfl) (by kernel_rfl) (fun _ _ _ h => h) (Or.inl ⟨by rfl, ?_⟩) (by assumption) ?_
                    rotate_left
                    · intro W hSw
                      (try dsimp only at hSw)
                      obtain ⟨s0, s1, s2, s3, s4⟩ := hSw
                      go_simp
                      (try with_reducible rfl)
                    try simp only [Act.put, List.setIfInBounds_toArray, List.set_cons_zero, List.set_cons_succ]
                    refine wpAnyH_take (i := 6) (oi := { dst := _, op := _, type := _, pos := _, after := _, guard := _ }) (v := ?_) rfl (by kernel_rfl) (by kernel_rfl) (by kernel_rfl) (fun _ _ _ h => h) (Or.inl ⟨by rfl, ?_⟩) (by assumption) ?_
                    rotate_left
                    · intro W hSw
                      (try dsimp only at hSw)
                      go_simp
                      (try with_reducible rfl)
                    try simp only [Act.put, List.setIfInBounds_toArray, List.set_cons_zero, List.set_cons_succ]
                    refine wpAnyH_take (i := 7) (oi := { dst := _, op := _, type := _, pos := _, after := _, guard := _ }) (v := ?_) rfl (by kernel_rfl) (by kernel_rfl) (by kernel_rfl) (fun _ _ _ h => h) (Or.inl ⟨by rfl, ?_⟩) (by assumption) ?_
                    rotate_left
                    · intro W hSw
                      (try dsimp only at hSw)
                      obtain ⟨s0, s1, s2, s3, s4⟩ := hSw
                      go_simp
                      (try with_reducible rfl)
                    try simp only [Act.put, List.setIfInBounds_toArray, List.set_cons_zero, List.set_cons_succ]
                    refine wpAnyH_ready (rs := [8]) (by kernel_rfl) (by simp) ?_
                    refine AllReadyH.cons (o := { dst := _, op := _, type := _, pos := _, after := _, guard := _ }) rfl (fun K hK => ?_) AllReadyH.nil
                    go_simp
                    refine (HPLb.out _ (below_trans HBwf.out (Below.drew (Below.refl _ _)))).mono ?_
                    rintro e wg ⟨rfl, hb⟩
                    have HBFb : Hid (Below wf.heap.size wf wg) := (Below.drew (Below.refl _ _)).trans hb
                    clear hb
                    go_wp2_with fail
                    refine hK.out _ _ ?_ (fun hHeld => ?_)
                    · exact ⟨below_cell HBFb.out HSb.out.1, below_cell HBFb.out HSb.out.2.1, below_cell HBFb.out HSb.out.2.2.1, below_cell HBFb.out HSb.out.2.2.2.1, below_cell HBFb.out HSb.out.2.2.2.2⟩
                    clear hK K
                    try simp only [Act.put, List.setIfInBounds_toArray, List.set_cons_zero, List.set_cons_succ]
                    refine wpAnyH_take (i := 9) (oi := { dst := _, op := _, type := _, pos := _, after := _, guard := _ }) (v := ?_) rfl (by kernel_rfl) (by kernel_rfl) (by kernel_rfl) (fun _ _ _ h => h) (Or.inl ⟨by rfl, ?_⟩) (by assumption) ?_
                    rotate_left
                    · intro W hSw
                      (try dsimp only at hSw)
                      go_simp
                      (try with_reducible rfl)
                    try simp only [Act.put, List.setIfInBounds_toArray, List.set_cons_zero, List.set_cons_succ]
                    refine wpAnyH_take (i := 10) (oi := { dst := _, op := _, type := _, pos := _, after := _, guard := _ }) (v := ?_) rfl (by kernel_rfl) (by kernel_rfl) (by kernel_rfl) (fun _ _ _ h => h) (Or.inl ⟨by rfl, ?_⟩) (by assumption) ?_
                    rotate_left
                    · intro W hSw
                      (try dsimp only at hSw)
                      obtain ⟨s0, s1, s2, s3, s4⟩ := hSw
                      go_simp
                      (try with_reducible rfl)
                    try simp only [Act.put, List.setIfInBounds_toArray, List.set_cons_zero, List.set_cons_succ]
                    refine wpAnyH_take (i := 11) (oi := { dst := _, op := _, type := _, pos := _, after := _, guard := _ }) (v := ?_) rfl (by kernel_rfl) (by kernel_rfl) (by kernel_rfl) (fun _ _ _ h => h) (Or.inl ⟨by rfl, ?_⟩) (by assumption) ?_
                    rotate_left
                    · intro W hSw
                      (try dsimp only at hSw)
                      go_simp
                      (try with_reducible rfl)
                    try simp only [Act.put, List.setIfInBounds_toArray, List.set_cons_zero, List.set_cons_succ]
                    refine wpAnyH_done (by kernel_rfl) ?_ _
                    clear hHeld
                    refine NoPanic.normal ?_
                    have HB1g : Hid (Below W1.heap.size W1 wg) := below_trans HB1f.out HBFb.out
                    have HCg : Hid (wg.heap[cb]? = some (.cells #[.bool x.nt, .string x.a, .string x.b, .string x.tx] 38 (0, 0))) := (HBFb.out.block _ (lt_of_heap HCf.out)).trans HCf.out
                    have db1 : decide ((nb : Int) < 0) = false := by rw [decide_eq_false_iff_not]; omega
                    have db2 : decide ((tl : Int) ≤ (nb : Int)) = false := by have h9 := HNB.out.2.1; rw [decide_eq_false_iff_not]; omega
                    have db3 : decide (tl ≤ nb) = false := by have h9 := HNB.out.2.1; rw [decide_eq_false_iff_not]; omega
                    have db4 : (nb : Int) < (tl : Int) := by have h9 := HNB.out.2.1; omega
                    have db5 : nb < tl := HNB.out.2.1
                    have db6 : 0 ≤ (nb : Int) := by omega
                    obtain ⟨tg2, tq2, hta, htc⟩ := HTN.out wg HB1g.out nb db5
                    obtain ⟨e8, e9⟩ : tg2 = tg ∧ tq2 = tq := by
                      have h9 := Option.some.inj hta
                      exact ⟨(Addr.mk.inj h9).1.symm, (Addr.mk.inj h9).2.1.symm⟩
                    subst e8 e9
                    obtain ⟨yb, hyb⟩ : ∃ y, T.getD nb Tr.ndd = y := ⟨_, rfl⟩
                    rw [hyb] at htc
                    have HYB : Hid (byo (T.getD (F.getD kb 0).toNat Tr.ndd) s = byo yb s) := by
                      show _ = _
                      rw [HNB.out.1, Int.toNat_natCast, hyb]
                    have HCOb : Hid (∀ W, Calls Tryz.prog 12 #[nV yb, .string s] W fun e w' => e = .returned (.string (byo yb s)) ∧ Below W.heap.size W w') := fun W => covered_any yb s W
                    obtain ⟨OT, hOT⟩ : ∃ OT, byo yb s = OT := ⟨_, rfl⟩
                    rw [hOT] at HCOb HYB
                    have HCH : Hid (cho P T s F x = (decide (BA = OT) != x.nt)) := by
                      show _ = _
                      unfold cho
                      rw [if_neg HBX.out.2, HNA.out.2.2, HNB.out.2.2, Int.toNat_natCast, Int.toNat_natCast, HYA.out, HYB.out]
                    have y0 : wg.cell? ⟨tg2, tq2 + nb * 7, none⟩ = some (.string yb.nm) := htc 0 _ rfl
                    have y1 : wg.cell? ⟨tg2, tq2 + nb * 7 + 1, none⟩ = some (.bool yb.nd) := htc 1 _ rfl
                    have y2 : wg.cell? ⟨tg2, tq2 + nb * 7 + 2, none⟩ = some (.string yb.fd) := htc 2 _ rfl
                    have y3 : wg.cell? ⟨tg2, tq2 + nb * 7 + 3, none⟩ = some (.int .i64 yb.fr) := htc 3 _ rfl
                    have y4 : wg.cell? ⟨tg2, tq2 + nb * 7 + 4, none⟩ = some (.int .i64 yb.tt) := htc 4 _ rfl
                    have y5 : wg.cell? ⟨tg2, tq2 + nb * 7 + 5, none⟩ = some (.int .i64 yb.kd) := htc 5 _ rfl
                    have y6 : wg.cell? ⟨tg2, tq2 + nb * 7 + 6, none⟩ = some (.int .i64 yb.lf) := htc 6 _ rfl
                    have t2 := rcell HCg.out 2 _ rfl
                    have t3 := rcell HCg.out 3 _ rfl
                    clear hta htc hyb hOT
                    go_upto_region 29 with (go_at_call 12; refine Calls.mono (HCOb.out _) ?_; rintro e wh ⟨rfl, hb⟩; have HBH : Hid (Below wg.heap.size wg wh) := hb; clear hb)
                    clear y0 y1 y2 y3 y4 y5 y6 t2 t3
                    have HBfh : Hid (Below wf.heap.size wf wh) := below_trans HBFb.out HBH.out
                    have HS9 : Hid ((wh.cell? ⟨tg2, tq2 + na * 7, none⟩ = some (.string ya'.nm) ∧ wh.cell? ⟨tg2, tq2 + na * 7 + 1, none⟩ = some (.bool ya'.nd) ∧ wh.cell? ⟨tg2, tq2 + na * 7 + 2, none⟩ = some (.string ya'.fd) ∧ wh.cell? ⟨tg2, tq2 + na * 7 + 3, none⟩ = some (.int .i64 ya'.fr) ∧ wh.cell? ⟨tg2, tq2 + na * 7 + 4, none⟩ = some (.int .i64 ya'.tt) ∧ wh.cell? ⟨tg2, tq2 + na * 7 + 5, none⟩ = some (.int .i64 ya'.kd) ∧ wh.cell? ⟨tg2, tq2 + na * 7 + 6, none⟩ = some (.int .i64 ya'.lf)) ∧ wh.cell? ⟨cb, 0, none⟩ = some (.bool x.nt)) := ⟨HTC.out wh HBfh.out, below_cell HBH.out (rcell HCg.out 0 _ rfl)⟩
                    refine wp_region_noPanic ?_
                    refine wp_region_held_drew (S := fun W => (W.cell? ⟨tg2, tq2 + na * 7, none⟩ = some (.string ya'.nm) ∧ W.cell? ⟨tg2, tq2 + na * 7 + 1, none⟩ = some (.bool ya'.nd) ∧ W.cell? ⟨tg2, tq2 + na * 7 + 2, none⟩ = some (.string ya'.fd) ∧ W.cell? ⟨tg2, tq2 + na * 7 + 3, none⟩ = some (.int .i64 ya'.fr) ∧ W.cell? ⟨tg2, tq2 + na * 7 + 4, none⟩ = some (.int .i64 ya'.tt) ∧ W.cell? ⟨tg2, tq2 + na * 7 + 5, none⟩ = some (.int .i64 ya'.kd) ∧ W.cell? ⟨tg2, tq2 + na * 7 + 6, none⟩ = some (.int .i64 ya'.lf)) ∧ W.cell? ⟨cb, 0, none⟩ = some (.bool x.nt)) (by kernel_rfl) HS9.out (fun hHeld => ?_)
                    refine wpAnyH_take (i := 0) (oi := { dst := _, op := _, type := _, pos := _, after := _, guard := _ }) (v := ?_) rfl (by kernel_rfl) (by kernel_rfl) (by kernel_rfl) (fun _ _ _ h => h) (Or.inl ⟨by rfl, ?_⟩) (by assumption) ?_
                    rotate_left
                    · intro W hSw
                      (try dsimp only at hSw)
                      go_simp
                      (try with_reducible rfl)
                    try simp only [Act.put, List.setIfInBounds_toArray, List.set_cons_zero, List.set_cons_succ]
                    refine wpAnyH_take (i := 1) (oi := { dst := _, op := _, type := _, pos := _, after := _, guard := _ }) (v := ?_) rfl (by kernel_rfl) (by kernel_rfl) (by kernel_rfl) (fun _ _ _ h => h) (Or.inl ⟨by rfl, ?_⟩) (by assumption) ?_
                    rotate_left
                    · intro W hSw
                      (try dsimp only at hSw)
                      go_simp
                      (try with_reducible rfl)
                    try simp only [Act.put, List.setIfInBounds_toArray, List.set_cons_zero, List.set_cons_succ]
                    refine wpAnyH_take (i := 2) (oi := { dst := _, op := _, type := _, pos := _, after := _, guard := _ }) (v := ?_) rfl (by kernel_rfl) (by kernel_rfl) (by kernel_rfl) (fun _ _ _ h => h) (Or.inl ⟨by rfl, ?_⟩) (by assumption) ?_
                    rotate_left
                    · intro W hSw
                      (try dsimp only at hSw)
                      go_simp
                      (try with_reducible rfl)
                    try simp only [Act.put, List.setIfInBounds_toArray, List.set_cons_zero, List.set_cons_succ]
                    refine wpAnyH_take (i := 3) (oi := { dst := _, op := _, type := _, pos := _, after := _, guard := _ }) (v := ?_) rfl (by kernel_rfl) (by kernel_rfl) (by kernel_rfl) (fun _ _ _ h => h) (Or.inl ⟨by rfl, ?_⟩) (by assumption) ?_
                    rotate_left
                    · intro W hSw
                      (try dsimp only at hSw)
                      obtain ⟨⟨s0, s1, s2, s3, s4, s5, s6⟩, s7⟩ := hSw
                      go_simp
                      (try with_reducible rfl)
                    try simp only [Act.put, List.setIfInBounds_toArray, List.set_cons_zero, List.set_cons_succ]
                    refine wpAnyH_take (i := 4) (oi := { dst := _, op := _, type := _, pos := _, after := _, guard := _ }) (v := ?_) rfl (by kernel_rfl) (by kernel_rfl) (by kernel_rfl) (fun _ _ _ h => h) (Or.inl ⟨by rfl, ?_⟩) (by assumption) ?_
                    rotate_left
                    · intro W hSw
                      (try dsimp only at hSw)
                      go_simp
                      (try with_reducible rfl)
                    try simp only [Act.put, List.setIfInBounds_toArray, List.set_cons_zero, List.set_cons_succ]
                    refine wpAnyH_take (i := 6) (oi := { dst := _, op := _, type := _, pos := _, after := _, guard := _ }) (v := ?_) rfl (by kernel_rfl) (by kernel_rfl) (by kernel_rfl) (fun _ _ _ h => h) (Or.inl ⟨by rfl, ?_⟩) (by assumption) ?_
                    rotate_left
                    · intro W hSw
                      (try dsimp only at hSw)
                      go_simp
                      (try with_reducible rfl)
                    try simp only [Act.put, List.setIfInBounds_toArray, List.set_cons_zero, List.set_cons_succ]
                    refine wpAnyH_take (i := 8) (oi := { dst := _, op := _, type := _, pos := _, after := _, guard := _ }) (v := ?_) rfl (by kernel_rfl) (by kernel_rfl) (by kernel_rfl) (fun _ _ _ h => h) (Or.inl ⟨by rfl, ?_⟩) (by assumption) ?_
                    rotate_left
                    · intro W hSw
                      (try dsimp only at hSw)
                      go_simp
                      (try with_reducible rfl)
                    try simp only [Act.put, List.setIfInBounds_toArray, List.set_cons_zero, List.set_cons_succ]
                    refine wpAnyH_take (i := 9) (oi := { dst := _, op := _, type := _, pos := _, after := _, guard := _ }) (v := ?_) rfl (by kernel_rfl) (by kernel_rfl) (by kernel_rfl) (fun _ _ _ h => h) (Or.inl ⟨by rfl, ?_⟩) (by assumption) ?_
                    rotate_left
                    · intro W hSw
                      (try dsimp only at hSw)
                      obtain ⟨⟨s0, s1, s2, s3, s4, s5, s6⟩, s7⟩ := hSw
                      go_simp
                      (try with_reducible rfl)
                    try simp only [Act.put, List.setIfInBounds_toArray, List.set_cons_zero, List.set_cons_succ]
                    refine wpAnyH_ready (rs := [5]) (by kernel_rfl) (by simp) ?_
                    refine AllReadyH.cons (o := { dst := _, op := _, type := _, pos := _, after := _, guard := _ }) rfl (fun K hK => ?_) AllReadyH.nil
                    go_simp
                    refine (HCO.out _).mono ?_
                    rintro e wz ⟨rfl, hb⟩
                    have HBG : Hid (Below wh.heap.size wh wz) := (Below.drew (Below.refl _ _)).trans hb
                    clear hb
                    go_wp2_with fail
                    refine hK.out _ _ ?_ (fun hHeld => ?_)
                    · exact ⟨⟨below_cell HBG.out HS9.out.1.1, below_cell HBG.out HS9.out.1.2.1, below_cell HBG.out HS9.out.1.2.2.1, below_cell HBG.out HS9.out.1.2.2.2.1, below_cell HBG.out HS9.out.1.2.2.2.2.1, below_cell HBG.out HS9.out.1.2.2.2.2.2.1, below_cell HBG.out HS9.out.1.2.2.2.2.2.2⟩, below_cell HBG.out HS9.out.2⟩
                    clear hK K
                    try simp only [Act.put, List.setIfInBounds_toArray, List.set_cons_zero, List.set_cons_succ]
                    refine wpAnyH_take (i := 7) (oi := { dst := _, op := _, type := _, pos := _, after := _, guard := _ }) (v := ?_) rfl (by kernel_rfl) (by kernel_rfl) (by kernel_rfl) (fun _ _ _ h => h) (Or.inl ⟨by rfl, ?_⟩) (by assumption) ?_
                    rotate_left
                    · intro W hSw
                      (try dsimp only at hSw)
                      go_simp
                      (try with_reducible rfl)
                    try simp only [Act.put, List.setIfInBounds_toArray, List.set_cons_zero, List.set_cons_succ]
                    refine wpAnyH_take (i := 10) (oi := { dst := _, op := _, type := _, pos := _, after := _, guard := _ }) (v := ?_) rfl (by kernel_rfl) (by kernel_rfl) (by kernel_rfl) (fun _ _ _ h => h) (Or.inl ⟨by rfl, ?_⟩) (by assumption) ?_
                    rotate_left
                    · intro W hSw
                      (try dsimp only at hSw)
                      go_simp
                      (try with_reducible rfl)
                    try simp only [Act.put, List.setIfInBounds_toArray, List.set_cons_zero, List.set_cons_succ]
                    refine wpAnyH_done (by kernel_rfl) ?_ _
                    clear hHeld
                    refine NoPanic.normal ?_
                    have HB9z : Hid (Below W9.heap.size W9 wz) := below_trans HB9f.out (below_trans HBfh.out HBG.out)
                    obtain ⟨Q, hQ⟩ : ∃ Q, ((BA.toList == OT.toList) == x.nt) = Q := ⟨_, rfl⟩
                    have HQ : Hid (cho P T s F x = !Q) := by
                      show _ = _
                      rw [HCH.out, ← hQ, str_eq]
                      rfl
                    rw [hQ]
                    have hwj2 := HWJ.out
                    clear hQ
                    cases Q with
                    | true =>
                      go_wp2_with fail
                      go_roundg (m - (j + 1))
                      case measure => have := HJ.out; have := HJL.out; omega
                      case rel => exact ⟨j + 1, false, by simp, rfl, ⟨HJL.out, rfl⟩, (by rw [HTA.out, HQ.out]; cases A <;> rfl), HB9z⟩
                    | false =>
                      go_wp2_with fail
                      go_roundg (m - (j + 1))
                      case measure => have := HJ.out; have := HJL.out; omega
                      case rel => exact ⟨j + 1, A, by simp, rfl, ⟨HJL.out, rfl⟩, (by rw [HTA.out, HQ.out]; cases A <;> rfl), HB9z⟩
                · have e3 : decide ((j : Int) < (m : Int)) = false := by rw [decide_eq_false_iff_not]; omega
                  have e4 : decide (j < m) = false := by rw [decide_eq_false_iff_not]; omega
                  have HH : Hid (hld P cs T s F = A) := by
                    show _ = _
                    have h9 := HA.out
                    rw [List.take_of_length_le (by rw [HN.out.2.1]; omega)] at h9
                    exact h9
                  have HTF : Hid ((RB.take (i + 1)).filter (hld P cs T s) = (RB.take i).filter (hld P cs T s) ++ (if A then [F] else [])) := by
                    show _ = _
                    rw [take_filter RB _ i (by rw [HRB.out.1]; exact HIL.out), HFE.out, HH.out]
                  have HOWa : Hid (wa.ownsRow w7.heap.size 36 1 (.slice oa k oc) k ws) := row_up HOW9.out HBJ.out
                  have hwi2 := HWI.out
                  clear hj
                  cases A with
                  | false =>
                    go_wp2_with fail
                    go_roundg (rb - (i + 1))
                    case measure => have := HI.out; have := HIL.out; omega
                    case rel => exact ⟨i + 1, k, ws, by simp, ⟨HIL.out, rfl⟩, HOWa, (by have h9 := HKI.out; show k ≤ i + 1; omega), (by rw [HTF.out]; simpa using HWN), HB7a⟩
                  | true =>
                    have cw := below_cell HB7a.out HG7.out
                    have HROW : Hid ((wa.alloc (.cells #[.slice (some ⟨yg, yo, none⟩) pl yc] 36)).ownsRow w7.heap.size 36 1 (.slice oa k oc) k ws) := HOWa.out.alloc _
                    have HSA : Hid (w7.heap.size ≤ (wa.alloc (.cells #[.slice (some ⟨yg, yo, none⟩) pl yc] 36)).heap.size) := Nat.le_trans HB7a.out.size (bel_up _ _).size
                    have HMX : Hid (k + 1 ≤ maxLen ∧ (k + 1) * 24 ≤ 140737488355328) := by have := HKI.out; have := HIL.out; have := HSM.out; have := HRB.out.2; show _ ∧ _; unfold maxLen; omega
                    go_wp2_with (at_builtin; refine wpList_append_own_at _ rfl _ _ 30 rfl w7.heap.size 36 iF (.agg #[.slice none 0 0]) 1 24 Tryz.underlying30 hiF hx0 hx1 hx2 rfl (by decide) _ _ _ rfl HROW.out ⟨wa.heap.size, 0, none⟩ 1 1 [.slice (some ⟨yg, yo, none⟩) pl yc] rfl rfl (World.news_of_block (heap_new wa _)) (by simp [Value.oneCell']) HMX.out.1 HMX.out.2 HSA.out ?_; intro v8 w8 ho8 hg8 _ ha8; have HO8 : Hid (w8.ownsRow w7.heap.size 36 1 v8 (k + 1) (ws ++ [.slice (some ⟨yg, yo, none⟩) pl yc])) := ho8; have HB8 : Hid (Below w7.heap.size w7 w8) := Tr.bel_app HB7a.out HB7a.out.size HOWa.out hg8; obtain ⟨qa, qc, rfl⟩ := row_shape ho8; clear ho8 hg8 ha8)
                    go_roundg (rb - (i + 1))
                    case measure => have := HI.out; have := HIL.out; omega
                    case rel => exact ⟨i + 1, k + 1, _, by simp, ⟨HIL.out, rfl⟩, HO8, (by have h9 := HKI.out; show k + 1 ≤ i + 1; omega), (by rw [HTF.out, if_pos trivial]; exact HWN.out.push HGR.out), HB8⟩
            · have e1 : decide ((i : Int) < (rb : Int)) = false := by rw [decide_eq_false_iff_not]; omega
              have e2 : decide (i < rb) = false := by rw [decide_eq_false_iff_not]; omega
              have HWF : Hid (Wn w7 ws RL k) := by
                have h9 := HWN.out
                rw [List.take_of_length_le (by rw [HRB.out.1]; omega), ← HRA.out.1] at h9
                exact h9
              have hk : k = rl := HWF.out.ln.2.symm.trans HRLN.out
              subst hk
              have HSF : Hid _ := sameFound_any (n := k) (R := RL) (by have h9 := HZ.out; unfold Tr.Sm at h9; rw [HN.out.2.2] at h9; have := HKI.out; have := HI.out; have := HRB.out.2; omega) (fun j hj => by
                have h8 : RL.getD j [] ∈ RL := by rw [List.getD_eq_getElem?_getD, List.getElem?_eq_getElem (by rw [HRLN.out]; exact hj)]; exact List.getElem_mem _
                rw [HRA.out.1, HRA.out.2] at h8
                have h9 := (alls_fv [] s HSO.out.2.2.1 HFO.out tl (by rw [HN.out.2.2]; exact Nat.le_refl _) _ (List.mem_filter.1 h8).1).1
                rw [← HRA.out.2, ← HRA.out.1] at h9
                have := HSO.out.1
                omega) wr (HL7.out.up HBR.out) (HWF.out.fg (row_rw HOW.out) HBR.out)
              clear hi
              go_wp2_with (go_at_call 13; refine Calls.mono HSF.out ?_; rintro e w8 ⟨rfl, hb8⟩; have HB8 : Hid (Below wr.heap.size wr w8) := hb8; clear hb8)
              go_ret
              exact ⟨rfl, below_trans HB1.out (below_trans HB7.out (below_trans HBR.out HB8.out))⟩
        · have h0 : rl = 0 := by
            rw [← HRLN.out, ← HRL.out]
            unfold allQ
            rw [HSB.out, hr]
            rfl
          subst h0
          rw [hr2] at HRT
          clear hr hr2
          go_wp2_with first | (go_at_call 9; refine Calls.mono HSH.out ?_; rintro e w6 ⟨rfl, hb6⟩; have HB6 : Hid (Below W1.heap.size W1 w6) := below_trans HB5.out hb6; clear hb6) | (go_at_call 10; refine Calls.mono (HRT.out _ HB6.out) ?_; rintro e w9 ⟨rfl, hw9⟩; subst hw9)
          go_ret
          exact ⟨rfl, below_trans HB1.out HB6.out⟩
end Go.Proofs.YtcmhbcfgikmblabGreatDoor.Qy
