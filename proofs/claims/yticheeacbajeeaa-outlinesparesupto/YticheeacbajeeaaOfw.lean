import Derived.Test.YticheeacbajeeaaOlw
import Derived.Test.YticheeacbajeeaaOft
namespace Go.Proofs.Yticheeacbajeeaa
open Go.RowKit Go.Maps

theorem Zf.mrn {F : List ByteArray} {T : List Nd} {s : ByteArray} (h : Zf F T s) : Zf F (mrn T T.length) s :=
  ⟨h.fl, by unfold Sm; rw [mrn_len]; exact h.tl, h.fn, mrn_nm h.tn _ (Nat.le_refl _), h.sl⟩
set_option maxRecDepth 100000 in
set_option maxHeartbeats 16000000 in
/-- OutlineFolds. -/
theorem outlineFolds_any {va vb vt : Value} {F : List ByteArray} {M : List Pa} {T : List Nd} (s : ByteArray) (w : World) (hF : Ss w va F) (hM : Pl w vb M) (hT : Ns w vt T) (hf : F.length * 16 ≤ 140737488355328) (hml : M.length * 32 ≤ 140737488355328) (hz : Zf F T s) : Calls Try.prog 6 #[.agg #[va, vb], vt, .string s] w fun e w' => e = .returned (.bool true) ∧ Below w.heap.size w w' := by
  obtain ⟨W1, hW1⟩ : ∃ W1, W1 = w.alloc (.cells #[va, vb] 25) := ⟨_, rfl⟩
  have HB1 : Hid (Below w.heap.size w W1) := by rw [hW1]; exact bel_up _ _
  have h1 : W1.heap[w.heap.size]? = some (.cells #[va, vb] 25 (0, 0)) := by rw [hW1]; exact heap_new w _
  obtain ⟨lb, hlb⟩ : ∃ lb, w.heap.size = lb := ⟨_, rfl⟩
  have HLBE : Hid (w.heap.size = lb) := hlb
  rw [hlb] at h1
  have HFS : Hid (Ss W1 va F) := hF.up HB1.out
  have HMS : Hid (Pl W1 vb M) := hM.up HB1.out
  have HTS : Hid (Ns W1 vt T) := hT.up HB1.out
  have HZ : Hid (Zf F T s) := hz
  have HML : Hid (M.length * 32 ≤ 140737488355328) := hml
  obtain ⟨fa, fc, rfl⟩ := hF.form
  obtain ⟨ma, mc, rfl⟩ := hM.form
  obtain ⟨ta, tc, rfl⟩ := hT.form
  obtain ⟨fl, hnf⟩ : ∃ fl, F.length = fl := ⟨_, rfl⟩
  obtain ⟨m, hmm⟩ : ∃ m, M.length = m := ⟨_, rfl⟩
  obtain ⟨n, hnn⟩ : ∃ n, T.length = n := ⟨_, rfl⟩
  have HN : Hid (T.length = n ∧ n * 72 + 4096 ≤ 140737488355328) := ⟨hnn, by have h9 := hz.tl; unfold Sm at h9; rw [hnn] at h9; exact h9⟩
  have HFL : Hid (F.length * 16 ≤ 140737488355328) := hf
  rw [hnf] at h1 HFS hW1 ⊢
  rw [hmm] at h1 HMS hW1 ⊢
  rw [hnn] at HTS ⊢
  have HLC : Hid (∀ W, Below W1.heap.size W1 W → W.cell? ⟨lb, 0, none⟩ = some (.slice fa fl fc) ∧ W.cell? ⟨lb, 1, none⟩ = some (.slice ma m mc)) := fun W hW => ⟨below_cell hW (rcell h1 0 _ rfl), below_cell hW (rcell h1 1 _ rfl)⟩
  have HBY : Hid _ := beyond_any W1 HTS.out hz.tl
  have HRO : Hid (∀ W, Below W1.heap.size W1 W → Calls Try.prog 8 #[.slice ta n tc] W fun e w' => ∃ g cap, e = .returned (.slice (some ⟨g, 0, none⟩) (n + 2) cap) ∧ Rmy W.heap.size w' g n cap T ∧ Below W.heap.size W w') := fun W hW => by
    have h9 := roomy_any (HZ.out.tl) W (HTS.out.up hW)
    rw [HN.out.1] at h9
    exact h9
  have HLA : Hid (∀ W, Below W1.heap.size W1 W → Calls Try.prog 10 #[.agg #[.slice fa fl fc, .slice ma m mc]] W fun e w' => ∃ v' u', e = .returned (.agg (lgO v' u')) ∧ Ss w' v' F ∧ Pl w' u' M ∧ Below W.heap.size W w') := fun W hW => lang_any W (HFS.out.up hW) (HMS.out.up hW) HFL.out HML.out
  have HPS : Hid (∀ (W : World) (vf vm u : Value) (T' : List Nd), Zf F T' s → Ss W vf F → Pl W vm M → Ns W u T' → Calls Try.prog 15 #[.agg (lgO vf vm), u, .string s] W fun e w' => ∃ v, e = .returned v ∧ Fl w' v (fol F T' s) ∧ Below W.heap.size W w') := fun W vf vm u T' hz h1 h2 h3 => by
    refine Calls.mono (folds_any s W h1 h2 h3 hz) ?_
    rintro e w' ⟨v, rfl, ho, hb⟩
    exact ⟨v, rfl, row_rw ho (by decide), hb⟩
  have HQS : Hid (∀ (W : World) (vf vm u : Value) (T' : List Nd), Zf F T' s → Ss W vf F → Pl W vm M → Ns W u T' → Calls Try.prog 20 #[.agg (lgO vf vm), u, .string s] W fun e w' => ∃ v, e = .returned v ∧ Fl w' v (fol F T' s) ∧ Below W.heap.size W w') := fun W vf vm u T' hz h1 h2 h3 => by
    refine Calls.mono (rfolds_any s W h1 h2 h3 hz) ?_
    rintro e w' ⟨v, rfl, ho, hb⟩
    exact ⟨v, rfl, row_rw ho (by decide), hb⟩
  have HSL : Hid (∀ T' : List Nd, T'.length = n → (fol F T' s).length < 4611686018427387904) := fun T' h => by
    have := fol_len F T' s
    have := HZ.out.sl
    omega
  clear hF hM hT hf hml hz hnf hmm hnn h1
  go_enter Try.func6, Try.ntmps6
  go_upto_region 1 with fail
  rw [← hW1]
  try rw [hlb]
  clear hW1 hlb
  go_upto_if 13 with (go_at_call 7; refine Calls.mono HBY.out ?_; rintro e w2 ⟨b, rfl, hb2⟩; have HB2 : Hid (Below W1.heap.size W1 w2) := hb2; clear hb2)
  cases b with
  | true =>
    go_wp2_with fail
    go_ret
    exact ⟨rfl, below_trans HB1.out HB2.out⟩
  | false =>
    go_upto_region 4 with (go_at_call 8; refine Calls.mono (HRO.out w2 HB2.out) ?_; rintro e w3 ⟨g, cap, rfl, hr3, hb3⟩; have HR3 : Hid (Rmy w2.heap.size w3 g n cap T) := hr3; have HB23 : Hid (Below w2.heap.size w2 w3) := hb3; have HB3 : Hid (Below W1.heap.size W1 w3) := below_trans HB2.out hb3; clear hr3 hb3)
    have f1 : n ≤ cap := by have := HR3.out.2.1; omega
    have f2 : (0 : Int) ≤ (n : Int) := by omega
    have f3 : (n : Int) ≤ (cap : Int) := by omega
    obtain ⟨c0, c1⟩ := HLC.out w3 HB3.out
    go_upto_region 6 with first | (go_at_call 10; refine Calls.mono (HLA.out w3 HB3.out) ?_; rintro e w4 ⟨v4, u4, rfl, hs4, hp4, hb4⟩; have HS4 : Hid (Ss w4 v4 F ∧ Pl w4 u4 M) := ⟨hs4, hp4⟩; have HB4 : Hid (Below w3.heap.size w3 w4) := hb4; clear hs4 hp4 hb4) | (go_at_call 15; refine Calls.mono (HPS.out w4 v4 u4 _ T HZ.out HS4.out.1 HS4.out.2 (HR3.out.up HB4.out).ns) ?_; rintro e w5 ⟨v5, rfl, hy5, hb5⟩; have HY5 : Hid (Fl w5 v5 (fol F T s)) := hy5; have HB35 : Hid (Below w3.heap.size w3 w5) := below_trans HB4.out hb5; clear hy5 hb5)
    clear f1 f2 f3 c0 c1
    have HB5 : Hid (Below W1.heap.size W1 w5) := below_trans HB3.out HB35.out
    obtain ⟨c0, c1⟩ := HLC.out w5 HB5.out
    go_upto_region 9 with first | (go_at_call 10; refine Calls.mono (HLA.out w5 HB5.out) ?_; rintro e w6 ⟨v6, u6, rfl, hs6, hp6, hb6⟩; have HS6 : Hid (Ss w6 v6 F ∧ Pl w6 u6 M) := ⟨hs6, hp6⟩; have HB56 : Hid (Below w5.heap.size w5 w6) := hb6; clear hs6 hp6 hb6) | (go_at_call 20; refine Calls.mono (HQS.out w6 v6 u6 _ T HZ.out HS6.out.1 HS6.out.2 (HTS.out.up (below_trans HB5.out HB56.out))) ?_; rintro e w7 ⟨v7, rfl, hy7, hb7⟩; have HY7 : Hid (Fl w7 v7 (fol F T s)) := hy7; have HB57 : Hid (Below w5.heap.size w5 w7) := below_trans HB56.out hb7; clear hy7 hb7) | (go_at_call 17; refine Calls.mono (sameFolds_any (HSL.out T HN.out.1) w7 (HY5.out.up HB57.out) HY7.out) ?_; rintro e w8 ⟨rfl, hb8⟩; have HB58 : Hid (Below w5.heap.size w5 w8) := below_trans HB57.out hb8; clear hb8) | (go_at_call 13; refine Calls.mono (spared_any w8 HZ.out.tl (HR3.out.up (below_trans HB35.out HB58.out)) (HTS.out.up (below_trans HB5.out HB58.out))) ?_; rintro e w9 ⟨rfl, hb9⟩; have HB59 : Hid (Below w5.heap.size w5 w9) := below_trans HB58.out hb9; clear hb9)
    clear c0 c1
    have HB39 : Hid (Below w3.heap.size w3 w9) := below_trans HB35.out HB59.out
    have HR9 : Hid (Rmy w2.heap.size w9 g n cap T) := HR3.out.up HB39.out
    have HB29 : Hid (Below w2.heap.size w2 w9) := below_trans HB23.out HB39.out
    have HG : Hid (w2.heap.size ≤ g) := (row_tag HR3.out.2.2 g rfl).1
    go_loopg [10] n (fun gm v10 wr => ∃ i : Nat, v10 = .int .i64 (i : Int) ∧ Hid (i ≤ n ∧ gm = n - i) ∧ Hid (Rmy w2.heap.size wr g n cap (mrn T i)) ∧ Hid (Below w2.heap.size w2 wr))
    case atStart => exact ⟨0, rfl, ⟨Nat.zero_le _, rfl⟩, HR9, HB29⟩
    case round =>
      obtain ⟨i, rfl, HI, HR, HB⟩ := hrel
      obtain ⟨wa, hwa⟩ : ∃ wa, wa = wr := ⟨_, rfl⟩
      rw [← hwa] at HR HB ⊢
      clear hwa
      have HBa : Hid (Below W1.heap.size W1 wa) := below_trans HB2.out HB.out
      by_cases hi : i < n
      · have e1 : decide ((i : Int) < (n : Int)) = true := by rw [decide_eq_true_eq]; omega
        have e2 : decide (i < n) = true := by rw [decide_eq_true_eq]; omega
        have b1 : (i : Int) < (n : Int) := by omega
        have b2 : i < n := hi
        have b3 : (0 : Int) ≤ (i : Int) := by omega
        have HIL : Hid (i < n) := hi
        obtain ⟨j, hj⟩ : ∃ j, n - 1 - i = j := ⟨_, rfl⟩
        have HJ : Hid (n - 1 - i = j ∧ j < n) := ⟨hj, by omega⟩
        have hw1 : IntKind.i64.wrap ((n : Int) - 1) = (n : Int) - 1 := by have := HN.out.2; rw [IntKind.wrap_i64]; omega
        have hw2 : IntKind.i64.wrap ((n : Int) - 1 - (i : Int)) = (j : Int) := by have := HN.out.2; rw [IntKind.wrap_i64]; omega
        have hwi := w64n i (by have := HN.out; omega)
        have b4 : (j : Int) < (n : Int) := by omega
        have b5 : j < n := by omega
        have b6 : (0 : Int) ≤ (j : Int) := by omega
        obtain ⟨tg, tq, hta, htc⟩ := HTS.out.seven j (by rw [HN.out.1]; omega)
        obtain ⟨t0, -⟩ := htc wa HBa.out
        subst hta
        have hgt : mr1 T i = ⟨(T.getD j ndd).nm, true, (T.getD i ndd).fd, (T.getD i ndd).fr, (T.getD i ndd).tt, (T.getD i ndd).kd, (T.getD i ndd).lf⟩ := by unfold mr1; rw [HN.out.1, hj]
        obtain ⟨nm, hnm⟩ : ∃ nm, (T.getD j ndd).nm = nm := ⟨_, rfl⟩
        rw [hnm] at t0 hgt
        obtain ⟨x, hx⟩ : ∃ x, T.getD i ndd = x := ⟨_, rfl⟩
        rw [hx] at hgt
        have hxi : (mrn T i).getD i ndd = x := by rw [mrn_get T i i (Nat.le_refl _)]; exact hx
        have hR1 : Rmy w2.heap.size (wa.setCell ⟨g, i * 7 + 0, none⟩ (.string nm)) g n cap ((mrn T i).set i ⟨nm, x.nd, x.fd, x.fr, x.tt, x.kd, x.lf⟩) := HR.out.put hi (by decide) _ _ (by rw [hxi]; rfl)
        have hR2 : Rmy w2.heap.size ((wa.setCell ⟨g, i * 7 + 0, none⟩ (.string nm)).setCell ⟨g, i * 7 + 1, none⟩ (.bool true)) g n cap (((mrn T i).set i ⟨nm, x.nd, x.fd, x.fr, x.tt, x.kd, x.lf⟩).set i ⟨nm, true, x.fd, x.fr, x.tt, x.kd, x.lf⟩) := hR1.put hi (by decide) _ _ (by
          rw [List.getD_eq_getElem?_getD, List.getElem?_set_self (by rw [mrn_len, HN.out.1]; exact hi)]; rfl)
        rw [List.set_set, ← hgt, Nat.add_zero] at hR2
        have hbb : Below w2.heap.size w2 ((wa.setCell ⟨g, i * 7, none⟩ (.string nm)).setCell ⟨g, i * 7 + 1, none⟩ (.bool true)) := Below.setCell (Below.setCell HB.out HG.out _) HG.out _
        have HR2 : Hid (Rmy w2.heap.size ((wa.setCell ⟨g, i * 7, none⟩ (.string nm)).setCell ⟨g, i * 7 + 1, none⟩ (.bool true)) g n cap (mrn T (i + 1))) := hR2
        have HBB : Hid _ := hbb
        obtain ⟨_, cur, hgh⟩ := row_tag HR.out.2.2 g rfl
        have fz := Lib.frozen_of_heap hgh (i * 7)
        have cz := HR.out.2.2.cellAt (i * 7) (by omega)
        rw [flat_app, List.getElem?_append_left (by rw [flat_len nf_len, mrn_len, HN.out.1]; omega)] at cz
        have cz0 : wa.cell? ⟨g, i * 7, none⟩ = some (.string x.nm) := by
          have h9 := flat_get nf_len ndd (mrn T i) i 0 (by rw [mrn_len, HN.out.1]; exact hi) (by decide)
          rw [Nat.add_zero] at h9
          rw [cz, h9, hxi]; rfl
        obtain ⟨_, cur2, hgh2⟩ := row_tag hR1.2.2 g rfl
        rw [Nat.add_zero] at hgh2 hR1
        have fz2 := Lib.frozen_of_heap hgh2 (i * 7 + 1)
        have cz1 : (wa.setCell ⟨g, i * 7, none⟩ (.string nm)).cell? ⟨g, i * 7 + 1, none⟩ = some (.bool x.nd) := by
          rw [hR1.2.2.cellAt (i * 7 + 1) (by omega), flat_app, List.getElem?_append_left (by rw [flat_len nf_len, List.length_set, mrn_len, HN.out.1]; omega), flat_get nf_len ndd _ i 1 (by rw [List.length_set, mrn_len, HN.out.1]; exact hi) (by decide), List.getD_eq_getElem?_getD, List.getElem?_set_self (by rw [mrn_len, HN.out.1]; exact hi)]
          rfl
        clear hi hj htc hnm hx hxi hR1 hR2 hbb hgh cz hgh2 hgt
        go_upto_region 12 with fail
        go_wp2_with fail
        go_roundg (n - (i + 1))
        case measure => have := HI.out; have := HIL.out; omega
        case rel => exact ⟨i + 1, by simp, ⟨HIL.out, rfl⟩, HR2, HBB⟩
      · have e1 : decide ((i : Int) < (n : Int)) = false := by rw [decide_eq_false_iff_not]; omega
        have e2 : decide (i < n) = false := by rw [decide_eq_false_iff_not]; omega
        have hin : n = i := by have := HI.out; omega
        subst hin
        have HRn : Hid (Ns wa (.slice (some ⟨g, 0, none⟩) n cap) (mrn T n)) := HR.out.ns
        have HZn : Hid (Zf F (mrn T n) s) := by have h9 := HZ.out.mrn; rw [HN.out.1] at h9; exact h9
        have HLn : Hid ((mrn T n).length = n) := by show _ = _; rw [mrn_len]; exact HN.out.1
        obtain ⟨c0, c1⟩ := HLC.out wa HBa.out
        clear hi
        go_upto_region 14 with first | (go_at_call 10; refine Calls.mono (HLA.out wa HBa.out) ?_; rintro e w4 ⟨v4', u4', rfl, hs4, hp4, hb4⟩; have HS4' : Hid (Ss w4 v4' F ∧ Pl w4 u4' M) := ⟨hs4, hp4⟩; have HB4' : Hid (Below wa.heap.size wa w4) := hb4; clear hs4 hp4 hb4) | (go_at_call 20; refine Calls.mono (HQS.out w4 v4' u4' _ (mrn T n) HZn.out HS4'.out.1 HS4'.out.2 (HRn.out.up HB4'.out)) ?_; rintro e wb ⟨vb, rfl, hyb, hbb⟩; have HYb : Hid (Fl wb vb (fol F (mrn T n) s)) := hyb; have HBab : Hid (Below wa.heap.size wa wb) := below_trans HB4'.out hbb; clear hyb hbb)
        clear c0 c1
        have HBb : Hid (Below W1.heap.size W1 wb) := below_trans HBa.out HBab.out
        obtain ⟨c0, c1⟩ := HLC.out wb HBb.out
        go_wp2_with first | (go_at_call 10; refine Calls.mono (HLA.out wb HBb.out) ?_; rintro e wc ⟨vc', uc', rfl, hsc, hpc, hbc⟩; have HSc : Hid (Ss wc vc' F ∧ Pl wc uc' M) := ⟨hsc, hpc⟩; have HBbc : Hid (Below wb.heap.size wb wc) := hbc; clear hsc hpc hbc) | (go_at_call 15; refine Calls.mono (HPS.out wc vc' uc' _ (mrn T n) HZn.out HSc.out.1 HSc.out.2 (HRn.out.up (below_trans HBab.out HBbc.out))) ?_; rintro e wd ⟨vd, rfl, hyd, hbd⟩; have HYd : Hid (Fl wd vd (fol F (mrn T n) s)) := hyd; have HBbd : Hid (Below wb.heap.size wb wd) := below_trans HBbc.out hbd; clear hyd hbd) | (go_at_call 17; refine Calls.mono (sameFolds_any (HSL.out _ HLn.out) wd HYd.out (HYb.out.up HBbd.out)) ?_; rintro e we ⟨rfl, hbe⟩; have HBe : Hid (Below wb.heap.size wb we) := below_trans HBbd.out hbe; clear hbe)
        go_ret
        exact ⟨rfl, below_trans HB1.out (below_trans HBb.out HBe.out)⟩
end Go.Proofs.Yticheeacbajeeaa
