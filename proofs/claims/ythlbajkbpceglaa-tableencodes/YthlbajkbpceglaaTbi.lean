import Derived.Test.YthlbajkbpceglaaTbh
namespace Go.Proofs.Ythlbajkbpceglaa
open Go.RowKit Go.Maps

set_option maxRecDepth 100000 in
set_option maxHeartbeats 16000000 in
theorem rshaped_any {v0 v1 : Value} {A : List (Value × List Ak)} {G : List (Value × List Int)} (w : World) (h : Tb w v0 v1 A G) (hs : Ts A G) :
    Calls Try.prog 15 #[.agg #[v0, v1]] w fun e w' => e = .returned (.bool (shd (A.map Prod.snd) (G.map Prod.snd))) ∧ Below w.heap.size w w' := by
  have HT : Hid (Tb w v0 v1 A G) := h
  have HS : Hid (Ts A G) := hs
  obtain ⟨a0, c0, a1, c1, rfl, rfl⟩ := h.form
  clear h hs
  obtain ⟨n, hnA⟩ : ∃ n, A.length = n := ⟨_, rfl⟩
  have HNA : Hid (A.length = n) := hnA
  obtain ⟨nG, hnG⟩ : ∃ n, G.length = n := ⟨_, rfl⟩
  have HNG : Hid (G.length = nG) := hnG
  rw [hnA, hnG] at HT ⊢
  have HLA : Hid ((A.map Prod.snd).length = n) := by show _ = _; rw [List.length_map]; exact hnA
  have HLG : Hid ((G.map Prod.snd).length = nG) := by show _ = _; rw [List.length_map]; exact hnG
  clear hnA hnG
  obtain ⟨R, hR⟩ : ∃ R, shd (A.map Prod.snd) (G.map Prod.snd) = R := ⟨_, rfl⟩
  have HRD : Hid (shd (A.map Prod.snd) (G.map Prod.snd) = R) := hR
  rw [hR]
  clear hR
  have HBT : Hid (n * 24 + 4096 ≤ 140737488355328 ∧ nG * 24 + 4096 ≤ 140737488355328) := by have := HS.out.a; have := HS.out.g; have := HNA.out; have := HNG.out; show _ ∧ _; omega
  by_cases h1 : n < 1
  · have e1 : decide ((n : Int) < 1) = true := by rw [decide_eq_true_eq]; omega
    have e2 : decide (n < 1) = true := by rw [decide_eq_true_eq]; omega
    have HR : Hid (shd (A.map Prod.snd) (G.map Prod.snd) = false) := by show _ = _; unfold shd; rw [decide_eq_false (by rw [HLA.out]; omega)]; rfl
    obtain rfl : n = 0 := by omega
    clear h1
    go_enter Try.func15, Try.ntmps15
    go_wp2_with fail
    go_ret
    exact ⟨by rw [← HRD.out, HR.out]; rfl, bel_up _ _⟩
  have d1 : decide ((n : Int) < 1) = false := by rw [decide_eq_false_iff_not]; omega
  have d1' : decide (n < 1) = false := by rw [decide_eq_false_iff_not]; omega
  have HN1 : Hid (1 ≤ n) := by show _ ≤ _; omega
  clear h1
  by_cases h2 : 2048 < n
  · have e1 : decide ((2048 : Int) < (n : Int)) = true := by rw [decide_eq_true_eq]; omega
    have e2 : decide (2048 < n) = true := by rw [decide_eq_true_eq]; omega
    have HR : Hid (shd (A.map Prod.snd) (G.map Prod.snd) = false) := by show _ = _; unfold shd; rw [decide_eq_false (by rw [HLA.out]; omega)]; rfl
    clear h2
    go_enter Try.func15, Try.ntmps15
    go_wp2_with fail
    go_ret
    exact ⟨by rw [← HRD.out, HR.out]; rfl, bel_up _ _⟩
  have d2 : decide ((2048 : Int) < (n : Int)) = false := by rw [decide_eq_false_iff_not]; omega
  have d2' : decide (2048 < n) = false := by rw [decide_eq_false_iff_not]; omega
  have HN2 : Hid (n ≤ 2048) := by show _ ≤ _; omega
  clear h2
  by_cases h3 : nG = n
  rotate_left
  · have e1 : ((nG : Int) != (n : Int)) = true := by simp; omega
    have e2 : (nG != n) = true := by simpa using h3
    have HR : Hid (shd (A.map Prod.snd) (G.map Prod.snd) = false) := by show _ = _; unfold shd; rw [decide_eq_false (by rw [HLA.out, HLG.out]; omega)]; rfl
    clear h3
    go_enter Try.func15, Try.ntmps15
    go_wp2_with fail
    go_ret
    exact ⟨by rw [← HRD.out, HR.out]; rfl, bel_up _ _⟩
  subst h3
  obtain ⟨n, hn⟩ : ∃ n, n = nG := ⟨_, rfl⟩
  rw [← hn] at HT HNA HNG HLA HLG HBT HN1 HN2 d1 d1' d2 d2' ⊢
  clear hn nG
  have d3 : ((n : Int) != (n : Int)) = false := by simp
  obtain ⟨g, oo, cap, a, c, q0, q1, q2, q3⟩ := HT.out.a.at 0 (by rw [HNA.out]; exact HN1.out)
  obtain ⟨rfl, -, rfl⟩ := Value.slice.inj q0
  obtain ⟨g', oo', cap', a', c', p0, p1, p2, p3⟩ := HT.out.g.at 0 (by rw [HNG.out]; exact HN1.out)
  obtain ⟨rfl, -, rfl⟩ := Value.slice.inj p0
  have HTK : Hid (((A.map Prod.snd).getD 0 []).length = (A.getD 0 nrd).2.length) := by show _ = _; rw [snd_getD]
  have HSY : Hid (((G.map Prod.snd).getD 0 []).length = (G.getD 0 nrd).2.length) := by show _ = _; rw [snd_getD]
  obtain ⟨tk, htk⟩ : ∃ x, (A.getD 0 nrd).2.length = x := ⟨_, rfl⟩
  obtain ⟨sy, hsy⟩ : ∃ x, (G.getD 0 nrd).2.length = x := ⟨_, rfl⟩
  have HTZ : Hid (tk * 16 + 4096 ≤ 140737488355328 ∧ sy * 8 + 4096 ≤ 140737488355328) := by
    have e1 := HS.out.ra _ (getD_mem A nrd 0 (by rw [HNA.out]; exact HN1.out))
    have e2 := HS.out.rg _ (getD_mem G nrd 0 (by rw [HNG.out]; exact HN1.out))
    rw [htk] at e1
    rw [hsy] at e2
    exact ⟨e1, e2⟩
  rw [htk] at q2 HTK
  rw [hsy] at p2 HSY
  rw [Nat.add_zero] at q2 p2
  have HC0 : Hid (w.cell? ⟨g, oo, none⟩ = some (.slice a tk c)) := q2
  have HC1 : Hid (w.cell? ⟨g', oo', none⟩ = some (.slice a' sy c')) := p2
  clear q0 q1 q2 q3 p0 p1 p2 p3 htk hsy
  obtain ⟨W1, hW1⟩ : ∃ W1, W1 = w.alloc (.cells #[.slice (some ⟨g, oo, none⟩) n c0, .slice (some ⟨g', oo', none⟩) n c1] 25) := ⟨_, rfl⟩
  have HB1 : Hid (Below w.heap.size w W1) := by rw [hW1]; exact bel_up _ _
  have HX : Hid (W1.heap[w.heap.size]? = some (.cells #[.slice (some ⟨g, oo, none⟩) n c0, .slice (some ⟨g', oo', none⟩) n c1] 25 (0, 0))) := by rw [hW1]; exact heap_new _ _
  have e5 : (0 : Int) < (n : Int) := by have := HN1.out; omega
  have e6 : 0 < n := HN1.out
  go_enter Try.func15, Try.ntmps15
  go_upto_region 1 with fail
  rw [← hW1]
  clear hW1
  obtain ⟨tb, htb⟩ : ∃ tb, w.heap.size = tb := ⟨_, rfl⟩
  rw [htb] at HX ⊢
  clear htb
  have x0 := rcell HX.out 0 _ rfl
  have x1 := rcell HX.out 1 _ rfl
  have y0 := below_cell HB1.out HC0.out
  have y1 := below_cell HB1.out HC1.out
  go_upto_region 4 with fail
  clear d1 d1' d2 d2' d3
  go_upto_region 6 with fail
  clear x0 x1 y0 y1
  by_cases h4 : tk < 1
  · have e1 : decide ((tk : Int) < 1) = true := by rw [decide_eq_true_eq]; omega
    have e2 : decide (tk < 1) = true := by rw [decide_eq_true_eq]; omega
    have HR : Hid (shd (A.map Prod.snd) (G.map Prod.snd) = false) := by show _ = _; unfold shd; rw [decide_eq_false (p := 1 ≤ ((A.map Prod.snd).getD 0 []).length ∧ _) (by rw [HTK.out, HSY.out]; omega)]; simp
    obtain rfl : tk = 0 := by omega
    clear h4
    go_wp2_with fail
    go_ret
    exact ⟨by rw [← HRD.out, HR.out]; rfl, HB1.out⟩
  have d4 : decide ((tk : Int) < 1) = false := by rw [decide_eq_false_iff_not]; omega
  have d4' : decide (tk < 1) = false := by rw [decide_eq_false_iff_not]; omega
  by_cases h5 : 64 < tk
  · have e1 : decide ((64 : Int) < (tk : Int)) = true := by rw [decide_eq_true_eq]; omega
    have e2 : decide (64 < tk) = true := by rw [decide_eq_true_eq]; omega
    have HR : Hid (shd (A.map Prod.snd) (G.map Prod.snd) = false) := by show _ = _; unfold shd; rw [decide_eq_false (p := 1 ≤ ((A.map Prod.snd).getD 0 []).length ∧ _) (by rw [HTK.out, HSY.out]; omega)]; simp
    clear h4 h5
    go_wp2_with fail
    go_ret
    exact ⟨by rw [← HRD.out, HR.out]; rfl, HB1.out⟩
  have d5 : decide ((64 : Int) < (tk : Int)) = false := by rw [decide_eq_false_iff_not]; omega
  have d5' : decide (64 < tk) = false := by rw [decide_eq_false_iff_not]; omega
  by_cases h6 : 128 < sy
  · have e1 : decide ((128 : Int) < (sy : Int)) = true := by rw [decide_eq_true_eq]; omega
    have e2 : decide (128 < sy) = true := by rw [decide_eq_true_eq]; omega
    have HR : Hid (shd (A.map Prod.snd) (G.map Prod.snd) = false) := by show _ = _; unfold shd; rw [decide_eq_false (p := 1 ≤ ((A.map Prod.snd).getD 0 []).length ∧ _) (by rw [HTK.out, HSY.out]; omega)]; simp
    clear h4 h5 h6
    go_wp2_with fail
    go_ret
    exact ⟨by rw [← HRD.out, HR.out]; rfl, HB1.out⟩
  have d6 : decide ((128 : Int) < (sy : Int)) = false := by rw [decide_eq_false_iff_not]; omega
  have d6' : decide (128 < sy) = false := by rw [decide_eq_false_iff_not]; omega
  have HSH : Hid (Sh (A.map Prod.snd) (G.map Prod.snd) n tk sy R) := by have h9 := sh_of HLA.out HN1.out HN2.out HLG.out HTK.out HSY.out (by omega) (by omega) (by omega); rw [HRD.out] at h9; exact h9
  have HSY2 : Hid (tk ≤ 64 ∧ sy ≤ 128) := by show _ ∧ _; omega
  clear h4 h5 h6
  go_upto_region 9 with fail
  clear d4 d4' d5 d5' d6 d6' e5 e6 HTK HSY
  go_loopg [6] n (fun gm v6 wr => ∃ i : Nat, v6 = .int .i64 (i : Int) ∧ Hid (Below w.heap.size w wr) ∧ Hid (i ≤ n ∧ gm = n - i) ∧ Hid (wr.heap[tb]? = some (.cells #[.slice (some ⟨g, oo, none⟩) n c0, .slice (some ⟨g', oo', none⟩) n c1] 25 (0, 0))) ∧ Hid (∀ j, j < i → rok n tk sy ((A.map Prod.snd).getD j []) ((G.map Prod.snd).getD j []) = true))
  case atStart => exact ⟨0, rfl, HB1, ⟨Nat.zero_le _, rfl⟩, HX, fun j hj => by omega⟩
  case round =>
    clear HB1 HX
    obtain ⟨i, rfl, HBW, HI, HX, HOK⟩ := hrel
    have x0 := rcell HX.out 0 _ rfl
    have x1 := rcell HX.out 1 _ rfl
    by_cases hi : i < n
    rotate_left
    · have e1 : decide ((i : Int) < (n : Int)) = false := by rw [decide_eq_false_iff_not]; omega
      have e2 : decide (i < n) = false := by rw [decide_eq_false_iff_not]; omega
      have HRT : Hid (R = true) := HSH.out.yes fun j hj => HOK.out j (by have := HI.out; omega)
      clear hi
      go_wp2_with fail
      go_ret
      exact ⟨by rw [HRT.out]; rfl, HBW.out⟩
    obtain ⟨a2, c2, q2, q3⟩ := HT.out.a.row i (by rw [HNA.out]; exact hi)
    obtain ⟨a3, c3, p2, p3⟩ := HT.out.g.row i (by rw [HNG.out]; exact hi)
    have HNO : Hid (rok n tk sy (A.getD i nrd).2 (G.getD i nrd).2 = false → R = false) := fun hh => HSH.out.no i hi (by rw [snd_getD, snd_getD]; exact hh)
    have HYE : Hid (rok n tk sy (A.getD i nrd).2 (G.getD i nrd).2 = true → ∀ j, j < i + 1 → rok n tk sy ((A.map Prod.snd).getD j []) ((G.map Prod.snd).getD j []) = true) := fun hh j hj => by
      by_cases e : j = i
      · rw [e, snd_getD, snd_getD]; exact hh
      · exact HOK.out j (by omega)
    have HLZ : Hid ((A.getD i nrd).2.length * 16 + 4096 ≤ 140737488355328 ∧ (G.getD i nrd).2.length * 8 + 4096 ≤ 140737488355328) := ⟨HS.out.ra _ (getD_mem A nrd i (by rw [HNA.out]; exact hi)), HS.out.rg _ (getD_mem G nrd i (by rw [HNG.out]; exact hi))⟩
    obtain ⟨la, hla⟩ : ∃ l, (A.getD i nrd).2 = l := ⟨_, rfl⟩
    obtain ⟨lg, hlg⟩ : ∃ l, (G.getD i nrd).2 = l := ⟨_, rfl⟩
    rw [hla] at q2 q3
    rw [hlg] at p2 p3
    rw [hla, hlg] at HNO HYE HLZ
    clear hla hlg
    obtain ⟨ma, hma⟩ : ∃ m, la.length = m := ⟨_, rfl⟩
    obtain ⟨mg, hmg⟩ : ∃ m, lg.length = m := ⟨_, rfl⟩
    have HMA : Hid (la.length = ma) := hma
    have HMG : Hid (lg.length = mg) := hmg
    rw [hma] at q2 q3
    rw [hmg] at p2 p3
    rw [hma, hmg] at HLZ
    clear hma hmg
    have HRA : Hid (Rw w (.slice a2 ma c2) ma (flat af la)) := q3
    have HRG : Hid (Rw w (.slice a3 mg c3) mg (flat gf lg)) := p3
    have KW : Hid (∀ W, Below w.heap.size w W → W.cell? ⟨g, oo + i, none⟩ = some (.slice a2 ma c2) ∧ W.cell? ⟨g', oo' + i, none⟩ = some (.slice a3 mg c3)) := fun W hW => ⟨below_cell hW q2, below_cell hW p2⟩
    obtain ⟨y0, y1⟩ := KW.out _ HBW.out
    clear q2 q3 p2 p3
    have e1 : decide ((i : Int) < (n : Int)) = true := by rw [decide_eq_true_eq]; omega
    have e2 : decide (i < n) = true := by rw [decide_eq_true_eq]; omega
    have e5 : (i : Int) < (n : Int) := by omega
    have e6 : i < n := hi
    have HIL : Hid (i < n) := hi
    have hwr := w64n i (by have := HBT.out; have := HIL.out; omega)
    clear hi
    by_cases hl1 : ma = tk
    rotate_left
    · have t1 : ((ma : Int) != (tk : Int)) = true := by simp; omega
      have t2 : (ma != tk) = true := by simpa using hl1
      have HRF : Hid (R = false) := HNO.out (rok_a (by rw [HMA.out]; exact hl1))
      clear hl1
      go_wp2_with fail
      go_ret
      exact ⟨by rw [HRF.out]; rfl, HBW.out⟩
    by_cases hl2 : mg = sy
    rotate_left
    · have t1 : ((ma : Int) != (tk : Int)) = false := by simp [hl1]
      have t2 : (ma != tk) = false := by simp [hl1]
      have t3 : ((mg : Int) != (sy : Int)) = true := by simp; omega
      have t4 : (mg != sy) = true := by simpa using hl2
      have HRF : Hid (R = false) := HNO.out (rok_b (by rw [HMG.out]; exact hl2))
      clear hl1 hl2
      go_wp2_with fail
      go_ret
      exact ⟨by rw [HRF.out]; rfl, HBW.out⟩
    have t1 : ((ma : Int) != (tk : Int)) = false := by simp [hl1]
    have t2 : (ma != tk) = false := by simp [hl1]
    have t3 : ((mg : Int) != (sy : Int)) = false := by simp [hl2]
    have t4 : (mg != sy) = false := by simp [hl2]
    have HLT : Hid (ma = tk ∧ mg = sy) := ⟨hl1, hl2⟩
    clear hl1 hl2
    go_upto_region 14 with fail
    clear t1 t2 t3 t4 x0 x1 y0 y1 e1 e2
    go_loopg [7] tk (fun gm v7 wr => ∃ j : Nat, v7 = .int .i64 (j : Int) ∧ Hid (Below w.heap.size w wr) ∧ Hid (j ≤ tk ∧ gm = tk - j) ∧ Hid (wr.heap[tb]? = some (.cells #[.slice (some ⟨g, oo, none⟩) n c0, .slice (some ⟨g', oo', none⟩) n c1] 25 (0, 0))) ∧ Hid ((la.take j).all (fts n) = true))
    case atStart => exact ⟨0, rfl, HBW, ⟨Nat.zero_le _, rfl⟩, HX, rfl⟩
    case round =>
      clear HBW HX
      obtain ⟨j, rfl, HBW, HJ, HX, HAL⟩ := hrel
      have x0 := rcell HX.out 0 _ rfl
      have x1 := rcell HX.out 1 _ rfl
      obtain ⟨y0, y1⟩ := KW.out _ HBW.out
      by_cases hj : j < tk
      · obtain ⟨g2, o2, cap2, e0, hc⟩ := HRA.out.place (by have := HLT.out; omega)
        obtain ⟨rfl, -, rfl⟩ := Value.slice.inj e0
        have hjl : j < la.length := by rw [HMA.out]; have := HLT.out; omega
        obtain ⟨q0, q1⟩ := af_get la j hjl
        have k0 := below_cell HBW.out (hc _ _ q0)
        have k1 := below_cell HBW.out (hc _ _ q1)
        rw [← Nat.add_assoc] at k1
        have HST : Hid (fts n (la.getD j akd) = true → (la.take (j + 1)).all (fts n) = true) := fun hh => all_step akd hjl HAL.out hh
        have HSF : Hid (fts n (la.getD j akd) = false → R = false) := fun hh => HNO.out (rok_c (all_no akd hjl hh))
        obtain ⟨x, hx⟩ : ∃ x, la.getD j akd = x := ⟨_, rfl⟩
        rw [hx] at k0 k1 HST HSF
        clear hx hjl q0 q1 hc e0
        have t1 : decide ((j : Int) < (tk : Int)) = true := by rw [decide_eq_true_eq]; omega
        have t2 : decide (j < tk) = true := by rw [decide_eq_true_eq]; omega
        have t5 : (j : Int) < (ma : Int) := by have := HLT.out; omega
        have t6 : j < ma := by have := HLT.out; omega
        have HJL : Hid (j < tk) := hj
        have hwj := w64n j (by have := HSY2.out; have := HLT.out; have := HJL.out; omega)
        clear hj
        cases hf : fts n x with
        | false =>
          have HF : Hid (fts n x = false) := hf
          clear hf
          go_wp2_with (go_at_call 20; refine (rfits_any n x _).mono ?_; rintro e W5 ⟨rfl, hb5⟩; have B5 : Hid _ := hb5; clear hb5; rw [HF.out])
          go_ret
          exact ⟨by rw [HSF.out HF.out]; rfl, below_trans HBW.out B5.out⟩
        | true =>
          have HF : Hid (fts n x = true) := hf
          clear hf
          go_wp2_with (go_at_call 20; refine (rfits_any n x _).mono ?_; rintro e W5 ⟨rfl, hb5⟩; have B5 : Hid _ := hb5; clear hb5; rw [HF.out])
          go_roundg (tk - (j + 1))
          case measure => have := HJ.out; have := HJL.out; omega
          case rel => exact ⟨j + 1, by first | rfl | (rw [show (j : Int) + 1 = ((j + 1 : Nat) : Int) by omega]), below_trans HBW.out B5.out, ⟨HJL.out, rfl⟩, (B5.out.block _ (lt_of_heap HX.out)).trans HX.out, HST.out HF.out⟩
      · have t1 : decide ((j : Int) < (tk : Int)) = false := by rw [decide_eq_false_iff_not]; omega
        have t2 : decide (j < tk) = false := by rw [decide_eq_false_iff_not]; omega
        have HAA : Hid (la.all (fts n) = true) := all_end (by rw [HMA.out]; have := HLT.out; omega) HAL.out
        clear hj HAL HJ
        go_upto_region 20 with fail
        clear t1 t2 x0 x1 y0 y1
        obtain ⟨V, hV⟩ : ∃ V, V = wr := ⟨_, rfl⟩
        rw [← hV] at HBW HX ⊢
        have HBV : Hid (Below w.heap.size w V) := HBW.out
        have HXV : Hid (V.heap[tb]? = some (.cells #[.slice (some ⟨g, oo, none⟩) n c0, .slice (some ⟨g', oo', none⟩) n c1] 25 (0, 0))) := HX.out
        clear hV HBW HX
        go_loopg [9] sy (fun gm v9 wr => ∃ j : Nat, v9 = .int .i64 (j : Int) ∧ Hid (Below w.heap.size w wr) ∧ Hid (j ≤ sy ∧ gm = sy - j) ∧ Hid (wr.heap[tb]? = some (.cells #[.slice (some ⟨g, oo, none⟩) n c0, .slice (some ⟨g', oo', none⟩) n c1] 25 (0, 0))) ∧ Hid ((lg.take j).all (gok n) = true))
        case atStart => exact ⟨0, rfl, HBV, ⟨Nat.zero_le _, rfl⟩, HXV, rfl⟩
        case round =>
          clear HBV HXV
          obtain ⟨j, rfl, HBW, HJ, HX, HAL⟩ := hrel
          have x0 := rcell HX.out 0 _ rfl
          have x1 := rcell HX.out 1 _ rfl
          obtain ⟨y0, y1⟩ := KW.out _ HBW.out
          by_cases hj : j < sy
          · obtain ⟨g2, o2, cap2, e0, hc⟩ := HRG.out.place (by have := HLT.out; omega)
            obtain ⟨rfl, -, rfl⟩ := Value.slice.inj e0
            have hjl : j < lg.length := by rw [HMG.out]; have := HLT.out; omega
            have q0 := gf_get lg j hjl
            have k0 := below_cell HBW.out (hc _ _ q0)
            have HST : Hid (gok n (lg.getD j 0) = true → (lg.take (j + 1)).all (gok n) = true) := fun hh => all_step 0 hjl HAL.out hh
            have HSF : Hid (gok n (lg.getD j 0) = false → R = false) := fun hh => HNO.out (rok_d (all_no 0 hjl hh))
            obtain ⟨x, hx⟩ : ∃ x, lg.getD j 0 = x := ⟨_, rfl⟩
            rw [hx] at k0 HST HSF
            clear hx hjl q0 hc e0
            have t1 : decide ((j : Int) < (sy : Int)) = true := by rw [decide_eq_true_eq]; omega
            have t2 : decide (j < sy) = true := by rw [decide_eq_true_eq]; omega
            have t5 : (j : Int) < (mg : Int) := by have := HLT.out; omega
            have t6 : j < mg := by have := HLT.out; omega
            have HJL : Hid (j < sy) := hj
            have hwj := w64n j (by have := HSY2.out; have := HLT.out; have := HJL.out; omega)
            clear hj
            by_cases g1 : x < -1
            · have s1 : decide (x < -1) = true := by simpa using g1
              have HRF : Hid (R = false) := HSF.out (by unfold gok; rw [decide_eq_false (by omega)]; rfl)
              clear g1
              go_wp2_with fail
              go_ret
              exact ⟨by rw [HRF.out]; rfl, HBW.out⟩
            · have s1 : decide (x < -1) = false := by simpa using g1
              by_cases g2' : (n : Int) ≤ x
              · have s2 : decide ((n : Int) ≤ x) = true := by simpa using g2'
                have HRF : Hid (R = false) := HSF.out (by unfold gok; rw [decide_eq_false (p := x < (n : Int)) (by omega)]; simp)
                clear g1 g2'
                go_wp2_with fail
                go_ret
                exact ⟨by rw [HRF.out]; rfl, HBW.out⟩
              · have s2 : decide ((n : Int) ≤ x) = false := by simpa using g2'
                have HAJ : Hid ((lg.take (j + 1)).all (gok n) = true) := HST.out (by unfold gok; rw [decide_eq_true (p := -1 ≤ x) (by omega), decide_eq_true (p := x < (n : Int)) (by omega)]; rfl)
                clear g1 g2'
                go_wp2_with fail
                go_roundg (sy - (j + 1))
                case measure => have := HJ.out; have := HJL.out; omega
                case rel => exact ⟨j + 1, by first | rfl | (rw [show (j : Int) + 1 = ((j + 1 : Nat) : Int) by omega]), HBW, ⟨HJL.out, rfl⟩, HX, HAJ⟩
          · have t1 : decide ((j : Int) < (sy : Int)) = false := by rw [decide_eq_false_iff_not]; omega
            have t2 : decide (j < sy) = false := by rw [decide_eq_false_iff_not]; omega
            have HOK2 : Hid (∀ j, j < i + 1 → rok n tk sy ((A.map Prod.snd).getD j []) ((G.map Prod.snd).getD j []) = true) := HYE.out (rok_e (HMA.out.trans HLT.out.1) (HMG.out.trans HLT.out.2) HAA.out (all_end (by rw [HMG.out]; have := HLT.out; omega) HAL.out))
            clear hj
            go_wp2_with fail
            go_roundg (n - (i + 1))
            case measure => have := HI.out; have := HIL.out; omega
            case rel => exact ⟨i + 1, by first | rfl | (rw [show (i : Int) + 1 = ((i + 1 : Nat) : Int) by omega]), HBW, ⟨HIL.out, rfl⟩, HX, HOK2⟩
end Go.Proofs.Ythlbajkbpceglaa
