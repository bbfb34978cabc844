import Derived.Test.YtkaciochlemjiaaPad
namespace Go.Proofs.Ytkaciochlemjiaa
open Go.RowKit Go.Maps

set_option maxRecDepth 100000 in
set_option maxHeartbeats 16000000 in
theorem statePairs_any {vi vq vf : Value} {s : Stt} (n : Int) (m : ByteArray) (w : World) (h : Stm w vi vq vf s) (hf : s.flg < 65536) (hm : m.size ≤ 4611686018427387904) :
    Calls Try.prog 8 #[sv vi vq vf s, .int .i64 n, .string m] w fun e w' => e = .returned (.bool true) ∧ Below w.heap.size w w' := by
  obtain ⟨a1, c1, a2, c2, a3, c3, rfl, rfl, rfl⟩ := h.form
  obtain ⟨W1, hW1⟩ : ∃ W1, W1 = w.alloc (.cells #[.slice a1 s.ind.length c1, .int .i64 s.pen, .slice a2 s.que.length c2, .slice a3 s.frm.length c3, .int .u16 (s.flg : Int)] 27) := ⟨_, rfl⟩
  have B1 : Hid (Below w.heap.size w W1) := by rw [hW1]; exact bel_up _ _
  have X1 : Hid (Bst W1 w.heap.size (.slice a1 s.ind.length c1) (.slice a2 s.que.length c2) (.slice a3 s.frm.length c3) s) := by rw [hW1]; exact Bst.new h
  have HW : Hid (W1 = w.alloc (.cells #[.slice a1 s.ind.length c1, .int .i64 s.pen, .slice a2 s.que.length c2, .slice a3 s.frm.length c3, .int .u16 (s.flg : Int)] 27)) := hW1
  have HF : Hid (s.flg < 65536) := hf
  have HM : Hid (m.size ≤ 4611686018427387904) := hm
  clear h hf hm hW1
  go_enter Try.func8, Try.ntmps8
  go_upto_region 1 with fail
  rw [← HW.out]
  go_wp2_with fail
  refine (alive_any W1).mono ?_
  rintro e w2 ⟨rfl, hb2⟩
  have B2 : Hid (Below w.heap.size w w2) := below_trans B1.out hb2
  have X2 : Hid (Bst w2 w.heap.size (.slice a1 s.ind.length c1) (.slice a2 s.que.length c2) (.slice a3 s.frm.length c3) s) := X1.out.up hb2
  clear hb2
  obtain ⟨k0, k1, k2, k3, k4⟩ := X2.out.cells
  go_wp2_with fail
  refine (shaped_any w2 X2.out.stm).mono ?_
  rintro e w3 ⟨rfl, hb3⟩
  have B3 : Hid (Below w.heap.size w w3) := below_trans B2.out hb3
  have X3 : Hid (Bst w3 w.heap.size (.slice a1 s.ind.length c1) (.slice a2 s.que.length c2) (.slice a3 s.frm.length c3) s) := X2.out.up hb3
  clear hb3 k0 k1 k2 k3 k4
  cases hs : s.shp with
  | false =>
    go_wp2_with fail
    go_ret
    exact ⟨rfl, B3.out⟩
  | true =>
  have HS : Hid (s.shp = true) := hs
  have HL : Hid (s.ind.length ≤ 32 ∧ s.que.length ≤ 8 ∧ s.frm.length ≤ 16) := shp_small hs
  clear hs
  obtain ⟨k0, k1, k2, k3, k4⟩ := X3.out.cells
  go_wp2_with fail
  refine (doo_any 2 0 0 m w3 X3.out.stm HF.out HM.out).mono ?_
  rintro e v10 has
  obtain ⟨t10, i10, q10, f10, c10, rfl, hst, hb, hrr⟩ := act_one HS.out has
  have R10 : Hid _ := hrr
  obtain ⟨ia10, ic10, qa10, qc10, fa10, fc10, rfl, rfl, rfl⟩ := hst.form
  obtain ⟨W10, hW10⟩ : ∃ W10, W10 = v10.alloc (.cells #[.slice ia10 t10.ind.length ic10, .int .i64 t10.pen, .slice qa10 t10.que.length qc10, .slice fa10 t10.frm.length fc10, .int .u16 (t10.flg : Int)] 27) := ⟨_, rfl⟩
  have U10 : Hid (Below w3.heap.size w3 W10) := by rw [hW10]; exact below_trans hb (bel_up _ _)
  have T10 : Hid (Bst W10 v10.heap.size (.slice ia10 t10.ind.length ic10) (.slice qa10 t10.que.length qc10) (.slice fa10 t10.frm.length fc10) t10) := by rw [hW10]; exact Bst.new hst
  have X10 : Hid (Bst W10 w.heap.size (.slice a1 s.ind.length c1) (.slice a2 s.que.length c2) (.slice a3 s.frm.length c3) s) := X3.out.up U10.out
  have B10 : Hid (Below w.heap.size w W10) := below_trans B3.out U10.out
  have HW10 : Hid _ := hW10
  clear has hst hb hrr hW10 k0 k1 k2 k3 k4
  go_upto_region 7 with fail
  rw [← HW10.out]
  go_upto_if 52 with fail
  go_cut [] from 51 (fun wr => Hid (Bst wr w.heap.size (.slice a1 s.ind.length c1) (.slice a2 s.que.length c2) (.slice a3 s.frm.length c3) s) ∧ Hid (Below w.heap.size w wr))
  case first =>
    rcases R10.out with ⟨hr, hc⟩ | ⟨_, hc⟩
    rotate_left
    · have e0 : (c10 == 0) = false := by rw [beq_eq_false_iff_ne]; exact hc
      clear hc
      go_wp2_with fail
      go_meet
      exact ⟨X10, B10⟩
    subst hc
    have P4 : Hid (act t10 4 0 0 m = .ok { s with pen := -1 }) := pair_ind s t10 m hr
    have HT : Hid (t10.shp = true ∧ t10.flg < 65536) := ⟨(act_ok s 2 0 0 m HS.out).1 t10 hr, act_flg s 2 0 0 m HF.out t10 hr⟩
    clear hr R10
    obtain ⟨k0, k1, k2, k3, k4⟩ := T10.out.cells
    go_wp2_with fail
    refine (doo_any 4 0 0 m W10 T10.out.stm HT.out.2 HM.out).mono ?_
    rintro e v11 has
    obtain ⟨t11, i11, q11, f11, c11, rfl, hst, hb, hrr⟩ := act_one HT.out.1 has
    have R11 : Hid _ := hrr
    obtain ⟨ia11, ic11, qa11, qc11, fa11, fc11, rfl, rfl, rfl⟩ := hst.form
    obtain ⟨W11, hW11⟩ : ∃ W11, W11 = v11.alloc (.cells #[.slice ia11 t11.ind.length ic11, .int .i64 t11.pen, .slice qa11 t11.que.length qc11, .slice fa11 t11.frm.length fc11, .int .u16 (t11.flg : Int)] 27) := ⟨_, rfl⟩
    have U11 : Hid (Below W10.heap.size W10 W11) := by rw [hW11]; exact below_trans hb (bel_up _ _)
    have T11 : Hid (Bst W11 v11.heap.size (.slice ia11 t11.ind.length ic11) (.slice qa11 t11.que.length qc11) (.slice fa11 t11.frm.length fc11) t11) := by rw [hW11]; exact Bst.new hst
    have X11 : Hid (Bst W11 w.heap.size (.slice a1 s.ind.length c1) (.slice a2 s.que.length c2) (.slice a3 s.frm.length c3) s) := X10.out.up U11.out
    have B11 : Hid (Below w.heap.size w W11) := below_trans B10.out U11.out
    have HW11 : Hid _ := hW11
    clear has hst hb hrr hW11 k0 k1 k2 k3 k4
    go_upto_region 9 with fail
    rw [← HW11.out]
    have ht : t11 = { s with pen := -1 } ∧ c11 = 0 := by
      rcases R11.out with ⟨h, h0⟩ | ⟨h, _⟩
      · rw [P4.out] at h; cases h; exact ⟨rfl, h0⟩
      · rw [P4.out] at h; cases h
    obtain ⟨ht, hc⟩ := ht
    subst hc
    have HT11 : Hid (t11 = { s with pen := -1 }) := ht
    clear ht R11
    obtain ⟨k0, k1, k2, k3, k4⟩ := X11.out.cells
    go_wp2_with fail
    refine (twin_any W11 X11.out.stm (by have := HL.out; omega) (by have := HL.out; omega) (by have := HL.out; omega)).mono ?_
    rintro e v12 ⟨i12, q12, f12, rfl, ho, hb⟩
    clear k0 k1 k2 k3 k4
    obtain ⟨ia12, ic12, qa12, qc12, fa12, fc12, rfl, rfl, rfl⟩ := ho.stm.form
    obtain ⟨W12, hW12⟩ : ∃ W12, W12 = v12.alloc (.cells #[.slice ia12 s.ind.length ic12, .int .i64 (-1), .slice qa12 s.que.length qc12, .slice fa12 s.frm.length fc12, .int .u16 (s.flg : Int)] 27) := ⟨_, rfl⟩
    have U12 : Hid (Below W11.heap.size W11 W12) := by rw [hW12]; exact below_trans hb (bel_up _ _)
    have T12 : Hid (Bst W12 v12.heap.size (.slice ia12 s.ind.length ic12) (.slice qa12 s.que.length qc12) (.slice fa12 s.frm.length fc12) { s with pen := -1 }) := by rw [hW12]; exact Bst.new (s := { s with pen := -1 }) ⟨ho.stm.i, ho.stm.q, ho.stm.f⟩
    have X12 : Hid (Bst W12 w.heap.size (.slice a1 s.ind.length c1) (.slice a2 s.que.length c2) (.slice a3 s.frm.length c3) s) := X11.out.up U12.out
    have B12 : Hid (Below w.heap.size w W12) := below_trans B11.out U12.out
    have HW12 : Hid _ := hW12
    have T13 : Hid (Bst W12 v11.heap.size (.slice ia11 t11.ind.length ic11) (.slice qa11 t11.que.length qc11) (.slice fa11 t11.frm.length fc11) t11) := T11.out.up U12.out
    clear ho hb hW12
    go_upto_region 11 with fail
    rw [← HW12.out]
    rw [HT11.out] at T13
    obtain ⟨k0, k1, k2, k3, k4⟩ := T13.out.cells
    obtain ⟨j0, j1, j2, j3, j4⟩ := T12.out.cells
    go_wp2_with fail
    refine (rsame_yes (s := { s with pen := -1 }) W12 T13.out.stm T12.out.stm ⟨by have := HL.out; show s.ind.length ≤ _; omega, by have := HL.out; show s.que.length ≤ _; omega, by have := HL.out; show s.frm.length ≤ _; omega⟩).mono ?_
    rintro e v13 ⟨rfl, hb⟩
    have X13 : Hid (Bst v13 w.heap.size (.slice a1 s.ind.length c1) (.slice a2 s.que.length c2) (.slice a3 s.frm.length c3) s) := X12.out.up hb
    have B13 : Hid (Below w.heap.size w v13) := below_trans B12.out hb
    clear hb k0 k1 k2 k3 k4 j0 j1 j2 j3 j4
    go_wp2_with fail
    go_meet
    exact ⟨X13, B13⟩
  case rest =>
  obtain ⟨X20, B20⟩ := hcut
  clear X1 X2 X3 B1 B2 B3 X10 B10 T10 R10 U10 HW10
  obtain ⟨k0, k1, k2, k3, k4⟩ := X20.out.cells
  go_wp2_with fail
  refine (doo_any 7 n 3 m wc X20.out.stm HF.out HM.out).mono ?_
  rintro e v21 has
  obtain ⟨t21, i21, q21, f21, c21, rfl, hst, hb, hrr⟩ := act_one HS.out has
  have R21 : Hid _ := hrr
  obtain ⟨ia21, ic21, qa21, qc21, fa21, fc21, rfl, rfl, rfl⟩ := hst.form
  obtain ⟨W21, hW21⟩ : ∃ W21, W21 = v21.alloc (.cells #[.slice ia21 t21.ind.length ic21, .int .i64 t21.pen, .slice qa21 t21.que.length qc21, .slice fa21 t21.frm.length fc21, .int .u16 (t21.flg : Int)] 27) := ⟨_, rfl⟩
  have U21 : Hid (Below wc.heap.size wc W21) := by rw [hW21]; exact below_trans hb (bel_up _ _)
  have T21 : Hid (Bst W21 v21.heap.size (.slice ia21 t21.ind.length ic21) (.slice qa21 t21.que.length qc21) (.slice fa21 t21.frm.length fc21) t21) := by rw [hW21]; exact Bst.new hst
  have X21 : Hid (Bst W21 w.heap.size (.slice a1 s.ind.length c1) (.slice a2 s.que.length c2) (.slice a3 s.frm.length c3) s) := X20.out.up U21.out
  have B21 : Hid (Below w.heap.size w W21) := below_trans B20.out U21.out
  have HW21 : Hid _ := hW21
  clear has hst hb hrr hW21 k0 k1 k2 k3 k4
  go_upto_region 15 with fail
  rw [← HW21.out]
  go_upto_if 81 with fail
  go_cut [] from 80 (fun wr => Hid (Bst wr w.heap.size (.slice a1 s.ind.length c1) (.slice a2 s.que.length c2) (.slice a3 s.frm.length c3) s) ∧ Hid (Below w.heap.size w wr))
  case first =>
    rcases R21.out with ⟨hr, hc⟩ | ⟨_, hc⟩
    rotate_left
    · have e0 : (c21 == 0) = false := by rw [beq_eq_false_iff_ne]; exact hc
      clear hc
      go_wp2_with fail
      go_meet
      exact ⟨X21, B21⟩
    subst hc
    obtain ⟨hp8, dd, hfr⟩ := pair_frm s t21 n m hr
    have P8 : Hid (act t21 8 0 0 m = .ok s) := hp8
    have HFR : Hid (t21.frm = s.frm ++ [(3, dd)]) := hfr
    have HT : Hid (t21.shp = true ∧ t21.flg < 65536) := ⟨(act_ok s 7 n 3 m HS.out).1 t21 hr, act_flg s 7 n 3 m HF.out t21 hr⟩
    clear hr R21 hp8 hfr
    obtain ⟨k0, k1, k2, k3, k4⟩ := T21.out.cells
    go_wp2_with fail
    refine (doo_any 8 0 0 m W21 T21.out.stm HT.out.2 HM.out).mono ?_
    rintro e v22 has
    obtain ⟨t22, i22, q22, f22, c22, rfl, hst, hb, hrr⟩ := act_one HT.out.1 has
    have R22 : Hid _ := hrr
    obtain ⟨ia22, ic22, qa22, qc22, fa22, fc22, rfl, rfl, rfl⟩ := hst.form
    obtain ⟨W22, hW22⟩ : ∃ W22, W22 = v22.alloc (.cells #[.slice ia22 t22.ind.length ic22, .int .i64 t22.pen, .slice qa22 t22.que.length qc22, .slice fa22 t22.frm.length fc22, .int .u16 (t22.flg : Int)] 27) := ⟨_, rfl⟩
    have U22 : Hid (Below W21.heap.size W21 W22) := by rw [hW22]; exact below_trans hb (bel_up _ _)
    have T22 : Hid (Bst W22 v22.heap.size (.slice ia22 t22.ind.length ic22) (.slice qa22 t22.que.length qc22) (.slice fa22 t22.frm.length fc22) t22) := by rw [hW22]; exact Bst.new hst
    have X22 : Hid (Bst W22 w.heap.size (.slice a1 s.ind.length c1) (.slice a2 s.que.length c2) (.slice a3 s.frm.length c3) s) := X21.out.up U22.out
    have B22 : Hid (Below w.heap.size w W22) := below_trans B21.out U22.out
    have HW22 : Hid _ := hW22
    clear has hst hb hrr hW22 k0 k1 k2 k3 k4
    go_upto_region 17 with fail
    rw [← HW22.out]
    have ht : t22 = s ∧ c22 = 0 := by
      rcases R22.out with ⟨h, h0⟩ | ⟨h, _⟩
      · rw [P8.out] at h; cases h; exact ⟨rfl, h0⟩
      · rw [P8.out] at h; cases h
    obtain ⟨ht, hc⟩ := ht
    subst hc
    have HT22 : Hid (t22 = s) := ht
    clear ht R22
    rw [HT22.out] at T22
    obtain ⟨k0, k1, k2, k3, k4⟩ := T22.out.cells
    obtain ⟨j0, j1, j2, j3, j4⟩ := X22.out.cells
    go_wp2_with fail
    refine (rsame_yes W22 T22.out.stm X22.out.stm ⟨by have := HL.out; show s.ind.length ≤ _; omega, by have := HL.out; show s.que.length ≤ _; omega, by have := HL.out; show s.frm.length ≤ _; omega⟩).mono ?_
    rintro e v23 ⟨rfl, hb⟩
    have X23 : Hid (Bst v23 w.heap.size (.slice a1 s.ind.length c1) (.slice a2 s.que.length c2) (.slice a3 s.frm.length c3) s) := X22.out.up hb
    have B23 : Hid (Below w.heap.size w v23) := below_trans B22.out hb
    have T23 : Hid (Bst v23 v21.heap.size (.slice ia21 t21.ind.length ic21) (.slice qa21 t21.que.length qc21) (.slice fa21 t21.frm.length fc21) t21) := (T21.out.up U22.out).up hb
    clear hb k0 k1 k2 k3 k4 j0 j1 j2 j3 j4
    have hlen : t21.frm.length = s.frm.length + 1 := by rw [HFR.out, List.length_append]; rfl
    have HLN : Hid _ := hlen
    obtain ⟨ga, gb, go_, gc, f1, -, -, f2, f3⟩ := T23.out.stm.f
    obtain ⟨rfl, -, rfl⟩ := Value.slice.inj f1
    obtain rfl := f2 (by omega)
    have cm := f3 (s.frm.length * 2) _ (fC_get t21.frm s.frm.length (by omega)).1
    have hge : t21.frm.getD s.frm.length (0, ⟨#[]⟩) = (3, dd) := by rw [HFR.out]; simp
    rw [hge] at cm
    obtain ⟨k0, k1, k2, k3, k4⟩ := T23.out.cells
    obtain ⟨j0, j1, j2, j3, j4⟩ := X23.out.cells
    have g1 : IntKind.i64.wrap ((s.frm.length : Int) + 1) = ((s.frm.length + 1 : Nat) : Int) := by rw [IntKind.wrap_i64]; have := HL.out; omega
    have g2 : ((t21.frm.length : Int) != ((s.frm.length + 1 : Nat) : Int)) = false := by rw [bne_eq_false_iff_eq]; omega
    have g4 : ((t21.frm.length : Int) != (s.frm.length : Int) + 1) = false := by rw [bne_eq_false_iff_eq]; omega
    have g3 : (s.frm.length : Int) < (t21.frm.length : Int) := by omega
    clear f1 f2 f3 hge hlen
    go_wp2_with fail
    go_meet
    exact ⟨X23, B23⟩
  case rest =>
  obtain ⟨X30, B30⟩ := hcut
  clear X20 B20 X21 B21 T21 R21 U21 HW21
  obtain ⟨k0, k1, k2, k3, k4⟩ := X30.out.cells
  go_wp2_with fail
  refine (doo_any 5 n 0 m wc X30.out.stm HF.out HM.out).mono ?_
  rintro e v31 has
  obtain ⟨t31, i31, q31, f31, c31, rfl, hst, hb, hrr⟩ := act_one HS.out has
  have R31 : Hid _ := hrr
  obtain ⟨ia31, ic31, qa31, qc31, fa31, fc31, rfl, rfl, rfl⟩ := hst.form
  obtain ⟨W31, hW31⟩ : ∃ W31, W31 = v31.alloc (.cells #[.slice ia31 t31.ind.length ic31, .int .i64 t31.pen, .slice qa31 t31.que.length qc31, .slice fa31 t31.frm.length fc31, .int .u16 (t31.flg : Int)] 27) := ⟨_, rfl⟩
  have U31 : Hid (Below wc.heap.size wc W31) := by rw [hW31]; exact below_trans hb (bel_up _ _)
  have T31 : Hid (Bst W31 v31.heap.size (.slice ia31 t31.ind.length ic31) (.slice qa31 t31.que.length qc31) (.slice fa31 t31.frm.length fc31) t31) := by rw [hW31]; exact Bst.new hst
  have X31 : Hid (Bst W31 w.heap.size (.slice a1 s.ind.length c1) (.slice a2 s.que.length c2) (.slice a3 s.frm.length c3) s) := X30.out.up U31.out
  have B31 : Hid (Below w.heap.size w W31) := below_trans B30.out U31.out
  have HW31 : Hid _ := hW31
  clear has hst hb hrr hW31 k0 k1 k2 k3 k4
  go_upto_region 21 with fail
  rw [← HW31.out]
  obtain ⟨j0, j1, j2, j3, j4⟩ := X31.out.cells
  go_cut [134] from 127 (fun v wr => (∃ b, v = .bool b ∧ (b = true → c31 = 0 ∧ s.que.length = 0)) ∧ wr = W31)
  case first =>
    by_cases hc : c31 = 0
    · have e0 : (c31 == 0) = true := by rw [beq_iff_eq]; exact hc
      have HC0 : Hid (c31 = 0) := hc
      clear hc
      by_cases hq : s.que.length = 0
      · have e1 : ((s.que.length : Int) == 0) = true := by rw [beq_iff_eq]; omega
        have e2 : (s.que.length == 0) = true := by rw [beq_iff_eq]; exact hq
        have HQ0 : Hid (s.que.length = 0) := hq
        clear hq
        go_wp2_with fail
        go_meet
        exact ⟨⟨true, rfl, fun _ => ⟨HC0.out, HQ0.out⟩⟩, rfl⟩
      · have e1 : ((s.que.length : Int) == 0) = false := by rw [beq_eq_false_iff_ne]; omega
        have e2 : (s.que.length == 0) = false := by rw [beq_eq_false_iff_ne]; exact hq
        clear hq
        go_wp2_with fail
        go_meet
        exact ⟨⟨false, rfl, fun h => by cases h⟩, rfl⟩
    · have e0 : (c31 == 0) = false := by rw [beq_eq_false_iff_ne]; exact hc
      clear hc
      go_wp2_with fail
      go_meet
      exact ⟨⟨false, rfl, fun h => by cases h⟩, rfl⟩
  case rest =>
  obtain ⟨⟨bq, rfl, hbq⟩, rfl⟩ := hcut
  have HBQ : Hid _ := hbq
  clear hbq j0 j1 j2 j3 j4
  go_upto_if 134 with fail
  go_cut [] from 135 (fun wr => Hid (Bst wr w.heap.size (.slice a1 s.ind.length c1) (.slice a2 s.que.length c2) (.slice a3 s.frm.length c3) s) ∧ Hid (Below w.heap.size w wr))
  case first =>
    cases bq with
    | false =>
      go_wp2_with fail
      go_meet
      exact ⟨X31, B31⟩
    | true =>
    obtain ⟨hc, hq⟩ := HBQ.out rfl
    have hr : act s 5 n 0 m = .ok t31 := by
      rcases R31.out with ⟨h, _⟩ | ⟨_, h⟩
      · exact h
      · exact absurd hc h
    have P6 : Hid (act t31 6 0 0 m = .ok s) := pair_que s t31 n m hr hq
    have HT : Hid (t31.shp = true ∧ t31.flg < 65536) := ⟨(act_ok s 5 n 0 m HS.out).1 t31 hr, act_flg s 5 n 0 m HF.out t31 hr⟩
    clear hr R31 hc hq HBQ
    obtain ⟨k0, k1, k2, k3, k4⟩ := T31.out.cells
    go_wp2_with fail
    refine (doo_any 6 0 0 m wc T31.out.stm HT.out.2 HM.out).mono ?_
    rintro e v32 has
    obtain ⟨t32, i32, q32, f32, c32, rfl, hst, hb, hrr⟩ := act_one HT.out.1 has
    have R32 : Hid _ := hrr
    obtain ⟨ia32, ic32, qa32, qc32, fa32, fc32, rfl, rfl, rfl⟩ := hst.form
    obtain ⟨W32, hW32⟩ : ∃ W32, W32 = v32.alloc (.cells #[.slice ia32 t32.ind.length ic32, .int .i64 t32.pen, .slice qa32 t32.que.length qc32, .slice fa32 t32.frm.length fc32, .int .u16 (t32.flg : Int)] 27) := ⟨_, rfl⟩
    have U32 : Hid (Below wc.heap.size wc W32) := by rw [hW32]; exact below_trans hb (bel_up _ _)
    have T32 : Hid (Bst W32 v32.heap.size (.slice ia32 t32.ind.length ic32) (.slice qa32 t32.que.length qc32) (.slice fa32 t32.frm.length fc32) t32) := by rw [hW32]; exact Bst.new hst
    have X32 : Hid (Bst W32 w.heap.size (.slice a1 s.ind.length c1) (.slice a2 s.que.length c2) (.slice a3 s.frm.length c3) s) := X31.out.up U32.out
    have B32 : Hid (Below w.heap.size w W32) := below_trans B31.out U32.out
    have HW32 : Hid _ := hW32
    clear has hst hb hrr hW32 k0 k1 k2 k3 k4
    go_upto_region 23 with fail
    rw [← HW32.out]
    have ht : t32 = s ∧ c32 = 0 := by
      rcases R32.out with ⟨h, h0⟩ | ⟨h, _⟩
      · rw [P6.out] at h; cases h; exact ⟨rfl, h0⟩
      · rw [P6.out] at h; cases h
    obtain ⟨ht, hc⟩ := ht
    subst hc
    have HT32 : Hid (t32 = s) := ht
    clear ht R32
    rw [HT32.out] at T32
    obtain ⟨k0, k1, k2, k3, k4⟩ := T32.out.cells
    obtain ⟨j0, j1, j2, j3, j4⟩ := X32.out.cells
    go_wp2_with fail
    refine (rsame_yes W32 T32.out.stm X32.out.stm ⟨by have := HL.out; show s.ind.length ≤ _; omega, by have := HL.out; show s.que.length ≤ _; omega, by have := HL.out; show s.frm.length ≤ _; omega⟩).mono ?_
    rintro e v33 ⟨rfl, hb⟩
    have X33 : Hid (Bst v33 w.heap.size (.slice a1 s.ind.length c1) (.slice a2 s.que.length c2) (.slice a3 s.frm.length c3) s) := X32.out.up hb
    have B33 : Hid (Below w.heap.size w v33) := below_trans B32.out hb
    clear hb k0 k1 k2 k3 k4 j0 j1 j2 j3 j4
    go_wp2_with fail
    go_meet
    exact ⟨X33, B33⟩
  case rest =>
  obtain ⟨X40, B40⟩ := hcut
  clear X30 B30 X31 B31 T31 R31 U31 HW31 HBQ
  by_cases hn : n < 0
  · have e0 : decide (n < 0) = true := by rw [decide_eq_true_eq]; exact hn
    have P9 : Hid (act s 9 n 0 m = .error 66) := by
      show aTurn s n true = _
      unfold aTurn
      rw [if_pos (by omega)]
    clear hn
    obtain ⟨k0, k1, k2, k3, k4⟩ := X40.out.cells
    go_wp2_with fail
    refine (doo_any 9 n 0 m wc X40.out.stm HF.out HM.out).mono ?_
    rintro e v41 has
    obtain ⟨t41, i41, q41, f41, c41, rfl, hst, hb, hrr⟩ := act_one HS.out has
    have R41 : Hid _ := hrr
    obtain ⟨ia41, ic41, qa41, qc41, fa41, fc41, rfl, rfl, rfl⟩ := hst.form
    obtain ⟨W41, hW41⟩ : ∃ W41, W41 = v41.alloc (.cells #[.slice ia41 t41.ind.length ic41, .int .i64 t41.pen, .slice qa41 t41.que.length qc41, .slice fa41 t41.frm.length fc41, .int .u16 (t41.flg : Int)] 27) := ⟨_, rfl⟩
    have U41 : Hid (Below wc.heap.size wc W41) := by rw [hW41]; exact below_trans hb (bel_up _ _)
    have T41 : Hid (Bst W41 v41.heap.size (.slice ia41 t41.ind.length ic41) (.slice qa41 t41.que.length qc41) (.slice fa41 t41.frm.length fc41) t41) := by rw [hW41]; exact Bst.new hst
    have X41 : Hid (Bst W41 w.heap.size (.slice a1 s.ind.length c1) (.slice a2 s.que.length c2) (.slice a3 s.frm.length c3) s) := X40.out.up U41.out
    have B41 : Hid (Below w.heap.size w W41) := below_trans B40.out U41.out
    have HW41 : Hid _ := hW41
    clear has hst hb hrr hW41 k0 k1 k2 k3 k4
    go_upto_region 28 with fail
    rw [← HW41.out]
    have hc : c41 = 66 := by
      rcases R41.out with ⟨h, _⟩ | ⟨h, _⟩
      · rw [P9.out] at h; cases h
      · rw [P9.out] at h; cases h; rfl
    subst hc
    go_wp2_with fail
    go_ret
    exact ⟨rfl, B41.out⟩
  have e0 : decide (n < 0) = false := by rw [decide_eq_false_iff_not]; exact hn
  by_cases hn2 : 15 < n
  · have e1 : decide (15 < n) = true := by rw [decide_eq_true_eq]; exact hn2
    have P9 : Hid (act s 9 n 0 m = .error 66) := by
      show aTurn s n true = _
      unfold aTurn
      rw [if_pos (by omega)]
    clear hn hn2
    obtain ⟨k0, k1, k2, k3, k4⟩ := X40.out.cells
    go_wp2_with fail
    refine (doo_any 9 n 0 m wc X40.out.stm HF.out HM.out).mono ?_
    rintro e v41 has
    obtain ⟨t41, i41, q41, f41, c41, rfl, hst, hb, hrr⟩ := act_one HS.out has
    have R41 : Hid _ := hrr
    obtain ⟨ia41, ic41, qa41, qc41, fa41, fc41, rfl, rfl, rfl⟩ := hst.form
    obtain ⟨W41, hW41⟩ : ∃ W41, W41 = v41.alloc (.cells #[.slice ia41 t41.ind.length ic41, .int .i64 t41.pen, .slice qa41 t41.que.length qc41, .slice fa41 t41.frm.length fc41, .int .u16 (t41.flg : Int)] 27) := ⟨_, rfl⟩
    have U41 : Hid (Below wc.heap.size wc W41) := by rw [hW41]; exact below_trans hb (bel_up _ _)
    have T41 : Hid (Bst W41 v41.heap.size (.slice ia41 t41.ind.length ic41) (.slice qa41 t41.que.length qc41) (.slice fa41 t41.frm.length fc41) t41) := by rw [hW41]; exact Bst.new hst
    have X41 : Hid (Bst W41 w.heap.size (.slice a1 s.ind.length c1) (.slice a2 s.que.length c2) (.slice a3 s.frm.length c3) s) := X40.out.up U41.out
    have B41 : Hid (Below w.heap.size w W41) := below_trans B40.out U41.out
    have HW41 : Hid _ := hW41
    clear has hst hb hrr hW41 k0 k1 k2 k3 k4
    go_upto_region 28 with fail
    rw [← HW41.out]
    have hc : c41 = 66 := by
      rcases R41.out with ⟨h, _⟩ | ⟨h, _⟩
      · rw [P9.out] at h; cases h
      · rw [P9.out] at h; cases h; rfl
    subst hc
    go_wp2_with fail
    go_ret
    exact ⟨rfl, B41.out⟩
  have e1 : decide (15 < n) = false := by rw [decide_eq_false_iff_not]; exact hn2
  obtain ⟨k, rfl⟩ : ∃ k : Nat, n = (k : Int) := ⟨n.toNat, by omega⟩
  have hk : k < 16 := by omega
  have HK : Hid (k < 16) := hk
  obtain ⟨o1, o2, o3, o4, o5, o6⟩ := flags s k HF.out hk
  have P1 : Hid (acts m s [(9, (k : Int), 0), (9, (k : Int), 0)] = .ok { s with flg := s.flg ||| 2 ^ k }) := acts_on s k m hk HF.out
  have P2 : Hid (act s 9 k 0 m = .ok { s with flg := s.flg ||| 2 ^ k }) := act_on s k m hk
  have P3 : Hid (acts m s [(9, (k : Int), 0), (10, (k : Int), 0)] = .ok { s with flg := s.flg &&& (65535 - 2 ^ k) }) := acts_off s k m hk HF.out
  have P4 : Hid (act s 10 k 0 m = .ok { s with flg := s.flg &&& (65535 - 2 ^ k) }) := act_off s k m hk
  have O1 : Hid (s.flg ||| 2 ^ k < 65536) := o1
  have O2 : Hid (s.flg &&& (65535 - 2 ^ k) < 65536) := o2
  have O3 : Hid (hld { s with flg := s.flg ||| 2 ^ k } 5 k false = true) := o3
  have O4 : Hid (hld { s with flg := s.flg &&& (65535 - 2 ^ k) } 6 k false = true) := o4
  clear hn hn2 hk o1 o2 o3 o4 o5 o6
  obtain ⟨fo, hfo⟩ : ∃ fo, s.flg ||| 2 ^ k = fo := ⟨_, rfl⟩
  obtain ⟨ff, hff⟩ : ∃ ff, s.flg &&& (65535 - 2 ^ k) = ff := ⟨_, rfl⟩
  rw [hfo] at P1 P2 O1 O3
  rw [hff] at P3 P4 O2 O4
  clear hfo hff
  obtain ⟨V50, hV50⟩ : ∃ V50, V50 = wc.alloc (.cells #[.int .i64 9, .int .i64 (k : Int), .int .i64 0, .int .i64 9, .int .i64 (k : Int), .int .i64 0] 52) := ⟨_, rfl⟩
  have UV50 : Hid (Below wc.heap.size wc V50) := by rw [hV50]; exact bel_up _ _
  have HV50 : Hid (V50 = wc.alloc (.cells #[.int .i64 9, .int .i64 (k : Int), .int .i64 0, .int .i64 9, .int .i64 (k : Int), .int .i64 0] 52)) := hV50
  have CA50 : Hid (Calls Try.prog 28 #[sv (.slice a1 s.ind.length c1) (.slice a2 s.que.length c2) (.slice a3 s.frm.length c3) s, .slice (some ⟨wc.heap.size, 0, none⟩) 2 2, .string m] V50 fun e w' => As V50 (.ok { s with flg := fo }) e w') := by
    have := all_any (l := [(9, (k : Int), 0), (9, (k : Int), 0)]) (va := .slice (some ⟨wc.heap.size, 0, none⟩) 2 2) m V50 (X40.out.up UV50.out).stm HF.out ⟨_, wc.heap.size, 0, 2, rfl, Nat.le_refl 2, fun h => (by cases h), fun _ => rfl, fun j u hu => by
      rw [hV50, Nat.zero_add, Lib.cell_of_heap (heap_new wc _)]
      simpa [aC] using hu⟩ (by simp) HM.out
    rw [HS.out, if_pos rfl, P1.out] at this
    exact this
  clear hV50
  obtain ⟨k0, k1, k2, k3, k4⟩ := X40.out.cells
  go_wp2_with fail
  rw [← HV50.out]
  refine Calls.mono CA50.out ?_
  rintro e v50 has
  obtain ⟨i50, q50, f50, rfl, hst, hb⟩ := As.good has
  obtain ⟨ia50, ic50, qa50, qc50, fa50, fc50, rfl, rfl, rfl⟩ := hst.form
  obtain ⟨W50, hW50⟩ : ∃ W50, W50 = v50.alloc (.cells #[.slice ia50 s.ind.length ic50, .int .i64 s.pen, .slice qa50 s.que.length qc50, .slice fa50 s.frm.length fc50, .int .u16 (fo : Int)] 27) := ⟨_, rfl⟩
  have U50 : Hid (Below wc.heap.size wc W50) := by rw [hW50]; exact below_trans (below_trans UV50.out hb) (bel_up _ _)
  have T50 : Hid (Bst W50 v50.heap.size (.slice ia50 s.ind.length ic50) (.slice qa50 s.que.length qc50) (.slice fa50 s.frm.length fc50) { s with flg := fo }) := by rw [hW50]; exact Bst.new (s := { s with flg := fo }) hst
  have X50 : Hid (Bst W50 w.heap.size (.slice a1 s.ind.length c1) (.slice a2 s.que.length c2) (.slice a3 s.frm.length c3) s) := X40.out.up U50.out
  have B50 : Hid (Below w.heap.size w W50) := below_trans B40.out U50.out
  have HW50 : Hid _ := hW50
  clear has hst hb hW50 k0 k1 k2 k3 k4
  clear CA50
  go_upto_region 30 with fail
  rw [← HW50.out]
  obtain ⟨k0, k1, k2, k3, k4⟩ := X50.out.cells
  go_wp2_with fail
  refine (doo_any 9 k 0 m W50 X50.out.stm HF.out HM.out).mono ?_
  rintro e v51 has
  rw [HS.out, if_pos rfl, P2.out] at has
  obtain ⟨i51, q51, f51, rfl, hst, hb⟩ := As.good has
  obtain ⟨ia51, ic51, qa51, qc51, fa51, fc51, rfl, rfl, rfl⟩ := hst.form
  obtain ⟨W51, hW51⟩ : ∃ W51, W51 = v51.alloc (.cells #[.slice ia51 s.ind.length ic51, .int .i64 s.pen, .slice qa51 s.que.length qc51, .slice fa51 s.frm.length fc51, .int .u16 (fo : Int)] 27) := ⟨_, rfl⟩
  have U51 : Hid (Below W50.heap.size W50 W51) := by rw [hW51]; exact below_trans (hb) (bel_up _ _)
  have T51 : Hid (Bst W51 v51.heap.size (.slice ia51 s.ind.length ic51) (.slice qa51 s.que.length qc51) (.slice fa51 s.frm.length fc51) { s with flg := fo }) := by rw [hW51]; exact Bst.new (s := { s with flg := fo }) hst
  have X51 : Hid (Bst W51 w.heap.size (.slice a1 s.ind.length c1) (.slice a2 s.que.length c2) (.slice a3 s.frm.length c3) s) := X50.out.up U51.out
  have B51 : Hid (Below w.heap.size w W51) := below_trans B50.out U51.out
  have HW51 : Hid _ := hW51
  have T5051 : Hid (Bst W51 v50.heap.size (.slice ia50 s.ind.length ic50) (.slice qa50 s.que.length qc50) (.slice fa50 s.frm.length fc50) { s with flg := fo }) := T50.out.up U51.out
  clear T50
  have T50 : Hid _ := T5051.out
  clear T5051
  clear has hst hb hW51 k0 k1 k2 k3 k4
  skip
  go_upto_region 31 with fail
  rw [← HW51.out]
  obtain ⟨V52, hV52⟩ : ∃ V52, V52 = W51.alloc (.cells #[.int .i64 9, .int .i64 (k : Int), .int .i64 0, .int .i64 10, .int .i64 (k : Int), .int .i64 0] 52) := ⟨_, rfl⟩
  have UV52 : Hid (Below W51.heap.size W51 V52) := by rw [hV52]; exact bel_up _ _
  have HV52 : Hid (V52 = W51.alloc (.cells #[.int .i64 9, .int .i64 (k : Int), .int .i64 0, .int .i64 10, .int .i64 (k : Int), .int .i64 0] 52)) := hV52
  have CA52 : Hid (Calls Try.prog 28 #[sv (.slice a1 s.ind.length c1) (.slice a2 s.que.length c2) (.slice a3 s.frm.length c3) s, .slice (some ⟨W51.heap.size, 0, none⟩) 2 2, .string m] V52 fun e w' => As V52 (.ok { s with flg := ff }) e w') := by
    have := all_any (l := [(9, (k : Int), 0), (10, (k : Int), 0)]) (va := .slice (some ⟨W51.heap.size, 0, none⟩) 2 2) m V52 (X51.out.up UV52.out).stm HF.out ⟨_, W51.heap.size, 0, 2, rfl, Nat.le_refl 2, fun h => (by cases h), fun _ => rfl, fun j u hu => by
      rw [hV52, Nat.zero_add, Lib.cell_of_heap (heap_new W51 _)]
      simpa [aC] using hu⟩ (by simp) HM.out
    rw [HS.out, if_pos rfl, P3.out] at this
    exact this
  clear hV52
  obtain ⟨k0, k1, k2, k3, k4⟩ := X51.out.cells
  go_wp2_with fail
  rw [← HV52.out]
  refine Calls.mono CA52.out ?_
  rintro e v52 has
  obtain ⟨i52, q52, f52, rfl, hst, hb⟩ := As.good has
  obtain ⟨ia52, ic52, qa52, qc52, fa52, fc52, rfl, rfl, rfl⟩ := hst.form
  obtain ⟨W52, hW52⟩ : ∃ W52, W52 = v52.alloc (.cells #[.slice ia52 s.ind.length ic52, .int .i64 s.pen, .slice qa52 s.que.length qc52, .slice fa52 s.frm.length fc52, .int .u16 (ff : Int)] 27) := ⟨_, rfl⟩
  have U52 : Hid (Below W51.heap.size W51 W52) := by rw [hW52]; exact below_trans (below_trans UV52.out hb) (bel_up _ _)
  have T52 : Hid (Bst W52 v52.heap.size (.slice ia52 s.ind.length ic52) (.slice qa52 s.que.length qc52) (.slice fa52 s.frm.length fc52) { s with flg := ff }) := by rw [hW52]; exact Bst.new (s := { s with flg := ff }) hst
  have X52 : Hid (Bst W52 w.heap.size (.slice a1 s.ind.length c1) (.slice a2 s.que.length c2) (.slice a3 s.frm.length c3) s) := X51.out.up U52.out
  have B52 : Hid (Below w.heap.size w W52) := below_trans B51.out U52.out
  have HW52 : Hid _ := hW52
  have T5052 : Hid (Bst W52 v50.heap.size (.slice ia50 s.ind.length ic50) (.slice qa50 s.que.length qc50) (.slice fa50 s.frm.length fc50) { s with flg := fo }) := T50.out.up U52.out
  clear T50
  have T50 : Hid _ := T5052.out
  clear T5052
  have T5152 : Hid (Bst W52 v51.heap.size (.slice ia51 s.ind.length ic51) (.slice qa51 s.que.length qc51) (.slice fa51 s.frm.length fc51) { s with flg := fo }) := T51.out.up U52.out
  clear T51
  have T51 : Hid _ := T5152.out
  clear T5152
  clear has hst hb hW52 k0 k1 k2 k3 k4
  clear CA52
  go_upto_region 32 with fail
  rw [← HW52.out]
  obtain ⟨k0, k1, k2, k3, k4⟩ := X52.out.cells
  go_wp2_with fail
  refine (doo_any 10 k 0 m W52 X52.out.stm HF.out HM.out).mono ?_
  rintro e v53 has
  rw [HS.out, if_pos rfl, P4.out] at has
  obtain ⟨i53, q53, f53, rfl, hst, hb⟩ := As.good has
  obtain ⟨ia53, ic53, qa53, qc53, fa53, fc53, rfl, rfl, rfl⟩ := hst.form
  obtain ⟨W53, hW53⟩ : ∃ W53, W53 = v53.alloc (.cells #[.slice ia53 s.ind.length ic53, .int .i64 s.pen, .slice qa53 s.que.length qc53, .slice fa53 s.frm.length fc53, .int .u16 (ff : Int)] 27) := ⟨_, rfl⟩
  have U53 : Hid (Below W52.heap.size W52 W53) := by rw [hW53]; exact below_trans (hb) (bel_up _ _)
  have T53 : Hid (Bst W53 v53.heap.size (.slice ia53 s.ind.length ic53) (.slice qa53 s.que.length qc53) (.slice fa53 s.frm.length fc53) { s with flg := ff }) := by rw [hW53]; exact Bst.new (s := { s with flg := ff }) hst
  have X53 : Hid (Bst W53 w.heap.size (.slice a1 s.ind.length c1) (.slice a2 s.que.length c2) (.slice a3 s.frm.length c3) s) := X52.out.up U53.out
  have B53 : Hid (Below w.heap.size w W53) := below_trans B52.out U53.out
  have HW53 : Hid _ := hW53
  have T5053 : Hid (Bst W53 v50.heap.size (.slice ia50 s.ind.length ic50) (.slice qa50 s.que.length qc50) (.slice fa50 s.frm.length fc50) { s with flg := fo }) := T50.out.up U53.out
  clear T50
  have T50 : Hid _ := T5053.out
  clear T5053
  have T5153 : Hid (Bst W53 v51.heap.size (.slice ia51 s.ind.length ic51) (.slice qa51 s.que.length qc51) (.slice fa51 s.frm.length fc51) { s with flg := fo }) := T51.out.up U53.out
  clear T51
  have T51 : Hid _ := T5153.out
  clear T5153
  have T5253 : Hid (Bst W53 v52.heap.size (.slice ia52 s.ind.length ic52) (.slice qa52 s.que.length qc52) (.slice fa52 s.frm.length fc52) { s with flg := ff }) := T52.out.up U53.out
  clear T52
  have T52 : Hid _ := T5253.out
  clear T5253
  clear has hst hb hW53 k0 k1 k2 k3 k4
  skip
  go_upto_region 33 with fail
  rw [← HW53.out]
  obtain ⟨k0, k1, k2, k3, k4⟩ := T50.out.cells
  go_wp2_with fail
  refine (holds_any 5 k false W53 T50.out.stm O1.out (by have := HL.out; show s.ind.length ≤ _; omega)).mono ?_
  rintro e v54 ⟨rfl, hb⟩
  have B54 : Hid (Below w.heap.size w v54) := below_trans B53.out hb
  have T5054 : Hid (Bst v54 v50.heap.size (.slice ia50 s.ind.length ic50) (.slice qa50 s.que.length qc50) (.slice fa50 s.frm.length fc50) { s with flg := fo }) := T50.out.up hb
  clear T50
  have T50 : Hid _ := T5054.out
  clear T5054
  have T5154 : Hid (Bst v54 v51.heap.size (.slice ia51 s.ind.length ic51) (.slice qa51 s.que.length qc51) (.slice fa51 s.frm.length fc51) { s with flg := fo }) := T51.out.up hb
  clear T51
  have T51 : Hid _ := T5154.out
  clear T5154
  have T5254 : Hid (Bst v54 v52.heap.size (.slice ia52 s.ind.length ic52) (.slice qa52 s.que.length qc52) (.slice fa52 s.frm.length fc52) { s with flg := ff }) := T52.out.up hb
  clear T52
  have T52 : Hid _ := T5254.out
  clear T5254
  have T5354 : Hid (Bst v54 v53.heap.size (.slice ia53 s.ind.length ic53) (.slice qa53 s.que.length qc53) (.slice fa53 s.frm.length fc53) { s with flg := ff }) := T53.out.up hb
  clear T53
  have T53 : Hid _ := T5354.out
  clear T5354
  clear hb
  rw [O3.out]
  clear k0 k1 k2 k3 k4
  obtain ⟨k0, k1, k2, k3, k4⟩ := T52.out.cells
  go_wp2_with fail
  refine (holds_any 6 k false v54 T52.out.stm O2.out (by have := HL.out; show s.ind.length ≤ _; omega)).mono ?_
  rintro e v55 ⟨rfl, hb⟩
  have B55 : Hid (Below w.heap.size w v55) := below_trans B54.out hb
  have T5055 : Hid (Bst v55 v50.heap.size (.slice ia50 s.ind.length ic50) (.slice qa50 s.que.length qc50) (.slice fa50 s.frm.length fc50) { s with flg := fo }) := T50.out.up hb
  clear T50
  have T50 : Hid _ := T5055.out
  clear T5055
  have T5155 : Hid (Bst v55 v51.heap.size (.slice ia51 s.ind.length ic51) (.slice qa51 s.que.length qc51) (.slice fa51 s.frm.length fc51) { s with flg := fo }) := T51.out.up hb
  clear T51
  have T51 : Hid _ := T5155.out
  clear T5155
  have T5255 : Hid (Bst v55 v52.heap.size (.slice ia52 s.ind.length ic52) (.slice qa52 s.que.length qc52) (.slice fa52 s.frm.length fc52) { s with flg := ff }) := T52.out.up hb
  clear T52
  have T52 : Hid _ := T5255.out
  clear T5255
  have T5355 : Hid (Bst v55 v53.heap.size (.slice ia53 s.ind.length ic53) (.slice qa53 s.que.length qc53) (.slice fa53 s.frm.length fc53) { s with flg := ff }) := T53.out.up hb
  clear T53
  have T53 : Hid _ := T5355.out
  clear T5355
  clear hb
  rw [O4.out]
  clear k0 k1 k2 k3 k4
  obtain ⟨k0, k1, k2, k3, k4⟩ := T50.out.cells
  obtain ⟨j0, j1, j2, j3, j4⟩ := T51.out.cells
  go_wp2_with fail
  refine (rsame_yes (s := { s with flg := fo }) v55 T50.out.stm T51.out.stm ⟨by have := HL.out; show s.ind.length ≤ _; omega, by have := HL.out; show s.que.length ≤ _; omega, by have := HL.out; show s.frm.length ≤ _; omega⟩).mono ?_
  rintro e v56 ⟨rfl, hb⟩
  have B56 : Hid (Below w.heap.size w v56) := below_trans B55.out hb
  have T5056 : Hid (Bst v56 v50.heap.size (.slice ia50 s.ind.length ic50) (.slice qa50 s.que.length qc50) (.slice fa50 s.frm.length fc50) { s with flg := fo }) := T50.out.up hb
  clear T50
  have T50 : Hid _ := T5056.out
  clear T5056
  have T5156 : Hid (Bst v56 v51.heap.size (.slice ia51 s.ind.length ic51) (.slice qa51 s.que.length qc51) (.slice fa51 s.frm.length fc51) { s with flg := fo }) := T51.out.up hb
  clear T51
  have T51 : Hid _ := T5156.out
  clear T5156
  have T5256 : Hid (Bst v56 v52.heap.size (.slice ia52 s.ind.length ic52) (.slice qa52 s.que.length qc52) (.slice fa52 s.frm.length fc52) { s with flg := ff }) := T52.out.up hb
  clear T52
  have T52 : Hid _ := T5256.out
  clear T5256
  have T5356 : Hid (Bst v56 v53.heap.size (.slice ia53 s.ind.length ic53) (.slice qa53 s.que.length qc53) (.slice fa53 s.frm.length fc53) { s with flg := ff }) := T53.out.up hb
  clear T53
  have T53 : Hid _ := T5356.out
  clear T5356
  clear hb
  clear k0 k1 k2 k3 k4 j0 j1 j2 j3 j4
  obtain ⟨k0, k1, k2, k3, k4⟩ := T52.out.cells
  obtain ⟨j0, j1, j2, j3, j4⟩ := T53.out.cells
  go_wp2_with fail
  refine (rsame_yes (s := { s with flg := ff }) v56 T52.out.stm T53.out.stm ⟨by have := HL.out; show s.ind.length ≤ _; omega, by have := HL.out; show s.que.length ≤ _; omega, by have := HL.out; show s.frm.length ≤ _; omega⟩).mono ?_
  rintro e v57 ⟨rfl, hb⟩
  have B57 : Hid (Below w.heap.size w v57) := below_trans B56.out hb
  clear hb
  clear k0 k1 k2 k3 k4 j0 j1 j2 j3 j4
  go_wp2_with fail
  go_ret
  exact ⟨rfl, B57.out⟩
end Go.Proofs.Ytkaciochlemjiaa
