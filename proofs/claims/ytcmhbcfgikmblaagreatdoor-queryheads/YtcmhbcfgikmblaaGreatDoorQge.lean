import Derived.Test.YtcmhbcfgikmblaaGreatDoorQyj
namespace Go.Proofs.YtcmhbcfgikmblaaGreatDoor.Qy
open Go.RowKit Go.Maps

set_option maxRecDepth 100000 in
set_option maxHeartbeats 8000000 in
/-- QueryHeads. -/
theorem queryHeads_any {vt : Value} {T : List Tr.Nd} (p : Pn) (s : ByteArray) (w : World) (ht : Tr.Ns w vt T) (hz : Tr.Sm T) : Calls Tryz.prog 4 #[pV p, vt, .string s] w fun e w' => e = .returned (.bool true) ∧ Below w.heap.size w w' := by
  obtain ⟨W1, hW1⟩ : ∃ W1, W1 = w.alloc (.cells #[.string p.nm, .bool p.lit, .string p.fd, .string p.cp, .int .i64 p.kd] 36) := ⟨_, rfl⟩
  obtain ⟨pb, hpb⟩ : ∃ pb, w.heap.size = pb := ⟨_, rfl⟩
  have HB1 : Hid (Below w.heap.size w W1) := by rw [hW1]; exact bel_up _ _
  have HP1 : Hid (W1.heap[pb]? = some (.cells #[.string p.nm, .bool p.lit, .string p.fd, .string p.cp, .int .i64 p.kd] 36 (0, 0))) := by rw [hW1, ← hpb]; exact heap_new w _
  have HPB : Hid (w.heap.size = pb) := hpb
  have HST : Hid _ := started_any W1
  have HT1 : Hid (Tr.Ns W1 vt T) := ht.up HB1.out
  have HT0 : Hid (Rw w vt T.length (flat Tr.nf T)) := ht
  have HZ : Hid (Tr.Sm T) := hz
  obtain ⟨ta, tc, hvt⟩ := ht.form
  obtain ⟨tl, htl⟩ : ∃ tl, T.length = tl := ⟨_, rfl⟩
  have HTL : Hid (T.length = tl) := htl
  rw [htl] at hvt
  subst hvt
  have HBY : Hid (∀ W, Below W1.heap.size W1 W → Calls Tryz.prog 11 #[.slice ta tl tc] W fun e w' => ∃ b, e = .returned (.bool b) ∧ Below W.heap.size W w') := fun W hW => Tr.beyond_any W (HT1.out.up hW) HZ.out
  have HRT : Hid (∀ W, Below W1.heap.size W1 W → Calls Tryz.prog 13 #[.slice ta tl tc] W fun e w' => e = .returned (.int .i64 (Tr.rts T)) ∧ W = w') := fun W hW => Tr.roots_any W (HT1.out.up hW) HZ.out
  clear ht hz htl
  go_enter Tryz.func4, Tryz.ntmps4
  go_upto_region 1 with fail
  first | rw [← hW1, hpb] | rw [← hW1]
  clear hW1 hpb
  go_upto_region 3 with (go_at_call 6; refine Calls.mono HST.out ?_; rintro e w2 ⟨rfl, hb2⟩; have HB2 : Hid (Below W1.heap.size W1 w2) := hb2; clear hb2)
  go_upto_if 15 with (go_at_call 11; refine Calls.mono (HBY.out _ HB2.out) ?_; rintro e w3 ⟨b, rfl, hb3⟩; have HB3 : Hid (Below W1.heap.size W1 w3) := below_trans HB2.out hb3; clear hb3)
  cases b with
  | true =>
    go_wp2_with fail
    go_ret
    exact ⟨rfl, below_trans HB1.out HB3.out⟩
  | false =>
    have hp3 : w3.heap[pb]? = some (.cells #[.string p.nm, .bool p.lit, .string p.fd, .string p.cp, .int .i64 p.kd] 36 (0, 0)) := (HB3.out.block _ (lt_of_heap HP1.out)).trans HP1.out
    have c4 := rcell hp3 4 _ rfl
    have f4 := Lib.frozen_of_heap hp3 4
    have c3 := rcell hp3 3 _ rfl
    have f3 := Lib.frozen_of_heap hp3 3
    obtain ⟨W4, hW4⟩ : ∃ W4, W4 = (w3.setCell ⟨pb, 4, none⟩ (.int .i64 0)).setCell ⟨pb, 3, none⟩ (.string ⟨#[]⟩) := ⟨_, rfl⟩
    have hp4 : W4.heap[pb]? = some (.cells #[.string p.nm, .bool p.lit, .string p.fd, .string ⟨#[]⟩, .int .i64 0] 36 (0, 0)) := by rw [hW4]; exact blk_set _ (blk_set _ hp3)
    have HP4 : Hid (W4.heap[pb]? = some (.cells #[.string p.nm, .bool p.lit, .string p.fd, .string ⟨#[]⟩, .int .i64 0] 36 (0, 0))) := hp4
    have HB4 : Hid (Below w.heap.size w W4) := by
      rw [hW4]
      have h9 : Below w.heap.size w w3 := below_trans HB1.out HB3.out
      exact Below.setCell (Below.setCell h9 (show w.heap.size ≤ pb by have := HPB.out; omega) _) (show w.heap.size ≤ pb by have := HPB.out; omega) _
    clear hp3 hp4
    go_upto_region 7 with fail
    rw [← hW4]
    clear hW4 c4 f4 c3 f3
    have k0 := rcell HP4.out 0 _ rfl
    have k1 := rcell HP4.out 1 _ rfl
    have k2 := rcell HP4.out 2 _ rfl
    have k3 := rcell HP4.out 3 _ rfl
    have k4 := rcell HP4.out 4 _ rfl
    obtain ⟨W5, hW5⟩ : ∃ W5, W5 = W4.alloc (.cells #[.string p.nm, .bool p.lit, .string p.fd, .string ⟨#[]⟩, .int .i64 0] 36) := ⟨_, rfl⟩
    obtain ⟨rb, hrb⟩ : ∃ rb, W4.heap.size = rb := ⟨_, rfl⟩
    obtain ⟨W6, hW6⟩ : ∃ W6, W6 = W5.alloc (.cells #[.slice (some ⟨rb, 0, none⟩) 1 1, .slice none 0 0] 26) := ⟨_, rfl⟩
    have HB5 : Hid (Below W4.heap.size W4 W5) := by rw [hW5]; exact bel_up _ _
    have HB6 : Hid (Below W5.heap.size W5 W6) := by rw [hW6]; exact bel_up _ _
    have HB46 : Hid (Below W4.heap.size W4 W6) := below_trans HB5.out HB6.out
    have HR5 : Hid (W5.heap[rb]? = some (.cells #[.string p.nm, .bool p.lit, .string p.fd, .string ⟨#[]⟩, .int .i64 0] 36 (0, 0))) := by rw [hW5, ← hrb]; exact heap_new W4 _
    have hs5 : W5.heap.size = rb + 1 := by rw [hW5, ← hrb]; simp
    have HQ6 : Hid (W6.heap[rb + 1]? = some (.cells #[.slice (some ⟨rb, 0, none⟩) 1 1, .slice none 0 0] 26 (0, 0))) := by rw [hW6, ← hs5]; exact heap_new W5 _
    obtain ⟨qb, hqb⟩ : ∃ qb, rb + 1 = qb := ⟨_, rfl⟩
    rw [hqb] at HQ6
    have HR6 : Hid (W6.heap[rb]? = some (.cells #[.string p.nm, .bool p.lit, .string p.fd, .string ⟨#[]⟩, .int .i64 0] 36 (0, 0))) := (HB6.out.block _ (lt_of_heap HR5.out)).trans HR5.out
    have HPS : Hid (Ps W6 (.slice (some ⟨rb, 0, none⟩) 1 1) [h1 p]) := ⟨_, rb, 0, 1, rfl, Nat.le_refl _, (fun h => by cases h), (fun _ => rfl), (fun j u hu => by
      have h9 : ([Value.string p.nm, .bool p.lit, .string p.fd, .string ⟨#[]⟩, .int .i64 0] : List Value)[j]? = some u := hu
      rw [Nat.zero_add, Lib.cell_of_heap HR6.out]; simpa using h9)⟩
    have HCS : Hid (Cs W6 (.slice none 0 0) []) := Rw.nil _
    have HW6 : Hid (Below w.heap.size w W6) := HB4.out.trans (HB46.out.mono HB4.out.size)
    go_upto_region 8 with fail
    rw [← hW5, ← hW6]
    try rw [hqb]
    have HQC : Hid (∀ W, Below W6.heap.size W6 W → W.cell? ⟨qb, 0, none⟩ = some (.slice (some ⟨rb, 0, none⟩) 1 1) ∧ W.cell? ⟨qb, 1, none⟩ = some (.slice none 0 0)) := fun W hW => ⟨below_cell hW (rcell HQ6.out 0 _ rfl), below_cell hW (rcell HQ6.out 1 _ rfl)⟩
    have HPC : Hid (∀ W, Below W6.heap.size W6 W → W.cell? ⟨pb, 0, none⟩ = some (.string p.nm) ∧ W.cell? ⟨pb, 1, none⟩ = some (.bool p.lit) ∧ W.cell? ⟨pb, 2, none⟩ = some (.string p.fd)) := fun W hW => by
      have h9 : W6.heap[pb]? = some (.cells #[.string p.nm, .bool p.lit, .string p.fd, .string ⟨#[]⟩, .int .i64 0] 36 (0, 0)) := (HB46.out.block _ (lt_of_heap HP4.out)).trans HP4.out
      exact ⟨below_cell hW (rcell h9 0 _ rfl), below_cell hW (rcell h9 1 _ rfl), below_cell hW (rcell h9 2 _ rfl)⟩
    have HT6 : Hid (Tr.Ns W6 (.slice ta tl tc) T) := by
      exact Rw.up HT0.out HW6.out
    clear hW5 hW6 hrb hs5 hqb k0 k1 k2 k3 k4
    have HAL : Hid _ := allq_any W6 HPS.out HCS.out HT6.out HZ.out s
    have HSH : Hid (∀ W, Below W6.heap.size W6 W → Calls Tryz.prog 9 #[.agg #[.slice (some ⟨rb, 0, none⟩) 1 1, .slice none 0 0]] W fun e w' => e = .returned (.bool (shp [h1 p] [])) ∧ Below W.heap.size W w') := fun W hW => shaped_any W (HPS.out.up hW) (HCS.out.up hW)
    obtain ⟨R, hR⟩ : ∃ R, allQ [h1 p] [] T s = R := ⟨_, rfl⟩
    have HR : Hid (allQ [h1 p] [] T s = R) := hR
    rw [hR] at HAL
    obtain ⟨rn, hrn⟩ : ∃ rn, R.length = rn := ⟨_, rfl⟩
    have HRN : Hid (R.length = rn) := hrn
    rw [hrn] at HAL
    obtain ⟨q0, q1⟩ := HQC.out W6 (Below.refl _ _)
    clear hR hrn
    go_upto_region 9 with (go_at_call 12; refine Calls.mono HAL.out ?_; rintro e w7 ⟨v7, vs, rfl, hf7, hb7⟩; have HF7 : Hid (Fa W6.heap.size w7 v7 vs R rn) := hf7; have HB7 : Hid (Below W6.heap.size W6 w7) := hb7; obtain ⟨fa, fc, rfl⟩ := row_shape hf7.ow; clear hf7 hb7)
    clear q0 q1
    obtain ⟨q0, q1⟩ := HQC.out w7 HB7.out
    obtain ⟨SB, hSB⟩ : ∃ SB, shp [h1 p] [] = SB := ⟨_, rfl⟩
    have HSB : Hid (shp [h1 p] [] = SB) := hSB
    rw [hSB] at HSH
    clear hSB
    have HRT6 : Hid (∀ W, Below W6.heap.size W6 W → Calls Tryz.prog 13 #[.slice ta tl tc] W fun e w' => e = .returned (.int .i64 (Tr.rts T)) ∧ W = w') := fun W hW => Tr.roots_any W (HT6.out.up hW) HZ.out
    cases SB with
    | false =>
      have h0 : rn = 0 := by
        rw [← HRN.out, ← HR.out]
        unfold allQ
        rw [HSB.out]
        rfl
      subst h0
      go_wp2_with (go_at_call 9; refine Calls.mono (HSH.out _ HB7.out) ?_; rintro e w8 ⟨rfl, hb8⟩; have HB8 : Hid (Below W6.heap.size W6 w8) := below_trans HB7.out hb8; clear hb8)
      go_ret
      exact ⟨rfl, HW6.out.trans (HB8.out.mono HW6.out.size)⟩
    | true =>
      rcases @Tr.rts_fo T with ⟨r, hr, hr2⟩ | ⟨hr, hr2⟩
      · have HFO : Hid (Tr.Fo (Tr.kds T)) := ⟨r, hr⟩
        have HRA : Hid (R = alls [h1 p] [] T s tl) := by
          rw [← HR.out]
          unfold allQ
          rw [HSB.out, hr, HTL.out]
          rfl
        rw [hr2] at HRT6
        have d1 : decide ((r : Int) < 0) = false := by rw [decide_eq_false_iff_not]; omega
        clear hr hr2
        go_upto_region 13 with first | (go_at_call 9; refine Calls.mono (HSH.out _ HB7.out) ?_; rintro e w8 ⟨rfl, hb8⟩; have HB8 : Hid (Below W6.heap.size W6 w8) := below_trans HB7.out hb8; have HF8 : Hid (Fa W6.heap.size w8 (.slice fa rn fc) vs R rn) := HF7.out.up hb8; clear hb8) | (go_at_call 13; refine Calls.mono (HRT6.out _ HB8.out) ?_; rintro e w9 ⟨rfl, hw9⟩; subst hw9)
        clear q0 q1 d1
        go_loopg [9, 10] tl (fun gm v9 v10 wr => ∃ v k : Nat, v10 = .int .i64 (v : Int) ∧ v9 = .int .i64 (k : Int) ∧ Hid (v ≤ tl ∧ gm = tl - v) ∧ Hid ((alls [h1 p] [] T s v).length = k) ∧ Hid (Below w8.heap.size w8 wr))
        case atStart => exact ⟨0, 0, rfl, rfl, ⟨Nat.zero_le _, rfl⟩, rfl, Below.refl _ _⟩
        case round =>
          obtain ⟨v, k, rfl, rfl, HI, HK, HB⟩ := hrel
          by_cases hi : v < tl
          · have e1 : decide ((v : Int) < (tl : Int)) = true := by rw [decide_eq_true_eq]; omega
            have e2 : decide (v < tl) = true := by rw [decide_eq_true_eq]; omega
            have g1 : (v : Int) < (tl : Int) := by omega
            have g2 : v < tl := hi
            have g3 : (0 : Int) ≤ (v : Int) := by omega
            have HIL : Hid (v < tl) := hi
            have HVT : Hid (v < T.length) := by rw [HTL.out]; exact hi
            have HB6r : Hid (Below W6.heap.size W6 wr) := below_trans HB8.out HB.out
            obtain ⟨g, o, cap9, hge, hgc⟩ := (HT6.out.up HB6r.out).cells v HVT.out
            obtain ⟨e4, -, -⟩ := Value.slice.inj hge
            subst e4
            have c0 : wr.cell? ⟨g, o + v * 7, none⟩ = some (.string (T.getD v Tr.ndd).nm) := hgc 0 _ rfl
            have c1 : wr.cell? ⟨g, o + v * 7 + 1, none⟩ = some (.bool (T.getD v Tr.ndd).nd) := hgc 1 _ rfl
            have c2 : wr.cell? ⟨g, o + v * 7 + 2, none⟩ = some (.string (T.getD v Tr.ndd).fd) := hgc 2 _ rfl
            obtain ⟨y, hy⟩ : ∃ y, T.getD v Tr.ndd = y := ⟨_, rfl⟩
            have HY : Hid (T.getD v Tr.ndd = y) := hy
            rw [hy] at c0 c1 c2
            obtain ⟨p0, p1, p2⟩ := HPC.out wr HB6r.out
            obtain ⟨X, hX⟩ : ∃ X, Qy.hx p y = X := ⟨_, rfl⟩
            obtain ⟨Y, hY⟩ : ∃ Y, Qy.hy p y = Y := ⟨_, rfl⟩
            have HXY : Hid (alk (h1 p) y = (X && !Y)) := by rw [← hX, ← hY]; exact alk_hx p y HSB.out
            have HX : Hid (Qy.hx p y = X) := hX
            have HYY : Hid (Qy.hy p y = Y) := hY
            have HC2 : Hid (∀ W, Below wr.heap.size wr W → W.cell? ⟨g, o + v * 7 + 2, none⟩ = some (.string y.fd)) := fun W hW => below_cell hW c2
            have hwv := w64n v (by have h9 := HZ.out; unfold Tr.Sm at h9; rw [HTL.out] at h9; omega)
            have HWV : Hid (IntKind.i64.wrap ((v : Int) + 1) = (v : Int) + 1) := by rw [hwv]; rfl
            clear hi hge hgc hy hX hY
            go_upto_region 15 with fail
            go_cut [11] from 42 to 65 (fun v11 wd => v11 = .bool X ∧ Hid (Below wr.heap.size wr wd))
            case first =>
              have hXe := HX.out
              unfold Qy.hx at hXe
              by_cases n1 : p.nm = ⟨#[]⟩
              · have f1 : p.nm.toList.isEmpty = true := by rw [bs_empty]; exact decide_eq_true n1
                have f9 : p.nm.isEmpty = true := by rw [n1]; rfl
                rw [decide_eq_true n1] at hXe
                have : X = true := by rw [← hXe]; rfl
                subst this
                clear hXe
                rw [n1] at p0
                clear n1 f1 f9
                go_quiet (fail)
                go_wp2_with fail
                go_meet
                exact ⟨rfl, below_drewN (Below.refl _ _) _⟩
              · have f1 : p.nm.toList.isEmpty = false := by rw [bs_empty]; exact decide_eq_false n1
                rw [decide_eq_false n1, Bool.false_or] at hXe
                by_cases n2 : y.nm = p.nm
                · have f2 : (y.nm.toList == p.nm.toList) = true := by rw [str_eq]; exact decide_eq_true n2
                  rw [decide_eq_true n2, Bool.true_and] at hXe
                  rw [n2] at c0
                  clear n1 n2 f2
                  go_quiet (fail)
                  go_wp2_with fail
                  go_meet
                  exact ⟨by rw [← hXe], below_drewN (Below.refl _ _) _⟩
                · have f2 : (y.nm.toList == p.nm.toList) = false := by rw [str_eq]; exact decide_eq_false n2
                  rw [decide_eq_false n2, Bool.false_and] at hXe
                  subst hXe
                  clear n1 n2
                  go_quiet (fail)
                  go_wp2_with fail
                  go_meet
                  exact ⟨rfl, below_drewN (Below.refl _ _) _⟩
            case rest =>
              obtain ⟨rfl, HBc⟩ := hcut
              obtain ⟨wq, hwq⟩ : ∃ wq, wq = wc := ⟨_, rfl⟩
              rw [← hwq] at HBc ⊢
              clear hwq c0 c1 c2 p0 p1 p2
              have HB6c : Hid (Below W6.heap.size W6 wq) := below_trans HB6r.out HBc.out
              have c2 := HC2.out wq HBc.out
              obtain ⟨-, -, p2⟩ := HPC.out wq HB6c.out
              go_upto_region 16 with fail
              go_cut [78] from 66 to 78 (fun v78 wd => v78 = .bool Y ∧ Hid (Below wq.heap.size wq wd))
              case first =>
                have hYe := HYY.out
                unfold Qy.hy at hYe
                by_cases n1 : p.fd = ⟨#[]⟩
                · rw [decide_eq_true n1] at hYe
                  have : Y = false := by rw [← hYe]; rfl
                  subst this
                  rw [n1] at p2
                  clear hYe n1
                  go_quiet (fail)
                  go_wp2_with fail
                  go_meet
                  exact ⟨rfl, below_drewN (Below.refl _ _) _⟩
                · have f1 : p.fd.toList.isEmpty = false := by rw [bs_empty]; exact decide_eq_false n1
                  rw [decide_eq_false n1] at hYe
                  by_cases n2 : y.fd = p.fd
                  · have : Y = false := by rw [← hYe, decide_eq_true n2]; rfl
                    subst this
                    rw [n2] at c2
                    clear n1 n2 hYe
                    go_quiet (fail)
                    go_wp2_with fail
                    go_meet
                    exact ⟨rfl, below_drewN (Below.refl _ _) _⟩
                  · have f2 : (y.fd.toList == p.fd.toList) = false := by rw [str_eq]; exact decide_eq_false n2
                    have : Y = true := by rw [← hYe, decide_eq_false n2]; rfl
                    subst this
                    clear n1 n2 hYe
                    go_quiet (fail)
                    go_wp2_with fail
                    go_meet
                    exact ⟨rfl, below_drewN (Below.refl _ _) _⟩
              case rest =>
                obtain ⟨rfl, HBd⟩ := hcut
                have HB8d : Hid (Below w8.heap.size w8 wc) := below_trans (below_trans HB.out HBc.out) HBd.out
                clear c2 p2
                have HAN : Hid (alls [h1 p] [] T s (v + 1) = alls [h1 p] [] T s v ++ (if X && !Y then [[(v : Int)]] else [])) := by
                  show _ = _
                  rw [alls_one p T s HFO.out v HVT.out, HY.out, HXY.out]
                have hwv2 := HWV.out
                cases Y with
                | true =>
                  have HK2 : Hid ((alls [h1 p] [] T s (v + 1)).length = k) := by
                    show _ = _
                    rw [HAN.out, List.length_append, HK.out]
                    cases X <;> rfl
                  go_wp2_with fail
                  go_roundg (tl - (v + 1))
                  case measure => have := HI.out; have := HIL.out; omega
                  case rel => exact ⟨v + 1, k, by simp, rfl, ⟨HIL.out, rfl⟩, HK2, HB8d⟩
                | false =>
                  cases X with
                  | false =>
                    have HK2 : Hid ((alls [h1 p] [] T s (v + 1)).length = k) := by
                      show _ = _
                      rw [HAN.out, List.length_append, HK.out]
                      rfl
                    go_wp2_with fail
                    go_roundg (tl - (v + 1))
                    case measure => have := HI.out; have := HIL.out; omega
                    case rel => exact ⟨v + 1, k, by simp, rfl, ⟨HIL.out, rfl⟩, HK2, HB8d⟩
                  | true =>
                    have hA : alls [h1 p] [] T s (v + 1) = alls [h1 p] [] T s v ++ [[(v : Int)]] := HAN.out
                    have HK2 : Hid ((alls [h1 p] [] T s (v + 1)).length = k + 1) := by
                      show _ = _
                      rw [hA, List.length_append, HK.out]
                      rfl
                    obtain ⟨t9, ht9⟩ := alls_pre [h1 p] [] T s (v + 1) tl HIL.out
                    have HKR : Hid (k < rn ∧ R.getD k [] = [(v : Int)]) := by
                      have hk := HK.out
                      have hRe := HRA.out
                      rw [ht9, hA] at hRe
                      refine ⟨?_, ?_⟩
                      · rw [← HRN.out, hRe]
                        simp only [List.length_append, hk, List.length_cons, List.length_nil]
                        omega
                      · rw [hRe, List.append_assoc, List.getD_eq_getElem?_getD, List.getElem?_append_right (by omega), hk, Nat.sub_self]
                        rfl
                    have HFd : Hid (Fa W6.heap.size wc (.slice fa rn fc) vs R rn) := HF8.out.up HB8d.out
                    obtain ⟨x, hx⟩ : ∃ x, vs[k]? = some x := ⟨_, List.getElem?_eq_getElem (by rw [HF8.out.ln.1]; exact HKR.out.1)⟩
                    have hr0 := HFd.out.at' k x hx
                    rw [HKR.out.2] at hr0
                    have HX0 : Hid (wc.ownsRow W6.heap.size 3 1 x 1 (iC [(v : Int)])) := hr0
                    obtain ⟨xa, xc, hxv⟩ := row_shape HX0.out
                    subst hxv
                    obtain ⟨fg, fo, fcap, hfe, hfc⟩ := (row_rw HFd.out.ow).place (by have := HKR.out.1; omega)
                    obtain ⟨e4, -, -⟩ := Value.slice.inj hfe
                    subst e4
                    have c0 : wc.cell? ⟨fg, fo + k, none⟩ = some (.slice xa 1 xc) := hfc k _ hx
                    have HSI : Hid (∀ W, Below wc.heap.size wc W → ∀ u, Rw W u 1 (iC [(v : Int)]) → Calls Tryz.prog 14 #[.slice xa 1 xc, u] W fun e w' => e = .returned (.bool true) ∧ Below W.heap.size W w') := fun W hW u hu => same_intsC (l := [(v : Int)]) (show 1 < 4611686018427387904 by decide) W (row_rw (row_up HX0.out hW)) hu
                    have HLI : Hid (Rw (wc.alloc (.cells #[.int .i64 (v : Int)] 3)) (.slice (some ⟨wc.heap.size, 0, none⟩) 1 1) 1 (iC [(v : Int)])) := ⟨_, wc.heap.size, 0, 1, rfl, Nat.le_refl _, (fun h => by cases h), (fun _ => rfl), (fun j u hu => by have h9 : ([Value.int .i64 (v : Int)] : List Value)[j]? = some u := hu; rw [Nat.zero_add, Lib.cell_of_heap (heap_new wc _)]; simpa using h9)⟩
                    have d1 : decide ((rn : Int) ≤ (k : Int)) = false := by rw [decide_eq_false_iff_not]; have := HKR.out.1; omega
                    have d2 : decide (rn ≤ k) = false := by rw [decide_eq_false_iff_not]; have := HKR.out.1; omega
                    have d3 : (k : Int) < (rn : Int) := by have := HKR.out.1; omega
                    have d4 : k < rn := HKR.out.1
                    have hwk := w64n k (by have h9 := HZ.out; unfold Tr.Sm at h9; rw [HTL.out] at h9; have h8 := HK.out; have h7 : (alls [h1 p] [] T s v).length ≤ v := (by unfold alls; exact Nat.le_trans (List.length_filterMap_le _ _) (by simp)); have h6 := HIL.out; omega)
                    clear hr0 hfe hfc hx hA ht9
                    go_wp2_with (go_at_call 14; refine Calls.mono (HSI.out _ (bel_up _ _) _ HLI.out) ?_; rintro e w9 ⟨rfl, hb9⟩; have HB9 : Hid (Below w8.heap.size w8 w9) := below_trans HB8d.out (below_trans (bel_up _ _) hb9); clear hb9)
                    go_roundg (tl - (v + 1))
                    case measure => have := HI.out; have := HIL.out; omega
                    case rel => exact ⟨v + 1, k + 1, by simp, by simp, ⟨HIL.out, rfl⟩, HK2, HB9⟩
          · have e1 : decide ((v : Int) < (tl : Int)) = false := by rw [decide_eq_false_iff_not]; omega
            have e2 : decide (v < tl) = false := by rw [decide_eq_false_iff_not]; omega
            have hvt : v = tl := by have := HI.out; omega
            subst hvt
            have hkr : k = rn := by rw [← HK.out, ← HRN.out, HRA.out]
            subst hkr
            clear hi
            go_wp2_with fail
            go_ret
            exact ⟨rfl, HW6.out.trans ((below_trans HB8.out HB.out).mono HW6.out.size)⟩
      · have h0 : rn = 0 := by
          rw [← HRN.out, ← HR.out]
          unfold allQ
          rw [HSB.out, hr]
          rfl
        subst h0
        rw [hr2] at HRT6
        clear hr hr2
        go_wp2_with first | (go_at_call 9; refine Calls.mono (HSH.out _ HB7.out) ?_; rintro e w8 ⟨rfl, hb8⟩; have HB8 : Hid (Below W6.heap.size W6 w8) := below_trans HB7.out hb8; clear hb8) | (go_at_call 13; refine Calls.mono (HRT6.out _ HB8.out) ?_; rintro e w9 ⟨rfl, hw9⟩; subst hw9)
        go_ret
        exact ⟨rfl, HW6.out.trans (HB8.out.mono HW6.out.size)⟩
end Go.Proofs.YtcmhbcfgikmblaaGreatDoor.Qy
