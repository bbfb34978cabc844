import Derived.Test.YtcmhbcfgikmblaaGreatDoorQyj
import Derived.Test.YtcmhbcfgikmblaaGreatDoorCards
import Derived.Test.YtcmhbcfgikmblaaGreatDoorTie
import Derived.Test.YtcmhbcfgikmblaaGreatDoorOpq
import Derived.ProofKit
import Derived.OpenShut
import Derived.ShutString
import Derived.ChangeOld
import Derived.JoinedCond
import Derived.Below
import Derived.SizedLaws
import Derived.Deep.DeepHandedRow
import Derived.Lib.LaidTab
import Derived.Deep.Slices
import Derived.Deep.Strs
namespace Go.Proofs.YtcmhbcfgikmblaaGreatDoor.Qy
open Go.RowKit Go.Maps

set_option maxRecDepth 100000 in
set_option maxHeartbeats 8000000 in
/-- QueryHeads. -/
theorem queryHeads_any {vt : Value} {T : List Tr.Nd} (p : Pn) (s : ByteArray) (w : World) (ht : Tr.Ns w vt T) (hz : Tr.Sm T) : Calls Tryz.prog 4 #[pV p, vt, .string s] w fun e w' => e = .returned (.bool true) ∧ Below w.heap.size w w' := by
  obtain ⟨W1, hW1⟩ : ∃ W1, W1 = w.alloc (.cells #[.string p.nm, .bool p.lit, .string p.fd, .string p.cp, .int .i64 p.kd] 36) := ⟨_, rfl⟩
  obtain ⟨pb, hpb⟩ : ∃ pb, w.heap.size = pb := ⟨_, rfl⟩
  have HB1 : Hid (Below w.heap.size w W1) := by rw [hW1]; exact bel_up _ _
  have HP1 : Hid (W1.heap[pb]? = some (.cells #[.string p.nm, .bool p.lit, .string p.fd, .string p.cp, .int .i64 p.kd] 36 (0, 0))) := by rw [hW1, ← hpb]; exact heap_new w _
  have HPB : Hid (w.heap.size = pb) := hpb
  have HST : Hid _ := started_any W1
  have HT1 : Hid (Tr.Ns W1 vt T) := ht.up HB1.out
  have HT0 : Hid (Rw w vt T.length (flat Tr.nf T)) := ht
  have HZ : Hid (Tr.Sm T) := hz
  obtain ⟨ta, tc, hvt⟩ := ht.form
  obtain ⟨tl, htl⟩ : ∃ tl, T.length = tl := ⟨_, rfl⟩
  have HTL : Hid (T.length = tl) := htl
  rw [htl] at hvt
  subst hvt
  have HBY : Hid (∀ W, Below W1.heap.size W1 W → Calls Tryz.prog 11 #[.slice ta tl tc] W fun e w' => ∃ b, e = .returned (.bool b) ∧ Below W.heap.size W w') := fun W hW => Tr.beyond_any W (HT1.out.up hW) HZ.out
  have HRT : Hid (∀ W, Below W1.heap.size W1 W → Calls Tryz.prog 13 #[.slice ta tl tc] W fun e w' => e = .returned (.int .i64 (Tr.rts T)) ∧ W = w') := fun W hW => Tr.roots_any W (HT1.out.up hW) HZ.out
  clear ht hz htl
  go_enter Tryz.func4, Tryz.ntmps4
  go_upto_region 1 with fail
  first | rw [← hW1, hpb] | rw [← hW1]
  clear hW1 hpb
  go_upto_region 3 with (go_at_call 6; refine Calls.mono HST.out ?_; rintro e w2 ⟨rfl, hb2⟩; have HB2 : Hid (Below W1.heap.size W1 w2) := hb2; clear hb2)
  go_upto_if 15 with (go_at_call 11; refine Calls.mono (HBY.out _ HB2.out) ?_; rintro e w3 ⟨b, rfl, hb3⟩; have HB3 : Hid (Below W1.heap.size W1 w3) := below_trans HB2.out hb3; clear hb3)
  cases b with
  | true =>
    go_wp2_with fail
    go_ret
    exact ⟨rfl, below_trans HB1.out HB3.out⟩
  | false =>
    have hp3 : w3.heap[pb]? = some (.cells #[.string p.nm, .bool p.lit, .string p.fd, .string p.cp, .int .i64 p.kd] 36 (0, 0)) := (HB3.out.block _ (lt_of_heap HP1.out)).trans HP1.out
    have c4 := rcell hp3 4 _ rfl
    have f4 := Lib.frozen_of_heap hp3 4
    have c3 := rcell hp3 3 _ rfl
    have f3 := Lib.frozen_of_heap hp3 3
    obtain ⟨W4, hW4⟩ : ∃ W4, W4 = (w3.setCell ⟨pb, 4, none⟩ (.int .i64 0)).setCell ⟨pb, 3, none⟩ (.string ⟨#[]⟩) := ⟨_, rfl⟩
    have hp4 : W4.heap[pb]? = some (.cells #[.string p.nm, .bool p.lit, .string p.fd, .string ⟨#[]⟩, .int .i64 0] 36 (0, 0)) := by rw [hW4]; exact blk_set _ (blk_set _ hp3)
    have HP4 : Hid (W4.heap[pb]? = some (.cells #[.string p.nm, .bool p.lit, .string p.fd, .string ⟨#[]⟩, .int .i64 0] 36 (0, 0))) := hp4
    have HB4 : Hid (Below w.heap.size w W4) := by
      rw [hW4]
      have h9 : Below w.heap.size w w3 := below_trans HB1.out HB3.out
      exact Below.setCell (Below.setCell h9 (show w.heap.size ≤ pb by have := HPB.out; omega) _) (show w.heap.size ≤ pb by have := HPB.out; omega) _
    clear hp3 hp4
    go_upto_region 7 with fail
    rw [← hW4]
    clear hW4 c4 f4 c3 f3
    have k0 := rcell HP4.out 0 _ rfl
    have k1 := rcell HP4.out 1 _ rfl
    have k2 := rcell HP4.out 2 _ rfl
    have k3 := rcell HP4.out 3 _ rfl
    have k4 := rcell HP4.out 4 _ rfl
    obtain ⟨W5, hW5⟩ : ∃ W5, W5 = W4.alloc (.cells #[.string p.nm, .bool p.lit, .string p.fd, .string ⟨#[]⟩, .int .i64 0] 36) := ⟨_, rfl⟩
    obtain ⟨rb, hrb⟩ : ∃ rb, W4.heap.size = rb := ⟨_, rfl⟩
    obtain ⟨W6, hW6⟩ : ∃ W6, W6 = W5.alloc (.cells #[.slice (some ⟨rb, 0, none⟩) 1 1, .slice none 0 0] 26) := ⟨_, rfl⟩
    have HB5 : Hid (Below W4.heap.size W4 W5) := by rw [hW5]; exact bel_up _ _
    have HB6 : Hid (Below W5.heap.size W5 W6) := by rw [hW6]; exact bel_up _ _
    have HB46 : Hid (Below W4.heap.size W4 W6) := below_trans HB5.out HB6.out
    have HR5 : Hid (W5.heap[rb]? = some (.cells #[.string p.nm, .bool p.lit, .string p.fd, .string ⟨#[]⟩, .int .i64 0] 36 (0, 0))) := by rw [hW5, ← hrb]; exact heap_new W4 _
    have hs5 : W5.heap.size = rb + 1 := by rw [hW5, ← hrb]; simp
    have HQ6 : Hid (W6.heap[rb + 1]? = some (.cells #[.slice (some ⟨rb, 0, none⟩) 1 1, .slice none 0 0] 26 (0, 0))) := by rw [hW6, ← hs5]; exact heap_new W5 _
    obtain ⟨qb, hqb⟩ : ∃ qb, rb + 1 = qb := ⟨_, rfl⟩
    rw [hqb] at HQ6
    have HR6 : Hid (W6.heap[rb]? = some (.cells #[.string p.nm, .bool p.lit, .string p.fd, .string ⟨#[]⟩, .int .i64 0] 36 (0, 0))) := (HB6.out.block _ (lt_of_heap HR5.out)).trans HR5.out
    have HPS : Hid (Ps W6 (.slice (some ⟨rb, 0, none⟩) 1 1) [h1 p]) := ⟨_, rb, 0, 1, rfl, Nat.le_refl _, (fun h => by cases h), (fun _ => rfl), (fun j u hu => by
      have h9 : ([Value.string p.nm, .bool p.lit, .string p.fd, .string ⟨#[]⟩, .int .i64 0] : List Value)[j]? = some u := hu
      rw [Nat.zero_add, Lib.cell_of_heap HR6.out]; simpa using h9)⟩
    have HCS : Hid (Cs W6 (.slice none 0 0) []) := Rw.nil _
    have HW6 : Hid (Below w.heap.size w W6) := HB4.out.trans (HB46.out.mono HB4.out.size)
    go_upto_region 8 with fail
    rw [← hW5, ← hW6]
    try rw [hqb]
    have HQC : Hid (∀ W, Below W6.heap.size W6 W → W.cell? ⟨qb, 0, none⟩ = some (.slice (some ⟨rb, 0, none⟩) 1 1) ∧ W.cell? ⟨qb, 1, none⟩ = some (.slice none 0 0)) := fun W hW => ⟨below_cell hW (rcell HQ6.out 0 _ rfl), below_cell hW (rcell HQ6.out 1 _ rfl)⟩
    have HPC : Hid (∀ W, Below W6.heap.size W6 W → W.cell? ⟨pb, 0, none⟩ = some (.string p.nm) ∧ W.cell? ⟨pb, 1, none⟩ = some (.bool p.lit) ∧ W.cell? ⟨pb, 2, none⟩ = some (.string p.fd)) := fun W hW => by
      have h9 : W6.heap[pb]? = some (.cells #[.string p.nm, .bool p.lit, .string p.fd, .string ⟨#[]⟩, .int .i64 0] 36 (0, 0)) := (HB46.out.block _ (lt_of_heap HP4.out)).trans HP4.out
      exact ⟨below_cell hW (rcell h9 0 _ rfl), below_cell hW (rcell h9 1 _ rfl), below_cell hW (rcell h9 2 _ rfl)⟩
    have HT6 : Hid (Tr.Ns W6 (.slice ta tl tc) T) := by
      exact Rw.up HT0.out HW6.out
    clear hW5 hW6 hrb hs5 hqb k0 k1 k2 k3 k4
    have HAL : Hid _ := allq_any W6 HPS.out HCS.out HT6.out HZ.out s
    have HSH : Hid (∀ W, Below W6.heap.size W6 W → Calls Tryz.prog 9 #[.agg #[.slice (some ⟨rb, 0, none⟩) 1 1, .slice none 0 0]] W fun e w' => e = .returned (.bool (shp [h1 p] [])) ∧ Below W.heap.size W w') := fun W hW => shaped_any W (HPS.out.up hW) (HCS.out.up hW)
    obtain ⟨R, hR⟩ : ∃ R, allQ [h1 p] [] T s = R := ⟨_, rfl⟩
    have HR : Hid (allQ [h1 p] [] T s = R) := hR
    rw [hR] at HAL
    obtain ⟨rn, hrn⟩ : ∃ rn, R.length = rn := ⟨_, rfl⟩
    have HRN : Hid (R.length = rn) := hrn
    rw [hrn] at HAL
    obtain ⟨q0, q1⟩ := HQC.out W6 (Below.refl _ _)
    clear hR hrn
    go_upto_region 9 with (go_at_call 12; refine Calls.mono HAL.out ?_; rintro e w7 ⟨v7, vs, rfl, hf7, hb7⟩; have HF7 : Hid (Fa W6.heap.size w7 v7 vs R rn) := hf7; have HB7 : Hid (Below W6.heap.size W6 w7) := hb7; obtain ⟨fa, fc, rfl⟩ := row_shape hf7.ow; clear hf7 hb7)
    clear q0 q1
    obtain ⟨q0, q1⟩ := HQC.out w7 HB7.out
    obtain ⟨SB, hSB⟩ : ∃ SB, shp [h1 p] [] = SB := ⟨_, rfl⟩
    have HSB : Hid (shp [h1 p] [] = SB) := hSB
    rw [hSB] at HSH
    clear hSB
    have HRT6 : Hid (∀ W, Below W6.heap.size W6 W → Calls Tryz.prog 13 #[.slice ta tl tc] W fun e w' => e = .returned (.int .i64 (Tr.rts T)) ∧ W = w') := fun W hW => Tr.roots_any W (HT6.out.up hW) HZ.out
    cases SB with
    | false =>
      have h0 : rn = 0 := by
        rw [← HRN.out, ← HR.out]
        unfold allQ
        rw [HSB.out]
        rfl
      subst h0
      go_wp2_with (go_at_call 9; refine Calls.mono (HSH.out _ HB7.out) ?_; rintro e w8 ⟨rfl, hb8⟩; have HB8 : Hid (Below W6.heap.size W6 w8) := below_trans HB7.out hb8; clear hb8)
      go_ret
      exact ⟨rfl, HW6.out.trans (HB8.out.mono HW6.out.size)⟩
    | true =>
      rcases @Tr.rts_fo T with ⟨r, hr, hr2⟩ | ⟨hr, hr2⟩
      · have HFO : Hid (Tr.Fo (Tr.kds T)) := ⟨r, hr⟩
        have HRA : Hid (R = alls [h1 p] [] T s tl) := by
          rw [← HR.out]
          unfold allQ
          rw [HSB.out, hr, HTL.out]
          rfl
        rw [hr2] at HRT6
        have d1 : decide ((r : Int) < 0) = false := by rw [decide_eq_false_iff_not]; omega
        clear hr hr2
        go_upto_region 13 with first | (go_at_call 9; refine Calls.mono (HSH.out _ HB7.out) ?_; rintro e w8 ⟨rfl, hb8⟩; have HB8 : Hid (Below W6.heap.size W6 w8) := below_trans HB7.out hb8; have HF8 : Hid (Fa W6.heap.size w8 (.slice fa rn fc) vs R rn) := HF7.out.up hb8; clear hb8) | (go_at_call 13; refine Calls.mono (HRT6.out _ HB8.out) ?_; rintro e w9 ⟨rfl, hw9⟩; subst hw9)
        clear q0 q1 d1
        go_loopg [9, 10] tl (fun gm v9 v10 wr => ∃ v k : Nat, v10 = .int .i64 (v : Int) ∧ v9 = .int .i64 (k : Int) ∧ Hid (v ≤ tl ∧ gm = tl - v) ∧ Hid ((alls [h1 p] [] T s v).length = k) ∧ Hid (Below w8.heap.size w8 wr))
        case atStart => exact ⟨0, 0, rfl, rfl, ⟨Nat.zero_le _, rfl⟩, rfl, Below.refl _ _⟩
        case round =>
          obtain ⟨v, k, rfl, rfl, HI, HK, HB⟩ := hrel
          by_cases hi : v < tl
          · have e1 : decide ((v : Int) < (tl : Int)) = true := by rw [decide_eq_true_eq]; omega
            have e2 : decide (v < tl) = true := by rw [decide_eq_true_eq]; omega
            have g1 : (v : Int) < (tl : Int) := by omega
            have g2 : v < tl := hi
            have g3 : (0 : Int) ≤ (v : Int) := by omega
            have HIL : Hid (v < tl) := hi
            have HVT : Hid (v < T.length) := by rw [HTL.out]; exact hi
            have HB6r : Hid (Below W6.heap.size W6 wr) := below_trans HB8.out HB.out
            obtain ⟨g, o, cap9, hge, hgc⟩ := (HT6.out.up HB6r.out).cells v HVT.out
            obtain ⟨e4, -, -⟩ := Value.slice.inj hge
            subst e4
            have c0 : wr.cell? ⟨g, o + v * 7, none⟩ = some (.string (T.getD v Tr.ndd).nm) := hgc 0 _ rfl
            have c1 : wr.cell? ⟨g, o + v * 7 + 1, none⟩ = some (.bool (T.getD v Tr.ndd).nd) := hgc 1 _ rfl
            have c2 : wr.cell? ⟨g, o + v * 7 + 2, none⟩ = some (.string (T.getD v Tr.ndd).fd) := hgc 2 _ rfl
            obtain ⟨y, hy⟩ : ∃ y, T.getD v Tr.ndd = y := ⟨_, rfl⟩
            have HY : Hid (T.getD v Tr.ndd = y) := hy
            rw [hy] at c0 c1 c2
            obtain ⟨p0, p1, p2⟩ := HPC.out wr HB6r.out
            obtain ⟨X, hX⟩ : ∃ X, Qy.hx p y = X := ⟨_, rfl⟩
            obtain ⟨Y, hY⟩ : ∃ Y, Qy.hy p y = Y := ⟨_, rfl⟩
            have HXY : Hid (alk (h1 p) y = (X && !Y)) := by rw [← hX, ← hY]; exact alk_hx p y HSB.out
            have HX : Hid (Qy.hx p y = X) := hX
            have HYY : Hid (Qy.hy p y = Y) := hY
            have HC2 : Hid (∀ W, Below wr.heap.size wr W → W.cell? ⟨g, o + v * 7 + 2, none⟩ = some (.string y.fd)) := fun W hW => below_cell hW c2
            have hwv := w64n v (by have h9 := HZ.out; unfold Tr.Sm at h9; rw [HTL.out] at h9; omega)
            have HWV : Hid (IntKind.i64.wrap ((v : Int) + 1) = (v : Int) + 1) := by rw [hwv]; rfl
            clear hi hge hgc hy hX hY
            go_upto_region 15 with fail
            go_cut [11] from 42 to 65 (fun v11 wd => v11 = .bool X ∧ Hid (Below wr.heap.size wr wd))
            case first =>
              have hXe := HX.out
              unfold Qy.hx at hXe
              by_cases n1 : p.nm = ⟨#[]⟩
              · have f1 : p.nm.toList.isEmpty = true := by rw [bs_empty]; exact decide_eq_true n1
                have f9 : p.nm.isEmpty = true := by rw [n1]; rfl
                rw [decide_eq_true n1] at hXe
                have : X = true := by rw [← hXe]; rfl
                subst this
                clear hXe
                rw [n1] at p0
                clear n1 f1 f9
                go_quiet (fail)
                go_wp2_with fail
                go_meet
                exact ⟨rfl, below_drewN (Below.refl _ _) _⟩
              · have f1 : p.nm.toList.isEmpty = false := by rw [bs_empty]; exact decide_eq_false n1
                rw [decide_eq_false n1, Bool.false_or] at hXe
                by_cases n2 : y.nm = p.nm
                · have f2 : (y.nm.toList == p.nm.toList) = true := by rw [str_eq]; exact decide_eq_true n2
                  rw [decide_eq_true n2, Bool.true_and] at hXe
                  rw [n2] at c0
                  clear n1 n2 f2
                  go_quiet (fail)
                  go_wp2_with fail
                  go_meet
                  exact ⟨by rw [← hXe], below_drewN (Below.refl _ _) _⟩
                · have f2 : (y.nm.toList == p.nm.toList) = false := by rw [str_eq]; exact decide_eq_false n2
                  rw [decide_eq_false n2, Bool.false_and] at hXe
                  subst hXe
                  clear n1 n2
                  go_quiet (fail)
                  go_wp2_with fail
                  go_meet
                  exact ⟨rfl, below_drewN (Below.refl _ _) _⟩
            case rest =>
              obtain ⟨rfl, HBc⟩ := hcut
              obtain ⟨wq, hwq⟩ : ∃ wq, wq = wc := ⟨_, rfl⟩
              rw [← hwq] at HBc ⊢
              clear hwq c0 c1 c2 p0 p1 p2
              have HB6c : Hid (Below W6.heap.size W6 wq) := below_trans HB6r.out HBc.out
              have c2 := HC2.out wq HBc.out
              obtain ⟨-, -, p2⟩ := HPC.out wq HB6c.out
              go_upto_region 16 with fail
              go_cut [78] from 66 to 78 (fun v78 wd => v78 = .bool Y ∧ Hid (Below wq.heap.size wq wd))
              case first =>
                have hYe := HYY.out
                unfold Qy.hy at hYe
                by_cases n1 : p.fd = ⟨#[]⟩
                · rw [decide_eq_true n1] at hYe
                  have : Y = false := by rw [← hYe]; rfl
                  subst this
                  rw [n1] at p2
                  clear hYe n1
                  go_quiet (fail)
                  go_wp2_with fail
                  go_meet
                  exact ⟨rfl, below_drewN (Below.refl _ _) _⟩
                · have f1 : p.fd.toList.isEmpty = false := by rw [bs_empty]; exact decide_eq_false n1
                  rw [decide_eq_false n1] at hYe
                  by_cases n2 : y.fd = p.fd
                  · have : Y = false := by rw [← hYe, decide_eq_true n2]; rfl
                    subst this
                    rw [n2] at c2
                    clear n1 n2 hYe
                    go_quiet (fail)
                    go_wp2_with fail
                    go_meet
                    exact ⟨rfl, below_drewN (Below.refl _ _) _⟩
                  · have f2 : (y.fd.toList == p.fd.toList) = false := by rw [str_eq]; exact decide_eq_false n2
                    have : Y = true := by rw [← hYe, decide_eq_false n2]; rfl
                    subst this
                    clear n1 n2 hYe
                    go_quiet (fail)
                    go_wp2_with fail
                    go_meet
                    exact ⟨rfl, below_drewN (Below.refl _ _) _⟩
              case rest =>
                obtain ⟨rfl, HBd⟩ := hcut
                have HB8d : Hid (Below w8.heap.size w8 wc) := below_trans (below_trans HB.out HBc.out) HBd.out
                clear c2 p2
                have HAN : Hid (alls [h1 p] [] T s (v + 1) = alls [h1 p] [] T s v ++ (if X && !Y then [[(v : Int)]] else [])) := by
                  show _ = _
                  rw [alls_one p T s HFO.out v HVT.out, HY.out, HXY.out]
                have hwv2 := HWV.out
                cases Y with
                | true =>
                  have HK2 : Hid ((alls [h1 p] [] T s (v + 1)).length = k) := by
                    show _ = _
                    rw [HAN.out, List.length_append, HK.out]
                    cases X <;> rfl
                  go_wp2_with fail
                  go_roundg (tl - (v + 1))
                  case measure => have := HI.out; have := HIL.out; omega
                  case rel => exact ⟨v + 1, k, by simp, rfl, ⟨HIL.out, rfl⟩, HK2, HB8d⟩
                | false =>
                  cases X with
                  | false =>
                    have HK2 : Hid ((alls [h1 p] [] T s (v + 1)).length = k) := by
                      show _ = _
                      rw [HAN.out, List.length_append, HK.out]
                      rfl
                    go_wp2_with fail
                    go_roundg (tl - (v + 1))
                    case measure => have := HI.out; have := HIL.out; omega
                    case rel => exact ⟨v + 1, k, by simp, rfl, ⟨HIL.out, rfl⟩, HK2, HB8d⟩
                  | true =>
                    have hA : alls [h1 p] [] T s (v + 1) = alls [h1 p] [] T s v ++ [[(v : Int)]] := HAN.out
                    have HK2 : Hid ((alls [h1 p] [] T s (v + 1)).length = k + 1) := by
                      show _ = _
                      rw [hA, List.length_append, HK.out]
                      rfl
                    obtain ⟨t9, ht9⟩ := alls_pre [h1 p] [] T s (v + 1) tl HIL.out
                    have HKR : Hid (k < rn ∧ R.getD k [] = [(v : Int)]) := by
                      have hk := HK.out
                      have hRe := HRA.out
                      rw [ht9, hA] at hRe
                      refine ⟨?_, ?_⟩
                      · rw [← HRN.out, hRe]
                        simp only [List.length_append, hk, List.length_cons, List.length_nil]
                        omega
                      · rw [hRe, List.append_assoc, List.getD_eq_getElem?_getD, List.getElem?_append_right (by omega), hk, Nat.sub_self]
                        rfl
                    have HFd : Hid (Fa W6.heap.size wc (.slice fa rn fc) vs R rn) := HF8.out.up HB8d.out
                    obtain ⟨x, hx⟩ : ∃ x, vs[k]? = some x := ⟨_, List.getElem?_eq_getElem (by rw [HF8.out.ln.1]; exact HKR.out.1)⟩
                    have hr0 := HFd.out.at' k x hx
                    rw [HKR.out.2] at hr0
                    have HX0 : Hid (wc.ownsRow W6.heap.size 3 1 x 1 (iC [(v : Int)])) := hr0
                    obtain ⟨xa, xc, hxv⟩ := row_shape HX0.out
                    subst hxv
                    obtain ⟨fg, fo, fcap, hfe, hfc⟩ := (row_rw HFd.out.ow).place (by have := HKR.out.1; omega)
                    obtain ⟨e4, -, -⟩ := Value.slice.inj hfe
                    subst e4
                    have c0 : wc.cell? ⟨fg, fo + k, none⟩ = some (.slice xa 1 xc) := hfc k _ hx
                    have HSI : Hid (∀ W, Below wc.heap.size wc W → ∀ u, Rw W u 1 (iC [(v : Int)]) → Calls Tryz.prog 14 #[.slice xa 1 xc, u] W fun e w' => e = .returned (.bool true) ∧ Below W.heap.size W w') := fun W hW u hu => same_intsC (l := [(v : Int)]) (show 1 < 4611686018427387904 by decide) W (row_rw (row_up HX0.out hW)) hu
                    have HLI : Hid (Rw (wc.alloc (.cells #[.int .i64 (v : Int)] 3)) (.slice (some ⟨wc.heap.size, 0, none⟩) 1 1) 1 (iC [(v : Int)])) := ⟨_, wc.heap.size, 0, 1, rfl, Nat.le_refl _, (fun h => by cases h), (fun _ => rfl), (fun j u hu => by have h9 : ([Value.int .i64 (v : Int)] : List Value)[j]? = some u := hu; rw [Nat.zero_add, Lib.cell_of_heap (heap_new wc _)]; simpa using h9)⟩
                    have d1 : decide ((rn : Int) ≤ (k : Int)) = false := by rw [decide_eq_false_iff_not]; have := HKR.out.1; omega
                    have d2 : decide (rn ≤ k) = false := by rw [decide_eq_false_iff_not]; have := HKR.out.1; omega
                    have d3 : (k : Int) < (rn : Int) := by have := HKR.out.1; omega
                    have d4 : k < rn := HKR.out.1
                    have hwk := w64n k (by have h9 := HZ.out; unfold Tr.Sm at h9; rw [HTL.out] at h9; have h8 := HK.out; have h7 : (alls [h1 p] [] T s v).length ≤ v := (by unfold alls; exact Nat.le_trans (List.length_filterMap_le _ _) (by simp)); have h6 := HIL.out; omega)
                    clear hr0 hfe hfc hx hA ht9
                    go_wp2_with (go_at_call 14; refine Calls.mono (HSI.out _ (bel_up _ _) _ HLI.out) ?_; rintro e w9 ⟨rfl, hb9⟩; have HB9 : Hid (Below w8.heap.size w8 w9) := below_trans HB8d.out (below_trans (bel_up _ _) hb9); clear hb9)
                    go_roundg (tl - (v + 1))
                    case measure => have := HI.out; have := HIL.out; omega
                    case rel => exact ⟨v + 1, k + 1, by simp, by simp, ⟨HIL.out, rfl⟩, HK2, HB9⟩
          · have e1 : decide ((v : Int) < (tl : Int)) = false := by rw [decide_eq_false_iff_not]; omega
            have e2 : decide (v < tl) = false := by rw [decide_eq_false_iff_not]; omega
            have hvt : v = tl := by have := HI.out; omega
            subst hvt
            have hkr : k = rn := by rw [← HK.out, ← HRN.out, HRA.out]
            subst hkr
            clear hi
            go_wp2_with fail
            go_ret
            exact ⟨rfl, HW6.out.trans ((below_trans HB8.out HB.out).mono HW6.out.size)⟩
      · have h0 : rn = 0 := by
          rw [← HRN.out, ← HR.out]
          unfold allQ
          rw [HSB.out, hr]
          rfl
        subst h0
        rw [hr2] at HRT6
        clear hr hr2
        go_wp2_with first | (go_at_call 9; refine Calls.mono (HSH.out _ HB7.out) ?_; rintro e w8 ⟨rfl, hb8⟩; have HB8 : Hid (Below W6.heap.size W6 w8) := below_trans HB7.out hb8; clear hb8) | (go_at_call 13; refine Calls.mono (HRT6.out _ HB8.out) ?_; rintro e w9 ⟨rfl, hw9⟩; subst hw9)
        go_ret
        exact ⟨rfl, HW6.out.trans (HB8.out.mono HW6.out.size)⟩
end Go.Proofs.YtcmhbcfgikmblaaGreatDoor.Qy
namespace Go.Proofs.YtcmhbcfgikmblaaGreatDoor
open Go.Proofs.YtcmhbcfgikmblaaGreatDoor.Qy
open Go.ChangeShapes Go.WideShapes Go.ChangeAt Go.RowKit
open Go.ChangeMaps (open_string shut_string)
open Go.Deep

theorem ownE : ownKnob Tryz.prog.godebug = none := by kernel_rfl
theorem laidOutE : laidOutB Tryz.prog = true := by kernel_rfl
/-- A world for the witness: the settled one, the tables holding what their initialisers lay. -/
noncomputable def laidWorld (os : Os) : World :=
  { World.holding Tryz.prog os ⟨#[], #[], []⟩ with heap := ((((World.holding Tryz.prog os ⟨#[], #[], []⟩).heap.modify 2 fun
      | .cells _ t frozen => .cells #[.int .u8 0, .int .u8 1, .int .u8 28, .int .u8 2, .int .u8 29, .int .u8 14, .int .u8 24, .int .u8 3, .int .u8 30, .int .u8 22, .int .u8 20, .int .u8 15, .int .u8 25, .int .u8 17, .int .u8 4, .int .u8 8, .int .u8 31, .int .u8 27, .int .u8 13, .int .u8 23, .int .u8 21, .int .u8 19, .int .u8 16, .int .u8 7, .int .u8 26, .int .u8 12, .int .u8 18, .int .u8 6, .int .u8 11, .int .u8 5, .int .u8 10, .int .u8 9] t frozen
      | o => o).modify 3 fun
      | .cells _ t frozen => .cells #[.int .u8 0, .int .u8 1, .int .u8 56, .int .u8 2, .int .u8 57, .int .u8 49, .int .u8 28, .int .u8 3, .int .u8 61, .int .u8 58, .int .u8 42, .int .u8 50, .int .u8 38, .int .u8 29, .int .u8 17, .int .u8 4, .int .u8 62, .int .u8 47, .int .u8 59, .int .u8 36, .int .u8 45, .int .u8 43, .int .u8 51, .int .u8 22, .int .u8 53, .int .u8 39, .int .u8 33, .int .u8 30, .int .u8 24, .int .u8 18, .int .u8 12, .int .u8 5, .int .u8 63, .int .u8 55, .int .u8 48, .int .u8 27, .int .u8 60, .int .u8 41, .int .u8 37, .int .u8 16, .int .u8 46, .int .u8 35, .int .u8 44, .int .u8 21, .int .u8 52, .int .u8 32, .int .u8 23, .int .u8 11, .int .u8 54, .int .u8 26, .int .u8 40, .int .u8 15, .int .u8 34, .int .u8 20, .int .u8 31, .int .u8 10, .int .u8 25, .int .u8 14, .int .u8 19, .int .u8 9, .int .u8 13, .int .u8 8, .int .u8 7, .int .u8 6] t frozen
      | o => o).modify 1 fun
      | .cells _ t frozen => .cells #[.int .u64 1, .int .u64 10, .int .u64 100, .int .u64 1000, .int .u64 10000, .int .u64 100000, .int .u64 1000000, .int .u64 10000000, .int .u64 100000000, .int .u64 1000000000, .int .u64 10000000000, .int .u64 100000000000, .int .u64 1000000000000, .int .u64 10000000000000, .int .u64 100000000000000, .int .u64 1000000000000000, .int .u64 10000000000000000, .int .u64 100000000000000000, .int .u64 1000000000000000000, .int .u64 10000000000000000000] t frozen
      | o => o) }
theorem laid_met (os : Os) : laidMet Tryz.prog Rows.queryHeadsRow.laid ((laidWorld os).forCall (fun _ _ => 0) ⟨#[], #[.agg #[.string .empty, .bool false, .string .empty, .string .empty, .int .i64 0], .slice none 0 0, .string .empty], []⟩).memory :=
  laidMet_of_run' 8 (by kernel_rfl) (by kernel_rfl)
theorem reads (os : Os) {H : Type} (enc : TypeId × Value → H) : ∃ places, DataW.whole enc Tryz.prog ((laidWorld os).forCall (fun _ _ => 0) ⟨#[], #[.agg #[.string .empty, .bool false, .string .empty, .string .empty, .int .i64 0], .slice none 0 0, .string .empty], []⟩).memory Tryz.f4.params.toList Rows.queryHeadsSpec.vars false (#[.agg #[.string .empty, .bool false, .string .empty, .string .empty, .int .i64 0], .slice none 0 0, .string .empty] : Array Value).toList 8 = some ([.agg [.lit (.string []), .lit (.bool false), .lit (.string []), .lit (.string []), .lit (.int .i64 0)], .nil, .lit (.string [])], [], places) :=
  ⟨[], by kernel_rfl⟩

set_option maxRecDepth 100000 in
theorem queryHeads_lifted (os : Os) (started : os.Started) (H : Type) (enc : TypeId × Value → H) (F : Stop.Interp) :
    ReturnsInHanded {} Tryz.checked os 4 .any ((OpenSpec.ofChange Rows.queryHeadsSpec).preRow enc Tryz.prog Tryz.f4 Rows.queryHeadsRow.domain false Rows.queryHeadsRow.laid) (((OpenSpec.ofChange Rows.queryHeadsSpec).at F).post enc Tryz.prog Tryz.f4 false true false false) := by
  obtain ⟨places, hx⟩ := reads os enc
  refine returnsInHanded_of_row (C := Tryz.checked) (s := OpenSpec.ofChange Rows.queryHeadsSpec) ownE started (by kernel_rfl) Tryz.func4
    (witness_row_at (enc := enc) (C := Tryz.checked) false (laidWorld os) #[.agg #[.string .empty, .bool false, .string .empty, .string .empty, .int .i64 0], .slice none 0 0, .string .empty] rfl (by kernel_rfl) (by kernel_rfl) (by kernel_rfl)
      (OpenSpec.preRow_of_cond 8 hx (by kernel_rfl) (fun k hk => by cases hk) (by kernel_rfl) (laid_met os))) ?_
  intro W base args ds gs before hval0 hW _ _ hsz0 hL _ _
  have hsz : (DataW.weightsEach Tryz.prog (Tryz.f4.params.toList ++ Rows.queryHeadsSpec.plain.varTypes Tryz.prog) (ds ++ gs)).all (· ≤ reachBytes) = true := hsz0
  clear hsz0
  have hval : ∀ (j : Nat) t v, Tryz.f4.params[j]? = some t → args[j]? = some v → Value.okWide Tryz.prog W .any base t v := hval0
  have hW' := hW
  obtain ⟨p, q, hA0, hV, rfl, _, _⟩ := hW
  have hA : DataW.TrodAll enc Tryz.prog W 0 (fun _ => true) true Tryz.f4.params.toList args.toList ds p := hA0
  rw [Tryz.params4] at hA hval hsz
  obtain ⟨v0, vs0, d0, ds0, p0, q0, hargs, rfl, rfl, h0, r0⟩ := trodAll_cons hA
  obtain ⟨v1, vs1, d1, ds1, p1, q1, rfl, rfl, rfl, h1, r1⟩ := trodAll_cons r0
  obtain ⟨v2, vs2, d2, ds2, p2, q2, rfl, rfl, rfl, h2, r2⟩ := trodAll_cons r1
  obtain ⟨rfl, rfl, rfl⟩ := trodAll_nil r2
  obtain rfl : args = #[v0, v1, v2] := by cases args; simp_all
  obtain ⟨rfl, rfl⟩ := trodVars_none hV
  have lt0 : ∀ x ∈ p0, x.block < W.heap.size := by obtain ⟨m, hm⟩ := h0; exact DataW.trod_lt m _ _ _ hm
  have k0 := h0
  have lt1 : ∀ x ∈ p1, x.block < W.heap.size := by obtain ⟨m, hm⟩ := h1; exact DataW.trod_lt m _ _ _ hm
  have k1 := h1
  have lt2 : ∀ x ∈ p2, x.block < W.heap.size := by obtain ⟨m, hm⟩ := h2; exact DataW.trod_lt m _ _ _ hm
  have k2 := h2
  obtain ⟨x0, rfl⟩ := open_pn (hval 0 36 v0 rfl rfl) h0
  have B1 : (bndW H).B 37 d1 := fun n hn => by have := List.all_eq_true.1 hsz _ (DataW.weights_mem_each (j := 1) rfl rfl n hn); simpa using this
  obtain ⟨t1, hT1, hS1⟩ := open_nodes _ B1 (hval 1 37 v1 rfl rfl) h1
  obtain ⟨s2, rfl, rfl, rfl, _⟩ := open_string Tryz.underlying9 (hval 2 9 v2 rfl rfl) h2
  clear hA0 hval0 hL
  refine (queryHeads_any x0 s2 W hT1 hS1).mono fun e W' ⟨he, bel⟩ => ?_
  subst he
  exact ⟨_, rfl, _, _, _, [], _, [], hW', trodAll_mk1 (shut_bool Tryz.underlying4 _), (trodAll_cons_mk (Below.trod laidOutE (by kernel_rfl) (of_decide_eq_true (by kernel_rfl)) k0 bel lt0) (trodAll_cons_mk (Below.trod laidOutE (by kernel_rfl) (of_decide_eq_true (by kernel_rfl)) k1 bel lt1) (trodAll_cons_mk (Below.trod laidOutE (by kernel_rfl) (of_decide_eq_true (by kernel_rfl)) k2 bel lt2) trodAll_mk0))), rfl, bel.frame _, fun h => by cases h⟩

theorem queryHeads_said : Rows.QueryHeadsSaid :=
  OpenClaim.holds_of_cond 4 Tryz.f4 rfl rfl rfl rfl rfl rfl rfl ⟨rfl, rfl, rfl, rfl, rfl⟩ rfl rfl rfl rfl rfl (by kernel_rfl) Tryz.func4 (by kernel_rfl)
    (of_decide_eq_true (by kernel_rfl)) (by unfold Func.isWrapper; first | (rw [if_pos (by decide +kernel)]; kernel_rfl) | (rw [if_neg (by decide +kernel)]; exact ⟨rfl, rfl⟩))
    (fun os started H enc _ F => by rw [OpenClaim.pre_eq_preRow]; exact queryHeads_lifted os started H enc F)
theorem queryHeads_plain (f : FuncId) (fn : Func) (hf : Tryz.pinned.checked.prog.funcNamed "trellis/trellislaw20.QueryHeads" = some f) (hfn : Tryz.pinned.checked.prog.funcs[f]? = some fn) :
    false = Tryz.pinned.checked.prog.looks [] ∧ ∀ (j : Nat) t, fn.params[j]? = some t → Tryz.pinned.checked.prog.wantsStandIn t = false := by
  obtain rfl : f = 4 := Option.some.inj ((show Tryz.prog.funcNamed "trellis/trellislaw20.QueryHeads" = some 4 by kernel_rfl).symm.trans hf) |>.symm
  obtain rfl : fn = Tryz.f4 := (Option.some.inj (Tryz.func4.symm.trans hfn)).symm
  refine ⟨by kernel_rfl, fun j t ht => ?_⟩
  rw [Tryz.params4] at ht
  have hm : t ∈ [36, 37, 9] := by simpa using Array.mem_of_getElem? ht
  have hall : ∀ u ∈ [36, 37, 9], Tryz.prog.wantsStandIn u = false := by
    intro u hu
    simp only [List.mem_cons, List.not_mem_nil, or_false] at hu
    rcases hu with rfl | rfl | rfl <;> kernel_rfl
  exact hall t hm
theorem queryHeads_holds : Rows.QueryHeadsCardSaid :=
  Claim7.holds_tied_plain_at .later [] _ _ _ _ queryHeads_said (fun _ h => by cases h) (by kernel_rfl) (fun _ h => by cases h) queryHeads_row_tie rfl ⟨rfl, rfl⟩ (by kernel_rfl) rfl queryHeads_plain (by kernel_rfl)
#print axioms queryHeads_holds
end Go.Proofs.YtcmhbcfgikmblaaGreatDoor
