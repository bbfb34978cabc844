import Derived.Test.YtodncbkdlnepjaaFwi
namespace Go.Proofs.Ytodncbkdlnepjaa
open Go.RowKit Go.Maps

set_option maxRecDepth 100000 in
set_option maxHeartbeats 1000000 in
theorem sound_any {v0 v1 v2 : Value} {nT nS : Nat} {P : List Pd} (w : World) (h : Gm w v0 v1 v2 nT nS P) (hz : Gz nT nS P) :
    Calls Try.prog 27 #[.agg #[v0, v1, v2]] w fun e w' => e = .returned (.bool (snd nT nS P)) ∧ Below w.heap.size w w' := by
  have HG : Hid (Gm w v0 v1 v2 nT nS P) := h
  have HZ : Hid _ := hz
  obtain ⟨a0, c0, a1, c1, a2, c2, rfl, rfl, rfl⟩ := h.form
  clear h hz
  obtain ⟨n, hn⟩ : ∃ n, P.length = n := ⟨_, rfl⟩
  have HN : Hid (P.length = n) := hn
  rw [hn] at HG ⊢
  clear hn
  obtain ⟨W1, hW1⟩ : ∃ W1, W1 = w.alloc (.cells #[.slice a0 nT c0, .slice a1 nS c1, .slice a2 n c2] 26) := ⟨_, rfl⟩
  have HW : Hid (W1 = w.alloc (.cells #[.slice a0 nT c0, .slice a1 nS c1, .slice a2 n c2] 26)) := hW1
  have HX : Hid (W1.heap[w.heap.size]? = some (.cells #[.slice a0 nT c0, .slice a1 nS c1, .slice a2 n c2] 26 (0, 0))) := by rw [hW1]; exact heap_new w _
  have HB1 : Hid (Below w.heap.size w W1) := by rw [hW1]; exact bel_up _ _
  obtain ⟨gb, hgb⟩ : ∃ gb, w.heap.size = gb := ⟨_, rfl⟩
  clear hW1
  rw [hgb] at HX
  have p0 := rcell HX.out 0 (.slice a0 nT c0) rfl
  have p1 := rcell HX.out 1 (.slice a1 nS c1) rfl
  have p2 := rcell HX.out 2 (.slice a2 n c2) rfl
  by_cases hb : 1 ≤ nT ∧ nT ≤ 64 ∧ nS ≤ 128
  rotate_left
  · rw [show snd nT nS P = false from by
      unfold snd
      rw [Bool.and_eq_false_iff]
      left
      rw [← Bool.not_eq_true, Bool.and_eq_true, Bool.and_eq_true, decide_eq_true_eq, decide_eq_true_eq, decide_eq_true_eq]
      exact hb]
    by_cases h1 : 1 ≤ nT
    · have d1 : decide ((nT : Int) < 1) = false := decide_eq_false (by omega)
      have d1' : ¬ nT < 1 := by omega
      have d1'' : ¬ nT = 0 := by omega
      have d1b : (nT == 0) = false := by rw [beq_eq_false_iff_ne]; exact d1''
      by_cases h2 : nT ≤ 64
      · have d2 : decide ((64 : Int) < (nT : Int)) = false := decide_eq_false (by omega)
        have d2' : decide (64 < nT) = false := decide_eq_false (by omega)
        have d3 : decide ((128 : Int) < (nS : Int)) = true := decide_eq_true (by omega)
        have d3' : decide (128 < nS) = true := decide_eq_true (by omega)
        clear hb h1 h2
        go_enter Try.func27, Try.ntmps27
        go_upto_region 1 with fail
        rw [← HW.out]
        go_wp2_with fail
        go_ret
        exact ⟨rfl, HB1.out⟩
      · have d2 : decide ((64 : Int) < (nT : Int)) = true := decide_eq_true (by omega)
        have d2' : decide (64 < nT) = true := decide_eq_true (by omega)
        clear hb h1 h2
        go_enter Try.func27, Try.ntmps27
        go_upto_region 1 with fail
        rw [← HW.out]
        go_wp2_with fail
        go_ret
        exact ⟨rfl, HB1.out⟩
    · have d1 : decide ((nT : Int) < 1) = true := decide_eq_true (by omega)
      have d1' : decide (nT < 1) = true := decide_eq_true (by omega)
      obtain rfl : nT = 0 := by omega
      clear hb h1
      go_enter Try.func27, Try.ntmps27
      go_upto_region 1 with fail
      rw [← HW.out]
      go_wp2_with fail
      go_ret
      exact ⟨rfl, HB1.out⟩
  have d1 : decide ((nT : Int) < 1) = false := decide_eq_false (by omega)
  have d1' : ¬ nT < 1 := by omega
  have d1'' : ¬ nT = 0 := by omega
  have d1b : (nT == 0) = false := by rw [beq_eq_false_iff_ne]; exact d1''
  have d2 : decide ((64 : Int) < (nT : Int)) = false := decide_eq_false (by omega)
  have d2' : decide (64 < nT) = false := decide_eq_false (by omega)
  have d3 : decide ((128 : Int) < (nS : Int)) = false := decide_eq_false (by omega)
  have d3' : decide (128 < nS) = false := decide_eq_false (by omega)
  have HSN : Hid (snd nT nS P = P.all (sndP nT nS)) := by
    show snd nT nS P = _
    unfold snd
    rw [decide_eq_true hb.1, decide_eq_true hb.2.1, decide_eq_true hb.2.2]
    rfl
  rw [HSN.out]
  clear hb HSN
  go_enter Try.func27, Try.ntmps27
  go_upto_region 1 with fail
  rw [← HW.out]
  go_upto_region 4 with fail
  clear d1 d1' d1'' d1b d2 d2' d3 d3' HW p0 p1 p2
  have HGB : Hid (w.heap.size = gb) := hgb
  clear hgb
  go_loopg [24] n (fun gm v24 wr => ∃ i : Nat, v24 = .int .i64 (i : Int) ∧ Hid (Below W1.heap.size W1 wr) ∧ Hid (i ≤ n ∧ gm = n - i) ∧ Hid ((P.take i).all (sndP nT nS) = true))
  case atStart => exact ⟨0, rfl, Below.refl _ _, ⟨Nat.zero_le _, rfl⟩, rfl⟩
  case round =>
    obtain ⟨i, rfl, HBW, HI, HA⟩ := hrel
    by_cases hi : i < n
    · have hp := HG.out.p
      rw [HN.out] at hp
      obtain ⟨g, o, cap, e0, hc⟩ := hp.place (by omega)
      obtain ⟨rfl, -, rfl⟩ := Value.slice.inj e0
      have hil : i < P.length := by have := HN.out; omega
      have hBW := below_trans HB1.out HBW.out
      obtain ⟨q0, q1⟩ := pf_get P i hil
      have k0 := below_cell hBW (hc _ _ q0)
      have k1 := below_cell hBW (hc _ _ q1)
      have HM : Hid (P.getD i pfd ∈ P) := mem_getD hil pfd
      obtain ⟨x, hx⟩ : ∃ x, P.getD i pfd = x := ⟨_, rfl⟩
      rw [hx] at k0 k1 HM
      have HXE : Hid (P.getD i pfd = x) := hx
      obtain ⟨xs, xv, xl⟩ := x
      dsimp only at k0 k1
      rw [← Nat.add_assoc] at k1
      have HR : Hid (Rw w xv xl.length (flat rf xl)) := HG.out.r _ HM.out
      have hrz := HZ.out.r _ HM.out
      dsimp only at hrz
      have HRZ : Hid (xl.length * 40 + 4096 ≤ 140737488355328) := hrz
      clear hrz
      obtain ⟨ax, cx, hxv⟩ := HR.out.form
      rw [hxv] at k1 HR HXE
      have e1 : decide ((i : Int) < (n : Int)) = true := by rw [decide_eq_true_eq]; omega
      have e2 : decide (i < n) = true := by rw [decide_eq_true_eq]; omega
      have e5 : (i : Int) < (n : Int) := by omega
      have e6 : i < n := hi
      have HIL : Hid (i < n) := hi
      clear e0 hc hx q0 q1 hBW hil hi hxv hp HM
      go_upto_region 6 with fail
      obtain ⟨W2, hW2⟩ : ∃ W2, W2 = wr.alloc (.cells #[.int .i64 xs, .slice ax xl.length cx] 53) := ⟨_, rfl⟩
      rw [← hW2]
      have HXR : Hid (W2.heap[wr.heap.size]? = some (.cells #[.int .i64 xs, .slice ax xl.length cx] 53 (0, 0))) := by rw [hW2]; exact heap_new wr _
      have HB2 : Hid (Below W1.heap.size W1 W2) := by rw [hW2]; exact below_trans HBW.out (bel_up _ _)
      obtain ⟨rb, hrb⟩ : ∃ rb, wr.heap.size = rb := ⟨_, rfl⟩
      rw [hrb] at HXR ⊢
      clear hW2 hrb k0 k1 e1 e2 e5 e6
      have r0 := rcell HXR.out 0 (.int .i64 xs) rfl
      have r1 := rcell HXR.out 1 (.slice ax xl.length cx) rfl
      have p0 := below_cell HB2.out (rcell HX.out 0 (.slice a0 nT c0) rfl)
      have p1 := below_cell HB2.out (rcell HX.out 1 (.slice a1 nS c1) rfl)
      have p2 := below_cell HB2.out (rcell HX.out 2 (.slice (some ⟨g, o, none⟩) n c2) rfl)
      have hwr := w64n i (by have := HZ.out.p; have := HN.out; have := HIL.out; omega)
      by_cases h1 : xs < -1
      · have d1 : decide (xs < -1) = true := decide_eq_true h1
        have H1 : Hid _ := h1
        clear h1
        go_wp2_with fail
        go_ret
        refine ⟨ret_bool ?_, below_trans HB1.out HB2.out⟩
        symm
        refine all_not P pfd _ i (by have := HN.out; have := HIL.out; omega) ?_
        rw [HXE.out]
        unfold sndP
        rw [decide_eq_false (by have := H1.out; show ¬ -1 ≤ xs; omega)]; rfl
      have d1 : decide (xs < -1) = false := decide_eq_false h1
      have H1 : Hid (¬ xs < -1) := h1
      clear h1
      by_cases h2 : (nS : Int) ≤ xs
      · have d2 : decide ((nS : Int) ≤ xs) = true := decide_eq_true h2
        have H2 : Hid ((nS : Int) ≤ xs) := h2
        clear h2
        go_wp2_with fail
        go_ret
        refine ⟨ret_bool ?_, below_trans HB1.out HB2.out⟩
        symm
        refine all_not P pfd _ i (by have := HN.out; have := HIL.out; omega) ?_
        rw [HXE.out]
        unfold sndP
        rw [decide_eq_false (p := xs < (nS : Int)) (by have := H2.out; omega), Bool.false_and, Bool.and_false]
      have d2 : decide ((nS : Int) ≤ xs) = false := decide_eq_false h2
      have H2 : Hid (xs < (nS : Int)) := by show xs < (nS : Int); omega
      clear h2
      have HGN : Hid (Gm W2 (.slice a0 nT c0) (.slice a1 nS c1) (.slice (some ⟨g, o, none⟩) n c2) nT nS P) := HG.out.up (below_trans HB1.out HB2.out)
      have HRN : Hid _ := HR.out.up (below_trans HB1.out HB2.out)
      cases hw : wth (nT + nS) xl with
      | false =>
        have HWT : Hid _ := hw
        go_wp2_with (go_at_call 28; refine (within_any W2 HGN.out HZ.out HRN.out (by have := HRZ.out; omega)).mono ?_; rintro e w2 ⟨rfl, hb2⟩; have B2 : Hid _ := hb2; clear hb2; rw [hw])
        go_ret
        refine ⟨ret_bool ?_, below_trans HB1.out (below_trans HB2.out B2.out)⟩
        symm
        refine all_not P pfd _ i (by have := HN.out; have := HIL.out; omega) ?_
        rw [HXE.out]
        unfold sndP
        dsimp only
        rw [HWT.out, Bool.and_false, Bool.and_false]
      | true =>
        have HWT : Hid _ := hw
        go_wp2_with (go_at_call 28; refine (within_any W2 HGN.out HZ.out HRN.out (by have := HRZ.out; omega)).mono ?_; rintro e w2 ⟨rfl, hb2⟩; have B2 : Hid _ := hb2; clear hb2; rw [hw])
        go_roundg (n - (i + 1))
        case measure => have := HI.out; have := HIL.out; omega
        case rel => exact ⟨i + 1, by first | rfl | (rw [show (i : Int) + 1 = ((i + 1 : Nat) : Int) by omega]), below_trans HB2.out B2.out, ⟨HIL.out, rfl⟩, all_take P pfd _ i (by have := HN.out; have := HIL.out; omega) HA.out (by
          rw [HXE.out]
          unfold sndP
          dsimp only
          rw [HWT.out, decide_eq_true H2.out, decide_eq_true (by have := H1.out; show -1 ≤ xs; omega)]
          rfl)⟩
    · have e1 : decide ((i : Int) < (n : Int)) = false := by rw [decide_eq_false_iff_not]; omega
      have e2 : decide (i < n) = false := by rw [decide_eq_false_iff_not]; omega
      have HIN : Hid (i = n) := by have := HI.out; show i = n; omega
      clear hi
      go_wp2_with fail
      go_ret
      refine ⟨?_, below_trans HB1.out HBW.out⟩
      refine ret_bool ?_
      have := HA.out
      rw [HIN.out, ← HN.out, List.take_length] at this
      exact this.symm
end Go.Proofs.Ytodncbkdlnepjaa
