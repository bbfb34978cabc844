import Derived.Test.YtdchopljojlcpaaRri
namespace Go.Proofs.Ytdchopljojlcpaa
open Go.RowKit Go.Maps

set_option maxRecDepth 100000 in
set_option maxHeartbeats 16000000 in
theorem sparedRule_any {ue ui ut ua : Value} {r : Rul} {B ge ke gi ki gt kt ga ka : Nat} (w : World) (h : Rmr B w ge ke gi ki gt kt ga ka r) (hy : Rlm w ue ui ut ua r) (hz : Rsz r) :
    Calls Try.prog 9 #[rv (.slice (some ⟨ge, 0, none⟩) r.re.length ke) (.slice (some ⟨gi, 0, none⟩) r.inn.length ki) (.slice (some ⟨gt, 0, none⟩) r.tes.length kt) (.slice (some ⟨ga, 0, none⟩) r.act.length ka) r, rv ue ui ut ua r] w fun e w' => e = .returned (.bool true) ∧ Below w.heap.size w w' := by
  obtain ⟨e1, f1, e2, f2, e3, f3, e4, f4, rfl, rfl, rfl, rfl⟩ := hy.form
  obtain ⟨W1, hW1⟩ : ∃ W1, W1 = (w.alloc (.cells #[.int .i64 r.trm, .int .i64 r.pat, .slice (some ⟨ge, 0, none⟩) r.re.length ke, .string r.lit, .slice (some ⟨gi, 0, none⟩) r.inn.length ki, .slice (some ⟨gt, 0, none⟩) r.tes.length kt, .slice (some ⟨ga, 0, none⟩) r.act.length ka] 28)).alloc (.cells #[.int .i64 r.trm, .int .i64 r.pat, .slice e1 r.re.length f1, .string r.lit, .slice e2 r.inn.length f2, .slice e3 r.tes.length f3, .slice e4 r.act.length f4] 28) := ⟨_, rfl⟩
  have B1 : Hid (Below w.heap.size w W1) := by rw [hW1]; exact below_trans (bel_up _ _) (bel_up _ _)
  have HP1 : Hid (W1.heap[w.heap.size]? = some (.cells #[.int .i64 r.trm, .int .i64 r.pat, .slice (some ⟨ge, 0, none⟩) r.re.length ke, .string r.lit, .slice (some ⟨gi, 0, none⟩) r.inn.length ki, .slice (some ⟨gt, 0, none⟩) r.tes.length kt, .slice (some ⟨ga, 0, none⟩) r.act.length ka] 28 (0, 0))) := by rw [hW1, (bel_up _ _).block _ (by simp)]; exact heap_new w _
  have HP2 : Hid (W1.heap[w.heap.size + 1]? = some (.cells #[.int .i64 r.trm, .int .i64 r.pat, .slice e1 r.re.length f1, .string r.lit, .slice e2 r.inn.length f2, .slice e3 r.tes.length f3, .slice e4 r.act.length f4] 28 (0, 0))) := by
    rw [hW1]
    have := heap_new (w.alloc (.cells #[.int .i64 r.trm, .int .i64 r.pat, .slice (some ⟨ge, 0, none⟩) r.re.length ke, .string r.lit, .slice (some ⟨gi, 0, none⟩) r.inn.length ki, .slice (some ⟨gt, 0, none⟩) r.tes.length kt, .slice (some ⟨ga, 0, none⟩) r.act.length ka] 28)) (.cells #[.int .i64 r.trm, .int .i64 r.pat, .slice e1 r.re.length f1, .string r.lit, .slice e2 r.inn.length f2, .slice e3 r.tes.length f3, .slice e4 r.act.length f4] 28)
    rw [World.size_alloc] at this
    exact this
  have HW : Hid (W1 = (w.alloc (.cells #[.int .i64 r.trm, .int .i64 r.pat, .slice (some ⟨ge, 0, none⟩) r.re.length ke, .string r.lit, .slice (some ⟨gi, 0, none⟩) r.inn.length ki, .slice (some ⟨gt, 0, none⟩) r.tes.length kt, .slice (some ⟨ga, 0, none⟩) r.act.length ka] 28)).alloc (.cells #[.int .i64 r.trm, .int .i64 r.pat, .slice e1 r.re.length f1, .string r.lit, .slice e2 r.inn.length f2, .slice e3 r.tes.length f3, .slice e4 r.act.length f4] 28)) := hW1
  have HM : Hid _ := h.up B1.out
  have HY : Hid _ := hy.up B1.out
  have HZ : Hid _ := hz
  have HK : Hid (r.re.length + 3 ≤ ke ∧ r.inn.length + 3 ≤ ki ∧ r.tes.length + 3 ≤ kt ∧ r.act.length + 3 ≤ ka) := ⟨(row_cap h.e).1, (row_cap h.i).1, (row_cap h.t).1, (row_cap h.a).1⟩
  clear h hy hW1 hz
  obtain ⟨p0, p1, p2, p3, p4, p5, p6⟩ := box7 HP1.out
  obtain ⟨q0, q1, q2, q3, q4, q5, q6⟩ := box7 (((bel_up W1 (.cells #[.int .i64 r.trm, .int .i64 r.pat, .slice (some ⟨ge, 0, none⟩) r.re.length ke, .string r.lit, .slice (some ⟨gi, 0, none⟩) r.inn.length ki, .slice (some ⟨gt, 0, none⟩) r.tes.length kt, .slice (some ⟨ga, 0, none⟩) r.act.length ka] 28)).block _ (lt_of_heap HP2.out)).trans HP2.out)
  obtain ⟨WH, hWH⟩ : ∃ WH, WH = (W1.alloc (.cells #[.int .i64 r.trm, .int .i64 r.pat, .slice (some ⟨ge, 0, none⟩) r.re.length ke, .string r.lit, .slice (some ⟨gi, 0, none⟩) r.inn.length ki, .slice (some ⟨gt, 0, none⟩) r.tes.length kt, .slice (some ⟨ga, 0, none⟩) r.act.length ka] 28)).alloc (.cells #[.int .i64 r.trm, .int .i64 r.pat, .slice e1 r.re.length f1, .string r.lit, .slice e2 r.inn.length f2, .slice e3 r.tes.length f3, .slice e4 r.act.length f4] 28) := ⟨_, rfl⟩
  have HWH : Hid (WH = (W1.alloc (.cells #[.int .i64 r.trm, .int .i64 r.pat, .slice (some ⟨ge, 0, none⟩) r.re.length ke, .string r.lit, .slice (some ⟨gi, 0, none⟩) r.inn.length ki, .slice (some ⟨gt, 0, none⟩) r.tes.length kt, .slice (some ⟨ga, 0, none⟩) r.act.length ka] 28)).alloc (.cells #[.int .i64 r.trm, .int .i64 r.pat, .slice e1 r.re.length f1, .string r.lit, .slice e2 r.inn.length f2, .slice e3 r.tes.length f3, .slice e4 r.act.length f4] 28)) := hWH
  have HH1 : Hid (WH.heap[W1.heap.size]? = some (.cells #[.int .i64 r.trm, .int .i64 r.pat, .slice (some ⟨ge, 0, none⟩) r.re.length ke, .string r.lit, .slice (some ⟨gi, 0, none⟩) r.inn.length ki, .slice (some ⟨gt, 0, none⟩) r.tes.length kt, .slice (some ⟨ga, 0, none⟩) r.act.length ka] 28 (0, 0))) := by rw [hWH, (bel_up _ _).block _ (by simp)]; exact heap_new W1 _
  have HH2 : Hid (WH.heap[W1.heap.size + 1]? = some (.cells #[.int .i64 r.trm, .int .i64 r.pat, .slice e1 r.re.length f1, .string r.lit, .slice e2 r.inn.length f2, .slice e3 r.tes.length f3, .slice e4 r.act.length f4] 28 (0, 0))) := by
    rw [hWH]
    have := heap_new (W1.alloc (.cells #[.int .i64 r.trm, .int .i64 r.pat, .slice (some ⟨ge, 0, none⟩) r.re.length ke, .string r.lit, .slice (some ⟨gi, 0, none⟩) r.inn.length ki, .slice (some ⟨gt, 0, none⟩) r.tes.length kt, .slice (some ⟨ga, 0, none⟩) r.act.length ka] 28)) (.cells #[.int .i64 r.trm, .int .i64 r.pat, .slice e1 r.re.length f1, .string r.lit, .slice e2 r.inn.length f2, .slice e3 r.tes.length f3, .slice e4 r.act.length f4] 28)
    rw [World.size_alloc] at this
    exact this
  have BH : Hid (Below W1.heap.size W1 WH) := by rw [hWH]; exact below_trans (bel_up _ _) (bel_up _ _)
  clear hWH
  go_enter Try.func9, Try.ntmps9
  go_upto_region 1 with fail
  rw [← HW.out]
  go_upto_region 3 with (go_at_call 21; rw [← HWH.out]; refine (sameRules_any WH (HM.out.up BH.out).rlm (HY.out.up BH.out) HH1.out HH2.out HZ.out).mono ?_; rintro e w2 ⟨rfl, hb2⟩; have B2 : Hid (Below W1.heap.size W1 w2) := below_trans BH.out hb2; clear hb2)
  clear p0 p1 p2 p3 p4 p5 p6 q0 q1 q2 q3 q4 q5 q6
  have P1 : Hid (∀ W, Below W1.heap.size W1 W → W.heap[w.heap.size]? = some (.cells #[.int .i64 r.trm, .int .i64 r.pat, .slice (some ⟨ge, 0, none⟩) r.re.length ke, .string r.lit, .slice (some ⟨gi, 0, none⟩) r.inn.length ki, .slice (some ⟨gt, 0, none⟩) r.tes.length kt, .slice (some ⟨ga, 0, none⟩) r.act.length ka] 28 (0, 0)) ∧ W.heap[w.heap.size + 1]? = some (.cells #[.int .i64 r.trm, .int .i64 r.pat, .slice e1 r.re.length f1, .string r.lit, .slice e2 r.inn.length f2, .slice e3 r.tes.length f3, .slice e4 r.act.length f4] 28 (0, 0))) := fun W hW => ⟨(hW.block _ (lt_of_heap HP1.out)).trans HP1.out, (hW.block _ (lt_of_heap HP2.out)).trans HP2.out⟩
  obtain ⟨p0, p1, p2, p3, p4, p5, p6⟩ := box7 (P1.out _ B2.out).1
  obtain ⟨q0, q1, q2, q3, q4, q5, q6⟩ := box7 (P1.out _ B2.out).2
  obtain ⟨m0, hm0⟩ : ∃ m, r.re.length = m := ⟨_, rfl⟩
  obtain ⟨m1, hm1⟩ : ∃ m, r.inn.length = m := ⟨_, rfl⟩
  obtain ⟨m2, hm2⟩ : ∃ m, r.tes.length = m := ⟨_, rfl⟩
  obtain ⟨m3, hm3⟩ : ∃ m, r.act.length = m := ⟨_, rfl⟩
  have HMM : Hid (r.re.length = m0 ∧ r.inn.length = m1 ∧ r.tes.length = m2 ∧ r.act.length = m3) := ⟨hm0, hm1, hm2, hm3⟩
  rw [hm0] at p2 q2
  rw [hm1] at p4 q4
  rw [hm2] at p5 q5
  rw [hm3] at p6 q6
  have HZm : Hid (m0 * 56 + 4096 ≤ 140737488355328 ∧ m1 * 8 + 4096 ≤ 140737488355328 ∧ m2 * 16 + 4096 ≤ 140737488355328 ∧ m3 * 24 + 4096 ≤ 140737488355328 ∧ m0 + 3 ≤ ke ∧ m1 + 3 ≤ ki ∧ m2 + 3 ≤ kt ∧ m3 + 3 ≤ ka) := by
    have := HZ.out.e
    have := HZ.out.i
    have := HZ.out.t
    have := HZ.out.a
    have := HK.out
    show _ ∧ _
    omega
  clear hm0 hm1 hm2 hm3
  have t0 : ((m0 : Int) + 3).toNat = m0 + 3 := by omega
  have u0 : (m0 : Int) + 3 ≤ (ke : Int) := by have := HZm.out; omega
  have v0 : m0 + 3 ≤ ke := by have := HZm.out; omega
  have w0' : IntKind.i64.wrap ((m0 : Int) + 3) = (m0 : Int) + 3 := by have := HZm.out; rw [IntKind.wrap_i64]; omega
  have t1 : ((m1 : Int) + 3).toNat = m1 + 3 := by omega
  have u1 : (m1 : Int) + 3 ≤ (ki : Int) := by have := HZm.out; omega
  have v1 : m1 + 3 ≤ ki := by have := HZm.out; omega
  have w1' : IntKind.i64.wrap ((m1 : Int) + 3) = (m1 : Int) + 3 := by have := HZm.out; rw [IntKind.wrap_i64]; omega
  have t2 : ((m2 : Int) + 3).toNat = m2 + 3 := by omega
  have u2 : (m2 : Int) + 3 ≤ (kt : Int) := by have := HZm.out; omega
  have v2 : m2 + 3 ≤ kt := by have := HZm.out; omega
  have w2' : IntKind.i64.wrap ((m2 : Int) + 3) = (m2 : Int) + 3 := by have := HZm.out; rw [IntKind.wrap_i64]; omega
  have t3 : ((m3 : Int) + 3).toNat = m3 + 3 := by omega
  have u3 : (m3 : Int) + 3 ≤ (ka : Int) := by have := HZm.out; omega
  have v3 : m3 + 3 ≤ ka := by have := HZm.out; omega
  have w3' : IntKind.i64.wrap ((m3 : Int) + 3) = (m3 : Int) + 3 := by have := HZm.out; rw [IntKind.wrap_i64]; omega
  go_upto_region 8 with fail
  clear p0 p1 p2 p3 p4 p5 p6 q0 q1 q2 q3 q4 q5 q6 t0 t1 t2 t3 u0 u1 u2 u3 v0 v1 v2 v3 w0' w1' w2' w3'
  obtain ⟨L0, hL0⟩ : ∃ L, m0 + 3 = L := ⟨_, rfl⟩
  obtain ⟨L1, hL1⟩ : ∃ L, m1 + 3 = L := ⟨_, rfl⟩
  obtain ⟨L2, hL2⟩ : ∃ L, m2 + 3 = L := ⟨_, rfl⟩
  obtain ⟨L3, hL3⟩ : ∃ L, m3 + 3 = L := ⟨_, rfl⟩
  have HLL : Hid (m0 + 3 = L0 ∧ m1 + 3 = L1 ∧ m2 + 3 = L2 ∧ m3 + 3 = L3) := ⟨hL0, hL1, hL2, hL3⟩
  rw [hL0, hL1, hL2, hL3]
  clear hL0 hL1 hL2 hL3
  go_loopg [9] 3 (fun gl v9 wr => ∃ i : Nat, v9 = .int .i64 (i : Int) ∧ Hid (Below W1.heap.size W1 wr) ∧ Hid (i ≤ 3 ∧ gl = 3 - i))
  case atStart => exact ⟨0, rfl, B2, ⟨by omega, rfl⟩⟩
  case round =>
    obtain ⟨i, rfl, HBW, HI⟩ := hrel
    by_cases hi : i < 3
    · have hk := nd_neq 0 0 0 0 0 (-7) 0
      have hk2 := te_neq 0 (-7)
      have hk3 := ac_neq 0 (-7) 0
      have c0_0 := mk_at (HM.out.e.up HBW.out) (flat_len nf_len _) rfl i 0 (.int .i64 0) hi rfl
      have c0_1 := mk_at (HM.out.e.up HBW.out) (flat_len nf_len _) rfl i 1 (.int .u64 0) hi rfl
      have c0_2 := mk_at (HM.out.e.up HBW.out) (flat_len nf_len _) rfl i 2 (.int .u64 0) hi rfl
      have c0_3 := mk_at (HM.out.e.up HBW.out) (flat_len nf_len _) rfl i 3 (.int .u64 0) hi rfl
      have c0_4 := mk_at (HM.out.e.up HBW.out) (flat_len nf_len _) rfl i 4 (.int .u64 0) hi rfl
      have c0_5 := mk_at (HM.out.e.up HBW.out) (flat_len nf_len _) rfl i 5 (.int .i64 (-7)) hi rfl
      have c0_6 := mk_at (HM.out.e.up HBW.out) (flat_len nf_len _) rfl i 6 (.int .i64 0) hi rfl
      obtain ⟨j0, hj0⟩ : ∃ j, m0 + i = j := ⟨_, rfl⟩
      rw [HMM.out.1, hj0] at c0_0 c0_1 c0_2 c0_3 c0_4 c0_5 c0_6
      simp only [Nat.add_zero] at c0_0
      have x0 : IntKind.i64.wrap ((m0 : Int) + (i : Int)) = (j0 : Int) := by have := HZm.out; rw [IntKind.wrap_i64]; omega
      have y0 : (m0 : Int) + (i : Int) = (j0 : Int) := by omega
      have z0 : IntKind.i64.wrap (j0 : Int) = (j0 : Int) := by have := HZm.out; rw [IntKind.wrap_i64]; omega
      have a0 : j0 < L0 := by have := HLL.out; omega
      have b0 : (j0 : Int) < (L0 : Int) := by omega
      have c1_0 := mk_at (HM.out.i.up HBW.out) (iC_len _) rfl i 0 (.int .i64 (-7)) hi rfl
      obtain ⟨j1, hj1⟩ : ∃ j, m1 + i = j := ⟨_, rfl⟩
      rw [HMM.out.2.1, hj1] at c1_0
      simp only [Nat.mul_one, Nat.add_zero] at c1_0
      have x1 : IntKind.i64.wrap ((m1 : Int) + (i : Int)) = (j1 : Int) := by have := HZm.out; rw [IntKind.wrap_i64]; omega
      have y1 : (m1 : Int) + (i : Int) = (j1 : Int) := by omega
      have z1 : IntKind.i64.wrap (j1 : Int) = (j1 : Int) := by have := HZm.out; rw [IntKind.wrap_i64]; omega
      have a1 : j1 < L1 := by have := HLL.out; omega
      have b1 : (j1 : Int) < (L1 : Int) := by omega
      have c2_0 := mk_at (HM.out.t.up HBW.out) (flat_len tf_len _) rfl i 0 (.int .i64 0) hi rfl
      have c2_1 := mk_at (HM.out.t.up HBW.out) (flat_len tf_len _) rfl i 1 (.int .i64 (-7)) hi rfl
      obtain ⟨j2, hj2⟩ : ∃ j, m2 + i = j := ⟨_, rfl⟩
      rw [HMM.out.2.2.1, hj2] at c2_0 c2_1
      simp only [Nat.add_zero] at c2_0
      have x2 : IntKind.i64.wrap ((m2 : Int) + (i : Int)) = (j2 : Int) := by have := HZm.out; rw [IntKind.wrap_i64]; omega
      have y2 : (m2 : Int) + (i : Int) = (j2 : Int) := by omega
      have z2 : IntKind.i64.wrap (j2 : Int) = (j2 : Int) := by have := HZm.out; rw [IntKind.wrap_i64]; omega
      have a2 : j2 < L2 := by have := HLL.out; omega
      have b2 : (j2 : Int) < (L2 : Int) := by omega
      have c3_0 := mk_at (HM.out.a.up HBW.out) (flat_len af_len _) rfl i 0 (.int .i64 0) hi rfl
      have c3_1 := mk_at (HM.out.a.up HBW.out) (flat_len af_len _) rfl i 1 (.int .i64 (-7)) hi rfl
      have c3_2 := mk_at (HM.out.a.up HBW.out) (flat_len af_len _) rfl i 2 (.int .i64 0) hi rfl
      obtain ⟨j3, hj3⟩ : ∃ j, m3 + i = j := ⟨_, rfl⟩
      rw [HMM.out.2.2.2, hj3] at c3_0 c3_1 c3_2
      simp only [Nat.add_zero] at c3_0
      have x3 : IntKind.i64.wrap ((m3 : Int) + (i : Int)) = (j3 : Int) := by have := HZm.out; rw [IntKind.wrap_i64]; omega
      have y3 : (m3 : Int) + (i : Int) = (j3 : Int) := by omega
      have z3 : IntKind.i64.wrap (j3 : Int) = (j3 : Int) := by have := HZm.out; rw [IntKind.wrap_i64]; omega
      have a3 : j3 < L3 := by have := HLL.out; omega
      have b3 : (j3 : Int) < (L3 : Int) := by omega
      obtain ⟨q0, q1, q2, q3, q4, q5, q6⟩ := box7 (P1.out _ HBW.out).2
      rw [HMM.out.1] at q2
      rw [HMM.out.2.1] at q4
      rw [HMM.out.2.2.1] at q5
      rw [HMM.out.2.2.2] at q6
      have k1 : decide ((i : Int) < 3) = true := by rw [decide_eq_true_eq]; omega
      have k2 : decide (i < 3) = true := by rw [decide_eq_true_eq]; omega
      have hwr := w64n i (by omega)
      have HIL : Hid (i < 3) := hi
      clear hi hj0 hj1 hj2 hj3
      go_wp2_with fail
      go_roundg (3 - (i + 1))
      case measure => have := HI.out; have := HIL.out; omega
      case rel => exact ⟨i + 1, by first | rfl | (rw [show (i : Int) + 1 = ((i + 1 : Nat) : Int) by omega]), HBW, ⟨HIL.out, rfl⟩⟩
    · have k1 : decide ((i : Int) < 3) = false := by rw [decide_eq_false_iff_not]; omega
      have k2 : decide (i < 3) = false := by rw [decide_eq_false_iff_not]; omega
      clear hi
      go_wp2_with fail
      go_ret
      exact ⟨rfl, below_trans B1.out HBW.out⟩
end Go.Proofs.Ytdchopljojlcpaa
