import Derived.Test.YtdchopljojlcpaaRrg
namespace Go.Proofs.Ytdchopljojlcpaa
open Go.RowKit Go.Maps

set_option maxRecDepth 100000 in
set_option maxHeartbeats 16000000 in
theorem spared_any {wi wq wf : Value} {s : Stt} {B gi ki gq kq gf kf : Nat} (w : World) (h : Rms B w gi ki gq kq gf kf s) (hs : Stm w wi wq wf s) (l1 : s.ind.length * 8 + 4096 ≤ 140737488355328) (l2 : s.que.length * 16 + 4096 ≤ 140737488355328) (l3 : s.frm.length * 24 + 4096 ≤ 140737488355328) :
    Calls Try.prog 10 #[sv (.slice (some ⟨gi, 0, none⟩) s.ind.length ki) (.slice (some ⟨gq, 0, none⟩) s.que.length kq) (.slice (some ⟨gf, 0, none⟩) s.frm.length kf) s, sv wi wq wf s] w fun e w' => e = .returned (.bool true) ∧ Below w.heap.size w w' := by
  obtain ⟨b1, d1, b2, d2, b3, d3, rfl, rfl, rfl⟩ := hs.form
  obtain ⟨W1, hW1⟩ : ∃ W1, W1 = (w.alloc (.cells #[.slice (some ⟨gi, 0, none⟩) s.ind.length ki, .int .i64 s.pen, .slice (some ⟨gq, 0, none⟩) s.que.length kq, .slice (some ⟨gf, 0, none⟩) s.frm.length kf, .int .u16 (s.flg : Int)] 33)).alloc (.cells #[.slice b1 s.ind.length d1, .int .i64 s.pen, .slice b2 s.que.length d2, .slice b3 s.frm.length d3, .int .u16 (s.flg : Int)] 33) := ⟨_, rfl⟩
  have B1 : Hid (Below w.heap.size w W1) := by rw [hW1]; exact below_trans (bel_up _ _) (bel_up _ _)
  have HP1 : Hid (W1.heap[w.heap.size]? = some (.cells #[.slice (some ⟨gi, 0, none⟩) s.ind.length ki, .int .i64 s.pen, .slice (some ⟨gq, 0, none⟩) s.que.length kq, .slice (some ⟨gf, 0, none⟩) s.frm.length kf, .int .u16 (s.flg : Int)] 33 (0, 0))) := by rw [hW1, (bel_up _ _).block _ (by simp)]; exact heap_new w _
  have HP2 : Hid (W1.heap[w.heap.size + 1]? = some (.cells #[.slice b1 s.ind.length d1, .int .i64 s.pen, .slice b2 s.que.length d2, .slice b3 s.frm.length d3, .int .u16 (s.flg : Int)] 33 (0, 0))) := by
    rw [hW1]
    have := heap_new (w.alloc (.cells #[.slice (some ⟨gi, 0, none⟩) s.ind.length ki, .int .i64 s.pen, .slice (some ⟨gq, 0, none⟩) s.que.length kq, .slice (some ⟨gf, 0, none⟩) s.frm.length kf, .int .u16 (s.flg : Int)] 33)) (.cells #[.slice b1 s.ind.length d1, .int .i64 s.pen, .slice b2 s.que.length d2, .slice b3 s.frm.length d3, .int .u16 (s.flg : Int)] 33)
    rw [World.size_alloc] at this
    exact this
  have HW : Hid (W1 = (w.alloc (.cells #[.slice (some ⟨gi, 0, none⟩) s.ind.length ki, .int .i64 s.pen, .slice (some ⟨gq, 0, none⟩) s.que.length kq, .slice (some ⟨gf, 0, none⟩) s.frm.length kf, .int .u16 (s.flg : Int)] 33)).alloc (.cells #[.slice b1 s.ind.length d1, .int .i64 s.pen, .slice b2 s.que.length d2, .slice b3 s.frm.length d3, .int .u16 (s.flg : Int)] 33)) := hW1
  have HM : Hid _ := h.up B1.out
  have HS : Hid _ := hs.up B1.out
  have HZ : Hid (s.ind.length * 8 + 4096 ≤ 140737488355328 ∧ s.que.length * 16 + 4096 ≤ 140737488355328 ∧ s.frm.length * 24 + 4096 ≤ 140737488355328) := ⟨l1, l2, l3⟩
  have HK : Hid (s.ind.length + 3 ≤ ki ∧ s.que.length + 3 ≤ kq ∧ s.frm.length + 3 ≤ kf) := ⟨(row_cap h.i).1, (row_cap h.q).1, (row_cap h.f).1⟩
  clear h hs hW1 l1 l2 l3
  obtain ⟨p0, p1, p2, p3, p4⟩ := box5 HP1.out
  obtain ⟨q0, q1, q2, q3, q4⟩ := box5 HP2.out
  go_enter Try.func10, Try.ntmps10
  go_upto_region 1 with fail
  rw [← HW.out]
  go_upto_region 3 with (go_at_call 22; refine (rsame_any W1 HM.out.stm HS.out (by have := HZ.out; omega) (by have := HZ.out; omega) (by have := HZ.out; omega)).mono ?_; rintro e w2 ⟨rfl, hb2⟩; rw [show decide (s = s) = true from decide_eq_true rfl]; have B2 : Hid (Below W1.heap.size W1 w2) := hb2; clear hb2)
  clear p0 p1 p2 p3 p4 q0 q1 q2 q3 q4
  have P1 : Hid (∀ W, Below W1.heap.size W1 W → W.heap[w.heap.size]? = some (.cells #[.slice (some ⟨gi, 0, none⟩) s.ind.length ki, .int .i64 s.pen, .slice (some ⟨gq, 0, none⟩) s.que.length kq, .slice (some ⟨gf, 0, none⟩) s.frm.length kf, .int .u16 (s.flg : Int)] 33 (0, 0)) ∧ W.heap[w.heap.size + 1]? = some (.cells #[.slice b1 s.ind.length d1, .int .i64 s.pen, .slice b2 s.que.length d2, .slice b3 s.frm.length d3, .int .u16 (s.flg : Int)] 33 (0, 0))) := fun W hW => ⟨(hW.block _ (lt_of_heap HP1.out)).trans HP1.out, (hW.block _ (lt_of_heap HP2.out)).trans HP2.out⟩
  obtain ⟨p0, p1, p2, p3, p4⟩ := box5 (P1.out _ B2.out).1
  obtain ⟨q0, q1, q2, q3, q4⟩ := box5 (P1.out _ B2.out).2
  obtain ⟨m1, hm1⟩ : ∃ m, s.ind.length = m := ⟨_, rfl⟩
  obtain ⟨m2, hm2⟩ : ∃ m, s.que.length = m := ⟨_, rfl⟩
  obtain ⟨m3, hm3⟩ : ∃ m, s.frm.length = m := ⟨_, rfl⟩
  have HMM : Hid (s.ind.length = m1 ∧ s.que.length = m2 ∧ s.frm.length = m3) := ⟨hm1, hm2, hm3⟩
  rw [hm1] at p0 q0
  rw [hm2] at p2 q2
  rw [hm3] at p3 q3
  have HZm : Hid (m1 * 8 + 4096 ≤ 140737488355328 ∧ m2 * 16 + 4096 ≤ 140737488355328 ∧ m3 * 24 + 4096 ≤ 140737488355328 ∧ m1 + 3 ≤ ki ∧ m2 + 3 ≤ kq ∧ m3 + 3 ≤ kf) := by
    have := HZ.out
    have := HK.out
    show _ ∧ _
    omega
  clear hm1 hm2 hm3
  have t0 : ((m1 : Int) + 3).toNat = m1 + 3 := by omega
  have u0 : (m1 : Int) + 3 ≤ (ki : Int) := by have := HZm.out; omega
  have v0 : m1 + 3 ≤ ki := by have := HZm.out; omega
  have w0 : IntKind.i64.wrap ((m1 : Int) + 3) = (m1 : Int) + 3 := by have := HZm.out; rw [IntKind.wrap_i64]; omega
  have t1 : ((m2 : Int) + 3).toNat = m2 + 3 := by omega
  have u1 : (m2 : Int) + 3 ≤ (kq : Int) := by have := HZm.out; omega
  have v1 : m2 + 3 ≤ kq := by have := HZm.out; omega
  have w1 : IntKind.i64.wrap ((m2 : Int) + 3) = (m2 : Int) + 3 := by have := HZm.out; rw [IntKind.wrap_i64]; omega
  have t2 : ((m3 : Int) + 3).toNat = m3 + 3 := by omega
  have u2 : (m3 : Int) + 3 ≤ (kf : Int) := by have := HZm.out; omega
  have v2 : m3 + 3 ≤ kf := by have := HZm.out; omega
  have w2 : IntKind.i64.wrap ((m3 : Int) + 3) = (m3 : Int) + 3 := by have := HZm.out; rw [IntKind.wrap_i64]; omega
  go_upto_region 7 with fail
  clear p0 p1 p2 p3 p4 q0 q1 q2 q3 q4 t0 t1 t2 u0 u1 u2 v0 v1 v2 w0 w1 w2
  obtain ⟨L1, hL1⟩ : ∃ L1, m1 + 3 = L1 := ⟨_, rfl⟩
  obtain ⟨L2, hL2⟩ : ∃ L2, m2 + 3 = L2 := ⟨_, rfl⟩
  obtain ⟨L3, hL3⟩ : ∃ L3, m3 + 3 = L3 := ⟨_, rfl⟩
  have HLL : Hid (m1 + 3 = L1 ∧ m2 + 3 = L2 ∧ m3 + 3 = L3) := ⟨hL1, hL2, hL3⟩
  rw [hL1, hL2, hL3]
  clear hL1 hL2 hL3
  go_loopg [8] 3 (fun gl v8 wr => ∃ i : Nat, v8 = .int .i64 (i : Int) ∧ Hid (Below W1.heap.size W1 wr) ∧ Hid (i ≤ 3 ∧ gl = 3 - i))
  case atStart => exact ⟨0, rfl, B2, ⟨by omega, rfl⟩⟩
  case round =>
    obtain ⟨i, rfl, HBW, HI⟩ := hrel
    by_cases hi : i < 3
    · have c1 := mk_at (HM.out.i.up HBW.out) (iC_len _) rfl i 0 (.int .i64 (-7)) hi rfl
      have c2 := mk_at (HM.out.q.up HBW.out) (qC_len _) rfl i 0 (.string ⟨#[109, 97, 114, 107]⟩) hi rfl
      have c3 := mk_at (HM.out.f.up HBW.out) (fC_len _) rfl i 0 (.int .i64 (-7)) hi rfl
      rw [HMM.out.1] at c1
      rw [HMM.out.2.1] at c2
      rw [HMM.out.2.2] at c3
      simp only [Nat.mul_one, Nat.add_zero] at c1 c2 c3
      obtain ⟨j1, hj1⟩ : ∃ j, m1 + i = j := ⟨_, rfl⟩
      rw [hj1] at c1
      have x1 : IntKind.i64.wrap ((m1 : Int) + (i : Int)) = (j1 : Int) := by have := HZm.out; rw [IntKind.wrap_i64]; omega
      have y1 : (m1 : Int) + (i : Int) = (j1 : Int) := by omega
      have z1 : IntKind.i64.wrap (j1 : Int) = (j1 : Int) := by have := HZm.out; rw [IntKind.wrap_i64]; omega
      have a1 : j1 < L1 := by have := HLL.out; omega
      have e1 : (j1 : Int) < (L1 : Int) := by omega
      obtain ⟨j2, hj2⟩ : ∃ j, m2 + i = j := ⟨_, rfl⟩
      rw [hj2] at c2
      have x2 : IntKind.i64.wrap ((m2 : Int) + (i : Int)) = (j2 : Int) := by have := HZm.out; rw [IntKind.wrap_i64]; omega
      have y2 : (m2 : Int) + (i : Int) = (j2 : Int) := by omega
      have z2 : IntKind.i64.wrap (j2 : Int) = (j2 : Int) := by have := HZm.out; rw [IntKind.wrap_i64]; omega
      have a2 : j2 < L2 := by have := HLL.out; omega
      have e2 : (j2 : Int) < (L2 : Int) := by omega
      obtain ⟨j3, hj3⟩ : ∃ j, m3 + i = j := ⟨_, rfl⟩
      rw [hj3] at c3
      have x3 : IntKind.i64.wrap ((m3 : Int) + (i : Int)) = (j3 : Int) := by have := HZm.out; rw [IntKind.wrap_i64]; omega
      have y3 : (m3 : Int) + (i : Int) = (j3 : Int) := by omega
      have z3 : IntKind.i64.wrap (j3 : Int) = (j3 : Int) := by have := HZm.out; rw [IntKind.wrap_i64]; omega
      have a3 : j3 < L3 := by have := HLL.out; omega
      have e3 : (j3 : Int) < (L3 : Int) := by omega
      obtain ⟨q0, q1, q2, q3, q4⟩ := box5 (P1.out _ HBW.out).2
      rw [HMM.out.1] at q0
      rw [HMM.out.2.1] at q2
      rw [HMM.out.2.2] at q3
      have k1 : decide ((i : Int) < 3) = true := by rw [decide_eq_true_eq]; omega
      have k2 : decide (i < 3) = true := by rw [decide_eq_true_eq]; omega
      have hwr := w64n i (by omega)
      have HIL : Hid (i < 3) := hi
      clear hi hj1 hj2 hj3
      go_wp2_with fail
      go_roundg (3 - (i + 1))
      case measure => have := HI.out; have := HIL.out; omega
      case rel => exact ⟨i + 1, by first | rfl | (rw [show (i : Int) + 1 = ((i + 1 : Nat) : Int) by omega]), HBW, ⟨HIL.out, rfl⟩⟩
    · have k1 : decide ((i : Int) < 3) = false := by rw [decide_eq_false_iff_not]; omega
      have k2 : decide (i < 3) = false := by rw [decide_eq_false_iff_not]; omega
      clear hi
      go_wp2_with fail
      go_ret
      exact ⟨rfl, below_trans B1.out HBW.out⟩
end Go.Proofs.Ytdchopljojlcpaa
