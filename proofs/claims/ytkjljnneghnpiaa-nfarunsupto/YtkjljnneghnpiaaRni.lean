import Derived.Test.YtkjljnneghnpiaaRnh
namespace Go.Proofs.Ytkjljnneghnpiaa
open Go.RowKit Go.Maps

set_option maxRecDepth 100000 in
set_option maxHeartbeats 8000000 in
theorem still_any {vo vt vf : Value} {N : Mc} {g1 q1 g2 q2 g3 q3 : Nat} (hs : Small N) (w : World) (hl : ∀ W, Below w.heap.size w W → Ln W N g1 q1 g2 q2 g3 q3 ∧ Parts W.heap.size W (.slice (some ⟨g1, 0, none⟩) N.on.length q1) (.slice (some ⟨g2, 0, none⟩) N.tos.length q2) (.slice (some ⟨g3, 0, none⟩) N.free.length q3) N) (h2 : Parts w.heap.size w vo vt vf N) :
    Calls Try.prog 13 #[nfW (.slice (some ⟨g1, 0, none⟩) N.on.length q1) (.slice (some ⟨g2, 0, none⟩) N.tos.length q2) (.slice (some ⟨g3, 0, none⟩) N.free.length q3) N, nfW vo vt vf N] w fun e w' => e = .returned (.bool true) ∧ Below w.heap.size w w' := by
  have HS : Hid (Small N) := hs
  obtain ⟨W1, hW1⟩ : ∃ W1, W1 = (w.alloc (.cells #[.slice (some ⟨g1, 0, none⟩) N.on.length q1, .slice (some ⟨g2, 0, none⟩) N.tos.length q2, .slice (some ⟨g3, 0, none⟩) N.free.length q3, .int .i64 N.start, .int .i64 N.fin] 26)).alloc (.cells #[vo, vt, vf, .int .i64 N.start, .int .i64 N.fin] 26) := ⟨_, rfl⟩
  have HB1 : Hid (Below w.heap.size w W1) := by rw [hW1]; exact below_trans (bel_up _ _) (bel_up _ _)
  have HX1 : Hid (∀ W, Below W1.heap.size W1 W → Bx5 W w.heap.size (.slice (some ⟨g1, 0, none⟩) N.on.length q1) (.slice (some ⟨g2, 0, none⟩) N.tos.length q2) (.slice (some ⟨g3, 0, none⟩) N.free.length q3) N.start N.fin) := fun W hW => Bx5.mono (by rw [hW1]; exact (Bx5.new w _ _ _ N.start N.fin 26).mono (bel_up _ _)) hW
  have HX2 : Hid (∀ W, Below W1.heap.size W1 W → Bx5 W (w.heap.size + 1) vo vt vf N.start N.fin) := fun W hW => Bx5.mono (by rw [hW1]; have h := Bx5.new (w.alloc (.cells #[.slice (some ⟨g1, 0, none⟩) N.on.length q1, .slice (some ⟨g2, 0, none⟩) N.tos.length q2, .slice (some ⟨g3, 0, none⟩) N.free.length q3, .int .i64 N.start, .int .i64 N.fin] 26)) vo vt vf N.start N.fin 26; rw [World.size_alloc] at h; exact h) hW
  have HP1 : Hid (∀ W, Below W1.heap.size W1 W → Ln W N g1 q1 g2 q2 g3 q3 ∧ Parts W.heap.size W (.slice (some ⟨g1, 0, none⟩) N.on.length q1) (.slice (some ⟨g2, 0, none⟩) N.tos.length q2) (.slice (some ⟨g3, 0, none⟩) N.free.length q3) N) := fun W hW => hl W (below_trans HB1.out hW)
  have HP2 : Hid (∀ W, Below W1.heap.size W1 W → Parts W.heap.size W vo vt vf N) := fun W hW => h2.mono (below_trans HB1.out hW) (below_trans HB1.out hW).size
  obtain ⟨b1, d1, b2, d2, b3, d3, rfl, rfl, rfl⟩ := h2.shape
  have HW1 : Hid _ := hW1
  have l1 := (hl w (Below.refl _ _)).1.c1
  have l2 := (hl w (Below.refl _ _)).1.c2
  have l3 := (hl w (Below.refl _ _)).1.c3
  obtain ⟨n1, hn1⟩ : ∃ n, N.on.length + 20 = n := ⟨_, rfl⟩
  obtain ⟨n2, hn2⟩ : ∃ n, N.tos.length + 20 = n := ⟨_, rfl⟩
  obtain ⟨n3, hn3⟩ : ∃ n, N.free.length + 20 = n := ⟨_, rfl⟩
  have s1 := hs.on
  have s2 := hs.tos
  have s3 := hs.fr
  have y1 : (n1 : Int) ≤ (q1 : Int) := by omega
  have y2 : (n2 : Int) ≤ (q2 : Int) := by omega
  have y3 : (n3 : Int) ≤ (q3 : Int) := by omega
  have y4 : n1 ≤ q1 := by omega
  have y5 : n2 ≤ q2 := by omega
  have y6 : n3 ≤ q3 := by omega
  have HN : Hid (N.on.length + 20 = n1 ∧ N.tos.length + 20 = n2 ∧ N.free.length + 20 = n3) := ⟨hn1, hn2, hn3⟩
  have HK1 : Hid (wrap64 ((N.on.length : Int) + 20) = (n1 : Int)) := by unfold wrap64; show _ = _; omega
  have HK2 : Hid (wrap64 ((N.tos.length : Int) + 20) = (n2 : Int)) := by unfold wrap64; show _ = _; omega
  have HK3 : Hid (wrap64 ((N.free.length : Int) + 20) = (n3 : Int)) := by unfold wrap64; show _ = _; omega
  clear h2 hW1 hs hl l1 l2 l3 s1 s2 s3 hn1 hn2 hn3
  go_enter Try.func13, Try.ntmps13
  go_upto_region 1 with fail
  rw [← HW1.out]
  clear HW1
  obtain ⟨x0, x1, x2, x3, x4⟩ := HX1.out W1 (Below.refl _ _)
  obtain ⟨z0, z1, z2, z3, z4⟩ := HX2.out W1 (Below.refl _ _)
  have k1 := HK1.out
  have k2 := HK2.out
  have k3 := HK3.out
  go_wp2_with fail
  clear x0 x1 x2 x3 x4 z0 z1 z2 z3 z4 y1 y2 y3 y4 y5 y6 k1 k2 k3
  go_loopg [8] 20 (fun gm v8 wr => ∃ i : Nat, v8 = .int .i64 (i : Int) ∧ Hid (i ≤ 20 ∧ gm = 20 - i) ∧ Hid (Below W1.heap.size W1 wr))
  case atStart => exact ⟨0, rfl, ⟨Nat.zero_le _, rfl⟩, Below.refl _ _⟩
  case round =>
    obtain ⟨i, rfl, HII, HB⟩ := hrel
    obtain ⟨x0, x1, x2, x3, x4⟩ := HX1.out wr HB.out
    obtain ⟨z0, z1, z2, z3, z4⟩ := HX2.out wr HB.out
    by_cases hi : i < 20
    · have e1 : decide ((i : Int) < 20) = true := by rw [decide_eq_true_eq]; omega
      have e2 : decide (i < 20) = true := by rw [decide_eq_true_eq]; omega
      have HIL : Hid (i < 20) := hi
      obtain ⟨o0, o1, o2, o3⟩ := (HP1.out wr HB.out).1.on i hi
      have t0 := (HP1.out wr HB.out).1.tos i hi
      obtain ⟨gu, cu, u0, u1⟩ := (HP1.out wr HB.out).1.fr i hi
      obtain ⟨M, hM⟩ : ∃ M, 900 + i = M := ⟨_, rfl⟩
      obtain ⟨K1, hK1⟩ : ∃ K, N.on.length + i = K := ⟨_, rfl⟩
      obtain ⟨K2, hK2⟩ : ∃ K, N.tos.length + i = K := ⟨_, rfl⟩
      obtain ⟨K3, hK3⟩ : ∃ K, N.free.length + i = K := ⟨_, rfl⟩
      rw [hM] at o0 t0 u1
      rw [hK1] at o0 o1 o2 o3
      rw [hK2] at t0
      rw [hK3] at u0
      have s1 := HS.out.on
      have s2 := HS.out.tos
      have s3 := HS.out.fr
      obtain ⟨hn1, hn2, hn3⟩ := HN.out
      have HWM : Hid (wrap64 ((900 : Int) + (i : Int)) = (M : Int)) := by unfold wrap64; show _ = _; omega
      have HWI : Hid (wrap64 ((i : Int) + 1) = ((i + 1 : Nat) : Int)) := w64 i (by omega)
      have HW1 : Hid (wrap64 ((N.on.length : Int) + (i : Int)) = (K1 : Int)) := by unfold wrap64; show _ = _; omega
      have HW2 : Hid (wrap64 ((N.tos.length : Int) + (i : Int)) = (K2 : Int)) := by unfold wrap64; show _ = _; omega
      have HW3 : Hid (wrap64 ((N.free.length : Int) + (i : Int)) = (K3 : Int)) := by unfold wrap64; show _ = _; omega
      have j1 : (K1 : Int) < (n1 : Int) := by omega
      have j2 : (K2 : Int) < (n2 : Int) := by omega
      have j3 : (K3 : Int) < (n3 : Int) := by omega
      have j4 : K1 < n1 := by omega
      have j5 : K2 < n2 := by omega
      have j6 : K3 < n3 := by omega
      have hwu := wrap_small M (by omega)
      have hcv := nq40 M
      have hmm : ((M : Int) != (M : Int)) = false := by simp
      clear hi hM hK1 hK2 hK3 s1 s2 s3 hn1 hn2 hn3
      have hwm := HWM.out
      have hwi := HWI.out
      have hw1 := HW1.out
      have hw2 := HW2.out
      have hw3 := HW3.out
      go_wp2_with fail
      go_roundg (20 - (i + 1))
      case measure => clear hwm hwi hw1 hw2 hw3 hwu; have := HII.out; have := HIL.out; omega
      case rel => exact ⟨i + 1, by rw [hwi], ⟨HIL.out, rfl⟩, HB⟩
    · have e1 : decide ((i : Int) < 20) = false := by rw [decide_eq_false_iff_not]; omega
      have e2 : decide (i < 20) = false := by rw [decide_eq_false_iff_not]; omega
      clear hi HII
      go_wp2_with fail
      clear e1 e2 x0 x1 x2 x3 x4 z0 z1 z2 z3 z4
      go_loopg [9] N.free.length (fun gm v9 wr => ∃ i : Nat, v9 = .int .i64 (i : Int) ∧ Hid (i ≤ N.free.length ∧ gm = N.free.length - i) ∧ Hid (Below W1.heap.size W1 wr))
      case atStart => exact ⟨0, rfl, ⟨Nat.zero_le _, rfl⟩, HB⟩
      case round =>
        obtain ⟨i, rfl, HII, HB⟩ := hrel
        obtain ⟨x0, x1, x2, x3, x4⟩ := HX1.out wr HB.out
        obtain ⟨z0, z1, z2, z3, z4⟩ := HX2.out wr HB.out
        by_cases hi : i < N.free.length
        · have e1 : decide ((i : Int) < (N.free.length : Int)) = true := by rw [decide_eq_true_eq]; omega
          have e2 : decide (i < N.free.length) = true := by rw [decide_eq_true_eq]; omega
          have e3 : (i : Int) < (N.free.length : Int) := by omega
          have HIL : Hid (i < N.free.length) := hi
          obtain ⟨ge, ce, c0, c1, c2, _⟩ := (HP1.out wr HB.out).1.el i hi
          obtain ⟨g, o, cap, u, hv, m0, mi⟩ := (HP2.out wr HB.out).fr.at i hi
          injection hv with hv hv2 hv3
          subst hv hv3
          have HRL : Hid ((N.free.getD i []).length ≤ 1048576) := Nat.le_trans (sum_mem _ _ hi) HS.out.sum
          obtain ⟨R, hR⟩ : ∃ R, N.free.getD i [] = R := ⟨_, rfl⟩
          rw [hR] at c0 c1 c2 mi HRL
          obtain ⟨ua, uc, hus⟩ := mi.shp
          subst hus
          have HK : Hid (∀ W, Below wr.heap.size wr W → W.cell? ⟨g3, i, none⟩ = some (.slice (some ⟨ge, 0, none⟩) R.length ce) ∧ W.cell? ⟨g, o + i, none⟩ = some (.slice ua R.length uc) ∧ (∀ k, k < 20 → W.cell? ⟨ge, R.length + k, none⟩ = some (.int .i64 ((900 + k : Nat) : Int))) ∧ Below W1.heap.size W1 W) := fun W hW => ⟨below_cell hW c0, below_cell hW m0, fun k hk => below_cell hW (c2 k hk), below_trans HB.out hW⟩
          obtain ⟨n, hn⟩ : ∃ n, R.length + 20 = n := ⟨_, rfl⟩
          have HNR : Hid (R.length + 20 = n) := hn
          have y1 : (n : Int) ≤ (ce : Int) := by omega
          have y2 : n ≤ ce := by omega
          have HWI : Hid (wrap64 ((i : Int) + 1) = ((i + 1 : Nat) : Int)) := w64 i (by have := HS.out.fr; omega)
          have hwn : IntKind.i64.wrap ((R.length : Int) + 20) = (n : Int) := by have := HRL.out; rw [IntKind.wrap_i64]; omega
          have HWN : Hid (wrap64 ((R.length : Int) + 20) = (n : Int)) := by have := HRL.out; clear hwn; unfold wrap64; show _ = _; omega
          have hwn2 := HWN.out
          clear hi hR hv2 mi c1 c2 hn
          go_upto_region 12 with fail
          go_quiet (fail)
          have HB5 : Hid (Below wr.heap.size wr (wr.drewN nq)) := below_drewN (Below.refl _ _) _
          obtain ⟨W5, hW5⟩ : ∃ W5, wr.drewN nq = W5 := ⟨_, rfl⟩
          rw [hW5] at HB5 ⊢
          clear hW5 x0 x1 x2 x3 x4 z0 z1 z2 z3 z4 c0 m0 hwn hwn2 y1 y2
          go_wp2_with fail
          go_loopg [11] 20 (fun gm v11 wq => ∃ k : Nat, v11 = .int .i64 (k : Int) ∧ Hid (k ≤ 20 ∧ gm = 20 - k) ∧ Hid (Below wr.heap.size wr wq))
          case atStart => exact ⟨0, rfl, ⟨Nat.zero_le _, rfl⟩, HB5⟩
          case round =>
            obtain ⟨k, rfl, HKK, HBJ⟩ := hrel
            obtain ⟨c0, m0, c2, HBW⟩ := HK.out _ HBJ.out
            have HBW2 : Hid _ := HBW
            obtain ⟨x0, x1, x2, x3, x4⟩ := HX1.out wr HBW
            obtain ⟨z0, z1, z2, z3, z4⟩ := HX2.out wr HBW
            clear HBW
            by_cases hk : k < 20
            · have f1 : decide ((k : Int) < 20) = true := by rw [decide_eq_true_eq]; omega
              have f2 : decide (k < 20) = true := by rw [decide_eq_true_eq]; omega
              have HKL : Hid (k < 20) := hk
              have c3 := c2 k hk
              obtain ⟨M, hM⟩ : ∃ M, 900 + k = M := ⟨_, rfl⟩
              obtain ⟨K1, hK1⟩ : ∃ K, R.length + k = K := ⟨_, rfl⟩
              rw [hM, hK1] at c3
              have hn := HNR.out
              have hrl := HRL.out
              have HWM : Hid (wrap64 ((900 : Int) + (k : Int)) = (M : Int)) := by unfold wrap64; show _ = _; omega
              have HWK : Hid (wrap64 ((k : Int) + 1) = ((k + 1 : Nat) : Int)) := w64 k (by omega)
              have HW1 : Hid (wrap64 ((R.length : Int) + (k : Int)) = (K1 : Int)) := by unfold wrap64; show _ = _; omega
              have j1 : (K1 : Int) < (n : Int) := by omega
              have j4 : K1 < n := by omega
              have hmm : ((M : Int) != (M : Int)) = false := by simp
              clear hk hM hK1 c2 hn hrl
              have hwm := HWM.out
              have hwk := HWK.out
              have hw1 := HW1.out
              go_wp2_with fail
              go_roundg (20 - (k + 1))
              case measure => clear hwm hwk hw1; have := HKK.out; have := HKL.out; omega
              case rel => exact ⟨k + 1, by rw [hwk], ⟨HKL.out, rfl⟩, HBJ⟩
            · have f1 : decide ((k : Int) < 20) = false := by rw [decide_eq_false_iff_not]; omega
              have f2 : decide (k < 20) = false := by rw [decide_eq_false_iff_not]; omega
              clear hk HKK c2
              have hwi := HWI.out
              go_wp2_with fail
              go_roundg (N.free.length - (i + 1))
              case measure => clear hwi; have := HII.out; have := HIL.out; omega
              case rel => exact ⟨i + 1, by rw [hwi], ⟨HIL.out, rfl⟩, HBW2⟩
        · have e1 : decide ((i : Int) < (N.free.length : Int)) = false := by rw [decide_eq_false_iff_not]; omega
          have e2 : decide (i < N.free.length) = false := by rw [decide_eq_false_iff_not]; omega
          have HBF : Hid (Below w.heap.size w wr) := below_trans HB1.out HB.out
          have HC : Hid _ := same_any HS.out wr (HP1.out wr HB.out).2 (HP2.out wr HB.out)
          clear hi HII
          go_wp2_with fail
          refine Calls.mono HC.out ?_
          rintro e w9 ⟨rfl, b9⟩
          have HB9 : Hid (Below w.heap.size w w9) := below_trans HBF.out b9
          clear b9 HC
          go_wp2_with fail
          go_ret
          exact ⟨rfl, HB9.out⟩
end Go.Proofs.Ytkjljnneghnpiaa
