import Derived.Test.YtkjljnneghnpiaaRna
namespace Go.Proofs.Ytkjljnneghnpiaa
open Go.RowKit Go.Maps

set_option maxRecDepth 100000 in
set_option maxHeartbeats 8000000 in
theorem same_any {vo vt vf vo' vt' vf' : Value} {N : Mc} (hs : Small N) (w : World) (h1 : Parts w.heap.size w vo vt vf N) (h2 : Parts w.heap.size w vo' vt' vf' N) :
    Calls Try.prog 17 #[nfW vo vt vf N, nfW vo' vt' vf' N] w fun e w' => e = .returned (.bool true) ∧ Below w.heap.size w w' := by
  have HS : Hid (Small N) := hs
  obtain ⟨W1, hW1⟩ : ∃ W1, W1 = (w.alloc (.cells #[vo, vt, vf, .int .i64 N.start, .int .i64 N.fin] 26)).alloc (.cells #[vo', vt', vf', .int .i64 N.start, .int .i64 N.fin] 26) := ⟨_, rfl⟩
  have HB1 : Hid (Below w.heap.size w W1) := by rw [hW1]; exact below_trans (bel_up _ _) (bel_up _ _)
  have HX1 : Hid (∀ W, Below W1.heap.size W1 W → Bx5 W w.heap.size vo vt vf N.start N.fin) := fun W hW => Bx5.mono (by rw [hW1]; exact (Bx5.new w vo vt vf N.start N.fin 26).mono (bel_up _ _)) hW
  have HX2 : Hid (∀ W, Below W1.heap.size W1 W → Bx5 W (w.heap.size + 1) vo' vt' vf' N.start N.fin) := fun W hW => Bx5.mono (by rw [hW1]; have h := Bx5.new (w.alloc (.cells #[vo, vt, vf, .int .i64 N.start, .int .i64 N.fin] 26)) vo' vt' vf' N.start N.fin 26; rw [World.size_alloc] at h; exact h) hW
  have HP1 : Hid (∀ W, Below W1.heap.size W1 W → Parts W.heap.size W vo vt vf N) := fun W hW => h1.mono (below_trans HB1.out hW) (below_trans HB1.out hW).size
  have HP2 : Hid (∀ W, Below W1.heap.size W1 W → Parts W.heap.size W vo' vt' vf' N) := fun W hW => h2.mono (below_trans HB1.out hW) (below_trans HB1.out hW).size
  obtain ⟨a1, c1, a2, c2, a3, c3, rfl, rfl, rfl⟩ := h1.shape
  obtain ⟨b1, d1, b2, d2, b3, d3, rfl, rfl, rfl⟩ := h2.shape
  have HW1 : Hid _ := hW1
  have z1 : (N.start != N.start) = false := by simp
  have z2 : (N.fin != N.fin) = false := by simp
  clear h1 h2 hW1 hs
  go_enter Try.func17, Try.ntmps17
  go_upto_region 1 with fail
  rw [← HW1.out]
  clear HW1
  obtain ⟨x0, x1, x2, x3, x4⟩ := HX1.out W1 (Below.refl _ _)
  obtain ⟨y0, y1, y2, y3, y4⟩ := HX2.out W1 (Below.refl _ _)
  go_wp2_with fail
  clear x0 x1 x2 x3 x4 y0 y1 y2 y3 y4 z1 z2
  go_loopg [5] N.on.length (fun gm v5 wr => ∃ i : Nat, v5 = .int .i64 (i : Int) ∧ Hid (i ≤ N.on.length ∧ gm = N.on.length - i) ∧ Hid (Below W1.heap.size W1 wr))
  case atStart => exact ⟨0, rfl, ⟨Nat.zero_le _, rfl⟩, Below.refl _ _⟩
  case round =>
    obtain ⟨i, rfl, HII, HB⟩ := hrel
    obtain ⟨x0, x1, x2, x3, x4⟩ := HX1.out wr HB.out
    obtain ⟨y0, y1, y2, y3, y4⟩ := HX2.out wr HB.out
    by_cases hi : i < N.on.length
    · have e1 : decide ((i : Int) < (N.on.length : Int)) = true := by rw [decide_eq_true_eq]; omega
      have e2 : decide (i < N.on.length) = true := by rw [decide_eq_true_eq]; omega
      have e3 : (i : Int) < (N.on.length : Int) := by omega
      have HIL : Hid (i < N.on.length) := hi
      obtain ⟨g, o, cap, hv, k0, k1, k2, k3⟩ := (HP1.out wr HB.out).on.at i hi
      injection hv with hv hv2 hv3
      subst hv hv3
      obtain ⟨g', o', cap', hv, m0, m1, m2, m3⟩ := (HP2.out wr HB.out).on.at i hi
      injection hv with hv hv4 hv3
      subst hv hv3
      obtain ⟨m, hm⟩ : ∃ m, N.on.getD i (fun _ => false) = m := ⟨_, rfl⟩
      rw [hm] at k0 k1 k2 k3 m0 m1 m2 m3
      have hcv := cv_same m
      have hwi := w64 i (by have := HS.out.on; omega)
      clear hi hm hv2 hv4
      go_upto_region 6 with fail
      go_quiet (fail)
      have HB5 : Hid (Below W1.heap.size W1 (wr.drewN nq)) := below_trans HB.out (below_drewN (Below.refl _ _) _)
      generalize wr.drewN nq = W5 at HB5
      go_wp2_with fail
      go_roundg (N.on.length - (i + 1))
      case measure => have := HII.out; have := HIL.out; omega
      case rel => exact ⟨i + 1, by rw [hwi], ⟨HIL.out, rfl⟩, HB5⟩
    · have e1 : decide ((i : Int) < (N.on.length : Int)) = false := by rw [decide_eq_false_iff_not]; omega
      have e2 : decide (i < N.on.length) = false := by rw [decide_eq_false_iff_not]; omega
      clear hi HII
      go_wp2_with fail
      clear e1 e2 x0 x1 x2 x3 x4 y0 y1 y2 y3 y4
      go_loopg [6] N.tos.length (fun gm v6 wr => ∃ i : Nat, v6 = .int .i64 (i : Int) ∧ Hid (i ≤ N.tos.length ∧ gm = N.tos.length - i) ∧ Hid (Below W1.heap.size W1 wr))
      case atStart => exact ⟨0, rfl, ⟨Nat.zero_le _, rfl⟩, HB⟩
      case round =>
        obtain ⟨i, rfl, HII, HB⟩ := hrel
        obtain ⟨x0, x1, x2, x3, x4⟩ := HX1.out wr HB.out
        obtain ⟨y0, y1, y2, y3, y4⟩ := HX2.out wr HB.out
        by_cases hi : i < N.tos.length
        · have e1 : decide ((i : Int) < (N.tos.length : Int)) = true := by rw [decide_eq_true_eq]; omega
          have e2 : decide (i < N.tos.length) = true := by rw [decide_eq_true_eq]; omega
          have e3 : (i : Int) < (N.tos.length : Int) := by omega
          have HIL : Hid (i < N.tos.length) := hi
          obtain ⟨g, o, cap, hv, k0⟩ := (HP1.out wr HB.out).tos.at i hi
          injection hv with hv hv2 hv3
          subst hv hv3
          obtain ⟨g', o', cap', hv, m0⟩ := (HP2.out wr HB.out).tos.at i hi
          injection hv with hv hv4 hv3
          subst hv hv3
          obtain ⟨m, hm⟩ : ∃ m, N.tos.getD i 0 = m := ⟨_, rfl⟩
          rw [hm] at k0 m0
          have hcv : (m != m) = false := by simp
          have hwi := w64 i (by have := HS.out.tos; omega)
          clear hi hm hv2 hv4
          go_upto_region 11 with fail
          go_quiet (fail)
          have HB5 : Hid (Below W1.heap.size W1 (wr.drewN nq)) := below_trans HB.out (below_drewN (Below.refl _ _) _)
          generalize wr.drewN nq = W5 at HB5
          go_wp2_with fail
          go_roundg (N.tos.length - (i + 1))
          case measure => have := HII.out; have := HIL.out; omega
          case rel => exact ⟨i + 1, by rw [hwi], ⟨HIL.out, rfl⟩, HB5⟩
        · have e1 : decide ((i : Int) < (N.tos.length : Int)) = false := by rw [decide_eq_false_iff_not]; omega
          have e2 : decide (i < N.tos.length) = false := by rw [decide_eq_false_iff_not]; omega
          clear hi HII
          go_wp2_with fail
          clear e1 e2 x0 x1 x2 x3 x4 y0 y1 y2 y3 y4
          go_loopg [7] N.free.length (fun gm v7 wr => ∃ i : Nat, v7 = .int .i64 (i : Int) ∧ Hid (i ≤ N.free.length ∧ gm = N.free.length - i) ∧ Hid (Below W1.heap.size W1 wr))
          case atStart => exact ⟨0, rfl, ⟨Nat.zero_le _, rfl⟩, HB⟩
          case round =>
            obtain ⟨i, rfl, HII, HB⟩ := hrel
            obtain ⟨x0, x1, x2, x3, x4⟩ := HX1.out wr HB.out
            obtain ⟨y0, y1, y2, y3, y4⟩ := HX2.out wr HB.out
            by_cases hi : i < N.free.length
            · have e1 : decide ((i : Int) < (N.free.length : Int)) = true := by rw [decide_eq_true_eq]; omega
              have e2 : decide (i < N.free.length) = true := by rw [decide_eq_true_eq]; omega
              have e3 : (i : Int) < (N.free.length : Int) := by omega
              have HIL : Hid (i < N.free.length) := hi
              obtain ⟨g, o, cap, u, hv, k0, ki⟩ := (HP1.out wr HB.out).fr.at i hi
              injection hv with hv hv2 hv3
              subst hv hv3
              obtain ⟨g', o', cap', u', hv, m0, mi⟩ := (HP2.out wr HB.out).fr.at i hi
              injection hv with hv hv4 hv3
              subst hv hv3
              have HRL : Hid ((N.free.getD i []).length ≤ 1048576) := Nat.le_trans (sum_mem _ _ hi) HS.out.sum
              obtain ⟨R, hR⟩ : ∃ R, N.free.getD i [] = R := ⟨_, rfl⟩
              rw [hR] at ki mi HRL
              have HK : Hid (∀ W, Below wr.heap.size wr W → W.cell? ⟨g, o + i, none⟩ = some u ∧ W.cell? ⟨g', o' + i, none⟩ = some u' ∧ Ints W.heap.size W u R ∧ Ints W.heap.size W u' R ∧ Below W1.heap.size W1 W) := fun W hW => ⟨below_cell hW k0, below_cell hW m0, ki.mono hW hW.size, mi.mono hW hW.size, below_trans HB.out hW⟩
              obtain ⟨ua, uc, rfl⟩ := ki.shp
              obtain ⟨ub, ud, rfl⟩ := mi.shp
              have hcv : ((R.length : Int) != (R.length : Int)) = false := by simp
              have hcv2 : (R.length != R.length) = false := by simp
              have hwi := w64 i (by have := HS.out.fr; omega)
              clear hi hR hv2 hv4 ki mi
              go_upto_region 16 with fail
              go_quiet (fail)
              have HB5 : Hid (Below wr.heap.size wr (wr.drewN nq)) := below_drewN (Below.refl _ _) _
              obtain ⟨W5, hW5⟩ : ∃ W5, wr.drewN nq = W5 := ⟨_, rfl⟩
              rw [hW5] at HB5 ⊢
              clear hW5 x0 x1 x2 x3 x4 y0 y1 y2 y3 y4 k0 m0
              go_wp2_with fail
              clear hcv hcv2
              go_loopg [8] R.length (fun gm v8 wq => ∃ j : Nat, v8 = .int .i64 (j : Int) ∧ Hid (j ≤ R.length ∧ gm = R.length - j) ∧ Hid (Below wr.heap.size wr wq))
              case atStart => exact ⟨0, rfl, ⟨Nat.zero_le _, rfl⟩, HB5⟩
              case round =>
                obtain ⟨j, rfl, HJJ, HBJ⟩ := hrel
                obtain ⟨k0, m0, ki, mi, HBW⟩ := HK.out _ HBJ.out
                obtain ⟨x0, x1, x2, x3, x4⟩ := HX1.out wr HBW
                obtain ⟨y0, y1, y2, y3, y4⟩ := HX2.out wr HBW
                have HBW2 : Hid _ := HBW
                clear HBW
                by_cases hj : j < R.length
                · have f1 : decide ((j : Int) < (R.length : Int)) = true := by rw [decide_eq_true_eq]; omega
                  have f2 : decide (j < R.length) = true := by rw [decide_eq_true_eq]; omega
                  have f3 : (j : Int) < (R.length : Int) := by omega
                  have HJL : Hid (j < R.length) := hj
                  obtain ⟨gi, oi, capi, hv, kk⟩ := ki.at j hj
                  injection hv with hv hv2 hv3
                  subst hv hv3
                  obtain ⟨gj, oj, capj, hv, mm⟩ := mi.at j hj
                  injection hv with hv hv4 hv3
                  subst hv hv3
                  obtain ⟨m, hm⟩ : ∃ m, R.getD j 0 = m := ⟨_, rfl⟩
                  rw [hm] at kk mm
                  have hcv : (m != m) = false := by simp
                  have hwj := w64 j (by have := HRL.out; omega)
                  clear hj hm hv2 hv4 ki mi
                  go_upto_region 21 with fail
                  go_quiet (fail)
                  obtain ⟨W6, hW6⟩ : ∃ W6, wr.drewN nq = W6 := ⟨_, rfl⟩
                  have HB6 : Hid _ := below_trans HBJ.out (below_drewN (Below.refl _ _) nq)
                  rw [hW6] at HB6 ⊢
                  clear hW6
                  go_wp2_with fail
                  go_roundg (R.length - (j + 1))
                  case measure => have := HJJ.out; have := HJL.out; omega
                  case rel => exact ⟨j + 1, by rw [hwj], ⟨HJL.out, rfl⟩, HB6⟩
                · have f1 : decide ((j : Int) < (R.length : Int)) = false := by rw [decide_eq_false_iff_not]; omega
                  have f2 : decide (j < R.length) = false := by rw [decide_eq_false_iff_not]; omega
                  clear hj HJJ ki mi
                  go_wp2_with fail
                  go_roundg (N.free.length - (i + 1))
                  case measure => have := HII.out; have := HIL.out; omega
                  case rel => exact ⟨i + 1, by rw [hwi], ⟨HIL.out, rfl⟩, HBW2⟩
            · have e1 : decide ((i : Int) < (N.free.length : Int)) = false := by rw [decide_eq_false_iff_not]; omega
              have e2 : decide (i < N.free.length) = false := by rw [decide_eq_false_iff_not]; omega
              have HBF : Hid (Below w.heap.size w wr) := below_trans HB1.out HB.out
              clear hi HII
              go_wp2_with fail
              go_ret
              exact ⟨rfl, HBF.out⟩
end Go.Proofs.Ytkjljnneghnpiaa
