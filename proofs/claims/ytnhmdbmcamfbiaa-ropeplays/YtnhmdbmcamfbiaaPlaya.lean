import Derived.Test.YtnhmdbmcamfbiaaPlay
namespace Go.Proofs.Ytnhmdbmcamfbiaa
open Go.RowKit

/-- the step as it lies in the call's own box -/
structure Boxed (W : World) (b : Nat) (k q1 a d : Int) (ins : ByteArray) (A N : Int) : Prop where
  c0 : W.cell? ⟨b, 0, none⟩ = some (.int .i64 k)
  c1 : W.cell? ⟨b, 1, none⟩ = some (.int .i64 q1)
  c2 : W.cell? ⟨b, 2, none⟩ = some (.int .i64 a)
  c3 : W.cell? ⟨b, 3, none⟩ = some (.int .i64 d)
  c4 : W.cell? ⟨b, 4, none⟩ = some (.string ins)
  c5 : W.cell? ⟨b, 5, none⟩ = some (.int .i64 A)
  c6 : W.cell? ⟨b, 6, none⟩ = some (.int .i64 N)
theorem boxed_new (w : World) (k q1 a d : Int) (ins : ByteArray) (A N : Int) : Boxed (w.alloc (.cells #[.int .i64 k, .int .i64 q1, .int .i64 a, .int .i64 d, .string ins, .int .i64 A, .int .i64 N] 66)) w.heap.size k q1 a d ins A N := by
  constructor <;> simp
theorem Boxed.mono {W W' : World} {b : Nat} {k q1 a d : Int} {ins : ByteArray} {A N : Int} (h : Boxed W b k q1 a d ins A N) (hb : Below W.heap.size W W') : Boxed W' b k q1 a d ins A N :=
  ⟨below_cell hb h.c0, below_cell hb h.c1, below_cell hb h.c2, below_cell hb h.c3, below_cell hb h.c4, below_cell hb h.c5, below_cell hb h.c6⟩

theorem drewN_below (w : World) (n : Nat) : Below w.heap.size w (w.drewN n) := below_drewN (Below.refl _ _) n

set_option maxRecDepth 100000 in
set_option maxHeartbeats 2000000 in
theorem plays_asks (k n : Nat) (q q1 a d : Int) (ins : ByteArray) (A N : Int) (w0 w : World) (h : Full w0 w k n) (hn : n ≤ 10000000000000) (h5 : q ≠ 5) (h7 : q ≠ 7) (h8 : q < 8) :
    Calls Try.prog 27 #[.pointer (some ⟨k, 0, none⟩), .agg #[.int .i64 q, .int .i64 q1, .int .i64 a, .int .i64 d, .string ins, .int .i64 A, .int .i64 N]] w fun e w' => e = .returned (.bool true) ∧ Full w0 w' k (n + 1) := by
  obtain ⟨rv, mv, cv, kv, R, M, C, K, hb, e1, e2, l1, l2⟩ := h
  obtain ⟨W0, hW0⟩ : ∃ W0, W0 = w.alloc (.cells #[.int .i64 q, .int .i64 q1, .int .i64 a, .int .i64 d, .string ins, .int .i64 A, .int .i64 N] 66) := ⟨_, rfl⟩
  have b0 : Below w.heap.size w W0 := by rw [hW0]; exact (Below.refl _ _).alloc (Nat.le_refl _) _
  have bx : Boxed W0 w.heap.size q q1 a d ins A N := by rw [hW0]; exact boxed_new w q q1 a d ins A N
  have hB := hb.mono b0
  obtain ⟨nr, hnr⟩ : ∃ nr, nr = R.length := ⟨_, rfl⟩
  have hpr : 0 < nr := by rw [hnr]; exact hb.pr
  have hP : Hid (∀ W, Calls Try.prog 25 #[.int .i64 q1, .int .i64 (nr : Int)] W fun e w' => e = .returned (.int .i64 (pickv q1 nr : Int)) ∧ W = w') := fun W => pick_at q1 nr W hpr (by omega)
  have hplt := pickv_lt q1 nr hpr
  obtain ⟨bp, mp, sp, hR, hM⟩ := same_at e1 (p := pickv q1 nr) (by omega)
  generalize pickv q1 nr = p at *
  have lm : M.length = nr := by rw [hnr]; exact (same_len e1).symm
  obtain ⟨g1, c1, hv1, hc1, _, _, hcell1⟩ := own_slice hB.or_ hb.pr
  obtain ⟨g2, c2, hv2, hc2, _, _, hcell2⟩ := own_slice hB.om hb.pm
  have cr := hcell1 p _ (ptrs_at R _ p _ hR)
  have cm := hcell2 p _ (ptrs_at M _ p _ hM)
  simp only at cr cm
  rw [← hnr] at hv1 hc1
  rw [lm] at hv2 hc2
  obtain ⟨k0, k1, k2, k3, -⟩ := book_cells hB.book
  rw [hv1] at k0
  rw [hv2] at k1
  have RP : Hid (∀ W, Below W0.heap.size W0 W → IsRope W bp sp.data.toList) := fun W hW => ((hB.con.r _ (List.mem_of_getElem? hR)).mono hW).rope
  have MP : Hid (∀ W, Below W0.heap.size W0 W → ModelAt W mp sp) := fun W hW => (hB.con.m _ (List.mem_of_getElem? hM)).mono hW
  have FIN : Hid (∀ W, Below W0.heap.size W0 W → Full w0 W k (n + 1)) := fun W hW => ⟨rv, mv, cv, kv, R, M, C, K, hB.mono hW, e1, e2, by omega, by omega⟩
  have HA : Hid (∀ W, Below W0.heap.size W0 W → Calls Try.prog 40 #[.pointer (some ⟨bp, 0, none⟩), .pointer (some ⟨mp, 0, none⟩), .agg #[.int .i64 q, .int .i64 q1, .int .i64 a, .int .i64 d, .string ins, .int .i64 A, .int .i64 N]] W fun e w' => e = .returned (.bool true) ∧ Below W.heap.size W w') := fun W hW => asks_any bp mp sp q q1 a d ins A N W (RP.out W hW) (MP.out W hW)
  obtain ⟨x0, x1, x2, x3, x4, x5, x6⟩ := bx
  have HE : Hid _ := hW0
  have HP : Hid (∀ W, Below W0.heap.size W0 W → W.cell? ⟨k, 0, none⟩ = some (.slice (some ⟨g1, 0, none⟩) nr c1) ∧ W.cell? ⟨k, 1, none⟩ = some (.slice (some ⟨g2, 0, none⟩) nr c2) ∧ W.cell? ⟨g1, p, none⟩ = some (.pointer (some ⟨bp, 0, none⟩)) ∧ W.cell? ⟨g2, p, none⟩ = some (.pointer (some ⟨mp, 0, none⟩)) ∧ W.cell? ⟨w.heap.size, 0, none⟩ = some (.int .i64 q) ∧ W.cell? ⟨w.heap.size, 1, none⟩ = some (.int .i64 q1) ∧ W.cell? ⟨w.heap.size, 2, none⟩ = some (.int .i64 a) ∧ W.cell? ⟨w.heap.size, 3, none⟩ = some (.int .i64 d) ∧ W.cell? ⟨w.heap.size, 4, none⟩ = some (.string ins) ∧ W.cell? ⟨w.heap.size, 5, none⟩ = some (.int .i64 A) ∧ W.cell? ⟨w.heap.size, 6, none⟩ = some (.int .i64 N) ∧ Below W0.heap.size W0 W) := fun W hW => ⟨below_cell hW k0, below_cell hW k1, below_cell hW cr, below_cell hW cm, below_cell hW x0, below_cell hW x1, below_cell hW x2, below_cell hW x3, below_cell hW x4, below_cell hW x5, below_cell hW x6, hW⟩
  have HB : Hid (∀ W, (W.cell? ⟨k, 0, none⟩ = some (.slice (some ⟨g1, 0, none⟩) nr c1) ∧ W.cell? ⟨k, 1, none⟩ = some (.slice (some ⟨g2, 0, none⟩) nr c2) ∧ W.cell? ⟨g1, p, none⟩ = some (.pointer (some ⟨bp, 0, none⟩)) ∧ W.cell? ⟨g2, p, none⟩ = some (.pointer (some ⟨mp, 0, none⟩)) ∧ W.cell? ⟨w.heap.size, 0, none⟩ = some (.int .i64 q) ∧ W.cell? ⟨w.heap.size, 1, none⟩ = some (.int .i64 q1) ∧ W.cell? ⟨w.heap.size, 2, none⟩ = some (.int .i64 a) ∧ W.cell? ⟨w.heap.size, 3, none⟩ = some (.int .i64 d) ∧ W.cell? ⟨w.heap.size, 4, none⟩ = some (.string ins) ∧ W.cell? ⟨w.heap.size, 5, none⟩ = some (.int .i64 A) ∧ W.cell? ⟨w.heap.size, 6, none⟩ = some (.int .i64 N) ∧ Below W0.heap.size W0 W) → Below W0.heap.size W0 W) := fun W h => h.2.2.2.2.2.2.2.2.2.2.2
  have f5 : (q == 5) = false := by rw [beq_eq_false_iff_ne]; exact h5
  have f7 : (q == 7) = false := by rw [beq_eq_false_iff_ne]; exact h7
  have f8 : decide (8 ≤ q) = false := by rw [decide_eq_false_iff_not]; omega
  have hnr2 : nr ≤ 10000000000001 := by omega
  clear hB hb e1 e2 hR hM hcell1 hcell2 hv1 hv2 hW0 b0 RP MP h5 h7 hnr lm l1 l2 k2 k3
  go_enter Try.func27, Try.ntmps27
  go_wp2_with fail
  rw [← HE.out]
  go_quiet ((go_at_call 25; exact quiet_same (hP.out _)))
  clear hP HE
  go_wp2_with fail
  go_region_held3 (fun W => W.cell? ⟨k, 0, none⟩ = some (.slice (some ⟨g1, 0, none⟩) nr c1) ∧ W.cell? ⟨k, 1, none⟩ = some (.slice (some ⟨g2, 0, none⟩) nr c2) ∧ W.cell? ⟨g1, p, none⟩ = some (.pointer (some ⟨bp, 0, none⟩)) ∧ W.cell? ⟨g2, p, none⟩ = some (.pointer (some ⟨mp, 0, none⟩)) ∧ W.cell? ⟨w.heap.size, 0, none⟩ = some (.int .i64 q) ∧ W.cell? ⟨w.heap.size, 1, none⟩ = some (.int .i64 q1) ∧ W.cell? ⟨w.heap.size, 2, none⟩ = some (.int .i64 a) ∧ W.cell? ⟨w.heap.size, 3, none⟩ = some (.int .i64 d) ∧ W.cell? ⟨w.heap.size, 4, none⟩ = some (.string ins) ∧ W.cell? ⟨w.heap.size, 5, none⟩ = some (.int .i64 A) ∧ W.cell? ⟨w.heap.size, 6, none⟩ = some (.int .i64 N) ∧ Below W0.heap.size W0 W) (first | exact HP.out _ (Below.drew (drewN_below _ _)) | exact HP.out _ (below_trans (HB.out _ (by assumption)) hb) | assumption)
    (first
    | (go_at_call 40; refine (HA.out _ ?_).mono ?_; exact HB.out _ (by assumption); rintro e w1 ⟨rfl, hb⟩))
  all_goals
    go_wp2_with fail
    go_ret
    exact ⟨rfl, FIN.out _ (HB.out _ (by assumption))⟩
end Go.Proofs.Ytnhmdbmcamfbiaa
