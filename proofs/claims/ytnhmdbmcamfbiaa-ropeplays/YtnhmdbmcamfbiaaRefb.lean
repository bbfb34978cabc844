import Derived.Test.YtnhmdbmcamfbiaaRef
import Derived.BigRegion
namespace Go.Proofs.Ytnhmdbmcamfbiaa
open Go.RowKit

set_option maxRecDepth 100000 in
set_option maxHeartbeats 1000000 in
theorem rsplice_big (m : Nat) (s : ByteArray) (a d : Int) (ins : ByteArray) (w : World) (h : ModelAt w m s) (hi : ins.size ≤ 9223372036854775807)
    (hbig : 1048576 - ((s.size : Int) - cl d (s.size - cl a s.size)) < (ins.size : Int)) :
    Calls Try.prog 37 #[.pointer (some ⟨m, 0, none⟩), .agg #[.int .i64 a, .int .i64 d, .string ins]] w fun e w' => e = .returned (.tuple #[.pointer none, .int .i64 10]) ∧ Below w.heap.size w w' := by
  have hl := h.len
  have H1 := cl_bd a s.size (by omega)
  have H2 := cl_bd d (s.size - cl a s.size) (by omega)
  have hC1 : Hid (∀ W, Calls Try.prog 48 #[.int .i64 a, .int .i64 s.size] W fun e w' => e = .returned (.int .i64 (cl a s.size)) ∧ W = w') := fun W => rwithin_any a s.size W
  have hC2 : Hid (∀ W, Calls Try.prog 48 #[.int .i64 d, .int .i64 (s.size - cl a s.size)] W fun e w' => e = .returned (.int .i64 (cl d (s.size - cl a s.size))) ∧ W = w') := fun W => rwithin_any d _ W
  generalize cl a s.size = a' at *
  generalize cl d (s.size - a') = d' at *
  have hm1 := below_cell ((Below.refl _ w).alloc (Nat.le_refl _) (.cells #[.int .i64 a, .int .i64 d, .string ins] 30)) h.cell
  have hw1 := wrap_small ((s.size : Int) - a') (by omega) (by omega)
  have hw2 := wrap_small ((s.size : Int) - d') (by omega) (by omega)
  have hw3 := wrap_small (1048576 - ((s.size : Int) - d')) (by omega) (by omega)
  have hdB : decide (1048576 - ((s.size : Int) - d') < (ins.size : Int)) = true := by rw [decide_eq_true_iff]; exact hbig
  clear h
  go_enter Try.func37, Try.ntmps37
  go_wp2_with fail
  go_quiet ((go_at_call 48; exact quiet_same (hC1.out _)))
  obtain ⟨k0, k1, k2, b1, _⟩ := box3 w (.int .i64 a) (.int .i64 d) (.string ins) nq
  have hm2 : ((w.alloc (.cells #[.int .i64 a, .int .i64 d, .string ins] 30)).drewN nq).cell? ⟨m, 0, none⟩ = some (.string s) := hm1
  generalize ((w.alloc (.cells #[.int .i64 a, .int .i64 d, .string ins] 30)).drewN nq) = W1 at *
  have B1 : Hid _ := b1
  clear b1 hm1
  go_wp2_with fail
  go_quiet ((go_at_call 48; exact quiet_same (hC2.out _)))
  have k2' : (W1.drewN nq).cell? ⟨w.heap.size, 2, none⟩ = some (.string ins) := k2
  have hm3 : (W1.drewN nq).cell? ⟨m, 0, none⟩ = some (.string s) := hm2
  have b2 := below_drewN B1.out nq
  generalize W1.drewN nq = W2 at *
  have B2 : Hid _ := b2
  clear b2 k0 k1 k2 hm2
  go_wp2_with fail
  go_quiet (fail)
  go_wp2_with fail
  go_ret2
  exact ⟨rfl, below_drewN B2.out _⟩

set_option maxRecDepth 100000 in
set_option maxHeartbeats 1000000 in
theorem rsplice_ok (m : Nat) (s : ByteArray) (a d : Int) (ins : ByteArray) (w : World) (h : ModelAt w m s)
    (hbig : (ins.size : Int) ≤ 1048576 - ((s.size : Int) - cl d (s.size - cl a s.size))) :
    Calls Try.prog 37 #[.pointer (some ⟨m, 0, none⟩), .agg #[.int .i64 a, .int .i64 d, .string ins]] w fun e w' => ∃ (m' : Nat) (r : ByteArray), e = .returned (.tuple #[.pointer (some ⟨m', 0, none⟩), .int .i64 0]) ∧ ModelAt w' m' r ∧ r.data.toList = after s.data.toList a d ins ∧ Below w.heap.size w w' := by
  have hl := h.len
  have H1 := cl_bd a s.size (by omega)
  have H2 := cl_bd d (s.size - cl a s.size) (by omega)
  unfold after
  rw [← Lib.size_eq]
  have hC1 : Hid (∀ W, Calls Try.prog 48 #[.int .i64 a, .int .i64 s.size] W fun e w' => e = .returned (.int .i64 (cl a s.size)) ∧ W = w') := fun W => rwithin_any a s.size W
  have hC2 : Hid (∀ W, Calls Try.prog 48 #[.int .i64 d, .int .i64 (s.size - cl a s.size)] W fun e w' => e = .returned (.int .i64 (cl d (s.size - cl a s.size))) ∧ W = w') := fun W => rwithin_any d _ W
  generalize cl a s.size = a' at *
  generalize cl d (s.size - a') = d' at *
  obtain ⟨A, rfl⟩ := Int.eq_ofNat_of_zero_le H1.1
  obtain ⟨D, rfl⟩ := Int.eq_ofNat_of_zero_le H2.1
  have hm1 := below_cell ((Below.refl _ w).alloc (Nat.le_refl _) (.cells #[.int .i64 a, .int .i64 d, .string ins] 30)) h.cell
  have hw1 := wrap_small ((s.size : Int) - (A : Int)) (by omega) (by omega)
  have hw2 := wrap_small ((s.size : Int) - (D : Int)) (by omega) (by omega)
  have hw3 := wrap_small (1048576 - ((s.size : Int) - (D : Int))) (by omega) (by omega)
  have hw4 := wrap_small ((A : Int) + (D : Int)) (by omega) (by omega)
  have hdB : decide (1048576 - ((s.size : Int) - (D : Int)) < (ins.size : Int)) = false := by rw [decide_eq_false_iff_not]; omega
  have HBG : Hid _ := hbig
  clear h hbig
  go_enter Try.func37, Try.ntmps37
  go_wp2_with fail
  go_quiet ((go_at_call 48; exact quiet_same (hC1.out _)))
  obtain ⟨k0, k1, k2, b1, bz⟩ := box3 w (.int .i64 a) (.int .i64 d) (.string ins) nq
  have hm2 : ((w.alloc (.cells #[.int .i64 a, .int .i64 d, .string ins] 30)).drewN nq).cell? ⟨m, 0, none⟩ = some (.string s) := hm1
  generalize ((w.alloc (.cells #[.int .i64 a, .int .i64 d, .string ins] 30)).drewN nq) = W1 at *
  have B1 : Hid _ := b1
  clear b1 hm1
  go_wp2_with fail
  go_quiet ((go_at_call 48; exact quiet_same (hC2.out _)))
  have k2' : (W1.drewN nq).cell? ⟨w.heap.size, 2, none⟩ = some (.string ins) := k2
  have hm3 : (W1.drewN nq).cell? ⟨m, 0, none⟩ = some (.string s) := hm2
  have bz2 : w.heap.size < (W1.drewN nq).heap.size := bz
  have b2 := below_drewN B1.out nq
  generalize W1.drewN nq = W2 at *
  have B2 : Hid _ := b2
  clear b2 k0 k1 k2 hm2 bz
  go_wp2_with fail
  go_quiet (fail)
  have k3 : (W2.drewN nq).cell? ⟨w.heap.size, 2, none⟩ = some (.string ins) := k2'
  have hm4 : (W2.drewN nq).cell? ⟨m, 0, none⟩ = some (.string s) := hm3
  have bz3 : w.heap.size < (W2.drewN nq).heap.size := bz2
  have b3 := below_drewN B2.out nq
  generalize W2.drewN nq = W3 at *
  have B3 : Hid _ := b3
  clear b3 k2' hm3 bz2
  go_wp2_with fail
  have s1 : A + D ≤ s.size := by omega
  have s2 : (A : Int) + (D : Int) ≤ (s.size : Int) := by omega
  have s3 : (A : Int) ≤ (s.size : Int) := by omega
  have s4 : ¬ 9223372036854775807 < A + ins.size := by have := HBG.out; omega
  have s5 : ¬ 9223372036854775807 < A + ins.size + (s.size - (A + D)) := by have := HBG.out; omega
  have s6 : ¬ 9223372036854775807 < min A s.size + ins.size := by have := HBG.out; omega
  have s7 : ¬ 9223372036854775807 < min A s.size + ins.size + (s.size - (A + D)) := by have := HBG.out; omega
  go_region
  all_goals
    go_wp2_with fail
    go_ret2
    refine ⟨_, _, rfl, ⟨heap_alloc_new W3 _, ?_⟩, ?_, (B3.out.alloc B3.out.size _).drew⟩
    · have := HBG.out
      rw [ByteArray.size_append, ByteArray.size_append, ByteArray.size_extract, ByteArray.size_extract]
      omega
    · rw [ByteArray.data_append, ByteArray.data_append, Array.toList_append, Array.toList_append, Lib.extract_to_end, Lib.extract_data, Int.toNat_natCast, Int.toNat_natCast]
      simp
set_option maxRecDepth 100000 in
set_option maxHeartbeats 400000 in
theorem rcursor_any (m : Nat) (s : ByteArray) (a : Int) (w : World) (h : ModelAt w m s) :
    Calls Try.prog 38 #[.pointer (some ⟨m, 0, none⟩), .int .i64 a] w fun e w' => ∃ r : Nat, e = .returned (.pointer (some ⟨r, 0, none⟩)) ∧ r = w.heap.size ∧ ReaderAt w' r s (cl a s.size).toNat (cl a s.size).toNat ∧ Below w.heap.size w w' := by
  have c0 := h.cell
  have hl := h.len
  have H1 := cl_bd a s.size (by omega)
  have hC1 : Hid (∀ W, Calls Try.prog 48 #[.int .i64 a, .int .i64 s.size] W fun e w' => e = .returned (.int .i64 (cl a s.size)) ∧ W = w') := fun W => rwithin_any a s.size W
  generalize cl a s.size = a' at *
  obtain ⟨A, rfl⟩ := Int.eq_ofNat_of_zero_le H1.1
  clear h
  go_enter Try.func38, Try.ntmps38
  go_wp2_with fail
  refine (hC1.out _).mono ?_
  rintro e w' ⟨rfl, rfl⟩
  go_wp2_with fail
  go_ret
  exact ⟨_, rfl, rfl, ⟨heap_alloc_new w _, by simp only [Int.toNat_natCast]; omega, by simp only [Int.toNat_natCast]; omega, hl⟩, (Below.refl _ _).alloc (Nat.le_refl _) _⟩

theorem ReaderAt.set1 {w : World} {r p f : Nat} {s : ByteArray} (h : ReaderAt w r s p f) (p' : Nat) (hp : p' ≤ s.size) :
    ReaderAt (w.setCell ⟨r, 1, none⟩ (.int .i64 (p' : Int))) r s p' f ∧ Moved r w (w.setCell ⟨r, 1, none⟩ (.int .i64 (p' : Int))) :=
  ⟨⟨by simp [World.setCell, Array.getElem?_modify, h.heap], hp, h.far, h.len⟩, Moved.set r 1 w _⟩
theorem ReaderAt.set2 {w : World} {r p f : Nat} {s : ByteArray} (h : ReaderAt w r s p f) (f' : Nat) (hf : f' ≤ s.size + 1) :
    ReaderAt (w.setCell ⟨r, 2, none⟩ (.int .i64 (f' : Int))) r s p f' ∧ Moved r w (w.setCell ⟨r, 2, none⟩ (.int .i64 (f' : Int))) :=
  ⟨⟨by simp [World.setCell, Array.getElem?_modify, h.heap], h.at_, hf, h.len⟩, Moved.set r 2 w _⟩

set_option maxRecDepth 100000 in
set_option maxHeartbeats 400000 in
theorem rat_any (r p f : Nat) (s : ByteArray) (w : World) (h : ReaderAt w r s p f) :
    Calls Try.prog 51 #[.pointer (some ⟨r, 0, none⟩)] w fun e w' => e = .returned (.int .i64 (p : Int)) ∧ w = w' := by
  obtain ⟨-, c1, -, -⟩ := h.cells
  clear h
  go_enter Try.func51, Try.ntmps51
  go_wp2
  go_ret
  exact ⟨rfl, rfl⟩
set_option maxRecDepth 100000 in
set_option maxHeartbeats 400000 in
theorem rfar_any (r p f : Nat) (s : ByteArray) (w : World) (h : ReaderAt w r s p f) :
    Calls Try.prog 52 #[.pointer (some ⟨r, 0, none⟩)] w fun e w' => e = .returned (.int .i64 (f : Int)) ∧ w = w' := by
  obtain ⟨-, -, c2, -⟩ := h.cells
  clear h
  go_enter Try.func52, Try.ntmps52
  go_wp2
  go_ret
  exact ⟨rfl, rfl⟩
set_option maxRecDepth 100000 in
set_option maxHeartbeats 400000 in
theorem rback_at0 (r f : Nat) (s : ByteArray) (w : World) (h : ReaderAt w r s 0 f) :
    Calls Try.prog 50 #[.pointer (some ⟨r, 0, none⟩)] w fun e w' => e = .returned (.bool false) ∧ w = w' := by
  obtain ⟨-, c1, -, -⟩ := h.cells
  clear h
  go_enter Try.func50, Try.ntmps50
  go_wp2
  go_ret
  exact ⟨rfl, rfl⟩
set_option maxRecDepth 100000 in
set_option maxHeartbeats 400000 in
theorem rback_any (r p f : Nat) (s : ByteArray) (w : World) (h : ReaderAt w r s (p + 1) f) :
    Calls Try.prog 50 #[.pointer (some ⟨r, 0, none⟩)] w fun e w' => e = .returned (.bool true) ∧ ReaderAt w' r s p f ∧ Moved r w w' := by
  have h4 := h.at_
  have h6 := h.len
  have FIN : Hid _ := h.set1 p (by omega)
  obtain ⟨-, c1, -, fz⟩ := h.cells
  have hne : (((p : Int) + 1) == 0) = false := by rw [beq_eq_false_iff_ne]; omega
  have hp : p ≤ 1048576 := by omega
  clear h h4 h6
  go_enter Try.func50, Try.ntmps50
  go_wp2
  go_ret
  exact ⟨rfl, FIN.out⟩

set_option maxRecDepth 100000 in
set_option maxHeartbeats 400000 in
theorem seen_any (r p f g : Nat) (s : ByteArray) (w : World) (h : ReaderAt w r s p f) (hg : g ≤ s.size + 1) :
    Calls Try.prog 61 #[.pointer (some ⟨r, 0, none⟩), .int .i64 (g : Int)] w fun e w' => e = .returned (.tuple #[]) ∧ ReaderAt w' r s p (max f g) ∧ Moved r w w' := by
  have h6 := h.len
  obtain ⟨-, -, c2, fz⟩ := h.cells
  by_cases hlt : f < g
  · have FIN : Hid _ := h.set2 g hg
    have hm : Hid (max f g = g) := (by omega : max f g = g)
    clear h
    go_enter Try.func61, Try.ntmps61
    go_wp2
    go_end0
    exact ⟨rfl, by rw [hm.out]; exact FIN.out⟩
  · have HH : Hid _ := h
    have hm : Hid (max f g = f) := (by omega : max f g = f)
    have hge : g ≤ f := by omega
    clear h hlt
    go_enter Try.func61, Try.ntmps61
    go_wp2
    go_end0
    exact ⟨rfl, by rw [hm.out]; exact ⟨HH.out, Moved.refl _ _⟩⟩

theorem ReaderAt.drewN {w : World} {r p f : Nat} {s : ByteArray} (h : ReaderAt w r s p f) (k : Nat) : ReaderAt (w.drewN k) r s p f := ⟨h.heap, h.at_, h.far, h.len⟩

set_option maxRecDepth 100000 in
set_option maxHeartbeats 400000 in
theorem rnext_end (r f : Nat) (s : ByteArray) (w : World) (h : ReaderAt w r s s.size f) :
    Calls Try.prog 49 #[.pointer (some ⟨r, 0, none⟩)] w fun e w' => e = .returned (.tuple #[.int .u8 0, .bool false]) ∧ ReaderAt w' r s s.size (s.size + 1) ∧ Moved r w w' := by
  have h6 := h.len
  have h7 := h.far
  obtain ⟨-, c1, -, -⟩ := h.cells
  have hS := seen_any r s.size f (s.size + 1) s w h (Nat.le_refl _)
  rw [show max f (s.size + 1) = s.size + 1 by omega, show ((s.size + 1 : Nat) : Int) = (s.size : Int) + 1 by omega] at hS
  have QS : Hid _ := hS
  clear h hS h7
  go_enter Try.func49, Try.ntmps49
  go_wp2_with fail
  refine Calls.mono QS.out ?_
  rintro e w1 ⟨rfl, hr, hm⟩
  obtain ⟨d0, d1, -, -⟩ := hr.cells
  have HR : Hid _ := hr
  have HM : Hid _ := hm
  clear hr hm c1
  go_wp2_with fail
  go_quiet (fail)
  go_wp2_with fail
  go_ret2
  exact ⟨rfl, HR.out.drewN _, HM.out.trans (Moved.drewN _ _ _)⟩

set_option maxRecDepth 100000 in
set_option maxHeartbeats 400000 in
theorem rnext_any (r p f : Nat) (s : ByteArray) (w : World) (h : ReaderAt w r s p f) (hp : p < s.size) :
    Calls Try.prog 49 #[.pointer (some ⟨r, 0, none⟩)] w fun e w' => e = .returned (.tuple #[.int .u8 ((s.data.toList[p]?.getD 0).toNat : Int), .bool true]) ∧ ReaderAt w' r s (p + 1) (max f (p + 1)) ∧ Moved r w w' := by
  have h6 := h.len
  obtain ⟨-, c1, -, -⟩ := h.cells
  have hS := seen_any r p f (p + 1) s w h (by omega)
  rw [show ((p + 1 : Nat) : Int) = (p : Int) + 1 by omega] at hS
  have QS : Hid _ := hS
  have hI := idx_str s p hp
  obtain ⟨B, hB⟩ : ∃ B : Int, B = ((s.data.toList[p]?.getD 0).toNat : Int) := ⟨_, rfl⟩
  rw [← hB] at hI
  rw [← hB]
  have hne : ((p : Int) == (s.size : Int)) = false := by rw [beq_eq_false_iff_ne]; omega
  have hw1 := wrap_small ((p : Int) + 1 - 1) (by omega) (by omega)
  have hpe : (p : Int) + 1 - 1 = (p : Int) := by omega
  clear h hS hB
  go_enter Try.func49, Try.ntmps49
  go_wp2_with fail
  refine Calls.mono QS.out ?_
  rintro e w1 ⟨rfl, hr, hm⟩
  obtain ⟨d0, d1, -, fz⟩ := hr.cells
  have FIN : Hid (∀ k, ReaderAt ((w1.drewN k).setCell ⟨r, 1, none⟩ (.int .i64 ((p : Int) + 1))) r s (p + 1) (max f (p + 1)) ∧ Moved r (w1.drewN k) ((w1.drewN k).setCell ⟨r, 1, none⟩ (.int .i64 ((p : Int) + 1)))) := fun k => (hr.drewN k).set1 (p + 1) (by omega)
  have HM : Hid _ := hm
  clear hr hm c1
  go_wp2_with fail
  go_quiet (fail)
  go_wp2_with fail
  go_quiet (fail)
  go_wp2_with fail
  go_ret2
  exact ⟨rfl, (FIN.out _).1.drewN _, (HM.out.trans ((Moved.drewN _ _ _).trans (FIN.out _).2)).trans (Moved.drewN _ _ _)⟩

end Go.Proofs.Ytnhmdbmcamfbiaa
