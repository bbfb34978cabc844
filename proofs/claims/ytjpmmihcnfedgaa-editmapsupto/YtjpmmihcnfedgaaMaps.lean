import Derived.Test.YtjpmmihcnfedgaaClam
namespace Go.Proofs.Ytjpmmihcnfedgaa
open Go.RowKit

set_option maxRecDepth 100000 in
set_option maxHeartbeats 1000000 in
theorem cclamp_any (n : Nat) (p q : Int) (ins : ByteArray) (w : World) (hn : n ≤ 1048576) (hi : ins.size ≤ 140737488355328) :
    Calls Try.prog 9 #[.int .i64 (n : Int), ed p q ins] w fun e w' => e = .returned (ed (ca n p) (cd n p q) ins) ∧ Below w.heap.size w w' := by
  have C0 : Hid _ := fun W : World => clamped_any n p q ins W (by omega)
  have C1 : Hid _ := fun W : World => right_any n W
  have C2 : Hid _ := fun W : World => clone_any ins W (by omega)
  rw [decide_eq_true (show 0 ≤ (n : Int) ∧ (n : Int) ≤ 1048576 by omega)] at C1
  clear hn hi
  go_enter Try.func9, Try.ntmps9
  go_wp2_with fail
  refine (C1.out _).mono ?_
  rintro e' w2 ⟨rfl, rfl⟩
  go_wp2_with fail
  refine (C0.out _).mono ?_
  rintro e' w2 ⟨rfl, hb⟩
  obtain ⟨h1, h2, h3⟩ := box2 hb
  have H1 : Hid _ := h1
  have H2 : Hid _ := h2
  have H3 : Hid _ := h3
  obtain ⟨a0, a1, a2, af⟩ := h1
  clear hb h2 h3 C0 C1
  go_wp2_with fail
  refine (C2.out _).mono ?_
  rintro e' w3 ⟨rfl, hb⟩
  have g1 := (H1.out.set (.int .i64 (ca n p : Int)) (.int .i64 (cd n p q : Int)) (.string ins)).up hb
  have g2 := (H2.out.oth (b := w.heap.size) (by omega) (.int .i64 (ca n p : Int)) (.int .i64 (cd n p q : Int)) (.string ins)).up hb
  have g3 : Hid (Below w.heap.size w w3) := (bel_set3 H3.out (Nat.le_refl _) _ _ _).trans (hb.mono (bel_set3 H3.out (Nat.le_refl _) _ _ _).size)
  clear hb H1 H2 H3 a0 a1 a2 af C2
  obtain ⟨a0, a1, a2, af⟩ := g1
  obtain ⟨r0, r1, r2, rf⟩ := g2
  go_wp2_with fail
  (try simp only [Exit.inBlock, Exit.then])
  refine bodyPost_ret (v := ed (ca n p) (cd n p q) ins) ?_ rfl ⟨rfl, ?_⟩
  · rw [results_cell1 rfl]; go_simp
  · (repeat' (first | exact g3.out | refine Below.drew ?_ | refine Below.setCell ?_ (by simp <;> omega) _))

set_option maxRecDepth 100000 in
set_option maxHeartbeats 1000000 in
theorem cclamp_bad (n : Int) (p q : Int) (ins : ByteArray) (w : World) (hn : n < 0 ∨ 1048576 < n) :
    Calls Try.prog 9 #[.int .i64 n, ed p q ins] w fun e w' => e = .returned (ed 0 0 ⟨#[]⟩) ∧ Below w.heap.size w w' := by
  have C1 : Hid _ := fun W : World => right_any n W
  rw [decide_eq_false (show ¬ (0 ≤ n ∧ n ≤ 1048576) by omega)] at C1
  clear hn
  go_enter Try.func9, Try.ntmps9
  go_wp2_with fail
  refine (C1.out _).mono ?_
  rintro e' w2 ⟨rfl, rfl⟩
  go_wp2_with fail
  (try simp only [Exit.inBlock, Exit.then])
  refine bodyPost_ret (v := ed 0 0 ⟨#[]⟩) ?_ rfl ⟨rfl, ?_⟩
  · rw [results_cell1 rfl]; go_simp
  · (repeat' (first | exact Below.refl _ _ | refine Below.drew ?_ | refine Below.setCell ?_ (by simp <;> omega) _ | refine Below.alloc ?_ (by simp <;> omega) _))

set_option maxRecDepth 100000 in
set_option maxHeartbeats 1000000 in
theorem map_bad (n : Int) (p q : Int) (ins : ByteArray) (t : Int) (w : World) (hn : n < 0 ∨ 1048576 < n ∨ t < 0 ∨ n ≤ t) :
    Calls Try.prog 10 #[.int .i64 n, ed p q ins, .int .i64 t] w fun e w' => e = .returned (.tuple #[.int .i64 0, .bool false]) ∧ Below w.heap.size w w' := by
  have C1 : Hid _ := fun W : World => right_any n W
  by_cases h1 : 0 ≤ n ∧ n ≤ 1048576
  · rw [decide_eq_true h1] at C1
    by_cases h2 : t < 0
    · clear hn h1
      go_enter Try.func10, Try.ntmps10
      go_wp2_with fail
      refine (C1.out _).mono ?_
      rintro e' w2 ⟨rfl, rfl⟩
      go_wp2_with fail
      go_ret2
      exact ⟨rfl, bel_up _ _⟩
    · have h3 : n ≤ t := by omega
      clear hn h1
      go_enter Try.func10, Try.ntmps10
      go_wp2_with fail
      refine (C1.out _).mono ?_
      rintro e' w2 ⟨rfl, rfl⟩
      go_wp2_with fail
      go_ret2
      exact ⟨rfl, bel_up _ _⟩
  · rw [decide_eq_false h1] at C1
    clear hn h1
    go_enter Try.func10, Try.ntmps10
    go_wp2_with fail
    refine (C1.out _).mono ?_
    rintro e' w2 ⟨rfl, rfl⟩
    go_wp2_with fail
    go_ret2
    exact ⟨rfl, bel_up _ _⟩

set_option maxRecDepth 100000 in
set_option maxHeartbeats 1000000 in
theorem map_any (n : Nat) (p q : Int) (ins : ByteArray) (t : Int) (w : World) (hn : n ≤ 1048576) (hi : ins.size ≤ 140737488355328) (h0 : 0 ≤ t) (h1 : t < n) :
    Calls Try.prog 10 #[.int .i64 (n : Int), ed p q ins, .int .i64 t] w fun e w' => e = .returned (.tuple #[.int .i64 (mvv t (ca n p) (cd n p q) ins.size), .bool (mvb t (ca n p) (cd n p q))]) ∧ Below w.heap.size w w' := by
  have hle := cd_le n p q
  have C0 : Hid _ := fun W : World => clamped_any n p q ins W (by omega)
  have C1 : Hid _ := fun W : World => right_any n W
  have C2 : Hid _ := fun W : World => move_any t (ca n p) (cd n p q) ins.size W (by omega) (by omega) (by omega) (by omega)
  rw [decide_eq_true (show 0 ≤ (n : Int) ∧ (n : Int) ≤ 1048576 by omega)] at C1
  clear hn hi hle
  go_enter Try.func10, Try.ntmps10
  go_wp2_with fail
  refine (C1.out _).mono ?_
  rintro e' w2 ⟨rfl, rfl⟩
  go_wp2_with fail
  refine (C0.out _).mono ?_
  rintro e' w2 ⟨rfl, hb⟩
  have h1 := box1 hb
  have H3 : Hid (Below w.heap.size w w2) := below_trans (bel_up _ _) hb
  obtain ⟨a0, a1, a2, af⟩ := h1
  clear hb C0 C1
  go_wp2_with fail
  refine (C2.out _).mono ?_
  rintro e' w3 ⟨rfl, rfl⟩
  go_wp2_with fail
  go_ret2
  exact ⟨rfl, bel_set3 H3.out (Nat.le_refl _) _ _ _⟩

set_option maxRecDepth 100000 in
set_option maxHeartbeats 1000000 in
theorem back_bad (n : Int) (p q : Int) (ins : ByteArray) (t : Int) (w : World) (hn : n < 0 ∨ 1048576 < n) :
    Calls Try.prog 11 #[.int .i64 n, ed p q ins, .int .i64 t] w fun e w' => e = .returned (.tuple #[.int .i64 0, .bool false]) ∧ Below w.heap.size w w' := by
  have C1 : Hid _ := fun W : World => right_any n W
  rw [decide_eq_false (show ¬ (0 ≤ n ∧ n ≤ 1048576) by omega)] at C1
  clear hn
  go_enter Try.func11, Try.ntmps11
  go_wp2_with fail
  refine (C1.out _).mono ?_
  rintro e' w2 ⟨rfl, rfl⟩
  go_wp2_with fail
  go_ret2
  exact ⟨rfl, bel_up _ _⟩

set_option maxRecDepth 100000 in
set_option maxHeartbeats 1000000 in
theorem back_out (n : Nat) (p q : Int) (ins : ByteArray) (t : Int) (w : World) (hn : n ≤ 1048576) (hi : ins.size ≤ 140737488355328) (h : t < 0 ∨ ((n - cd n p q + ins.size : Nat) : Int) ≤ t) :
    Calls Try.prog 11 #[.int .i64 (n : Int), ed p q ins, .int .i64 t] w fun e w' => e = .returned (.tuple #[.int .i64 0, .bool false]) ∧ Below w.heap.size w w' := by
  have hle := cd_le n p q
  have C0 : Hid _ := fun W : World => clamped_any n p q ins W (by omega)
  have C1 : Hid _ := fun W : World => right_any n W
  rw [decide_eq_true (show 0 ≤ (n : Int) ∧ (n : Int) ≤ 1048576 by omega)] at C1
  by_cases h0 : t < 0
  · clear h
    go_enter Try.func11, Try.ntmps11
    go_wp2_with fail
    refine (C1.out _).mono ?_
    rintro e' w2 ⟨rfl, rfl⟩
    go_wp2_with fail
    refine (C0.out _).mono ?_
    rintro e' w2 ⟨rfl, hb⟩
    have h1 := box1 hb
    have H3 : Hid (Below w.heap.size w w2) := below_trans (bel_up _ _) hb
    obtain ⟨a0, a1, a2, af⟩ := h1
    clear hb C0 C1
    go_wp2_with fail
    go_ret2
    exact ⟨rfl, bel_set3 H3.out (Nat.le_refl _) _ _ _⟩
  · have h2 : (n : Int) - cd n p q + ins.size ≤ t := by omega
    clear h
    go_enter Try.func11, Try.ntmps11
    go_wp2_with fail
    refine (C1.out _).mono ?_
    rintro e' w2 ⟨rfl, rfl⟩
    go_wp2_with fail
    refine (C0.out _).mono ?_
    rintro e' w2 ⟨rfl, hb⟩
    have h1 := box1 hb
    have H3 : Hid (Below w.heap.size w w2) := below_trans (bel_up _ _) hb
    obtain ⟨a0, a1, a2, af⟩ := h1
    clear hb C0 C1
    go_wp2_with fail
    go_ret2
    exact ⟨rfl, bel_set3 H3.out (Nat.le_refl _) _ _ _⟩

set_option maxRecDepth 100000 in
set_option maxHeartbeats 1000000 in
theorem back_any (n : Nat) (p q : Int) (ins : ByteArray) (t : Int) (w : World) (hn : n ≤ 1048576) (hi : ins.size ≤ 140737488355328) (h0 : 0 ≤ t) (h : t < ((n - cd n p q + ins.size : Nat) : Int)) :
    Calls Try.prog 11 #[.int .i64 (n : Int), ed p q ins, .int .i64 t] w fun e w' => e = .returned (.tuple #[.int .i64 (mvv t (ca n p) ins.size (cd n p q)), .bool (mvb t (ca n p) ins.size)]) ∧ Below w.heap.size w w' := by
  have hle := cd_le n p q
  have C0 : Hid _ := fun W : World => clamped_any n p q ins W (by omega)
  have C1 : Hid _ := fun W : World => right_any n W
  have C2 : Hid _ := fun W : World => move_any t (ca n p) ins.size (cd n p q) W (by omega) (by omega) (by omega) (by omega)
  rw [decide_eq_true (show 0 ≤ (n : Int) ∧ (n : Int) ≤ 1048576 by omega)] at C1
  have h2 : t < (n : Int) - cd n p q + ins.size := by omega
  clear h
  go_enter Try.func11, Try.ntmps11
  go_wp2_with fail
  refine (C1.out _).mono ?_
  rintro e' w2 ⟨rfl, rfl⟩
  go_wp2_with fail
  refine (C0.out _).mono ?_
  rintro e' w2 ⟨rfl, hb⟩
  have h1 := box1 hb
  have H3 : Hid (Below w.heap.size w w2) := below_trans (bel_up _ _) hb
  obtain ⟨a0, a1, a2, af⟩ := h1
  clear hb C0 C1
  go_wp2_with fail
  refine (C2.out _).mono ?_
  rintro e' w3 ⟨rfl, rfl⟩
  go_wp2_with fail
  go_ret2
  exact ⟨rfl, bel_set3 H3.out (Nat.le_refl _) _ _ _⟩

end Go.Proofs.Ytjpmmihcnfedgaa
