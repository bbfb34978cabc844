import Derived.Test.YtjpmmihcnfedgaaCover
import Derived.Test.YtjpmmihcnfedgaaAlive
namespace Go.Proofs.Ytjpmmihcnfedgaa
open Go.RowKit

set_option maxRecDepth 100000 in
set_option maxHeartbeats 1000000 in
theorem clamped_big (s : ByteArray) (p1 q1 p2 q2 t : Int) (i1 i2 : ByteArray) (w : World) (hs : 1048576 < s.size) :
    Calls Try.prog 8 #[.string s, ed p1 q1 i1, ed p2 q2 i2, .int .i64 t] w fun e w' => e = .returned (.bool true) ∧ Below w.heap.size w w' := by
  have CA : Hid _ := fun W : World => alive_any W
  have C9 : Hid _ := fun W : World => cclamp_bad s.size p1 q1 i1 W (by omega)
  have hs' : (1048576 : Int) < (s.size : Int) := by omega
  clear hs
  go_enter Try.func8, Try.ntmps8
  go_wp2_with fail
  refine (CA.out _).mono ?_
  rintro e' w1 ⟨rfl, hb⟩
  obtain ⟨h1, h2, h3⟩ := box2 hb
  have B1 : Hid _ := h3
  obtain ⟨a0, a1, a2, af⟩ := h1
  clear hb CA h3
  go_wp2_with fail
  refine (C9.out _).mono ?_
  rintro e' w2 ⟨rfl, hb⟩
  have B2 : Hid _ := below_trans B1.out hb
  clear hb C9 a0 a1 a2 af h2
  go_wp2_with fail
  go_ret
  exact ⟨by simp, below_trans B2.out (bel_up _ _)⟩

set_option maxRecDepth 100000 in
set_option maxHeartbeats 2000000 in
theorem clamped_run (s i1 i2 r vI gI : ByteArray) (p1 q1 p2 q2 t code x y v0 v1 g0 g1 : Int) (a d : Nat) (bx by_ : Bool) (w : World)
    (C9 : Hid (∀ W : World, Calls Try.prog 9 #[.int .i64 (s.size : Int), ed p1 q1 i1] W fun e W' => e = .returned (ed (a : Int) (d : Int) i1) ∧ Below W.heap.size W W'))
    (C9c : Hid (∀ W : World, Calls Try.prog 9 #[.int .i64 (s.size : Int), ed (a : Int) (d : Int) i1] W fun e W' => e = .returned (ed (a : Int) (d : Int) i1) ∧ Below W.heap.size W W'))
    (C16 : Hid (∀ W : World, Calls Try.prog 16 #[.string s, ed p1 q1 i1] W fun e W' => e = .returned (.tuple #[.string r, .int .i64 code]) ∧ Below W.heap.size W W'))
    (C16c : Hid (∀ W : World, Calls Try.prog 16 #[.string s, ed (a : Int) (d : Int) i1] W fun e W' => e = .returned (.tuple #[.string r, .int .i64 code]) ∧ Below W.heap.size W W'))
    (C10 : Hid (∀ W : World, Calls Try.prog 10 #[.int .i64 (s.size : Int), ed p1 q1 i1, .int .i64 t] W fun e W' => e = .returned (.tuple #[.int .i64 x, .bool bx]) ∧ Below W.heap.size W W'))
    (C10c : Hid (∀ W : World, Calls Try.prog 10 #[.int .i64 (s.size : Int), ed (a : Int) (d : Int) i1, .int .i64 t] W fun e W' => e = .returned (.tuple #[.int .i64 x, .bool bx]) ∧ Below W.heap.size W W'))
    (C11 : Hid (∀ W : World, Calls Try.prog 11 #[.int .i64 (s.size : Int), ed p1 q1 i1, .int .i64 t] W fun e W' => e = .returned (.tuple #[.int .i64 y, .bool by_]) ∧ Below W.heap.size W W'))
    (C11c : Hid (∀ W : World, Calls Try.prog 11 #[.int .i64 (s.size : Int), ed (a : Int) (d : Int) i1, .int .i64 t] W fun e W' => e = .returned (.tuple #[.int .i64 y, .bool by_]) ∧ Below W.heap.size W W'))
    (C17 : Hid (∀ W : World, Calls Try.prog 17 #[.string s, ed p1 q1 i1] W fun e W' => e = .returned (ed v0 v1 vI) ∧ Below W.heap.size W W'))
    (C17c : Hid (∀ W : World, Calls Try.prog 17 #[.string s, ed (a : Int) (d : Int) i1] W fun e W' => e = .returned (ed v0 v1 vI) ∧ Below W.heap.size W W'))
    (C19 : Hid (∀ W : World, Calls Try.prog 19 #[.string s, ed p1 q1 i1, ed p2 q2 i2] W fun e W' => e = .returned (ed g0 g1 gI) ∧ Below W.heap.size W W'))
    (C19c : Hid (∀ W : World, Calls Try.prog 19 #[.string s, ed (a : Int) (d : Int) i1, ed p2 q2 i2] W fun e W' => e = .returned (ed g0 g1 gI) ∧ Below W.heap.size W W'))
    (hs : s.size ≤ 1048576) (had : a + d ≤ s.size) :
    Calls Try.prog 8 #[.string s, ed p1 q1 i1, ed p2 q2 i2, .int .i64 t] w fun e w' => e = .returned (.bool true) ∧ Below w.heap.size w w' := by
  have CA : Hid _ := fun W : World => alive_any W
  have HS : Hid (s.size ≤ 1048576 ∧ a + d ≤ s.size) := ⟨hs, had⟩
  clear hs had
  go_enter Try.func8, Try.ntmps8
  go_wp2_with fail
  refine (CA.out _).mono ?_
  rintro e' w1 ⟨rfl, hb⟩
  obtain ⟨h1, h2, h3⟩ := box2 hb
  have Ke1 : Hid _ := h1
  have Kf1 : Hid _ := h2
  have B1 : Hid _ := h3
  clear hb h1 h2 h3 CA
  obtain ⟨e0, e1, e2, ef⟩ := Ke1.out
  go_wp2_with fail
  refine (C9.out _).mono ?_
  rintro e' w2 ⟨rfl, hb⟩
  have Ke2 : Hid _ := Ke1.out.up hb
  have Kf2 : Hid _ := Kf1.out.up hb
  have B2 : Hid _ := below_trans B1.out hb
  clear hb Ke1 Kf1 B1 e0 e1 e2 ef C9
  have hs := HS.out.1
  have hE := (Ke2.out.up (bel_up _ (.cells #[.int .i64 (a : Int), .int .i64 (d : Int), .string i1] 23)))
  have hF : Hid _ := (Kf2.out.up (bel_up _ (.cells #[.int .i64 (a : Int), .int .i64 (d : Int), .string i1] 23)))
  have hC : Hid _ := box1 (Below.refl (w2.alloc (.cells #[.int .i64 (a : Int), .int .i64 (d : Int), .string i1] 23)).heap.size (w2.alloc (.cells #[.int .i64 (a : Int), .int .i64 (d : Int), .string i1] 23)))
  have BW : Hid _ := below_trans B2.out (bel_up _ (.cells #[.int .i64 (a : Int), .int .i64 (d : Int), .string i1] 23))
  have HE : Hid _ := hE
  clear hE Ke2 Kf2 B2
  go_upto_region 7 with fail
  obtain ⟨W0, hW0⟩ : ∃ W0, W0 = w2.alloc (.cells #[.int .i64 (a : Int), .int .i64 (d : Int), .string i1] 23) := ⟨_, rfl⟩
  rw [← hW0] at HE hF hC BW
  rw [← hW0]
  clear hW0
  have HP : Hid (∀ W, Below W0.heap.size W0 W → W.cell? ⟨w2.heap.size, 0, none⟩ = some (.int .i64 (a : Int)) ∧ W.cell? ⟨w2.heap.size, 1, none⟩ = some (.int .i64 (d : Int)) ∧ W.cell? ⟨w2.heap.size, 2, none⟩ = some (.string i1) ∧ W.cell? ⟨w.heap.size, 2, none⟩ = some (.string i1)) := fun W hW => ⟨below_cell hW hC.out.c0, below_cell hW hC.out.c1, below_cell hW hC.out.c2, below_cell hW HE.out.c2⟩
  have qq1 : decide ((a : Int) < 0) = false := decide_eq_false (by omega)
  have qq2 : decide ((d : Int) < 0) = false := decide_eq_false (by omega)
  have qq3 : decide ((s.size : Int) < (a : Int)) = false := decide_eq_false (by have := HS.out.2; omega)
  have qq3n : decide (s.size < a) = false := decide_eq_false (by have := HS.out.2; omega)
  have wr : IntKind.i64.wrap ((s.size : Int) - (a : Int)) = (s.size : Int) - (a : Int) := by have := HS.out.2; rw [IntKind.wrap_i64]; omega
  have qq4 : decide ((s.size : Int) - (a : Int) < (d : Int)) = false := decide_eq_false (by have := HS.out.2; omega)
  refine wp_region_noPanic ?_
  refine wp_region_held_drew (S := fun W => W.cell? ⟨w2.heap.size, 0, none⟩ = some (.int .i64 (a : Int)) ∧ W.cell? ⟨w2.heap.size, 1, none⟩ = some (.int .i64 (d : Int)) ∧ W.cell? ⟨w2.heap.size, 2, none⟩ = some (.string i1) ∧ W.cell? ⟨w.heap.size, 2, none⟩ = some (.string i1)) (by kernel_rfl) (HP.out _ (Below.drew (Below.refl _ _))) (fun hHeld => ?_)
  refine wpAnyH_take (i := 0) (oi := { dst := _, op := _, type := _, pos := _, after := _, guard := _ }) (v := ?_) rfl (by kernel_rfl) (by kernel_rfl) (by kernel_rfl) (fun _ _ _ h => h) (Or.inl ⟨by rfl, ?_⟩) (by assumption) ?_
  rotate_left
  · intro W hSw
    (try dsimp only at hSw)
    go_simp
    (try with_reducible rfl)
  try simp only [Act.put, List.setIfInBounds_toArray, List.set_cons_zero, List.set_cons_succ]
  refine wpAnyH_take (i := 1) (oi := { dst := _, op := _, type := _, pos := _, after := _, guard := _ }) (v := ?_) rfl (by kernel_rfl) (by kernel_rfl) (by kernel_rfl) (fun _ _ _ h => h) (Or.inl ⟨by rfl, ?_⟩) (by assumption) ?_
  rotate_left
  · intro W hSw
    (try dsimp only at hSw)
    go_simp
    (try with_reducible rfl)
  try simp only [Act.put, List.setIfInBounds_toArray, List.set_cons_zero, List.set_cons_succ]
  refine wpAnyH_take (i := 2) (oi := { dst := _, op := _, type := _, pos := _, after := _, guard := _ }) (v := ?_) rfl (by kernel_rfl) (by kernel_rfl) (by kernel_rfl) (fun _ _ _ h => h) (Or.inl ⟨by rfl, ?_⟩) (by assumption) ?_
  rotate_left
  · intro W hSw
    (try dsimp only at hSw)
    go_simp
    (try with_reducible rfl)
  try simp only [Act.put, List.setIfInBounds_toArray, List.set_cons_zero, List.set_cons_succ]
  refine wpAnyH_take (i := 3) (oi := { dst := _, op := _, type := _, pos := _, after := _, guard := _ }) (v := ?_) rfl (by kernel_rfl) (by kernel_rfl) (by kernel_rfl) (fun _ _ _ h => h) (Or.inl ⟨by rfl, ?_⟩) (by assumption) ?_
  rotate_left
  · intro W hSw
    (try dsimp only at hSw)
    go_simp
    (try with_reducible rfl)
  try simp only [Act.put, List.setIfInBounds_toArray, List.set_cons_zero, List.set_cons_succ]
  refine wpAnyH_take (i := 4) (oi := { dst := _, op := _, type := _, pos := _, after := _, guard := _ }) (v := ?_) rfl (by kernel_rfl) (by kernel_rfl) (by kernel_rfl) (fun _ _ _ h => h) (Or.inl ⟨by rfl, ?_⟩) (by assumption) ?_
  rotate_left
  · intro W hSw
    (try dsimp only at hSw)
    go_simp
    (try with_reducible rfl)
  try simp only [Act.put, List.setIfInBounds_toArray, List.set_cons_zero, List.set_cons_succ]
  refine wpAnyH_take (i := 5) (oi := { dst := _, op := _, type := _, pos := _, after := _, guard := _ }) (v := ?_) rfl (by kernel_rfl) (by kernel_rfl) (by kernel_rfl) (fun _ _ _ h => h) (Or.inl ⟨by rfl, ?_⟩) (by assumption) ?_
  rotate_left
  · intro W hSw
    (try dsimp only at hSw)
    go_simp
    (try with_reducible rfl)
  try simp only [Act.put, List.setIfInBounds_toArray, List.set_cons_zero, List.set_cons_succ]
  refine wpAnyH_take (i := 6) (oi := { dst := _, op := _, type := _, pos := _, after := _, guard := _ }) (v := ?_) rfl (by kernel_rfl) (by kernel_rfl) (by kernel_rfl) (fun _ _ _ h => h) (Or.inl ⟨by rfl, ?_⟩) (by assumption) ?_
  rotate_left
  · intro W hSw
    (try dsimp only at hSw)
    go_simp
    (try with_reducible rfl)
  try simp only [Act.put, List.setIfInBounds_toArray, List.set_cons_zero, List.set_cons_succ]
  refine wpAnyH_take (i := 7) (oi := { dst := _, op := _, type := _, pos := _, after := _, guard := _ }) (v := ?_) rfl (by kernel_rfl) (by kernel_rfl) (by kernel_rfl) (fun _ _ _ h => h) (Or.inl ⟨by rfl, ?_⟩) (by assumption) ?_
  rotate_left
  · intro W hSw
    (try dsimp only at hSw)
    go_simp
    (try with_reducible rfl)
  try simp only [Act.put, List.setIfInBounds_toArray, List.set_cons_zero, List.set_cons_succ]
  refine wpAnyH_take (i := 8) (oi := { dst := _, op := _, type := _, pos := _, after := _, guard := _ }) (v := ?_) rfl (by kernel_rfl) (by kernel_rfl) (by kernel_rfl) (fun _ _ _ h => h) (Or.inl ⟨by rfl, ?_⟩) (by assumption) ?_
  rotate_left
  · intro W hSw
    (try dsimp only at hSw)
    go_simp
    (try with_reducible rfl)
  try simp only [Act.put, List.setIfInBounds_toArray, List.set_cons_zero, List.set_cons_succ]
  refine wpAnyH_take (i := 9) (oi := { dst := _, op := _, type := _, pos := _, after := _, guard := _ }) (v := ?_) rfl (by kernel_rfl) (by kernel_rfl) (by kernel_rfl) (fun _ _ _ h => h) (Or.inl ⟨by rfl, ?_⟩) (by assumption) ?_
  rotate_left
  · intro W hSw
    (try dsimp only at hSw)
    go_simp
    (try with_reducible rfl)
  try simp only [Act.put, List.setIfInBounds_toArray, List.set_cons_zero, List.set_cons_succ]
  refine wpAnyH_take (i := 10) (oi := { dst := _, op := _, type := _, pos := _, after := _, guard := _ }) (v := ?_) rfl (by kernel_rfl) (by kernel_rfl) (by kernel_rfl) (fun _ _ _ h => h) (Or.inl ⟨by rfl, ?_⟩) (by assumption) ?_
  rotate_left
  · intro W hSw
    (try dsimp only at hSw)
    go_simp
    (try with_reducible rfl)
  try simp only [Act.put, List.setIfInBounds_toArray, List.set_cons_zero, List.set_cons_succ]
  refine wpAnyH_take (i := 11) (oi := { dst := _, op := _, type := _, pos := _, after := _, guard := _ }) (v := ?_) rfl (by kernel_rfl) (by kernel_rfl) (by kernel_rfl) (fun _ _ _ h => h) (Or.inl ⟨by rfl, ?_⟩) (by assumption) ?_
  rotate_left
  · intro W hSw
    (try dsimp only at hSw)
    go_simp
    (try with_reducible rfl)
  try simp only [Act.put, List.setIfInBounds_toArray, List.set_cons_zero, List.set_cons_succ]
  refine wpAnyH_take (i := 12) (oi := { dst := _, op := _, type := _, pos := _, after := _, guard := _ }) (v := ?_) rfl (by kernel_rfl) (by kernel_rfl) (by kernel_rfl) (fun _ _ _ h => h) (Or.inl ⟨by rfl, ?_⟩) (by assumption) ?_
  rotate_left
  · intro W hSw
    (try dsimp only at hSw)
    go_simp
    (try with_reducible rfl)
  try simp only [Act.put, List.setIfInBounds_toArray, List.set_cons_zero, List.set_cons_succ]
  refine wpAnyH_take (i := 13) (oi := { dst := _, op := _, type := _, pos := _, after := _, guard := _ }) (v := ?_) rfl (by kernel_rfl) (by kernel_rfl) (by kernel_rfl) (fun _ _ _ h => h) (Or.inl ⟨by rfl, ?_⟩) (by assumption) ?_
  rotate_left
  · intro W hSw
    (try dsimp only at hSw)
    go_simp
    (try with_reducible rfl)
  try simp only [Act.put, List.setIfInBounds_toArray, List.set_cons_zero, List.set_cons_succ]
  refine wpAnyH_take (i := 14) (oi := { dst := _, op := _, type := _, pos := _, after := _, guard := _ }) (v := ?_) rfl (by kernel_rfl) (by kernel_rfl) (by kernel_rfl) (fun _ _ _ h => h) (Or.inl ⟨by rfl, ?_⟩) (by assumption) ?_
  rotate_left
  · intro W hSw
    (try dsimp only at hSw)
    go_simp
    (try with_reducible rfl)
  try simp only [Act.put, List.setIfInBounds_toArray, List.set_cons_zero, List.set_cons_succ]
  refine wpAnyH_take (i := 15) (oi := { dst := _, op := _, type := _, pos := _, after := _, guard := _ }) (v := ?_) rfl (by kernel_rfl) (by kernel_rfl) (by kernel_rfl) (fun _ _ _ h => h) (Or.inl ⟨by rfl, ?_⟩) (by assumption) ?_
  rotate_left
  · intro W hSw
    (try dsimp only at hSw)
    go_simp
    (try with_reducible rfl)
  try simp only [Act.put, List.setIfInBounds_toArray, List.set_cons_zero, List.set_cons_succ]
  refine wpAnyH_take (i := 16) (oi := { dst := _, op := _, type := _, pos := _, after := _, guard := _ }) (v := ?_) rfl (by kernel_rfl) (by kernel_rfl) (by kernel_rfl) (fun _ _ _ h => h) (Or.inl ⟨by rfl, ?_⟩) (by assumption) ?_
  rotate_left
  · intro W hSw
    (try dsimp only at hSw)
    go_simp
    (try with_reducible rfl)
  try simp only [Act.put, List.setIfInBounds_toArray, List.set_cons_zero, List.set_cons_succ]
  refine wpAnyH_take (i := 17) (oi := { dst := _, op := _, type := _, pos := _, after := _, guard := _ }) (v := ?_) rfl (by kernel_rfl) (by kernel_rfl) (by kernel_rfl) (fun _ _ _ h => h) (Or.inl ⟨by rfl, ?_⟩) (by assumption) ?_
  rotate_left
  · intro W hSw
    (try dsimp only at hSw)
    go_simp
    (try with_reducible rfl)
  try simp only [Act.put, List.setIfInBounds_toArray, List.set_cons_zero, List.set_cons_succ]
  refine wpAnyH_take (i := 18) (oi := { dst := _, op := _, type := _, pos := _, after := _, guard := _ }) (v := ?_) rfl (by kernel_rfl) (by kernel_rfl) (by kernel_rfl) (fun _ _ _ h => h) (Or.inl ⟨by rfl, ?_⟩) (by assumption) ?_
  rotate_left
  · intro W hSw
    (try dsimp only at hSw)
    go_simp
    (try with_reducible rfl)
  try simp only [Act.put, List.setIfInBounds_toArray, List.set_cons_zero, List.set_cons_succ]
  refine wpAnyH_take (i := 19) (oi := { dst := _, op := _, type := _, pos := _, after := _, guard := _ }) (v := ?_) rfl (by kernel_rfl) (by kernel_rfl) (by kernel_rfl) (fun _ _ _ h => h) (Or.inl ⟨by rfl, ?_⟩) (by assumption) ?_
  rotate_left
  · intro W hSw
    (try dsimp only at hSw)
    go_simp
    (try with_reducible rfl)
  try simp only [Act.put, List.setIfInBounds_toArray, List.set_cons_zero, List.set_cons_succ]
  refine wpAnyH_take (i := 20) (oi := { dst := _, op := _, type := _, pos := _, after := _, guard := _ }) (v := ?_) rfl (by kernel_rfl) (by kernel_rfl) (by kernel_rfl) (fun _ _ _ h => h) (Or.inl ⟨by rfl, ?_⟩) (by assumption) ?_
  rotate_left
  · intro W hSw
    (try dsimp only at hSw)
    go_simp
    (try with_reducible rfl)
  try simp only [Act.put, List.setIfInBounds_toArray, List.set_cons_zero, List.set_cons_succ]
  refine wpAnyH_take (i := 21) (oi := { dst := _, op := _, type := _, pos := _, after := _, guard := _ }) (v := ?_) rfl (by kernel_rfl) (by kernel_rfl) (by kernel_rfl) (fun _ _ _ h => h) (Or.inl ⟨by rfl, ?_⟩) (by assumption) ?_
  rotate_left
  · intro W hSw
    (try dsimp only at hSw)
    go_simp
    (try with_reducible rfl)
  try simp only [Act.put, List.setIfInBounds_toArray, List.set_cons_zero, List.set_cons_succ]
  refine wpAnyH_take (i := 22) (oi := { dst := _, op := _, type := _, pos := _, after := _, guard := _ }) (v := ?_) rfl (by kernel_rfl) (by kernel_rfl) (by kernel_rfl) (fun _ _ _ h => h) (Or.inl ⟨by rfl, ?_⟩) (by assumption) ?_
  rotate_left
  · intro W hSw
    (try dsimp only at hSw)
    go_simp
    (try with_reducible rfl)
  try simp only [Act.put, List.setIfInBounds_toArray, List.set_cons_zero, List.set_cons_succ]
  refine wpAnyH_take (i := 23) (oi := { dst := _, op := _, type := _, pos := _, after := _, guard := _ }) (v := ?_) rfl (by kernel_rfl) (by kernel_rfl) (by kernel_rfl) (fun _ _ _ h => h) (Or.inl ⟨by rfl, ?_⟩) (by assumption) ?_
  rotate_left
  · intro W hSw
    (try dsimp only at hSw)
    go_simp
    (try with_reducible rfl)
  try simp only [Act.put, List.setIfInBounds_toArray, List.set_cons_zero, List.set_cons_succ]
  refine wpAnyH_take (i := 24) (oi := { dst := _, op := _, type := _, pos := _, after := _, guard := _ }) (v := ?_) rfl (by kernel_rfl) (by kernel_rfl) (by kernel_rfl) (fun _ _ _ h => h) (Or.inl ⟨by rfl, ?_⟩) (by assumption) ?_
  rotate_left
  · intro W hSw
    (try dsimp only at hSw)
    go_simp
    (try with_reducible rfl)
  try simp only [Act.put, List.setIfInBounds_toArray, List.set_cons_zero, List.set_cons_succ]
  refine wpAnyH_take (i := 25) (oi := { dst := _, op := _, type := _, pos := _, after := _, guard := _ }) (v := ?_) rfl (by kernel_rfl) (by kernel_rfl) (by kernel_rfl) (fun _ _ _ h => h) (Or.inl ⟨by rfl, ?_⟩) (by assumption) ?_
  rotate_left
  · intro W hSw
    (try dsimp only at hSw)
    go_simp
    (try with_reducible rfl)
  try simp only [Act.put, List.setIfInBounds_toArray, List.set_cons_zero, List.set_cons_succ]
  refine wpAnyH_take (i := 26) (oi := { dst := _, op := _, type := _, pos := _, after := _, guard := _ }) (v := ?_) rfl (by kernel_rfl) (by kernel_rfl) (by kernel_rfl) (fun _ _ _ h => h) (Or.inl ⟨by rfl, ?_⟩) (by assumption) ?_
  rotate_left
  · intro W hSw
    (try dsimp only at hSw)
    go_simp
    (try with_reducible rfl)
  try simp only [Act.put, List.setIfInBounds_toArray, List.set_cons_zero, List.set_cons_succ]
  refine wpAnyH_take (i := 27) (oi := { dst := _, op := _, type := _, pos := _, after := _, guard := _ }) (v := ?_) rfl (by kernel_rfl) (by kernel_rfl) (by kernel_rfl) (fun _ _ _ h => h) (Or.inl ⟨by rfl, ?_⟩) (by assumption) ?_
  rotate_left
  · intro W hSw
    (try dsimp only at hSw)
    go_simp
    (try with_reducible rfl)
  try simp only [Act.put, List.setIfInBounds_toArray, List.set_cons_zero, List.set_cons_succ]
  refine wpAnyH_take (i := 28) (oi := { dst := _, op := _, type := _, pos := _, after := _, guard := _ }) (v := ?_) rfl (by kernel_rfl) (by kernel_rfl) (by kernel_rfl) (fun _ _ _ h => h) (Or.inl ⟨by rfl, ?_⟩) (by assumption) ?_
  rotate_left
  · intro W hSw
    (try dsimp only at hSw)
    go_simp
    (try with_reducible rfl)
  try simp only [Act.put, List.setIfInBounds_toArray, List.set_cons_zero, List.set_cons_succ]
  refine wpAnyH_take (i := 29) (oi := { dst := _, op := _, type := _, pos := _, after := _, guard := _ }) (v := ?_) rfl (by kernel_rfl) (by kernel_rfl) (by kernel_rfl) (fun _ _ _ h => h) (Or.inl ⟨by rfl, ?_⟩) (by assumption) ?_
  rotate_left
  · intro W hSw
    (try dsimp only at hSw)
    go_simp
    (try with_reducible rfl)
  try simp only [Act.put, List.setIfInBounds_toArray, List.set_cons_zero, List.set_cons_succ]
  refine wpAnyH_take (i := 30) (oi := { dst := _, op := _, type := _, pos := _, after := _, guard := _ }) (v := ?_) rfl (by kernel_rfl) (by kernel_rfl) (by kernel_rfl) (fun _ _ _ h => h) (Or.inl ⟨by rfl, ?_⟩) (by assumption) ?_
  rotate_left
  · intro W hSw
    (try dsimp only at hSw)
    go_simp
    (try with_reducible rfl)
  try simp only [Act.put, List.setIfInBounds_toArray, List.set_cons_zero, List.set_cons_succ]
  refine wpAnyH_take (i := 31) (oi := { dst := _, op := _, type := _, pos := _, after := _, guard := _ }) (v := ?_) rfl (by kernel_rfl) (by kernel_rfl) (by kernel_rfl) (fun _ _ _ h => h) (Or.inl ⟨by rfl, ?_⟩) (by assumption) ?_
  rotate_left
  · intro W hSw
    (try dsimp only at hSw)
    go_simp
    (try with_reducible rfl)
  try simp only [Act.put, List.setIfInBounds_toArray, List.set_cons_zero, List.set_cons_succ]
  refine wpAnyH_take (i := 32) (oi := { dst := _, op := _, type := _, pos := _, after := _, guard := _ }) (v := ?_) rfl (by kernel_rfl) (by kernel_rfl) (by kernel_rfl) (fun _ _ _ h => h) (Or.inl ⟨by rfl, ?_⟩) (by assumption) ?_
  rotate_left
  · intro W hSw
    (try dsimp only at hSw)
    go_simp
    (try with_reducible rfl)
  try simp only [Act.put, List.setIfInBounds_toArray, List.set_cons_zero, List.set_cons_succ]
  refine wpAnyH_take (i := 34) (oi := { dst := _, op := _, type := _, pos := _, after := _, guard := _ }) (v := ?_) rfl (by kernel_rfl) (by kernel_rfl) (by kernel_rfl) (fun _ _ _ h => h) (Or.inl ⟨by rfl, ?_⟩) (by assumption) ?_
  rotate_left
  · intro W hSw
    (try dsimp only at hSw)
    go_simp
    (try with_reducible rfl)
  try simp only [Act.put, List.setIfInBounds_toArray, List.set_cons_zero, List.set_cons_succ]
  refine wpAnyH_ready (rs := [33]) (by kernel_rfl) (by simp) ?_
  refine AllReadyH.cons (o := { dst := _, op := _, type := _, pos := _, after := _, guard := _ }) rfl (fun K hK => ?_) AllReadyH.nil
  go_simp
  refine (C9c.out _).mono ?_
  rintro e' w3 ⟨rfl, hb⟩
  have B3' : Hid (Below W0.heap.size W0 w3) := below_trans (Below.drew (Below.refl _ _)) hb
  clear hb
  go_wp2_with fail
  refine hK.out _ _ ?_ (fun hHeld => ?_)
  · (try dsimp only)
    exact HP.out _ B3'.out
  clear hK K
  try simp only [Act.put, List.setIfInBounds_toArray, List.set_cons_zero, List.set_cons_succ]
  refine wpAnyH_take (i := 35) (oi := { dst := _, op := _, type := _, pos := _, after := _, guard := _ }) (v := ?_) rfl (by kernel_rfl) (by kernel_rfl) (by kernel_rfl) (fun _ _ _ h => h) (Or.inl ⟨by rfl, ?_⟩) (by assumption) ?_
  rotate_left
  · intro W hSw
    (try dsimp only at hSw)
    go_simp
    (try with_reducible rfl)
  try simp only [Act.put, List.setIfInBounds_toArray, List.set_cons_zero, List.set_cons_succ]
  refine wpAnyH_take (i := 36) (oi := { dst := _, op := _, type := _, pos := _, after := _, guard := _ }) (v := ?_) rfl (by kernel_rfl) (by kernel_rfl) (by kernel_rfl) (fun _ _ _ h => h) (Or.inl ⟨by rfl, ?_⟩) (by assumption) ?_
  rotate_left
  · intro W hSw
    (try dsimp only at hSw)
    go_simp
    (try with_reducible rfl)
  try simp only [Act.put, List.setIfInBounds_toArray, List.set_cons_zero, List.set_cons_succ]
  refine wpAnyH_done (by kernel_rfl) ?_ _
  refine NoPanic.normal ?_
  have Kc3 : Hid _ := hC.out.up B3'.out
  have Ke3 : Hid _ := HE.out.up B3'.out
  have Kf3 : Hid _ := hF.out.up B3'.out
  have B3 : Hid _ := below_trans BW.out B3'.out
  clear hHeld HP hC HE hF B3' C9c qq1 qq2 qq3 qq3n qq4 wr hs
  obtain ⟨e0, e1, e2, ef⟩ := Ke3.out
  go_wp2_with fail
  refine (C16.out _).mono ?_
  rintro e' w4 ⟨rfl, hb⟩
  have Kc4 : Hid _ := Kc3.out.up hb
  have Ke4 : Hid _ := Ke3.out.up hb
  have Kf4 : Hid _ := Kf3.out.up hb
  have B4 : Hid _ := below_trans B3.out hb
  clear hb Kc3 Ke3 Kf3 B3 e0 e1 e2 ef C16
  obtain ⟨c0, c1, c2, cf⟩ := Kc4.out
  go_wp2_with fail
  refine (C16c.out _).mono ?_
  rintro e' w5 ⟨rfl, hb⟩
  have Kc5 : Hid _ := Kc4.out.up hb
  have Ke5 : Hid _ := Ke4.out.up hb
  have Kf5 : Hid _ := Kf4.out.up hb
  have B5 : Hid _ := below_trans B4.out hb
  clear hb Kc4 Ke4 Kf4 B4 c0 c1 c2 cf C16c
  obtain ⟨e0, e1, e2, ef⟩ := Ke5.out
  go_wp2_with fail
  refine (C10.out _).mono ?_
  rintro e' w6 ⟨rfl, hb⟩
  have Kc6 : Hid _ := Kc5.out.up hb
  have Ke6 : Hid _ := Ke5.out.up hb
  have Kf6 : Hid _ := Kf5.out.up hb
  have B6 : Hid _ := below_trans B5.out hb
  clear hb Kc5 Ke5 Kf5 B5 e0 e1 e2 ef C10
  obtain ⟨c0, c1, c2, cf⟩ := Kc6.out
  go_wp2_with fail
  refine (C10c.out _).mono ?_
  rintro e' w7 ⟨rfl, hb⟩
  have Kc7 : Hid _ := Kc6.out.up hb
  have Ke7 : Hid _ := Ke6.out.up hb
  have Kf7 : Hid _ := Kf6.out.up hb
  have B7 : Hid _ := below_trans B6.out hb
  clear hb Kc6 Ke6 Kf6 B6 c0 c1 c2 cf C10c
  obtain ⟨e0, e1, e2, ef⟩ := Ke7.out
  go_wp2_with fail
  refine (C11.out _).mono ?_
  rintro e' w8 ⟨rfl, hb⟩
  have Kc8 : Hid _ := Kc7.out.up hb
  have Ke8 : Hid _ := Ke7.out.up hb
  have Kf8 : Hid _ := Kf7.out.up hb
  have B8 : Hid _ := below_trans B7.out hb
  clear hb Kc7 Ke7 Kf7 B7 e0 e1 e2 ef C11
  obtain ⟨c0, c1, c2, cf⟩ := Kc8.out
  go_wp2_with fail
  refine (C11c.out _).mono ?_
  rintro e' w9 ⟨rfl, hb⟩
  have Kc9 : Hid _ := Kc8.out.up hb
  have Ke9 : Hid _ := Ke8.out.up hb
  have Kf9 : Hid _ := Kf8.out.up hb
  have B9 : Hid _ := below_trans B8.out hb
  clear hb Kc8 Ke8 Kf8 B8 c0 c1 c2 cf C11c
  obtain ⟨e0, e1, e2, ef⟩ := Ke9.out
  go_wp2_with fail
  refine (C17.out _).mono ?_
  rintro e' w10 ⟨rfl, hb⟩
  have Kc10 : Hid _ := Kc9.out.up hb
  have Ke10 : Hid _ := Ke9.out.up hb
  have Kf10 : Hid _ := Kf9.out.up hb
  have B10 : Hid _ := below_trans B9.out hb
  clear hb Kc9 Ke9 Kf9 B9 e0 e1 e2 ef C17
  obtain ⟨c0, c1, c2, cf⟩ := (Kc10.out.up (bel_up _ (.cells #[.int .i64 v0, .int .i64 v1, .string vI] 23)))
  go_wp2_with fail
  refine (C17c.out _).mono ?_
  rintro e' w11 ⟨rfl, hb⟩
  have Kc11 : Hid _ := (Kc10.out.up (bel_up _ (.cells #[.int .i64 v0, .int .i64 v1, .string vI] 23))).up hb
  have Ke11 : Hid _ := (Ke10.out.up (bel_up _ (.cells #[.int .i64 v0, .int .i64 v1, .string vI] 23))).up hb
  have Kf11 : Hid _ := (Kf10.out.up (bel_up _ (.cells #[.int .i64 v0, .int .i64 v1, .string vI] 23))).up hb
  have Kv11 : Hid _ := box1 hb
  have B11 : Hid _ := below_trans (below_trans B10.out (bel_up _ _)) hb
  clear hb Kc10 Ke10 Kf10 B10 c0 c1 c2 cf C17c
  obtain ⟨e0, e1, e2, ef⟩ := (Ke11.out.up (bel_up _ (.cells #[.int .i64 v0, .int .i64 v1, .string vI] 23)))
  obtain ⟨f0, f1, f2, ff⟩ := (Kf11.out.up (bel_up _ (.cells #[.int .i64 v0, .int .i64 v1, .string vI] 23)))
  go_wp2_with fail
  refine (C19.out _).mono ?_
  rintro e' w12 ⟨rfl, hb⟩
  have Kc12 : Hid _ := (Kc11.out.up (bel_up _ (.cells #[.int .i64 v0, .int .i64 v1, .string vI] 23))).up hb
  have Ke12 : Hid _ := (Ke11.out.up (bel_up _ (.cells #[.int .i64 v0, .int .i64 v1, .string vI] 23))).up hb
  have Kf12 : Hid _ := (Kf11.out.up (bel_up _ (.cells #[.int .i64 v0, .int .i64 v1, .string vI] 23))).up hb
  have Kv12 : Hid _ := (Kv11.out.up (bel_up _ (.cells #[.int .i64 v0, .int .i64 v1, .string vI] 23))).up hb
  have Ku12 : Hid _ := box1 hb
  have B12 : Hid _ := below_trans (below_trans B11.out (bel_up _ _)) hb
  clear hb Kc11 Ke11 Kf11 Kv11 B11 e0 e1 e2 ef f0 f1 f2 ff C19
  obtain ⟨c0, c1, c2, cf⟩ := (Kc12.out.up (bel_up _ (.cells #[.int .i64 g0, .int .i64 g1, .string gI] 23)))
  obtain ⟨f0, f1, f2, ff⟩ := (Kf12.out.up (bel_up _ (.cells #[.int .i64 g0, .int .i64 g1, .string gI] 23)))
  go_wp2_with fail
  refine (C19c.out _).mono ?_
  rintro e' w13 ⟨rfl, hb⟩
  have Kc13 : Hid _ := (Kc12.out.up (bel_up _ (.cells #[.int .i64 g0, .int .i64 g1, .string gI] 23))).up hb
  have Ke13 : Hid _ := (Ke12.out.up (bel_up _ (.cells #[.int .i64 g0, .int .i64 g1, .string gI] 23))).up hb
  have Kf13 : Hid _ := (Kf12.out.up (bel_up _ (.cells #[.int .i64 g0, .int .i64 g1, .string gI] 23))).up hb
  have Kv13 : Hid _ := (Kv12.out.up (bel_up _ (.cells #[.int .i64 g0, .int .i64 g1, .string gI] 23))).up hb
  have Ku13 : Hid _ := (Ku12.out.up (bel_up _ (.cells #[.int .i64 g0, .int .i64 g1, .string gI] 23))).up hb
  have Kg13 : Hid _ := box1 hb
  have B13 : Hid _ := below_trans (below_trans B12.out (bel_up _ _)) hb
  clear hb Kc12 Ke12 Kf12 Kv12 Ku12 B12 c0 c1 c2 cf f0 f1 f2 ff C19c
  obtain ⟨v0, v1, v2, vf⟩ := (Kv13.out.up (bel_up _ (.cells #[.int .i64 g0, .int .i64 g1, .string gI] 23)))
  obtain ⟨u0, u1, u2, uf⟩ := (Ku13.out.up (bel_up _ (.cells #[.int .i64 g0, .int .i64 g1, .string gI] 23)))
  obtain ⟨g0, g1, g2, gf⟩ := (Kg13.out.up (bel_up _ (.cells #[.int .i64 g0, .int .i64 g1, .string gI] 23)))
  go_wp2_with fail
  go_ret
  exact ⟨by simp, below_trans B13.out (bel_up _ _)⟩

abbrev Ret (f : Nat) (args : Array Value) (v : Value) : Prop := ∀ W : World, Calls Try.prog f args W fun e W' => e = .returned v ∧ Below W.heap.size W W'

theorem apply_both (s : ByteArray) (p q : Int) (i : ByteArray) (hs : s.size ≤ 1048576) (hi : i.size ≤ 140737488355328) :
    ∃ (r : ByteArray) (code : Int), Ret 16 #[.string s, ed p q i] (.tuple #[.string r, .int .i64 code]) ∧ Ret 16 #[.string s, ed (ca s.size p) (cd s.size p q) i] (.tuple #[.string r, .int .i64 code]) := by
  have ea : ca s.size (ca s.size p : Int) = ca s.size p := ca_nat (ca_le _ _)
  have ec : cd s.size (ca s.size p : Int) (cd s.size p q : Int) = cd s.size p q := cd_nat (cd_le _ _ _)
  by_cases hok : okE s p q i
  · have hok2 : okE s (ca s.size p) (cd s.size p q) i := ⟨hok.1, by rw [ec]; exact hok.2⟩
    refine ⟨_, _, fun W => apply_any s p q i W hok, fun W => ?_⟩
    have := apply_any s _ _ i W hok2
    rw [ea, ec] at this
    exact this
  · have hok2 : ¬ okE s (ca s.size p) (cd s.size p q) i := fun h => hok ⟨h.1, by have := h.2; rw [ec] at this; exact this⟩
    exact ⟨_, _, fun W => apply_big s p q i W (by omega) hi hok, fun W => apply_big s _ _ i W (by omega) hi hok2⟩
theorem invert_both (s : ByteArray) (p q : Int) (i : ByteArray) (hs : s.size ≤ 1048576) (hi : i.size ≤ 140737488355328) :
    ∃ (v0 v1 : Int) (vI : ByteArray), Ret 17 #[.string s, ed p q i] (ed v0 v1 vI) ∧ Ret 17 #[.string s, ed (ca s.size p) (cd s.size p q) i] (ed v0 v1 vI) := by
  have ea : ca s.size (ca s.size p : Int) = ca s.size p := ca_nat (ca_le _ _)
  have ec : cd s.size (ca s.size p : Int) (cd s.size p q : Int) = cd s.size p q := cd_nat (cd_le _ _ _)
  by_cases hok : okE s p q i
  · have hok2 : okE s (ca s.size p) (cd s.size p q) i := ⟨hok.1, by rw [ec]; exact hok.2⟩
    refine ⟨_, _, _, fun W => invert_any s p q i W hok, fun W => ?_⟩
    have := invert_any s _ _ i W hok2
    rw [ea, ec] at this
    exact this
  · have hok2 : ¬ okE s (ca s.size p) (cd s.size p q) i := fun h => hok ⟨h.1, by have := h.2; rw [ec] at this; exact this⟩
    exact ⟨_, _, _, fun W => invert_bad s p q i W (by omega) hi hok, fun W => invert_bad s _ _ i W (by omega) hi hok2⟩
theorem map_both (n : Nat) (p q : Int) (i : ByteArray) (t : Int) (hs : n ≤ 1048576) (hi : i.size ≤ 140737488355328) :
    ∃ (x : Int) (b : Bool), Ret 10 #[.int .i64 (n : Int), ed p q i, .int .i64 t] (.tuple #[.int .i64 x, .bool b]) ∧ Ret 10 #[.int .i64 (n : Int), ed (ca n p) (cd n p q) i, .int .i64 t] (.tuple #[.int .i64 x, .bool b]) := by
  have ea : ca n (ca n p : Int) = ca n p := ca_nat (ca_le _ _)
  have ec : cd n (ca n p : Int) (cd n p q : Int) = cd n p q := cd_nat (cd_le _ _ _)
  by_cases ht : 0 ≤ t ∧ t < n
  · refine ⟨_, _, fun W => map_any n p q i t W hs hi ht.1 ht.2, fun W => ?_⟩
    have := map_any n (ca n p) (cd n p q) i t W hs hi ht.1 ht.2
    rw [ea, ec] at this
    exact this
  · exact ⟨_, _, fun W => map_bad n p q i t W (by omega), fun W => map_bad n _ _ i t W (by omega)⟩
theorem back_both (n : Nat) (p q : Int) (i : ByteArray) (t : Int) (hs : n ≤ 1048576) (hi : i.size ≤ 140737488355328) :
    ∃ (x : Int) (b : Bool), Ret 11 #[.int .i64 (n : Int), ed p q i, .int .i64 t] (.tuple #[.int .i64 x, .bool b]) ∧ Ret 11 #[.int .i64 (n : Int), ed (ca n p) (cd n p q) i, .int .i64 t] (.tuple #[.int .i64 x, .bool b]) := by
  have ea : ca n (ca n p : Int) = ca n p := ca_nat (ca_le _ _)
  have ec : cd n (ca n p : Int) (cd n p q : Int) = cd n p q := cd_nat (cd_le _ _ _)
  by_cases ht : 0 ≤ t ∧ t < ((n - cd n p q + i.size : Nat) : Int)
  · refine ⟨_, _, fun W => back_any n p q i t W hs hi ht.1 ht.2, fun W => ?_⟩
    have := back_any n (ca n p) (cd n p q) i t W hs hi ht.1 (by rw [ec]; exact ht.2)
    rw [ea, ec] at this
    exact this
  · exact ⟨_, _, fun W => back_out n p q i t W hs hi (by omega), fun W => back_out n _ _ i t W hs hi (by rw [ec]; omega)⟩
theorem cover_both (s : ByteArray) (p q p2 q2 : Int) (i i2 : ByteArray) (hs : s.size ≤ 1048576) (hi : i.size ≤ 140737488355328) (hi2 : i2.size ≤ 140737488355328) :
    ∃ (v0 v1 : Int) (vI : ByteArray), Ret 19 #[.string s, ed p q i, ed p2 q2 i2] (ed v0 v1 vI) ∧ Ret 19 #[.string s, ed (ca s.size p) (cd s.size p q) i, ed p2 q2 i2] (ed v0 v1 vI) := by
  have ea : ca s.size (ca s.size p : Int) = ca s.size p := ca_nat (ca_le _ _)
  have ec : cd s.size (ca s.size p : Int) (cd s.size p q : Int) = cd s.size p q := cd_nat (cd_le _ _ _)
  have eb : beh s (ca s.size p) (cd s.size p q) i = beh s p q i := by unfold beh; rw [ea, ec]
  by_cases hok : okE s p q i
  · have hok2 : okE s (ca s.size p) (cd s.size p q) i := ⟨hok.1, by rw [ec]; exact hok.2⟩
    by_cases hm : okE (beh s p q i) p2 q2 i2
    · exact ⟨_, _, _, fun W => (cover_any s p q p2 q2 i i2 _ _ _ _ _ _ _ W rfl rfl hok hm rfl rfl rfl rfl rfl).2.2.2, fun W => (cover_any s (ca s.size p) (cd s.size p q) p2 q2 i i2 _ _ _ _ _ _ _ W eb rfl hok2 hm ea ec rfl rfl rfl).2.2.2⟩
    · refine ⟨_, _, _, fun W => cover_bad2 s p q p2 q2 i i2 W hi2 hok hm, fun W => cover_bad2 s (ca s.size p) (cd s.size p q) p2 q2 i i2 W hi2 hok2 ?_⟩
      have : beh s (ca s.size p) (cd s.size p q) i = spl s (ca s.size (ca s.size p : Int)) (ca s.size (ca s.size p : Int) + cd s.size (ca s.size p : Int) (cd s.size p q : Int)) i := rfl
      rw [← this, eb]
      exact hm
  · have hok2 : ¬ okE s (ca s.size p) (cd s.size p q) i := fun h => hok ⟨h.1, by have := h.2; rw [ec] at this; exact this⟩
    exact ⟨_, _, _, fun W => cover_bad1 s p q p2 q2 i i2 W (by omega) hi hok, fun W => cover_bad1 s _ _ p2 q2 i i2 W (by omega) hi hok2⟩

theorem editClamped_any (s : ByteArray) (p1 q1 p2 q2 t : Int) (i1 i2 : ByteArray) (w : World) (hi1 : i1.size ≤ 140737488355328) (hi2 : i2.size ≤ 140737488355328) :
    Calls Try.prog 8 #[.string s, ed p1 q1 i1, ed p2 q2 i2, .int .i64 t] w fun e w' => e = .returned (.bool true) ∧ Below w.heap.size w w' := by
  by_cases hs : s.size ≤ 1048576
  · obtain ⟨r, code, a1, a2⟩ := apply_both s p1 q1 i1 hs hi1
    obtain ⟨x, bx, b1, b2⟩ := map_both s.size p1 q1 i1 t hs hi1
    obtain ⟨y, bz, c1, c2⟩ := back_both s.size p1 q1 i1 t hs hi1
    obtain ⟨v0, v1, vI, d1, d2⟩ := invert_both s p1 q1 i1 hs hi1
    obtain ⟨g0, g1, gI, e1, e2⟩ := cover_both s p1 q1 p2 q2 i1 i2 hs hi1 hi2
    refine clamped_run s i1 i2 r vI gI p1 q1 p2 q2 t code x y v0 v1 g0 g1 (ca s.size p1) (cd s.size p1 q1) bx bz w (fun W => cclamp_any s.size p1 q1 i1 W hs hi1) (fun W => ?_) a1 a2 b1 b2 c1 c2 d1 d2 e1 e2 hs (cd_le _ _ _)
    have := cclamp_any s.size (ca s.size p1) (cd s.size p1 q1) i1 W hs hi1
    rw [ca_nat (ca_le _ _), cd_nat (cd_le _ _ _)] at this
    exact this
  · exact clamped_big s p1 q1 p2 q2 t i1 i2 w (by omega)

end Go.Proofs.Ytjpmmihcnfedgaa
