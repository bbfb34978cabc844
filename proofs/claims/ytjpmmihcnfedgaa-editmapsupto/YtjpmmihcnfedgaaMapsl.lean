import Derived.Test.YtjpmmihcnfedgaaRmap
namespace Go.Proofs.Ytjpmmihcnfedgaa
open Go.RowKit

set_option maxRecDepth 100000 in
set_option maxHeartbeats 2000000 in
theorem maps_run (n p q t c0 c1 x y : Int) (ins cI : ByteArray) (bx bz : Bool) (w : World)
    (C9 : Hid (∀ W : World, Calls Try.prog 9 #[.int .i64 n, ed p q ins] W fun e W' => e = .returned (ed c0 c1 cI) ∧ Below W.heap.size W W'))
    (C14 : Hid (∀ W : World, Calls Try.prog 14 #[.int .i64 n, ed p q ins] W fun e W' => e = .returned (ed c0 c1 cI) ∧ Below W.heap.size W W'))
    (C10 : Hid (∀ W : World, Calls Try.prog 10 #[.int .i64 n, ed p q ins, .int .i64 t] W fun e W' => e = .returned (.tuple #[.int .i64 x, .bool bx]) ∧ Below W.heap.size W W'))
    (C12 : Hid (∀ W : World, Calls Try.prog 12 #[.int .i64 n, ed p q ins, .int .i64 t] W fun e W' => e = .returned (.tuple #[.int .i64 x, .bool bx]) ∧ Below W.heap.size W W'))
    (C11 : Hid (∀ W : World, Calls Try.prog 11 #[.int .i64 n, ed p q ins, .int .i64 t] W fun e W' => e = .returned (.tuple #[.int .i64 y, .bool bz]) ∧ Below W.heap.size W W'))
    (C13 : Hid (∀ W : World, Calls Try.prog 13 #[.int .i64 n, ed p q ins, .int .i64 t] W fun e W' => e = .returned (.tuple #[.int .i64 y, .bool bz]) ∧ Below W.heap.size W W'))
    :
    Calls Try.prog 3 #[.int .i64 n, ed p q ins, .int .i64 t] w fun e w' => e = .returned (.bool true) ∧ Below w.heap.size w w' := by
  go_enter Try.func3, Try.ntmps3
  go_wp2_with fail
  refine (C9.out _).mono ?_
  rintro e' w1 ⟨rfl, hb⟩
  have Ke1 : Hid _ := box1 hb
  have B1 : Hid _ := below_trans (bel_up _ _) hb
  clear hb C9
  obtain ⟨e0, e1, e2, ef⟩ := (Ke1.out.up (bel_up _ (.cells #[.int .i64 c0, .int .i64 c1, .string cI] 23)))
  go_wp2_with fail
  refine (C10.out _).mono ?_
  rintro e' w2 ⟨rfl, hb⟩
  have Ke2 : Hid _ := (Ke1.out.up (bel_up _ (.cells #[.int .i64 c0, .int .i64 c1, .string cI] 23))).up hb
  have Kc2 : Hid _ := box1 hb
  have B2 : Hid _ := below_trans (below_trans B1.out (bel_up _ _)) hb
  clear hb Ke1 B1 e0 e1 e2 ef C10
  obtain ⟨e0, e1, e2, ef⟩ := Ke2.out
  go_wp2_with fail
  refine (C11.out _).mono ?_
  rintro e' w3 ⟨rfl, hb⟩
  have Ke3 : Hid _ := Ke2.out.up hb
  have Kc3 : Hid _ := Kc2.out.up hb
  have B3 : Hid _ := below_trans B2.out hb
  clear hb Ke2 Kc2 B2 e0 e1 e2 ef C11
  obtain ⟨e0, e1, e2, ef⟩ := Ke3.out
  go_wp2_with fail
  refine (C12.out _).mono ?_
  rintro e' w4 ⟨rfl, hb⟩
  have Ke4 : Hid _ := Ke3.out.up hb
  have Kc4 : Hid _ := Kc3.out.up hb
  have B4 : Hid _ := below_trans B3.out hb
  clear hb Ke3 Kc3 B3 e0 e1 e2 ef C12
  obtain ⟨e0, e1, e2, ef⟩ := Ke4.out
  go_wp2_with fail
  refine (C13.out _).mono ?_
  rintro e' w5 ⟨rfl, hb⟩
  have Ke5 : Hid _ := Ke4.out.up hb
  have Kc5 : Hid _ := Kc4.out.up hb
  have B5 : Hid _ := below_trans B4.out hb
  clear hb Ke4 Kc4 B4 e0 e1 e2 ef C13
  go_upto_region 6 with fail
  have HP : Hid (∀ W, Below w5.heap.size w5 W → W.cell? ⟨w1.heap.size, 0, none⟩ = some (.int .i64 c0) ∧ W.cell? ⟨w1.heap.size, 1, none⟩ = some (.int .i64 c1) ∧ W.cell? ⟨w1.heap.size, 2, none⟩ = some (.string cI) ∧ W.cell? ⟨w.heap.size, 0, none⟩ = some (.int .i64 p) ∧ W.cell? ⟨w.heap.size, 1, none⟩ = some (.int .i64 q) ∧ W.cell? ⟨w.heap.size, 2, none⟩ = some (.string ins)) := fun W hW => ⟨below_cell hW Kc5.out.c0, below_cell hW Kc5.out.c1, below_cell hW Kc5.out.c2, below_cell hW Ke5.out.c0, below_cell hW Ke5.out.c1, below_cell hW Ke5.out.c2⟩
  refine wp_region_noPanic ?_
  refine wp_region_held_drew (S := fun W => W.cell? ⟨w1.heap.size, 0, none⟩ = some (.int .i64 c0) ∧ W.cell? ⟨w1.heap.size, 1, none⟩ = some (.int .i64 c1) ∧ W.cell? ⟨w1.heap.size, 2, none⟩ = some (.string cI) ∧ W.cell? ⟨w.heap.size, 0, none⟩ = some (.int .i64 p) ∧ W.cell? ⟨w.heap.size, 1, none⟩ = some (.int .i64 q) ∧ W.cell? ⟨w.heap.size, 2, none⟩ = some (.string ins)) (by kernel_rfl) (HP.out _ (Below.drew (Below.refl _ _))) (fun hHeld => ?_)
  refine wpAnyH_take (i := 0) (oi := { dst := _, op := _, type := _, pos := _, after := _, guard := _ }) (v := ?_) rfl (by kernel_rfl) (by kernel_rfl) (by kernel_rfl) (fun _ _ _ h => h) (Or.inl ⟨by rfl, ?_⟩) (by assumption) ?_
  rotate_left
  · intro W hSw
    (try dsimp only at hSw)
    go_simp
    (try with_reducible rfl)
  try simp only [Act.put, List.setIfInBounds_toArray, List.set_cons_zero, List.set_cons_succ]
  refine wpAnyH_take (i := 1) (oi := { dst := _, op := _, type := _, pos := _, after := _, guard := _ }) (v := ?_) rfl (by kernel_rfl) (by kernel_rfl) (by kernel_rfl) (fun _ _ _ h => h) (Or.inl ⟨by rfl, ?_⟩) (by assumption) ?_
  rotate_left
  · intro W hSw
    (try dsimp only at hSw)
    go_simp
    (try with_reducible rfl)
  try simp only [Act.put, List.setIfInBounds_toArray, List.set_cons_zero, List.set_cons_succ]
  refine wpAnyH_take (i := 2) (oi := { dst := _, op := _, type := _, pos := _, after := _, guard := _ }) (v := ?_) rfl (by kernel_rfl) (by kernel_rfl) (by kernel_rfl) (fun _ _ _ h => h) (Or.inl ⟨by rfl, ?_⟩) (by assumption) ?_
  rotate_left
  · intro W hSw
    (try dsimp only at hSw)
    go_simp
    (try with_reducible rfl)
  try simp only [Act.put, List.setIfInBounds_toArray, List.set_cons_zero, List.set_cons_succ]
  refine wpAnyH_ready (rs := [3]) (by kernel_rfl) (by simp) ?_
  refine AllReadyH.cons (o := { dst := _, op := _, type := _, pos := _, after := _, guard := _ }) rfl (fun K hK => ?_) AllReadyH.nil
  go_simp
  refine (C14.out _).mono ?_
  rintro e' w9 ⟨rfl, hb⟩
  have B9 : Hid (Below w5.heap.size w5 w9) := below_trans (Below.drew (Below.refl _ _)) hb
  clear hb
  go_wp2_with fail
  refine hK.out _ _ ?_ (fun hHeld => ?_)
  · (try dsimp only)
    exact HP.out _ B9.out
  clear hK K
  try simp only [Act.put, List.setIfInBounds_toArray, List.set_cons_zero, List.set_cons_succ]
  refine wpAnyH_take (i := 4) (oi := { dst := _, op := _, type := _, pos := _, after := _, guard := _ }) (v := ?_) rfl (by kernel_rfl) (by kernel_rfl) (by kernel_rfl) (fun _ _ _ h => h) (Or.inl ⟨by rfl, ?_⟩) (by assumption) ?_
  rotate_left
  · intro W hSw
    (try dsimp only at hSw)
    go_simp
    (try with_reducible rfl)
  try simp only [Act.put, List.setIfInBounds_toArray, List.set_cons_zero, List.set_cons_succ]
  refine wpAnyH_take (i := 5) (oi := { dst := _, op := _, type := _, pos := _, after := _, guard := _ }) (v := ?_) rfl (by kernel_rfl) (by kernel_rfl) (by kernel_rfl) (fun _ _ _ h => h) (Or.inl ⟨by rfl, ?_⟩) (by assumption) ?_
  rotate_left
  · intro W hSw
    (try dsimp only at hSw)
    go_simp
    (try with_reducible rfl)
  try simp only [Act.put, List.setIfInBounds_toArray, List.set_cons_zero, List.set_cons_succ]
  refine wpAnyH_take (i := 6) (oi := { dst := _, op := _, type := _, pos := _, after := _, guard := _ }) (v := ?_) rfl (by kernel_rfl) (by kernel_rfl) (by kernel_rfl) (fun _ _ _ h => h) (Or.inl ⟨by rfl, ?_⟩) (by assumption) ?_
  rotate_left
  · intro W hSw
    (try dsimp only at hSw)
    go_simp
    (try with_reducible rfl)
  try simp only [Act.put, List.setIfInBounds_toArray, List.set_cons_zero, List.set_cons_succ]
  refine wpAnyH_take (i := 7) (oi := { dst := _, op := _, type := _, pos := _, after := _, guard := _ }) (v := ?_) rfl (by kernel_rfl) (by kernel_rfl) (by kernel_rfl) (fun _ _ _ h => h) (Or.inl ⟨by rfl, ?_⟩) (by assumption) ?_
  rotate_left
  · intro W hSw
    (try dsimp only at hSw)
    go_simp
    (try with_reducible rfl)
  try simp only [Act.put, List.setIfInBounds_toArray, List.set_cons_zero, List.set_cons_succ]
  refine wpAnyH_take (i := 8) (oi := { dst := _, op := _, type := _, pos := _, after := _, guard := _ }) (v := ?_) rfl (by kernel_rfl) (by kernel_rfl) (by kernel_rfl) (fun _ _ _ h => h) (Or.inl ⟨by rfl, ?_⟩) (by assumption) ?_
  rotate_left
  · intro W hSw
    (try dsimp only at hSw)
    go_simp
    (try with_reducible rfl)
  try simp only [Act.put, List.setIfInBounds_toArray, List.set_cons_zero, List.set_cons_succ]
  refine wpAnyH_take (i := 9) (oi := { dst := _, op := _, type := _, pos := _, after := _, guard := _ }) (v := ?_) rfl (by kernel_rfl) (by kernel_rfl) (by kernel_rfl) (fun _ _ _ h => h) (Or.inl ⟨by rfl, ?_⟩) (by assumption) ?_
  rotate_left
  · intro W hSw
    (try dsimp only at hSw)
    go_simp
    (try with_reducible rfl)
  try simp only [Act.put, List.setIfInBounds_toArray, List.set_cons_zero, List.set_cons_succ]
  refine wpAnyH_take (i := 10) (oi := { dst := _, op := _, type := _, pos := _, after := _, guard := _ }) (v := ?_) rfl (by kernel_rfl) (by kernel_rfl) (by kernel_rfl) (fun _ _ _ h => h) (Or.inl ⟨by rfl, ?_⟩) (by assumption) ?_
  rotate_left
  · intro W hSw
    (try dsimp only at hSw)
    go_simp
    (try with_reducible rfl)
  try simp only [Act.put, List.setIfInBounds_toArray, List.set_cons_zero, List.set_cons_succ]
  refine wpAnyH_take (i := 11) (oi := { dst := _, op := _, type := _, pos := _, after := _, guard := _ }) (v := ?_) rfl (by kernel_rfl) (by kernel_rfl) (by kernel_rfl) (fun _ _ _ h => h) (Or.inl ⟨by rfl, ?_⟩) (by assumption) ?_
  rotate_left
  · intro W hSw
    (try dsimp only at hSw)
    go_simp
    (try with_reducible rfl)
  try simp only [Act.put, List.setIfInBounds_toArray, List.set_cons_zero, List.set_cons_succ]
  refine wpAnyH_take (i := 12) (oi := { dst := _, op := _, type := _, pos := _, after := _, guard := _ }) (v := ?_) rfl (by kernel_rfl) (by kernel_rfl) (by kernel_rfl) (fun _ _ _ h => h) (Or.inl ⟨by rfl, ?_⟩) (by assumption) ?_
  rotate_left
  · intro W hSw
    (try dsimp only at hSw)
    go_simp
    (try with_reducible rfl)
  try simp only [Act.put, List.setIfInBounds_toArray, List.set_cons_zero, List.set_cons_succ]
  refine wpAnyH_take (i := 13) (oi := { dst := _, op := _, type := _, pos := _, after := _, guard := _ }) (v := ?_) rfl (by kernel_rfl) (by kernel_rfl) (by kernel_rfl) (fun _ _ _ h => h) (Or.inl ⟨by rfl, ?_⟩) (by assumption) ?_
  rotate_left
  · intro W hSw
    (try dsimp only at hSw)
    go_simp
    (try with_reducible rfl)
  try simp only [Act.put, List.setIfInBounds_toArray, List.set_cons_zero, List.set_cons_succ]
  refine wpAnyH_take (i := 14) (oi := { dst := _, op := _, type := _, pos := _, after := _, guard := _ }) (v := ?_) rfl (by kernel_rfl) (by kernel_rfl) (by kernel_rfl) (fun _ _ _ h => h) (Or.inl ⟨by rfl, ?_⟩) (by assumption) ?_
  rotate_left
  · intro W hSw
    (try dsimp only at hSw)
    go_simp
    (try with_reducible rfl)
  try simp only [Act.put, List.setIfInBounds_toArray, List.set_cons_zero, List.set_cons_succ]
  refine wpAnyH_take (i := 15) (oi := { dst := _, op := _, type := _, pos := _, after := _, guard := _ }) (v := ?_) rfl (by kernel_rfl) (by kernel_rfl) (by kernel_rfl) (fun _ _ _ h => h) (Or.inl ⟨by rfl, ?_⟩) (by assumption) ?_
  rotate_left
  · intro W hSw
    (try dsimp only at hSw)
    go_simp
    (try with_reducible rfl)
  try simp only [Act.put, List.setIfInBounds_toArray, List.set_cons_zero, List.set_cons_succ]
  refine wpAnyH_take (i := 16) (oi := { dst := _, op := _, type := _, pos := _, after := _, guard := _ }) (v := ?_) rfl (by kernel_rfl) (by kernel_rfl) (by kernel_rfl) (fun _ _ _ h => h) (Or.inl ⟨by rfl, ?_⟩) (by assumption) ?_
  rotate_left
  · intro W hSw
    (try dsimp only at hSw)
    go_simp
    (try with_reducible rfl)
  try simp only [Act.put, List.setIfInBounds_toArray, List.set_cons_zero, List.set_cons_succ]
  refine wpAnyH_take (i := 17) (oi := { dst := _, op := _, type := _, pos := _, after := _, guard := _ }) (v := ?_) rfl (by kernel_rfl) (by kernel_rfl) (by kernel_rfl) (fun _ _ _ h => h) (Or.inl ⟨by rfl, ?_⟩) (by assumption) ?_
  rotate_left
  · intro W hSw
    (try dsimp only at hSw)
    go_simp
    (try with_reducible rfl)
  try simp only [Act.put, List.setIfInBounds_toArray, List.set_cons_zero, List.set_cons_succ]
  refine wpAnyH_take (i := 18) (oi := { dst := _, op := _, type := _, pos := _, after := _, guard := _ }) (v := ?_) rfl (by kernel_rfl) (by kernel_rfl) (by kernel_rfl) (fun _ _ _ h => h) (Or.inl ⟨by rfl, ?_⟩) (by assumption) ?_
  rotate_left
  · intro W hSw
    (try dsimp only at hSw)
    go_simp
    (try with_reducible rfl)
  try simp only [Act.put, List.setIfInBounds_toArray, List.set_cons_zero, List.set_cons_succ]
  refine wpAnyH_take (i := 19) (oi := { dst := _, op := _, type := _, pos := _, after := _, guard := _ }) (v := ?_) rfl (by kernel_rfl) (by kernel_rfl) (by kernel_rfl) (fun _ _ _ h => h) (Or.inl ⟨by rfl, ?_⟩) (by assumption) ?_
  rotate_left
  · intro W hSw
    (try dsimp only at hSw)
    go_simp
    (try with_reducible rfl)
  try simp only [Act.put, List.setIfInBounds_toArray, List.set_cons_zero, List.set_cons_succ]
  refine wpAnyH_take (i := 20) (oi := { dst := _, op := _, type := _, pos := _, after := _, guard := _ }) (v := ?_) rfl (by kernel_rfl) (by kernel_rfl) (by kernel_rfl) (fun _ _ _ h => h) (Or.inl ⟨by rfl, ?_⟩) (by assumption) ?_
  rotate_left
  · intro W hSw
    (try dsimp only at hSw)
    go_simp
    (try with_reducible rfl)
  try simp only [Act.put, List.setIfInBounds_toArray, List.set_cons_zero, List.set_cons_succ]
  refine wpAnyH_take (i := 21) (oi := { dst := _, op := _, type := _, pos := _, after := _, guard := _ }) (v := ?_) rfl (by kernel_rfl) (by kernel_rfl) (by kernel_rfl) (fun _ _ _ h => h) (Or.inl ⟨by rfl, ?_⟩) (by assumption) ?_
  rotate_left
  · intro W hSw
    (try dsimp only at hSw)
    go_simp
    (try with_reducible rfl)
  try simp only [Act.put, List.setIfInBounds_toArray, List.set_cons_zero, List.set_cons_succ]
  refine wpAnyH_take (i := 22) (oi := { dst := _, op := _, type := _, pos := _, after := _, guard := _ }) (v := ?_) rfl (by kernel_rfl) (by kernel_rfl) (by kernel_rfl) (fun _ _ _ h => h) (Or.inl ⟨by rfl, ?_⟩) (by assumption) ?_
  rotate_left
  · intro W hSw
    (try dsimp only at hSw)
    go_simp
    (try with_reducible rfl)
  try simp only [Act.put, List.setIfInBounds_toArray, List.set_cons_zero, List.set_cons_succ]
  refine wpAnyH_take (i := 23) (oi := { dst := _, op := _, type := _, pos := _, after := _, guard := _ }) (v := ?_) rfl (by kernel_rfl) (by kernel_rfl) (by kernel_rfl) (fun _ _ _ h => h) (Or.inl ⟨by rfl, ?_⟩) (by assumption) ?_
  rotate_left
  · intro W hSw
    (try dsimp only at hSw)
    go_simp
    (try with_reducible rfl)
  try simp only [Act.put, List.setIfInBounds_toArray, List.set_cons_zero, List.set_cons_succ]
  refine wpAnyH_take (i := 24) (oi := { dst := _, op := _, type := _, pos := _, after := _, guard := _ }) (v := ?_) rfl (by kernel_rfl) (by kernel_rfl) (by kernel_rfl) (fun _ _ _ h => h) (Or.inl ⟨by rfl, ?_⟩) (by assumption) ?_
  rotate_left
  · intro W hSw
    (try dsimp only at hSw)
    go_simp
    (try with_reducible rfl)
  try simp only [Act.put, List.setIfInBounds_toArray, List.set_cons_zero, List.set_cons_succ]
  refine wpAnyH_take (i := 25) (oi := { dst := _, op := _, type := _, pos := _, after := _, guard := _ }) (v := ?_) rfl (by kernel_rfl) (by kernel_rfl) (by kernel_rfl) (fun _ _ _ h => h) (Or.inl ⟨by rfl, ?_⟩) (by assumption) ?_
  rotate_left
  · intro W hSw
    (try dsimp only at hSw)
    go_simp
    (try with_reducible rfl)
  try simp only [Act.put, List.setIfInBounds_toArray, List.set_cons_zero, List.set_cons_succ]
  refine wpAnyH_done (by kernel_rfl) ?_ _
  refine NoPanic.normal ?_
  clear hHeld HP C14
  go_wp2_with fail
  go_ret
  exact ⟨by simp, below_trans B5.out B9.out⟩

theorem editMaps_any (n p q t : Int) (ins : ByteArray) (w : World) (hi : ins.size ≤ 1048576) :
    Calls Try.prog 3 #[.int .i64 n, ed p q ins, .int .i64 t] w fun e w' => e = .returned (.bool true) ∧ Below w.heap.size w w' := by
  by_cases hn : 0 ≤ n ∧ n ≤ 1048576
  · obtain ⟨m, rfl⟩ : ∃ m : Nat, n = (m : Int) := ⟨n.toNat, by omega⟩
    have hm : m ≤ 1048576 := by omega
    obtain ⟨x, bx, k1, k2⟩ : ∃ (x : Int) (bx : Bool), (∀ W : World, Calls Try.prog 10 #[.int .i64 (m : Int), ed p q ins, .int .i64 t] W fun e W' => e = .returned (.tuple #[.int .i64 x, .bool bx]) ∧ Below W.heap.size W W') ∧ (∀ W : World, Calls Try.prog 12 #[.int .i64 (m : Int), ed p q ins, .int .i64 t] W fun e W' => e = .returned (.tuple #[.int .i64 x, .bool bx]) ∧ Below W.heap.size W W') := by
      by_cases ht : 0 ≤ t ∧ t < m
      · exact ⟨_, _, fun W => map_any m p q ins t W hm (by omega) ht.1 ht.2, fun W => rmap_any m p q ins t _ _ W hm hi rfl rfl ht.1 ht.2⟩
      · exact ⟨_, _, fun W => map_bad m p q ins t W (by omega), fun W => rmap_bad m p q ins t W (by omega)⟩
    obtain ⟨y, bz, k3, k4⟩ : ∃ (x : Int) (bx : Bool), (∀ W : World, Calls Try.prog 11 #[.int .i64 (m : Int), ed p q ins, .int .i64 t] W fun e W' => e = .returned (.tuple #[.int .i64 x, .bool bx]) ∧ Below W.heap.size W W') ∧ (∀ W : World, Calls Try.prog 13 #[.int .i64 (m : Int), ed p q ins, .int .i64 t] W fun e W' => e = .returned (.tuple #[.int .i64 x, .bool bx]) ∧ Below W.heap.size W W') := by
      by_cases ht : 0 ≤ t ∧ t < ((m - cd m p q + ins.size : Nat) : Int)
      · obtain ⟨u, rfl⟩ : ∃ u : Nat, t = (u : Int) := ⟨t.toNat, by omega⟩
        exact ⟨_, _, fun W => back_any m p q ins u W hm (by omega) ht.1 ht.2, fun W => rback_any m p q ins u _ _ W hm hi rfl rfl (by omega)⟩
      · exact ⟨_, _, fun W => back_out m p q ins t W hm (by omega) (by omega), fun W => rback_out m p q ins t _ _ W hm hi rfl rfl (by omega)⟩
    exact maps_run m p q t _ _ x y ins _ bx bz w (fun W => cclamp_any m p q ins W hm (by omega)) (fun W => rclamp_any m p q ins W hm) k1 k2 k3 k4
  · exact maps_run n p q t _ _ _ _ ins _ _ _ w (fun W => cclamp_bad n p q ins W (by omega)) (fun W => rclamp_bad n p q ins W (by omega)) (fun W => map_bad n p q ins t W (by omega)) (fun W => rmap_bad n p q ins t W (by omega)) (fun W => back_bad n p q ins t W (by omega)) (fun W => rback_bad n p q ins t W (by omega))

end Go.Proofs.Ytjpmmihcnfedgaa
