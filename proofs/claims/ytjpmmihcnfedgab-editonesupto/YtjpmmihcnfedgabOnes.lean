import Derived.Test.YtjpmmihcnfedgabRbet
import Derived.Test.YtjpmmihcnfedgabRcov
namespace Go.Proofs.Ytjpmmihcnfedgab
open Go.RowKit

set_option maxRecDepth 100000 in
set_option maxHeartbeats 2000000 in
theorem ones_run (a b i1 i2 xI yI : ByteArray) (p1 q1 p2 q2 x0 x1 y0 y1 : Int) (w : World)
    (C5 : Hid (∀ W : World, Calls Try.prog 5 #[.string a, .string b] W fun e W' => e = .returned (ed x0 x1 xI) ∧ Below W.heap.size W W'))
    (C7 : Hid (∀ W : World, Calls Try.prog 7 #[.string a, .string b] W fun e W' => e = .returned (ed x0 x1 xI) ∧ Below W.heap.size W W'))
    (C6 : Hid (∀ W : World, Calls Try.prog 6 #[.string a, ed p1 q1 i1, ed p2 q2 i2] W fun e W' => e = .returned (ed y0 y1 yI) ∧ Below W.heap.size W W'))
    (C8 : Hid (∀ W : World, Calls Try.prog 8 #[.string a, ed p1 q1 i1, ed p2 q2 i2] W fun e W' => e = .returned (ed y0 y1 yI) ∧ Below W.heap.size W W'))
    :
    Calls Try.prog 3 #[.string a, .string b, ed p1 q1 i1, ed p2 q2 i2] w fun e w' => e = .returned (.bool true) ∧ Below w.heap.size w w' := by
  go_enter Try.func3, Try.ntmps3
  go_wp2_with fail
  refine (C5.out _).mono ?_
  rintro e' w1 ⟨rfl, hb⟩
  obtain ⟨h1, h2, h3⟩ := box2 hb
  have Ke1 : Hid _ := h1
  have Kf1 : Hid _ := h2
  have B1 : Hid _ := h3
  clear hb C5 h1 h2 h3
  obtain ⟨e0, e1, e2, ef⟩ := (Ke1.out.up (bel_up _ (.cells #[.int .i64 x0, .int .i64 x1, .string xI] 23)))
  obtain ⟨f0, f1, f2, ff⟩ := (Kf1.out.up (bel_up _ (.cells #[.int .i64 x0, .int .i64 x1, .string xI] 23)))
  go_wp2_with fail
  refine (C6.out _).mono ?_
  rintro e' w2 ⟨rfl, hb⟩
  have Ke2 : Hid _ := (Ke1.out.up (bel_up _ (.cells #[.int .i64 x0, .int .i64 x1, .string xI] 23))).up hb
  have Kf2 : Hid _ := (Kf1.out.up (bel_up _ (.cells #[.int .i64 x0, .int .i64 x1, .string xI] 23))).up hb
  have Kx2 : Hid _ := box1 hb
  have B2 : Hid _ := below_trans (below_trans B1.out (bel_up _ _)) hb
  clear hb Ke1 Kf1 B1 e0 e1 e2 ef f0 f1 f2 ff C6
  go_upto_region 3 with fail
  have hX : Hid _ := Kx2.out.up (bel_up _ (.cells #[.int .i64 y0, .int .i64 y1, .string yI] 23))
  have hE : Hid _ := Ke2.out.up (bel_up _ (.cells #[.int .i64 y0, .int .i64 y1, .string yI] 23))
  have hF : Hid _ := Kf2.out.up (bel_up _ (.cells #[.int .i64 y0, .int .i64 y1, .string yI] 23))
  have hY : Hid _ := box1 (Below.refl (w2.alloc (.cells #[.int .i64 y0, .int .i64 y1, .string yI] 23)).heap.size (w2.alloc (.cells #[.int .i64 y0, .int .i64 y1, .string yI] 23)))
  have BW : Hid _ := below_trans B2.out (bel_up _ (.cells #[.int .i64 y0, .int .i64 y1, .string yI] 23))
  obtain ⟨W0, hW0⟩ : ∃ W0, W0 = w2.alloc (.cells #[.int .i64 y0, .int .i64 y1, .string yI] 23) := ⟨_, rfl⟩
  rw [← hW0] at hX hE hF hY BW
  rw [← hW0]
  clear hW0 Kx2 Ke2 Kf2 B2
  have HP : Hid (∀ W, Below W0.heap.size W0 W → W.cell? ⟨w1.heap.size, 0, none⟩ = some (.int .i64 x0) ∧ W.cell? ⟨w1.heap.size, 1, none⟩ = some (.int .i64 x1) ∧ W.cell? ⟨w1.heap.size, 2, none⟩ = some (.string xI) ∧ W.cell? ⟨w2.heap.size, 0, none⟩ = some (.int .i64 y0) ∧ W.cell? ⟨w2.heap.size, 1, none⟩ = some (.int .i64 y1) ∧ W.cell? ⟨w2.heap.size, 2, none⟩ = some (.string yI) ∧ W.cell? ⟨w.heap.size, 0, none⟩ = some (.int .i64 p1) ∧ W.cell? ⟨w.heap.size, 1, none⟩ = some (.int .i64 q1) ∧ W.cell? ⟨w.heap.size, 2, none⟩ = some (.string i1) ∧ W.cell? ⟨w.heap.size + 1, 0, none⟩ = some (.int .i64 p2) ∧ W.cell? ⟨w.heap.size + 1, 1, none⟩ = some (.int .i64 q2) ∧ W.cell? ⟨w.heap.size + 1, 2, none⟩ = some (.string i2)) := fun W hW => ⟨below_cell hW hX.out.c0, below_cell hW hX.out.c1, below_cell hW hX.out.c2, below_cell hW hY.out.c0, below_cell hW hY.out.c1, below_cell hW hY.out.c2, below_cell hW hE.out.c0, below_cell hW hE.out.c1, below_cell hW hE.out.c2, below_cell hW hF.out.c0, below_cell hW hF.out.c1, below_cell hW hF.out.c2⟩
  refine wp_region_noPanic ?_
  refine wp_region_held_drew (S := fun W => W.cell? ⟨w1.heap.size, 0, none⟩ = some (.int .i64 x0) ∧ W.cell? ⟨w1.heap.size, 1, none⟩ = some (.int .i64 x1) ∧ W.cell? ⟨w1.heap.size, 2, none⟩ = some (.string xI) ∧ W.cell? ⟨w2.heap.size, 0, none⟩ = some (.int .i64 y0) ∧ W.cell? ⟨w2.heap.size, 1, none⟩ = some (.int .i64 y1) ∧ W.cell? ⟨w2.heap.size, 2, none⟩ = some (.string yI) ∧ W.cell? ⟨w.heap.size, 0, none⟩ = some (.int .i64 p1) ∧ W.cell? ⟨w.heap.size, 1, none⟩ = some (.int .i64 q1) ∧ W.cell? ⟨w.heap.size, 2, none⟩ = some (.string i1) ∧ W.cell? ⟨w.heap.size + 1, 0, none⟩ = some (.int .i64 p2) ∧ W.cell? ⟨w.heap.size + 1, 1, none⟩ = some (.int .i64 q2) ∧ W.cell? ⟨w.heap.size + 1, 2, none⟩ = some (.string i2)) (by kernel_rfl) (HP.out _ (Below.drew (Below.refl _ _))) (fun hHeld => ?_)
  refine wpAnyH_take (i := 0) (oi := { dst := _, op := _, type := _, pos := _, after := _, guard := _ }) (v := ?_) rfl (by kernel_rfl) (by kernel_rfl) (by kernel_rfl) (fun _ _ _ h => h) (Or.inl ⟨by rfl, ?_⟩) (by assumption) ?_
  rotate_left
  · intro W hSw
    (try dsimp only at hSw)
    go_simp
    (try with_reducible rfl)
  try simp only [Act.put, List.setIfInBounds_toArray, List.set_cons_zero, List.set_cons_succ]
  refine wpAnyH_take (i := 1) (oi := { dst := _, op := _, type := _, pos := _, after := _, guard := _ }) (v := ?_) rfl (by kernel_rfl) (by kernel_rfl) (by kernel_rfl) (fun _ _ _ h => h) (Or.inl ⟨by rfl, ?_⟩) (by assumption) ?_
  rotate_left
  · intro W hSw
    (try dsimp only at hSw)
    go_simp
    (try with_reducible rfl)
  try simp only [Act.put, List.setIfInBounds_toArray, List.set_cons_zero, List.set_cons_succ]
  refine wpAnyH_take (i := 2) (oi := { dst := _, op := _, type := _, pos := _, after := _, guard := _ }) (v := ?_) rfl (by kernel_rfl) (by kernel_rfl) (by kernel_rfl) (fun _ _ _ h => h) (Or.inl ⟨by rfl, ?_⟩) (by assumption) ?_
  rotate_left
  · intro W hSw
    (try dsimp only at hSw)
    go_simp
    (try with_reducible rfl)
  try simp only [Act.put, List.setIfInBounds_toArray, List.set_cons_zero, List.set_cons_succ]
  refine wpAnyH_ready (rs := [3]) (by kernel_rfl) (by simp) ?_
  refine AllReadyH.cons (o := { dst := _, op := _, type := _, pos := _, after := _, guard := _ }) rfl (fun K hK => ?_) AllReadyH.nil
  go_simp
  refine (C7.out _).mono ?_
  rintro e' w8 ⟨rfl, hb⟩
  have B8 : Hid (Below W0.heap.size W0 w8) := below_trans (Below.drew (Below.refl _ _)) hb
  clear hb
  go_wp2_with fail
  refine hK.out _ _ ?_ (fun hHeld => ?_)
  · (try dsimp only)
    exact HP.out _ B8.out
  clear hK K
  try simp only [Act.put, List.setIfInBounds_toArray, List.set_cons_zero, List.set_cons_succ]
  refine wpAnyH_take (i := 4) (oi := { dst := _, op := _, type := _, pos := _, after := _, guard := _ }) (v := ?_) rfl (by kernel_rfl) (by kernel_rfl) (by kernel_rfl) (fun _ _ _ h => h) (Or.inl ⟨by rfl, ?_⟩) (by assumption) ?_
  rotate_left
  · intro W hSw
    (try dsimp only at hSw)
    go_simp
    (try with_reducible rfl)
  try simp only [Act.put, List.setIfInBounds_toArray, List.set_cons_zero, List.set_cons_succ]
  refine wpAnyH_take (i := 5) (oi := { dst := _, op := _, type := _, pos := _, after := _, guard := _ }) (v := ?_) rfl (by kernel_rfl) (by kernel_rfl) (by kernel_rfl) (fun _ _ _ h => h) (Or.inl ⟨by rfl, ?_⟩) (by assumption) ?_
  rotate_left
  · intro W hSw
    (try dsimp only at hSw)
    go_simp
    (try with_reducible rfl)
  try simp only [Act.put, List.setIfInBounds_toArray, List.set_cons_zero, List.set_cons_succ]
  refine wpAnyH_take (i := 6) (oi := { dst := _, op := _, type := _, pos := _, after := _, guard := _ }) (v := ?_) rfl (by kernel_rfl) (by kernel_rfl) (by kernel_rfl) (fun _ _ _ h => h) (Or.inl ⟨by rfl, ?_⟩) (by assumption) ?_
  rotate_left
  · intro W hSw
    (try dsimp only at hSw)
    go_simp
    (try with_reducible rfl)
  try simp only [Act.put, List.setIfInBounds_toArray, List.set_cons_zero, List.set_cons_succ]
  refine wpAnyH_take (i := 7) (oi := { dst := _, op := _, type := _, pos := _, after := _, guard := _ }) (v := ?_) rfl (by kernel_rfl) (by kernel_rfl) (by kernel_rfl) (fun _ _ _ h => h) (Or.inl ⟨by rfl, ?_⟩) (by assumption) ?_
  rotate_left
  · intro W hSw
    (try dsimp only at hSw)
    go_simp
    (try with_reducible rfl)
  try simp only [Act.put, List.setIfInBounds_toArray, List.set_cons_zero, List.set_cons_succ]
  refine wpAnyH_take (i := 8) (oi := { dst := _, op := _, type := _, pos := _, after := _, guard := _ }) (v := ?_) rfl (by kernel_rfl) (by kernel_rfl) (by kernel_rfl) (fun _ _ _ h => h) (Or.inl ⟨by rfl, ?_⟩) (by assumption) ?_
  rotate_left
  · intro W hSw
    (try dsimp only at hSw)
    go_simp
    (try with_reducible rfl)
  try simp only [Act.put, List.setIfInBounds_toArray, List.set_cons_zero, List.set_cons_succ]
  refine wpAnyH_take (i := 9) (oi := { dst := _, op := _, type := _, pos := _, after := _, guard := _ }) (v := ?_) rfl (by kernel_rfl) (by kernel_rfl) (by kernel_rfl) (fun _ _ _ h => h) (Or.inl ⟨by rfl, ?_⟩) (by assumption) ?_
  rotate_left
  · intro W hSw
    (try dsimp only at hSw)
    go_simp
    (try with_reducible rfl)
  try simp only [Act.put, List.setIfInBounds_toArray, List.set_cons_zero, List.set_cons_succ]
  refine wpAnyH_ready (rs := [10]) (by kernel_rfl) (by simp) ?_
  refine AllReadyH.cons (o := { dst := _, op := _, type := _, pos := _, after := _, guard := _ }) rfl (fun K hK => ?_) AllReadyH.nil
  go_simp
  refine (C8.out _).mono ?_
  rintro e' w9 ⟨rfl, hb⟩
  have B9 : Hid (Below W0.heap.size W0 w9) := below_trans B8.out hb
  clear hb
  go_wp2_with fail
  refine hK.out _ _ ?_ (fun hHeld => ?_)
  · (try dsimp only)
    exact HP.out _ B9.out
  clear hK K
  try simp only [Act.put, List.setIfInBounds_toArray, List.set_cons_zero, List.set_cons_succ]
  refine wpAnyH_take (i := 11) (oi := { dst := _, op := _, type := _, pos := _, after := _, guard := _ }) (v := ?_) rfl (by kernel_rfl) (by kernel_rfl) (by kernel_rfl) (fun _ _ _ h => h) (Or.inl ⟨by rfl, ?_⟩) (by assumption) ?_
  rotate_left
  · intro W hSw
    (try dsimp only at hSw)
    go_simp
    (try with_reducible rfl)
  try simp only [Act.put, List.setIfInBounds_toArray, List.set_cons_zero, List.set_cons_succ]
  refine wpAnyH_take (i := 12) (oi := { dst := _, op := _, type := _, pos := _, after := _, guard := _ }) (v := ?_) rfl (by kernel_rfl) (by kernel_rfl) (by kernel_rfl) (fun _ _ _ h => h) (Or.inl ⟨by rfl, ?_⟩) (by assumption) ?_
  rotate_left
  · intro W hSw
    (try dsimp only at hSw)
    go_simp
    (try with_reducible rfl)
  try simp only [Act.put, List.setIfInBounds_toArray, List.set_cons_zero, List.set_cons_succ]
  refine wpAnyH_take (i := 13) (oi := { dst := _, op := _, type := _, pos := _, after := _, guard := _ }) (v := ?_) rfl (by kernel_rfl) (by kernel_rfl) (by kernel_rfl) (fun _ _ _ h => h) (Or.inl ⟨by rfl, ?_⟩) (by assumption) ?_
  rotate_left
  · intro W hSw
    (try dsimp only at hSw)
    go_simp
    (try with_reducible rfl)
  try simp only [Act.put, List.setIfInBounds_toArray, List.set_cons_zero, List.set_cons_succ]
  refine wpAnyH_done (by kernel_rfl) ?_ _
  refine NoPanic.normal ?_
  clear hHeld HP C7 C8
  go_wp2_with fail
  go_ret
  exact ⟨by simp, below_trans BW.out B9.out⟩

abbrev Ret (f : Nat) (args : Array Value) (v : Value) : Prop := ∀ W : World, Calls Try.prog f args W fun e W' => e = .returned v ∧ Below W.heap.size W W'

theorem editOnes_any (a b : ByteArray) (p1 q1 p2 q2 : Int) (i1 i2 : ByteArray) (w : World) (ha : a.size ≤ 1048576) (hb : b.size ≤ 1048576) (hi1 : i1.size ≤ 1048576) (hi2 : i2.size ≤ 1048576) :
    Calls Try.prog 3 #[.string a, .string b, ed p1 q1 i1, ed p2 q2 i2] w fun e w' => e = .returned (.bool true) ∧ Below w.heap.size w w' := by
  obtain ⟨i, k, hbt⟩ := bt_ex a b
  obtain ⟨y0, y1, yI, c1, c2⟩ : ∃ (y0 y1 : Int) (yI : ByteArray), Ret 6 #[.string a, ed p1 q1 i1, ed p2 q2 i2] (ed y0 y1 yI) ∧ Ret 8 #[.string a, ed p1 q1 i1, ed p2 q2 i2] (ed y0 y1 yI) := by
    by_cases hok : okE a p1 q1 i1
    · by_cases hm : okE (beh a p1 q1 i1) p2 q2 i2
      · exact ⟨_, _, _, fun W => (cover_any a p1 q1 p2 q2 i1 i2 _ _ _ _ _ _ _ W rfl rfl hok hm rfl rfl rfl rfl rfl).2.2.2, fun W => rcover_any a p1 q1 p2 q2 i1 i2 _ _ _ _ _ _ _ W hi1 hi2 rfl rfl hok hm rfl rfl rfl rfl rfl⟩
      · exact ⟨_, _, _, fun W => cover_bad2 a p1 q1 p2 q2 i1 i2 W (by omega) hok hm, fun W => rcover_bad2 a p1 q1 p2 q2 i1 i2 _ W hi1 hi2 rfl hok hm⟩
    · exact ⟨_, _, _, fun W => cover_bad1 a p1 q1 p2 q2 i1 i2 W (by omega) (by omega) hok, fun W => rcover_bad1 a p1 q1 p2 q2 i1 i2 W ha hi1 hok⟩
  exact ones_run a b i1 i2 _ _ p1 q1 p2 q2 _ _ _ _ w (fun W => between_any a b i k W hbt (by omega) (by omega)) (fun W => rbetween_any a b i k W hbt ha hb) c1 c2

end Go.Proofs.Ytjpmmihcnfedgab
